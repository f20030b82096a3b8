/- The walk of InstBack: for any row of numbers the law returns true; old memory stands. -/
import Derived.Test.YteibelmgebhleaaDoorPlayCars
import Derived.Test.YteibelmgebhleaaDoorBackPlain
import Derived.Test.YteibelmgebhleaaDoorPrintWalk
import Derived.Test.YteibelmgebhleaaDoorSmall
import Derived.Test.YteibelmgebhleaaDoorSameAll
namespace Go.Proofs.YteibelmgebhleaaDoor
open Go.RowKit
set_option linter.unusedSimpArgs false

/-- a problem in memory, its four rows said plainly -/
abbrev Said (W : World) (A1 A2 A3 A4 : Option Addr) (c1 c2 c3 c4 : Nat) (i : Prob) : Prop := Lies W (.agg #[.slice A1 i.cars.length c1, .slice A2 i.stops.length c2, .slice A3 i.pairs.length c3, .slice A4 i.travel.length c4]) i
theorem Lies.said {W : World} {v : Value} {i : Prob} (h : Lies W v i) : ∃ A1 A2 A3 A4 c1 c2 c3 c4, v = .agg #[.slice A1 i.cars.length c1, .slice A2 i.stops.length c2, .slice A3 i.pairs.length c3, .slice A4 i.travel.length c4] ∧ Said W A1 A2 A3 A4 c1 c2 c3 c4 i := by
  have h' := h
  obtain ⟨vc, vs, vp, vt, rfl, ⟨A1, c1, rfl, _⟩, ⟨A2, c2, rfl, _⟩, ⟨A3, c3, rfl, _⟩, ⟨A4, c4, rfl, _⟩⟩ := h'
  exact ⟨A1, A2, A3, A4, c1, c2, c3, c4, rfl, h⟩
def PlaySaid (w : World) (e : Ending) (w' : World) : Prop := ∃ i A1 A2 A3 A4 c1 c2 c3 c4, e = .returned (.agg #[.slice A1 i.cars.length c1, .slice A2 i.stops.length c2, .slice A3 i.pairs.length c3, .slice A4 i.travel.length c4]) ∧ Said w' A1 A2 A3 A4 c1 c2 c3 c4 i ∧ probOk i = true ∧ 2 ≤ i.stops.length ∧ i.stops.length ≤ 8 ∧ i.pairs.length ≤ 2 ∧ Below w.heap.size w w'
theorem play_said (v : Value) (l : List Int) (w : World) (h : Recs w 1 num_ v l) (hl : l.length ≤ 9223372036854775807) : Calls Tryd.prog 21 #[v] w (PlaySaid w) := by
  refine (play_cars v l w h hl).mono ?_
  rintro e w' ⟨i, vc, vs, vp, vt, us, I, rfl, hh, hok, h2, h8, hp, hb⟩
  obtain ⟨A1, A2, A3, A4, c1, c2, c3, c4, hv, hs⟩ := hh.lies.said
  rw [hv]
  exact ⟨i, A1, A2, A3, A4, c1, c2, c3, c4, rfl, hs, hok, h2, h8, hp, hb⟩
/-- a problem in a variable -/
structure Box (W : World) (I : Nat) (A1 A2 A3 A4 : Option Addr) (c1 c2 c3 c4 : Nat) (i : Prob) : Prop where
  lt : I < W.heap.size
  b0 : W.cell? ⟨I, 0, none⟩ = some (.slice A1 i.cars.length c1)
  b1 : W.cell? ⟨I, 1, none⟩ = some (.slice A2 i.stops.length c2)
  b2 : W.cell? ⟨I, 2, none⟩ = some (.slice A3 i.pairs.length c3)
  b3 : W.cell? ⟨I, 3, none⟩ = some (.slice A4 i.travel.length c4)
  lies : Said W A1 A2 A3 A4 c1 c2 c3 c4 i
theorem Box.below {W W' : World} {I : Nat} {A1 A2 A3 A4 : Option Addr} {c1 c2 c3 c4 : Nat} {i : Prob} (h : Box W I A1 A2 A3 A4 c1 c2 c3 c4 i) (hb : Below W.heap.size W W') : Box W' I A1 A2 A3 A4 c1 c2 c3 c4 i :=
  ⟨Nat.lt_of_lt_of_le h.lt hb.size, by rw [hb.cell h.lt]; exact h.b0, by rw [hb.cell h.lt]; exact h.b1, by rw [hb.cell h.lt]; exact h.b2, by rw [hb.cell h.lt]; exact h.b3, Lies.below h.lies hb⟩
theorem box_new {W : World} {A1 A2 A3 A4 : Option Addr} {c1 c2 c3 c4 : Nat} {i : Prob} (h : Said W A1 A2 A3 A4 c1 c2 c3 c4 i) (t : TypeId) : Box (W.alloc (.cells #[.slice A1 i.cars.length c1, .slice A2 i.stops.length c2, .slice A3 i.pairs.length c3, .slice A4 i.travel.length c4] t)) W.heap.size A1 A2 A3 A4 c1 c2 c3 c4 i :=
  ⟨by simp, by simp, by simp, by simp, by simp, Lies.below h ((Below.refl _ _).alloc (Nat.le_refl _) _)⟩
theorem short_of {i : Prob} (h : probOk i = true) (hp : i.pairs.length ≤ 1000000) : Short i := by
  have hf := fine_of h
  have h1 := hf.cars
  have h2 := hf.stops
  exact ⟨by omega, by omega, by omega⟩
theorem text_len {i : Prob} (h : probOk i = true) (hp : i.pairs.length ≤ 1000000) : (probText i).length ≤ 50000000 := by
  have hf := fine_of h
  have h1 := hf.lenC i.cars.length
  have h2 := hf.lenS i.stops.length
  have h3 := hf.lenP i.pairs.length hp
  have h4 := hf.lenR i.travel.length
  rw [List.take_length] at h1 h2 h3 h4
  simp only [probText, List.length_append]
  omega
def GotBack (i : Prob) (w : World) (e : Ending) (w' : World) : Prop := ∃ A1 A2 A3 A4 c1 c2 c3 c4, e = .returned (.tuple #[.agg #[.slice A1 i.cars.length c1, .slice A2 i.stops.length c2, .slice A3 i.pairs.length c3, .slice A4 i.travel.length c4], .int .i64 0]) ∧ Said w' A1 A2 A3 A4 c1 c2 c3 c4 i ∧ Below w.heap.size w w'
theorem parse_back {mx : Int} {w : World} {i : Prob} (h : probOk i = true) (hp : i.pairs.length ≤ 1000000) (hn : Names w) (hm : w.cell? ⟨1, 0, none⟩ = some (.int .i64 mx)) (h1 : 1 < w.heap.size) :
    Calls Tryd.prog 9 #[.string (ofL (probText i))] w (GotBack i w) := by
  have hlen := text_len h hp
  refine (parse_any (ofL (probText i)) mx w (by have : (ofL (probText i)).size = (probText i).length := rfl; omega) hn hm h1).mono ?_
  rw [ofL_toList]
  rintro e w' ⟨hb, ⟨hq, rfl⟩ | ⟨j, hq, ⟨ho, rfl⟩ | ⟨ho, v, rfl, hl⟩⟩⟩
  · rw [parse_text h] at hq; cases hq
  · rw [parse_text h] at hq; cases hq; rw [h] at ho; cases ho
  · rw [parse_text h] at hq
    cases hq
    obtain ⟨A1, A2, A3, A4, c1, c2, c3, c4, rfl, hs⟩ := hl.said
    exact ⟨A1, A2, A3, A4, c1, c2, c3, c4, rfl, hs, hb⟩
/-- what a stop's mate is -/
theorem mates_at {i : Prob} (h : probOk i = true) (k : Nat) : (mateL ((k : Int) + 1) i.pairs = 0 ∧ firstL ((k : Int) + 1) i.pairs = false ∧ upTo (flatP i.pairs) (k + 1) = upTo (flatP i.pairs) k) ∨
    ∃ y : Int, mateL ((k : Int) + 1) i.pairs = y ∧ y ≠ 0 ∧ mateL y i.pairs = (k : Int) + 1 ∧ y ≠ (k : Int) + 1 ∧ (∃ a b : Bool, firstL ((k : Int) + 1) i.pairs = a ∧ firstL y i.pairs = b ∧ (a == b) = false) ∧ upTo (flatP i.pairs) (k + 1) = upTo (flatP i.pairs) k + 1 := by
  simp only [probOk, Bool.and_eq_true] at h
  obtain ⟨hn, hin⟩ := flat_of h.1.2
  rw [upTo_step]
  by_cases hm : ((k : Int) + 1) ∈ flatP i.pairs
  · obtain ⟨y, hy, e1, e2, e3, e4⟩ := mate_in hn hm
    have := (hin y hy).2.1
    refine .inr ⟨y, e1, by omega, e2, e3, ⟨_, _, rfl, rfl, by simpa using e4⟩, by rw [count_one hn hm]⟩
  · obtain ⟨e1, e2⟩ := mate_out hm
    exact .inl ⟨e1, e2, by rw [List.count_eq_zero.2 hm]; rfl⟩
theorem mates_all {i : Prob} (h : probOk i = true) : upTo (flatP i.pairs) i.stops.length = 2 * i.pairs.length ∧ upTo (flatP i.pairs) 0 = 0 := by
  simp only [probOk, Bool.and_eq_true] at h
  obtain ⟨_, hin⟩ := flat_of h.1.2
  exact ⟨by rw [upTo_all (fun x hx => (hin x hx).2.2), flatP_len], upTo_none fun x hx => (hin x hx).2.1⟩

/-- a problem in a variable, in a world that stands on w0 -/
def BoxOn (w0 w : World) (I : Nat) (A1 A2 A3 A4 : Option Addr) (c1 c2 c3 c4 : Nat) (i : Prob) : Prop := Box w I A1 A2 A3 A4 c1 c2 c3 c4 i ∧ Below w0.heap.size w0 w
theorem BoxOn.on {w0 w w' : World} {I : Nat} {A1 A2 A3 A4 : Option Addr} {c1 c2 c3 c4 : Nat} {i : Prob} (h : BoxOn w0 w I A1 A2 A3 A4 c1 c2 c3 c4 i) (hb : Below w.heap.size w w') : BoxOn w0 w' I A1 A2 A3 A4 c1 c2 c3 c4 i :=
  ⟨h.1.below hb, h.2.trans (hb.mono h.2.size)⟩
def Cells4 (w : World) (I : Nat) (A1 A2 A3 A4 : Option Addr) (c1 c2 c3 c4 : Nat) (i : Prob) : Prop := w.cell? ⟨I, 0, none⟩ = some (.slice A1 i.cars.length c1) ∧ w.cell? ⟨I, 1, none⟩ = some (.slice A2 i.stops.length c2) ∧ w.cell? ⟨I, 2, none⟩ = some (.slice A3 i.pairs.length c3) ∧ w.cell? ⟨I, 3, none⟩ = some (.slice A4 i.travel.length c4)
theorem mate_kept {w0 w : World} {I : Nat} {A1 A2 A3 A4 : Option Addr} {c1 c2 c3 c4 : Nat} {i : Prob} {s r : Int} (hr : mateL s i.pairs = r) (hp : i.pairs.length ≤ 1099511627776) (h : BoxOn w0 w I A1 A2 A3 A4 c1 c2 c3 c4 i) :
    Calls Tryd.prog 12 #[.agg #[.slice A1 i.cars.length c1, .slice A2 i.stops.length c2, .slice A3 i.pairs.length c3, .slice A4 i.travel.length c4], .int .i64 s] w fun e w' => e = .returned (.int .i64 r) ∧ BoxOn w0 w' I A1 A2 A3 A4 c1 c2 c3 c4 i ∧ Cells4 w' I A1 A2 A3 A4 c1 c2 c3 c4 i := by
  refine (mate_any _ i s w h.1.lies hp).mono ?_
  rintro e w' ⟨rfl, hb⟩
  have := h.on hb
  exact ⟨by rw [hr], this, this.1.b0, this.1.b1, this.1.b2, this.1.b3⟩
theorem first_kept {w0 w : World} {I : Nat} {A1 A2 A3 A4 : Option Addr} {c1 c2 c3 c4 : Nat} {i : Prob} {s : Int} {r : Bool} (hr : firstL s i.pairs = r) (hp : i.pairs.length ≤ 1099511627776) (h : BoxOn w0 w I A1 A2 A3 A4 c1 c2 c3 c4 i) :
    Calls Tryd.prog 13 #[.agg #[.slice A1 i.cars.length c1, .slice A2 i.stops.length c2, .slice A3 i.pairs.length c3, .slice A4 i.travel.length c4], .int .i64 s] w fun e w' => e = .returned (.bool r) ∧ BoxOn w0 w' I A1 A2 A3 A4 c1 c2 c3 c4 i ∧ Cells4 w' I A1 A2 A3 A4 c1 c2 c3 c4 i := by
  refine (first_any _ i s w h.1.lies hp).mono ?_
  rintro e w' ⟨rfl, hb⟩
  have := h.on hb
  exact ⟨by rw [hr], this, this.1.b0, this.1.b1, this.1.b2, this.1.b3⟩
set_option maxRecDepth 100000 in
set_option maxHeartbeats 8000000 in
theorem back_walk (v : Value) (l : List Int) (mx : Int) (w : World) (h : Recs w 1 num_ v l) (hl : l.length ≤ 9223372036854775807) (hn : Names w) (hm : w.cell? ⟨1, 0, none⟩ = some (.int .i64 mx)) (h1 : 1 < w.heap.size) (ht : Tab w.heap.size w) :
    Calls Tryd.prog 6 #[v] w fun e w' => e = .returned (.bool true) ∧ Below w.heap.size w w' := by
  have HP := Lib.hid (play_said v l w h hl)
  have HN := Lib.hid hn
  have HM := Lib.hid hm
  have HT := Lib.hid ht
  clear h hn hm ht
  go_enter Tryd.func6, Tryd.ntmps6
  go_wp2_with (go_at_call 21; fail)
  (with_reducible refine (HP.out).mono ?_)
  rintro e w1 ⟨i, A1, A2, A3, A4, c1, c2, c3, c4, rfl, hs1, hok, hs2, hs8, hp2, hb1⟩
  have HOK := Lib.hid hok
  have HSH := Lib.hid (short_of hok (by omega))
  have HB1 := Lib.hid hb1
  have z1 := hb1.size
  have BX1 := Lib.hid (box_new hs1 30)
  have hF := fine_of hok
  have HF := Lib.hid hF
  have HPL : i.pairs.length ≤ 1099511627776 := by omega
  clear hok hs1 hb1 HP hF
  have HA1 := Lib.hid (HB1.out.alloc z1 (.cells #[.slice A1 i.cars.length c1, .slice A2 i.stops.length c2, .slice A3 i.pairs.length c3, .slice A4 i.travel.length c4] 30))
  have k0 := BX1.out.b0
  have k1 := BX1.out.b1
  have k2 := BX1.out.b2
  have k3 := BX1.out.b3
  have zA : w.heap.size ≤ (w1.alloc (.cells #[.slice A1 i.cars.length c1, .slice A2 i.stops.length c2, .slice A3 i.pairs.length c3, .slice A4 i.travel.length c4] 30)).heap.size := HA1.out.size
  go_upto_region 2 with (fail)
  generalize hwa : w1.alloc (.cells #[.slice A1 i.cars.length c1, .slice A2 i.stops.length c2, .slice A3 i.pairs.length c3, .slice A4 i.travel.length c4] 30) = wa at *
  generalize w1.heap.size = I at *
  clear hwa
  go_wp2_with (go_at_call 7; fail)
  (with_reducible refine (print_good w.heap.size _ i wa BX1.out.lies HSH.out HOK.out (by omega) (HN.out.below HA1.out (by omega)) (by omega) zA (HT.out.on HA1.out)).mono ?_)
  rintro e w2 ⟨rfl, hb2⟩
  have HB2 := Lib.hid (HA1.out.trans (hb2.mono zA))
  have BX2 := Lib.hid (BX1.out.below hb2)
  have z2 := HB2.out.size
  clear hb2 k0 k1 k2 k3 BX1 HA1 HB1
  have m2 : w2.cell? ⟨1, 0, none⟩ = some (.int .i64 mx) := by rw [HB2.out.cell h1]; exact HM.out
  have M2 := Lib.hid m2
  clear m2
  go_wp2_with (go_at_call 9; fail)
  (with_reducible refine (parse_back HOK.out (by omega) (HN.out.below HB2.out (by omega)) M2.out (by omega)).mono ?_)
  rintro e w3 ⟨D1, D2, D3, D4, d1, d2, d3, d4, rfl, hs3, hb3⟩
  have HB3 := Lib.hid (HB2.out.trans (hb3.mono z2))
  have BX3 := Lib.hid (BX2.out.below hb3)
  have z3 := HB3.out.size
  have BY := Lib.hid (box_new hs3 30)
  have BX4 := Lib.hid (BX3.out.below ((Below.refl _ _).alloc (Nat.le_refl _) (.cells #[.slice D1 i.cars.length d1, .slice D2 i.stops.length d2, .slice D3 i.pairs.length d3, .slice D4 i.travel.length d4] 30)))
  have HB4 := Lib.hid (HB3.out.alloc z3 (.cells #[.slice D1 i.cars.length d1, .slice D2 i.stops.length d2, .slice D3 i.pairs.length d3, .slice D4 i.travel.length d4] 30))
  clear hb3 hs3 BX2 BX3 HB2 M2
  go_upto_region 4 with (fail)
  generalize w3.alloc (.cells #[.slice D1 i.cars.length d1, .slice D2 i.stops.length d2, .slice D3 i.pairs.length d3, .slice D4 i.travel.length d4] 30) = w4 at *
  generalize w3.heap.size = J at *
  have k0 := BX4.out.b0
  have k1 := BX4.out.b1
  have k2 := BX4.out.b2
  have k3 := BX4.out.b3
  have j0 := BY.out.b0
  have j1 := BY.out.b1
  have j2 := BY.out.b2
  have j3 := BY.out.b3
  go_wp2_with (go_at_call 10; fail)
  (with_reducible refine (same_prob _ _ i w4 BX4.out.lies BY.out.lies HSH.out (by have := HF.out.travel; omega) (fun r hr => by have := HF.out.rowL r hr; omega)).mono ?_)
  rintro e w5 ⟨rfl, hb5⟩
  have HB5 := Lib.hid (HB4.out.trans (hb5.mono HB4.out.size))
  have BX5 := Lib.hid (BX4.out.below hb5)
  clear hb5 k0 k1 k2 k3 j0 j1 j2 j3 BX4 BY HB4
  have k0 := BX5.out.b0
  have k1 := BX5.out.b1
  have k2 := BX5.out.b2
  have k3 := BX5.out.b3
  go_wp2_with (go_at_call 18; fail)
  (with_reducible refine (check_ok BX5.out.lies HSH.out HOK.out).mono ?_)
  rintro e w6 ⟨rfl, hb6⟩
  have HB6 := Lib.hid (HB5.out.trans (hb6.mono HB5.out.size))
  have BX6 := Lib.hid (BX5.out.below hb6)
  have HU := Lib.hid (mates_all HOK.out)
  clear hb6 k0 k1 k2 k3 BX5 HB5
  go_wp2
  go_loopw [8, 9] (fun mv kv wr => ∃ k : Nat, k ≤ i.stops.length ∧ kv = .int .i64 ((k : Int) + 1) ∧ mv = .int .i64 (upTo (flatP i.pairs) k : Nat) ∧ Box wr I A1 A2 A3 A4 c1 c2 c3 c4 i ∧ Below w.heap.size w wr) (fun _ kv _ => 9 - (intOf kv).toNat)
  case atStart => exact ⟨0, by omega, rfl, by rw [HU.out.2]; rfl, BX6.out, HB6.out⟩
  case round =>
    obtain ⟨k, hk, rfl, rfl, hbx, hb⟩ := hrel
    have BX := Lib.hid hbx
    have HB := Lib.hid hb
    have k0 := hbx.b0
    have k1 := hbx.b1
    have k2 := hbx.b2
    have k3 := hbx.b3
    clear hbx hb BX6 HB6
    by_cases hlt : k < i.stops.length
    · have t1 : (k : Int) + 1 ≤ (i.stops.length : Int) := by omega
      have hup := upTo_le (flatP i.pairs) k
      have hfl := flatP_len i.pairs
      have hup' : upTo (flatP i.pairs) k ≤ 4 := by omega
      clear hup hfl
      go_wp2_with (go_at_call 12; fail)
      (with_reducible refine (mate_any _ i _ _ BX.out.lies HPL).mono ?_)
      rintro e w7 ⟨rfl, hb7⟩
      have HB7 := Lib.hid (HB.out.trans (hb7.mono HB.out.size))
      have BX7 := Lib.hid (BX.out.below hb7)
      clear hb7 k0 k1 k2 k3
      rcases mates_at HOK.out k with ⟨e1, e2, e3⟩ | ⟨y, e1, e0, e2, e4, ⟨a, b, e5, e6, e7⟩, e3⟩
      · rw [e1]
        have E2 := Lib.hid e2
        have E3 := Lib.hid e3
        clear e1 e2 e3
        have k0 := BX7.out.b0
        have k1 := BX7.out.b1
        have k2 := BX7.out.b2
        have k3 := BX7.out.b3
        go_wp2_with (go_at_call 13; fail)
        (with_reducible refine (first_any _ i _ _ BX7.out.lies HPL).mono ?_)
        rw [E2.out]
        rintro e w8 ⟨rfl, hb8⟩
        have HB8 := Lib.hid (HB7.out.trans (hb8.mono HB7.out.size))
        have BX8 := Lib.hid (BX7.out.below hb8)
        clear hb8 k0 k1 k2 k3
        go_wp2
        go_roundw
        case rel => exact ⟨k + 1, by omega, by go_num, by rw [E3.out], BX8.out, HB8.out⟩
        case measure => simp [intOf]; omega
      · rw [e1]
        have E2 := Lib.hid e2
        have E3 := Lib.hid e3
        have E5 := Lib.hid e5
        have E6 := Lib.hid e6
        have t2 : (y == 0) = false := by simpa using e0
        have t3 : (y == (k : Int) + 1) = false := by simpa using e4
        clear e1 e2 e3 e4 e5 e6 e0
        have K7 : BoxOn w w7.drew I A1 A2 A3 A4 c1 c2 c3 c4 i := ⟨BX7.out.below ((Below.refl _ _).drew), HB7.out.drew⟩
        have k0 := BX7.out.b0
        have k1 := BX7.out.b1
        have k2 := BX7.out.b2
        have k3 := BX7.out.b3
        have CM := Lib.hid (fun W (h : BoxOn w W I A1 A2 A3 A4 c1 c2 c3 c4 i) => mate_kept E2.out HPL h)
        have CF1 := Lib.hid (fun W (h : BoxOn w W I A1 A2 A3 A4 c1 c2 c3 c4 i) => first_kept E5.out HPL h)
        have CF2 := Lib.hid (fun W (h : BoxOn w W I A1 A2 A3 A4 c1 c2 c3 c4 i) => first_kept E6.out HPL h)
        go_upto_region 15 with (fail)
        go_cut [75] from 57 to 75 (fun s wx => s = .bool false ∧ BoxOn w wx I A1 A2 A3 A4 c1 c2 c3 c4 i)
        case first =>
          go_region_held3 (fun w' => w'.cell? ⟨I, 0, none⟩ = some (.slice A1 i.cars.length c1) ∧ w'.cell? ⟨I, 1, none⟩ = some (.slice A2 i.stops.length c2) ∧ w'.cell? ⟨I, 2, none⟩ = some (.slice A3 i.pairs.length c3) ∧ w'.cell? ⟨I, 3, none⟩ = some (.slice A4 i.travel.length c4))
            (first
              | go_keep
              | assumption)
            (first
              | (go_at_call 12; (with_reducible refine (CM.out _ ?_).mono ?_); assumption; rintro e w8 ⟨rfl, h8, g8⟩)
              | (go_at_call 13; (with_reducible refine (CF1.out _ ?_).mono ?_); assumption; rintro e w9 ⟨rfl, h9, g9⟩)
              | (go_at_call 13; (with_reducible refine (CF2.out _ ?_).mono ?_); assumption; rintro e w9 ⟨rfl, h9, g9⟩))
          all_goals (go_wp2_with fail; go_meet; exact ⟨rfl, by assumption⟩)
        case rest =>
          obtain ⟨rfl, hx, hbx⟩ := hcut
          have BX9 := Lib.hid hx
          have HB9 := Lib.hid hbx
          clear hx hbx K7 k0 k1 k2 k3
          go_wp2
          go_roundw
          case rel => exact ⟨k + 1, by omega, by go_num, by rw [E3.out]; rfl, BX9.out, HB9.out⟩
          case measure => simp [intOf]; omega
    · have hk2 : k = i.stops.length := by omega
      have hu : upTo (flatP i.pairs) k = 2 * i.pairs.length := by rw [hk2]; exact HU.out.1
      rw [hu]
      have t1 : decide ((k : Int) + 1 ≤ (i.stops.length : Int)) = false := by simp; omega
      clear hu hk2
      go_wp2_with (go_at_call 14; fail)
      (with_reducible refine (wakes_any _).mono ?_)
      rintro e w8 ⟨rfl, hb8⟩
      have HB8 := Lib.hid (HB.out.trans (hb8.mono HB.out.size))
      clear hb8
      go_wp2
      go_ret
      exact ⟨rfl, HB8.out⟩
end Go.Proofs.YteibelmgebhleaaDoor
