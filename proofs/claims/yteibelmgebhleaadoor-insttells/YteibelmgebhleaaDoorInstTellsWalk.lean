/- The walk of InstTells: for any row of numbers, any two more, the law returns true; old memory stands. -/
import Derived.Test.YteibelmgebhleaaDoorOddWalk
import Derived.Test.YteibelmgebhleaaDoorRefPrint
import Derived.Test.YteibelmgebhleaaDoorInstBackWalk
import Derived.Test.YteibelmgebhleaaDoorMates
namespace Go.Proofs.YteibelmgebhleaaDoor
open Go.RowKit
set_option linter.unusedSimpArgs false
set_option maxRecDepth 100000

def OddSaid (w : World) (e : Ending) (w' : World) : Prop := ∃ i A1 A2 A3 A4 c1 c2 c3 c4, e = .returned (.agg #[.slice A1 i.cars.length c1, .slice A2 i.stops.length c2, .slice A3 i.pairs.length c3, .slice A4 i.travel.length c4]) ∧ Said w' A1 A2 A3 A4 c1 c2 c3 c4 i ∧ i.cars.length ≤ 6 ∧ i.stops.length ≤ 16 ∧ i.pairs.length ≤ 3 ∧ Below w.heap.size w w'
theorem odd_said (v : Value) (l : List Int) (n m : Int) (w : World) (h : Recs w 1 num_ v l) (hl : l.length ≤ 9223372036854775807) : Calls Tryd.prog 15 #[v, .int .i64 n, .int .i64 m] w (OddSaid w) := by
  refine (odd_any v l n m w h hl).mono ?_
  rintro e w' ⟨i, u, rfl, hh, h1, h2, h3, hb⟩
  obtain ⟨A1, A2, A3, A4, c1, c2, c3, c4, hv, hs⟩ := hh.said
  rw [hv]
  exact ⟨i, A1, A2, A3, A4, c1, c2, c3, c4, rfl, hs, h1, h2, h3, hb⟩
theorem refmate_kept {w0 w : World} {I : Nat} {A1 A2 A3 A4 : Option Addr} {c1 c2 c3 c4 : Nat} {i : Prob} {s r : Int} (hr : mateL s i.pairs = r) (hp : i.pairs.length ≤ 1099511627776) (h : BoxOn w0 w I A1 A2 A3 A4 c1 c2 c3 c4 i) :
    Calls Tryd.prog 19 #[.agg #[.slice A1 i.cars.length c1, .slice A2 i.stops.length c2, .slice A3 i.pairs.length c3, .slice A4 i.travel.length c4], .int .i64 s] w fun e w' => e = .returned (.int .i64 r) ∧ BoxOn w0 w' I A1 A2 A3 A4 c1 c2 c3 c4 i ∧ Cells4 w' I A1 A2 A3 A4 c1 c2 c3 c4 i := by
  refine (refmate_any _ i s w h.1.lies hp).mono ?_
  rintro e w' ⟨rfl, hb⟩
  have := h.on hb
  exact ⟨by rw [hr], this, this.1.b0, this.1.b1, this.1.b2, this.1.b3⟩
theorem reffirst_kept {w0 w : World} {I : Nat} {A1 A2 A3 A4 : Option Addr} {c1 c2 c3 c4 : Nat} {i : Prob} {s : Int} {r : Bool} (hr : firstL s i.pairs = r) (hp : i.pairs.length ≤ 1099511627776) (h : BoxOn w0 w I A1 A2 A3 A4 c1 c2 c3 c4 i) :
    Calls Tryd.prog 20 #[.agg #[.slice A1 i.cars.length c1, .slice A2 i.stops.length c2, .slice A3 i.pairs.length c3, .slice A4 i.travel.length c4], .int .i64 s] w fun e w' => e = .returned (.bool r) ∧ BoxOn w0 w' I A1 A2 A3 A4 c1 c2 c3 c4 i ∧ Cells4 w' I A1 A2 A3 A4 c1 c2 c3 c4 i := by
  refine (reffirst_any _ i s w h.1.lies hp).mono ?_
  rintro e w' ⟨rfl, hb⟩
  have := h.on hb
  exact ⟨by rw [hr], this, this.1.b0, this.1.b1, this.1.b2, this.1.b3⟩
set_option maxHeartbeats 8000000 in
theorem tells_walk (v : Value) (l : List Int) (n m : Int) (w : World) (h : Recs w 1 num_ v l) (hl : l.length ≤ 9223372036854775807) (hn : Names w) (h0 : 0 < w.heap.size) (ht : Tab w.heap.size w) :
    Calls Tryd.prog 4 #[v, .int .i64 n, .int .i64 m] w fun e w' => e = .returned (.bool true) ∧ Below w.heap.size w w' := by
  have HP := Lib.hid (odd_said v l n m w h hl)
  have HN := Lib.hid hn
  have HT := Lib.hid ht
  clear h hn ht
  go_enter Tryd.func4, Tryd.ntmps4
  go_wp2_with (go_at_call 15; fail)
  (with_reducible refine (HP.out).mono ?_)
  rintro e w1 ⟨i, A1, A2, A3, A4, c1, c2, c3, c4, rfl, hs1, l1, l2, l3, hb1⟩
  have HSH : Hid (Short i) := ⟨by omega, by omega, by omega⟩
  have z1 := hb1.size
  have BX1 := Lib.hid (box_new hs1 30)
  have HPL : i.pairs.length ≤ 1099511627776 := by omega
  have HA1 := Lib.hid (hb1.alloc z1 (.cells #[.slice A1 i.cars.length c1, .slice A2 i.stops.length c2, .slice A3 i.pairs.length c3, .slice A4 i.travel.length c4] 30))
  clear hs1 hb1 HP
  have zA : w.heap.size ≤ (w1.alloc (.cells #[.slice A1 i.cars.length c1, .slice A2 i.stops.length c2, .slice A3 i.pairs.length c3, .slice A4 i.travel.length c4] 30)).heap.size := HA1.out.size
  go_upto_region 2 with (fail)
  generalize w1.alloc (.cells #[.slice A1 i.cars.length c1, .slice A2 i.stops.length c2, .slice A3 i.pairs.length c3, .slice A4 i.travel.length c4] 30) = wa at *
  generalize w1.heap.size = I at *
  have k0 := BX1.out.b0
  have k1 := BX1.out.b1
  have k2 := BX1.out.b2
  have k3 := BX1.out.b3
  go_wp2_with (go_at_call 16; fail)
  (with_reducible refine (refCheck_any _ i wa BX1.out.lies HSH.out).mono ?_)
  rintro e w2 ⟨rfl, hb2⟩
  have HB2 := Lib.hid (HA1.out.trans (hb2.mono zA))
  have BX2 := Lib.hid (BX1.out.below hb2)
  have z2 := HB2.out.size
  clear hb2 k0 k1 k2 k3 BX1 HA1
  have k0 := BX2.out.b0
  have k1 := BX2.out.b1
  have k2 := BX2.out.b2
  have k3 := BX2.out.b3
  cases hok : probOk i
  · go_wp2_with (go_at_call 7; fail)
    (with_reducible refine (print_bad _ i w2 BX2.out.lies HSH.out hok).mono ?_)
    rintro e w3 ⟨rfl, hb3⟩
    have HB3 := Lib.hid (HB2.out.trans (hb3.mono z2))
    have BX3 := Lib.hid (BX2.out.below hb3)
    have z3 := HB3.out.size
    clear hb3 k0 k1 k2 k3 BX2 HB2
    have k0 := BX3.out.b0
    have k1 := BX3.out.b1
    have k2 := BX3.out.b2
    have k3 := BX3.out.b3
    go_wp2_with (go_at_call 17; fail)
    (with_reducible refine (refPrint_bad _ i w3 BX3.out.lies HSH.out hok).mono ?_)
    rintro e w4 ⟨rfl, hb4⟩
    have HB4 := Lib.hid (HB3.out.trans (hb4.mono z3))
    have BX4 := Lib.hid (BX3.out.below hb4)
    have z4 := HB4.out.size
    clear hb4 k0 k1 k2 k3 BX3 HB3
    have k0 := BX4.out.b0
    have k1 := BX4.out.b1
    have k2 := BX4.out.b2
    have k3 := BX4.out.b3
    go_wp2_with (go_at_call 18; fail)
    (with_reducible refine (check_bad BX4.out.lies HSH.out hok).mono ?_)
    rintro e w5 ⟨rfl, hb5⟩
    have HB5 := Lib.hid (HB4.out.trans (hb5.mono z4))
    clear hb5 k0 k1 k2 k3 BX4 HB4
    go_wp2
    go_loopw [13] (fun kv wr => kv = .int .i64 (-1) ∧ Below w.heap.size w wr) (fun _ _ => 0)
    case atStart => exact ⟨rfl, HB5.out⟩
    case round =>
      obtain ⟨rfl, hb⟩ := hrel
      have HB := Lib.hid hb
      clear hb HB5
      go_wp2_with (go_at_call 14; fail)
      (with_reducible refine (wakes_any _).mono ?_)
      rintro e w8 ⟨rfl, hb8⟩
      have HB8 := Lib.hid (HB.out.trans (hb8.mono HB.out.size))
      clear hb8
      go_wp2
      go_ret
      exact ⟨rfl, HB8.out⟩
  · go_wp2_with (go_at_call 7; fail)
    (with_reducible refine (print_good w.heap.size _ i w2 BX2.out.lies HSH.out hok (by omega) (HN.out.below HB2.out h0) (by omega) z2 (HT.out.on HB2.out)).mono ?_)
    rintro e w3 ⟨rfl, hb3⟩
    have HB3 := Lib.hid (HB2.out.trans (hb3.mono z2))
    have BX3 := Lib.hid (BX2.out.below hb3)
    have z3 := HB3.out.size
    clear hb3 k0 k1 k2 k3 BX2 HB2
    have k0 := BX3.out.b0
    have k1 := BX3.out.b1
    have k2 := BX3.out.b2
    have k3 := BX3.out.b3
    go_wp2_with (go_at_call 17; fail)
    (with_reducible refine (refPrint_good _ i w3 BX3.out.lies HSH.out hok (by omega)).mono ?_)
    rintro e w4 ⟨rfl, hb4⟩
    have HB4 := Lib.hid (HB3.out.trans (hb4.mono z3))
    have BX4 := Lib.hid (BX3.out.below hb4)
    have z4 := HB4.out.size
    clear hb4 k0 k1 k2 k3 BX3 HB3
    have k0 := BX4.out.b0
    have k1 := BX4.out.b1
    have k2 := BX4.out.b2
    have k3 := BX4.out.b3
    go_wp2_with (go_at_call 18; fail)
    (with_reducible refine (check_ok BX4.out.lies HSH.out hok).mono ?_)
    rintro e w5 ⟨rfl, hb5⟩
    have HB5 := Lib.hid (HB4.out.trans (hb5.mono z4))
    have BX5 := Lib.hid (BX4.out.below hb5)
    clear hb5 k0 k1 k2 k3 BX4 HB4
    generalize ofL (probText i) = tx at *
    have tt : (tx.toList != tx.toList) = false := by simp
    go_wp2
    clear tt
    go_loopw [13] (fun kv wr => ∃ k : Nat, k ≤ 15 ∧ kv = .int .i64 ((k : Int) - 1) ∧ BoxOn w wr I A1 A2 A3 A4 c1 c2 c3 c4 i) (fun kv _ => (14 - intOf kv).toNat)
    case atStart => exact ⟨0, by omega, rfl, BX5.out, HB5.out⟩
    case round =>
      obtain ⟨k, hk, rfl, hbx⟩ := hrel
      have BX := Lib.hid hbx
      clear hbx BX5 HB5
      by_cases hlt : k < 15
      · have t1 : (k : Int) - 1 < 14 := by omega
        obtain ⟨y, hy⟩ : ∃ y, mateL ((k : Int) - 1) i.pairs = y := ⟨_, rfl⟩
        obtain ⟨a, ha⟩ : ∃ a, firstL ((k : Int) - 1) i.pairs = a := ⟨_, rfl⟩
        have t2 : (y != y) = false := by simp
        have t3 : (a != a) = false := by simp
        have K7 : BoxOn w wr.drew I A1 A2 A3 A4 c1 c2 c3 c4 i := ⟨BX.out.1.below ((Below.refl _ _).drew), BX.out.2.drew⟩
        have k0 := BX.out.1.b0
        have k1 := BX.out.1.b1
        have k2 := BX.out.1.b2
        have k3 := BX.out.1.b3
        have CM := Lib.hid (fun W (h : BoxOn w W I A1 A2 A3 A4 c1 c2 c3 c4 i) => mate_kept hy HPL h)
        have CF := Lib.hid (fun W (h : BoxOn w W I A1 A2 A3 A4 c1 c2 c3 c4 i) => first_kept ha HPL h)
        have RM := Lib.hid (fun W (h : BoxOn w W I A1 A2 A3 A4 c1 c2 c3 c4 i) => refmate_kept hy HPL h)
        have RF := Lib.hid (fun W (h : BoxOn w W I A1 A2 A3 A4 c1 c2 c3 c4 i) => reffirst_kept ha HPL h)
        clear hy ha BX
        go_upto_region 12 with (fail)
        go_cut [73] from 51 to 73 (fun s wx => s = .bool false ∧ BoxOn w wx I A1 A2 A3 A4 c1 c2 c3 c4 i)
        case first =>
          go_region_held3 (fun w' => w'.cell? ⟨I, 0, none⟩ = some (.slice A1 i.cars.length c1) ∧ w'.cell? ⟨I, 1, none⟩ = some (.slice A2 i.stops.length c2) ∧ w'.cell? ⟨I, 2, none⟩ = some (.slice A3 i.pairs.length c3) ∧ w'.cell? ⟨I, 3, none⟩ = some (.slice A4 i.travel.length c4))
            (first
              | go_keep
              | assumption)
            (first
              | (go_at_call 12; (with_reducible refine (CM.out _ ?_).mono ?_); assumption; rintro e w8 ⟨rfl, h8, g8⟩)
              | (go_at_call 19; (with_reducible refine (RM.out _ ?_).mono ?_); assumption; rintro e w8 ⟨rfl, h8, g8⟩)
              | (go_at_call 13; (with_reducible refine (CF.out _ ?_).mono ?_); assumption; rintro e w9 ⟨rfl, h9, g9⟩)
              | (go_at_call 20; (with_reducible refine (RF.out _ ?_).mono ?_); assumption; rintro e w9 ⟨rfl, h9, g9⟩))
          all_goals (go_wp2_with fail; go_meet; exact ⟨rfl, by assumption⟩)
        case rest =>
          obtain ⟨rfl, hx⟩ := hcut
          have BX9 := Lib.hid hx
          clear hx K7 k0 k1 k2 k3
          go_wp2
          go_roundw
          case rel => exact ⟨k + 1, by omega, by go_num, BX9.out⟩
          case measure => simp [intOf]; omega
      · obtain rfl : k = 15 := by omega
        go_wp2_with (go_at_call 14; fail)
        (with_reducible refine (wakes_any _).mono ?_)
        rintro e w8 ⟨rfl, hb8⟩
        have HB8 := Lib.hid (BX.out.2.trans (hb8.mono BX.out.2.size))
        clear hb8
        go_wp2
        go_ret
        exact ⟨rfl, HB8.out⟩
end Go.Proofs.YteibelmgebhleaaDoor
