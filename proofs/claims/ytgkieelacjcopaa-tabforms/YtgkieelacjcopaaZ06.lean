/- draymanplay.Inst, its four rows said plainly; a problem in a variable. · draymanplay.Row: some stops in some order, in new memory. · A problem in a variable: one way, one stop, one car of it. · draymankeep.Same of numbers that are the same; draymanlaw04.Same, wakes. · A problem and a row in variables; what a trip that can be driven says, stop by stop. -/
import Derived.Test.YtgkieelacjcopaaZ05
import Derived.Test.YtgkieelacjcopaaZ02
import Derived.Test.YtgkieelacjcopaaZ03
import Derived.Laws.StructEq
namespace Go.Proofs.Ytgkieelacjcopaa
open Go.RowKit
set_option linter.unusedSimpArgs false

/-- a problem in memory, its four rows said plainly -/
abbrev Said (W : World) (A1 A2 A3 A4 : Option Addr) (c1 c2 c3 c4 : Nat) (i : Prob) : Prop := Lies W (.agg #[.slice A1 i.cars.length c1, .slice A2 i.stops.length c2, .slice A3 i.pairs.length c3, .slice A4 i.travel.length c4]) i
theorem Lies.said {W : World} {v : Value} {i : Prob} (h : Lies W v i) : ∃ A1 A2 A3 A4 c1 c2 c3 c4, v = .agg #[.slice A1 i.cars.length c1, .slice A2 i.stops.length c2, .slice A3 i.pairs.length c3, .slice A4 i.travel.length c4] ∧ Said W A1 A2 A3 A4 c1 c2 c3 c4 i := by
  have h' := h
  obtain ⟨vc, vs, vp, vt, rfl, ⟨A1, c1, rfl, _⟩, ⟨A2, c2, rfl, _⟩, ⟨A3, c3, rfl, _⟩, ⟨A4, c4, rfl, _⟩⟩ := h'
  exact ⟨A1, A2, A3, A4, c1, c2, c3, c4, rfl, h⟩
def PlaySaid (w : World) (e : Ending) (w' : World) : Prop := ∃ i A1 A2 A3 A4 c1 c2 c3 c4, e = .returned (.agg #[.slice A1 i.cars.length c1, .slice A2 i.stops.length c2, .slice A3 i.pairs.length c3, .slice A4 i.travel.length c4]) ∧ Said w' A1 A2 A3 A4 c1 c2 c3 c4 i ∧ probOk i = true ∧ 2 ≤ i.stops.length ∧ i.stops.length ≤ 8 ∧ i.pairs.length ≤ 2 ∧ Below w.heap.size w w'
theorem play_said (v : Value) (l : List Int) (w : World) (h : Recs w 1 num_ v l) (hl : l.length ≤ 9223372036854775807) : Calls Try.prog 19 #[v] w (PlaySaid w) := by
  refine (play_cars v l w h hl).mono ?_
  rintro e w' ⟨i, vc, vs, vp, vt, us, I, rfl, hh, hok, h2, h8, hp, hb⟩
  obtain ⟨A1, A2, A3, A4, c1, c2, c3, c4, hv, hs⟩ := hh.lies.said
  rw [hv]
  exact ⟨i, A1, A2, A3, A4, c1, c2, c3, c4, rfl, hs, hok, h2, h8, hp, hb⟩
/-- a problem in a variable -/
structure Box (W : World) (I : Nat) (A1 A2 A3 A4 : Option Addr) (c1 c2 c3 c4 : Nat) (i : Prob) : Prop where
  lt : I < W.heap.size
  b0 : W.cell? ⟨I, 0, none⟩ = some (.slice A1 i.cars.length c1)
  b1 : W.cell? ⟨I, 1, none⟩ = some (.slice A2 i.stops.length c2)
  b2 : W.cell? ⟨I, 2, none⟩ = some (.slice A3 i.pairs.length c3)
  b3 : W.cell? ⟨I, 3, none⟩ = some (.slice A4 i.travel.length c4)
  lies : Said W A1 A2 A3 A4 c1 c2 c3 c4 i
theorem Box.below {W W' : World} {I : Nat} {A1 A2 A3 A4 : Option Addr} {c1 c2 c3 c4 : Nat} {i : Prob} (h : Box W I A1 A2 A3 A4 c1 c2 c3 c4 i) (hb : Below W.heap.size W W') : Box W' I A1 A2 A3 A4 c1 c2 c3 c4 i :=
  ⟨Nat.lt_of_lt_of_le h.lt hb.size, by rw [hb.cell h.lt]; exact h.b0, by rw [hb.cell h.lt]; exact h.b1, by rw [hb.cell h.lt]; exact h.b2, by rw [hb.cell h.lt]; exact h.b3, Lies.below h.lies hb⟩
theorem box_new {W : World} {A1 A2 A3 A4 : Option Addr} {c1 c2 c3 c4 : Nat} {i : Prob} (h : Said W A1 A2 A3 A4 c1 c2 c3 c4 i) (t : TypeId) : Box (W.alloc (.cells #[.slice A1 i.cars.length c1, .slice A2 i.stops.length c2, .slice A3 i.pairs.length c3, .slice A4 i.travel.length c4] t)) W.heap.size A1 A2 A3 A4 c1 c2 c3 c4 i :=
  ⟨by simp, by simp, by simp, by simp, by simp, Lies.below h ((Below.refl _ _).alloc (Nat.le_refl _) _)⟩
theorem short_of {i : Prob} (h : probOk i = true) (hp : i.pairs.length ≤ 1000000) : Short i := by
  have hf := fine_of h
  have h1 := hf.cars
  have h2 := hf.stops
  exact ⟨by omega, by omega, by omega⟩
/-- a problem in a variable, in a world that stands on w0 -/
def BoxOn (w0 w : World) (I : Nat) (A1 A2 A3 A4 : Option Addr) (c1 c2 c3 c4 : Nat) (i : Prob) : Prop := Box w I A1 A2 A3 A4 c1 c2 c3 c4 i ∧ Below w0.heap.size w0 w
theorem BoxOn.on {w0 w w' : World} {I : Nat} {A1 A2 A3 A4 : Option Addr} {c1 c2 c3 c4 : Nat} {i : Prob} (h : BoxOn w0 w I A1 A2 A3 A4 c1 c2 c3 c4 i) (hb : Below w.heap.size w w') : BoxOn w0 w' I A1 A2 A3 A4 c1 c2 c3 c4 i :=
  ⟨h.1.below hb, h.2.trans (hb.mono h.2.size)⟩
def Cells4 (w : World) (I : Nat) (A1 A2 A3 A4 : Option Addr) (c1 c2 c3 c4 : Nat) (i : Prob) : Prop := w.cell? ⟨I, 0, none⟩ = some (.slice A1 i.cars.length c1) ∧ w.cell? ⟨I, 1, none⟩ = some (.slice A2 i.stops.length c2) ∧ w.cell? ⟨I, 2, none⟩ = some (.slice A3 i.pairs.length c3) ∧ w.cell? ⟨I, 3, none⟩ = some (.slice A4 i.travel.length c4)
end Go.Proofs.Ytgkieelacjcopaa
namespace Go.Proofs.Ytgkieelacjcopaa
open Go.RowKit
set_option linter.unusedSimpArgs false

/-- some row of few numbers, in new memory -/
def RowEnd (w : World) (e : Ending) (w' : World) : Prop := ∃ r A cap, e = .returned (.slice A r.length cap) ∧ r.length ≤ 14 ∧ r.length ≤ cap ∧ (∀ x ∈ r, -2 ≤ x ∧ x ≤ 17) ∧ Recs w' 1 num_ (.slice A r.length cap) r ∧ Fresh w.heap.size A ∧ Below w.heap.size w w'
theorem within_q (v n : Int) (w : World) (h1 : 1 ≤ n) (h2 : n ≤ 9223372036854775807) (r : Int) (hr : withinI v n = r) :
    Calls Try.prog 12 #[.int .i64 v, .int .i64 n] w fun e w' => e = .returned (.int .i64 r) ∧ w' = w := by
  refine (within_any v n w h1 h2).mono ?_
  rintro e w' ⟨rfl, rfl⟩
  exact ⟨by rw [hr], rfl⟩

theorem row_snoc {w : World} {B : Nat} {v : Value} {r : List Int} {m : Int} (h : w.ownsRow B 3 1 v (r.length + 1) (ints r ++ [.int .i64 m])) : w.ownsRow B 3 1 v (r ++ [m]).length (ints (r ++ [m])) := by
  simpa [ints] using h
theorem mem_snoc {r : List Int} {s : Int} (h : ∀ x ∈ r, -2 ≤ x ∧ x ≤ 17) (h1 : -2 ≤ s) (h2 : s ≤ 17) : ∀ x ∈ r ++ [s], -2 ≤ x ∧ x ≤ 17 := by
  intro x hx
  rcases List.mem_append.1 hx with hx | hx
  · exact h x hx
  · simp at hx; subst hx; exact ⟨h1, h2⟩
theorem own_is {w : World} {B n k c : Nat} {A : Option Addr} {xs : List Value} (h : w.ownsRow B 3 1 (.slice A n c) k xs) : n = k := by
  rcases h.2 with ⟨h, h0⟩ | ⟨_, _, _, h, _⟩
  · injection h with _ h _; omega
  · injection h

set_option maxRecDepth 100000 in
set_option maxHeartbeats 8000000 in
theorem row_any (v u : Value) (i : Prob) (l : List Int) (w : World) (h : Lies w v i) (hok : probOk i = true) (hp : i.pairs.length ≤ 1000000) (h2 : 2 ≤ i.stops.length) (hr : Recs w 1 num_ u l) (_hl : l.length ≤ 9223372036854775807) :
    Calls Try.prog 20 #[v, u] w (RowEnd w) := by
  have h' := h
  obtain ⟨vc, vs, vp, vt, rfl, _, hvs, _, _⟩ := h'
  obtain ⟨A, cap, rfl, hc⟩ := hr.num
  have hf := fine_of hok
  have hst := hf.stops
  have HL := Lib.hid h
  have HF := Lib.hid hf
  have HC := Lib.hid hc
  obtain ⟨As, caps, rfl, _⟩ := hvs
  obtain ⟨i0, hi0, hz0, hz1, hz2⟩ := info_parts int_info
  clear h hf hr hc hok
  have BX := Lib.hid (blk_new w #[vc, .slice As i.stops.length caps, vp, vt] 27)
  have HB0 := Lib.hid ((Below.refl _ _).alloc (Nat.le_refl _) (.cells #[vc, .slice As i.stops.length caps, vp, vt] 27) : Below w.heap.size w _)
  go_enter Try.func20, Try.ntmps20
  go_wp2
  generalize w.alloc (.cells #[vc, .slice As i.stops.length caps, vp, vt] 27) = w0 at *
  have hz00 := BX.out.1
  go_loopw [6, 7] (fun ov kv wr => ∃ (k : Nat) (r : List Int), k ≤ 7 ∧ kv = .int .i64 k ∧ r.length ≤ 2 * k ∧ (∀ x ∈ r, -2 ≤ x ∧ x ≤ 17) ∧ wr.ownsRow (w.heap.size + 1) 3 1 ov r.length (ints r) ∧ Below (w.heap.size + 1) w0 wr) (fun _ kv _ => 7 - (intOf kv).toNat)
  case atStart => exact ⟨0, [], by omega, rfl, by simp, fun x hx => by simp at hx, ⟨rfl, .inl ⟨rfl, rfl⟩⟩, Below.refl _ _⟩
  case round =>
    obtain ⟨k, r, hk, rfl, hrl, hrx, hown, hb⟩ := hrel
    have HX := Lib.hid hrx
    have HO := Lib.hid hown
    have HB := Lib.hid hb
    have HBW : Hid (Below w.heap.size w wr) := HB0.out.trans (hb.mono (by omega))
    have BXr := Lib.hid (BX.out.keep hb (by omega))
    have hzr := BXr.out.1
    obtain ⟨xo, no, co, rfl⟩ := own_slice hown
    obtain ⟨Xo, Co, hvo, _, hro, _⟩ := own_nums hown
    obtain ⟨rfl, rfl, rfl⟩ : xo = Xo ∧ no = r.length ∧ co = Co := by injection hvo with a b c; exact ⟨a, b, c⟩
    have RO := Lib.hid hro.num
    clear hrx hown hb hvo hro
    by_cases hgo : k < l.length ∧ k < 7
    · obtain ⟨hlt, hk7⟩ := hgo
      obtain ⟨B, o, rfl, hB, hcell⟩ := HC.out k hlt
      have c0 : wr.cell? ⟨B, o + k, none⟩ = some (.int .i64 l[k]) := by rw [HBW.out.cell hB]; exact hcell
      have C0 := Lib.hid hcell
      have k1 := BXr.out.c1
      generalize l[k] = x at *
      have hBr : B < wr.heap.size := Nat.lt_of_lt_of_le hB HBW.out.size
      have tl : ((k : Int) < (l.length : Int)) := by omega
      obtain ⟨s0, hs0, hs0l⟩ := within_nat x i.stops.length (by omega)
      have hmx : (if (i.stops.length : Int) < 1 then 1 else (i.stops.length : Int)) = (i.stops.length : Int) := if_neg (by omega)
      have hws : IntKind.i64.wrap (1 + (s0 : Int)) = 1 + (s0 : Int) := IntWalk.i64_in _ (by omega)
      have K0 := Lib.hid (fun W => within_q x i.stops.length W (by omega) (by omega) _ hs0)
      clear hs0 hcell
      go_upto_region 6 with (fail)
      go_quiet ((go_at_call 12; (with_reducible exact Calls.quiet_of_same (K0.out _))))
      go_upto_region 7 with (fail)
      obtain ⟨s1, hs1, hs1l⟩ := within_nat (wrap64 (x.tdiv 20)) 40 (by omega)
      obtain ⟨s2, hs2, hs2l⟩ := within_nat x 20 (by omega)
      have K1 := Lib.hid (fun W => within_q (wrap64 (x.tdiv 20)) 40 W (by omega) (by omega) _ hs1)
      have K2 := Lib.hid (fun W => within_q x 20 W (by omega) (by omega) _ hs2)
      clear hs1 hs2
      go_wp2_with (go_at_call 12; fail)
      (with_reducible refine (K1.out _).mono ?_)
      rintro e w2 ⟨rfl, rfl⟩
      go_upto_if 41 with (fail)
      go_cut [8] from 13 to 101 (fun sv wx => ∃ s : Int, sv = .int .i64 s ∧ -2 ≤ s ∧ s ≤ 17 ∧ wx = wr.drewN nq)
      case first =>
        by_cases h39 : s1 = 39
        · subst h39
          go_wp2_with (go_at_call 12; fail)
          (with_reducible refine (K2.out _).mono ?_)
          rintro e w2 ⟨rfl, rfl⟩
          go_wp2_with fail
          go_meet
          exact ⟨(s2 : Int) - 2, by go_num, by omega, by omega, rfl⟩
        · have t1 : ((s1 : Int) == 39) = false := by simp; omega
          go_wp2_with fail
          go_meet
          exact ⟨1 + (s0 : Int), by go_num, by omega, by omega, rfl⟩
      case rest =>
        obtain ⟨s, rfl, hsa, hsb, rfl⟩ := hcut
        clear K0 K1 K2
        have c0' : (wr.drewN nq).cell? ⟨B, o + k, none⟩ = some (.int .i64 x) := c0
        have k1' : (wr.drewN nq).cell? ⟨w.heap.size, 1, none⟩ = some (.slice As i.stops.length caps) := k1
        have HO2 := Lib.hid (own_draws HO.out nq)
        have HB2 := Lib.hid (below_draws' HB.out nq)
        have HBW2 := Lib.hid (below_draws' HBW.out nq)
        have BX2 := Lib.hid (BXr.out.below (below_draws' (Below.refl _ _) nq))
        have RO2 : Hid (∃ A cap, Value.slice xo r.length co = .slice A r.length cap ∧ ∀ k (h : k < r.length), ∃ B o, A = some ⟨B, o, none⟩ ∧ B < (wr.drewN nq).heap.size ∧ (wr.drewN nq).cell? ⟨B, o + k, none⟩ = some (.int .i64 r[k])) := RO.out
        have hB2 : B < (wr.drewN nq).heap.size := hBr
        clear HO HB HBW BXr RO hBr c0 k1 hzr
        generalize wr.drewN nq = wq at *
        have hzr := BX2.out.1
        go_wp2_with fail
        go_loopw [9, 51] (fun bv jv wv => ∃ (j : Nat) (b : Bool), j ≤ r.length ∧ bv = .bool b ∧ jv = .int .i64 j ∧ wq = wv) (fun _ jv _ => r.length - (intOf jv).toNat)
        case atStart => exact ⟨0, false, Nat.zero_le _, rfl, rfl, rfl⟩
        case round =>
          obtain ⟨j, b, hj, rfl, rfl, rfl⟩ := hrel
          by_cases hjl : j < r.length
          · obtain ⟨A1, cap1, he1, hc1⟩ := RO2.out
            obtain ⟨rfl, rfl⟩ : xo = A1 ∧ co = cap1 := by injection he1 with a _ c; exact ⟨a, c⟩
            obtain ⟨B1, o1, rfl, hB1, d1⟩ := hc1 j hjl
            generalize r[j] = y at *
            clear he1 hc1
            cases b
            · go_wp2
              go_roundw
              case rel => exact ⟨j + 1, _, by omega, rfl, by go_num, (by first | trivial | rfl)⟩
              case measure => simp [intOf]; omega
            · go_wp2
              go_roundw
              case rel => exact ⟨j + 1, _, by omega, rfl, by go_num, (by first | trivial | rfl)⟩
              case measure => simp [intOf]; omega
          · obtain ⟨s1, hs1, hs1l⟩ := within_nat (wrap64 (x.tdiv 7)) 30 (by omega)
            obtain ⟨s2, hs2, hs2l⟩ := within_nat (wrap64 (x.tdiv 3)) 8 (by omega)
            have K1 := Lib.hid (fun W => within_q (wrap64 (x.tdiv 7)) 30 W (by omega) (by omega) _ hs1)
            have K2 := Lib.hid (fun W => within_q (wrap64 (x.tdiv 3)) 8 W (by omega) (by omega) _ hs2)
            clear hs1 hs2
            go_upto_region 15 with (fail)
            go_cut [73] from 13 to 101 (fun cv wx => ∃ c : Bool, cv = .bool c ∧ wq = wx)
            case first =>
              cases b
              · go_wp2_with fail
                go_meet
                exact ⟨_, rfl, (by first | trivial | rfl)⟩
              · go_wp2_with (go_at_call 12; fail)
                (with_reducible refine (K1.out _).mono ?_)
                rintro e w2 ⟨rfl, rfl⟩
                go_wp2_with fail
                go_meet
                exact ⟨_, rfl, (by first | trivial | rfl)⟩
            case rest =>
              obtain ⟨cb, rfl, rfl⟩ := hcut
              clear K1 RO2
              cases cb
              · go_wp2
                go_roundw
                case rel => exact ⟨k + 1, r, by omega, by go_num, by omega, HX.out, HO2.out, HB2.out⟩
                case measure => simp [intOf]; omega
              · have HBx := Lib.hid ((Below.refl _ _).alloc (Nat.le_refl _) (.cells #[.int .i64 s] 3) : Below wq.heap.size wq _)
                go_wp2_with (at_builtin; refine wpList_append_any _ rfl _ _ 47 rfl (w.heap.size + 1) 3 i0 _ 1 8 Try.underlying47 hi0 hz0 hz1 hz2 rfl (by decide) (.slice xo r.length co) r.length (ints r) rfl (own_below HO2.out HBx.out) (wq.heap.size + 1) (some ⟨wq.heap.size, 0, none⟩) 1 1 [.int .i64 s] rfl (reads_new wq [.int .i64 s] 3) ?c1 ?c2 ?c3 ?c4 ?_)
                case c1 => first | rfl | (intro x hx; simp at hx; subst hx; rfl)
                case c2 => unfold maxLen; omega
                case c3 => omega
                case c4 => first | omega | (simp; omega)
                intro v' w2 hown' hgrow hob
                have HOc := Lib.hid hown'
                have HBc := Lib.hid ((HB2.out.alloc (by omega) (.cells #[.int .i64 s] 3)).grown hgrow (by simp; omega) (fun g hg => (own_typed HO2.out hg).2))
                have HBWc : Hid (Below w.heap.size w w2) := HB0.out.trans (HBc.out.mono (by omega))
                have BXc := Lib.hid (BX.out.keep HBc.out (by omega))
                obtain ⟨ao, n', cap', rfl⟩ := own_slice hown'
                have hn' := own_is hown'
                subst hn'
                clear hown' hgrow hob HO2 HB2 HBW2 BX2 HBx c0' k1' hB2 hzr
                have hBw : B < w2.heap.size := Nat.lt_of_lt_of_le hB HBWc.out.size
                have c0 : w2.cell? ⟨B, o + k, none⟩ = some (.int .i64 x) := by rw [HBWc.out.cell hB]; exact C0.out
                have g0 := BXc.out.c0
                have g1 := BXc.out.c1
                have g2 := BXc.out.c2
                have g3 := BXc.out.c3
                have hzc := BXc.out.1
                go_wp2_with (go_at_call 34; fail)
                (with_reducible refine (refmate_any _ i s w2 (HL.out.below HBWc.out) (by omega)).mono ?_)
                rintro e w3 ⟨rfl, hb3⟩
                have HO3 := Lib.hid (own_below (row_snoc HOc.out) hb3)
                have HB3 := Lib.hid (HBc.out.trans (hb3.mono (by omega)))
                have HBW3 : Hid (Below w.heap.size w w3) := HB0.out.trans (HB3.out.mono (by omega))
                have BX3 := Lib.hid (BX.out.keep HB3.out (by omega))
                have hm := mate_bound HF.out s
                have HX3 := Lib.hid (mem_snoc HX.out hsa hsb)
                clear hb3 HOc HBc HBWc BXc g0 g1 g2 g3 hzc c0 hBw
                have hB3 : B < w3.heap.size := Nat.lt_of_lt_of_le hB HBW3.out.size
                have c0 : w3.cell? ⟨B, o + k, none⟩ = some (.int .i64 x) := by rw [HBW3.out.cell hB]; exact C0.out
                have g0 := BX3.out.c0
                have g1 := BX3.out.c1
                have g2 := BX3.out.c2
                have g3 := BX3.out.c3
                have hzc := BX3.out.1
                generalize mateL s i.pairs = m at *
                by_cases hm0 : 0 < m
                · go_wp2_with (go_at_call 12; fail)
                  (with_reducible refine (K2.out _).mono ?_)
                  rintro e w4 ⟨rfl, rfl⟩
                  by_cases hs7 : s2 < 7
                  · have t1 : ((s2 : Int) < 7) := by omega
                    go_wp2_with (go_at_call 35; fail)
                    (with_reducible refine (reffirst_any _ i s _ (HL.out.below HBW3.out) (by omega)).mono ?_)
                    rintro e w4 ⟨rfl, hb4⟩
                    have HO4 := Lib.hid (own_below HO3.out hb4)
                    have HB4 := Lib.hid (HB3.out.trans (hb4.mono (by omega)))
                    have hz4 : w.heap.size < w4.heap.size := Nat.lt_of_lt_of_le hzc hb4.size
                    clear hb4 c0 g0 g1 g2 g3 HO3 HB3 BX3
                    cases hfb : firstL s i.pairs
                    · clear hfb
                      go_wp2
                      go_roundw
                      case rel => exact ⟨k + 1, r ++ [s], by omega, by go_num, by simp; omega, HX3.out, HO4.out, HB4.out⟩
                      case measure => simp [intOf]; omega
                    · clear hfb
                      have HX4 := Lib.hid (mem_snoc HX3.out (show -2 ≤ m by omega) (show m ≤ 17 by omega))
                      have hrl2 : (r ++ [s]).length = r.length + 1 := by simp
                      have HBx := Lib.hid ((Below.refl _ _).alloc (Nat.le_refl _) (.cells #[.int .i64 m] 3) : Below w4.heap.size w4 _)
                      go_wp2_with (at_builtin; refine wpList_append_any _ rfl _ _ 47 rfl (w.heap.size + 1) 3 i0 _ 1 8 Try.underlying47 hi0 hz0 hz1 hz2 rfl (by decide) (.slice ao (r.length + 1) cap') (r ++ [s]).length (ints (r ++ [s])) rfl (own_below HO4.out HBx.out) (w4.heap.size + 1) (some ⟨w4.heap.size, 0, none⟩) 1 1 [.int .i64 m] rfl (reads_new w4 [.int .i64 m] 3) ?e1 ?e2 ?e3 ?e4 ?_)
                      case e1 => first | rfl | (intro x hx; simp at hx; subst hx; rfl)
                      case e2 => unfold maxLen; omega
                      case e3 => omega
                      case e4 => first | omega | (simp; omega)
                      intro v' w5 hown' hgrow hob
                      have HO5 := Lib.hid (row_snoc (r := r ++ [s]) (m := m) (by rw [hrl2]; exact hown'))
                      have HB5 := Lib.hid ((HB4.out.alloc (by omega) (.cells #[.int .i64 m] 3)).grown hgrow (by simp; omega) (fun g hg => (own_typed HO4.out hg).2))
                      clear hown' hgrow hob
                      go_wp2
                      go_roundw
                      case rel => exact ⟨k + 1, r ++ [s] ++ [m], by omega, by go_num, by simp; omega, HX4.out, HO5.out, HB5.out⟩
                      case measure => simp [intOf]; omega
                  · have t1 : decide ((s2 : Int) < 7) = false := by simp; omega
                    go_wp2
                    go_roundw
                    case rel => exact ⟨k + 1, r ++ [s], by omega, by go_num, by simp; omega, HX3.out, HO3.out, HB3.out⟩
                    case measure => simp [intOf]; omega
                · have t1 : decide (m > 0) = false := by simp; omega
                  go_wp2
                  go_roundw
                  case rel => exact ⟨k + 1, r ++ [s], by omega, by go_num, by simp; omega, HX3.out, HO3.out, HB3.out⟩
                  case measure => simp [intOf]; omega
    · obtain ⟨Xo, Co, hvo, hle, hro, hfr⟩ := own_nums HO.out
      obtain ⟨rfl, rfl⟩ : xo = Xo ∧ co = Co := by injection hvo with a b c; exact ⟨a, c⟩
      have RR := Lib.hid (And.intro hro hfr)
      clear hvo hro hfr
      by_cases hlt : k < l.length
      · have tl : ((k : Int) < (l.length : Int)) := by omega
        have t7 : decide ((k : Int) < 7) = false := by simp; omega
        go_wp2
        go_ret
        exact ⟨r, xo, co, rfl, by omega, hle, HX.out, RR.out.1, RR.out.2.mono (by omega), HBW.out⟩
      · have tl : decide ((k : Int) < (l.length : Int)) = false := by simp; omega
        go_wp2
        go_ret
        exact ⟨r, xo, co, rfl, by omega, hle, HX.out, RR.out.1, RR.out.2.mono (by omega), HBW.out⟩
end Go.Proofs.Ytgkieelacjcopaa
namespace Go.Proofs.Ytgkieelacjcopaa
open Go.RowKit

theorem said_trav {W : World} {A1 A2 A3 A4 : Option Addr} {c1 c2 c3 c4 : Nat} {i : Prob} (h : Said W A1 A2 A3 A4 c1 c2 c3 c4 i) : Trav W (.slice A4 i.travel.length c4) i.travel := by
  obtain ⟨a, b, c, d, e, _, _, _, hT⟩ := h
  injection e with e
  injection e with e
  injection e with _ e
  injection e with _ e
  injection e with _ e
  injection e with e _
  rw [e]
  exact hT
theorem said_way {W : World} {A1 A2 A3 A4 : Option Addr} {c1 c2 c3 c4 : Nat} {i : Prob} (h : Said W A1 A2 A3 A4 c1 c2 c3 c4 i) (hf : Fine i) {a b : Nat} (ha : a ≤ i.stops.length) (hb : b ≤ i.stops.length) :
    ∃ B o cap2 B2 o2, A4 = some ⟨B, o, none⟩ ∧ B < W.heap.size ∧ W.cell? ⟨B, o + a, none⟩ = some (.slice (some ⟨B2, o2, none⟩) (i.stops.length + 1) cap2) ∧ B2 < W.heap.size ∧ W.cell? ⟨B2, o2 + b, none⟩ = some (.int .i64 (way i a b)) := by
  obtain ⟨A, cap, B, o, X2, cap2, B2, o2, e, rfl, hB, h1, rfl, hB2, h2⟩ := (said_trav h).way hf ha hb
  injection e with e _ _
  exact ⟨B, o, cap2, B2, o2, e, hB, h1, hB2, h2⟩
theorem said_stop {W : World} {A1 A2 A3 A4 : Option Addr} {c1 c2 c3 c4 : Nat} {i : Prob} (h : Said W A1 A2 A3 A4 c1 c2 c3 c4 i) {q : Nat} (hq : q < i.stops.length) : ∃ B o, A2 = some ⟨B, o, none⟩ ∧ B < W.heap.size ∧
    W.cell? ⟨B, o + q * 4, none⟩ = some (.int .i64 (stopAt i ((q : Int) + 1)).d) ∧ W.cell? ⟨B, o + q * 4 + 1, none⟩ = some (.int .i64 (stopAt i ((q : Int) + 1)).o) ∧
    W.cell? ⟨B, o + q * 4 + 2, none⟩ = some (.int .i64 (stopAt i ((q : Int) + 1)).c) ∧ W.cell? ⟨B, o + q * 4 + 3, none⟩ = some (.int .i64 (stopAt i ((q : Int) + 1)).s) := by
  obtain ⟨A, cap, B, o, e, rfl, hB, h1⟩ := Lies.stop h hq
  injection e with e _ _
  exact ⟨B, o, e, hB, h1⟩
theorem said_car {W : World} {A1 A2 A3 A4 : Option Addr} {c1 c2 c3 c4 : Nat} {i : Prob} (h : Said W A1 A2 A3 A4 c1 c2 c3 c4 i) {q : Nat} (hq : q < i.cars.length) : ∃ B o, A1 = some ⟨B, o, none⟩ ∧ B < W.heap.size ∧
    W.cell? ⟨B, o + q * 3, none⟩ = some (.int .i64 (carAt i (q : Int)).c) ∧ W.cell? ⟨B, o + q * 3 + 1, none⟩ = some (.int .i64 (carAt i (q : Int)).s) ∧ W.cell? ⟨B, o + q * 3 + 2, none⟩ = some (.int .i64 (carAt i (q : Int)).e) := by
  obtain ⟨A, cap, B, o, e, rfl, hB, h1⟩ := Lies.car h hq
  injection e with e _ _
  exact ⟨B, o, e, hB, h1⟩
theorem said_pair {W : World} {A1 A2 A3 A4 : Option Addr} {c1 c2 c3 c4 : Nat} {i : Prob} (h : Said W A1 A2 A3 A4 c1 c2 c3 c4 i) {q : Nat} (hq : q < i.pairs.length) : ∃ B o, A3 = some ⟨B, o, none⟩ ∧ B < W.heap.size ∧
    W.cell? ⟨B, o + q * 2, none⟩ = some (.int .i64 i.pairs[q].a) ∧ W.cell? ⟨B, o + q * 2 + 1, none⟩ = some (.int .i64 i.pairs[q].b) := by
  obtain ⟨a, b, c, d, e, _, _, ⟨A, cap, hv, hP⟩, _⟩ := h
  injection e with e
  injection e with e
  injection e with _ e
  injection e with _ e
  injection e with e _
  obtain ⟨B, o, rfl, hB, hc⟩ := hP q hq
  rw [hv] at e
  injection e with e _ _
  exact ⟨B, o, e, hB, hc 0 (by omega), hc 1 (by omega)⟩
end Go.Proofs.Ytgkieelacjcopaa
namespace Go.Proofs.Ytgkieelacjcopaa
open Go.RowKit
set_option linter.unusedSimpArgs false

theorem Recs.drewN {α : Type} {W : World} {c : Nat} {g : α → Nat → Int} {v : Value} {l : List α} (h : Recs W c g v l) (n : Nat) : Recs (W.drewN n) c g v l := h.below (below_draws' (Below.refl _ _) n)

def wakeProb : Prob := ⟨[⟨0, 2, 5⟩], [], [], [[0]]⟩
theorem wake_lies {w : World} {S : Nat} (h0 : Blk w S (ints [0, 2, 5])) (h1 : Blk w (S + 1) (ints [0])) (h2 : Blk w (S + 1 + 1) [.slice (some ⟨S + 1, 0, none⟩) 1 1]) :
    Lies w (.agg #[.slice (some ⟨S, 0, none⟩) 1 1, .slice none 0 0, .slice none 0 0, .slice (some ⟨S + 1 + 1, 0, none⟩) 1 1]) wakeProb :=
  ⟨_, _, _, _, rfl, h0.car _, Recs.nil, Recs.nil, h2.trav [[0]] 1 fun k hk => by
    match k, hk with
    | 0, _ => exact ⟨_, rfl, h1.recs 1 num_ [0] 1 fun k hk j hj => by
        match k, hk, j, hj with
        | 0, _, 0, _ => rfl⟩⟩
/-- a slice of numbers, as an append reads it -/
theorem Recs.reads {w : World} {A : Option Addr} {cap : Nat} {r : List Int} (h : Recs w 1 num_ (.slice A r.length cap) r) : Reads w w.heap.size 1 A r.length (ints r) := by
  obtain ⟨A', cap', e, hc⟩ := h.num
  injection e with e1 _ e3
  subst e1 e3
  refine ⟨by simp [ints], fun hpos => ?_⟩
  obtain ⟨B, o, rfl, hB, _⟩ := hc 0 hpos
  refine ⟨_, rfl, hB, fun j u hu => ?_⟩
  simp only [ints, List.getElem?_map, Option.map_eq_some_iff] at hu
  obtain ⟨y, hy, rfl⟩ := hu
  obtain ⟨hj, rfl⟩ := List.getElem?_eq_some_iff.1 hy
  obtain ⟨B', o', e', _, hcell⟩ := hc j hj
  injection e' with e'
  injection e' with e1 e2 _
  subst e1 e2
  have ha : (⟨B, o, none⟩ : Addr).add j = ⟨B, o + j, none⟩ := by unfold Addr.add; split <;> simp_all
  rw [ha]
  exact hcell
end Go.Proofs.Ytgkieelacjcopaa
namespace Go.Proofs.Ytgkieelacjcopaa
open Go.RowKit
set_option linter.unusedSimpArgs false

theorem eval_some {i : Prob} {c : Int} {l : List Int} {t : TripR} (h : evalL i c l = some t) : thereB i l = true ∧ nodupL [] l = true ∧ pairsL i.pairs [] 0 l = true ∧ t.cost = costL i 0 l ∧ costP i l = costL i 0 l ∧ driveL i (carAt i c) 0 (carAt i c).s 0 l = some ⟨t.arr, t.load, t.home⟩ ∧ t.arr.length = l.length ∧ t.load.length = l.length := by
  unfold evalL at h
  split at h
  · next hc =>
    rw [Option.map_eq_some_iff] at h
    obtain ⟨d, hd, rfl⟩ := h
    simp only [Bool.and_eq_true] at hc
    obtain ⟨h1, h2⟩ := drive_len hd
    exact ⟨hc.1.1.2, hc.1.2, hc.2, rfl, by unfold costP; rw [if_pos hc.1.1.2], hd, h1, h2⟩
  · cases h
theorem drive_step {i : Prob} {c : Car} {last left ld : Int} {r arr load : List Int} {home : Int} {k : Nat} (hk : k < r.length) (ha : k < arr.length) (hl : k < load.length) (h : driveL i c last left ld (r.drop k) = some ⟨arr.drop k, load.drop k, home⟩) :
    arr[k] = begun i last left r[k] ∧ load[k] = ld + (stopAt i r[k]).d ∧ begun i last left r[k] ≤ (stopAt i r[k]).c ∧ 0 ≤ ld + (stopAt i r[k]).d ∧ ld + (stopAt i r[k]).d ≤ c.c ∧
      driveL i c r[k] (begun i last left r[k] + (stopAt i r[k]).s) (ld + (stopAt i r[k]).d) (r.drop (k + 1)) = some ⟨arr.drop (k + 1), load.drop (k + 1), home⟩ := by
  rw [driveL_drop hk] at h
  split at h
  · cases h
  · next hn =>
    rw [Option.map_eq_some_iff] at h
    obtain ⟨d, hd, he⟩ := h
    rw [drop_at ha, drop_at hl] at he
    simp only [Drive.more, List.cons_append, List.nil_append, Drive.mk.injEq, List.cons.injEq] at he
    obtain ⟨⟨h1, h2⟩, ⟨h3, h4⟩, h5⟩ := he
    refine ⟨h1.symm, h3.symm, by omega, by omega, by omega, ?_⟩
    rw [hd, ← h2, ← h4, ← h5]
theorem drive_end {i : Prob} {c : Car} {last left ld : Int} {arr load : List Int} {home : Int} (h : driveL i c last left ld [] = some ⟨arr, load, home⟩) : home = left + way i last 0 ∧ home ≤ c.e := by
  simp only [driveL] at h
  split at h
  · cases h
  · next hn =>
    injection h with h
    simp only [Drive.mk.injEq] at h
    omega
/-- the variable i and the row r, in a world that stands on w -/
structure Two (w W : World) (I : Nat) (A1 A2 A3 A4 : Option Addr) (c1 c2 c3 c4 : Nat) (i : Prob) (A : Option Addr) (cap : Nat) (r : List Int) : Prop where
  below : Below w.heap.size w W
  box : Box W I A1 A2 A3 A4 c1 c2 c3 c4 i
  row : Recs W 1 num_ (.slice A r.length cap) r
theorem Two.on {w W W' : World} {I : Nat} {A1 A2 A3 A4 : Option Addr} {c1 c2 c3 c4 : Nat} {i : Prob} {A : Option Addr} {cap : Nat} {r : List Int} (h : Two w W I A1 A2 A3 A4 c1 c2 c3 c4 i A cap r) (hb : Below W.heap.size W W') : Two w W' I A1 A2 A3 A4 c1 c2 c3 c4 i A cap r :=
  ⟨h.below.trans (hb.mono h.below.size), h.box.below hb, h.row.below hb⟩

/-- a trip in a variable, its rows -/
structure TrAt (W : World) (T : Nat) (A1 : Option Addr) (n1 c1 : Nat) (A2 : Option Addr) (n2 c2 : Nat) (t : TripR) : Prop where
  lt : T < W.heap.size
  b0 : W.cell? ⟨T, 0, none⟩ = some (.slice A1 n1 c1)
  b1 : W.cell? ⟨T, 1, none⟩ = some (.slice A2 n2 c2)
  b2 : W.cell? ⟨T, 2, none⟩ = some (.int .i64 t.cost)
  b3 : W.cell? ⟨T, 3, none⟩ = some (.int .i64 t.home)
  e1 : n1 = t.arr.length
  e2 : n2 = t.load.length
  l1 : n1 ≤ c1
  l2 : n2 ≤ c2
  r1 : Recs W 1 num_ (.slice A1 t.arr.length c1) t.arr
  r2 : Recs W 1 num_ (.slice A2 t.load.length c2) t.load
theorem TrAt.below {W W' : World} {T : Nat} {A1 A2 : Option Addr} {n1 c1 n2 c2 : Nat} {t : TripR} (h : TrAt W T A1 n1 c1 A2 n2 c2 t) (hb : Below W.heap.size W W') : TrAt W' T A1 n1 c1 A2 n2 c2 t :=
  ⟨Nat.lt_of_lt_of_le h.lt hb.size, cell_up hb h.lt h.b0, cell_up hb h.lt h.b1, cell_up hb h.lt h.b2, cell_up hb h.lt h.b3, h.e1, h.e2, h.l1, h.l2, h.r1.below hb, h.r2.below hb⟩
theorem tr_new {W : World} {C : Nat} {o : Option TripR} {A1 A2 : Option Addr} {n1 c1 n2 c2 : Nat} {c h : Int} (H : TripV W C o A1 n1 c1 A2 n2 c2 c h true) (ty : TypeId) :
    ∃ t, o = some t ∧ c = t.cost ∧ h = t.home ∧ TrAt (W.alloc (.cells #[.slice A1 n1 c1, .slice A2 n2 c2, .int .i64 c, .int .i64 h] ty)) W.heap.size A1 n1 c1 A2 n2 c2 t := by
  obtain ⟨r, h1, h2, h3, h4, h5, h6, h7, h8, h9⟩ := H.yes rfl
  have hb : Below W.heap.size W (W.alloc (.cells #[.slice A1 n1 c1, .slice A2 n2 c2, .int .i64 c, .int .i64 h] ty)) := (Below.refl _ _).alloc (Nat.le_refl _) _
  refine ⟨r, h1, h4, h5, by simp, by simp, by simp, ?_, ?_, h2, h3, h6, h7, h8.below hb, h9.below hb⟩
  · rw [← h4]; simp
  · rw [← h5]; simp
end Go.Proofs.Ytgkieelacjcopaa
