/- draymanplay.Row: some stops in some order, in new memory. -/
import Derived.Test.YtkheepedjoimmaaTripEval
import Derived.Test.YtkheepedjoimmaaBoxes
namespace Go.Proofs.Ytkheepedjoimmaa
open Go.RowKit
set_option linter.unusedSimpArgs false

/-- some row of few numbers, in new memory -/
def RowEnd (w : World) (e : Ending) (w' : World) : Prop := ∃ r A cap, e = .returned (.slice A r.length cap) ∧ r.length ≤ 14 ∧ r.length ≤ cap ∧ (∀ x ∈ r, -2 ≤ x ∧ x ≤ 17) ∧ Recs w' 1 num_ (.slice A r.length cap) r ∧ Fresh w.heap.size A ∧ Below w.heap.size w w'
theorem within_q (v n : Int) (w : World) (h1 : 1 ≤ n) (h2 : n ≤ 9223372036854775807) (r : Int) (hr : withinI v n = r) :
    Calls Try.prog 11 #[.int .i64 v, .int .i64 n] w fun e w' => e = .returned (.int .i64 r) ∧ w' = w := by
  refine (within_any v n w h1 h2).mono ?_
  rintro e w' ⟨rfl, rfl⟩
  exact ⟨by rw [hr], rfl⟩

theorem row_snoc {w : World} {B : Nat} {v : Value} {r : List Int} {m : Int} (h : w.ownsRow B 3 1 v (r.length + 1) (ints r ++ [.int .i64 m])) : w.ownsRow B 3 1 v (r ++ [m]).length (ints (r ++ [m])) := by
  simpa [ints] using h
theorem mem_snoc {r : List Int} {s : Int} (h : ∀ x ∈ r, -2 ≤ x ∧ x ≤ 17) (h1 : -2 ≤ s) (h2 : s ≤ 17) : ∀ x ∈ r ++ [s], -2 ≤ x ∧ x ≤ 17 := by
  intro x hx
  rcases List.mem_append.1 hx with hx | hx
  · exact h x hx
  · simp at hx; subst hx; exact ⟨h1, h2⟩
theorem own_is {w : World} {B n k c : Nat} {A : Option Addr} {xs : List Value} (h : w.ownsRow B 3 1 (.slice A n c) k xs) : n = k := by
  rcases h.2 with ⟨h, h0⟩ | ⟨_, _, _, h, _⟩
  · injection h with _ h _; omega
  · injection h

set_option maxRecDepth 100000 in
set_option maxHeartbeats 8000000 in
theorem row_any (v u : Value) (i : Prob) (l : List Int) (w : World) (h : Lies w v i) (hok : probOk i = true) (hp : i.pairs.length ≤ 1000000) (h2 : 2 ≤ i.stops.length) (hr : Recs w 1 num_ u l) (_hl : l.length ≤ 9223372036854775807) :
    Calls Try.prog 12 #[v, u] w (RowEnd w) := by
  have h' := h
  obtain ⟨vc, vs, vp, vt, rfl, _, hvs, _, _⟩ := h'
  obtain ⟨A, cap, rfl, hc⟩ := hr.num
  have hf := fine_of hok
  have hst := hf.stops
  have HL := Lib.hid h
  have HF := Lib.hid hf
  have HC := Lib.hid hc
  obtain ⟨As, caps, rfl, _⟩ := hvs
  obtain ⟨i0, hi0, hz0, hz1, hz2⟩ := info_parts int_info
  clear h hf hr hc hok
  have BX := Lib.hid (blk_new w #[vc, .slice As i.stops.length caps, vp, vt] 28)
  have HB0 := Lib.hid ((Below.refl _ _).alloc (Nat.le_refl _) (.cells #[vc, .slice As i.stops.length caps, vp, vt] 28) : Below w.heap.size w _)
  go_enter Try.func12, Try.ntmps12
  go_wp2
  generalize w.alloc (.cells #[vc, .slice As i.stops.length caps, vp, vt] 28) = w0 at *
  have hz00 := BX.out.1
  go_loopw [6, 7] (fun ov kv wr => ∃ (k : Nat) (r : List Int), k ≤ 7 ∧ kv = .int .i64 k ∧ r.length ≤ 2 * k ∧ (∀ x ∈ r, -2 ≤ x ∧ x ≤ 17) ∧ wr.ownsRow (w.heap.size + 1) 3 1 ov r.length (ints r) ∧ Below (w.heap.size + 1) w0 wr) (fun _ kv _ => 7 - (intOf kv).toNat)
  case atStart => exact ⟨0, [], by omega, rfl, by simp, fun x hx => by simp at hx, ⟨rfl, .inl ⟨rfl, rfl⟩⟩, Below.refl _ _⟩
  case round =>
    obtain ⟨k, r, hk, rfl, hrl, hrx, hown, hb⟩ := hrel
    have HX := Lib.hid hrx
    have HO := Lib.hid hown
    have HB := Lib.hid hb
    have HBW : Hid (Below w.heap.size w wr) := HB0.out.trans (hb.mono (by omega))
    have BXr := Lib.hid (BX.out.keep hb (by omega))
    have hzr := BXr.out.1
    obtain ⟨xo, no, co, rfl⟩ := own_slice hown
    obtain ⟨Xo, Co, hvo, _, hro, _⟩ := own_nums hown
    obtain ⟨rfl, rfl, rfl⟩ : xo = Xo ∧ no = r.length ∧ co = Co := by injection hvo with a b c; exact ⟨a, b, c⟩
    have RO := Lib.hid hro.num
    clear hrx hown hb hvo hro
    by_cases hgo : k < l.length ∧ k < 7
    · obtain ⟨hlt, hk7⟩ := hgo
      obtain ⟨B, o, rfl, hB, hcell⟩ := HC.out k hlt
      have c0 : wr.cell? ⟨B, o + k, none⟩ = some (.int .i64 l[k]) := by rw [HBW.out.cell hB]; exact hcell
      have C0 := Lib.hid hcell
      have k1 := BXr.out.c1
      generalize l[k] = x at *
      have hBr : B < wr.heap.size := Nat.lt_of_lt_of_le hB HBW.out.size
      have tl : ((k : Int) < (l.length : Int)) := by omega
      obtain ⟨s0, hs0, hs0l⟩ := within_nat x i.stops.length (by omega)
      have hmx : (if (i.stops.length : Int) < 1 then 1 else (i.stops.length : Int)) = (i.stops.length : Int) := if_neg (by omega)
      have hws : IntKind.i64.wrap (1 + (s0 : Int)) = 1 + (s0 : Int) := IntWalk.i64_in _ (by omega)
      have K0 := Lib.hid (fun W => within_q x i.stops.length W (by omega) (by omega) _ hs0)
      clear hs0 hcell
      go_upto_region 6 with (fail)
      go_quiet ((go_at_call 11; (with_reducible exact Calls.quiet_of_same (K0.out _))))
      go_upto_region 7 with (fail)
      obtain ⟨s1, hs1, hs1l⟩ := within_nat (wrap64 (x.tdiv 20)) 40 (by omega)
      obtain ⟨s2, hs2, hs2l⟩ := within_nat x 20 (by omega)
      have K1 := Lib.hid (fun W => within_q (wrap64 (x.tdiv 20)) 40 W (by omega) (by omega) _ hs1)
      have K2 := Lib.hid (fun W => within_q x 20 W (by omega) (by omega) _ hs2)
      clear hs1 hs2
      go_wp2_with (go_at_call 11; fail)
      (with_reducible refine (K1.out _).mono ?_)
      rintro e w2 ⟨rfl, rfl⟩
      go_upto_if 41 with (fail)
      go_cut [8] from 13 to 101 (fun sv wx => ∃ s : Int, sv = .int .i64 s ∧ -2 ≤ s ∧ s ≤ 17 ∧ wx = wr.drewN nq)
      case first =>
        by_cases h39 : s1 = 39
        · subst h39
          go_wp2_with (go_at_call 11; fail)
          (with_reducible refine (K2.out _).mono ?_)
          rintro e w2 ⟨rfl, rfl⟩
          go_wp2_with fail
          go_meet
          exact ⟨(s2 : Int) - 2, by go_num, by omega, by omega, rfl⟩
        · have t1 : ((s1 : Int) == 39) = false := by simp; omega
          go_wp2_with fail
          go_meet
          exact ⟨1 + (s0 : Int), by go_num, by omega, by omega, rfl⟩
      case rest =>
        obtain ⟨s, rfl, hsa, hsb, rfl⟩ := hcut
        clear K0 K1 K2
        have c0' : (wr.drewN nq).cell? ⟨B, o + k, none⟩ = some (.int .i64 x) := c0
        have k1' : (wr.drewN nq).cell? ⟨w.heap.size, 1, none⟩ = some (.slice As i.stops.length caps) := k1
        have HO2 := Lib.hid (own_draws HO.out nq)
        have HB2 := Lib.hid (below_draws' HB.out nq)
        have HBW2 := Lib.hid (below_draws' HBW.out nq)
        have BX2 := Lib.hid (BXr.out.below (below_draws' (Below.refl _ _) nq))
        have RO2 : Hid (∃ A cap, Value.slice xo r.length co = .slice A r.length cap ∧ ∀ k (h : k < r.length), ∃ B o, A = some ⟨B, o, none⟩ ∧ B < (wr.drewN nq).heap.size ∧ (wr.drewN nq).cell? ⟨B, o + k, none⟩ = some (.int .i64 r[k])) := RO.out
        have hB2 : B < (wr.drewN nq).heap.size := hBr
        clear HO HB HBW BXr RO hBr c0 k1 hzr
        generalize wr.drewN nq = wq at *
        have hzr := BX2.out.1
        go_wp2_with fail
        go_loopw [9, 51] (fun bv jv wv => ∃ (j : Nat) (b : Bool), j ≤ r.length ∧ bv = .bool b ∧ jv = .int .i64 j ∧ wq = wv) (fun _ jv _ => r.length - (intOf jv).toNat)
        case atStart => exact ⟨0, false, Nat.zero_le _, rfl, rfl, rfl⟩
        case round =>
          obtain ⟨j, b, hj, rfl, rfl, rfl⟩ := hrel
          by_cases hjl : j < r.length
          · obtain ⟨A1, cap1, he1, hc1⟩ := RO2.out
            obtain ⟨rfl, rfl⟩ : xo = A1 ∧ co = cap1 := by injection he1 with a _ c; exact ⟨a, c⟩
            obtain ⟨B1, o1, rfl, hB1, d1⟩ := hc1 j hjl
            generalize r[j] = y at *
            clear he1 hc1
            cases b
            · go_wp2
              go_roundw
              case rel => exact ⟨j + 1, _, by omega, rfl, by go_num, (by first | trivial | rfl)⟩
              case measure => simp [intOf]; omega
            · go_wp2
              go_roundw
              case rel => exact ⟨j + 1, _, by omega, rfl, by go_num, (by first | trivial | rfl)⟩
              case measure => simp [intOf]; omega
          · obtain ⟨s1, hs1, hs1l⟩ := within_nat (wrap64 (x.tdiv 7)) 30 (by omega)
            obtain ⟨s2, hs2, hs2l⟩ := within_nat (wrap64 (x.tdiv 3)) 8 (by omega)
            have K1 := Lib.hid (fun W => within_q (wrap64 (x.tdiv 7)) 30 W (by omega) (by omega) _ hs1)
            have K2 := Lib.hid (fun W => within_q (wrap64 (x.tdiv 3)) 8 W (by omega) (by omega) _ hs2)
            clear hs1 hs2
            go_upto_region 15 with (fail)
            go_cut [73] from 13 to 101 (fun cv wx => ∃ c : Bool, cv = .bool c ∧ wq = wx)
            case first =>
              cases b
              · go_wp2_with fail
                go_meet
                exact ⟨_, rfl, (by first | trivial | rfl)⟩
              · go_wp2_with (go_at_call 11; fail)
                (with_reducible refine (K1.out _).mono ?_)
                rintro e w2 ⟨rfl, rfl⟩
                go_wp2_with fail
                go_meet
                exact ⟨_, rfl, (by first | trivial | rfl)⟩
            case rest =>
              obtain ⟨cb, rfl, rfl⟩ := hcut
              clear K1 RO2
              cases cb
              · go_wp2
                go_roundw
                case rel => exact ⟨k + 1, r, by omega, by go_num, by omega, HX.out, HO2.out, HB2.out⟩
                case measure => simp [intOf]; omega
              · have HBx := Lib.hid ((Below.refl _ _).alloc (Nat.le_refl _) (.cells #[.int .i64 s] 3) : Below wq.heap.size wq _)
                go_wp2_with (at_builtin; refine wpList_append_any _ rfl _ _ 22 rfl (w.heap.size + 1) 3 i0 _ 1 8 Try.underlying22 hi0 hz0 hz1 hz2 rfl (by decide) (.slice xo r.length co) r.length (ints r) rfl (own_below HO2.out HBx.out) (wq.heap.size + 1) (some ⟨wq.heap.size, 0, none⟩) 1 1 [.int .i64 s] rfl (reads_new wq [.int .i64 s] 3) ?c1 ?c2 ?c3 ?c4 ?_)
                case c1 => first | rfl | (intro x hx; simp at hx; subst hx; rfl)
                case c2 => unfold maxLen; omega
                case c3 => omega
                case c4 => first | omega | (simp; omega)
                intro v' w2 hown' hgrow hob
                have HOc := Lib.hid hown'
                have HBc := Lib.hid ((HB2.out.alloc (by omega) (.cells #[.int .i64 s] 3)).grown hgrow (by simp; omega) (fun g hg => (own_typed HO2.out hg).2))
                have HBWc : Hid (Below w.heap.size w w2) := HB0.out.trans (HBc.out.mono (by omega))
                have BXc := Lib.hid (BX.out.keep HBc.out (by omega))
                obtain ⟨ao, n', cap', rfl⟩ := own_slice hown'
                have hn' := own_is hown'
                subst hn'
                clear hown' hgrow hob HO2 HB2 HBW2 BX2 HBx c0' k1' hB2 hzr
                have hBw : B < w2.heap.size := Nat.lt_of_lt_of_le hB HBWc.out.size
                have c0 : w2.cell? ⟨B, o + k, none⟩ = some (.int .i64 x) := by rw [HBWc.out.cell hB]; exact C0.out
                have g0 := BXc.out.c0
                have g1 := BXc.out.c1
                have g2 := BXc.out.c2
                have g3 := BXc.out.c3
                have hzc := BXc.out.1
                go_wp2_with (go_at_call 29; fail)
                (with_reducible refine (refmate_any _ i s w2 (HL.out.below HBWc.out) (by omega)).mono ?_)
                rintro e w3 ⟨rfl, hb3⟩
                have HO3 := Lib.hid (own_below (row_snoc HOc.out) hb3)
                have HB3 := Lib.hid (HBc.out.trans (hb3.mono (by omega)))
                have HBW3 : Hid (Below w.heap.size w w3) := HB0.out.trans (HB3.out.mono (by omega))
                have BX3 := Lib.hid (BX.out.keep HB3.out (by omega))
                have hm := mate_bound HF.out s
                have HX3 := Lib.hid (mem_snoc HX.out hsa hsb)
                clear hb3 HOc HBc HBWc BXc g0 g1 g2 g3 hzc c0 hBw
                have hB3 : B < w3.heap.size := Nat.lt_of_lt_of_le hB HBW3.out.size
                have c0 : w3.cell? ⟨B, o + k, none⟩ = some (.int .i64 x) := by rw [HBW3.out.cell hB]; exact C0.out
                have g0 := BX3.out.c0
                have g1 := BX3.out.c1
                have g2 := BX3.out.c2
                have g3 := BX3.out.c3
                have hzc := BX3.out.1
                generalize mateL s i.pairs = m at *
                by_cases hm0 : 0 < m
                · go_wp2_with (go_at_call 11; fail)
                  (with_reducible refine (K2.out _).mono ?_)
                  rintro e w4 ⟨rfl, rfl⟩
                  by_cases hs7 : s2 < 7
                  · have t1 : ((s2 : Int) < 7) := by omega
                    go_wp2_with (go_at_call 30; fail)
                    (with_reducible refine (reffirst_any _ i s _ (HL.out.below HBW3.out) (by omega)).mono ?_)
                    rintro e w4 ⟨rfl, hb4⟩
                    have HO4 := Lib.hid (own_below HO3.out hb4)
                    have HB4 := Lib.hid (HB3.out.trans (hb4.mono (by omega)))
                    have hz4 : w.heap.size < w4.heap.size := Nat.lt_of_lt_of_le hzc hb4.size
                    clear hb4 c0 g0 g1 g2 g3 HO3 HB3 BX3
                    cases hfb : firstL s i.pairs
                    · clear hfb
                      go_wp2
                      go_roundw
                      case rel => exact ⟨k + 1, r ++ [s], by omega, by go_num, by simp; omega, HX3.out, HO4.out, HB4.out⟩
                      case measure => simp [intOf]; omega
                    · clear hfb
                      have HX4 := Lib.hid (mem_snoc HX3.out (show -2 ≤ m by omega) (show m ≤ 17 by omega))
                      have hrl2 : (r ++ [s]).length = r.length + 1 := by simp
                      have HBx := Lib.hid ((Below.refl _ _).alloc (Nat.le_refl _) (.cells #[.int .i64 m] 3) : Below w4.heap.size w4 _)
                      go_wp2_with (at_builtin; refine wpList_append_any _ rfl _ _ 22 rfl (w.heap.size + 1) 3 i0 _ 1 8 Try.underlying22 hi0 hz0 hz1 hz2 rfl (by decide) (.slice ao (r.length + 1) cap') (r ++ [s]).length (ints (r ++ [s])) rfl (own_below HO4.out HBx.out) (w4.heap.size + 1) (some ⟨w4.heap.size, 0, none⟩) 1 1 [.int .i64 m] rfl (reads_new w4 [.int .i64 m] 3) ?e1 ?e2 ?e3 ?e4 ?_)
                      case e1 => first | rfl | (intro x hx; simp at hx; subst hx; rfl)
                      case e2 => unfold maxLen; omega
                      case e3 => omega
                      case e4 => first | omega | (simp; omega)
                      intro v' w5 hown' hgrow hob
                      have HO5 := Lib.hid (row_snoc (r := r ++ [s]) (m := m) (by rw [hrl2]; exact hown'))
                      have HB5 := Lib.hid ((HB4.out.alloc (by omega) (.cells #[.int .i64 m] 3)).grown hgrow (by simp; omega) (fun g hg => (own_typed HO4.out hg).2))
                      clear hown' hgrow hob
                      go_wp2
                      go_roundw
                      case rel => exact ⟨k + 1, r ++ [s] ++ [m], by omega, by go_num, by simp; omega, HX4.out, HO5.out, HB5.out⟩
                      case measure => simp [intOf]; omega
                  · have t1 : decide ((s2 : Int) < 7) = false := by simp; omega
                    go_wp2
                    go_roundw
                    case rel => exact ⟨k + 1, r ++ [s], by omega, by go_num, by simp; omega, HX3.out, HO3.out, HB3.out⟩
                    case measure => simp [intOf]; omega
                · have t1 : decide (m > 0) = false := by simp; omega
                  go_wp2
                  go_roundw
                  case rel => exact ⟨k + 1, r ++ [s], by omega, by go_num, by simp; omega, HX3.out, HO3.out, HB3.out⟩
                  case measure => simp [intOf]; omega
    · obtain ⟨Xo, Co, hvo, hle, hro, hfr⟩ := own_nums HO.out
      obtain ⟨rfl, rfl⟩ : xo = Xo ∧ co = Co := by injection hvo with a b c; exact ⟨a, c⟩
      have RR := Lib.hid (And.intro hro hfr)
      clear hvo hro hfr
      by_cases hlt : k < l.length
      · have tl : ((k : Int) < (l.length : Int)) := by omega
        have t7 : decide ((k : Int) < 7) = false := by simp; omega
        go_wp2
        go_ret
        exact ⟨r, xo, co, rfl, by omega, hle, HX.out, RR.out.1, RR.out.2.mono (by omega), HBW.out⟩
      · have tl : decide ((k : Int) < (l.length : Int)) = false := by simp; omega
        go_wp2
        go_ret
        exact ⟨r, xo, co, rfl, by omega, hle, HX.out, RR.out.1, RR.out.2.mono (by omega), HBW.out⟩
end Go.Proofs.Ytkheepedjoimmaa
