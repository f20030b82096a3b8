/- trip.drive: the trip, or that it can't be driven. -/
import Derived.Test.YtcllnfhjbfmomaaTripPairsW
import Derived.Test.YtcllnfhjbfmomaaTripBox
namespace Go.Proofs.Ytcllnfhjbfmomaa
open Go.RowKit
set_option linter.unusedSimpArgs false

/-- what a call answers: a trip in new memory and true, or nothing and false -/
def TripIs (w : World) (t : Option TripR) (e : Ending) (w' : World) : Prop := Below w.heap.size w w' ∧
  ((t = none ∧ e = .returned (.tuple #[.agg #[.slice none 0 0, .slice none 0 0, .int .i64 0, .int .i64 0], .bool false])) ∨
   ∃ r A1 c1 A2 c2, t = some r ∧ e = .returned (.tuple #[.agg #[.slice A1 r.arr.length c1, .slice A2 r.load.length c2, .int .i64 r.cost, .int .i64 r.home], .bool true]) ∧
     r.arr.length ≤ c1 ∧ r.load.length ≤ c2 ∧ Recs w' 1 num_ (.slice A1 r.arr.length c1) r.arr ∧ Recs w' 1 num_ (.slice A2 r.load.length c2) r.load ∧ Fresh w.heap.size A1 ∧ Fresh w.heap.size A2)
def tripOf (i : Prob) (c : Car) (l : List Int) : Option TripR := (driveL i c 0 c.s 0 l).map fun d => ⟨d.arr, d.load, costL i 0 l, d.home⟩
theorem nil4 {W : World} {R : Nat} (h : Blk W R [.slice none 0 0, .slice none 0 0, .int .i64 0, .int .i64 0]) :
    W.cell? ⟨R, 0, none⟩ = some (.slice none 0 0) ∧ W.cell? ⟨R, 1, none⟩ = some (.slice none 0 0) ∧ W.cell? ⟨R, 2, none⟩ = some (.int .i64 0) ∧ W.cell? ⟨R, 3, none⟩ = some (.int .i64 0) ∧
    W.frozen? ⟨R, 0, none⟩ = false ∧ W.frozen? ⟨R, 1, none⟩ = false ∧ W.frozen? ⟨R, 2, none⟩ = false ∧ W.frozen? ⟨R, 3, none⟩ = false :=
  ⟨(h.2 0 (by simp)).1, (h.2 1 (by simp)).1, (h.2 2 (by simp)).1, (h.2 3 (by simp)).1, (h.2 0 (by simp)).2, (h.2 1 (by simp)).2, (h.2 2 (by simp)).2, (h.2 3 (by simp)).2⟩
/-- the call's own variables at their places -/
structure Base (W : World) (S K R T : Nat) (vc vs vp vt : Value) (c : Car) : Prop where
  size : T < W.heap.size
  st : S < T
  kt : K < T
  rt : R < T
  box : Blk W S [vc, vs, vp, vt]
  car : Blk W K [.int .i64 c.c, .int .i64 c.s, .int .i64 c.e]
  res : Blk W R [.slice none 0 0, .slice none 0 0, .int .i64 0, .int .i64 0]
theorem cell_up {W W' : World} {C B k : Nat} {v : Value} (hb : Below C W W') (hC : B < C) (h : W.cell? ⟨B, k, none⟩ = some v) : W'.cell? ⟨B, k, none⟩ = some v := by rw [hb.cell hC]; exact h
theorem Blk.keep {W W' : World} {B C : Nat} {l : List Value} (h : Blk W B l) (hb : Below C W W') (hC : B < C) : Blk W' B l :=
  ⟨Nat.lt_of_lt_of_le h.1 hb.size, fun j hj => ⟨by rw [hb.cell hC]; exact (h.2 j hj).1, by rw [hb.frozen hC]; exact (h.2 j hj).2⟩⟩
theorem Base.keep {W W' : World} {S K R T : Nat} {vc vs vp vt : Value} {c : Car} (h : Base W S K R T vc vs vp vt c) (hb : Below T W W') : Base W' S K R T vc vs vp vt c :=
  ⟨Nat.lt_of_lt_of_le h.size hb.size, h.st, h.kt, h.rt, h.box.keep hb h.st, h.car.keep hb h.kt, h.res.keep hb h.rt⟩
theorem Blk.c0 {W : World} {B : Nat} {a : Value} {l : List Value} (h : Blk W B (a :: l)) : W.cell? ⟨B, 0, none⟩ = some a := (h.2 0 (by simp)).1
theorem Blk.c1 {W : World} {B : Nat} {a b : Value} {l : List Value} (h : Blk W B (a :: b :: l)) : W.cell? ⟨B, 1, none⟩ = some b := (h.2 1 (by simp)).1
theorem Blk.c2 {W : World} {B : Nat} {a b c : Value} {l : List Value} (h : Blk W B (a :: b :: c :: l)) : W.cell? ⟨B, 2, none⟩ = some c := (h.2 2 (by simp)).1
theorem Blk.c3 {W : World} {B : Nat} {a b c d : Value} {l : List Value} (h : Blk W B (a :: b :: c :: d :: l)) : W.cell? ⟨B, 3, none⟩ = some d := (h.2 3 (by simp)).1

theorem Lies.stop {W : World} {vc vs vp vt : Value} {i : Prob} (h : Lies W (.agg #[vc, vs, vp, vt]) i) {q : Nat} (hq : q < i.stops.length) : ∃ A cap B o, vs = .slice A i.stops.length cap ∧ A = some ⟨B, o, none⟩ ∧ B < W.heap.size ∧
    W.cell? ⟨B, o + q * 4, none⟩ = some (.int .i64 (stopAt i ((q : Int) + 1)).d) ∧ W.cell? ⟨B, o + q * 4 + 1, none⟩ = some (.int .i64 (stopAt i ((q : Int) + 1)).o) ∧
    W.cell? ⟨B, o + q * 4 + 2, none⟩ = some (.int .i64 (stopAt i ((q : Int) + 1)).c) ∧ W.cell? ⟨B, o + q * 4 + 3, none⟩ = some (.int .i64 (stopAt i ((q : Int) + 1)).s) := by
  obtain ⟨_, _, _, _, e, _, ⟨A, cap, hv, hc⟩, _, _⟩ := h
  injection e with e
  injection e with e
  injection e with _ e
  injection e with e _
  subst e
  obtain ⟨B, o, hA, hB, hcell⟩ := hc q hq
  rw [stopAt_nat i hq]
  exact ⟨A, cap, B, o, hv, hA, hB, hcell 0 (by omega), hcell 1 (by omega), hcell 2 (by omega), hcell 3 (by omega)⟩

set_option maxRecDepth 100000 in
set_option maxHeartbeats 8000000 in
theorem drive_any (v u : Value) (i : Prob) (c : Car) (l : List Int) (w : World) (h : Lies w v i) (hf : Fine i) (hr : Recs w 1 num_ u l) (hl : l.length ≤ 1000000) (ht : thereB i l = true) (hc0 : 0 ≤ c.c ∧ c.c ≤ 60 ∧ 0 ≤ c.s ∧ c.s ≤ 1000 ∧ c.e ≤ 1000) :
    Calls Try.prog 25 #[v, .agg #[.int .i64 c.c, .int .i64 c.s, .int .i64 c.e], u] w (TripIs w (tripOf i c l)) := by
  have h' := h
  obtain ⟨vc, vs, vp, vt, rfl, _, _, _, hT⟩ := h'
  obtain ⟨A, cap, rfl, hc⟩ := hr.num
  have HC := Lib.hid hc
  have HT := Lib.hid ht
  have HL := Lib.hid h
  have HF := Lib.hid hf
  have HR := Lib.hid hr
  have HTR := Lib.hid hT
  obtain ⟨i0, hi0, hz0, hz1, hz2⟩ := info_parts int_info
  have hst := hf.stops
  clear hc hr ht hf h hT
  go_enter Try.func25, Try.ntmps25
  go_wp2
  go_quiet (fail)
  go_wp2
  generalize hW0 : (((((w.alloc (.cells #[vc, vs, vp, vt] 34)).alloc (.cells #[.int .i64 c.c, .int .i64 c.s, .int .i64 c.e] 44)).alloc (.cells #[.slice none 0 0, .slice none 0 0, .int .i64 0, .int .i64 0] 26)).alloc (.cells #[.slice none 0 0, .slice none 0 0, .int .i64 0, .int .i64 0] 26)).drewN _) = W0
  have BS0 : Hid (Base W0 w.heap.size (w.heap.size + 1) (w.heap.size + 1 + 1) (w.heap.size + 1 + 1 + 1) vc vs vp vt c) := by
    rw [← hW0]
    exact ⟨by simp [go_sem], by omega, by omega, by omega, ((((blk_at _ _ (by simp)).alloc _).alloc _).alloc _), (((blk_at _ _ (by simp)).alloc _).alloc _), ((blk_at _ _ (by simp)).alloc _)⟩
  have TB0 : Hid (TB W0 (w.heap.size + 1 + 1 + 1) (w.heap.size + 1 + 1 + 1) 26 (.slice none 0 0) (.slice none 0 0) [] [] 0 0) := by
    rw [← hW0]
    have := tb_new (((w.alloc (.cells #[vc, vs, vp, vt] 34)).alloc (.cells #[.int .i64 c.c, .int .i64 c.s, .int .i64 c.e] 44)).alloc (.cells #[.slice none 0 0, .slice none 0 0, .int .i64 0, .int .i64 0] 26)) (ty := 26) (by decide) (w.heap.size + 1 + 1 + 1)
    have hz : (((w.alloc (.cells #[vc, vs, vp, vt] 34)).alloc (.cells #[.int .i64 c.c, .int .i64 c.s, .int .i64 c.e] 44)).alloc (.cells #[.slice none 0 0, .slice none 0 0, .int .i64 0, .int .i64 0] 26)).heap.size = w.heap.size + 1 + 1 + 1 := by simp
    rw [hz] at this
    exact this.below (below_draws' (Below.refl _ _) _)
  have HB0 : Hid (Below w.heap.size w W0) := by
    rw [← hW0]
    exact below_draws' (((((Below.refl _ _).alloc (Nat.le_refl _) _).alloc (by simp) _).alloc (by simp; omega) _).alloc (by simp; omega) _) _
  generalize hTT : w.heap.size + 1 + 1 + 1 = T at *
  generalize hRR : w.heap.size + 1 + 1 = R at *
  generalize hKK : w.heap.size + 1 = K at *
  have hS1 : w.heap.size < T := by omega
  have hRw : w.heap.size ≤ R := by omega
  clear hW0 hTT hRR hKK
  have HCB := Lib.hid hc0
  go_loopw [9, 10, 11, 20] (fun qv lv dv cv wr => ∃ (k q : Nat) (left ld : Int) (arr load : List Int) (va vl : Value), k ≤ l.length ∧ q ≤ i.stops.length ∧ qv = .int .i64 q ∧ lv = .int .i64 left ∧ dv = .int .i64 ld ∧ cv = .int .i64 k ∧ 0 ≤ left ∧ left ≤ 2000 ∧ 0 ≤ ld ∧ ld ≤ 60 ∧ arr.length = k ∧ load.length = k ∧
    driveL i c 0 c.s 0 l = (driveL i c q left ld (l.drop k)).map (Drive.more arr load) ∧ TB wr T T 26 va vl arr load 0 0 ∧ Below T W0 wr) (fun _ _ _ cv _ => l.length - (intOf cv).toNat)
  case atStart => exact ⟨0, 0, c.s, 0, [], [], _, _, Nat.zero_le _, Nat.zero_le _, rfl, rfl, rfl, rfl, by omega, by omega, by omega, by omega, rfl, rfl, by rw [more_nil]; rfl, TB0.out, Below.refl _ _⟩
  case round =>
    obtain ⟨k, q, left, ld, arr, load, va, vl, hk, hq, rfl, rfl, rfl, rfl, hl0, hl1, hd0, hd1, ha, hb', he, htb, hb⟩ := hrel
    have HA := Lib.hid ha
    have HLd := Lib.hid hb'
    have BS := Lib.hid (BS0.out.keep hb)
    have TBr := Lib.hid htb
    have HBT := Lib.hid hb
    have HBW : Hid (Below w.heap.size w wr) := HB0.out.trans (hb.mono (by omega))
    have hzT := BS.out.size
    have hsT := BS.out.st
    have hkT := BS.out.kt
    have hrT := BS.out.rt
    have e1 := BS.out.box.c1
    have e3 := BS.out.box.c3
    have k0 := BS.out.car.c0
    have k2 := BS.out.car.c2
    clear ha hb' htb hb
    by_cases hlt : k < l.length
    · obtain ⟨B, o, rfl, hB, hcell⟩ := HC.out k hlt
      rw [driveL_drop hlt] at he
      have c0 : wr.cell? ⟨B, o + k, none⟩ = some (.int .i64 l[k]) := by rw [HBW.out.cell hB]; exact hcell
      obtain ⟨p, hp, hpe⟩ := thereB_at HT.out hlt
      rw [hpe] at c0 he
      have hwb := way_bounds HF.out (q : Int) ((p : Int) + 1)
      obtain ⟨A1, c1, B1, o1, A2, c2, B2, o2, rfl, rfl, hB1, d1, rfl, hB2, d2⟩ := (HTR.out.below HBW.out).way HF.out (a := q) (b := p + 1) hq (by omega)
      rw [show ((p + 1 : Nat) : Int) = (p : Int) + 1 by omega] at d2
      obtain ⟨A4, c4, B4, o4, rfl, rfl, hB4, s0, s1, s2, s3⟩ := (HL.out.below HBW.out).stop hp
      have hsb := stopAt_bounds HF.out ((p : Int) + 1)
      have HE := Lib.hid he
      clear he hcell hpe
      unfold begun at HE
      generalize stopAt i ((p : Int) + 1) = st at *
      obtain ⟨sd, so, sc, ss⟩ := st
      simp only at s0 s1 s2 s3 hsb HE
      generalize way i (q : Int) ((p : Int) + 1) = y at *
      go_upto_region 7 with (fail)
      have BQ := Lib.hid (lb_new wr #[.int .i64 sd, .int .i64 so, .int .i64 sc, .int .i64 ss] 46)
      have HBa := Lib.hid ((Below.refl _ _).alloc (Nat.le_refl _) (.cells #[.int .i64 sd, .int .i64 so, .int .i64 sc, .int .i64 ss] 46) : Below wr.heap.size wr _)
      generalize wr.alloc (.cells #[.int .i64 sd, .int .i64 so, .int .i64 sc, .int .i64 ss] 46) = wa at *
      have hzQ := BQ.out.1.1
      have b0 := BQ.out.1.c0
      have b1 := BQ.out.1.c1
      have b2 := BQ.out.1.c2
      have b3 := BQ.out.1.c3
      replace e1 := cell_up HBa.out (by omega) e1
      replace e3 := cell_up HBa.out (by omega) e3
      replace k0 := cell_up HBa.out (by omega) k0
      replace k2 := cell_up HBa.out (by omega) k2
      replace d1 := cell_up HBa.out (by omega) d1
      replace d2 := cell_up HBa.out (by omega) d2
      clear s0 s1 s2 s3 c0
      go_quiet (fail)
      go_upto_region 8 with (fail)
      generalize hbe : (if so < left + y then left + y else so) = b at *
      have hmx : max so (left + y) = b := by rw [← hbe]; split <;> omega
      rw [hmx] at HE
      have hb0 : 0 ≤ b := by omega
      have hb1 : b ≤ 3000 := by omega
      clear hbe hmx hwb
      have HBa2 := Lib.hid (below_draws' HBa.out nq)
      have BQ2 := Lib.hid (BQ.out.below (below_draws' (Below.refl _ _) nq))
      by_cases hbad : sc < b ∨ ld + sd < 0 ∨ c.c < ld + sd
      · rw [if_pos hbad] at HE
        have HN : Hid (tripOf i c l = none) := by show _ = _; unfold tripOf; rw [HE.out]; rfl
        have BSb := Lib.hid (BS.out.keep (HBa.out.mono (by omega)))
        have HBf := Lib.hid (HBW.out.trans (HBa2.out.mono HBW.out.size))
        clear HE BQ
        obtain ⟨r0, r1, r2, r3, f0, f1, f2, f3⟩ := nil4 BSb.out.res
        have hRz := BSb.out.res.1
        rcases (show sc < b ∨ (b ≤ sc ∧ ld + sd < 0) ∨ (b ≤ sc ∧ 0 ≤ ld + sd ∧ c.c < ld + sd) by omega) with hx1 | ⟨hx1, hx2⟩ | ⟨hx1, hx2, hx3⟩
        all_goals
          clear hbad
          go_wp2
          refine bodyPost_ret (v := .tuple #[.agg #[.slice none 0 0, .slice none 0 0, .int .i64 0, .int .i64 0], .bool false]) (by simp [results, Try.results25, go_sem, r0, r1, r2, r3]) rfl ⟨?_, .inl ⟨HN.out, rfl⟩⟩
          exact (((HBf.out.setCell (p := ⟨R, 0, none⟩) hRw _).setCell (p := ⟨R, 1, none⟩) hRw _).setCell (p := ⟨R, 2, none⟩) hRw _).setCell (p := ⟨R, 3, none⟩) hRw _
      · rw [if_neg hbad] at HE
        obtain ⟨hx1, hx2, hx3⟩ : b ≤ sc ∧ 0 ≤ ld + sd ∧ ld + sd ≤ c.c := by omega
        clear hbad
        go_upto_region 11 with (fail)
        generalize wa.drewN nq = wb at *
        have TBb := Lib.hid (TBr.out.below HBa2.out)
        have hbz : wr.heap.size < wb.heap.size := BQ2.out.1.1
        have q0 := TBb.out.cells.1
        have qf := TBb.out.cells.2.2.2.2 0
        have q1 := TBb.out.cells.2.1
        obtain ⟨xa, na, ca, rfl⟩ := own_slice TBb.out.arr
        obtain ⟨xl, nl, cl, rfl⟩ := own_slice TBb.out.load
        clear e1 e3 k0 k2 d1 d2 b0 b1 b2 b3
        have HBx := Lib.hid ((Below.refl _ _).alloc (Nat.le_refl _) (.cells #[.int .i64 b] 3) : Below wb.heap.size wb _)
        go_wp2_with (at_builtin; refine wpList_append_any _ rfl _ _ 22 rfl T 3 i0 _ 1 8 Try.underlying22 hi0 hz0 hz1 hz2 rfl (by decide) (.slice xa na ca) arr.length (ints arr) rfl (own_below TBb.out.arr HBx.out) (wb.heap.size + 1) (some ⟨wb.heap.size, 0, none⟩) 1 1 [.int .i64 b] rfl (reads_new wb [.int .i64 b] 3) ?c1 ?c2 ?c3 ?c4 ?_)
        case c1 => first | rfl | (intro x hx; simp at hx; subst hx; rfl)
        case c2 => rw [HA.out]; unfold maxLen; omega
        case c3 => rw [HA.out]; omega
        case c4 => first | omega | (simp; omega)
        intro v' w2 hown' hgrow hob
        have TBc := Lib.hid ((TBb.out.below HBx.out).put_arr hown' hgrow (by rcases hob with h | h; exact .inl h; exact .inr (by rw [h]; simp)))
        have HBc := Lib.hid ((((HBT.out.trans (HBa2.out.mono (by omega))).alloc (by omega) (.cells #[.int .i64 b] 3)).grown hgrow (by simp; omega) (fun g hg => (own_typed TBb.out.arr hg).2)).setCell (p := ⟨T, 0, none⟩) (Nat.le_refl _) v')
        obtain ⟨hz2, g0, gf⟩ := (TBb.out.below HBx.out).at_arr hgrow
        have BQc := Lib.hid (((BQ2.out.below HBx.out).grown hgrow (own_row_typed (own_below TBb.out.arr HBx.out) (by decide))).other (R := T) (by omega) 0 v')
        obtain ⟨ao, n', cap', rfl⟩ := own_slice hown'
        clear hown' hgrow hob q0 qf
        go_upto_region 12 with (fail)
        generalize w2.setCell ⟨T, 0, none⟩ (.slice ao n' cap') = wc at *
        clear hz2 g0 gf
        have hcz : wr.heap.size < wc.heap.size := BQc.out.1.1
        have q1 := TBc.out.cells.2.1
        have qf := TBc.out.cells.2.2.2.2 1
        have HBy := Lib.hid ((Below.refl _ _).alloc (Nat.le_refl _) (.cells #[.int .i64 (ld + sd)] 3) : Below wc.heap.size wc _)
        go_wp2_with (at_builtin; refine wpList_append_any _ rfl _ _ 22 rfl T 3 i0 _ 1 8 Try.underlying22 hi0 hz0 hz1 hz2 rfl (by decide) (.slice xl nl cl) load.length (ints load) rfl (own_below TBc.out.load HBy.out) (wc.heap.size + 1) (some ⟨wc.heap.size, 0, none⟩) 1 1 [.int .i64 (ld + sd)] rfl (reads_new wc [.int .i64 (ld + sd)] 3) ?e1 ?e2 ?e3 ?e4 ?_)
        case e1 => first | rfl | (intro x hx; simp at hx; subst hx; rfl)
        case e2 => rw [HLd.out]; unfold maxLen; omega
        case e3 => rw [HLd.out]; omega
        case e4 => first | omega | (simp; omega)
        intro v' w3 hown' hgrow hob
        have TBd := Lib.hid ((TBc.out.below HBy.out).put_load hown' hgrow (by rcases hob with h | h; exact .inl h; exact .inr (by rw [h]; simp)))
        have HBd := Lib.hid (((HBc.out.alloc (by omega) (.cells #[.int .i64 (ld + sd)] 3)).grown hgrow (by simp; omega) (fun g hg => (own_typed TBc.out.load hg).2)).setCell (p := ⟨T, 1, none⟩) (Nat.le_refl _) v')
        obtain ⟨hz2, g0, gf⟩ := (TBc.out.below HBy.out).at_load hgrow
        have BQd := Lib.hid (((BQc.out.below HBy.out).grown hgrow (own_row_typed (own_below TBc.out.load HBy.out) (by decide))).other (R := T) (by omega) 1 v')
        obtain ⟨al, m', capl, rfl⟩ := own_slice hown'
        clear hown' hgrow hob q1 qf
        go_upto_region 13 with (fail)
        generalize w3.setCell ⟨T, 1, none⟩ (.slice al m' capl) = wd at *
        clear hz2 g0 gf
        have hdz : wr.heap.size < wd.heap.size := BQd.out.1.1
        have b3 := BQd.out.1.c3
        go_quiet (fail)
        go_wp2
        go_roundw
        case rel => exact ⟨k + 1, p + 1, b + ss, ld + sd, arr ++ [b], load ++ [ld + sd], _, _, by omega, by omega, by go_num, by go_num, by go_num, by go_num, by omega, by omega, by omega, by omega, by rw [List.length_append, HA.out]; rfl, by rw [List.length_append, HLd.out]; rfl, by rw [HE.out, more_more]; simp only [Int.natCast_add, Int.natCast_one], TBd.out.below (below_draws' (Below.refl _ _) _), below_draws' HBd.out _⟩
        case measure => simp [intOf]; omega
    · have : l.drop k = [] := List.drop_eq_nil_of_le (by omega)
      rw [this] at he
      have hwb := way_bounds HF.out (q : Int) 0
      obtain ⟨A1, c1, B1, o1, A2, c2, B2, o2, rfl, rfl, hB1, d1, rfl, hB2, d2⟩ := (HTR.out.below HBW.out).way HF.out (a := q) (b := 0) hq (by omega)
      simp only [Int.natCast_zero, Nat.add_zero] at d2
      have HE := Lib.hid he
      clear he this
      simp only [driveL] at HE
      generalize way i (q : Int) 0 = y at *
      have q3 := TBr.out.cells.2.2.2.1
      have qf := TBr.out.cells.2.2.2.2 3
      have e0 := BS.out.box.c0
      have e2 := BS.out.box.c2
      have TBh := Lib.hid (TBr.out.put_home (left + y))
      have HBh := Lib.hid (HBT.out.setCell (p := ⟨T, 3, none⟩) (Nat.le_refl _) (.int .i64 (left + y)))
      go_upto_region 16 with (fail)
      generalize wr.setCell ⟨T, 3, none⟩ (.int .i64 (left + y)) = wa at *
      have BSa := Lib.hid (BS0.out.keep HBh.out)
      have HBf : Hid (Below w.heap.size w wa) := HB0.out.trans (HBh.out.mono (by omega))
      clear q3 qf e0 e1 e2 e3 k0 k2 d1 d2
      have g3 := TBh.out.cells.2.2.2.1
      have k2 := BSa.out.car.c2
      have e0 := BSa.out.box.c0
      have e1 := BSa.out.box.c1
      have e2 := BSa.out.box.c2
      have e3 := BSa.out.box.c3
      have hzA := BSa.out.size
      by_cases hbad : c.e < left + y
      · rw [if_pos hbad] at HE
        have HN : Hid (tripOf i c l = none) := by show _ = _; unfold tripOf; rw [HE.out]; rfl
        obtain ⟨r0, r1, r2, r3, f0, f1, f2, f3⟩ := nil4 BSa.out.res
        have hRz := BSa.out.res.1
        go_wp2
        refine bodyPost_ret (v := .tuple #[.agg #[.slice none 0 0, .slice none 0 0, .int .i64 0, .int .i64 0], .bool false]) (by simp [results, Try.results25, go_sem, r0, r1, r2, r3]) rfl ⟨?_, .inl ⟨HN.out, rfl⟩⟩
        exact (((HBf.out.setCell (p := ⟨R, 0, none⟩) hRw _).setCell (p := ⟨R, 1, none⟩) hRw _).setCell (p := ⟨R, 2, none⟩) hRw _).setCell (p := ⟨R, 3, none⟩) hRw _
      · rw [if_neg hbad] at HE
        have HN : Hid (tripOf i c l = some ⟨arr, load, costL i 0 l, left + y⟩) := by show _ = _; unfold tripOf; rw [HE.out]; simp [Drive.more]
        clear HE
        go_wp2_with (go_at_call 26; fail)
        (with_reducible refine (travel_sum _ _ i l wa (HL.out.below HBf.out) HF.out (HR.out.below HBf.out) hl HT.out).mono ?_)
        rintro e w5 ⟨rfl, hb5⟩
        have TB5 := Lib.hid (TBh.out.below hb5)
        have BS5 := Lib.hid (BSa.out.keep (hb5.mono (by omega)))
        have HB5 : Hid (Below w.heap.size w w5) := HBf.out.trans (hb5.mono HBf.out.size)
        generalize costL i 0 l = y2 at *
        have hz5 := BS5.out.size
        clear g3 k2 e0 e1 e2 e3 hb5
        have g2 := TB5.out.cells.2.2.1
        have gf := TB5.out.cells.2.2.2.2 2
        have TB6 := Lib.hid (TB5.out.put_cost y2)
        have BS6 := Lib.hid (BS5.out.keep ((Below.refl _ _).setCell (p := ⟨T, 2, none⟩) (Nat.le_refl _) (.int .i64 y2)))
        have HB6 := Lib.hid (HB5.out.setCell (p := ⟨T, 2, none⟩) (by simp; omega) (.int .i64 y2))
        go_upto_region 19 with (fail)
        generalize w5.setCell ⟨T, 2, none⟩ (.int .i64 y2) = w6 at *
        clear g2 gf
        obtain ⟨t0, t1, t2, t3, _⟩ := TB6.out.cells
        have hz6 := BS6.out.size
        have hRT := BS6.out.rt
        obtain ⟨r0, r1, r2, r3, f0, f1, f2, f3⟩ := nil4 BS6.out.res
        have hRz := BS6.out.res.1
        have TB7 := Lib.hid ((((TB6.out.low hRT hRT 0 va).low hRT hRT 1 vl).low hRT hRT 2 (.int .i64 y2)).low hRT hRT 3 (.int .i64 (left + y)))
        obtain ⟨xa, na, ca, rfl⟩ := own_slice TB6.out.arr
        obtain ⟨xl, nl, cl, rfl⟩ := own_slice TB6.out.load
        obtain ⟨X1, C1, hv1, hle1, hr1, hfr1⟩ := own_nums TB7.out.arr
        obtain ⟨X2, C2, hv2, hle2, hr2, hfr2⟩ := own_nums TB7.out.load
        injection hv1 with h1 h2 h3
        subst h1 h2 h3
        injection hv2 with h1 h2 h3
        subst h1 h2 h3
        have RR := Lib.hid (And.intro hr1 hr2)
        have RF := Lib.hid (And.intro hfr1 hfr2)
        clear hr1 hr2 hfr1 hfr2
        go_wp2
        refine bodyPost_ret (v := .tuple #[.agg #[.slice xa arr.length ca, .slice xl load.length cl, .int .i64 y2, .int .i64 (left + y)], .bool true]) (by simp [results, Try.results25, go_sem, r0, r1, r2, r3]) rfl ⟨?_, .inr ⟨⟨arr, load, y2, left + y⟩, xa, ca, xl, cl, HN.out, rfl, hle1, hle2, RR.out.1, RR.out.2, RF.out.1.mono (by omega), RF.out.2.mono (by omega)⟩⟩
        exact (((HB6.out.setCell (p := ⟨R, 0, none⟩) hRw _).setCell (p := ⟨R, 1, none⟩) hRw _).setCell (p := ⟨R, 2, none⟩) hRw _).setCell (p := ⟨R, 3, none⟩) hRw _
end Go.Proofs.Ytcllnfhjbfmomaa
