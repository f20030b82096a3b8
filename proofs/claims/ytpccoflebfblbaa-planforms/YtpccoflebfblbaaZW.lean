/- draymanlaw08's example, and PlanForms, walked (laid by gen_p8w.py). -/
import Derived.Test.YtpccoflebfblbaaZE
import Derived.Test.YtpccoflebfblbaaKeep
namespace Go.Proofs.Ytpccoflebfblbaa
open Go.RowKit
set_option linter.unusedSimpArgs false
set_option linter.unusedVariables false

def e1L (w : World) : List Obj := [.cells #[.int .i64 1, .int .i64 2] 3, .cells #[.int .i64 0, .slice none 0 0, .slice (some ⟨w.heap.size, 0, none⟩) 2 2] 40, .cells #[.int .i64 2, .int .i64 (-1), .int .i64 3] 43]
theorem e1_in (w : World) : EditIn (lays w (e1L w)) (some ⟨w.heap.size + 1, 0, none⟩) (some ⟨w.heap.size + 2, 0, none⟩) none 1 1 0 (e1T (.slice (some ⟨w.heap.size, 0, none⟩) 2 2)) :=
  ⟨turn_lit (lays_blk (e1L w) w 1 rfl) ⟨Recs.nil, row_lit (l := [1, 2]) rfl (lays_blk (e1L w) w 0 rfl)⟩, hold_lit (lays_blk (e1L w) w 2 rfl), rows_nil, by simp [e1T], by simp [e1T], by simp [e1T], fun t ht => by simp only [e1T, List.mem_singleton] at ht; subst ht; exact ⟨by simp, by simp⟩⟩
def e2L (w : World) : List Obj := [.cells #[.int .i64 1, .int .i64 2] 3, .cells #[.int .i64 2] 3, .cells #[.int .i64 1] 3, .cells #[.int .i64 0, .slice (some ⟨w.heap.size, 0, none⟩) 2 2, .slice (some ⟨w.heap.size + 1, 0, none⟩) 1 1, .int .i64 1, .slice none 0 0, .slice (some ⟨w.heap.size + 2, 0, none⟩) 1 1] 40, .cells #[.int .i64 1, .int .i64 (-1), .int .i64 0] 43]
theorem e2_in (w : World) : EditIn (lays w (e2L w)) (some ⟨w.heap.size + 3, 0, none⟩) none (some ⟨w.heap.size + 4, 0, none⟩) 2 0 1 (e2T (.slice (some ⟨w.heap.size, 0, none⟩) 2 2) (.slice (some ⟨w.heap.size + 1, 0, none⟩) 1 1) (.slice (some ⟨w.heap.size + 2, 0, none⟩) 1 1)) :=
  ⟨turn_lit2 (lays_blk (e2L w) w 3 rfl) ⟨row_lit (l := [1, 2]) rfl (lays_blk (e2L w) w 0 rfl), row_lit (l := [2]) rfl (lays_blk (e2L w) w 1 rfl)⟩ ⟨Recs.nil, row_lit (l := [1]) rfl (lays_blk (e2L w) w 2 rfl)⟩, rows_nil, hold_lit (lays_blk (e2L w) w 4 rfl), by simp [e2T], by simp [e2T], by simp [e2T], fun t ht => by
    simp only [e2T, List.mem_cons, List.not_mem_nil, or_false] at ht
    rcases ht with rfl | rfl
    · exact ⟨by simp, by simp⟩
    · exact ⟨by simp, by simp⟩⟩
theorem good_end {p p' : PlanP} {d : Edit} (h1 : badP p d = false) (h2 : applySame p d = true) (h3 : doneP p d = p') {q : PlanP} {n : Int} (hi : PApplyIs p d q n) : n = 0 ∧ q = p' := by
  rcases hi with ⟨a, _⟩ | ⟨_, b, _⟩ | ⟨_, _, c, e⟩
  · rw [h1] at a; cases a
  · rw [h2] at b; cases b
  · exact ⟨c, e.trans h3⟩
theorem pshort_of {p : PlanP} (h : PlanFit p) : PShort p := ⟨by have := h.routes; omega, fun r hr => by have := (h.route r hr).1; omega, by have := h.lock; have := h.sv; omega, by have := h.ice; have := h.routes; omega, by have := h.rv; have := h.routes; omega, by have := h.sv; omega, by have := h.iv; have := h.routes; omega⟩
def litPL (w : World) : List Obj := [
  .cells #[.int .i64 1, .int .i64 2] 3,
  .cells #[.slice (some ⟨w.heap.size, 0, none⟩) 2 2, .slice none 0 0] 28,
  .cells #[.int .i64 (-1), .int .i64 (-1), .int .i64 3, .int .i64 (-1)] 3,
  .cells #[.int .i64 (-1), .int .i64 (-1)] 3,
  .cells #[.int .i64 1, .int .i64 0] 3,
  .cells #[.int .i64 0, .int .i64 1, .int .i64 1, .int .i64 0] 3,
  .cells #[.int .i64 0, .int .i64 0] 3]
theorem litP_at (w : World) : PlanAt (lays w (litPL w)) (.agg #[.slice (some ⟨w.heap.size + 1, 0, none⟩) 2 2, .slice (some ⟨w.heap.size + 2, 0, none⟩) 4 4, .slice (some ⟨w.heap.size + 3, 0, none⟩) 2 2, .slice (some ⟨w.heap.size + 4, 0, none⟩) 2 2, .slice (some ⟨w.heap.size + 5, 0, none⟩) 4 4, .slice (some ⟨w.heap.size + 6, 0, none⟩) 2 2, .int .i64 1]) formP := by
  refine ⟨_, _, _, _, _, _, _, _, _, _, _, _, rfl, ?_, row_lit (l := [-1, -1, 3, -1]) rfl (lays_blk (litPL w) w 2 rfl), row_lit (l := [-1, -1]) rfl (lays_blk (litPL w) w 3 rfl), row_lit (l := [1, 0]) rfl (lays_blk (litPL w) w 4 rfl), row_lit (l := [0, 1, 1, 0]) rfl (lays_blk (litPL w) w 5 rfl), row_lit (l := [0, 0]) rfl (lays_blk (litPL w) w 6 rfl)⟩
  exact (lays_blk (litPL w) w 1 rfl).trav formP.routes 2 (fun k hk => by
    match k, hk with
    | 0, _ => exact ⟨_, rfl, row_lit (l := [1, 2]) rfl (lays_blk (litPL w) w 0 rfl)⟩
    | 1, _ => exact ⟨_, rfl, Recs.nil⟩)
def litQL (w : World) : List Obj := [
  .cells #[.int .i64 2] 3,
  .cells #[.int .i64 1] 3,
  .cells #[.slice (some ⟨w.heap.size, 0, none⟩) 1 1, .slice (some ⟨w.heap.size + 1, 0, none⟩) 1 1] 28,
  .cells #[.int .i64 (-1), .int .i64 (-1), .int .i64 3, .int .i64 (-1)] 3,
  .cells #[.int .i64 (-1), .int .i64 0] 3,
  .cells #[.int .i64 2, .int .i64 1] 3,
  .cells #[.int .i64 0, .int .i64 1, .int .i64 1, .int .i64 0] 3,
  .cells #[.int .i64 0, .int .i64 1] 3]
theorem litQ_at (w : World) : PlanAt (lays w (litQL w)) (.agg #[.slice (some ⟨w.heap.size + 2, 0, none⟩) 2 2, .slice (some ⟨w.heap.size + 3, 0, none⟩) 4 4, .slice (some ⟨w.heap.size + 4, 0, none⟩) 2 2, .slice (some ⟨w.heap.size + 5, 0, none⟩) 2 2, .slice (some ⟨w.heap.size + 6, 0, none⟩) 4 4, .slice (some ⟨w.heap.size + 7, 0, none⟩) 2 2, .int .i64 1]) formQ := by
  refine ⟨_, _, _, _, _, _, _, _, _, _, _, _, rfl, ?_, row_lit (l := [-1, -1, 3, -1]) rfl (lays_blk (litQL w) w 3 rfl), row_lit (l := [-1, 0]) rfl (lays_blk (litQL w) w 4 rfl), row_lit (l := [2, 1]) rfl (lays_blk (litQL w) w 5 rfl), row_lit (l := [0, 1, 1, 0]) rfl (lays_blk (litQL w) w 6 rfl), row_lit (l := [0, 1]) rfl (lays_blk (litQL w) w 7 rfl)⟩
  exact (lays_blk (litQL w) w 2 rfl).trav formQ.routes 2 (fun k hk => by
    match k, hk with
    | 0, _ => exact ⟨_, rfl, row_lit (l := [2]) rfl (lays_blk (litQL w) w 0 rfl)⟩
    | 1, _ => exact ⟨_, rfl, row_lit (l := [1]) rfl (lays_blk (litQL w) w 1 rfl)⟩)
set_option maxRecDepth 100000 in
set_option maxHeartbeats 60000000 in
theorem pforms_walk (n : Int) (w : World) : Calls Try.prog 3 #[.int .i64 n] w fun e w' => e = .returned (.bool true) ∧ Below w.heap.size w w' := by
  go_enter Try.func3, Try.ntmps3
  go_upto_region 1 with (fail)
  go_cut [3] from 14 to 27 (fun bv wx => ∃ I B1 B2 B3, bv = .pointer (some ⟨I, 0, none⟩) ∧ Blk wx I [.slice (some ⟨B1, 0, none⟩) 2 2, .slice (some ⟨B2, 0, none⟩) 3 3, .slice none 0 0, .slice (some ⟨B3, 0, none⟩) 4 4] ∧ Lies wx (.agg #[.slice (some ⟨B1, 0, none⟩) 2 2, .slice (some ⟨B2, 0, none⟩) 3 3, .slice none 0 0, .slice (some ⟨B3, 0, none⟩) 4 4]) formProb ∧ Below w.heap.size w wx)
  case first =>
    go_wp2_with (fail)
    go_meet
    exact ⟨_, _, _, _, rfl, lays_blk (formL w) w 7 rfl, form_lies w, lays_below (formL w) (Below.refl _ _) (Nat.le_refl _)⟩
  case rest =>
    obtain ⟨I, B1, B2, B3, rfl, hI, hL, hb⟩ := hcut
    obtain ⟨W1, hW1⟩ : ∃ W1, W1 = wc := ⟨_, rfl⟩
    subst hW1
    have HI := Lib.hid (fun W (hb : Below W1.heap.size W1 W) => hI.below hb)
    have HL := Lib.hid (fun W (hb : Below W1.heap.size W1 W) => hL.below hb)
    have HB0 := Lib.hid hb
    have i0 := (hI.2 0 (by simp)).1
    have i1 := (hI.2 1 (by simp)).1
    have i2 := (hI.2 2 (by simp)).1
    have i3 := (hI.2 3 (by simp)).1
    clear hI hL hb
    have KN := Lib.hid (pnewplan_any _ formProb W1 (HL.out W1 (Below.refl _ _)) short_form)
    go_wp2_with (go_at_call 5; fail)
    go_at_call 5
    refine KN.out.mono ?_
    rintro e W2 ⟨v', rfl, hN, hb2⟩
    rw [form_new] at hN
    obtain ⟨p0, hp0⟩ : ∃ p0, p0 = planN 2 4 := ⟨_, rfl⟩
    rw [← hp0] at hN
    have HP0 := Lib.hid hp0
    have HF0 : Hid (PlanFit p0) := Lib.hid (by rw [hp0]; exact fit_new)
    obtain ⟨A1, A2, A3, A4, A5, A6, c1, c2, c3, c4, c5, c6, rfl, hP⟩ := hN.at_.pin HF0.out
    have HB2 := Lib.hid hb2
    have HX : Hid ((W2.alloc (.cells #[.slice A1 p0.routes.length c1, .slice A2 p0.sv.length c2, .slice A3 p0.routes.length c3, .slice A4 p0.routes.length c4, .slice A5 p0.sv.length c5, .slice A6 p0.routes.length c6, .int .i64 p0.pv] 34)).heap[W2.heap.size]? = some (.cells #[.slice A1 p0.routes.length c1, .slice A2 p0.sv.length c2, .slice A3 p0.routes.length c3, .slice A4 p0.routes.length c4, .slice A5 p0.sv.length c5, .slice A6 p0.routes.length c6, .int .i64 p0.pv] 34 (0, 0))) := Lib.hid (heap_new _ _)
    have HPI : Hid (PIn (W2.alloc (.cells #[.slice A1 p0.routes.length c1, .slice A2 p0.sv.length c2, .slice A3 p0.routes.length c3, .slice A4 p0.routes.length c4, .slice A5 p0.sv.length c5, .slice A6 p0.routes.length c6, .int .i64 p0.pv] 34)) A1 A2 A3 A4 A5 A6 c1 c2 c3 c4 c5 c6 p0) := Lib.hid (hP.below ((Below.refl _ _).alloc (Nat.le_refl _) _))
    have HB3 : Hid (Below W1.heap.size W1 (W2.alloc (.cells #[.slice A1 p0.routes.length c1, .slice A2 p0.sv.length c2, .slice A3 p0.routes.length c3, .slice A4 p0.routes.length c4, .slice A5 p0.sv.length c5, .slice A6 p0.routes.length c6, .int .i64 p0.pv] 34))) := Lib.hid (hb2.alloc hb2.size _)
    have hPge : W1.heap.size ≤ W2.heap.size := hb2.size
    clear KN hN hP hb2 hp0 i0 i1 i2 i3
    go_upto_region 3 with (fail)
    generalize W2.alloc (.cells #[.slice A1 p0.routes.length c1, .slice A2 p0.sv.length c2, .slice A3 p0.routes.length c3, .slice A4 p0.routes.length c4, .slice A5 p0.sv.length c5, .slice A6 p0.routes.length c6, .int .i64 p0.pv] 34) = W3 at *
    generalize W2.heap.size = P at *
    obtain ⟨hPl, ⟨b0, b1, b2, b3, b4, b5, b6⟩, ⟨z0, z1, z2, z3, z4, z5, z6⟩⟩ := cells7 HX.out
    go_cut [5] from 29 to 40 (fun ev wx => ev = .int .i64 0 ∧ ∃ p1 D1 D2 D3 D4 D5 D6 g1 g2 g3 g4 g5 g6, Hid (p1 = formP) ∧ Hid (wx.heap[P]? = some (.cells #[.slice D1 p1.routes.length g1, .slice D2 p1.sv.length g2, .slice D3 p1.routes.length g3, .slice D4 p1.routes.length g4, .slice D5 p1.sv.length g5, .slice D6 p1.routes.length g6, .int .i64 p1.pv] 34 (0, 0))) ∧ Hid (PIn wx D1 D2 D3 D4 D5 D6 g1 g2 g3 g4 g5 g6 p1) ∧ Hid (Below W1.heap.size W1 wx))
    case first =>
      have KA : Hid (Calls Try.prog 6 #[.agg #[.slice A1 p0.routes.length c1, .slice A2 p0.sv.length c2, .slice A3 p0.routes.length c3, .slice A4 p0.routes.length c4, .slice A5 p0.sv.length c5, .slice A6 p0.routes.length c6, .int .i64 p0.pv], .agg #[.slice (some ⟨W3.heap.size + 1, 0, none⟩) 1 1, .slice (some ⟨W3.heap.size + 2, 0, none⟩) 1 1, .slice none 0 0]] (lays W3 (e1L W3)) (PApplyEnd p0 (e1T (.slice (some ⟨W3.heap.size, 0, none⟩) 2 2)) (lays W3 (e1L W3)))) := Lib.hid (papply_any A1 A2 A3 A4 A5 A6 c1 c2 c3 c4 c5 c6 p0 (some ⟨W3.heap.size + 1, 0, none⟩) (some ⟨W3.heap.size + 2, 0, none⟩) none 1 1 0 (e1T (.slice (some ⟨W3.heap.size, 0, none⟩) 2 2)) (lays W3 (e1L W3)) (HPI.out.below (lays_below (e1L W3) (Below.refl _ _) (Nat.le_refl _))) (e1_in W3))
      have HBL : Hid (Below W3.heap.size W3 (lays W3 (e1L W3))) := Lib.hid (lays_below (e1L W3) (Below.refl _ _) (Nat.le_refl _))
      go_wp2_with (go_at_call 6; fail)
      go_at_call 6
      refine KA.out.mono ?_
      rintro e W4 ⟨q, v, nn, rfl, hN, hIs, hb4⟩
      obtain ⟨rfl, hq⟩ := good_end (p' := formP) (by rw [HP0.out]; exact e1_bad _) (by rw [HP0.out]; exact e1_same _) (by rw [HP0.out]; exact e1_done _) hIs
      have HQ1 := Lib.hid hq
      have HFq : Hid (PlanFit q) := Lib.hid (by rw [hq]; exact fit_p)
      obtain ⟨D1, D2, D3, D4, D5, D6, g1, g2, g3, g4, g5, g6, rfl, hP⟩ := hN.at_.pin HFq.out
      have HB34 : Hid (Below W3.heap.size W3 W4) := Lib.hid (HBL.out.trans (hb4.mono HBL.out.size))
      have HX4 := Lib.hid (heap_keep HX.out HB34.out)
      have HB4 : Hid (Below W1.heap.size W1 W4) := Lib.hid (HB3.out.trans (HB34.out.mono HB3.out.size))
      have HN := Lib.hid hN
      clear hq hN hIs hb4 KA hP
      clear b0 b1 b2 b3 b4 b5 b6 z0 z1 z2 z3 z4 z5 z6 hPl
      obtain ⟨hPl, ⟨b0, b1, b2, b3, b4, b5, b6⟩, ⟨z0, z1, z2, z3, z4, z5, z6⟩⟩ := cells7 HX4.out
      have HX5 := Lib.hid (setAll_heap [.slice D1 q.routes.length g1, .slice D2 q.sv.length g2, .slice D3 q.routes.length g3, .slice D4 q.routes.length g4, .slice D5 q.sv.length g5, .slice D6 q.routes.length g6, .int .i64 q.pv] 0 W4 _ HX4.out)
      have HN5 := Lib.hid (HN.out.setAll HX4.out (by decide) (by decide) 0 [.slice D1 q.routes.length g1, .slice D2 q.sv.length g2, .slice D3 q.routes.length g3, .slice D4 q.routes.length g4, .slice D5 q.sv.length g5, .slice D6 q.routes.length g6, .int .i64 q.pv])
      have HB5 := Lib.hid (setAll_below hPge [.slice D1 q.routes.length g1, .slice D2 q.sv.length g2, .slice D3 q.routes.length g3, .slice D4 q.routes.length g4, .slice D5 q.sv.length g5, .slice D6 q.routes.length g6, .int .i64 q.pv] 0 W4 HB4.out)
      go_wp2_with (fail)
      go_meet
      exact ⟨rfl, q, D1, D2, D3, D4, D5, D6, g1, g2, g3, g4, g5, g6, HQ1, Lib.hid (by have := HX5.out; rw [setArr7] at this; exact this), Lib.hid (pin_of HN5.out.at_ HFq.out), HB5⟩
    case rest =>
      obtain ⟨hev, p1, D1, D2, D3, D4, D5, D6, g1, g2, g3, g4, g5, g6, HQ1, HX1, HPI1, HB5⟩ := hcut
      subst hev
      clear b0 b1 b2 b3 b4 b5 b6 z0 z1 z2 z3 z4 z5 z6 hPl
      clear HX HPI HB3 HP0 HF0
      obtain ⟨W5, hW5⟩ : ∃ W5, W5 = wc := ⟨_, rfl⟩
      subst hW5
      have hsh := HX1.out
      go_upto_region 4 with (fail)
      obtain ⟨hPl, ⟨b0, b1, b2, b3, b4, b5, b6⟩, ⟨z0, z1, z2, z3, z4, z5, z6⟩⟩ := cells7 hsh
      clear hsh
      have HF1 : Hid (PlanFit p1) := Lib.hid (by rw [HQ1.out]; exact fit_p)
      go_cut [6, 7] from 40 to 54 (fun qv fv wx => fv = .int .i64 0 ∧ ∃ Q p2 E1 E2 E3 E4 E5 E6 h1 h2 h3 h4 h5 h6, qv = .pointer (some ⟨Q, 0, none⟩) ∧ Hid (p2 = formQ) ∧ Hid (wx.heap[Q]? = some (.cells #[.slice E1 p2.routes.length h1, .slice E2 p2.sv.length h2, .slice E3 p2.routes.length h3, .slice E4 p2.routes.length h4, .slice E5 p2.sv.length h5, .slice E6 p2.routes.length h6, .int .i64 p2.pv] 34 (0, 0))) ∧ Hid (PIn wx E1 E2 E3 E4 E5 E6 h1 h2 h3 h4 h5 h6 p2) ∧ Hid (Below W5.heap.size W5 wx))
      case first =>
        have KA : Hid (Calls Try.prog 6 #[.agg #[.slice D1 p1.routes.length g1, .slice D2 p1.sv.length g2, .slice D3 p1.routes.length g3, .slice D4 p1.routes.length g4, .slice D5 p1.sv.length g5, .slice D6 p1.routes.length g6, .int .i64 p1.pv], .agg #[.slice (some ⟨W5.heap.size + 3, 0, none⟩) 2 2, .slice none 0 0, .slice (some ⟨W5.heap.size + 4, 0, none⟩) 1 1]] (lays W5 (e2L W5)) (PApplyEnd p1 (e2T (.slice (some ⟨W5.heap.size, 0, none⟩) 2 2) (.slice (some ⟨W5.heap.size + 1, 0, none⟩) 1 1) (.slice (some ⟨W5.heap.size + 2, 0, none⟩) 1 1)) (lays W5 (e2L W5)))) := Lib.hid (papply_any D1 D2 D3 D4 D5 D6 g1 g2 g3 g4 g5 g6 p1 (some ⟨W5.heap.size + 3, 0, none⟩) none (some ⟨W5.heap.size + 4, 0, none⟩) 2 0 1 (e2T (.slice (some ⟨W5.heap.size, 0, none⟩) 2 2) (.slice (some ⟨W5.heap.size + 1, 0, none⟩) 1 1) (.slice (some ⟨W5.heap.size + 2, 0, none⟩) 1 1)) (lays W5 (e2L W5)) (HPI1.out.below (lays_below (e2L W5) (Below.refl _ _) (Nat.le_refl _))) (e2_in W5))
        have HBL : Hid (Below W5.heap.size W5 (lays W5 (e2L W5))) := Lib.hid (lays_below (e2L W5) (Below.refl _ _) (Nat.le_refl _))
        go_wp2_with (go_at_call 6; fail)
        go_at_call 6
        refine KA.out.mono ?_
        rintro e W6 ⟨q, v, nn, rfl, hN, hIs, hb6⟩
        obtain ⟨rfl, hq⟩ := good_end (p' := formQ) (by rw [HQ1.out]; exact e2_bad _ _ _) (by rw [HQ1.out]; exact e2_same _ _ _) (by rw [HQ1.out]; exact e2_done _ _ _) hIs
        have HQ2 := Lib.hid hq
        have HFq : Hid (PlanFit q) := Lib.hid (by rw [hq]; exact fit_q)
        obtain ⟨E1, E2, E3, E4, E5, E6, h1, h2, h3, h4, h5, h6, rfl, hP⟩ := hN.at_.pin HFq.out
        have HB56 : Hid (Below W5.heap.size W5 W6) := Lib.hid (HBL.out.trans (hb6.mono HBL.out.size))
        have HP6 : Hid (PIn (W6.alloc (.cells #[.slice E1 q.routes.length h1, .slice E2 q.sv.length h2, .slice E3 q.routes.length h3, .slice E4 q.routes.length h4, .slice E5 q.sv.length h5, .slice E6 q.routes.length h6, .int .i64 q.pv] 34)) E1 E2 E3 E4 E5 E6 h1 h2 h3 h4 h5 h6 q) := Lib.hid (hP.below ((Below.refl _ _).alloc (Nat.le_refl _) _))
        have HB7 : Hid (Below W5.heap.size W5 (W6.alloc (.cells #[.slice E1 q.routes.length h1, .slice E2 q.sv.length h2, .slice E3 q.routes.length h3, .slice E4 q.routes.length h4, .slice E5 q.sv.length h5, .slice E6 q.routes.length h6, .int .i64 q.pv] 34))) := Lib.hid (HB56.out.alloc HB56.out.size _)
        have HH7 : Hid ((W6.alloc (.cells #[.slice E1 q.routes.length h1, .slice E2 q.sv.length h2, .slice E3 q.routes.length h3, .slice E4 q.routes.length h4, .slice E5 q.sv.length h5, .slice E6 q.routes.length h6, .int .i64 q.pv] 34)).heap[W6.heap.size]? = some (.cells #[.slice E1 q.routes.length h1, .slice E2 q.sv.length h2, .slice E3 q.routes.length h3, .slice E4 q.routes.length h4, .slice E5 q.sv.length h5, .slice E6 q.routes.length h6, .int .i64 q.pv] 34 (0, 0))) := Lib.hid (heap_new _ _)
        clear hq hN hIs hb6 KA hP
        go_wp2_with (fail)
        go_meet
        exact ⟨rfl, _, q, E1, E2, E3, E4, E5, E6, h1, h2, h3, h4, h5, h6, rfl, HQ2, HH7, HP6, HB7⟩
      case rest =>
        obtain ⟨hfv, Q, p2, E1, E2, E3, E4, E5, E6, h1, h2, h3, h4, h5, h6, hqv, HQ2, HX2, HPI2, HB6⟩ := hcut
        subst hfv
        subst hqv
        obtain ⟨W6, hW6⟩ : ∃ W6, W6 = wc := ⟨_, rfl⟩
        subst hW6
        have HF2 : Hid (PlanFit p2) := Lib.hid (by rw [HQ2.out]; exact fit_q)
        have HB16 : Hid (Below W1.heap.size W1 W6) := Lib.hid (HB5.out.trans (HB6.out.mono HB5.out.size))
        have HX16 := Lib.hid (heap_keep HX1.out HB6.out)
        have HPI16 := Lib.hid (HPI1.out.below HB6.out)
        clear b0 b1 b2 b3 b4 b5 b6 z0 z1 z2 z3 z4 z5 z6 hPl
        clear HX1 HPI1 HB5 HB6
        go_upto_region 5 with (fail)
        go_cut [86] from 54 to 87 (fun cv wx => cv = .bool false ∧ Hid (Below W6.heap.size W6 wx))
        case first =>
          have hm := HX16.out
          obtain ⟨hPl, ⟨b0, b1, b2, b3, b4, b5, b6⟩, ⟨z0, z1, z2, z3, z4, z5, z6⟩⟩ := cells7 hm
          clear hm
          have HBL : Hid (Below W6.heap.size W6 (lays W6 (litPL W6))) := Lib.hid (lays_below (litPL W6) (Below.refl _ _) (Nat.le_refl _))
          have KX := rexact_any _ _ p1 formP (lays W6 (litPL W6)) (HPI16.out.below HBL.out).at_ (litP_at W6) (pshort_of HF1.out) (pshort_of fit_p)
          have hex : exactP p1 formP = true := by rw [HQ1.out]; decide
          rw [hex] at KX
          clear hex
          have KX := Lib.hid KX
          go_wp2_with (go_at_call 7; fail)
          go_at_call 7
          refine KX.out.mono ?_
          rintro e W7 ⟨rfl, hb7⟩
          have HB7 : Hid (Below W6.heap.size W6 W7) := Lib.hid (HBL.out.trans (hb7.mono HBL.out.size))
          clear b0 b1 b2 b3 b4 b5 b6 z0 z1 z2 z3 z4 z5 z6 hPl
          clear hb7 KX HBL
          have hm := heap_keep HX2.out HB7.out
          obtain ⟨hPl, ⟨b0, b1, b2, b3, b4, b5, b6⟩, ⟨z0, z1, z2, z3, z4, z5, z6⟩⟩ := cells7 hm
          clear hm
          have HBL : Hid (Below W7.heap.size W7 (lays W7 (litQL W7))) := Lib.hid (lays_below (litQL W7) (Below.refl _ _) (Nat.le_refl _))
          have KX := rexact_any _ _ p2 formQ (lays W7 (litQL W7)) ((HPI2.out.below HB7.out).below HBL.out).at_ (litQ_at W7) (pshort_of HF2.out) (pshort_of fit_q)
          have hex : exactP p2 formQ = true := by rw [HQ2.out]; decide
          rw [hex] at KX
          clear hex
          have KX := Lib.hid KX
          go_wp2_with (go_at_call 7; fail)
          go_at_call 7
          refine KX.out.mono ?_
          rintro e W8 ⟨rfl, hb8⟩
          have HB8 : Hid (Below W6.heap.size W6 W8) := Lib.hid (HB7.out.trans ((HBL.out.trans (hb8.mono HBL.out.size)).mono HB7.out.size))
          clear hb8 KX HBL
          go_wp2_with (fail)
          go_meet
          exact ⟨rfl, HB8⟩
        case rest =>
          obtain ⟨hcv, HB9⟩ := hcut
          subst hcv
          obtain ⟨W9, hW9⟩ : ∃ W9, W9 = wc := ⟨_, rfl⟩
          subst hW9
          have HX2' := Lib.hid (heap_keep HX2.out HB9.out)
          have HX1' := Lib.hid (heap_keep HX16.out HB9.out)
          have HP2' := Lib.hid (HPI2.out.below HB9.out)
          have HP1' := Lib.hid (HPI16.out.below HB9.out)
          have HB19 : Hid (Below W1.heap.size W1 W9) := Lib.hid (HB16.out.trans (HB9.out.mono HB16.out.size))
          clear HX2 HX16 HPI2 HPI16 HB9 HB16
          have hm := HX2'.out
          obtain ⟨hPl, ⟨b0, b1, b2, b3, b4, b5, b6⟩, ⟨z0, z1, z2, z3, z4, z5, z6⟩⟩ := cells7 hm
          clear hm
          have KW := pwhere_any E1 E2 E3 E4 E5 E6 p2.sv.length h1 h2 h3 h4 h5 h6 p2.pv p2.routes 1 W9 HP2'.out.r (by have := HF2.out.routes; omega) (fun r hr => by have := (HF2.out.route r hr).1; omega)
          rw [show whereP p2.sv.length 1 p2.routes = (1, 0) from by rw [HQ2.out]; decide] at KW
          have KW := Lib.hid KW
          go_wp2_with (go_at_call 8; fail)
          go_at_call 8
          refine KW.out.mono ?_
          rintro e W10 ⟨rfl, hb10⟩
          have HB910 := Lib.hid hb10
          clear b0 b1 b2 b3 b4 b5 b6 z0 z1 z2 z3 z4 z5 z6 hPl
          clear hb10 KW
          obtain ⟨mi, hmi⟩ : ∃ mi, mi = withinI n 1000 := ⟨_, rfl⟩
          have hwb := withinI_bounds (v := n) (n := 1000) (by omega)
          have KI := within_any n 1000 W10 (by omega) (by omega)
          rw [← hmi] at KI hwb
          have KI := Lib.hid KI
          obtain ⟨m, rfl⟩ : ∃ m : Nat, mi = (m : Int) - 1 := ⟨(mi + 1).toNat, by omega⟩
          have hm1 : 1 ≤ m := by omega
          have hm2 : m ≤ 1000 := by omega
          have q0 : wrap64 (1 + ((m : Int) - 1)) = (m : Int) := by unfold wrap64; omega
          clear hmi hwb
          go_wp2_with (go_at_call 9; fail)
          go_at_call 9
          refine KI.out.mono ?_
          rintro e W11 ⟨rfl, hw11⟩
          subst hw11
          go_upto_region 9 with (fail)
          have e0 : 1 + ((m : Int) - 1) = (m : Int) := by omega
          rw [e0]
          clear e0
          have q1 : wrap64 (1 + (m : Int)) = 1 + (m : Int) := by unfold wrap64; omega
          have q2 : wrap64 (-(m : Int)) = -(m : Int) := by unfold wrap64; omega
          have q3 : wrap64 (3 + (m : Int)) = 3 + (m : Int) := by unfold wrap64; omega
          go_cut [167, 168, 169] from 95 to 170 (fun tv lv kv wx => ∃ T : Nat, tv = .slice (some ⟨T, 0, none⟩) 13 13 ∧ lv = .int .i64 13 ∧ kv = .int .i64 0 ∧ Hid (FTab wx T m) ∧ Hid (Below W10.heap.size W10 wx))
          case first =>
            simp only [List.append_eq, List.cons_append, List.nil_append]
            go_wp2_with (fail)
            go_meet
            exact ⟨_, rfl, rfl, rfl, Lib.hid (tab_lay m hm1 W10), Lib.hid (lays_below (tabL m W10) (Below.refl _ _) (Nat.le_refl _))⟩
          case rest =>
            obtain ⟨T, rfl, rfl, rfl, HT, HBt⟩ := hcut
            obtain ⟨W12, hW12⟩ : ∃ W12, W12 = wc := ⟨_, rfl⟩
            subst hW12
            have HB912 : Hid (Below W9.heap.size W9 W12) := Lib.hid (HB910.out.trans (HBt.out.mono HB910.out.size))
            have HX2 := Lib.hid (heap_keep HX2'.out HB912.out)
            have HX1 := Lib.hid (heap_keep HX1'.out HB912.out)
            have HP2 := Lib.hid (HP2'.out.below HB912.out)
            have HP1 := Lib.hid (HP1'.out.below HB912.out)
            have HB112 : Hid (Below W1.heap.size W1 W12) := Lib.hid (HB19.out.trans (HB912.out.mono HB19.out.size))
            clear HX2' HX1' HP2' HP1' HB912 HB19 HBt q0 q1 q2 q3
            go_wp2_with (fail)
            go_loopw [169] (fun kv wr => ∃ k : Nat, k ≤ 13 ∧ kv = .int .i64 k ∧ Hid (Below W12.heap.size W12 wr)) (fun kv _ => 13 - (intOf kv).toNat)
            case atStart => exact ⟨0, by omega, rfl, Lib.hid (Below.refl _ _)⟩
            case round =>
              obtain ⟨k, hk, rfl, hb⟩ := hrel
              by_cases hlt : k < 13
              · have hlt2 : (k : Int) < 13 := by omega
                have HTk := HT.out.below hb.out
                have hTl := HTk.1
                obtain ⟨d, e, hok, At, Al, Ai, ct, cl, ci, t0, t1, t2, t3, hE⟩ := HTk.2 k hlt
                have HOK := Lib.hid hok
                have HE := Lib.hid (hE.below ((Below.refl wr.heap.size wr).alloc (Nat.le_refl _) (.cells #[.slice At d.turns.length ct, .slice Al d.locks.length cl, .slice Ai d.ices.length ci, .int .i64 e] 51)))
                have HBT : Hid (Below W12.heap.size W12 (wr.alloc (.cells #[.slice At d.turns.length ct, .slice Al d.locks.length cl, .slice Ai d.ices.length ci, .int .i64 e] 51))) := Lib.hid (hb.out.alloc hb.out.size _)
                have BT := Lib.hid (blk_new wr #[.slice At d.turns.length ct, .slice Al d.locks.length cl, .slice Ai d.ices.length ci, .int .i64 e] 51)
                clear HTk hok hE hb
                go_upto_region 12 with (fail)
                generalize wr.alloc (.cells #[.slice At d.turns.length ct, .slice Al d.locks.length cl, .slice Ai d.ices.length ci, .int .i64 e] 51) = wt at *
                generalize wr.heap.size = T1 at *
                clear t0 t1 t2 t3 hTl
                have x0 := (BT.out.2 0 (by simp)).1
                have x1 := (BT.out.2 1 (by simp)).1
                have x2 := (BT.out.2 2 (by simp)).1
                have x3 := (BT.out.2 3 (by simp)).1
                have hm := heap_keep HX2.out HBT.out
                obtain ⟨hPl, ⟨b0, b1, b2, b3, b4, b5, b6⟩, ⟨z0, z1, z2, z3, z4, z5, z6⟩⟩ := cells7 hm
                clear hm
                have KA := Lib.hid (papply_any E1 E2 E3 E4 E5 E6 h1 h2 h3 h4 h5 h6 p2 At Al Ai ct cl ci d wt (HP2.out.below HBT.out) HE.out)
                go_wp2_with (go_at_call 6; fail)
                go_at_call 6
                refine KA.out.mono ?_
                rintro e2 w2 ⟨q, v, nn, rfl, hN, hIs, hb2⟩
                rw [HQ2.out] at hIs
                obtain ⟨rfl, rfl⟩ := rowOk_end HOK.out hIs
                obtain ⟨v1, v2, v3, v4, v5, v6, rfl, hR, hV⟩ := hN
                obtain ⟨a1, k1, rfl⟩ := hR.slice
                obtain ⟨a2, k2, rfl, _⟩ := own_slice_n hV.lock
                obtain ⟨a3, k3, rfl, _⟩ := own_slice_n hV.ice
                obtain ⟨a4, k4, rfl, _⟩ := own_slice_n hV.rv
                obtain ⟨a5, k5, rfl, _⟩ := own_slice_n hV.sv
                obtain ⟨a6, k6, rfl, _⟩ := own_slice_n hV.iv
                have HB2 : Hid (Below W12.heap.size W12 w2) := Lib.hid (HBT.out.trans (hb2.mono HBT.out.size))
                have BT2 := BT.out.below hb2
                clear b0 b1 b2 b3 b4 b5 b6 z0 z1 z2 z3 z4 z5 z6 hPl
                clear x0 x1 x2 x3 hR hV hIs hb2 KA
                have hz : noPlan.routes.length = 0 := rfl
                rw [hz]
                clear hz
                have ez : (nn != nn) = false := by simp
                have HB3 : Hid (Below W12.heap.size W12 (w2.alloc (.cells #[.slice a1 0 k1, .slice a2 noPlan.lock.length k2, .slice a3 noPlan.ice.length k3, .slice a4 noPlan.rv.length k4, .slice a5 noPlan.sv.length k5, .slice a6 noPlan.iv.length k6, .int .i64 noPlan.pv] 34))) := Lib.hid (HB2.out.alloc HB2.out.size _)
                have BR := Lib.hid (blk_new w2 #[.slice a1 0 k1, .slice a2 noPlan.lock.length k2, .slice a3 noPlan.ice.length k3, .slice a4 noPlan.rv.length k4, .slice a5 noPlan.sv.length k5, .slice a6 noPlan.iv.length k6, .int .i64 noPlan.pv] 34)
                have BT3 := Lib.hid (BT2.alloc (.cells #[.slice a1 0 k1, .slice a2 noPlan.lock.length k2, .slice a3 noPlan.ice.length k3, .slice a4 noPlan.rv.length k4, .slice a5 noPlan.sv.length k5, .slice a6 noPlan.iv.length k6, .int .i64 noPlan.pv] 34))
                clear BT2
                go_upto_region 13 with (fail)
                generalize w2.alloc (.cells #[.slice a1 0 k1, .slice a2 noPlan.lock.length k2, .slice a3 noPlan.ice.length k3, .slice a4 noPlan.rv.length k4, .slice a5 noPlan.sv.length k5, .slice a6 noPlan.iv.length k6, .int .i64 noPlan.pv] 34) = w3 at *
                generalize w2.heap.size = R1 at *
                have x3 := (BT3.out.2 3 (by simp)).1
                have y0 := (BR.out.2 0 (by simp)).1
                go_wp2_with (fail)
                go_roundw
                case rel => exact ⟨k + 1, by omega, by go_num, HB3⟩
                case measure => simp [intOf]; omega
              · have hlt2 : ¬ (k : Int) < 13 := by omega
                have HB1r : Hid (Below W1.heap.size W1 wr) := Lib.hid (HB112.out.trans (hb.out.mono HB112.out.size))
                have HX2r := Lib.hid (heap_keep HX2.out hb.out)
                have HX1r := Lib.hid (heap_keep HX1.out hb.out)
                have HP2r := Lib.hid (HP2.out.below hb.out)
                have HP1r := Lib.hid (HP1.out.below hb.out)
                have hI := HI.out wr HB1r.out
                have i0 := (hI.2 0 (by simp)).1
                have i1 := (hI.2 1 (by simp)).1
                have i2 := (hI.2 2 (by simp)).1
                have i3 := (hI.2 3 (by simp)).1
                have hm := HX2r.out
                obtain ⟨hPl, ⟨b0, b1, b2, b3, b4, b5, b6⟩, ⟨z0, z1, z2, z3, z4, z5, z6⟩⟩ := cells7 hm
                clear hm hI HX2 HX1 HP2 HP1 HB112 HT
                have KC := pcost_any _ _ formProb p2 wr (HL.out wr HB1r.out) form_ok (by decide) HP2r.out.at_ (by have := HF2.out.routes; omega) (fun r hr => by have := (HF2.out.route r hr).1; omega)
                rw [show planCost formProb p2.routes = 6 from by rw [HQ2.out]; decide +kernel] at KC
                have KC := Lib.hid KC
                go_wp2_with (go_at_call 10; fail)
                go_at_call 10
                refine KC.out.mono ?_
                rintro e w4 ⟨rfl, hb4⟩
                have HB4 : Hid (Below wr.heap.size wr w4) := Lib.hid hb4
                clear b0 b1 b2 b3 b4 b5 b6 z0 z1 z2 z3 z4 z5 z6 hPl
                clear hb4 KC i0 i1 i2 i3
                have hm := heap_keep HX2r.out HB4.out
                obtain ⟨hPl, ⟨b0, b1, b2, b3, b4, b5, b6⟩, ⟨z0, z1, z2, z3, z4, z5, z6⟩⟩ := cells7 hm
                clear hm
                have KU := punass_any E1 E2 E3 E4 E5 E6 p2.sv.length h1 h2 h3 h4 h5 h6 p2.pv p2.routes w4 (HP2r.out.below HB4.out).r (by have := HF2.out.routes; omega) (fun r hr => by have := (HF2.out.route r hr).1; omega) (by have := HF2.out.sv; omega)
                rw [show unassL p2.routes (p2.sv.length - 1) = [3] from by rw [HQ2.out]; decide] at KU
                have KU := Lib.hid KU
                go_wp2_with (go_at_call 12; fail)
                go_at_call 12
                refine KU.out.mono ?_
                rintro e w5 ⟨v5, rfl, ho5, hb5⟩
                have HB5 : Hid (Below wr.heap.size wr w5) := Lib.hid (HB4.out.trans (hb5.mono HB4.out.size))
                have KS := Lib.hid (dsame_ints v5 (.slice (some ⟨w5.heap.size, 0, none⟩) 1 1) [3] (w5.alloc (.cells #[.int .i64 3] 3)) (ho5.recs.below ((Below.refl _ _).alloc (Nat.le_refl _) _)) (row_lit (l := [3]) rfl (blk_new w5 #[.int .i64 3] 3)) (by decide))
                have HB6 : Hid (Below wr.heap.size wr (w5.alloc (.cells #[.int .i64 3] 3))) := Lib.hid (HB5.out.alloc HB5.out.size _)
                clear b0 b1 b2 b3 b4 b5 b6 z0 z1 z2 z3 z4 z5 z6 hPl
                clear ho5 hb5 KU
                go_wp2_with (go_at_call 11; fail)
                go_at_call 11
                refine KS.out.mono ?_
                rintro e w6 ⟨rfl, n6, hw6⟩
                have HB7 : Hid (Below wr.heap.size wr w6) := Lib.hid (by rw [hw6]; exact below_draws HB6.out n6)
                clear hw6 KS
                have hm := heap_keep HX2r.out HB7.out
                obtain ⟨hPl, ⟨b0, b1, b2, b3, b4, b5, b6⟩, ⟨z0, z1, z2, z3, z4, z5, z6⟩⟩ := cells7 hm
                clear hm
                have hm := heap_keep HX1r.out HB7.out
                obtain ⟨hPl1, ⟨d0, d1, d2, d3, d4, d5, d6⟩, ⟨y0, y1, y2, y3, y4, y5, y6⟩⟩ := cells7 hm
                clear hm
                have KP := psame_any _ _ p1 p2 w6 (HP1r.out.below HB7.out).at_ (HP2r.out.below HB7.out).at_ (pshort_of HF1.out) (pshort_of HF2.out)
                rw [show sameP p1 p2 = false from by rw [HQ1.out, HQ2.out]; decide] at KP
                have KP := Lib.hid KP
                go_wp2_with (go_at_call 13; fail)
                go_at_call 13
                refine KP.out.mono ?_
                rintro e w7 ⟨rfl, hb7⟩
                have HB8 : Hid (Below wr.heap.size wr w7) := Lib.hid (HB7.out.trans (hb7.mono HB7.out.size))
                clear b0 b1 b2 b3 b4 b5 b6 z0 z1 z2 z3 z4 z5 z6 hPl
                clear hb7 KP d0 d1 d2 d3 d4 d5 d6 y0 y1 y2 y3 y4 y5 y6 hPl1
                have KK := Lib.hid (wakes8_any w7)
                go_wp2_with (go_at_call 14; fail)
                go_at_call 14
                refine KK.out.mono ?_
                rintro e w8 ⟨rfl, hb8⟩
                have HBF : Hid (Below w.heap.size w w8) := Lib.hid (HB0.out.trans ((HB1r.out.trans ((HB8.out.trans (hb8.mono HB8.out.size)).mono HB1r.out.size)).mono HB0.out.size))
                clear hb8
                go_wp2_with (fail)
                go_ret
                exact ⟨rfl, HBF.out⟩
end Go.Proofs.Ytpccoflebfblbaa
