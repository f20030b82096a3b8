/- The example of stage 9, walked (laid by gen_hforms.py). -/
import Derived.Test.YtneelmmikaefgaaHFPlain
namespace Go.Proofs.Ytneelmmikaefgaa
open Go.RowKit
set_option linter.unusedSimpArgs false
set_option linter.unusedVariables false

def wkL (w : World) : List Obj := [.cells #[.slice none 0 0] 22, .cells #[.int .i64 (-1), .int .i64 2] 3, .cells #[.int .i64 1] 3, .cells #[.slice (some ⟨w.heap.size, 0, none⟩) 1 1, .slice (some ⟨w.heap.size + 1, 0, none⟩) 2 2, .slice (some ⟨w.heap.size + 2, 0, none⟩) 1 1, .slice none 0 0, .slice none 0 0, .slice none 0 0, .int .i64 0] 25]
theorem field_d2 (a1 a2 a3 : Option Addr) (n1 n2 n3 c1 c2 c3 : Nat) (W : World) : (Instr.field 31 (.agg #[.slice a1 n1 c1, .slice a2 n2 c2, .slice a3 n3 c3]) 2).run Try.prog W = .ok (.slice a3 n3 c3) W := by kernel_rfl
theorem field_d1 (a1 a2 a3 : Option Addr) (n1 n2 n3 c1 c2 c3 : Nat) (W : World) : (Instr.field 31 (.agg #[.slice a1 n1 c1, .slice a2 n2 c2, .slice a3 n3 c3]) 1).run Try.prog W = .ok (.slice a2 n2 c2) W := by kernel_rfl
theorem field_d0 (a1 a2 a3 : Option Addr) (n1 n2 n3 c1 c2 c3 : Nat) (W : World) : (Instr.field 31 (.agg #[.slice a1 n1 c1, .slice a2 n2 c2, .slice a3 n3 c3]) 0).run Try.prog W = .ok (.slice a1 n1 c1) W := by kernel_rfl
theorem wake_l : (holdsL (endsL [-1, 2] 1 2 (max 1 ([-1, 2] : List Int).length))).length = 1 := rfl
theorem wake_i : (holdsL (endsL [1] 0 1 (max 0 ([1] : List Int).length))).length = 1 := rfl
set_option maxRecDepth 100000 in
set_option maxHeartbeats 8000000 in
theorem wakes9_any (w : World) : Calls Try.prog 9 #[] w fun e w' => e = .returned (.bool true) ∧ Below w.heap.size w w' := by
  have FD1 := field_d1
  have FD2 := field_d2
  go_enter Try.func9, Try.ntmps9
  go_upto_region 1 with (fail)
  go_cut [1] from 2 to 5 (fun bv wx => ∃ g B1 B2 B3, bv = .pointer (some ⟨g, 0, none⟩) ∧ Blk wx g [.slice (some ⟨B1, 0, none⟩) 1 1, .slice (some ⟨B2, 0, none⟩) 2 2, .slice (some ⟨B3, 0, none⟩) 1 1, .slice none 0 0, .slice none 0 0, .slice none 0 0, .int .i64 0] ∧ Trav wx (.slice (some ⟨B1, 0, none⟩) 1 1) [[]] ∧ Recs wx 1 num_ (.slice (some ⟨B2, 0, none⟩) 2 2) [-1, 2] ∧ Recs wx 1 num_ (.slice (some ⟨B3, 0, none⟩) 1 1) [1] ∧ Below w.heap.size w wx)
  case first =>
    go_wp2_with (fail)
    go_meet
    exact ⟨_, _, _, _, rfl, lays_blk (wkL w) w 3 rfl, (lays_blk (wkL w) w 0 rfl).trav [[]] 1 (fun k hk => by match k, hk with | 0, _ => exact ⟨_, rfl, Recs.nil⟩), row_lit (l := [-1, 2]) rfl (lays_blk (wkL w) w 1 rfl), row_lit (l := [1]) rfl (lays_blk (wkL w) w 2 rfl), lays_below (wkL w) (Below.refl _ _) (Nat.le_refl _)⟩
  case rest =>
    obtain ⟨g, B1, B2, B3, rfl, hP, hR, hL, hI, hb⟩ := hcut
    obtain ⟨W1, hW1⟩ : ∃ W1, W1 = wc := ⟨_, rfl⟩
    subst hW1
    have HP := Lib.hid (fun W (hb : Below W1.heap.size W1 W) => hP.below hb)
    have HR := Lib.hid (fun W (hb : Below W1.heap.size W1 W) => hR.below hb)
    have HL := Lib.hid (fun W (hb : Below W1.heap.size W1 W) => hL.below hb)
    have HI := Lib.hid (fun W (hb : Below W1.heap.size W1 W) => hI.below hb)
    have HB0 := Lib.hid hb
    clear hP hR hL hI hb
    have HBr := Lib.hid (Below.refl W1.heap.size W1)
    have KM := Lib.hid (may_any (some ⟨B1, 0, none⟩) (some ⟨B2, 0, none⟩) (some ⟨B3, 0, none⟩) none none none 0 0 0 1 2 1 0 0 0 0 [[]] [-1, 2] [1] 0 none none none 0 0 0 ⟨[], [], []⟩ W1 (HR.out _ HBr.out) (HL.out _ HBr.out) (HI.out _ HBr.out) (by simp) (by simp) ⟨⟨rows_none, fun t ht => by cases ht⟩, rows_none, rows_none, by simp, by simp, by simp, fun t ht => by cases ht⟩)
    rw [show mayN [[]] [-1, 2] [1] 0 ⟨[], [], []⟩ = 0 from rfl] at KM
    have hP := HP.out _ HBr.out
    have b0 := (hP.2 0 (by simp)).1
    have b1 := (hP.2 1 (by simp)).1
    have b2 := (hP.2 2 (by simp)).1
    have b3 := (hP.2 3 (by simp)).1
    have b4 := (hP.2 4 (by simp)).1
    have b5 := (hP.2 5 (by simp)).1
    have b6 := (hP.2 6 (by simp)).1
    clear hP
    go_wp2_with (go_at_call 5; fail)
    go_at_call 5
    refine KM.out.mono ?_
    rintro e W2 ⟨rfl, hb2⟩
    have HB2 : Hid (Below W1.heap.size W1 W2) := Lib.hid hb2
    clear hb2 KM
    clear b0 b1 b2 b3 b4 b5 b6
    have hP := HP.out _ HB2.out
    have b0 := (hP.2 0 (by simp)).1
    have b1 := (hP.2 1 (by simp)).1
    have b2 := (hP.2 2 (by simp)).1
    have b3 := (hP.2 3 (by simp)).1
    have b4 := (hP.2 4 (by simp)).1
    have b5 := (hP.2 5 (by simp)).1
    have b6 := (hP.2 6 (by simp)).1
    clear hP
    have K1 := Lib.hid (release_any (some ⟨B1, 0, none⟩) (some ⟨B2, 0, none⟩) (some ⟨B3, 0, none⟩) none none none 0 0 0 1 2 1 0 0 0 0 [[]] [-1, 2] [1] 1 W2 (HL.out _ HB2.out) (HI.out _ HB2.out) (by simp) (by simp))
    go_wp2_with (go_at_call 7; fail)
    go_at_call 7
    refine K1.out.mono ?_
    rintro e W3 ⟨v1, v2, v3, rfl, h1, h2, h3, hb3⟩
    obtain ⟨D1, g1, rfl, _⟩ := own_slice_n h1
    obtain ⟨D2, g2, rfl, _⟩ := own_slice_n h2
    obtain ⟨D3, g3, rfl, _⟩ := own_slice_n h3
    have HB3 : Hid (Below W1.heap.size W1 W3) := Lib.hid (HB2.out.trans (hb3.mono HB2.out.size))
    clear hb3 K1 h1 h2 h3
    have hn : (holdsL (endsL [1] 0 1 (max 0 ([1] : List Int).length))).length = 1 := wake_i
    generalize (holdsL (endsL [1] 0 1 (max 0 ([1] : List Int).length))).length = n1 at *
    have qn1 : ((n1 : Int) == 1) = true := by simp [hn]
    have pn1 : (n1 == 1) = true := by simp [hn]
    clear hn
    clear b0 b1 b2 b3 b4 b5 b6
    have hP := HP.out _ HB3.out
    have b0 := (hP.2 0 (by simp)).1
    have b1 := (hP.2 1 (by simp)).1
    have b2 := (hP.2 2 (by simp)).1
    have b3 := (hP.2 3 (by simp)).1
    have b4 := (hP.2 4 (by simp)).1
    have b5 := (hP.2 5 (by simp)).1
    have b6 := (hP.2 6 (by simp)).1
    clear hP
    have K2 := Lib.hid (release_any (some ⟨B1, 0, none⟩) (some ⟨B2, 0, none⟩) (some ⟨B3, 0, none⟩) none none none 0 0 0 1 2 1 0 0 0 0 [[]] [-1, 2] [1] 2 W3 (HL.out _ HB3.out) (HI.out _ HB3.out) (by simp) (by simp))
    go_wp2_with (go_at_call 7; fail)
    go_at_call 7
    refine K2.out.mono ?_
    rintro e W4 ⟨v1, v2, v3, rfl, h1, h2, h3, hb4⟩
    obtain ⟨E1, k1, rfl, _⟩ := own_slice_n h1
    obtain ⟨E2, k2, rfl, _⟩ := own_slice_n h2
    obtain ⟨E3, k3, rfl, _⟩ := own_slice_n h3
    have HB4 : Hid (Below w.heap.size w W4) := Lib.hid (HB0.out.trans ((HB3.out.trans (hb4.mono HB3.out.size)).mono HB0.out.size))
    clear hb4 K2 h1 h2 h3
    have hn : (holdsL (endsL [-1, 2] 1 2 (max 1 ([-1, 2] : List Int).length))).length = 1 := wake_l
    generalize (holdsL (endsL [-1, 2] 1 2 (max 1 ([-1, 2] : List Int).length))).length = n2 at *
    have qn2 : ((n2 : Int) == 1) = true := by simp [hn]
    have pn2 : (n2 == 1) = true := by simp [hn]
    clear hn
    go_wp2_with (fail)
    go_ret
    exact ⟨rfl, HB4.out⟩
end Go.Proofs.Ytneelmmikaefgaa
