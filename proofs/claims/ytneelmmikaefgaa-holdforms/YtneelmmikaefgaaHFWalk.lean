/- HoldForms, walked (laid by gen_hforms.py). -/
import Derived.Test.YtneelmmikaefgaaHFFour
namespace Go.Proofs.Ytneelmmikaefgaa
open Go.RowKit
set_option linter.unusedSimpArgs false
set_option linter.unusedVariables false

theorem outI_recs2 {w : World} {B : Nat} {l : List Int} {v : Value} (h : OutI B w v l) : Recs w 1 num_ v l := OutI.recs h
theorem rel_of {B : Nat} {W : World} {who : Int} {v1 v2 v3 : Value} (h1 : OutT B W v1 []) (h2 : OutH B W v2 (relL who)) (h3 : OutH B W v3 (relI who)) : Rel B W who (.agg #[v1, v2, v3]) := by
  obtain ⟨a1, c1, rfl, _⟩ := own_slice_n h1
  obtain ⟨a2, c2, rfl, _⟩ := own_slice_n h2
  obtain ⟨a3, c3, rfl, _⟩ := own_slice_n h3
  exact ⟨a1, a2, a3, c1, c2, c3, rfl, h2, h3⟩
def D9 : Nat → List Nat
  | 1 => [0]
  | 3 => [2]
  | 5 => [4]
  | 8 => [6, 7]
  | 13 => [9, 1]
  | 14 => [10, 3]
  | 15 => [11, 5]
  | _ => []
set_option maxRecDepth 100000 in
set_option maxHeartbeats 60000000 in
theorem hforms_walk (n : Int) (w : World) : Calls Try.prog 3 #[.int .i64 n] w fun e w' => e = .returned (.bool true) ∧ Below w.heap.size w w' := by
  have WB := Lib.hid (Below.refl w.heap.size w)
  go_enter Try.func3, Try.ntmps3
  go_upto_region 1 with (fail)
  refine wp_region_lin (by kernel_rfl) [0, 1, 2, 3, 4, 5, 6, 7, 8, 9] hfpD hfpN (hfpF w.heap.size) 11 1 #[true, true, true, true, true, true, true, true, true, true, false] (by kernel_rfl) (by kernel_rfl) (by kernel_rfl) (by kernel_rfl) (by kernel_rfl) hfpF_mono ?_ ?_
  · intro i hi v W hb hF hap
    simp only [List.mem_cons, List.not_mem_nil, or_false] at hi
    rcases hi with rfl | rfl | rfl | rfl | rfl | rfl | rfl | rfl | rfl | rfl
    · refine lstep_value (w' := W.alloc (.cells #[.int .i64 1, .int .i64 2, .int .i64 3] 3)) rfl (by rfl) (u := .slice (some ⟨W.heap.size, 0, none⟩) 3 3) ?_ (out_lit W (l := [1, 2, 3]) rfl hb.size (by decide)) ((Below.refl _ _).alloc (Nat.le_refl _) _)
      rw [show hfpD 0 = [] from rfl]
      (try simp only [putAll, Act.put, List.getElem_toArray, List.getElem_cons_succ, List.getElem_cons_zero, List.setIfInBounds_toArray, List.set_cons_zero, List.set_cons_succ])
      go_simp
    · refine lstep_value (w' := W.alloc (.cells #[.int .i64 4] 3)) rfl (by rfl) (u := .slice (some ⟨W.heap.size, 0, none⟩) 1 1) ?_ (out_lit W (l := [4]) rfl hb.size (by decide)) ((Below.refl _ _).alloc (Nat.le_refl _) _)
      rw [show hfpD 1 = [] from rfl]
      (try simp only [putAll, Act.put, List.getElem_toArray, List.getElem_cons_succ, List.getElem_cons_zero, List.setIfInBounds_toArray, List.set_cons_zero, List.set_cons_succ])
      go_simp
    · have f0 : OutI w.heap.size W (v 0) [1, 2, 3] := hF 0 (by decide)
      have f1 : OutI w.heap.size W (v 1) [4] := hF 1 (by decide)
      obtain ⟨a0, c0, e0, _⟩ := own_slice_n f0
      obtain ⟨a1, c1, e1, _⟩ := own_slice_n f1
      refine lstep_value (w' := W.alloc (.cells #[v 0, v 1, .slice none 0 0] 22)) rfl (by rfl) (u := .slice (some ⟨W.heap.size, 0, none⟩) 3 3) ?_ (routes_lit hb.size f0 f1) ((Below.refl _ _).alloc (Nat.le_refl _) _)
      change (execOp (Act.eval (Act.put (Act.put _ (some 10) (v 0)) (some 11) (v 1))) _).run _ _ = _
      rw [e0, e1]
      (try simp only [putAll, Act.put, List.getElem_toArray, List.getElem_cons_succ, List.getElem_cons_zero, List.setIfInBounds_toArray, List.set_cons_zero, List.set_cons_succ])
      go_simp
    · refine lstep_value (w' := W.alloc (.cells #[.int .i64 (-1), .int .i64 (-1), .int .i64 0, .int .i64 (-1), .int .i64 (-1), .int .i64 1] 3)) rfl (by rfl) (u := .slice (some ⟨W.heap.size, 0, none⟩) 6 6) ?_ (out_lit W (l := [-1, -1, 0, -1, -1, 1]) rfl hb.size (by decide)) ((Below.refl _ _).alloc (Nat.le_refl _) _)
      rw [show hfpD 3 = [] from rfl]
      (try simp only [putAll, Act.put, List.getElem_toArray, List.getElem_cons_succ, List.getElem_cons_zero, List.setIfInBounds_toArray, List.set_cons_zero, List.set_cons_succ])
      go_simp
    · refine lstep_value (w' := W.alloc (.cells #[.int .i64 (-1), .int .i64 2, .int .i64 (-1)] 3)) rfl (by rfl) (u := .slice (some ⟨W.heap.size, 0, none⟩) 3 3) ?_ (out_lit W (l := [-1, 2, -1]) rfl hb.size (by decide)) ((Below.refl _ _).alloc (Nat.le_refl _) _)
      rw [show hfpD 4 = [] from rfl]
      (try simp only [putAll, Act.put, List.getElem_toArray, List.getElem_cons_succ, List.getElem_cons_zero, List.setIfInBounds_toArray, List.set_cons_zero, List.set_cons_succ])
      go_simp
    · have hmk : (Instr.makeSlice 22 (.int .i64 3) (.int .i64 3)).run Try.prog W = .ok (.slice (some ⟨W.heap.size, 0, none⟩) 3 3) (W.alloc (.cells (madeCells #[.int .i64 0] 3) 3)) := make_intsR 3 (by decide) W
      refine lstep_value (w' := W.alloc (.cells (madeCells #[.int .i64 0] 3) 3)) rfl (by rfl) (u := .slice (some ⟨W.heap.size, 0, none⟩) 3 3) ?_ (out_made W 3 hb.size (by decide)) ((Below.refl _ _).alloc (Nat.le_refl _) _)
      rw [show hfpD 5 = [] from rfl]
      (try simp only [putAll, Act.put, List.getElem_toArray, List.getElem_cons_succ, List.getElem_cons_zero, List.setIfInBounds_toArray, List.set_cons_zero, List.set_cons_succ])
      go_simp
    · have hmk : (Instr.makeSlice 22 (.int .i64 6) (.int .i64 6)).run Try.prog W = .ok (.slice (some ⟨W.heap.size, 0, none⟩) 6 6) (W.alloc (.cells (madeCells #[.int .i64 0] 6) 3)) := make_intsR 6 (by decide) W
      refine lstep_value (w' := W.alloc (.cells (madeCells #[.int .i64 0] 6) 3)) rfl (by rfl) (u := .slice (some ⟨W.heap.size, 0, none⟩) 6 6) ?_ (out_made W 6 hb.size (by decide)) ((Below.refl _ _).alloc (Nat.le_refl _) _)
      rw [show hfpD 6 = [] from rfl]
      (try simp only [putAll, Act.put, List.getElem_toArray, List.getElem_cons_succ, List.getElem_cons_zero, List.setIfInBounds_toArray, List.set_cons_zero, List.set_cons_succ])
      go_simp
    · have hmk : (Instr.makeSlice 22 (.int .i64 3) (.int .i64 3)).run Try.prog W = .ok (.slice (some ⟨W.heap.size, 0, none⟩) 3 3) (W.alloc (.cells (madeCells #[.int .i64 0] 3) 3)) := make_intsR 3 (by decide) W
      refine lstep_value (w' := W.alloc (.cells (madeCells #[.int .i64 0] 3) 3)) rfl (by rfl) (u := .slice (some ⟨W.heap.size, 0, none⟩) 3 3) ?_ (out_made W 3 hb.size (by decide)) ((Below.refl _ _).alloc (Nat.le_refl _) _)
      rw [show hfpD 7 = [] from rfl]
      (try simp only [putAll, Act.put, List.getElem_toArray, List.getElem_cons_succ, List.getElem_cons_zero, List.setIfInBounds_toArray, List.set_cons_zero, List.set_cons_succ])
      go_simp
    · have f2 : RoutesO w.heap.size W (v 2) hfR [] := hF 2 (by decide)
      have f3 : OutI w.heap.size W (v 3) [-1, -1, 0, -1, -1, 1] := hF 3 (by decide)
      have f4 : OutI w.heap.size W (v 4) [-1, 2, -1] := hF 4 (by decide)
      have f5 : OutI w.heap.size W (v 5) (List.replicate 3 0) := hF 5 (by decide)
      have f6 : OutI w.heap.size W (v 6) (List.replicate 6 0) := hF 6 (by decide)
      have f7 : OutI w.heap.size W (v 7) (List.replicate 3 0) := hF 7 (by decide)
      obtain ⟨a2, c2, e2⟩ := f2.slice
      obtain ⟨a3, c3, e3, _⟩ := own_slice_n f3
      obtain ⟨a4, c4, e4, _⟩ := own_slice_n f4
      obtain ⟨a5, c5, e5, _⟩ := own_slice_n f5
      obtain ⟨a6, c6, e6, _⟩ := own_slice_n f6
      obtain ⟨a7, c7, e7, _⟩ := own_slice_n f7
      refine lstep_value rfl (by rfl) (u := .agg #[v 2, v 3, v 4, v 5, v 6, v 7, .int .i64 0]) ?_ (PlanH.of f2 f3 f4 f5 f6 f7) (Below.refl _ _)
      change (execOp (Act.eval (Act.put (Act.put (Act.put (Act.put (Act.put (Act.put _ (some 12) (v 2)) (some 13) (v 3)) (some 14) (v 4)) (some 15) (v 5)) (some 16) (v 6)) (some 17) (v 7))) _).run _ _ = _
      rw [e2, e3, e4, e5, e6, e7]
      (try simp only [putAll, Act.put, List.getElem_toArray, List.getElem_cons_succ, List.getElem_cons_zero, List.setIfInBounds_toArray, List.set_cons_zero, List.set_cons_succ])
      go_simp
    · refine lstep_value (w' := W.alloc (.cells #[.slice none 0 0, .slice none 0 0, .slice none 0 0, .slice none 0 0, .slice none 0 0, .slice none 0 0, .int .i64 0] 25)) rfl (by rfl) (u := .pointer (some ⟨W.heap.size, 0, none⟩)) ?_ ⟨_, rfl, hb.size, heap_new _ _⟩ ((Below.refl _ _).alloc (Nat.le_refl _) _)
      rw [show hfpD 9 = [] from rfl]
      (try simp only [putAll, Act.put, List.getElem_toArray, List.getElem_cons_succ, List.getElem_cons_zero, List.setIfInBounds_toArray, List.set_cons_zero, List.set_cons_succ])
      go_simp
  · intro v W hb hF hap hlo
    have f8 : PlanH w.heap.size W (v 8) := hF 8 (by decide)
    obtain ⟨g, e9, hgB, hgh⟩ := (hF 9 (by decide) : ∃ g, v 9 = .pointer (some ⟨g, 0, none⟩) ∧ w.heap.size ≤ g ∧ W.heap[g]? = some (.cells #[.slice none 0 0, .slice none 0 0, .slice none 0 0, .slice none 0 0, .slice none 0 0, .slice none 0 0, .int .i64 0] 25 (0, 0)))
    obtain ⟨A1, A2, A3, A4, A5, A6, c1, c2, c3, c4, c5, c6, e8, hR, hL, hI⟩ := f8
    have hS : setAll W g 0 [.slice A1 3 c1, .slice A2 6 c2, .slice A3 3 c3, .slice A4 3 c4, .slice A5 6 c5, .slice A6 3 c6, .int .i64 0] = (((((((W.setCell ⟨g, 0, none⟩ (.slice A1 3 c1)).setCell ⟨g, 1, none⟩ (.slice A2 6 c2)).setCell ⟨g, 2, none⟩ (.slice A3 3 c3)).setCell ⟨g, 3, none⟩ (.slice A4 3 c4)).setCell ⟨g, 4, none⟩ (.slice A5 6 c5)).setCell ⟨g, 5, none⟩ (.slice A6 3 c6)).setCell ⟨g, 6, none⟩ (.int .i64 0)) := rfl
    have k1 := PlanH.setAll [.slice A1 3 c1, .slice A2 6 c2, .slice A3 3 c3, .slice A4 3 c4, .slice A5 6 c5, .slice A6 3 c6, .int .i64 0] 0 W _ hgh ⟨A1, A2, A3, A4, A5, A6, c1, c2, c3, c4, c5, c6, rfl, hR, hL, hI⟩
    have k2 := setAll_heap [.slice A1 3 c1, .slice A2 6 c2, .slice A3 3 c3, .slice A4 3 c4, .slice A5 6 c5, .slice A6 3 c6, .int .i64 0] 0 W _ hgh
    rw [setArr7] at k2
    have k3 := setAll_below (g := g) (B := w.heap.size) hgB [.slice A1 3 c1, .slice A2 6 c2, .slice A3 3 c3, .slice A4 3 c4, .slice A5 6 c5, .slice A6 3 c6, .int .i64 0] 0 W hb
    rw [hS] at k1 k2 k3
    have HPH := Lib.hid k1
    have HX := Lib.hid k2
    have HBW := Lib.hid k3
    clear k1 k2 k3 hS
    have BZ := blk_of_heap hgh
    have r0 := (BZ.2 0 (by simp)).1
    have z0 := (BZ.2 0 (by simp)).2
    have r1 := (BZ.2 1 (by simp)).1
    have z1 := (BZ.2 1 (by simp)).2
    have r2 := (BZ.2 2 (by simp)).1
    have z2 := (BZ.2 2 (by simp)).2
    have r3 := (BZ.2 3 (by simp)).1
    have z3 := (BZ.2 3 (by simp)).2
    have r4 := (BZ.2 4 (by simp)).1
    have z4 := (BZ.2 4 (by simp)).2
    have r5 := (BZ.2 5 (by simp)).1
    have z5 := (BZ.2 5 (by simp)).2
    have r6 := (BZ.2 6 (by simp)).1
    have z6 := (BZ.2 6 (by simp)).2
    have hlt := BZ.1
    clear BZ hb hF hap hlo hR hL hI hgh
    refine wpAnyZ_one (i := 10) (by kernel_rfl) ?_
    refine zstep rfl (fun K hK => ?_)
    change if Region.wanted _ (yielded _ (Act.tmps (Act.put (Act.put (Act.put (Act.put (Act.put (Act.put (Act.put (Act.put (Act.put (Act.put _ (some 10) (v 0)) (some 11) (v 1)) (some 12) (v 2)) (some 13) (v 3)) (some 14) (v 4)) (some 15) (v 5)) (some 16) (v 6)) (some 17) (v 7)) (some 18) (v 8)) (some 3) (v 9)))) = true then Oper.wp _ _ (Act.put (Act.put (Act.put (Act.put (Act.put (Act.put (Act.put (Act.put (Act.put (Act.put _ (some 10) (v 0)) (some 11) (v 1)) (some 12) (v 2)) (some 13) (v 3)) (some 14) (v 4)) (some 15) (v 5)) (some 16) (v 6)) (some 17) (v 7)) (some 18) (v 8)) (some 3) (v 9)) _ _ _ else _
    rw [e8, e9]
    (try simp only [putAll, Act.put, List.getElem_toArray, List.getElem_cons_succ, List.getElem_cons_zero, List.setIfInBounds_toArray, List.set_cons_zero, List.set_cons_succ])
    go_simp
    refine hK.out _ _ (fun _ => trivial) (fun _ => ?_)
    clear hK K e8 e9 r0 z0 r1 z1 r2 z2 r3 z3 r4 z4 r5 z5 r6 z6 hlt
    refine wpAnyZ_done (by kernel_rfl) ?_ _
    generalize (((((((W.setCell ⟨g, 0, none⟩ (.slice A1 3 c1)).setCell ⟨g, 1, none⟩ (.slice A2 6 c2)).setCell ⟨g, 2, none⟩ (.slice A3 3 c3)).setCell ⟨g, 3, none⟩ (.slice A4 3 c4)).setCell ⟨g, 4, none⟩ (.slice A5 6 c5)).setCell ⟨g, 5, none⟩ (.slice A6 3 c6)).setCell ⟨g, 6, none⟩ (.int .i64 0)) = W2 at *
    obtain ⟨D1, D2, D3, D4, D5, D6, g1, g2, g3, g4, g5, g6, eP, hR, hL, hI⟩ := HPH.out
    simp only [Value.agg.injEq, Array.mk.injEq, List.cons.injEq, Value.slice.injEq, and_true, true_and] at eP
    obtain ⟨⟨rfl, rfl⟩, ⟨rfl, rfl⟩, ⟨rfl, rfl⟩, ⟨rfl, rfl⟩, ⟨rfl, rfl⟩, ⟨rfl, rfl⟩⟩ := eP
    have OR := Lib.hid (fun W (hb : Below W2.heap.size W2 W) => hR.below hb)
    have OL := Lib.hid (fun W (hb : Below W2.heap.size W2 W) => (own_below hL hb : OutI w.heap.size W (.slice A2 6 c2) hfL))
    have OI := Lib.hid (fun W (hb : Below W2.heap.size W2 W) => (own_below hI hb : OutI w.heap.size W (.slice A3 3 c3) hfI))
    have BP := Lib.hid (blk_of_heap HX.out)
    have CP : Hid (∀ W, Below W2.heap.size W2 W → W.cell? ⟨g, 0, none⟩ = some (.slice A1 3 c1) ∧ W.cell? ⟨g, 1, none⟩ = some (.slice A2 6 c2) ∧ W.cell? ⟨g, 2, none⟩ = some (.slice A3 3 c3) ∧ W.cell? ⟨g, 3, none⟩ = some (.slice A4 3 c4) ∧ W.cell? ⟨g, 4, none⟩ = some (.slice A5 6 c5) ∧ W.cell? ⟨g, 5, none⟩ = some (.slice A6 3 c6) ∧ W.cell? ⟨g, 6, none⟩ = some (.int .i64 0)) := Lib.hid (fun W hb => by
      have B := BP.out.below hb
      exact ⟨(B.2 0 (by simp)).1, (B.2 1 (by simp)).1, (B.2 2 (by simp)).1, (B.2 3 (by simp)).1, (B.2 4 (by simp)).1, (B.2 5 (by simp)).1, (B.2 6 (by simp)).1⟩)
    clear hR hL hI BP HPH HX
    have HB2r := Lib.hid (Below.refl W2.heap.size W2)
    go_upto_region 2 with (fail)
    go_cut [116, 117, 118] from 19 to 119 (fun tv lv kv wx => ∃ T : Nat, tv = .slice (some ⟨T, 0, none⟩) 18 18 ∧ lv = .int .i64 18 ∧ kv = .int .i64 0 ∧ Hid (HTab wx T) ∧ Hid (Below W2.heap.size W2 wx))
    case first =>
      simp only [List.append_eq, List.cons_append, List.nil_append]
      go_wp2_with (fail)
      go_meet
      exact ⟨_, rfl, rfl, rfl, Lib.hid (hf_lay W2), Lib.hid (lays_below (hfTabL W2) (Below.refl _ _) (Nat.le_refl _))⟩
    case rest =>
      obtain ⟨T, rfl, rfl, rfl, HT, HB3⟩ := hcut
      obtain ⟨W3, hW3⟩ : ∃ W3, W3 = wc := ⟨_, rfl⟩
      subst hW3
      go_wp2_with (fail)
      go_loopw [118] (fun kv wr => ∃ k : Nat, k ≤ 18 ∧ kv = .int .i64 k ∧ Hid (Below W3.heap.size W3 wr)) (fun kv _ => 18 - (intOf kv).toNat)
      case atStart => exact ⟨0, by omega, rfl, Lib.hid (Below.refl _ _)⟩
      case round =>
        obtain ⟨k, hk, rfl, hb⟩ := hrel
        by_cases hlt : k < 18
        · have hlt2 : (k : Int) < 18 := by omega
          have HTk := HT.out.below hb.out
          have hTl := HTk.1
          obtain ⟨who, d, e, hok, At, Al, Ai, ct, cl, ci, t0, t1, t2, t3, t4, hE⟩ := HTk.2 k hlt
          have HOK := Lib.hid hok
          have HE := Lib.hid (hE.below ((Below.refl wr.heap.size wr).alloc (Nat.le_refl _) (.cells #[.int .i64 who, .slice At d.turns.length ct, .slice Al d.locks.length cl, .slice Ai d.ices.length ci, .int .i64 e] 33)))
          have HBT : Hid (Below W3.heap.size W3 (wr.alloc (.cells #[.int .i64 who, .slice At d.turns.length ct, .slice Al d.locks.length cl, .slice Ai d.ices.length ci, .int .i64 e] 33))) := Lib.hid (hb.out.alloc hb.out.size _)
          have BT := Lib.hid (blk_new wr #[.int .i64 who, .slice At d.turns.length ct, .slice Al d.locks.length cl, .slice Ai d.ices.length ci, .int .i64 e] 33)
          clear HTk hok hE hb
          go_upto_region 5 with (fail)
          generalize wr.alloc (.cells #[.int .i64 who, .slice At d.turns.length ct, .slice Al d.locks.length cl, .slice Ai d.ices.length ci, .int .i64 e] 33) = wt at *
          generalize wr.heap.size = T1 at *
          clear t0 t1 t2 t3 t4 hTl
          have HB2t : Hid (Below W2.heap.size W2 wt) := Lib.hid (HB3.out.trans (HBT.out.mono HB3.out.size))
          have SS : Hid (∀ W, Below wt.heap.size wt W → (fun W => W.cell? ⟨g, 0, none⟩ = some (.slice A1 3 c1) ∧ W.cell? ⟨g, 1, none⟩ = some (.slice A2 6 c2) ∧ W.cell? ⟨g, 2, none⟩ = some (.slice A3 3 c3) ∧ W.cell? ⟨g, 3, none⟩ = some (.slice A4 3 c4) ∧ W.cell? ⟨g, 4, none⟩ = some (.slice A5 6 c5) ∧ W.cell? ⟨g, 5, none⟩ = some (.slice A6 3 c6) ∧ W.cell? ⟨g, 6, none⟩ = some (.int .i64 0) ∧ W.cell? ⟨T1, 0, none⟩ = some (.int .i64 who) ∧ W.cell? ⟨T1, 1, none⟩ = some (.slice At d.turns.length ct) ∧ W.cell? ⟨T1, 2, none⟩ = some (.slice Al d.locks.length cl) ∧ W.cell? ⟨T1, 3, none⟩ = some (.slice Ai d.ices.length ci) ∧ W.cell? ⟨T1, 4, none⟩ = some (.int .i64 e)) W) := Lib.hid (fun W hb => by
            obtain ⟨b0, b1, b2, b3, b4, b5, b6⟩ := CP.out W (HB2t.out.trans (hb.mono HB2t.out.size))
            have B := BT.out.below hb
            exact ⟨b0, b1, b2, b3, b4, b5, b6, (B.2 0 (by simp)).1, (B.2 1 (by simp)).1, (B.2 2 (by simp)).1, (B.2 3 (by simp)).1, (B.2 4 (by simp)).1⟩)
          have KM : Hid (∀ W, Below wt.heap.size wt W → Calls Try.prog 5 #[.agg #[.slice A1 3 c1, .slice A2 6 c2, .slice A3 3 c3, .slice A4 3 c4, .slice A5 6 c5, .slice A6 3 c6, .int .i64 0], .int .i64 who, .agg #[.slice At d.turns.length ct, .slice Al d.locks.length cl, .slice Ai d.ices.length ci]] W fun e' w' => e' = .returned (.int .i64 (mayN hfR hfL hfI who d)) ∧ Below W.heap.size W w') := Lib.hid (fun W hb => may_any A1 A2 A3 A4 A5 A6 3 6 3 c1 c2 c3 c4 c5 c6 0 hfR hfL hfI who At Al Ai ct cl ci d W ((OR.out W (HB2t.out.trans (hb.mono HB2t.out.size))).trav) (outI_recs2 (OL.out W (HB2t.out.trans (hb.mono HB2t.out.size)))) (outI_recs2 (OI.out W (HB2t.out.trans (hb.mono HB2t.out.size)))) (by decide) (by decide) (HE.out.below hb))
          rw [HOK.out] at KM
          have hbd : Below wt.heap.size wt wt.drew := (Below.refl _ _).drew
          refine wp_region_z (S := (fun W => W.cell? ⟨g, 0, none⟩ = some (.slice A1 3 c1) ∧ W.cell? ⟨g, 1, none⟩ = some (.slice A2 6 c2) ∧ W.cell? ⟨g, 2, none⟩ = some (.slice A3 3 c3) ∧ W.cell? ⟨g, 3, none⟩ = some (.slice A4 3 c4) ∧ W.cell? ⟨g, 4, none⟩ = some (.slice A5 6 c5) ∧ W.cell? ⟨g, 5, none⟩ = some (.slice A6 3 c6) ∧ W.cell? ⟨g, 6, none⟩ = some (.int .i64 0) ∧ W.cell? ⟨T1, 0, none⟩ = some (.int .i64 who) ∧ W.cell? ⟨T1, 1, none⟩ = some (.slice At d.turns.length ct) ∧ W.cell? ⟨T1, 2, none⟩ = some (.slice Al d.locks.length cl) ∧ W.cell? ⟨T1, 3, none⟩ = some (.slice Ai d.ices.length ci) ∧ W.cell? ⟨T1, 4, none⟩ = some (.int .i64 e))) (z := 9) (by kernel_rfl) (SS.out _ hbd) (fun hH => ?_)
          refine wpAnyZ_takeS (i := 0) (v := ?_) rfl (by kernel_rfl) (by kernel_rfl) (by kernel_rfl) (by kernel_rfl) (fun _ _ _ h => h) (gives_value (by rfl) ?_) (by assumption) ?_
          rotate_left
          · intro w hSw
            obtain ⟨s0, s1, s2, s3, s4, s5, s6, s7, s8, s9, s10, s11⟩ := hSw
            go_simp
            (try with_reducible rfl)
          (try simp only [putAll, Act.put, List.getElem_toArray, List.getElem_cons_succ, List.getElem_cons_zero, List.setIfInBounds_toArray, List.set_cons_zero, List.set_cons_succ])
          refine wpAnyZ_takeS (i := 1) (v := ?_) rfl (by kernel_rfl) (by kernel_rfl) (by kernel_rfl) (by kernel_rfl) (fun _ _ _ h => h) (gives_value (by rfl) ?_) (by assumption) ?_
          rotate_left
          · intro w hSw
            obtain ⟨s0, s1, s2, s3, s4, s5, s6, s7, s8, s9, s10, s11⟩ := hSw
            go_simp
            (try with_reducible rfl)
          (try simp only [putAll, Act.put, List.getElem_toArray, List.getElem_cons_succ, List.getElem_cons_zero, List.setIfInBounds_toArray, List.set_cons_zero, List.set_cons_succ])
          refine wpAnyZ_takeS (i := 2) (v := ?_) rfl (by kernel_rfl) (by kernel_rfl) (by kernel_rfl) (by kernel_rfl) (fun _ _ _ h => h) (gives_value (by rfl) ?_) (by assumption) ?_
          rotate_left
          · intro w hSw
            obtain ⟨s0, s1, s2, s3, s4, s5, s6, s7, s8, s9, s10, s11⟩ := hSw
            go_simp
            (try with_reducible rfl)
          (try simp only [putAll, Act.put, List.getElem_toArray, List.getElem_cons_succ, List.getElem_cons_zero, List.setIfInBounds_toArray, List.set_cons_zero, List.set_cons_succ])
          refine wpAnyZ_takeS (i := 3) (v := ?_) rfl (by kernel_rfl) (by kernel_rfl) (by kernel_rfl) (by kernel_rfl) (fun _ _ _ h => h) (gives_value (by rfl) ?_) (by assumption) ?_
          rotate_left
          · intro w hSw
            obtain ⟨s0, s1, s2, s3, s4, s5, s6, s7, s8, s9, s10, s11⟩ := hSw
            go_simp
            (try with_reducible rfl)
          (try simp only [putAll, Act.put, List.getElem_toArray, List.getElem_cons_succ, List.getElem_cons_zero, List.setIfInBounds_toArray, List.set_cons_zero, List.set_cons_succ])
          refine wpAnyZ_takeS (i := 4) (v := ?_) rfl (by kernel_rfl) (by kernel_rfl) (by kernel_rfl) (by kernel_rfl) (fun _ _ _ h => h) (gives_value (by rfl) ?_) (by assumption) ?_
          rotate_left
          · intro w hSw
            obtain ⟨s0, s1, s2, s3, s4, s5, s6, s7, s8, s9, s10, s11⟩ := hSw
            go_simp
            (try with_reducible rfl)
          (try simp only [putAll, Act.put, List.getElem_toArray, List.getElem_cons_succ, List.getElem_cons_zero, List.setIfInBounds_toArray, List.set_cons_zero, List.set_cons_succ])
          refine wpAnyZ_takeS (i := 6) (v := ?_) rfl (by kernel_rfl) (by kernel_rfl) (by kernel_rfl) (by kernel_rfl) (fun _ _ _ h => h) (gives_value (by rfl) ?_) (by assumption) ?_
          rotate_left
          · intro w hSw
            obtain ⟨s0, s1, s2, s3, s4, s5, s6, s7, s8, s9, s10, s11⟩ := hSw
            go_simp
            (try with_reducible rfl)
          (try simp only [putAll, Act.put, List.getElem_toArray, List.getElem_cons_succ, List.getElem_cons_zero, List.setIfInBounds_toArray, List.set_cons_zero, List.set_cons_succ])
          refine wpAnyZ_takeS (i := 7) (v := ?_) rfl (by kernel_rfl) (by kernel_rfl) (by kernel_rfl) (by kernel_rfl) (fun _ _ _ h => h) (gives_value (by rfl) ?_) (by assumption) ?_
          rotate_left
          · intro w hSw
            obtain ⟨s0, s1, s2, s3, s4, s5, s6, s7, s8, s9, s10, s11⟩ := hSw
            go_simp
            (try with_reducible rfl)
          (try simp only [putAll, Act.put, List.getElem_toArray, List.getElem_cons_succ, List.getElem_cons_zero, List.setIfInBounds_toArray, List.set_cons_zero, List.set_cons_succ])
          refine wpAnyZ_one (i := 5) (by kernel_rfl) ?_
          refine zstep rfl (fun K hK => ?_)
          go_simp
          refine (KM.out _ hbd).mono ?_
          rintro e' w2 ⟨rfl, hb2⟩
          have HBq : Hid (Below wt.heap.size wt w2) := Lib.hid (hbd.trans (hb2.mono hbd.size))
          have HBq3 : Hid (Below W3.heap.size W3 w2) := Lib.hid (HBT.out.trans (HBq.out.mono HBT.out.size))
          clear hb2
          refine hK.out _ _ (fun _ => SS.out _ HBq.out) (fun hH => ?_)
          replace hH := hH (by decide)
          clear hK K
          (try simp only [putAll, Act.put, List.getElem_toArray, List.getElem_cons_succ, List.getElem_cons_zero, List.setIfInBounds_toArray, List.set_cons_zero, List.set_cons_succ])
          refine wpAnyZ_takeS (i := 8) (v := ?_) rfl (by kernel_rfl) (by kernel_rfl) (by kernel_rfl) (by kernel_rfl) (fun _ _ _ h => h) (gives_value (by rfl) ?_) (by assumption) ?_
          rotate_left
          · intro w hSw
            obtain ⟨s0, s1, s2, s3, s4, s5, s6, s7, s8, s9, s10, s11⟩ := hSw
            go_simp
            (try with_reducible rfl)
          (try simp only [putAll, Act.put, List.getElem_toArray, List.getElem_cons_succ, List.getElem_cons_zero, List.setIfInBounds_toArray, List.set_cons_zero, List.set_cons_succ])
          refine wpAnyZ_done (by kernel_rfl) ?_ _
          have ez : (e != e) = false := by simp
          clear hH KM SS HE BT HOK
          go_wp2_with (fail)
          go_roundw
          case rel => exact ⟨k + 1, by omega, by go_num, HBq3⟩
          case measure => simp [intOf]; omega
        · have hlt2 : ¬ (k : Int) < 18 := by omega
          have HBw : Hid (Below W2.heap.size W2 wr) := Lib.hid (HB3.out.trans (hb.out.mono HB3.out.size))
          clear hb HT
          obtain ⟨w0, hw0⟩ : ∃ w0, w0 = wr := ⟨_, rfl⟩
          subst hw0
          have KI := within_any n 100 w0 (by omega) (by omega)
          obtain ⟨mi, hmi⟩ : ∃ mi, mi = withinI n 100 := ⟨_, rfl⟩
          have hwb := withinI_bounds (v := n) (n := 100) (by omega)
          rw [← hmi] at KI hwb
          have KI := Lib.hid KI
          have q0 : wrap64 (3 + mi) = 3 + mi := by unfold wrap64; omega
          obtain ⟨N3, hN3⟩ : ∃ N3, N3 = 3 + mi := ⟨_, rfl⟩
          rw [← hN3] at q0
          have hN : 3 ≤ N3 := by omega
          have HN := Lib.hid hN
          clear hmi hwb hN
          go_wp2_with (go_at_call 6; fail)
          go_at_call 6
          refine KI.out.mono ?_
          rintro e' w2 ⟨rfl, hw2⟩
          subst hw2
          go_upto_region 9 with (fail)
          (try rw [← hN3])
          (try rw [q0])
          clear q0 hN3 KI
          refine wp_region_inv (by kernel_rfl) [0, 1, 2, 3, 4, 5, 6, 7, 8, 9, 10, 11, 12, 13, 14, 15] D9 (Four w0 (.agg #[.slice A1 3 c1, .slice A2 6 c2, .slice A3 3 c3, .slice A4 3 c4, .slice A5 6 c5, .slice A6 3 c6, .int .i64 0]) N3) 17 1 #[true, true, true, true, true, true, true, true, true, true, true, true, true, true, true, true, false] (by kernel_rfl) (by kernel_rfl) (by kernel_rfl) (by kernel_rfl) (by kernel_rfl) (Four.start _ _ _ _ (Below.refl _ _).drew) ?_ ?_
          · intro i hi m v W hi0 ha hG
            simp only [List.mem_cons, List.not_mem_nil, or_false] at hi
            rcases hi with rfl | rfl | rfl | rfl | rfl | rfl | rfl | rfl | rfl | rfl | rfl | rfl | rfl | rfl | rfl | rfl
            · obtain ⟨b0, b1, b2, b3, b4, b5, b6⟩ := CP.out W (HBw.out.trans (hG.hb.mono HBw.out.size))
              refine istep_value (w' := W) (u := .agg #[.slice A1 3 c1, .slice A2 6 c2, .slice A3 3 c3, .slice A4 3 c4, .slice A5 6 c5, .slice A6 3 c6, .int .i64 0]) rfl ?_ (hG.plan (i := 0) (by decide))
              rw [show D9 0 = [] from rfl]
              (try simp only [putAll, Act.put, List.getElem_toArray, List.getElem_cons_succ, List.getElem_cons_zero, List.setIfInBounds_toArray, List.set_cons_zero, List.set_cons_succ])
              go_simp
            · have e0 := hG.pl 0 (by decide) (ha 0 (by decide))
              have hno : m (13 + 0) = false := by
                cases hm : m (13 + 0)
                · rfl
                · have := (hG.down 0 (by decide) hm).2
                  rw [show rc 0 = 1 from rfl, hi0] at this; cases this
              refine istep_call rfl (f := 7) (args := #[.agg #[.slice A1 3 c1, .slice A2 6 c2, .slice A3 3 c3, .slice A4 3 c4, .slice A5 6 c5, .slice A6 3 c6, .int .i64 0], .int .i64 0]) ?_ ?_
              · change (execOp (Act.eval (Act.put _ (some 135) (v 0))) _).run _ _ = _
                rw [e0]
                (try simp only [putAll, Act.put, List.getElem_toArray, List.getElem_cons_succ, List.getElem_cons_zero, List.setIfInBounds_toArray, List.set_cons_zero, List.set_cons_succ])
                go_simp
              · have KR : Calls Try.prog 7 #[.agg #[.slice A1 3 c1, .slice A2 6 c2, .slice A3 3 c3, .slice A4 3 c4, .slice A5 6 c5, .slice A6 3 c6, .int .i64 0], .int .i64 0] W _ := release_any A1 A2 A3 A4 A5 A6 3 6 3 c1 c2 c3 c4 c5 c6 0 hfR hfL hfI 0 W (outI_recs2 (OL.out _ (HBw.out.trans (hG.hb.mono HBw.out.size)))) (outI_recs2 (OI.out _ (HBw.out.trans (hG.hb.mono HBw.out.size)))) (by decide) (by decide)
                refine KR.mono ?_
                rintro e w2 ⟨v1, v2, v3, rfl, h1, h2, h3, hb2⟩
                exact ⟨_, rfl, hG.call (j := 0) (who := 0) (by simp) hno hb2 (rel_of (own_lower h1 hG.hb.size) (own_lower h2 hG.hb.size) (own_lower h3 hG.hb.size))⟩
            · obtain ⟨b0, b1, b2, b3, b4, b5, b6⟩ := CP.out W (HBw.out.trans (hG.hb.mono HBw.out.size))
              refine istep_value (w' := W) (u := .agg #[.slice A1 3 c1, .slice A2 6 c2, .slice A3 3 c3, .slice A4 3 c4, .slice A5 6 c5, .slice A6 3 c6, .int .i64 0]) rfl ?_ (hG.plan (i := 2) (by decide))
              rw [show D9 2 = [] from rfl]
              (try simp only [putAll, Act.put, List.getElem_toArray, List.getElem_cons_succ, List.getElem_cons_zero, List.setIfInBounds_toArray, List.set_cons_zero, List.set_cons_succ])
              go_simp
            · have e0 := hG.pl 2 (by decide) (ha 2 (by decide))
              have hno : m (13 + 1) = false := by
                cases hm : m (13 + 1)
                · rfl
                · have := (hG.down 1 (by decide) hm).2
                  rw [show rc 1 = 3 from rfl, hi0] at this; cases this
              refine istep_call rfl (f := 7) (args := #[.agg #[.slice A1 3 c1, .slice A2 6 c2, .slice A3 3 c3, .slice A4 3 c4, .slice A5 6 c5, .slice A6 3 c6, .int .i64 0], .int .i64 1]) ?_ ?_
              · change (execOp (Act.eval (Act.put _ (some 137) (v 2))) _).run _ _ = _
                rw [e0]
                (try simp only [putAll, Act.put, List.getElem_toArray, List.getElem_cons_succ, List.getElem_cons_zero, List.setIfInBounds_toArray, List.set_cons_zero, List.set_cons_succ])
                go_simp
              · have KR : Calls Try.prog 7 #[.agg #[.slice A1 3 c1, .slice A2 6 c2, .slice A3 3 c3, .slice A4 3 c4, .slice A5 6 c5, .slice A6 3 c6, .int .i64 0], .int .i64 1] W _ := release_any A1 A2 A3 A4 A5 A6 3 6 3 c1 c2 c3 c4 c5 c6 0 hfR hfL hfI 1 W (outI_recs2 (OL.out _ (HBw.out.trans (hG.hb.mono HBw.out.size)))) (outI_recs2 (OI.out _ (HBw.out.trans (hG.hb.mono HBw.out.size)))) (by decide) (by decide)
                refine KR.mono ?_
                rintro e w2 ⟨v1, v2, v3, rfl, h1, h2, h3, hb2⟩
                exact ⟨_, rfl, hG.call (j := 1) (who := 1) (by simp) hno hb2 (rel_of (own_lower h1 hG.hb.size) (own_lower h2 hG.hb.size) (own_lower h3 hG.hb.size))⟩
            · obtain ⟨b0, b1, b2, b3, b4, b5, b6⟩ := CP.out W (HBw.out.trans (hG.hb.mono HBw.out.size))
              refine istep_value (w' := W) (u := .agg #[.slice A1 3 c1, .slice A2 6 c2, .slice A3 3 c3, .slice A4 3 c4, .slice A5 6 c5, .slice A6 3 c6, .int .i64 0]) rfl ?_ (hG.plan (i := 4) (by decide))
              rw [show D9 4 = [] from rfl]
              (try simp only [putAll, Act.put, List.getElem_toArray, List.getElem_cons_succ, List.getElem_cons_zero, List.setIfInBounds_toArray, List.set_cons_zero, List.set_cons_succ])
              go_simp
            · have e0 := hG.pl 4 (by decide) (ha 4 (by decide))
              have hno : m (13 + 2) = false := by
                cases hm : m (13 + 2)
                · rfl
                · have := (hG.down 2 (by decide) hm).2
                  rw [show rc 2 = 5 from rfl, hi0] at this; cases this
              refine istep_call rfl (f := 7) (args := #[.agg #[.slice A1 3 c1, .slice A2 6 c2, .slice A3 3 c3, .slice A4 3 c4, .slice A5 6 c5, .slice A6 3 c6, .int .i64 0], .int .i64 2]) ?_ ?_
              · change (execOp (Act.eval (Act.put _ (some 139) (v 4))) _).run _ _ = _
                rw [e0]
                (try simp only [putAll, Act.put, List.getElem_toArray, List.getElem_cons_succ, List.getElem_cons_zero, List.setIfInBounds_toArray, List.set_cons_zero, List.set_cons_succ])
                go_simp
              · have KR : Calls Try.prog 7 #[.agg #[.slice A1 3 c1, .slice A2 6 c2, .slice A3 3 c3, .slice A4 3 c4, .slice A5 6 c5, .slice A6 3 c6, .int .i64 0], .int .i64 2] W _ := release_any A1 A2 A3 A4 A5 A6 3 6 3 c1 c2 c3 c4 c5 c6 0 hfR hfL hfI 2 W (outI_recs2 (OL.out _ (HBw.out.trans (hG.hb.mono HBw.out.size)))) (outI_recs2 (OI.out _ (HBw.out.trans (hG.hb.mono HBw.out.size)))) (by decide) (by decide)
                refine KR.mono ?_
                rintro e w2 ⟨v1, v2, v3, rfl, h1, h2, h3, hb2⟩
                exact ⟨_, rfl, hG.call (j := 2) (who := 2) (by simp) hno hb2 (rel_of (own_lower h1 hG.hb.size) (own_lower h2 hG.hb.size) (own_lower h3 hG.hb.size))⟩
            · obtain ⟨b0, b1, b2, b3, b4, b5, b6⟩ := CP.out W (HBw.out.trans (hG.hb.mono HBw.out.size))
              refine istep_value (w' := W) (u := .agg #[.slice A1 3 c1, .slice A2 6 c2, .slice A3 3 c3, .slice A4 3 c4, .slice A5 6 c5, .slice A6 3 c6, .int .i64 0]) rfl ?_ (hG.plan (i := 6) (by decide))
              rw [show D9 6 = [] from rfl]
              (try simp only [putAll, Act.put, List.getElem_toArray, List.getElem_cons_succ, List.getElem_cons_zero, List.setIfInBounds_toArray, List.set_cons_zero, List.set_cons_succ])
              go_simp
            · refine istep_value (w' := W) (u := .int .i64 N3) rfl ?_ hG.num
              rw [show D9 7 = [] from rfl]
              (try simp only [putAll, Act.put, List.getElem_toArray, List.getElem_cons_succ, List.getElem_cons_zero, List.setIfInBounds_toArray, List.set_cons_zero, List.set_cons_succ])
              go_simp
            · have e0 := hG.pl 6 (by decide) (ha 6 (by decide))
              have e7 := hG.nn (ha 7 (by decide))
              have hno : m (13 + 3) = false := by
                cases hm : m (13 + 3)
                · rfl
                · have := (hG.down 3 (by decide) hm).2
                  rw [show rc 3 = 8 from rfl, hi0] at this; cases this
              refine istep_call rfl (f := 7) (args := #[.agg #[.slice A1 3 c1, .slice A2 6 c2, .slice A3 3 c3, .slice A4 3 c4, .slice A5 6 c5, .slice A6 3 c6, .int .i64 0], .int .i64 N3]) ?_ ?_
              · change (execOp (Act.eval (Act.put (Act.put _ (some 141) (v 6)) (some 142) (v 7))) _).run _ _ = _
                rw [e0, e7]
                (try simp only [putAll, Act.put, List.getElem_toArray, List.getElem_cons_succ, List.getElem_cons_zero, List.setIfInBounds_toArray, List.set_cons_zero, List.set_cons_succ])
                go_simp
              · have KR : Calls Try.prog 7 #[.agg #[.slice A1 3 c1, .slice A2 6 c2, .slice A3 3 c3, .slice A4 3 c4, .slice A5 6 c5, .slice A6 3 c6, .int .i64 0], .int .i64 N3] W _ := release_any A1 A2 A3 A4 A5 A6 3 6 3 c1 c2 c3 c4 c5 c6 0 hfR hfL hfI N3 W (outI_recs2 (OL.out _ (HBw.out.trans (hG.hb.mono HBw.out.size)))) (outI_recs2 (OI.out _ (HBw.out.trans (hG.hb.mono HBw.out.size)))) (by decide) (by decide)
                refine KR.mono ?_
                rintro e w2 ⟨v1, v2, v3, rfl, h1, h2, h3, hb2⟩
                exact ⟨_, rfl, hG.call (j := 3) (who := N3) (by simp) hno hb2 (rel_of (own_lower h1 hG.hb.size) (own_lower h2 hG.hb.size) (own_lower h3 hG.hb.size))⟩
            · have hno : m (13 + 0) = false := by
                cases hm : m (13 + 0)
                · rfl
                · have := (hG.down 0 (by decide) hm).1
                  rw [show 9 + 0 = 9 from rfl, hi0] at this; cases this
              refine istep_value (w' := W.alloc (.cells Zd 31)) (u := .pointer (some ⟨W.heap.size, 0, none⟩)) rfl ?_ (hG.alloc (j := 0) (by decide) hno)
              rw [show D9 9 = [] from rfl]
              unfold Zd
              (try simp only [putAll, Act.put, List.getElem_toArray, List.getElem_cons_succ, List.getElem_cons_zero, List.setIfInBounds_toArray, List.set_cons_zero, List.set_cons_succ])
              go_simp
            · have hno : m (13 + 1) = false := by
                cases hm : m (13 + 1)
                · rfl
                · have := (hG.down 1 (by decide) hm).1
                  rw [show 9 + 1 = 10 from rfl, hi0] at this; cases this
              refine istep_value (w' := W.alloc (.cells Zd 31)) (u := .pointer (some ⟨W.heap.size, 0, none⟩)) rfl ?_ (hG.alloc (j := 1) (by decide) hno)
              rw [show D9 10 = [] from rfl]
              unfold Zd
              (try simp only [putAll, Act.put, List.getElem_toArray, List.getElem_cons_succ, List.getElem_cons_zero, List.setIfInBounds_toArray, List.set_cons_zero, List.set_cons_succ])
              go_simp
            · have hno : m (13 + 2) = false := by
                cases hm : m (13 + 2)
                · rfl
                · have := (hG.down 2 (by decide) hm).1
                  rw [show 9 + 2 = 11 from rfl, hi0] at this; cases this
              refine istep_value (w' := W.alloc (.cells Zd 31)) (u := .pointer (some ⟨W.heap.size, 0, none⟩)) rfl ?_ (hG.alloc (j := 2) (by decide) hno)
              rw [show D9 11 = [] from rfl]
              unfold Zd
              (try simp only [putAll, Act.put, List.getElem_toArray, List.getElem_cons_succ, List.getElem_cons_zero, List.setIfInBounds_toArray, List.set_cons_zero, List.set_cons_succ])
              go_simp
            · have hno : m (13 + 3) = false := by
                cases hm : m (13 + 3)
                · rfl
                · have := (hG.down 3 (by decide) hm).1
                  rw [show 9 + 3 = 12 from rfl, hi0] at this; cases this
              refine istep_value (w' := W.alloc (.cells Zd 31)) (u := .pointer (some ⟨W.heap.size, 0, none⟩)) rfl ?_ (hG.alloc (j := 3) (by decide) hno)
              rw [show D9 12 = [] from rfl]
              unfold Zd
              (try simp only [putAll, Act.put, List.getElem_toArray, List.getElem_cons_succ, List.getElem_cons_zero, List.setIfInBounds_toArray, List.set_cons_zero, List.set_cons_succ])
              go_simp
            · have hr := ha 1 (by decide)
              have h9 := ha 9 (by decide)
              obtain ⟨a1, a2, a3, q1, q2, q3, er, _, _⟩ := hG.rel 0 0 (by simp) hr
              obtain ⟨gg, eg, _, hh⟩ := hG.slot 0 (by decide) h9
              rw [show 13 + 0 = 13 from rfl, hi0] at hh
              have BZ : Blk W gg [.slice none 0 0, .slice none 0 0, .slice none 0 0] := blk_of_heap hh
              have z0 := BZ.at0.2
              have z1 := BZ.at1.2
              have z2 := BZ.at2.2
              have y0 := BZ.at0.1
              have y1 := BZ.at1.1
              have y2 := BZ.at2.1
              have hlt := BZ.1
              clear BZ
              refine istep_skip (w' := ((W.setCell ⟨gg, 0, none⟩ (.slice a1 0 q1)).setCell ⟨gg, 1, none⟩ (.slice a2 (relL 0).length q2)).setCell ⟨gg, 2, none⟩ (.slice a3 (relI 0).length q3)) rfl ?_ (hG.store (j := 0) (who := 0) (by simp) hi0 h9 hr eg er undef)
              have er' : v 1 = _ := er
              have eg' : v 9 = _ := eg
              change (execOp (Act.eval (Act.put (Act.put _ (some 6) (v 9)) (some 136) (v 1))) _).run _ _ = _
              rw [er', eg']
              (try simp only [putAll, Act.put, List.getElem_toArray, List.getElem_cons_succ, List.getElem_cons_zero, List.setIfInBounds_toArray, List.set_cons_zero, List.set_cons_succ])
              go_simp
            · have hr := ha 3 (by decide)
              have h9 := ha 10 (by decide)
              obtain ⟨a1, a2, a3, q1, q2, q3, er, _, _⟩ := hG.rel 1 1 (by simp) hr
              obtain ⟨gg, eg, _, hh⟩ := hG.slot 1 (by decide) h9
              rw [show 13 + 1 = 14 from rfl, hi0] at hh
              have BZ : Blk W gg [.slice none 0 0, .slice none 0 0, .slice none 0 0] := blk_of_heap hh
              have z0 := BZ.at0.2
              have z1 := BZ.at1.2
              have z2 := BZ.at2.2
              have y0 := BZ.at0.1
              have y1 := BZ.at1.1
              have y2 := BZ.at2.1
              have hlt := BZ.1
              clear BZ
              refine istep_skip (w' := ((W.setCell ⟨gg, 0, none⟩ (.slice a1 0 q1)).setCell ⟨gg, 1, none⟩ (.slice a2 (relL 1).length q2)).setCell ⟨gg, 2, none⟩ (.slice a3 (relI 1).length q3)) rfl ?_ (hG.store (j := 1) (who := 1) (by simp) hi0 h9 hr eg er undef)
              have er' : v 3 = _ := er
              have eg' : v 10 = _ := eg
              change (execOp (Act.eval (Act.put (Act.put _ (some 7) (v 10)) (some 138) (v 3))) _).run _ _ = _
              rw [er', eg']
              (try simp only [putAll, Act.put, List.getElem_toArray, List.getElem_cons_succ, List.getElem_cons_zero, List.setIfInBounds_toArray, List.set_cons_zero, List.set_cons_succ])
              go_simp
            · have hr := ha 5 (by decide)
              have h9 := ha 11 (by decide)
              obtain ⟨a1, a2, a3, q1, q2, q3, er, _, _⟩ := hG.rel 2 2 (by simp) hr
              obtain ⟨gg, eg, _, hh⟩ := hG.slot 2 (by decide) h9
              rw [show 13 + 2 = 15 from rfl, hi0] at hh
              have BZ : Blk W gg [.slice none 0 0, .slice none 0 0, .slice none 0 0] := blk_of_heap hh
              have z0 := BZ.at0.2
              have z1 := BZ.at1.2
              have z2 := BZ.at2.2
              have y0 := BZ.at0.1
              have y1 := BZ.at1.1
              have y2 := BZ.at2.1
              have hlt := BZ.1
              clear BZ
              refine istep_skip (w' := ((W.setCell ⟨gg, 0, none⟩ (.slice a1 0 q1)).setCell ⟨gg, 1, none⟩ (.slice a2 (relL 2).length q2)).setCell ⟨gg, 2, none⟩ (.slice a3 (relI 2).length q3)) rfl ?_ (hG.store (j := 2) (who := 2) (by simp) hi0 h9 hr eg er undef)
              have er' : v 5 = _ := er
              have eg' : v 11 = _ := eg
              change (execOp (Act.eval (Act.put (Act.put _ (some 8) (v 11)) (some 140) (v 5))) _).run _ _ = _
              rw [er', eg']
              (try simp only [putAll, Act.put, List.getElem_toArray, List.getElem_cons_succ, List.getElem_cons_zero, List.setIfInBounds_toArray, List.set_cons_zero, List.set_cons_succ])
              go_simp
          · intro v W hG
            obtain ⟨a01, a02, a03, q01, q02, q03, er0, ol0, oi0⟩ := hG.rel 0 0 (by simp) rfl
            have er0' : v 1 = _ := er0
            rw [(rel0).1] at ol0 er0'
            rw [(rel0).2] at oi0 er0'
            obtain ⟨a11, a12, a13, q11, q12, q13, er1, ol1, oi1⟩ := hG.rel 1 1 (by simp) rfl
            have er1' : v 3 = _ := er1
            rw [(rel1).1] at ol1 er1'
            rw [(rel1).2] at oi1 er1'
            obtain ⟨a21, a22, a23, q21, q22, q23, er2, ol2, oi2⟩ := hG.rel 2 2 (by simp) rfl
            have er2' : v 5 = _ := er2
            rw [(rel2).1] at ol2 er2'
            rw [(rel2).2] at oi2 er2'
            obtain ⟨a31, a32, a33, q31, q32, q33, er3, ol3, oi3⟩ := hG.rel 3 N3 (by simp) rfl
            have er3' : v 8 = _ := er3
            rw [(reln HN.out).1] at ol3 er3'
            rw [(reln HN.out).2] at oi3 er3'
            simp only [List.length_nil, List.length_singleton] at ol0 oi0 ol1 oi1 ol2 oi2 ol3 oi3 er0' er1' er2' er3'
            obtain ⟨g0, e9, _, hh0⟩ := hG.slot 0 (by decide) rfl
            replace hh0 : W.heap[g0]? = some (.cells (aggOf (v (rc 0))) 31 (0, 0)) := hh0
            rw [er0] at hh0
            rw [(rel0).1, (rel0).2] at hh0
            replace hh0 : W.heap[g0]? = some (.cells #[.slice a01 0 q01, .slice a02 1 q02, .slice a03 0 q03] 31 (0, 0)) := hh0
            have e9' : v 9 = _ := e9
            obtain ⟨g1, e10, _, hh1⟩ := hG.slot 1 (by decide) rfl
            replace hh1 : W.heap[g1]? = some (.cells (aggOf (v (rc 1))) 31 (0, 0)) := hh1
            rw [er1] at hh1
            rw [(rel1).1, (rel1).2] at hh1
            replace hh1 : W.heap[g1]? = some (.cells #[.slice a11 0 q11, .slice a12 1 q12, .slice a13 0 q13] 31 (0, 0)) := hh1
            have e10' : v 10 = _ := e10
            obtain ⟨g2, e11, _, hh2⟩ := hG.slot 2 (by decide) rfl
            replace hh2 : W.heap[g2]? = some (.cells (aggOf (v (rc 2))) 31 (0, 0)) := hh2
            rw [er2] at hh2
            rw [(rel2).1, (rel2).2] at hh2
            replace hh2 : W.heap[g2]? = some (.cells #[.slice a21 0 q21, .slice a22 0 q22, .slice a23 1 q23] 31 (0, 0)) := hh2
            have e11' : v 11 = _ := e11
            obtain ⟨g3, e12, hB3, hh3⟩ := hG.slot 3 (by decide) rfl
            have hh3 : W.heap[g3]? = some (.cells #[.slice none 0 0, .slice none 0 0, .slice none 0 0] 31 (0, 0)) := hh3
            have e12' : v 12 = _ := e12
            have ne : ∀ j, j < 3 → ∀ q, v (9 + j) = .pointer (some ⟨q, 0, none⟩) → q ≠ g3 := fun j hj q hq e => hG.apart j 3 (by omega) (by decide) (by omega) (by match j, hj with | 0, _ | 1, _ | 2, _ => rfl) rfl (by rw [hq, e12, e])
            have n0 := ne 0 (by decide) _ e9
            have n1 := ne 1 (by decide) _ e10
            have n2 := ne 2 (by decide) _ e11
            obtain ⟨s1, s2, s3⟩ := set3 hh3 (.slice a31 0 q31) (.slice a32 0 q32) (.slice a33 0 q33)
            have keep : ∀ (q : Nat) (o : Obj), q ≠ g3 → W.heap[q]? = some o → (((W.setCell ⟨g3, 0, none⟩ (.slice a31 0 q31)).setCell ⟨g3, 1, none⟩ (.slice a32 0 q32)).setCell ⟨g3, 2, none⟩ (.slice a33 0 q33)).heap[q]? = some o := fun q o hq ho => by rw [Below.heap_setCell _ _ _ _ (by simpa using hq), Below.heap_setCell _ _ _ _ (by simpa using hq), Below.heap_setCell _ _ _ _ (by simpa using hq)]; exact ho
            have H0 := Lib.hid (keep _ _ n0 hh0)
            have H1 := Lib.hid (keep _ _ n1 hh1)
            have H2 := Lib.hid (keep _ _ n2 hh2)
            have H3 := Lib.hid s1
            have RL0 := Lib.hid (Rows.of_own (f := Hold.cells) (l := [⟨2, 0, -1⟩]) (s2 _ _ _ _ _ _ (by decide) ol0) hold_len)
            have RL1 := Lib.hid (Rows.of_own (f := Hold.cells) (l := [⟨5, 1, -1⟩]) (s2 _ _ _ _ _ _ (by decide) ol1) hold_len)
            have RI2 := Lib.hid (Rows.of_own (f := Hold.cells) (l := [⟨1, 2, -1⟩]) (s2 _ _ _ _ _ _ (by decide) oi2) hold_len)
            have HBx : Hid (Below w0.heap.size w0 (((W.setCell ⟨g3, 0, none⟩ (.slice a31 0 q31)).setCell ⟨g3, 1, none⟩ (.slice a32 0 q32)).setCell ⟨g3, 2, none⟩ (.slice a33 0 q33))) := Lib.hid (s3 _ _ hG.hb hB3)
            have e0' := hG.pl 0 (by decide) rfl
            have e2' := hG.pl 2 (by decide) rfl
            have e4' := hG.pl 4 (by decide) rfl
            have e6' := hG.pl 6 (by decide) rfl
            have e7' := hG.nn rfl
            have BZ : Blk W g3 [.slice none 0 0, .slice none 0 0, .slice none 0 0] := blk_of_heap hh3
            have z0 := BZ.at0.2
            have z1 := BZ.at1.2
            have z2 := BZ.at2.2
            have y0 := BZ.at0.1
            have y1 := BZ.at1.1
            have y2 := BZ.at2.1
            have hlt3 := BZ.1
            clear BZ keep s1 s2 s3 ne n0 n1 n2 hG hh0 hh1 hh2 hh3 hB3 ol0 oi0 ol1 oi1 ol2 oi2 ol3 oi3 er0 er1 er2 er3 e9 e10 e11 e12
            refine wpAnyZ_one (i := 16) (by kernel_rfl) ?_
            refine zstep rfl (fun K hK => ?_)
            change if Region.wanted _ (yielded _ (Act.tmps (Act.put (Act.put (Act.put (Act.put (Act.put (Act.put (Act.put (Act.put (Act.put (Act.put (Act.put (Act.put (Act.put (Act.put (Act.put (Act.put _ (some 135) (v 0)) (some 136) (v 1)) (some 137) (v 2)) (some 138) (v 3)) (some 139) (v 4)) (some 140) (v 5)) (some 141) (v 6)) (some 142) (v 7)) (some 143) (v 8)) (some 6) (v 9)) (some 7) (v 10)) (some 8) (v 11)) (some 9) (v 12)) none (v 13)) none (v 14)) none (v 15)))) = true then Oper.wp _ _ (Act.put (Act.put (Act.put (Act.put (Act.put (Act.put (Act.put (Act.put (Act.put (Act.put (Act.put (Act.put (Act.put (Act.put (Act.put (Act.put _ (some 135) (v 0)) (some 136) (v 1)) (some 137) (v 2)) (some 138) (v 3)) (some 139) (v 4)) (some 140) (v 5)) (some 141) (v 6)) (some 142) (v 7)) (some 143) (v 8)) (some 6) (v 9)) (some 7) (v 10)) (some 8) (v 11)) (some 9) (v 12)) none (v 13)) none (v 14)) none (v 15)) _ _ _ else _
            rw [e0', e2', e4', e6', e7', er0', er1', er2', er3', e9', e10', e11', e12']
            (try simp only [putAll, Act.put, List.getElem_toArray, List.getElem_cons_succ, List.getElem_cons_zero, List.setIfInBounds_toArray, List.set_cons_zero, List.set_cons_succ])
            go_simp
            refine hK.out _ _ (fun _ => trivial) (fun _ => ?_)
            clear hK K e0' e2' e4' e6' e7' er0' er1' er2' er3' e9' e10' e11' e12' z0 z1 z2 y0 y1 y2 hlt3
            refine wpAnyZ_done (by kernel_rfl) ?_ _
            generalize (((W.setCell ⟨g3, 0, none⟩ (.slice a31 0 q31)).setCell ⟨g3, 1, none⟩ (.slice a32 0 q32)).setCell ⟨g3, 2, none⟩ (.slice a33 0 q33)) = W4 at *
            have HB4 := Lib.hid (Below.refl W4.heap.size W4)
            have ez0 : ((0 : Int) == 0) = true := rfl
            have B04 := blk_of_heap (heap_keep H0.out HB4.out)
            have c00 := B04.at0.1
            have c01 := B04.at1.1
            have c02 := B04.at2.1
            have c0l := B04.1
            clear B04
            have B14 := blk_of_heap (heap_keep H1.out HB4.out)
            have c10 := B14.at0.1
            have c11 := B14.at1.1
            have c12 := B14.at2.1
            have c1l := B14.1
            clear B14
            have B24 := blk_of_heap (heap_keep H2.out HB4.out)
            have c20 := B24.at0.1
            have c21 := B24.at1.1
            have c22 := B24.at2.1
            have c2l := B24.1
            clear B24
            have B34 := blk_of_heap (heap_keep H3.out HB4.out)
            have c30 := B34.at0.1
            have c31 := B34.at1.1
            have c32 := B34.at2.1
            have c3l := B34.1
            clear B34
            have HBa4 : Hid (Below W4.heap.size W4 (W4.alloc (.cells #[.int .i64 2, .int .i64 0, .int .i64 (-1)] 35))) := Lib.hid (HB4.out.alloc HB4.out.size _)
            have KS4 : Hid (Calls Try.prog 8 #[.slice a02 1 q02, .slice (some ⟨W4.heap.size, 0, none⟩) 1 1] (W4.alloc (.cells #[.int .i64 2, .int .i64 0, .int .i64 (-1)] 35)) fun e w' => e = .returned (.bool true) ∧ Below (W4.alloc (.cells #[.int .i64 2, .int .i64 0, .int .i64 (-1)] 35)).heap.size (W4.alloc (.cells #[.int .i64 2, .int .i64 0, .int .i64 (-1)] 35)) w') := Lib.hid (same_holds a02 _ q02 1 [⟨2, 0, -1⟩] _ (RL0.out.below HBa4.out) (hold_lit (blk_new W4 #[.int .i64 2, .int .i64 0, .int .i64 (-1)] 35)) (by decide))
            go_wp2_with (go_at_call 8; fail)
            go_at_call 8
            refine KS4.out.mono ?_
            rintro e' W5 ⟨rfl, hb5⟩
            have HB5 : Hid (Below W4.heap.size W4 W5) := Lib.hid (HBa4.out.trans (hb5.mono HBa4.out.size))
            clear hb5 KS4
            clear c00 c01 c02 c0l c10 c11 c12 c1l c20 c21 c22 c2l c30 c31 c32 c3l
            have B05 := blk_of_heap (heap_keep H0.out HB5.out)
            have c00 := B05.at0.1
            have c01 := B05.at1.1
            have c02 := B05.at2.1
            have c0l := B05.1
            clear B05
            have B15 := blk_of_heap (heap_keep H1.out HB5.out)
            have c10 := B15.at0.1
            have c11 := B15.at1.1
            have c12 := B15.at2.1
            have c1l := B15.1
            clear B15
            have B25 := blk_of_heap (heap_keep H2.out HB5.out)
            have c20 := B25.at0.1
            have c21 := B25.at1.1
            have c22 := B25.at2.1
            have c2l := B25.1
            clear B25
            have B35 := blk_of_heap (heap_keep H3.out HB5.out)
            have c30 := B35.at0.1
            have c31 := B35.at1.1
            have c32 := B35.at2.1
            have c3l := B35.1
            clear B35
            have HBa5 : Hid (Below W4.heap.size W4 (W5.alloc (.cells #[.int .i64 5, .int .i64 1, .int .i64 (-1)] 35))) := Lib.hid (HB5.out.alloc HB5.out.size _)
            have KS5 : Hid (Calls Try.prog 8 #[.slice a12 1 q12, .slice (some ⟨W5.heap.size, 0, none⟩) 1 1] (W5.alloc (.cells #[.int .i64 5, .int .i64 1, .int .i64 (-1)] 35)) fun e w' => e = .returned (.bool true) ∧ Below (W5.alloc (.cells #[.int .i64 5, .int .i64 1, .int .i64 (-1)] 35)).heap.size (W5.alloc (.cells #[.int .i64 5, .int .i64 1, .int .i64 (-1)] 35)) w') := Lib.hid (same_holds a12 _ q12 1 [⟨5, 1, -1⟩] _ (RL1.out.below HBa5.out) (hold_lit (blk_new W5 #[.int .i64 5, .int .i64 1, .int .i64 (-1)] 35)) (by decide))
            go_wp2_with (go_at_call 8; fail)
            go_at_call 8
            refine KS5.out.mono ?_
            rintro e' W6 ⟨rfl, hb6⟩
            have HB6 : Hid (Below W4.heap.size W4 W6) := Lib.hid (HBa5.out.trans (hb6.mono HBa5.out.size))
            clear hb6 KS5
            clear c00 c01 c02 c0l c10 c11 c12 c1l c20 c21 c22 c2l c30 c31 c32 c3l
            have B06 := blk_of_heap (heap_keep H0.out HB6.out)
            have c00 := B06.at0.1
            have c01 := B06.at1.1
            have c02 := B06.at2.1
            have c0l := B06.1
            clear B06
            have B16 := blk_of_heap (heap_keep H1.out HB6.out)
            have c10 := B16.at0.1
            have c11 := B16.at1.1
            have c12 := B16.at2.1
            have c1l := B16.1
            clear B16
            have B26 := blk_of_heap (heap_keep H2.out HB6.out)
            have c20 := B26.at0.1
            have c21 := B26.at1.1
            have c22 := B26.at2.1
            have c2l := B26.1
            clear B26
            have B36 := blk_of_heap (heap_keep H3.out HB6.out)
            have c30 := B36.at0.1
            have c31 := B36.at1.1
            have c32 := B36.at2.1
            have c3l := B36.1
            clear B36
            have HBa6 : Hid (Below W4.heap.size W4 (W6.alloc (.cells #[.int .i64 1, .int .i64 2, .int .i64 (-1)] 35))) := Lib.hid (HB6.out.alloc HB6.out.size _)
            have KS6 : Hid (Calls Try.prog 8 #[.slice a23 1 q23, .slice (some ⟨W6.heap.size, 0, none⟩) 1 1] (W6.alloc (.cells #[.int .i64 1, .int .i64 2, .int .i64 (-1)] 35)) fun e w' => e = .returned (.bool true) ∧ Below (W6.alloc (.cells #[.int .i64 1, .int .i64 2, .int .i64 (-1)] 35)).heap.size (W6.alloc (.cells #[.int .i64 1, .int .i64 2, .int .i64 (-1)] 35)) w') := Lib.hid (same_holds a23 _ q23 1 [⟨1, 2, -1⟩] _ (RI2.out.below HBa6.out) (hold_lit (blk_new W6 #[.int .i64 1, .int .i64 2, .int .i64 (-1)] 35)) (by decide))
            go_wp2_with (go_at_call 8; fail)
            go_at_call 8
            refine KS6.out.mono ?_
            rintro e' W7 ⟨rfl, hb7⟩
            have HB7 : Hid (Below W4.heap.size W4 W7) := Lib.hid (HBa6.out.trans (hb7.mono HBa6.out.size))
            clear hb7 KS6
            clear c00 c01 c02 c0l c10 c11 c12 c1l c20 c21 c22 c2l c30 c31 c32 c3l
            have B07 := blk_of_heap (heap_keep H0.out HB7.out)
            have c00 := B07.at0.1
            have c01 := B07.at1.1
            have c02 := B07.at2.1
            have c0l := B07.1
            clear B07
            have B17 := blk_of_heap (heap_keep H1.out HB7.out)
            have c10 := B17.at0.1
            have c11 := B17.at1.1
            have c12 := B17.at2.1
            have c1l := B17.1
            clear B17
            have B27 := blk_of_heap (heap_keep H2.out HB7.out)
            have c20 := B27.at0.1
            have c21 := B27.at1.1
            have c22 := B27.at2.1
            have c2l := B27.1
            clear B27
            have B37 := blk_of_heap (heap_keep H3.out HB7.out)
            have c30 := B37.at0.1
            have c31 := B37.at1.1
            have c32 := B37.at2.1
            have c3l := B37.1
            clear B37
            have KK := Lib.hid (wakes9_any W7)
            go_wp2_with (go_at_call 9; fail)
            go_at_call 9
            refine KK.out.mono ?_
            rintro e' W8 ⟨rfl, hb8⟩
            have HBF : Hid (Below w.heap.size w W8) := Lib.hid (HBW.out.trans ((HBw.out.trans ((HBx.out.trans ((HB7.out.trans (hb8.mono HB7.out.size)).mono HBx.out.size)).mono HBw.out.size)).mono HBW.out.size))
            clear hb8
            clear c00 c01 c02 c0l c10 c11 c12 c1l c20 c21 c22 c2l c30 c31 c32 c3l
            go_wp2_with (fail)
            go_ret
            exact ⟨rfl, HBF.out⟩
end Go.Proofs.Ytneelmmikaefgaa
