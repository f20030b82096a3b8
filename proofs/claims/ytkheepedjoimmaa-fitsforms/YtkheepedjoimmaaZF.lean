/- FitsForms: a table by hand; the walk. -/
import Derived.Test.YtkheepedjoimmaaZD
namespace Go.Proofs.Ytkheepedjoimmaa
open Go.RowKit
set_option linter.unusedSimpArgs false

def handF : Prob := ⟨[⟨3, 0, 20⟩], [⟨2, 0, 9, 0⟩, ⟨1, 0, 9, 0⟩, ⟨1, 15, 15, 0⟩], [], [[0, 2, 3, 5], [2, 0, 4, 1], [3, 4, 0, 9], [5, 1, 9, 0]]⟩
theorem four_row {W : World} {B : Nat} {a b c d : Int} (h : Blk W B (ints [a, b, c, d])) (cap : Nat) : Recs W 1 num_ (.slice (some ⟨B, 0, none⟩) 4 cap) [a, b, c, d] :=
  h.recs 1 num_ [a, b, c, d] cap fun k hk j hj => by
    match k, hk, j, hj with
    | 0, _, 0, _ | 1, _, 0, _ | 2, _, 0, _ | 3, _, 0, _ => rfl
theorem handF_said {W : World} {b0 b1 b2 b3 b4 b5 b6 : Nat} (h0 : Blk W b0 (ints [3, 0, 20])) (h1 : Blk W b1 (ints [2, 0, 9, 0, 1, 0, 9, 0, 1, 15, 15, 0])) (h2 : Blk W b2 (ints [0, 2, 3, 5])) (h3 : Blk W b3 (ints [2, 0, 4, 1])) (h4 : Blk W b4 (ints [3, 4, 0, 9])) (h5 : Blk W b5 (ints [5, 1, 9, 0]))
    (h6 : Blk W b6 [.slice (some ⟨b2, 0, none⟩) 4 4, .slice (some ⟨b3, 0, none⟩) 4 4, .slice (some ⟨b4, 0, none⟩) 4 4, .slice (some ⟨b5, 0, none⟩) 4 4]) : Said W (some ⟨b0, 0, none⟩) (some ⟨b1, 0, none⟩) none (some ⟨b6, 0, none⟩) 1 3 0 4 handF :=
  said_mk (h0.car _) (h1.recs 4 Stop.at_ handF.stops 3 fun k hk j hj => by
    match k, hk, j, hj with
    | 0, _, 0, _ | 0, _, 1, _ | 0, _, 2, _ | 0, _, 3, _ | 1, _, 0, _ | 1, _, 1, _ | 1, _, 2, _ | 1, _, 3, _ | 2, _, 0, _ | 2, _, 1, _ | 2, _, 2, _ | 2, _, 3, _ => rfl) Recs.nil (h6.trav handF.travel 4 fun k hk => by
    match k, hk with
    | 0, _ => exact ⟨_, rfl, four_row h2 4⟩
    | 1, _ => exact ⟨_, rfl, four_row h3 4⟩
    | 2, _ => exact ⟨_, rfl, four_row h4 4⟩
    | 3, _ => exact ⟨_, rfl, four_row h5 4⟩)
set_option maxRecDepth 100000 in
set_option maxHeartbeats 16000000 in
theorem forms6_walk (n : Int) (w : World) : Calls Try.prog 8 #[.int .i64 n] w fun e w' => e = .returned (.bool true) ∧ Below w.heap.size w w' := by
  have HS0 : Hid (Said (((((((w.alloc (.cells #[.int .i64 3, .int .i64 0, .int .i64 20] 52)).alloc (.cells #[.int .i64 2, .int .i64 0, .int .i64 9, .int .i64 0, .int .i64 1, .int .i64 0, .int .i64 9, .int .i64 0, .int .i64 1, .int .i64 15, .int .i64 15, .int .i64 0] 48)).alloc (.cells #[.int .i64 0, .int .i64 2, .int .i64 3, .int .i64 5] 3)).alloc (.cells #[.int .i64 2, .int .i64 0, .int .i64 4, .int .i64 1] 3)).alloc (.cells #[.int .i64 3, .int .i64 4, .int .i64 0, .int .i64 9] 3)).alloc (.cells #[.int .i64 5, .int .i64 1, .int .i64 9, .int .i64 0] 3)).alloc (.cells #[.slice (some ⟨w.heap.size + 1 + 1, 0, none⟩) 4 4, .slice (some ⟨w.heap.size + 1 + 1 + 1, 0, none⟩) 4 4, .slice (some ⟨w.heap.size + 1 + 1 + 1 + 1, 0, none⟩) 4 4, .slice (some ⟨w.heap.size + 1 + 1 + 1 + 1 + 1, 0, none⟩) 4 4] 22)) (some ⟨w.heap.size, 0, none⟩) (some ⟨w.heap.size + 1, 0, none⟩) none (some ⟨w.heap.size + 1 + 1 + 1 + 1 + 1 + 1, 0, none⟩) 1 3 0 4 handF) := handF_said (((((((blk_at _ _ rfl).alloc _).alloc _).alloc _).alloc _).alloc _).alloc _) ((((((blk_at _ _ (by simp)).alloc _).alloc _).alloc _).alloc _).alloc _) (((((blk_at _ _ (by simp)).alloc _).alloc _).alloc _).alloc _) ((((blk_at _ _ (by simp)).alloc _).alloc _).alloc _) (((blk_at _ _ (by simp)).alloc _).alloc _) ((blk_at _ _ (by simp)).alloc _) (blk_at _ _ (by simp))
  have BI0 : Hid (Blk ((((((((w.alloc (.cells #[.int .i64 3, .int .i64 0, .int .i64 20] 52)).alloc (.cells #[.int .i64 2, .int .i64 0, .int .i64 9, .int .i64 0, .int .i64 1, .int .i64 0, .int .i64 9, .int .i64 0, .int .i64 1, .int .i64 15, .int .i64 15, .int .i64 0] 48)).alloc (.cells #[.int .i64 0, .int .i64 2, .int .i64 3, .int .i64 5] 3)).alloc (.cells #[.int .i64 2, .int .i64 0, .int .i64 4, .int .i64 1] 3)).alloc (.cells #[.int .i64 3, .int .i64 4, .int .i64 0, .int .i64 9] 3)).alloc (.cells #[.int .i64 5, .int .i64 1, .int .i64 9, .int .i64 0] 3)).alloc (.cells #[.slice (some ⟨w.heap.size + 1 + 1, 0, none⟩) 4 4, .slice (some ⟨w.heap.size + 1 + 1 + 1, 0, none⟩) 4 4, .slice (some ⟨w.heap.size + 1 + 1 + 1 + 1, 0, none⟩) 4 4, .slice (some ⟨w.heap.size + 1 + 1 + 1 + 1 + 1, 0, none⟩) 4 4] 22)).alloc (.cells #[.slice (some ⟨w.heap.size, 0, none⟩) 1 1, .slice (some ⟨w.heap.size + 1, 0, none⟩) 3 3, .slice none 0 0, .slice (some ⟨w.heap.size + 1 + 1 + 1 + 1 + 1 + 1, 0, none⟩) 4 4] 28)) (w.heap.size + 1 + 1 + 1 + 1 + 1 + 1 + 1) #[.slice (some ⟨w.heap.size, 0, none⟩) 1 1, .slice (some ⟨w.heap.size + 1, 0, none⟩) 3 3, .slice none 0 0, .slice (some ⟨w.heap.size + 1 + 1 + 1 + 1 + 1 + 1, 0, none⟩) 4 4].toList) := blk_at _ _ (by simp)
  have HS1 : Hid (Said ((((((((w.alloc (.cells #[.int .i64 3, .int .i64 0, .int .i64 20] 52)).alloc (.cells #[.int .i64 2, .int .i64 0, .int .i64 9, .int .i64 0, .int .i64 1, .int .i64 0, .int .i64 9, .int .i64 0, .int .i64 1, .int .i64 15, .int .i64 15, .int .i64 0] 48)).alloc (.cells #[.int .i64 0, .int .i64 2, .int .i64 3, .int .i64 5] 3)).alloc (.cells #[.int .i64 2, .int .i64 0, .int .i64 4, .int .i64 1] 3)).alloc (.cells #[.int .i64 3, .int .i64 4, .int .i64 0, .int .i64 9] 3)).alloc (.cells #[.int .i64 5, .int .i64 1, .int .i64 9, .int .i64 0] 3)).alloc (.cells #[.slice (some ⟨w.heap.size + 1 + 1, 0, none⟩) 4 4, .slice (some ⟨w.heap.size + 1 + 1 + 1, 0, none⟩) 4 4, .slice (some ⟨w.heap.size + 1 + 1 + 1 + 1, 0, none⟩) 4 4, .slice (some ⟨w.heap.size + 1 + 1 + 1 + 1 + 1, 0, none⟩) 4 4] 22)).alloc (.cells #[.slice (some ⟨w.heap.size, 0, none⟩) 1 1, .slice (some ⟨w.heap.size + 1, 0, none⟩) 3 3, .slice none 0 0, .slice (some ⟨w.heap.size + 1 + 1 + 1 + 1 + 1 + 1, 0, none⟩) 4 4] 28)) (some ⟨w.heap.size, 0, none⟩) (some ⟨w.heap.size + 1, 0, none⟩) none (some ⟨w.heap.size + 1 + 1 + 1 + 1 + 1 + 1, 0, none⟩) 1 3 0 4 handF) := Lies.below HS0.out ((Below.refl _ _).alloc (Nat.le_refl _) _)
  have HB0 : Hid (Below w.heap.size w ((((((((w.alloc (.cells #[.int .i64 3, .int .i64 0, .int .i64 20] 52)).alloc (.cells #[.int .i64 2, .int .i64 0, .int .i64 9, .int .i64 0, .int .i64 1, .int .i64 0, .int .i64 9, .int .i64 0, .int .i64 1, .int .i64 15, .int .i64 15, .int .i64 0] 48)).alloc (.cells #[.int .i64 0, .int .i64 2, .int .i64 3, .int .i64 5] 3)).alloc (.cells #[.int .i64 2, .int .i64 0, .int .i64 4, .int .i64 1] 3)).alloc (.cells #[.int .i64 3, .int .i64 4, .int .i64 0, .int .i64 9] 3)).alloc (.cells #[.int .i64 5, .int .i64 1, .int .i64 9, .int .i64 0] 3)).alloc (.cells #[.slice (some ⟨w.heap.size + 1 + 1, 0, none⟩) 4 4, .slice (some ⟨w.heap.size + 1 + 1 + 1, 0, none⟩) 4 4, .slice (some ⟨w.heap.size + 1 + 1 + 1 + 1, 0, none⟩) 4 4, .slice (some ⟨w.heap.size + 1 + 1 + 1 + 1 + 1, 0, none⟩) 4 4] 22)).alloc (.cells #[.slice (some ⟨w.heap.size, 0, none⟩) 1 1, .slice (some ⟨w.heap.size + 1, 0, none⟩) 3 3, .slice none 0 0, .slice (some ⟨w.heap.size + 1 + 1 + 1 + 1 + 1 + 1, 0, none⟩) 4 4] 28))) := (((((((((Below.refl _ _).alloc (Nat.le_refl _) (.cells #[.int .i64 3, .int .i64 0, .int .i64 20] 52)).alloc (by simp; try omega) (.cells #[.int .i64 2, .int .i64 0, .int .i64 9, .int .i64 0, .int .i64 1, .int .i64 0, .int .i64 9, .int .i64 0, .int .i64 1, .int .i64 15, .int .i64 15, .int .i64 0] 48)).alloc (by simp; try omega) (.cells #[.int .i64 0, .int .i64 2, .int .i64 3, .int .i64 5] 3)).alloc (by simp; try omega) (.cells #[.int .i64 2, .int .i64 0, .int .i64 4, .int .i64 1] 3)).alloc (by simp; try omega) (.cells #[.int .i64 3, .int .i64 4, .int .i64 0, .int .i64 9] 3)).alloc (by simp; try omega) (.cells #[.int .i64 5, .int .i64 1, .int .i64 9, .int .i64 0] 3)).alloc (by simp; try omega) (.cells #[.slice (some ⟨w.heap.size + 1 + 1, 0, none⟩) 4 4, .slice (some ⟨w.heap.size + 1 + 1 + 1, 0, none⟩) 4 4, .slice (some ⟨w.heap.size + 1 + 1 + 1 + 1, 0, none⟩) 4 4, .slice (some ⟨w.heap.size + 1 + 1 + 1 + 1 + 1, 0, none⟩) 4 4] 22)).alloc (by simp; try omega) (.cells #[.slice (some ⟨w.heap.size, 0, none⟩) 1 1, .slice (some ⟨w.heap.size + 1, 0, none⟩) 3 3, .slice none 0 0, .slice (some ⟨w.heap.size + 1 + 1 + 1 + 1 + 1 + 1, 0, none⟩) 4 4] 28))
  clear HS0
  go_enter Try.func8, Try.ntmps8
  go_upto_region 2 with (fail)
  generalize ((((((((w.alloc (.cells #[.int .i64 3, .int .i64 0, .int .i64 20] 52)).alloc (.cells #[.int .i64 2, .int .i64 0, .int .i64 9, .int .i64 0, .int .i64 1, .int .i64 0, .int .i64 9, .int .i64 0, .int .i64 1, .int .i64 15, .int .i64 15, .int .i64 0] 48)).alloc (.cells #[.int .i64 0, .int .i64 2, .int .i64 3, .int .i64 5] 3)).alloc (.cells #[.int .i64 2, .int .i64 0, .int .i64 4, .int .i64 1] 3)).alloc (.cells #[.int .i64 3, .int .i64 4, .int .i64 0, .int .i64 9] 3)).alloc (.cells #[.int .i64 5, .int .i64 1, .int .i64 9, .int .i64 0] 3)).alloc (.cells #[.slice (some ⟨w.heap.size + 1 + 1, 0, none⟩) 4 4, .slice (some ⟨w.heap.size + 1 + 1 + 1, 0, none⟩) 4 4, .slice (some ⟨w.heap.size + 1 + 1 + 1 + 1, 0, none⟩) 4 4, .slice (some ⟨w.heap.size + 1 + 1 + 1 + 1 + 1, 0, none⟩) 4 4] 22)).alloc (.cells #[.slice (some ⟨w.heap.size, 0, none⟩) 1 1, .slice (some ⟨w.heap.size + 1, 0, none⟩) 3 3, .slice none 0 0, .slice (some ⟨w.heap.size + 1 + 1 + 1 + 1 + 1 + 1, 0, none⟩) 4 4] 28)) = w0 at *
  generalize w.heap.size + 1 + 1 + 1 + 1 + 1 + 1 + 1 = I at *
  generalize w.heap.size + 1 + 1 + 1 + 1 + 1 + 1 = b6 at *
  generalize w.heap.size + 1 = b1 at *
  generalize hb0 : w.heap.size = b0 at HS1 BI0 ⊢
  have SS : Hid (∀ W, Below w0.heap.size w0 W → W.cell? ⟨I, 0, none⟩ = some (.slice (some ⟨b0, 0, none⟩) 1 1) ∧ W.cell? ⟨I, 1, none⟩ = some (.slice (some ⟨b1, 0, none⟩) 3 3) ∧ W.cell? ⟨I, 2, none⟩ = some (.slice none 0 0) ∧ W.cell? ⟨I, 3, none⟩ = some (.slice (some ⟨b6, 0, none⟩) 4 4)) := fun W hB => ⟨(BI0.out.below hB).cell (j := 0) rfl, (BI0.out.below hB).cell (j := 1) rfl, (BI0.out.below hB).cell (j := 2) rfl, (BI0.out.below hB).cell (j := 3) rfl⟩
  have KN : Hid (∀ (W : World) (A : Option Addr) (q : List Int) (m cap : Nat), Below w0.heap.size w0 W → q.length = m → m ≤ 900 → Recs W 1 num_ (.slice A m cap) q → Calls Try.prog 18 #[.agg #[.slice (some ⟨b0, 0, none⟩) 1 1, .slice (some ⟨b1, 0, none⟩) 3 3, .slice none 0 0, .slice (some ⟨b6, 0, none⟩) 4 4], .int .i64 0, .slice A m cap] W fun e w' => ∃ a, e = .returned (.pointer (some ⟨a, 0, none⟩)) ∧ Tbl W.heap.size a handF 0 q w' ∧ Below W.heap.size W w') := fun W A q m cap hB hm hq hr => by subst hm; exact fnew_any _ handF 0 q A cap W (Lies.below HS1.out hB) hr rfl (by decide) hq
  clear BI0 HS1
  go_cut [4, 5] from 38 to 43 (fun tv uv wb => ∃ a b : Nat, tv = .pointer (some ⟨a, 0, none⟩) ∧ uv = .pointer (some ⟨b, 0, none⟩) ∧ TblV wb a handF 0 [1] ∧ TblV wb b handF 0 [2, 3] ∧ Below w0.heap.size w0 wb)
  case first =>
    refine wp_region_z (S := (fun W => W.cell? ⟨I, 0, none⟩ = some (.slice (some ⟨b0, 0, none⟩) 1 1) ∧ W.cell? ⟨I, 1, none⟩ = some (.slice (some ⟨b1, 0, none⟩) 3 3) ∧ W.cell? ⟨I, 2, none⟩ = some (.slice none 0 0) ∧ W.cell? ⟨I, 3, none⟩ = some (.slice (some ⟨b6, 0, none⟩) 4 4))) (z := 8) (by kernel_rfl) (SS.out _ (Below.refl w0.heap.size w0).drew) (fun hH => ?_)
    refine wpAnyZ_takeS (i := 0) (v := ?_) rfl (by kernel_rfl) (by kernel_rfl) (by kernel_rfl) (by kernel_rfl) (fun _ _ _ h => h) (gives_value (by rfl) ?_) (by assumption) ?_
    rotate_left
    · intro w hSw
      (try dsimp only at hSw)
      go_simp
      (try with_reducible rfl)
    (try simp only [Act.put, List.getElem_toArray, List.getElem_cons_succ, List.getElem_cons_zero, List.setIfInBounds_toArray, List.set_cons_zero, List.set_cons_succ])
    refine wpAnyZ_takeS (i := 3) (v := ?_) rfl (by kernel_rfl) (by kernel_rfl) (by kernel_rfl) (by kernel_rfl) (fun _ _ _ h => h) (gives_value (by rfl) ?_) (by assumption) ?_
    rotate_left
    · intro w hSw
      (try dsimp only at hSw)
      go_simp
      (try with_reducible rfl)
    (try simp only [Act.put, List.getElem_toArray, List.getElem_cons_succ, List.getElem_cons_zero, List.setIfInBounds_toArray, List.set_cons_zero, List.set_cons_succ])
    refine wpAnyZ_two (i := 1) (j := 4) (by kernel_rfl) ?_ ?_
    · refine zstep rfl (fun K hK => ?_)
      go_simp
      have HBp1 : Hid (Below w0.heap.size w0 (w0.alloc (.cells #[.int .i64 1] 3)).drew) := ((Below.refl w0.heap.size w0).alloc (Nat.le_refl _) (.cells #[.int .i64 1] 3)).drew
      have HSp1 : Hid (Below w0.heap.size w0 (w0.alloc (.cells #[.int .i64 1] 3)).drew) := ((Below.refl w0.heap.size w0).alloc (Nat.le_refl _) (.cells #[.int .i64 1] 3)).drew
      have RW1 : Hid (Recs (w0.alloc (.cells #[.int .i64 1] 3)).drew 1 num_ (.slice (some ⟨w0.heap.size, 0, none⟩) 1 1) [1]) := (show Blk (w0.alloc (.cells #[.int .i64 1] 3)).drew w0.heap.size (ints [1]) from (blk_new w0 #[.int .i64 1] 3).drew).recs 1 num_ [1] 1 fun k hk j hj => by
        match k, hk, j, hj with
        | 0, _, 0, _ => rfl
      refine hK.out _ _ (fun _ => SS.out _ HBp1.out) (fun hH => ?_)
      replace hH := hH (by decide)
      clear hK K
      (try simp only [Act.put, List.getElem_toArray, List.getElem_cons_succ, List.getElem_cons_zero, List.setIfInBounds_toArray, List.set_cons_zero, List.set_cons_succ])
      generalize (w0.alloc (.cells #[.int .i64 1] 3)).drew = p1 at *
      refine wpAnyZ_two (i := 2) (j := 4) (by kernel_rfl) ?_ ?_
      · refine zstep rfl (fun K hK => ?_)
        go_simp
        (with_reducible refine (KN.out _ _ [1] 1 1 HBp1.out rfl (by decide) RW1.out).mono ?_)
        rintro e p2 ⟨a, rfl, ht, hb⟩
        have TV1 := Lib.hid ht.view
        have HBp2 := Lib.hid (HBp1.out.trans (hb.mono HBp1.out.size))
        clear ht hb
        refine hK.out _ _ (fun _ => SS.out _ HBp2.out) (fun hH => ?_)
        replace hH := hH (by decide)
        clear hK K
        (try simp only [Act.put, List.getElem_toArray, List.getElem_cons_succ, List.getElem_cons_zero, List.setIfInBounds_toArray, List.set_cons_zero, List.set_cons_succ])
        refine wpAnyZ_one (i := 4) (by kernel_rfl) ?_
        refine zstep rfl (fun K hK => ?_)
        go_simp
        have HBp3 : Hid (Below w0.heap.size w0 (p2.alloc (.cells #[.int .i64 2, .int .i64 3] 3))) := (HBp2.out.alloc HBp2.out.size (.cells #[.int .i64 2, .int .i64 3] 3))
        have HSp3 : Hid (Below p2.heap.size p2 (p2.alloc (.cells #[.int .i64 2, .int .i64 3] 3))) := ((Below.refl p2.heap.size p2).alloc (Nat.le_refl _) (.cells #[.int .i64 2, .int .i64 3] 3))
        have RW2 : Hid (Recs (p2.alloc (.cells #[.int .i64 2, .int .i64 3] 3)) 1 num_ (.slice (some ⟨p2.heap.size, 0, none⟩) 2 2) [2, 3]) := (show Blk (p2.alloc (.cells #[.int .i64 2, .int .i64 3] 3)) p2.heap.size (ints [2, 3]) from (blk_new p2 #[.int .i64 2, .int .i64 3] 3)).recs 1 num_ [2, 3] 2 fun k hk j hj => by
          match k, hk, j, hj with
          | 0, _, 0, _ | 1, _, 0, _ => rfl
        refine hK.out _ _ (fun _ => SS.out _ HBp3.out) (fun hH => ?_)
        replace hH := hH (by decide)
        clear hK K
        (try simp only [Act.put, List.getElem_toArray, List.getElem_cons_succ, List.getElem_cons_zero, List.setIfInBounds_toArray, List.set_cons_zero, List.set_cons_succ])
        generalize (p2.alloc (.cells #[.int .i64 2, .int .i64 3] 3)) = p3 at *
        have TV1p3 := Lib.hid (TV1.out.below HSp3.out)
        refine wpAnyZ_one (i := 5) (by kernel_rfl) ?_
        refine zstep rfl (fun K hK => ?_)
        go_simp
        (with_reducible refine (KN.out _ _ [2, 3] 2 2 HBp3.out rfl (by decide) RW2.out).mono ?_)
        rintro e p4 ⟨b, rfl, ht, hb⟩
        have TV2 := Lib.hid ht.view
        have HBp4 := Lib.hid (HBp3.out.trans (hb.mono HBp3.out.size))
        have TV1p3p4 := Lib.hid (TV1p3.out.below hb)
        clear ht hb
        refine hK.out _ _ (fun _ => SS.out _ HBp4.out) (fun hH => ?_)
        replace hH := hH (by decide)
        clear hK K
        (try simp only [Act.put, List.getElem_toArray, List.getElem_cons_succ, List.getElem_cons_zero, List.setIfInBounds_toArray, List.set_cons_zero, List.set_cons_succ])
        refine wpAnyZ_takeS (i := 6) (v := ?_) rfl (by kernel_rfl) (by kernel_rfl) (by kernel_rfl) (by kernel_rfl) (fun _ _ _ h => h) (gives_value (by rfl) ?_) (by assumption) ?_
        rotate_left
        · intro w hSw
          (try dsimp only at hSw)
          go_simp
          (try with_reducible rfl)
        (try simp only [Act.put, List.getElem_toArray, List.getElem_cons_succ, List.getElem_cons_zero, List.setIfInBounds_toArray, List.set_cons_zero, List.set_cons_succ])
        refine wpAnyZ_takeS (i := 7) (v := ?_) rfl (by kernel_rfl) (by kernel_rfl) (by kernel_rfl) (by kernel_rfl) (fun _ _ _ h => h) (gives_value (by rfl) ?_) (by assumption) ?_
        rotate_left
        · intro w hSw
          (try dsimp only at hSw)
          go_simp
          (try with_reducible rfl)
        (try simp only [Act.put, List.getElem_toArray, List.getElem_cons_succ, List.getElem_cons_zero, List.setIfInBounds_toArray, List.set_cons_zero, List.set_cons_succ])
        refine wpAnyZ_done (by kernel_rfl) ?_ _
        clear hH
        go_wp2_with fail
        go_meet
        exact ⟨a, b, rfl, rfl, TV1p3p4.out, TV2.out, HBp4.out⟩
      · refine zstep rfl (fun K hK => ?_)
        go_simp
        have HBp5 : Hid (Below w0.heap.size w0 (p1.alloc (.cells #[.int .i64 2, .int .i64 3] 3))) := (HBp1.out.alloc HBp1.out.size (.cells #[.int .i64 2, .int .i64 3] 3))
        have HSp5 : Hid (Below p1.heap.size p1 (p1.alloc (.cells #[.int .i64 2, .int .i64 3] 3))) := ((Below.refl p1.heap.size p1).alloc (Nat.le_refl _) (.cells #[.int .i64 2, .int .i64 3] 3))
        have RW2 : Hid (Recs (p1.alloc (.cells #[.int .i64 2, .int .i64 3] 3)) 1 num_ (.slice (some ⟨p1.heap.size, 0, none⟩) 2 2) [2, 3]) := (show Blk (p1.alloc (.cells #[.int .i64 2, .int .i64 3] 3)) p1.heap.size (ints [2, 3]) from (blk_new p1 #[.int .i64 2, .int .i64 3] 3)).recs 1 num_ [2, 3] 2 fun k hk j hj => by
          match k, hk, j, hj with
          | 0, _, 0, _ | 1, _, 0, _ => rfl
        refine hK.out _ _ (fun _ => SS.out _ HBp5.out) (fun hH => ?_)
        replace hH := hH (by decide)
        clear hK K
        (try simp only [Act.put, List.getElem_toArray, List.getElem_cons_succ, List.getElem_cons_zero, List.setIfInBounds_toArray, List.set_cons_zero, List.set_cons_succ])
        generalize (p1.alloc (.cells #[.int .i64 2, .int .i64 3] 3)) = p5 at *
        have RW1p5 := Lib.hid (RW1.out.below HSp5.out)
        refine wpAnyZ_one (i := 2) (by kernel_rfl) ?_
        refine zstep rfl (fun K hK => ?_)
        go_simp
        (with_reducible refine (KN.out _ _ [1] 1 1 HBp5.out rfl (by decide) RW1p5.out).mono ?_)
        rintro e p6 ⟨a, rfl, ht, hb⟩
        have TV1 := Lib.hid ht.view
        have HBp6 := Lib.hid (HBp5.out.trans (hb.mono HBp5.out.size))
        have RW2p6 := Lib.hid (RW2.out.below hb)
        clear ht hb
        refine hK.out _ _ (fun _ => SS.out _ HBp6.out) (fun hH => ?_)
        replace hH := hH (by decide)
        clear hK K
        (try simp only [Act.put, List.getElem_toArray, List.getElem_cons_succ, List.getElem_cons_zero, List.setIfInBounds_toArray, List.set_cons_zero, List.set_cons_succ])
        refine wpAnyZ_one (i := 5) (by kernel_rfl) ?_
        refine zstep rfl (fun K hK => ?_)
        go_simp
        (with_reducible refine (KN.out _ _ [2, 3] 2 2 HBp6.out rfl (by decide) RW2p6.out).mono ?_)
        rintro e p7 ⟨b, rfl, ht, hb⟩
        have TV2 := Lib.hid ht.view
        have HBp7 := Lib.hid (HBp6.out.trans (hb.mono HBp6.out.size))
        have TV1p7 := Lib.hid (TV1.out.below hb)
        clear ht hb
        refine hK.out _ _ (fun _ => SS.out _ HBp7.out) (fun hH => ?_)
        replace hH := hH (by decide)
        clear hK K
        (try simp only [Act.put, List.getElem_toArray, List.getElem_cons_succ, List.getElem_cons_zero, List.setIfInBounds_toArray, List.set_cons_zero, List.set_cons_succ])
        refine wpAnyZ_takeS (i := 6) (v := ?_) rfl (by kernel_rfl) (by kernel_rfl) (by kernel_rfl) (by kernel_rfl) (fun _ _ _ h => h) (gives_value (by rfl) ?_) (by assumption) ?_
        rotate_left
        · intro w hSw
          (try dsimp only at hSw)
          go_simp
          (try with_reducible rfl)
        (try simp only [Act.put, List.getElem_toArray, List.getElem_cons_succ, List.getElem_cons_zero, List.setIfInBounds_toArray, List.set_cons_zero, List.set_cons_succ])
        refine wpAnyZ_takeS (i := 7) (v := ?_) rfl (by kernel_rfl) (by kernel_rfl) (by kernel_rfl) (by kernel_rfl) (fun _ _ _ h => h) (gives_value (by rfl) ?_) (by assumption) ?_
        rotate_left
        · intro w hSw
          (try dsimp only at hSw)
          go_simp
          (try with_reducible rfl)
        (try simp only [Act.put, List.getElem_toArray, List.getElem_cons_succ, List.getElem_cons_zero, List.setIfInBounds_toArray, List.set_cons_zero, List.set_cons_succ])
        refine wpAnyZ_done (by kernel_rfl) ?_ _
        clear hH
        go_wp2_with fail
        go_meet
        exact ⟨a, b, rfl, rfl, TV1p7.out, TV2.out, HBp7.out⟩
    · refine zstep rfl (fun K hK => ?_)
      go_simp
      have HBp8 : Hid (Below w0.heap.size w0 (w0.alloc (.cells #[.int .i64 2, .int .i64 3] 3)).drew) := ((Below.refl w0.heap.size w0).alloc (Nat.le_refl _) (.cells #[.int .i64 2, .int .i64 3] 3)).drew
      have HSp8 : Hid (Below w0.heap.size w0 (w0.alloc (.cells #[.int .i64 2, .int .i64 3] 3)).drew) := ((Below.refl w0.heap.size w0).alloc (Nat.le_refl _) (.cells #[.int .i64 2, .int .i64 3] 3)).drew
      have RW2 : Hid (Recs (w0.alloc (.cells #[.int .i64 2, .int .i64 3] 3)).drew 1 num_ (.slice (some ⟨w0.heap.size, 0, none⟩) 2 2) [2, 3]) := (show Blk (w0.alloc (.cells #[.int .i64 2, .int .i64 3] 3)).drew w0.heap.size (ints [2, 3]) from (blk_new w0 #[.int .i64 2, .int .i64 3] 3).drew).recs 1 num_ [2, 3] 2 fun k hk j hj => by
        match k, hk, j, hj with
        | 0, _, 0, _ | 1, _, 0, _ => rfl
      refine hK.out _ _ (fun _ => SS.out _ HBp8.out) (fun hH => ?_)
      replace hH := hH (by decide)
      clear hK K
      (try simp only [Act.put, List.getElem_toArray, List.getElem_cons_succ, List.getElem_cons_zero, List.setIfInBounds_toArray, List.set_cons_zero, List.set_cons_succ])
      generalize (w0.alloc (.cells #[.int .i64 2, .int .i64 3] 3)).drew = p8 at *
      refine wpAnyZ_one (i := 1) (by kernel_rfl) ?_
      refine zstep rfl (fun K hK => ?_)
      go_simp
      have HBp9 : Hid (Below w0.heap.size w0 (p8.alloc (.cells #[.int .i64 1] 3))) := (HBp8.out.alloc HBp8.out.size (.cells #[.int .i64 1] 3))
      have HSp9 : Hid (Below p8.heap.size p8 (p8.alloc (.cells #[.int .i64 1] 3))) := ((Below.refl p8.heap.size p8).alloc (Nat.le_refl _) (.cells #[.int .i64 1] 3))
      have RW1 : Hid (Recs (p8.alloc (.cells #[.int .i64 1] 3)) 1 num_ (.slice (some ⟨p8.heap.size, 0, none⟩) 1 1) [1]) := (show Blk (p8.alloc (.cells #[.int .i64 1] 3)) p8.heap.size (ints [1]) from (blk_new p8 #[.int .i64 1] 3)).recs 1 num_ [1] 1 fun k hk j hj => by
        match k, hk, j, hj with
        | 0, _, 0, _ => rfl
      refine hK.out _ _ (fun _ => SS.out _ HBp9.out) (fun hH => ?_)
      replace hH := hH (by decide)
      clear hK K
      (try simp only [Act.put, List.getElem_toArray, List.getElem_cons_succ, List.getElem_cons_zero, List.setIfInBounds_toArray, List.set_cons_zero, List.set_cons_succ])
      generalize (p8.alloc (.cells #[.int .i64 1] 3)) = p9 at *
      have RW2p9 := Lib.hid (RW2.out.below HSp9.out)
      refine wpAnyZ_one (i := 2) (by kernel_rfl) ?_
      refine zstep rfl (fun K hK => ?_)
      go_simp
      (with_reducible refine (KN.out _ _ [1] 1 1 HBp9.out rfl (by decide) RW1.out).mono ?_)
      rintro e p10 ⟨a, rfl, ht, hb⟩
      have TV1 := Lib.hid ht.view
      have HBp10 := Lib.hid (HBp9.out.trans (hb.mono HBp9.out.size))
      have RW2p9p10 := Lib.hid (RW2p9.out.below hb)
      clear ht hb
      refine hK.out _ _ (fun _ => SS.out _ HBp10.out) (fun hH => ?_)
      replace hH := hH (by decide)
      clear hK K
      (try simp only [Act.put, List.getElem_toArray, List.getElem_cons_succ, List.getElem_cons_zero, List.setIfInBounds_toArray, List.set_cons_zero, List.set_cons_succ])
      refine wpAnyZ_one (i := 5) (by kernel_rfl) ?_
      refine zstep rfl (fun K hK => ?_)
      go_simp
      (with_reducible refine (KN.out _ _ [2, 3] 2 2 HBp10.out rfl (by decide) RW2p9p10.out).mono ?_)
      rintro e p11 ⟨b, rfl, ht, hb⟩
      have TV2 := Lib.hid ht.view
      have HBp11 := Lib.hid (HBp10.out.trans (hb.mono HBp10.out.size))
      have TV1p11 := Lib.hid (TV1.out.below hb)
      clear ht hb
      refine hK.out _ _ (fun _ => SS.out _ HBp11.out) (fun hH => ?_)
      replace hH := hH (by decide)
      clear hK K
      (try simp only [Act.put, List.getElem_toArray, List.getElem_cons_succ, List.getElem_cons_zero, List.setIfInBounds_toArray, List.set_cons_zero, List.set_cons_succ])
      refine wpAnyZ_takeS (i := 6) (v := ?_) rfl (by kernel_rfl) (by kernel_rfl) (by kernel_rfl) (by kernel_rfl) (fun _ _ _ h => h) (gives_value (by rfl) ?_) (by assumption) ?_
      rotate_left
      · intro w hSw
        (try dsimp only at hSw)
        go_simp
        (try with_reducible rfl)
      (try simp only [Act.put, List.getElem_toArray, List.getElem_cons_succ, List.getElem_cons_zero, List.setIfInBounds_toArray, List.set_cons_zero, List.set_cons_succ])
      refine wpAnyZ_takeS (i := 7) (v := ?_) rfl (by kernel_rfl) (by kernel_rfl) (by kernel_rfl) (by kernel_rfl) (fun _ _ _ h => h) (gives_value (by rfl) ?_) (by assumption) ?_
      rotate_left
      · intro w hSw
        (try dsimp only at hSw)
        go_simp
        (try with_reducible rfl)
      (try simp only [Act.put, List.getElem_toArray, List.getElem_cons_succ, List.getElem_cons_zero, List.setIfInBounds_toArray, List.set_cons_zero, List.set_cons_succ])
      refine wpAnyZ_done (by kernel_rfl) ?_ _
      clear hH
      go_wp2_with fail
      go_meet
      exact ⟨a, b, rfl, rfl, TV1p11.out, TV2.out, HBp11.out⟩
  case rest =>
    obtain ⟨a, b, rfl, rfl, ha, hb, hbx⟩ := hcut
    have TA := Lib.hid ha
    have TB := Lib.hid hb
    have HB1 := Lib.hid (HB0.out.trans (hbx.mono HB0.out.size))
    clear ha hb hbx KN SS HB0
    have HBx := Lib.hid (Below.refl wc.heap.size wc)
    have K1 : Hid (∀ W, Below wc.heap.size wc W → Calls Try.prog 21 #[.pointer (some ⟨a, 0, none⟩)] W fun e w' => e = .returned (.tuple #[.int .i64 4, .bool true]) ∧ Below W.heap.size W w') := fun W hB => by
      have := Fwhole (TA.out.below hB) rfl (by decide) (by decide)
      rw [show meetC handF 0 (headAt handF 0 [1] 0) (tailAt handF 0 [1] 0) = some 4 by decide] at this
      exact this
    go_wp2_with (go_at_call 21; fail)
    (with_reducible refine (K1.out _ HBx.out).mono ?_)
    rintro e x0 ⟨rfl, hb⟩
    have HBx0 := Lib.hid (HBx.out.trans (hb.mono HBx.out.size))
    clear hb K1
    have K1 : Hid (∀ W, Below wc.heap.size wc W → Calls Try.prog 23 #[.pointer (some ⟨a, 0, none⟩), .int .i64 0, .int .i64 2] W fun e w' => e = .returned (.tuple #[.int .i64 9, .bool true]) ∧ Below W.heap.size W w') := fun W hB => by
      have := Fins 0 2 (TA.out.below hB) rfl (by decide) (by decide)
      rw [show meetC handF 0 (extC' handF 0 (headAt handF 0 [1] 0) 2) (tailAt handF 0 [1] 0) = some 9 by decide] at this
      exact this
    go_wp2_with (go_at_call 23; fail)
    (with_reducible refine (K1.out _ HBx0.out).mono ?_)
    rintro e x1 ⟨rfl, hb⟩
    have HBx1 := Lib.hid (HBx0.out.trans (hb.mono HBx0.out.size))
    clear hb K1
    have K1 : Hid (∀ W, Below wc.heap.size wc W → Calls Try.prog 23 #[.pointer (some ⟨a, 0, none⟩), .int .i64 1, .int .i64 2] W fun e w' => e = .returned (.tuple #[.int .i64 9, .bool true]) ∧ Below W.heap.size W w') := fun W hB => by
      have := Fins 1 2 (TA.out.below hB) rfl (by decide) (by decide)
      rw [show meetC handF 0 (extC' handF 0 (headAt handF 0 [1] 1) 2) (tailAt handF 0 [1] 1) = some 9 by decide] at this
      exact this
    go_wp2_with (go_at_call 23; fail)
    (with_reducible refine (K1.out _ HBx1.out).mono ?_)
    rintro e x2 ⟨rfl, hb⟩
    have HBx2 := Lib.hid (HBx1.out.trans (hb.mono HBx1.out.size))
    clear hb K1
    have K1 : Hid (∀ W, Below wc.heap.size wc W → Calls Try.prog 23 #[.pointer (some ⟨a, 0, none⟩), .int .i64 1, .int .i64 3] W fun e w' => e = .returned (.tuple #[.int .i64 8, .bool true]) ∧ Below W.heap.size W w') := fun W hB => by
      have := Fins 1 3 (TA.out.below hB) rfl (by decide) (by decide)
      rw [show meetC handF 0 (extC' handF 0 (headAt handF 0 [1] 1) 3) (tailAt handF 0 [1] 1) = some 8 by decide] at this
      exact this
    go_wp2_with (go_at_call 23; fail)
    (with_reducible refine (K1.out _ HBx2.out).mono ?_)
    rintro e x3 ⟨rfl, hb⟩
    have HBx3 := Lib.hid (HBx2.out.trans (hb.mono HBx2.out.size))
    clear hb K1
    have K1 : Hid (∀ W, Below wc.heap.size wc W → Calls Try.prog 24 #[.pointer (some ⟨a, 0, none⟩), .int .i64 0] W fun e w' => e = .returned (.tuple #[.int .i64 0, .bool true]) ∧ Below W.heap.size W w') := fun W hB => by
      have := Frem 0 (TA.out.below hB) rfl (by decide) (by decide)
      rw [show meetC handF 0 (headAt handF 0 [1] 0) (tailAt handF 0 [1] (wrap64 (0 + 1))) = some 0 by decide +kernel] at this
      exact this
    go_wp2_with (go_at_call 24; fail)
    (with_reducible refine (K1.out _ HBx3.out).mono ?_)
    rintro e x4 ⟨rfl, hb⟩
    have HBx4 := Lib.hid (HBx3.out.trans (hb.mono HBx3.out.size))
    clear hb K1
    have K1 : Hid (∀ W, Below wc.heap.size wc W → Calls Try.prog 19 #[.pointer (some ⟨a, 0, none⟩), .int .i64 1, .pointer (some ⟨b, 0, none⟩), .int .i64 0] W fun e w' => e = .returned (.tuple #[.int .i64 0, .bool false]) ∧ Below W.heap.size W w') := fun W hB => by
      have := Fcross 1 0 (TA.out.below hB) (TB.out.below hB) rfl (by decide) (by decide) (by decide)
      rw [show meetC handF 0 (headAt handF 0 [1] 1) (tailAt handF 0 [2, 3] 0) = none by decide] at this
      exact this
    go_wp2_with (go_at_call 19; fail)
    (with_reducible refine (K1.out _ HBx4.out).mono ?_)
    rintro e x5 ⟨rfl, hb⟩
    have HBx5 := Lib.hid (HBx4.out.trans (hb.mono HBx4.out.size))
    clear hb K1
    have K1 : Hid (∀ W, Below wc.heap.size wc W → Calls Try.prog 19 #[.pointer (some ⟨a, 0, none⟩), .int .i64 1, .pointer (some ⟨b, 0, none⟩), .int .i64 1] W fun e w' => e = .returned (.tuple #[.int .i64 8, .bool true]) ∧ Below W.heap.size W w') := fun W hB => by
      have := Fcross 1 1 (TA.out.below hB) (TB.out.below hB) rfl (by decide) (by decide) (by decide)
      rw [show meetC handF 0 (headAt handF 0 [1] 1) (tailAt handF 0 [2, 3] 1) = some 8 by decide] at this
      exact this
    go_wp2_with (go_at_call 19; fail)
    (with_reducible refine (K1.out _ HBx5.out).mono ?_)
    rintro e x6 ⟨rfl, hb⟩
    have HBx6 := Lib.hid (HBx5.out.trans (hb.mono HBx5.out.size))
    clear hb K1
    have K1 : Hid (∀ W, Below wc.heap.size wc W → Calls Try.prog 21 #[.pointer (some ⟨b, 0, none⟩)] W fun e w' => e = .returned (.tuple #[.int .i64 17, .bool true]) ∧ Below W.heap.size W w') := fun W hB => by
      have := Fwhole (TB.out.below hB) rfl (by decide) (by decide)
      rw [show meetC handF 0 (headAt handF 0 [2, 3] 0) (tailAt handF 0 [2, 3] 0) = some 17 by decide] at this
      exact this
    go_wp2_with (go_at_call 21; fail)
    (with_reducible refine (K1.out _ HBx6.out).mono ?_)
    rintro e x7 ⟨rfl, hb⟩
    have HBx7 := Lib.hid (HBx6.out.trans (hb.mono HBx6.out.size))
    clear hb K1
    have K1 : Hid (∀ W, Below wc.heap.size wc W → Calls Try.prog 23 #[.pointer (some ⟨a, 0, none⟩), .int .i64 0, .int .i64 1] W fun e w' => e = .returned (.tuple #[.int .i64 0, .bool false]) ∧ Below W.heap.size W w') := fun W hB => by
      have := Fins 0 1 (TA.out.below hB) rfl (by decide) (by decide)
      rw [show meetC handF 0 (extC' handF 0 (headAt handF 0 [1] 0) 1) (tailAt handF 0 [1] 0) = none by decide] at this
      exact this
    go_wp2_with (go_at_call 23; fail)
    (with_reducible refine (K1.out _ HBx7.out).mono ?_)
    rintro e x8 ⟨rfl, hb⟩
    have HBx8 := Lib.hid (HBx7.out.trans (hb.mono HBx7.out.size))
    clear hb K1
    obtain ⟨nn, hnn, hnl⟩ := within_nat n 1000 (by omega)
    have K0 := Lib.hid (fun W => within_q n 1000 W (by omega) (by omega) _ hnn)
    clear hnn
    go_wp2_with (go_at_call 11; fail)
    (with_reducible refine (K0.out _).mono ?_)
    rintro e x10 ⟨rfl, hww⟩
    replace hww := hww.symm
    subst hww
    clear K0
    have nw : IntKind.i64.wrap (2 + (nn : Int)) = 2 + (nn : Int) := IntWalk.i64_in _ (by omega)
    have K1 : Hid (∀ W, Below wc.heap.size wc W → Calls Try.prog 23 #[.pointer (some ⟨a, 0, none⟩), .int .i64 (2 + (nn : Int)), .int .i64 2] W fun e w' => e = .returned (.tuple #[.int .i64 0, .bool false]) ∧ Below W.heap.size W w') := fun W hB => by
      have := Fins (2 + (nn : Int)) 2 (TA.out.below hB) rfl (by decide) (by decide)
      rw [ins_no 2 (.inr (.inr (by simp; omega)))] at this
      exact this
    go_wp2_with (go_at_call 23; fail)
    (with_reducible refine (K1.out _ HBx8.out).mono ?_)
    rintro e x11 ⟨rfl, hb⟩
    have HBx11 := Lib.hid (HBx8.out.trans (hb.mono HBx8.out.size))
    clear hb K1 nw
    have KW := Lib.hid (wakes6_any x11)
    go_wp2_with (go_at_call 22; fail)
    (with_reducible refine (KW.out).mono ?_)
    rintro e x12 ⟨rfl, hb⟩
    have HBz := Lib.hid (HB1.out.trans ((HBx11.out.trans (hb.mono HBx11.out.size)).mono HB1.out.size))
    clear hb KW
    go_wp2
    go_ret
    rw [← hb0]
    exact ⟨rfl, HBz.out⟩
end Go.Proofs.Ytkheepedjoimmaa
