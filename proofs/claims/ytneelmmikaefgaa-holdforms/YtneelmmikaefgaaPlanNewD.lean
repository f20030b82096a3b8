/- A new plan. -/
import Derived.Test.YtneelmmikaefgaaPlanNew
namespace Go.Proofs.Ytneelmmikaefgaa
open Go.RowKit
set_option linter.unusedSimpArgs false
set_option linter.unusedVariables false

def planN (n m : Nat) : PlanP := ⟨List.replicate n [], List.replicate m (-1), List.replicate n (-1), List.replicate n 0, List.replicate m 0, List.replicate n 0, 0⟩
def noPlan : PlanP := ⟨[], [], [], [], [], [], 0⟩
def newPlan (i : Prob) : PlanP := if probOk i = true then planN i.cars.length (i.stops.length + 1) else noPlan
theorem RoutesO.slice {B : Nat} {W : World} {v : Value} {rs : List (List Int)} {ws : List Value} (h : RoutesO B W v rs ws) : ∃ A c, v = .slice A rs.length c := by
  obtain ⟨us, h1, _⟩ := h
  obtain ⟨A, c, e, _⟩ := own_slice_n h1
  exact ⟨A, c, e⟩
theorem noPlan_new (B : Nat) (W : World) : NewP B W (.agg #[.slice none 0 0, .slice none 0 0, .slice none 0 0, .slice none 0 0, .slice none 0 0, .slice none 0 0, .int .i64 0]) noPlan :=
  ⟨_, _, _, _, _, _, rfl, ⟨[], World.ownsRow_nil _ _ _ _, fun k hk => absurd hk (by simp [noPlan])⟩, ⟨World.ownsRow_nil _ _ _ _, World.ownsRow_nil _ _ _ _, World.ownsRow_nil _ _ _ _, World.ownsRow_nil _ _ _ _, World.ownsRow_nil _ _ _ _, by simp [Apart2, Value.ownBlock]⟩⟩
theorem make_rows (n : Nat) (hn : n ≤ 1000000) (W : World) : (Instr.makeSlice 23 (.int .i64 (n : Int)) (.int .i64 (n : Int))).run Try.prog W = .ok (.slice (some ⟨W.heap.size, 0, none⟩) n n) (W.alloc (.cells (madeCells #[.slice none 0 0] n) 22)) := by
  obtain ⟨i0, hi, hz0, hz1, hz2⟩ := info_parts row_info
  have := run_make (P := Try.prog) W 23 22 i0 _ Try.underlying23 hi hz0 .i64 .i64 (n : Int) (n : Int) (by omega) (by omega) (by rw [hz2]; omega) (by omega)
  rw [this, hz1]
  simp only [Int.toNat_natCast, Nat.mul_one]
  rfl
theorem made_rows (n : Nat) : madeCells #[.slice none 0 0] n = (List.replicate n (Value.slice none 0 0)).toArray := by
  apply Array.ext
  · simp [madeCells]
  · intro i h1 h2
    simp [madeCells, Nat.mod_one]
theorem routes_made (W : World) (n : Nat) {ws : List Value} {B : Nat} (hB : B ≤ W.heap.size) (hn : n ≤ 100000) : RoutesO B (W.alloc (.cells (madeCells #[.slice none 0 0] n) 22)) (.slice (some ⟨W.heap.size, 0, none⟩) n n) (List.replicate n []) ws := by
  rw [made_rows]
  refine ⟨List.replicate n (.slice none 0 0), ?_, fun k hk => ⟨.slice none 0 0, by simp at hk; simp [hk], by rw [List.getElem_replicate]; exact World.ownsRow_nil _ _ _ _, fun x _ g hg => by cases hg⟩⟩
  rw [List.length_replicate]
  exact ⟨by simp, .inr ⟨_, n, _, rfl, hB, heap_new W _, Nat.le_refl _, by unfold maxLen; omega, by simp, by simp⟩⟩
theorem filled_out {w w' : World} {B n : Nat} {x : Int} (h : RowB w' w.heap.size (List.replicate n x)) (hB : B ≤ w.heap.size) (hn : n ≤ 100000) : OutI B w' (.slice (some ⟨w.heap.size, 0, none⟩) n n) (List.replicate n x) := by
  have := RowB.out h hB (by rw [List.length_replicate]; unfold maxLen; omega)
  rwa [List.length_replicate] at this
theorem filled_born {w w' : World} {n : Nat} {l : List Int} (h : RowB w' w.heap.size l) (_hn : True) (hb : Below w.heap.size w w') : Born w (.slice (some ⟨w.heap.size, 0, none⟩) n n) w' := fun g hg => by
  have e : g = w.heap.size := by simp [Value.ownBlock] at hg; exact hg.symm
  subst e
  exact ⟨Nat.le_refl _, (blk_of_heap h).1⟩
end Go.Proofs.Ytneelmmikaefgaa
