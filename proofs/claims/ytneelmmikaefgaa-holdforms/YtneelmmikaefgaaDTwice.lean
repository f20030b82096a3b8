/- Check of an edit: is a car, a stop named twice? (laid by gen_dtwice.py) -/
import Derived.Test.YtneelmmikaefgaaDEdit
import Derived.Test.YtneelmmikaefgaaDStrict
namespace Go.Proofs.Ytneelmmikaefgaa
open Go.RowKit
set_option linter.unusedSimpArgs false

theorem made_ints (n : Nat) : (madeCells #[.int .i64 0] (n * 1)).toList = ints (List.replicate n 0) := by
  apply List.ext_getElem
  · simp [madeCells, ints]
  · intro j h1 h2
    have hj : j < n := by simpa [ints] using h2
    simp [madeCells, ints, Nat.mod_one]
theorem made_own (w : World) (n : Nat) (hn : n ≤ 1000000) : (w.alloc (.cells (madeCells #[.int .i64 0] (n * 1)) 3)).ownsRow w.heap.size 3 1 (.slice (some ⟨w.heap.size, 0, none⟩) n n) n (ints (List.replicate n 0)) := by
  have hs : (madeCells #[.int .i64 0] (n * 1)).size = n * 1 := by
    rw [← Array.length_toList, made_ints]; simp [ints]
  refine ⟨by simp [ints], .inr ⟨w.heap.size, n, _, rfl, Nat.le_refl _, heap_new w _, Nat.le_refl _, by unfold maxLen; omega, hs, ?_⟩⟩
  rw [← made_ints, List.take_of_length_le (by rw [Array.length_toList, hs]; exact Nat.le_refl _)]
theorem make_ints (n : Nat) (hn : n ≤ 1000000) (W : World) :
    (Instr.makeSlice 22 (.int .i64 (n : Int)) (.int .i64 (n : Int))).run Try.prog W = .ok (.slice (some ⟨W.heap.size, 0, none⟩) n n) (W.alloc (.cells (madeCells #[.int .i64 0] (n * 1)) 3)) := by
  obtain ⟨i0, hi, hz0, hz1, hz2⟩ := info_parts int_info
  have := run_make (P := Try.prog) W 22 3 i0 _ Try.underlying22 hi hz0 .i64 .i64 (n : Int) (n : Int) (by omega) (by omega) (by rw [hz2, ← Int.natCast_mul]; omega) (by omega)
  rw [this, hz1]
  simp only [Int.toNat_natCast]
  rfl
theorem set_key {l : List Int} {k n : Nat} (hl : l.length = n) (hk : k < n) : (ints (l.take k ++ List.replicate (n - k) 0)).set k (.int .i64 (l[k]'(by omega))) = ints (l.take (k + 1) ++ List.replicate (n - (k + 1)) 0) := by
  have e : n - k = (n - (k + 1)) + 1 := by omega
  have hlt : (l.take k).length = k := by rw [List.length_take]; omega
  rw [e, List.replicate_succ, take_snoc (by omega)]
  unfold ints
  rw [List.map_append, List.map_append, List.map_append, List.map_cons, List.set_append_right _ _ (by rw [List.length_map, hlt]; exact Nat.le_refl _), List.length_map, hlt, Nat.sub_self]
  simp
end Go.Proofs.Ytneelmmikaefgaa
