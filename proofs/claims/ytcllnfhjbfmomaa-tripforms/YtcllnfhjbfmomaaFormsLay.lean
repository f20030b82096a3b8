/- TripForms' table laid: thirty allocations one after the other. -/
import Derived.Test.YtcllnfhjbfmomaaFormsTab
namespace Go.Proofs.Ytcllnfhjbfmomaa
open Go.RowKit
set_option linter.unusedSimpArgs false

def lays (w : World) : List Obj → World
  | [] => w
  | b :: l => lays (w.alloc b) l
theorem lays_below {w0 : World} {B : Nat} : ∀ (l : List Obj) {w : World}, Below B w0 w → B ≤ w.heap.size → Below B w0 (lays w l)
  | [], _, h, _ => h
  | b :: l, w, h, hB => lays_below l (h.alloc hB b) (by simp; omega)
theorem lays_keep {B : Nat} {c : List Value} : ∀ (l : List Obj) {w : World}, Blk w B c → Blk (lays w l) B c
  | [], _, h => h
  | b :: l, _, h => lays_keep l (h.alloc b)
theorem lays_blk {c : Array Value} {t : TypeId} : ∀ (l : List Obj) (w : World) (k : Nat), l[k]? = some (.cells c t) → Blk (lays w l) (w.heap.size + k) c.toList
  | [], _, _, h => by simp at h
  | b :: l, w, 0, h => by
    obtain rfl : b = .cells c t := by simpa using h
    exact lays_keep l (blk_new w c t)
  | b :: l, w, k + 1, h => by
    have := lays_blk l (w.alloc b) k (by simpa using h)
    rw [show (w.alloc b).heap.size + k = w.heap.size + (k + 1) by simp; omega] at this
    exact this
def flay (w : World) : List Obj := [
  .cells #[.int .i64 1] 3,
  .cells #[.int .i64 14] 3,
  .cells #[.int .i64 3] 3,
  .cells #[.int .i64 1, .int .i64 2] 3,
  .cells #[.int .i64 14, .int .i64 30] 3,
  .cells #[.int .i64 3, .int .i64 2] 3,
  .cells #[.int .i64 2] 3,
  .cells #[.int .i64 2, .int .i64 1] 3,
  .cells #[.int .i64 3, .int .i64 4] 3,
  .cells #[.int .i64 18, .int .i64 28] 3,
  .cells #[.int .i64 4, .int .i64 0] 3,
  .cells #[.int .i64 4, .int .i64 3] 3,
  .cells #[.int .i64 3] 3,
  .cells #[.int .i64 4] 3,
  .cells #[.int .i64 1, .int .i64 3, .int .i64 4] 3,
  .cells #[.int .i64 3, .int .i64 4, .int .i64 1] 3,
  .cells #[.int .i64 18, .int .i64 28, .int .i64 30] 3,
  .cells #[.int .i64 4, .int .i64 0, .int .i64 3] 3,
  .cells #[.int .i64 3, .int .i64 2, .int .i64 4] 3,
  .cells #[.int .i64 18, .int .i64 30, .int .i64 32] 3,
  .cells #[.int .i64 4, .int .i64 3, .int .i64 (-1)] 3,
  .cells #[.int .i64 1] 3,
  .cells #[.int .i64 4] 3,
  .cells #[.int .i64 3] 3,
  .cells #[.int .i64 3, .int .i64 4] 3,
  .cells #[.int .i64 1, .int .i64 2] 3,
  .cells #[.int .i64 1, .int .i64 1] 3,
  .cells #[.int .i64 5] 3,
  .cells #[.int .i64 0] 3,
  .cells #[.int .i64 0, .slice none 0 0, .bool true, .slice none 0 0, .slice none 0 0, .int .i64 0, .int .i64 10, .int .i64 0, .slice (some ⟨w.heap.size, 0, none⟩) 1 1, .bool true, .slice (some ⟨w.heap.size + 1, 0, none⟩) 1 1, .slice (some ⟨w.heap.size + 2, 0, none⟩) 1 1, .int .i64 9, .int .i64 21, .int .i64 0, .slice (some ⟨w.heap.size + 3, 0, none⟩) 2 2, .bool true, .slice (some ⟨w.heap.size + 4, 0, none⟩) 2 2, .slice (some ⟨w.heap.size + 5, 0, none⟩) 2 2, .int .i64 13, .int .i64 37, .int .i64 0, .slice (some ⟨w.heap.size + 6, 0, none⟩) 1 1, .bool false, .slice none 0 0, .slice none 0 0, .int .i64 0, .int .i64 0, .int .i64 0, .slice (some ⟨w.heap.size + 7, 0, none⟩) 2 2, .bool false, .slice none 0 0, .slice none 0 0, .int .i64 0, .int .i64 0, .int .i64 0, .slice (some ⟨w.heap.size + 8, 0, none⟩) 2 2, .bool true, .slice (some ⟨w.heap.size + 9, 0, none⟩) 2 2, .slice (some ⟨w.heap.size + 10, 0, none⟩) 2 2, .int .i64 15, .int .i64 30, .int .i64 0, .slice (some ⟨w.heap.size + 11, 0, none⟩) 2 2, .bool false, .slice none 0 0, .slice none 0 0, .int .i64 0, .int .i64 0, .int .i64 0, .slice (some ⟨w.heap.size + 12, 0, none⟩) 1 1, .bool false, .slice none 0 0, .slice none 0 0, .int .i64 0, .int .i64 0, .int .i64 0, .slice (some ⟨w.heap.size + 13, 0, none⟩) 1 1, .bool false, .slice none 0 0, .slice none 0 0, .int .i64 0, .int .i64 0, .int .i64 0, .slice (some ⟨w.heap.size + 14, 0, none⟩) 3 3, .bool false, .slice none 0 0, .slice none 0 0, .int .i64 0, .int .i64 0, .int .i64 0, .slice (some ⟨w.heap.size + 15, 0, none⟩) 3 3, .bool true, .slice (some ⟨w.heap.size + 16, 0, none⟩) 3 3, .slice (some ⟨w.heap.size + 17, 0, none⟩) 3 3, .int .i64 20, .int .i64 37, .int .i64 0, .slice (some ⟨w.heap.size + 18, 0, none⟩) 3 3, .bool true, .slice (some ⟨w.heap.size + 19, 0, none⟩) 3 3, .slice (some ⟨w.heap.size + 20, 0, none⟩) 3 3, .int .i64 0, .int .i64 0, .int .i64 1, .slice (some ⟨w.heap.size + 21, 0, none⟩) 1 1, .bool true, .slice (some ⟨w.heap.size + 22, 0, none⟩) 1 1, .slice (some ⟨w.heap.size + 23, 0, none⟩) 1 1, .int .i64 9, .int .i64 11, .int .i64 1, .slice (some ⟨w.heap.size + 24, 0, none⟩) 2 2, .bool false, .slice none 0 0, .slice none 0 0, .int .i64 0, .int .i64 0, .int .i64 1, .slice (some ⟨w.heap.size + 25, 0, none⟩) 2 2, .bool false, .slice none 0 0, .slice none 0 0, .int .i64 0, .int .i64 0, .int .i64 0, .slice (some ⟨w.heap.size + 26, 0, none⟩) 2 2, .bool false, .slice none 0 0, .slice none 0 0, .int .i64 0, .int .i64 0, .int .i64 0, .slice (some ⟨w.heap.size + 27, 0, none⟩) 1 1, .bool false, .slice none 0 0, .slice none 0 0, .int .i64 0, .int .i64 0, .int .i64 0, .slice (some ⟨w.heap.size + 28, 0, none⟩) 1 1, .bool false, .slice none 0 0, .slice none 0 0, .int .i64 0, .int .i64 0, .int .i64 2, .slice none 0 0, .bool false, .slice none 0 0, .slice none 0 0, .int .i64 0, .int .i64 0, .int .i64 (-1), .slice none 0 0, .bool false, .slice none 0 0, .slice none 0 0, .int .i64 0, .int .i64 0] 23]
set_option maxRecDepth 100000 in
theorem forms_lay (w : World) : FTab (lays w (flay w)) (w.heap.size + 29) :=
  forms_tab (S := w.heap.size) (lays_blk _ w 0 rfl) (lays_blk _ w 1 rfl) (lays_blk _ w 2 rfl) (lays_blk _ w 3 rfl) (lays_blk _ w 4 rfl) (lays_blk _ w 5 rfl) (lays_blk _ w 6 rfl) (lays_blk _ w 7 rfl) (lays_blk _ w 8 rfl) (lays_blk _ w 9 rfl) (lays_blk _ w 10 rfl) (lays_blk _ w 11 rfl) (lays_blk _ w 12 rfl) (lays_blk _ w 13 rfl) (lays_blk _ w 14 rfl) (lays_blk _ w 15 rfl) (lays_blk _ w 16 rfl) (lays_blk _ w 17 rfl) (lays_blk _ w 18 rfl) (lays_blk _ w 19 rfl) (lays_blk _ w 20 rfl) (lays_blk _ w 21 rfl) (lays_blk _ w 22 rfl) (lays_blk _ w 23 rfl) (lays_blk _ w 24 rfl) (lays_blk _ w 25 rfl) (lays_blk _ w 26 rfl) (lays_blk _ w 27 rfl) (lays_blk _ w 28 rfl) (lays_blk _ w 29 rfl)
end Go.Proofs.Ytcllnfhjbfmomaa
