/- Allocations one after the other. -/
import Derived.Test.YtneelmmikaefgaaBlk
import Derived.Below
namespace Go.Proofs.Ytneelmmikaefgaa
open Go.RowKit
set_option linter.unusedSimpArgs false

def lays (w : World) : List Obj → World
  | [] => w
  | b :: l => lays (w.alloc b) l
theorem lays_below {w0 : World} {B : Nat} : ∀ (l : List Obj) {w : World}, Below B w0 w → B ≤ w.heap.size → Below B w0 (lays w l)
  | [], _, h, _ => h
  | b :: l, w, h, hB => lays_below l (h.alloc hB b) (by simp; omega)
theorem lays_keep {B : Nat} {c : List Value} : ∀ (l : List Obj) {w : World}, Blk w B c → Blk (lays w l) B c
  | [], _, h => h
  | b :: l, _, h => lays_keep l (h.alloc b)
theorem lays_blk {c : Array Value} {t : TypeId} : ∀ (l : List Obj) (w : World) (k : Nat), l[k]? = some (.cells c t) → Blk (lays w l) (w.heap.size + k) c.toList
  | [], _, _, h => by simp at h
  | b :: l, w, 0, h => by
    obtain rfl : b = .cells c t := by simpa using h
    exact lays_keep l (blk_new w c t)
  | b :: l, w, k + 1, h => by
    have := lays_blk l (w.alloc b) k (by simpa using h)
    rw [show (w.alloc b).heap.size + k = w.heap.size + (k + 1) by simp; omega] at this
    exact this
end Go.Proofs.Ytneelmmikaefgaa
