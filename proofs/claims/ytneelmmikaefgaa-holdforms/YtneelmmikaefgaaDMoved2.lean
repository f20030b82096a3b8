/- slices.Concat of two rows; Moved of an edit (laid by gen_dmoved2.py). -/
import Derived.Test.YtneelmmikaefgaaDMoved
namespace Go.Proofs.Ytneelmmikaefgaa
open Go.RowKit
set_option linter.unusedSimpArgs false

def Dis (v u : Value) : Prop := v.ownBlock = none ∨ v.ownBlock ≠ u.ownBlock
theorem Dis.symm {v u : Value} (h : Dis v u) : Dis u v := by
  unfold Dis at *
  rcases hu : u.ownBlock with _ | g
  · exact .inl rfl
  · refine .inr fun e => ?_
    rcases h with h | h
    · rw [h] at e; cases e
    · exact h (by rw [hu]; exact e.symm)
/-- the one row grows: the other one stands, and they stay apart -/
theorem own_apart {w w' : World} {B : Nat} {e : TypeId} {size n : Nat} {v u v' : Value} {xs : List Value} (h : w.ownsRow B e size u n xs) (hd : Dis v u) (hg : w.grownBy w' v.ownBlock) (hv : v'.ownBlock = v.ownBlock ∨ v'.ownBlock = some w.heap.size) : w'.ownsRow B e size u n xs ∧ Dis v' u := by
  have hs := hd.symm
  refine ⟨h.kept hg hs, ?_⟩
  rcases hv with hv | hv
  · unfold Dis; rw [hv]; exact hd
  · refine .inr fun e => ?_
    rw [hv] at e
    have := (h.lt _ e.symm).2
    omega
theorem outI_put {B : Nat} {W : World} {v : Value} {a b : List Int} (h : W.ownsRow B 3 1 v (a.length + b.length) (ints a ++ ints b)) : W.ownsRow B 3 1 v (a ++ b).length (ints (a ++ b)) := by
  have e : ints (a ++ b) = ints a ++ ints b := by simp [ints]
  rw [e, List.length_append]
  exact h
def befE (d : Edit) : List Int := d.turns.flatMap Turn.b
def aftE (d : Edit) : List Int := d.turns.flatMap Turn.a
def outOf (l o : List Int) : List Int := l.filter (fun x => !decide (x ∈ o))
def movedE (d : Edit) : List Int := Lib.compact (sortI (outOf (sortI (befE d)) (sortI (aftE d)) ++ outOf (sortI (aftE d)) (sortI (befE d))))
theorem movedE_strict (d : Edit) : StrictI (movedE d) := compact_strict (sortI_rising _)
theorem movedE_mem (d : Edit) (x : Int) : x ∈ movedE d ↔ (x ∈ befE d ∧ x ∉ aftE d) ∨ (x ∈ aftE d ∧ x ∉ befE d) := by
  unfold movedE outOf
  rw [compact_mem (sortI_rising _), sortI_mem]
  simp only [List.mem_append, List.mem_filter, sortI_mem, Bool.not_eq_true', decide_eq_false_iff_not]
theorem flat_le {f : Turn → List Int} {M : Nat} : ∀ (l : List Turn), (∀ t ∈ l, (f t).length ≤ M) → (l.flatMap f).length ≤ l.length * M
  | [], _ => by simp
  | t :: l, h => by
    have h1 := h t (by simp)
    have h2 := flat_le l (fun t ht => h t (by simp [ht]))
    rw [List.flatMap_cons, List.length_append, List.length_cons, Nat.succ_mul]
    omega
theorem outOf_len (l o : List Int) : (outOf l o).length ≤ l.length := List.length_filter_le _ _
end Go.Proofs.Ytneelmmikaefgaa
