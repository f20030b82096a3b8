/- Inverse: each Before is After, and the other way round (laid by gen_dinv.py). -/
import Derived.Test.YtneelmmikaefgaaDSort
import Derived.Test.YtneelmmikaefgaaOrdersSkip
namespace Go.Proofs.Ytneelmmikaefgaa
open Go.RowKit
set_option linter.unusedSimpArgs false

theorem own_store {w : World} {B : Nat} {e : TypeId} {size n g cap : Nat} {xs : List Value} (h : w.ownsRow B e size (.slice (some ⟨g, 0, none⟩) n cap) n xs) (j : Nat) (u : Value) : (w.setCell ⟨g, j, none⟩ u).ownsRow B e size (.slice (some ⟨g, 0, none⟩) n cap) n (xs.set j u) := by
  refine ⟨by rw [List.length_set]; exact h.1, ?_⟩
  rcases h.2 with ⟨h0, _⟩ | ⟨g', cap', cur, hv, hbase, hb, h1, h2, h3, h4⟩
  · cases h0
  · injection hv with hg _ hc
    injection hg with hg
    injection hg with hg _ _
    subst hg hc
    refine .inr ⟨g, cap, _, rfl, hbase, heap_set hb j u, h1, h2, by simpa using h3, ?_⟩
    rw [Array.toList_setIfInBounds, List.take_set, h4]
theorem own_cell {w : World} {B : Nat} {e : TypeId} {size n g cap : Nat} {xs : List Value} (h : w.ownsRow B e size (.slice (some ⟨g, 0, none⟩) n cap) n xs) {j : Nat} (hj : j < n * size) : ∃ u, w.cell? ⟨g, j, none⟩ = some u ∧ w.frozen? ⟨g, j, none⟩ = false := by
  rcases h.2 with ⟨h0, _⟩ | ⟨g', cap', cur, hv, hbase, hb, h1, h2, h3, h4⟩
  · cases h0
  · injection hv with hg _ hc
    injection hg with hg
    injection hg with hg _ _
    subst hg hc
    have hx : j < cur.size := by rw [h3]; exact Nat.lt_of_lt_of_le hj (Nat.mul_le_mul_right _ h1)
    have := (blk_of_heap hb).2 j (by simpa using hx)
    exact ⟨_, this.1, this.2⟩
theorem set_flat {α : Type} {c : Nat} {f : α → List Value} (hf : ∀ x, (f x).length = c) (p q : List α) (x y : α) : ∀ (j : Nat) (u : Value), j < c → (f y) = (f x).set j u → ((p ++ x :: q).flatMap f).set (p.length * c + j) u = (p ++ y :: q).flatMap f := by
  intro j u hj hy
  rw [List.flatMap_append, List.flatMap_append, List.flatMap_cons, List.flatMap_cons, List.set_append_right _ _ (by rw [flat_len hf]; omega), flat_len hf, Nat.add_sub_cancel_left, List.set_append_left _ _ (by rw [hf]; exact hj), hy]
def Turn.pl (t : Turn) : Int × List Int × List Int := (t.c, t.b, t.a)
def Turn.fl (t : Turn) : Int × List Int × List Int := (t.c, t.a, t.b)
/-- both rows of a turn are owned -/
def TOwn (B : Nat) (W : World) (t : Turn) : Prop := W.ownsRow B 3 1 t.x t.b.length (ints t.b) ∧ W.ownsRow B 3 1 t.y t.a.length (ints t.a)
theorem TOwn.below {B : Nat} {W W' : World} {t : Turn} (h : TOwn B W t) (hb : Below W.heap.size W W') : TOwn B W' t := ⟨own_below h.1 hb, own_below h.2 hb⟩
theorem TOwn.set {B : Nat} {W : World} {t : Turn} (h : TOwn B W t) {g : Nat} (hg : Typed W g 27) (k : Nat) (u : Value) : TOwn B (W.setCell ⟨g, k, none⟩ u) t := by
  obtain ⟨cur, hc⟩ := hg
  exact ⟨out_set hc h.1 (by decide), out_set hc h.2 (by decide)⟩
theorem TOwn.ok {B : Nat} {W : World} {t : Turn} (h : TOwn B W t) : t.ok W := ⟨own_recs1 h.1, own_recs1 h.2⟩
theorem TOwn.low {B B' : Nat} {W : World} {t : Turn} (h : TOwn B W t) (hB : B' ≤ B) : TOwn B' W t := ⟨own_lower h.1 hB, own_lower h.2 hB⟩
theorem TOwn.one {B : Nat} {W : World} {t : Turn} (h : TOwn B W t) : t.x.oneCell' = true ∧ t.y.oneCell' = true := by
  obtain ⟨A, c, hx, _⟩ := own_slice_n h.1
  obtain ⟨A2, c2, hy, _⟩ := own_slice_n h.2
  exact ⟨by rw [hx]; rfl, by rw [hy]; rfl⟩
/-- a new row of turns, their rows new as well -/
def NewT (B : Nat) (W : World) (v : Value) (l : List Turn) : Prop := OutT B W v l ∧ ∀ t ∈ l, TOwn B W t
theorem NewT.below {B : Nat} {W W' : World} {v : Value} {l : List Turn} (h : NewT B W v l) (hb : Below W.heap.size W W') : NewT B W' v l := ⟨own_below h.1 hb, fun t ht => (h.2 t ht).below hb⟩
theorem NewT.low {B B' : Nat} {W : World} {v : Value} {l : List Turn} (h : NewT B W v l) (hB : B' ≤ B) : NewT B' W v l := ⟨own_lower h.1 hB, fun t ht => (h.2 t ht).low hB⟩
theorem NewT.turns {B : Nat} {W : World} {A : Option Addr} {cap : Nat} {l : List Turn} (h : NewT B W (.slice A l.length cap) l) : Turns W (.slice A l.length cap) l := ⟨Rows.of_own h.1 turn_len, fun t ht => (h.2 t ht).ok⟩
end Go.Proofs.Ytneelmmikaefgaa
