/- Edits: what is tidy of them, how rows of them are owned; blocks. (Cut out of RefHolds, RefTidy: the landed code and the reference share it.) -/
import Derived.Test.YtneelmmikaefgaaDeltaMem
import Derived.Deep.CutBlock
namespace Go.Proofs.Ytneelmmikaefgaa
open Go.RowKit
set_option linter.unusedSimpArgs false

def holdsL (l : List Hold) : List Hold := sortBy Hold.n (l.filter fun h => decide (h.b ≠ h.a))
theorem holdsL_skip {l : List Hold} {x : Hold} (h : x.b = x.a) : holdsL (l ++ [x]) = holdsL l := by
  simp [holdsL, List.filter_append, h]
theorem holdsL_put {l : List Hold} {x : Hold} (h : ¬ x.b = x.a) : holdsL (l ++ [x]) = insBy Hold.n x (holdsL l) := by
  simp [holdsL, List.filter_append, h, sortBy_snoc]
theorem holdsL_length (l : List Hold) : (holdsL l).length ≤ l.length := by
  unfold holdsL
  rw [sortBy_length]
  exact List.length_filter_le _ _
theorem take_snoc {α : Type} {l : List α} {k : Nat} (h : k < l.length) : l.take (k + 1) = l.take k ++ [l[k]] := by
  rw [List.take_succ_eq_append_getElem h]
theorem hold_len (x : Hold) : x.cells.length = 3 := rfl
theorem Rows.hold {W : World} {A : Option Addr} {cap : Nat} {l : List Hold} (h : Rows W 3 Hold.cells (.slice A l.length cap) l) {k : Nat} (hk : k < l.length) : ∃ B o, A = some ⟨B, o, none⟩ ∧ B < W.heap.size ∧ W.cell? ⟨B, o + k * 3, none⟩ = some (.int .i64 l[k].n) ∧ W.cell? ⟨B, o + k * 3 + 1, none⟩ = some (.int .i64 l[k].b) ∧ W.cell? ⟨B, o + k * 3 + 2, none⟩ = some (.int .i64 l[k].a) := by
  obtain ⟨A', cap', hv, h⟩ := h
  injection hv with hA _ _
  subst hA
  obtain ⟨B, o, rfl, hB, hc⟩ := h k hk
  exact ⟨B, o, rfl, hB, hc 0 _ rfl, hc 1 _ rfl, hc 2 _ rfl⟩
/-- the sorted row so far -/
def OutH (B : Nat) (W : World) (v : Value) (o : List Hold) : Prop := W.ownsRow B 35 3 v o.length (o.flatMap Hold.cells)
def tidyT (l : List Turn) : List Turn := sortBy Turn.c (l.filter fun t => decide (t.b ≠ t.a))
theorem tidyT_skip {l : List Turn} {x : Turn} (h : x.b = x.a) : tidyT (l ++ [x]) = tidyT l := by
  simp [tidyT, List.filter_append, h]
theorem tidyT_put {l : List Turn} {x : Turn} (h : ¬ x.b = x.a) : tidyT (l ++ [x]) = insBy Turn.c x (tidyT l) := by
  simp [tidyT, List.filter_append, h, sortBy_snoc]
theorem tidyT_length (l : List Turn) : (tidyT l).length ≤ l.length := by
  unfold tidyT
  rw [sortBy_length]
  exact List.length_filter_le _ _
theorem tidyT_mem {l : List Turn} {t : Turn} (h : t ∈ tidyT l) : t ∈ l := by
  unfold tidyT at h
  rw [mem_sortBy] at h
  exact (List.mem_filter.1 h).1
theorem turn_len (x : Turn) : x.cells.length = 3 := rfl
theorem Rows.turn {W : World} {A : Option Addr} {cap : Nat} {l : List Turn} (h : Rows W 3 Turn.cells (.slice A l.length cap) l) {k : Nat} (hk : k < l.length) : ∃ B o, A = some ⟨B, o, none⟩ ∧ B < W.heap.size ∧ W.cell? ⟨B, o + k * 3, none⟩ = some (.int .i64 l[k].c) ∧ W.cell? ⟨B, o + k * 3 + 1, none⟩ = some l[k].x ∧ W.cell? ⟨B, o + k * 3 + 2, none⟩ = some l[k].y := by
  obtain ⟨A', cap', hv, h⟩ := h
  injection hv with hA _ _
  subst hA
  obtain ⟨B, o, rfl, hB, hc⟩ := h k hk
  exact ⟨B, o, rfl, hB, hc 0 _ rfl, hc 1 _ rfl, hc 2 _ rfl⟩
def OutT (B : Nat) (W : World) (v : Value) (o : List Turn) : Prop := W.ownsRow B 27 3 v o.length (o.flatMap Turn.cells)
theorem blk_of_heap {W : World} {g : Nat} {l : Array Value} {t : TypeId} (h : W.heap[g]? = some (.cells l t (0, 0))) : Blk W g l.toList := by
  refine ⟨(Array.getElem?_eq_some_iff.1 h).1, fun j hj => ⟨?_, ?_⟩⟩
  · unfold World.cell?
    simp only [h]
    simp at hj
    simp [hj]
  · unfold World.frozen?
    simp [h]
theorem Blk.at0 {W : World} {B : Nat} {a : Value} {l : List Value} (h : Blk W B (a :: l)) : W.cell? ⟨B, 0, none⟩ = some a ∧ W.frozen? ⟨B, 0, none⟩ = false := h.2 0 (by simp)
theorem Blk.at1 {W : World} {B : Nat} {a b : Value} {l : List Value} (h : Blk W B (a :: b :: l)) : W.cell? ⟨B, 1, none⟩ = some b ∧ W.frozen? ⟨B, 1, none⟩ = false := h.2 1 (by simp)
theorem Blk.at2 {W : World} {B : Nat} {a b c : Value} {l : List Value} (h : Blk W B (a :: b :: c :: l)) : W.cell? ⟨B, 2, none⟩ = some c ∧ W.frozen? ⟨B, 2, none⟩ = false := h.2 2 (by simp)
theorem heap_set {W : World} {g : Nat} {l : Array Value} {t : TypeId} (h : W.heap[g]? = some (.cells l t (0, 0))) (k : Nat) (u : Value) : (W.setCell ⟨g, k, none⟩ u).heap[g]? = some (.cells (l.setIfInBounds k u) t (0, 0)) := by
  simp [World.setCell, Array.getElem?_modify, h]
theorem heap_new (W : World) (o : Obj) : (W.alloc o).heap[W.heap.size]? = some o := by unfold World.alloc; simp
theorem heap_keep {W W' : World} {g : Nat} {o : Obj} (h : W.heap[g]? = some o) (hb : Below W.heap.size W W') : W'.heap[g]? = some o := by
  rw [hb.block g (Array.getElem?_eq_some_iff.1 h).1]; exact h
theorem heap_grown {W W' : World} {g : Nat} {o : Obj} (h : W.heap[g]? = some o) (hb : W.grownBy W' none) : W'.heap[g]? = some o := by
  rw [hb.block g (Array.getElem?_eq_some_iff.1 h).1 (fun e => by cases e)]; exact h
theorem out_set {W : World} {g B : Nat} {l : Array Value} {t e : TypeId} {size n k : Nat} {v u : Value} {xs : List Value} (hg : W.heap[g]? = some (.cells l t (0, 0))) (h : W.ownsRow B e size v n xs) (hne : t ≠ e) : (W.setCell ⟨g, k, none⟩ u).ownsRow B e size v n xs :=
  own_keep h (grown_set W g k u) (fun q hq => by injection hq with hq; subst hq; exact ⟨t, ⟨_, hg⟩, hne⟩)

theorem own_old {w : World} {B R : Nat} {e : TypeId} {size n : Nat} {v : Value} {xs : List Value} (h : w.ownsRow B e size v n xs) (hR : R < B) (k : Nat) (u : Value) : (w.setCell ⟨R, k, none⟩ u).ownsRow B e size v n xs := by
  refine h.kept (grown_set w R k u) ?_
  rcases hv : v.ownBlock with _ | q
  · exact .inl rfl
  · refine .inr fun e2 => ?_
    injection e2 with e2
    have := (h.lt q hv).1
    omega
theorem set3 {W : World} {g : Nat} {a b c : Value} {T : TypeId} (h : W.heap[g]? = some (.cells #[a, b, c] T (0, 0))) (x y z : Value) :
    (((W.setCell ⟨g, 0, none⟩ x).setCell ⟨g, 1, none⟩ y).setCell ⟨g, 2, none⟩ z).heap[g]? = some (.cells #[x, y, z] T (0, 0)) ∧
    (∀ (B : Nat) (e : TypeId) (size n : Nat) (v : Value) (xs : List Value), T ≠ e → W.ownsRow B e size v n xs → (((W.setCell ⟨g, 0, none⟩ x).setCell ⟨g, 1, none⟩ y).setCell ⟨g, 2, none⟩ z).ownsRow B e size v n xs) ∧
    (∀ (B : Nat) (W0 : World), Below B W0 W → B ≤ g → Below B W0 (((W.setCell ⟨g, 0, none⟩ x).setCell ⟨g, 1, none⟩ y).setCell ⟨g, 2, none⟩ z)) := by
  have h1 := heap_set h 0 x
  have h2 := heap_set h1 1 y
  have h3 := heap_set h2 2 z
  refine ⟨by simpa using h3, fun B e size n v xs hne ho => out_set h2 (out_set h1 (out_set h ho hne) hne) hne, fun B W0 hb hB => ((hb.setCell hB _).setCell hB _).setCell hB _⟩
theorem recs_num {W : World} {A : Option Addr} {cap : Nat} {l : List Int} (h : Recs W 1 num_ (.slice A l.length cap) l) {k : Nat} (hk : k < l.length) : ∃ B o, A = some ⟨B, o, none⟩ ∧ B < W.heap.size ∧ W.cell? ⟨B, o + k, none⟩ = some (.int .i64 l[k]) := by
  obtain ⟨A', cap', hv, h⟩ := h
  injection hv with hA _ _
  subst hA
  obtain ⟨B, o, rfl, hB, hc⟩ := h k hk
  refine ⟨B, o, rfl, hB, ?_⟩
  have := hc 0 (by omega)
  simpa [num_] using this
theorem drews (w : World) (a b : Nat) : (w.drewN a).drewN b = w.drewN (a + b) := by unfold World.drewN; simp [Nat.add_assoc]
end Go.Proofs.Ytneelmmikaefgaa
