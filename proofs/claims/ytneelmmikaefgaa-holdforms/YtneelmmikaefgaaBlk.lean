/- A block whose cells are known. -/
import Derived.Test.YtneelmmikaefgaaInstViews
namespace Go.Proofs.Ytneelmmikaefgaa
open Go.RowKit
/-- block B holds these values, none frozen -/
def Blk (W : World) (B : Nat) (l : List Value) : Prop := B < W.heap.size ∧ ∀ j (h : j < l.length), W.cell? ⟨B, j, none⟩ = some l[j] ∧ W.frozen? ⟨B, j, none⟩ = false
theorem Blk.below {W W' : World} {B : Nat} {l : List Value} (h : Blk W B l) (hb : Below W.heap.size W W') : Blk W' B l :=
  ⟨Nat.lt_of_lt_of_le h.1 hb.size, fun j hj => ⟨by rw [hb.cell h.1]; exact (h.2 j hj).1, by rw [hb.frozen h.1]; exact (h.2 j hj).2⟩⟩
theorem Blk.alloc {W : World} {B : Nat} {l : List Value} (h : Blk W B l) (o : Obj) : Blk (W.alloc o) B l := h.below ((Below.refl _ _).alloc (Nat.le_refl _) _)
theorem Blk.drew {W : World} {B : Nat} {l : List Value} (h : Blk W B l) : Blk W.drew B l := h
theorem Blk.other {W : World} {B : Nat} {l : List Value} (h : Blk W B l) {a : Addr} (ha : a.block ≠ B) (u : Value) : Blk (W.setCell a u) B l :=
  ⟨by simpa using h.1, fun j hj => ⟨by rw [World.cell?_setCell_other _ _ _ _ (by intro hh; rw [hh] at ha; exact ha rfl)]; exact (h.2 j hj).1, by rw [World.frozen?_setCell]; exact (h.2 j hj).2⟩⟩
theorem Blk.set {W : World} {B : Nat} {l : List Value} (h : Blk W B l) {k : Nat} (hk : k < l.length) (u : Value) : Blk (W.setCell ⟨B, k, none⟩ u) B (l.set k u) := by
  refine ⟨by simpa using h.1, fun j hj => ⟨?_, by rw [World.frozen?_setCell]; exact (h.2 j (by simpa using hj)).2⟩⟩
  by_cases e : j = k
  · subst e
    rw [World.cell?_setCell_same _ _ _ (h.2 j hk).1]; simp
  · rw [World.cell?_setCell_other _ _ _ _ (by intro hh; injection hh with _ h2 _; exact e h2.symm), (h.2 j (by simpa using hj)).1]
    rw [List.getElem_set_ne (by omega)]
theorem blk_new (w : World) (c : Array Value) (t : TypeId) : Blk (w.alloc (.cells c t)) w.heap.size c.toList := by
  refine ⟨by simp, fun j hj => ⟨?_, by simp [go_sem]⟩⟩
  rw [World.cell?_alloc_new]
  simp at hj ⊢
theorem blk_at {w : World} {B : Nat} (c : Array Value) (t : TypeId) (h : B = w.heap.size) : Blk (w.alloc (.cells c t)) B c.toList := h ▸ blk_new w c t
/-- a block of cells of a type -/
def Typed (W : World) (g : Nat) (t : TypeId) : Prop := ∃ cur, W.heap[g]? = some (.cells cur t (0, 0))
theorem Typed.below {W W' : World} {g : Nat} {t : TypeId} (h : Typed W g t) (hb : Below W.heap.size W W') : Typed W' g t := by
  obtain ⟨cur, h⟩ := h
  exact ⟨cur, by rw [hb.block g (Array.getElem?_eq_some_iff.1 h).1]; exact h⟩
theorem Typed.setCell {W : World} {g : Nat} {t : TypeId} (h : Typed W g t) (g' k : Nat) (u : Value) : Typed (W.setCell ⟨g', k, none⟩ u) g t := by
  obtain ⟨cur, h⟩ := h
  by_cases e : g' = g
  · subst e
    exact ⟨_, by simp [World.setCell, Array.getElem?_modify, h]; rfl⟩
  · exact ⟨cur, by rw [Below.heap_setCell _ _ _ _ (fun h => e h.symm)]; exact h⟩
theorem typed_new (w : World) (c : Array Value) (t : TypeId) : Typed (w.alloc (.cells c t)) w.heap.size t := ⟨c, by unfold World.alloc; simp⟩
theorem Blk.heap {W W' : World} {B : Nat} {l : List Value} (h : Blk W B l) (he : W'.heap[B]? = W.heap[B]?) (hs : W.heap.size ≤ W'.heap.size) : Blk W' B l :=
  ⟨Nat.lt_of_lt_of_le h.1 hs, fun j hj => ⟨by rw [World.cell?_of_block (w := W) he]; exact (h.2 j hj).1, by rw [World.frozen?_of_block (w := W) he]; exact (h.2 j hj).2⟩⟩
/-- records out of a block -/
theorem Blk.recs {α : Type} {W : World} {B : Nat} {l : List Value} (h : Blk W B l) (c : Nat) (g : α → Nat → Int) (xs : List α) (cap : Nat)
    (hl : ∀ k (hk : k < xs.length) j, j < c → l[k * c + j]? = some (.int .i64 (g xs[k] j))) : Recs W c g (.slice (some ⟨B, 0, none⟩) xs.length cap) xs := by
  refine ⟨_, _, rfl, fun k hk => ⟨B, 0, rfl, h.1, fun j hj => ?_⟩⟩
  have h1 := hl k hk j hj
  obtain ⟨h2, h3⟩ := List.getElem?_eq_some_iff.1 h1
  rw [Nat.zero_add, (h.2 _ h2).1, h3]
theorem Blk.trav {W : World} {B : Nat} {l : List Value} (h : Blk W B l) (xs : List (List Int)) (cap : Nat) (hl : ∀ k (hk : k < xs.length), ∃ u, l[k]? = some u ∧ Recs W 1 num_ u xs[k]) : Trav W (.slice (some ⟨B, 0, none⟩) xs.length cap) xs := by
  refine ⟨_, _, rfl, fun k hk => ?_⟩
  obtain ⟨u, h1, hr⟩ := hl k hk
  obtain ⟨h2, h3⟩ := List.getElem?_eq_some_iff.1 h1
  exact ⟨B, 0, u, rfl, h.1, by rw [Nat.zero_add, (h.2 _ h2).1, h3], hr⟩
def ints (l : List Int) : List Value := l.map fun n => .int .i64 n
theorem Blk.car {W : World} {B : Nat} {a b c : Int} (h : Blk W B (ints [a, b, c])) (cap : Nat) : Recs W 3 Car.at_ (.slice (some ⟨B, 0, none⟩) 1 cap) [⟨a, b, c⟩] :=
  h.recs 3 Car.at_ [⟨a, b, c⟩] cap fun k hk j hj => by
    match k, hk, j, hj with
    | 0, _, 0, _ | 0, _, 1, _ | 0, _, 2, _ => rfl
theorem Blk.stop2 {W : World} {B : Nat} {a b c d e f g i : Int} (h : Blk W B (ints [a, b, c, d, e, f, g, i])) (cap : Nat) : Recs W 4 Stop.at_ (.slice (some ⟨B, 0, none⟩) 2 cap) [⟨a, b, c, d⟩, ⟨e, f, g, i⟩] :=
  h.recs 4 Stop.at_ [⟨a, b, c, d⟩, ⟨e, f, g, i⟩] cap fun k hk j hj => by
    match k, hk, j, hj with
    | 0, _, 0, _ | 0, _, 1, _ | 0, _, 2, _ | 0, _, 3, _ | 1, _, 0, _ | 1, _, 1, _ | 1, _, 2, _ | 1, _, 3, _ => rfl
theorem Blk.pair {W : World} {B : Nat} {a b : Int} (h : Blk W B (ints [a, b])) (cap : Nat) : Recs W 2 Pair.at_ (.slice (some ⟨B, 0, none⟩) 1 cap) [⟨a, b⟩] :=
  h.recs 2 Pair.at_ [⟨a, b⟩] cap fun k hk j hj => by
    match k, hk, j, hj with
    | 0, _, 0, _ | 0, _, 1, _ => rfl
theorem Blk.row3 {W : World} {B : Nat} {a b c : Int} (h : Blk W B (ints [a, b, c])) (cap : Nat) : Recs W 1 num_ (.slice (some ⟨B, 0, none⟩) 3 cap) [a, b, c] :=
  h.recs 1 num_ [a, b, c] cap fun k hk j hj => by
    match k, hk, j, hj with
    | 0, _, 0, _ | 1, _, 0, _ | 2, _, 0, _ => rfl
theorem Recs.nil {α : Type} {W : World} {c : Nat} {g : α → Nat → Int} {A : Option Addr} {cap : Nat} : Recs W c g (.slice A 0 cap) ([] : List α) := ⟨A, cap, rfl, fun k hk => absurd hk (by simp)⟩
theorem Trav.nil {W : World} {A : Option Addr} {cap : Nat} : Trav W (.slice A 0 cap) [] := ⟨A, cap, rfl, fun k hk => absurd hk (by simp)⟩
end Go.Proofs.Ytneelmmikaefgaa
