/- A problem that a call makes in memory of its own: its four rows, grown and kept (no call of the program). -/
import Derived.Test.YtbellnanikaffaaBlk
import Derived.Test.YtbellnanikaffaaMem
import Derived.BigRegion
namespace Go.Proofs.Ytbellnanikaffaa
open Go.RowKit
set_option linter.unusedSimpArgs false

def carNums (c : Car) : List Int := [c.c, c.s, c.e]
def stopNums (c : Stop) : List Int := [c.d, c.o, c.c, c.s]
def pairNums (c : Pair) : List Int := [c.a, c.b]
def noProb : Prob := ⟨[], [], [], []⟩
def carCells (l : List Car) : List Value := l.flatMap fun c => ints (carNums c)
def stopCells (l : List Stop) : List Value := l.flatMap fun c => ints (stopNums c)
def pairCells (l : List Pair) : List Value := l.flatMap fun c => ints (pairNums c)
/-- a row of numbers that stands by itself: just as long as it is (RowAt), with any room behind it (RowSome) -/
def RowAt (W : World) (B : Nat) (u : Value) (r : List Int) : Prop := ∃ g, u = .slice (some ⟨g, 0, none⟩) r.length r.length ∧ B ≤ g ∧ Blk W g (ints r) ∧ Typed W g 3
def RowSome (W : World) (B : Nat) (u : Value) (r : List Int) : Prop := ∃ g cap, u = .slice (some ⟨g, 0, none⟩) r.length cap ∧ B ≤ g ∧ Blk W g (ints r) ∧ Typed W g 3 ∧ r.length ≤ cap
theorem RowAt.some {W : World} {B : Nat} {u : Value} {r : List Int} (h : RowAt W B u r) : RowSome W B u r := by
  obtain ⟨g, h1, h2, h3, h4⟩ := h; exact ⟨g, _, h1, h2, h3, h4, Nat.le_refl _⟩
theorem own_typed {w : World} {B : Nat} {e : TypeId} {size n : Nat} {v : Value} {xs : List Value} (h : w.ownsRow B e size v n xs) {g : Nat} (hg : v.ownBlock = some g) : Typed w g e ∧ B ≤ g := by
  rcases h.2 with ⟨rfl, _⟩ | ⟨g', cap, cur, rfl, hb, hh, _⟩
  · simp [Value.ownBlock] at hg
  · simp [Value.ownBlock] at hg
    subst hg
    exact ⟨⟨cur, hh⟩, hb⟩
theorem typed_ne {w : World} {g g' : Nat} {e e' : TypeId} (h : Typed w g e) (h' : Typed w g' e') (hne : e ≠ e') : g ≠ g' := by
  rintro rfl
  obtain ⟨c, h⟩ := h
  obtain ⟨c', h'⟩ := h'
  rw [h] at h'
  injection h' with h'
  injection h' with _ h' _
  exact hne h'
theorem own_ne {w : World} {B B' : Nat} {e e' : TypeId} {size size' n n' : Nat} {v v' : Value} {xs xs' : List Value} (h : w.ownsRow B e size v n xs) (h' : w.ownsRow B' e' size' v' n' xs') (hne : e ≠ e') : v.ownBlock = none ∨ v.ownBlock ≠ v'.ownBlock := by
  rcases hv : v.ownBlock with _ | g
  · exact .inl rfl
  · refine .inr fun hv' => ?_
    exact typed_ne (own_typed h hv).1 (own_typed h' hv'.symm).1 hne rfl
theorem RowSome.grown {W W' : World} {B : Nat} {u : Value} {r : List Int} {row : Option Nat} (h : RowSome W B u r) (hg : W.grownBy W' row) (hrow : ∀ g, row = some g → ∃ t, Typed W g t ∧ t ≠ 3) : RowSome W' B u r := by
  obtain ⟨g, cap, rfl, hB, hbl, hty, hcp⟩ := h
  have hlt := hbl.1
  have he : W'.heap[g]? = W.heap[g]? := hg.block g hlt (fun e => by
    obtain ⟨t, ht, hne⟩ := hrow g e.symm
    exact typed_ne ht hty hne rfl)
  obtain ⟨cur, hc⟩ := hty
  exact ⟨g, cap, rfl, hB, hbl.heap he hg.size, ⟨cur, by rw [he]; exact hc⟩, hcp⟩
theorem RowSome.below {W W' : World} {B : Nat} {u : Value} {r : List Int} (h : RowSome W B u r) (hb : Below W.heap.size W W') : RowSome W' B u r := by
  obtain ⟨g, cap, rfl, hB, hbl, hty, hcp⟩ := h
  exact ⟨g, cap, rfl, hB, hbl.below hb, hty.below hb, hcp⟩
theorem int_info : (Try.prog.info? 3).map (fun i => (i.zero, i.size, i.bytes)) = some (some (.int .i64 0), 1, 8) := by kernel_rfl
theorem row_info : (Try.prog.info? 22).map (fun i => (i.zero, i.size, i.bytes)) = some (some (.slice none 0 0), 1, 24) := by kernel_rfl

theorem own_keep {w w' : World} {B : Nat} {e : TypeId} {size n : Nat} {v : Value} {xs : List Value} {row : Option Nat} (h : w.ownsRow B e size v n xs) (hg : w.grownBy w' row) (hrow : ∀ g, row = some g → ∃ t, Typed w g t ∧ t ≠ e) : w'.ownsRow B e size v n xs := by
  refine h.kept hg ?_
  rcases hv : v.ownBlock with _ | g
  · exact .inl rfl
  · refine .inr fun e2 => ?_
    obtain ⟨t, ht, hne⟩ := hrow g e2.symm
    exact typed_ne (own_typed h hv).1 ht (Ne.symm hne) rfl
theorem grown_set (w : World) (I k : Nat) (u : Value) : w.grownBy (w.setCell ⟨I, k, none⟩ u) (some I) :=
  ⟨rfl, rfl, rfl, by simp [World.setCell], fun j _ hj => Below.heap_setCell _ _ _ _ (fun e => hj (by simp [e]))⟩
theorem grown_typed {w w' : World} {g : Nat} {t : TypeId} {row : Option Nat} (h : Typed w g t) (hg : w.grownBy w' row) (hrow : some g ≠ row) : Typed w' g t := by
  obtain ⟨cur, hc⟩ := h
  exact ⟨cur, by rw [hg.block g (Array.getElem?_eq_some_iff.1 hc).1 hrow]; exact hc⟩
theorem reads_new (w : World) (l : List Value) (t : TypeId) : Reads (w.alloc (.cells l.toArray t)) (w.heap.size + 1) l.length (some ⟨w.heap.size, 0, none⟩) 1 l :=
  ⟨by simp, fun _ => ⟨_, rfl, Nat.lt_succ_self _, fun j u hu => by
    have : (⟨w.heap.size, 0, none⟩ : Addr).add j = ⟨w.heap.size, j, none⟩ := by
      unfold Addr.add; split
      · next h => rw [h]
      · simp
    rw [this, World.cell?_alloc_new]; simpa using hu⟩⟩
theorem own_slice {w : World} {B : Nat} {e : TypeId} {size n : Nat} {v : Value} {xs : List Value} (h : w.ownsRow B e size v n xs) : ∃ ao n' cap, v = .slice ao n' cap := by
  rcases h.2 with ⟨rfl, _⟩ | ⟨g, cap, cur, rfl, _⟩
  · exact ⟨_, _, _, rfl⟩
  · exact ⟨_, _, _, rfl⟩
theorem ints_one (l : List Int) : ∀ u ∈ ints l, u.oneCell' = true := by
  intro u hu
  simp only [ints, List.mem_map] at hu
  obtain ⟨x, _, rfl⟩ := hu
  rfl
theorem kept4 {w W w2 : World} {g : Nat} {row : Option Nat} {x0 x1 x2 x3 : Value} (hb : Below w.heap.size w W) (hgr : W.grownBy w2 row) (hg : g < w.heap.size) (hne : ∀ q, row = some q → g ≠ q)
    (n0 : w.cell? ⟨g, 0, none⟩ = some x0) (n1 : w.cell? ⟨g, 1, none⟩ = some x1) (n2 : w.cell? ⟨g, 2, none⟩ = some x2) (n3 : w.cell? ⟨g, 3, none⟩ = some x3) :
    w2.cell? ⟨g, 0, none⟩ = some x0 ∧ w2.cell? ⟨g, 1, none⟩ = some x1 ∧ w2.cell? ⟨g, 2, none⟩ = some x2 ∧ w2.cell? ⟨g, 3, none⟩ = some x3 := by
  have key : ∀ j, w2.cell? ⟨g, j, none⟩ = w.cell? ⟨g, j, none⟩ := fun j => by
    rw [World.cell?_of_block (w := W) (hgr.block g (Nat.lt_of_lt_of_le hg hb.size) (fun e => hne g e.symm rfl)), hb.cell hg]
  exact ⟨by rw [key]; exact n0, by rw [key]; exact n1, by rw [key]; exact n2, by rw [key]; exact n3⟩

theorem own_low {w : World} {B : Nat} {e : TypeId} {size n : Nat} {v : Value} {xs : List Value} (h : w.ownsRow B e size v n xs) {R : Nat} (hR : R < B) (j : Nat) (u : Value) : (w.setCell ⟨R, j, none⟩ u).ownsRow B e size v n xs := by
  refine h.kept (grown_set w R j u) ?_
  rcases hv : v.ownBlock with _ | g
  · exact .inl rfl
  · have := (own_typed h hv).2
    exact .inr (by intro e; injection e with e; omega)
theorem flat_get {α : Type} {c : Nat} {f : α → List Value} (hf : ∀ x, (f x).length = c) : ∀ (l : List α) (k j : Nat) (hk : k < l.length), j < c → (l.flatMap f)[k * c + j]? = (f l[k])[j]?
  | x :: l, 0, j, _, hj => by
    rw [List.flatMap_cons, List.getElem?_append_left (by rw [hf]; omega)]; simp
  | x :: l, k + 1, j, hk, hj => by
    have := flat_get hf l k j (by simpa using hk) hj
    rw [List.flatMap_cons, List.getElem?_append_right (by rw [hf, Nat.succ_mul]; omega), hf, show (k + 1) * c + j - c = k * c + j by rw [Nat.succ_mul]; omega, this]
    rfl
theorem own_get {w : World} {B : Nat} {e : TypeId} {size n : Nat} {v : Value} {xs : List Value} (h : w.ownsRow B e size v n xs) : ∃ A cap, v = .slice A n cap ∧ (0 < n → ∃ g, A = some ⟨g, 0, none⟩ ∧ g < w.heap.size ∧ ∀ j u, xs[j]? = some u → w.cell? ⟨g, j, none⟩ = some u) := by
  rcases h.2 with ⟨rfl, rfl⟩ | ⟨g, cap, cur, rfl, _, hg, _⟩
  · exact ⟨_, _, rfl, fun h => absurd h (by omega)⟩
  · refine ⟨_, _, rfl, fun _ => ⟨g, rfl, (Array.getElem?_eq_some_iff.1 hg).1, fun j u hu => ?_⟩⟩
    have := h.cells (g := g) rfl j u hu
    have e : (⟨g, 0, none⟩ : Addr).add j = ⟨g, j, none⟩ := by
      unfold Addr.add; split
      · next h => rw [h]
      · simp
    rwa [e] at this
theorem own_recs {α : Type} {w : World} {B : Nat} {e : TypeId} {c : Nat} {v : Value} {l : List α} {f : α → List Value} {g : α → Nat → Int} (h : w.ownsRow B e c v l.length (l.flatMap f)) (hf : ∀ x, (f x).length = c) (hg : ∀ x j, j < c → (f x)[j]? = some (.int .i64 (g x j))) : Recs w c g v l := by
  obtain ⟨A, cap, rfl, hc⟩ := own_get h
  refine ⟨A, cap, rfl, fun k hk => ?_⟩
  obtain ⟨b, rfl, hb, hcell⟩ := hc (by omega)
  refine ⟨b, 0, rfl, hb, fun j hj => ?_⟩
  rw [Nat.zero_add]
  exact hcell _ _ (by rw [flat_get hf l k j hk hj]; exact hg _ j hj)
theorem Blk.nilR {W : World} {R : Nat} (h : Blk W R [.slice none 0 0, .slice none 0 0, .slice none 0 0, .slice none 0 0]) : (∀ j, j < 4 → W.cell? ⟨R, j, none⟩ = some (.slice none 0 0)) ∧ ∀ j, j < 4 → W.frozen? ⟨R, j, none⟩ = false :=
  ⟨fun j hj => by match j, hj with
    | 0, _ => exact (h.2 0 (by simp)).1
    | 1, _ => exact (h.2 1 (by simp)).1
    | 2, _ => exact (h.2 2 (by simp)).1
    | 3, _ => exact (h.2 3 (by simp)).1, fun j hj => (h.2 j (by simpa using hj)).2⟩
end Go.Proofs.Ytbellnanikaffaa
