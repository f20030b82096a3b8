/- A problem that a call makes in memory of its own: its four rows, grown and kept (no call of the program). -/
import Derived.Test.YtneelmmikaefgaaBlk
import Derived.Test.YtneelmmikaefgaaMem
import Derived.BigRegion
namespace Go.Proofs.Ytneelmmikaefgaa
open Go.RowKit
set_option linter.unusedSimpArgs false

def carNums (c : Car) : List Int := [c.c, c.s, c.e]
def stopNums (c : Stop) : List Int := [c.d, c.o, c.c, c.s]
def pairNums (c : Pair) : List Int := [c.a, c.b]
def noProb : Prob := ⟨[], [], [], []⟩
def carCells (l : List Car) : List Value := l.flatMap fun c => ints (carNums c)
def stopCells (l : List Stop) : List Value := l.flatMap fun c => ints (stopNums c)
def pairCells (l : List Pair) : List Value := l.flatMap fun c => ints (pairNums c)
/-- a row of numbers that stands by itself: just as long as it is (RowAt), with any room behind it (RowSome) -/
def RowAt (W : World) (B : Nat) (u : Value) (r : List Int) : Prop := ∃ g, u = .slice (some ⟨g, 0, none⟩) r.length r.length ∧ B ≤ g ∧ Blk W g (ints r) ∧ Typed W g 3
def RowSome (W : World) (B : Nat) (u : Value) (r : List Int) : Prop := ∃ g cap, u = .slice (some ⟨g, 0, none⟩) r.length cap ∧ B ≤ g ∧ Blk W g (ints r) ∧ Typed W g 3 ∧ r.length ≤ cap
theorem RowAt.some {W : World} {B : Nat} {u : Value} {r : List Int} (h : RowAt W B u r) : RowSome W B u r := by
  obtain ⟨g, h1, h2, h3, h4⟩ := h; exact ⟨g, _, h1, h2, h3, h4, Nat.le_refl _⟩
structure Held (W : World) (B I : Nat) (i : Prob) (vc vs vp vt : Value) (us : List Value) : Prop where
  lt : B ≤ I
  box : W.heap[I]? = some (.cells #[vc, vs, vp, vt] 47 (0, 0))
  cars : W.ownsRow B 66 3 vc i.cars.length (carCells i.cars)
  stops : W.ownsRow B 68 4 vs i.stops.length (stopCells i.stops)
  pairs : W.ownsRow B 69 2 vp i.pairs.length (pairCells i.pairs)
  travel : W.ownsRow B 22 1 vt i.travel.length us
  rows : ∀ k (h : k < i.travel.length), ∃ u, us[k]? = some u ∧ RowSome W B u i.travel[k]
def HeldSome (W : World) (B I : Nat) (i : Prob) : Prop := ∃ vc vs vp vt us, Held W B I i vc vs vp vt us
theorem own_typed {w : World} {B : Nat} {e : TypeId} {size n : Nat} {v : Value} {xs : List Value} (h : w.ownsRow B e size v n xs) {g : Nat} (hg : v.ownBlock = some g) : Typed w g e ∧ B ≤ g := by
  rcases h.2 with ⟨rfl, _⟩ | ⟨g', cap, cur, rfl, hb, hh, _⟩
  · simp [Value.ownBlock] at hg
  · simp [Value.ownBlock] at hg
    subst hg
    exact ⟨⟨cur, hh⟩, hb⟩
theorem typed_ne {w : World} {g g' : Nat} {e e' : TypeId} (h : Typed w g e) (h' : Typed w g' e') (hne : e ≠ e') : g ≠ g' := by
  rintro rfl
  obtain ⟨c, h⟩ := h
  obtain ⟨c', h'⟩ := h'
  rw [h] at h'
  injection h' with h'
  injection h' with _ h' _
  exact hne h'
theorem own_ne {w : World} {B B' : Nat} {e e' : TypeId} {size size' n n' : Nat} {v v' : Value} {xs xs' : List Value} (h : w.ownsRow B e size v n xs) (h' : w.ownsRow B' e' size' v' n' xs') (hne : e ≠ e') : v.ownBlock = none ∨ v.ownBlock ≠ v'.ownBlock := by
  rcases hv : v.ownBlock with _ | g
  · exact .inl rfl
  · refine .inr fun hv' => ?_
    exact typed_ne (own_typed h hv).1 (own_typed h' hv'.symm).1 hne rfl
theorem RowSome.grown {W W' : World} {B : Nat} {u : Value} {r : List Int} {row : Option Nat} (h : RowSome W B u r) (hg : W.grownBy W' row) (hrow : ∀ g, row = some g → ∃ t, Typed W g t ∧ t ≠ 3) : RowSome W' B u r := by
  obtain ⟨g, cap, rfl, hB, hbl, hty, hcp⟩ := h
  have hlt := hbl.1
  have he : W'.heap[g]? = W.heap[g]? := hg.block g hlt (fun e => by
    obtain ⟨t, ht, hne⟩ := hrow g e.symm
    exact typed_ne ht hty hne rfl)
  obtain ⟨cur, hc⟩ := hty
  exact ⟨g, cap, rfl, hB, hbl.heap he hg.size, ⟨cur, by rw [he]; exact hc⟩, hcp⟩
theorem RowSome.below {W W' : World} {B : Nat} {u : Value} {r : List Int} (h : RowSome W B u r) (hb : Below W.heap.size W W') : RowSome W' B u r := by
  obtain ⟨g, cap, rfl, hB, hbl, hty, hcp⟩ := h
  exact ⟨g, cap, rfl, hB, hbl.below hb, hty.below hb, hcp⟩
theorem Held.below {W W' : World} {B I : Nat} {i : Prob} {vc vs vp vt : Value} {us : List Value} (h : Held W B I i vc vs vp vt us) (hb : Below W.heap.size W W') : Held W' B I i vc vs vp vt us :=
  ⟨h.lt, by rw [hb.block I (Array.getElem?_eq_some_iff.1 h.box).1]; exact h.box, own_below h.cars hb, own_below h.stops hb, own_below h.pairs hb, own_below h.travel hb, fun k hk => by
    obtain ⟨u, h1, h2⟩ := h.rows k hk; exact ⟨u, h1, h2.below hb⟩⟩
theorem int_info : (Try.prog.info? 3).map (fun i => (i.zero, i.size, i.bytes)) = some (some (.int .i64 0), 1, 8) := by kernel_rfl
theorem car_info : (Try.prog.info? 66).map (fun i => (i.zero, i.size, i.bytes)) = some (some (.agg #[.int .i64 0, .int .i64 0, .int .i64 0]), 3, 24) := by kernel_rfl
theorem stop_info : (Try.prog.info? 68).map (fun i => (i.zero, i.size, i.bytes)) = some (some (.agg #[.int .i64 0, .int .i64 0, .int .i64 0, .int .i64 0]), 4, 32) := by kernel_rfl
theorem pair_info : (Try.prog.info? 69).map (fun i => (i.zero, i.size, i.bytes)) = some (some (.agg #[.int .i64 0, .int .i64 0]), 2, 16) := by kernel_rfl
theorem row_info : (Try.prog.info? 22).map (fun i => (i.zero, i.size, i.bytes)) = some (some (.slice none 0 0), 1, 24) := by kernel_rfl

theorem own_keep {w w' : World} {B : Nat} {e : TypeId} {size n : Nat} {v : Value} {xs : List Value} {row : Option Nat} (h : w.ownsRow B e size v n xs) (hg : w.grownBy w' row) (hrow : ∀ g, row = some g → ∃ t, Typed w g t ∧ t ≠ e) : w'.ownsRow B e size v n xs := by
  refine h.kept hg ?_
  rcases hv : v.ownBlock with _ | g
  · exact .inl rfl
  · refine .inr fun e2 => ?_
    obtain ⟨t, ht, hne⟩ := hrow g e2.symm
    exact typed_ne (own_typed h hv).1 ht (Ne.symm hne) rfl
theorem grown_set (w : World) (I k : Nat) (u : Value) : w.grownBy (w.setCell ⟨I, k, none⟩ u) (some I) :=
  ⟨rfl, rfl, rfl, by simp [World.setCell], fun j _ hj => Below.heap_setCell _ _ _ _ (fun e => hj (by simp [e]))⟩
theorem grown_typed {w w' : World} {g : Nat} {t : TypeId} {row : Option Nat} (h : Typed w g t) (hg : w.grownBy w' row) (hrow : some g ≠ row) : Typed w' g t := by
  obtain ⟨cur, hc⟩ := h
  exact ⟨cur, by rw [hg.block g (Array.getElem?_eq_some_iff.1 hc).1 hrow]; exact hc⟩
theorem reads_new (w : World) (l : List Value) (t : TypeId) : Reads (w.alloc (.cells l.toArray t)) (w.heap.size + 1) l.length (some ⟨w.heap.size, 0, none⟩) 1 l :=
  ⟨by simp, fun _ => ⟨_, rfl, Nat.lt_succ_self _, fun j u hu => by
    have : (⟨w.heap.size, 0, none⟩ : Addr).add j = ⟨w.heap.size, j, none⟩ := by
      unfold Addr.add; split
      · next h => rw [h]
      · simp
    rw [this, World.cell?_alloc_new]; simpa using hu⟩⟩
theorem Held.typedI {W : World} {B I : Nat} {i : Prob} {vc vs vp vt : Value} {us : List Value} (h : Held W B I i vc vs vp vt us) : Typed W I 47 := ⟨_, h.box⟩
theorem Held.box_car {W W' : World} {B I : Nat} {i : Prob} {vc vs vp vt : Value} {us : List Value} (h : Held W B I i vc vs vp vt us) (hg : W.grownBy W' vc.ownBlock) : W'.heap[I]? = some (.cells #[vc, vs, vp, vt] 47 (0, 0)) := by
  rw [hg.block I (Array.getElem?_eq_some_iff.1 h.box).1 (fun e => typed_ne (own_typed h.cars e.symm).1 h.typedI (by decide) rfl)]
  exact h.box
theorem Held.put_car {W W' : World} {B I : Nat} {i : Prob} {vc vs vp vt v' : Value} {us : List Value} (h : Held W B I i vc vs vp vt us) (x : Car) (hown : W'.ownsRow B 66 3 v' (i.cars.length + 1) (carCells i.cars ++ ints (carNums x))) (hg : W.grownBy W' vc.ownBlock) :
    HeldSome (W'.setCell ⟨I, 0, none⟩ v') B I { i with cars := i.cars ++ [x] } := by
  have hI := h.typedI
  have hb := h.box_car hg
  have hI' : Typed W' I 47 := ⟨_, hb⟩
  have hrow : ∀ e, e ≠ 66 → ∀ g, vc.ownBlock = some g → ∃ t, Typed W g t ∧ t ≠ e := fun e he g hgv => ⟨66, (own_typed h.cars hgv).1, he.symm⟩
  have hrow2 : ∀ e, e ≠ 47 → ∀ g, some I = some g → ∃ t, Typed W' g t ∧ t ≠ e := fun e he g hgv => by
    injection hgv with hgv; subst hgv; exact ⟨47, hI', he.symm⟩
  have hs := grown_set W' I 0 v'
  refine ⟨v', vs, vp, vt, us, h.lt, ?_, ?_, ?_, ?_, ?_, ?_⟩
  · simp [World.setCell, Array.getElem?_modify, hb]
  · have := own_keep hown hs (hrow2 _ (by decide))
    simpa [carCells, List.flatMap_append] using this
  · exact own_keep (own_keep h.stops hg (hrow _ (by decide))) hs (hrow2 _ (by decide))
  · exact own_keep (own_keep h.pairs hg (hrow _ (by decide))) hs (hrow2 _ (by decide))
  · exact own_keep (own_keep h.travel hg (hrow _ (by decide))) hs (hrow2 _ (by decide))
  · intro k hk
    obtain ⟨u, h1, h2⟩ := h.rows k hk
    exact ⟨u, h1, (h2.grown hg (hrow _ (by decide))).grown hs (hrow2 _ (by decide))⟩
theorem Held.box_stop {W W' : World} {B I : Nat} {i : Prob} {vc vs vp vt : Value} {us : List Value} (h : Held W B I i vc vs vp vt us) (hg : W.grownBy W' vs.ownBlock) : W'.heap[I]? = some (.cells #[vc, vs, vp, vt] 47 (0, 0)) := by
  rw [hg.block I (Array.getElem?_eq_some_iff.1 h.box).1 (fun e => typed_ne (own_typed h.stops e.symm).1 h.typedI (by decide) rfl)]
  exact h.box
theorem Held.put_stop {W W' : World} {B I : Nat} {i : Prob} {vc vs vp vt v' : Value} {us : List Value} (h : Held W B I i vc vs vp vt us) (x : Stop) (hown : W'.ownsRow B 68 4 v' (i.stops.length + 1) (stopCells i.stops ++ ints (stopNums x))) (hg : W.grownBy W' vs.ownBlock) :
    HeldSome (W'.setCell ⟨I, 1, none⟩ v') B I { i with stops := i.stops ++ [x] } := by
  have hI := h.typedI
  have hb := h.box_stop hg
  have hI' : Typed W' I 47 := ⟨_, hb⟩
  have hrow : ∀ e, e ≠ 68 → ∀ g, vs.ownBlock = some g → ∃ t, Typed W g t ∧ t ≠ e := fun e he g hgv => ⟨68, (own_typed h.stops hgv).1, he.symm⟩
  have hrow2 : ∀ e, e ≠ 47 → ∀ g, some I = some g → ∃ t, Typed W' g t ∧ t ≠ e := fun e he g hgv => by
    injection hgv with hgv; subst hgv; exact ⟨47, hI', he.symm⟩
  have hs := grown_set W' I 1 v'
  refine ⟨vc, v', vp, vt, us, h.lt, ?_, ?_, ?_, ?_, ?_, ?_⟩
  · simp [World.setCell, Array.getElem?_modify, hb]
  · exact own_keep (own_keep h.cars hg (hrow _ (by decide))) hs (hrow2 _ (by decide))
  · have := own_keep hown hs (hrow2 _ (by decide))
    simpa [stopCells, List.flatMap_append] using this
  · exact own_keep (own_keep h.pairs hg (hrow _ (by decide))) hs (hrow2 _ (by decide))
  · exact own_keep (own_keep h.travel hg (hrow _ (by decide))) hs (hrow2 _ (by decide))
  · intro k hk
    obtain ⟨u, h1, h2⟩ := h.rows k hk
    exact ⟨u, h1, (h2.grown hg (hrow _ (by decide))).grown hs (hrow2 _ (by decide))⟩
theorem Held.box_pair {W W' : World} {B I : Nat} {i : Prob} {vc vs vp vt : Value} {us : List Value} (h : Held W B I i vc vs vp vt us) (hg : W.grownBy W' vp.ownBlock) : W'.heap[I]? = some (.cells #[vc, vs, vp, vt] 47 (0, 0)) := by
  rw [hg.block I (Array.getElem?_eq_some_iff.1 h.box).1 (fun e => typed_ne (own_typed h.pairs e.symm).1 h.typedI (by decide) rfl)]
  exact h.box
theorem Held.put_pair {W W' : World} {B I : Nat} {i : Prob} {vc vs vp vt v' : Value} {us : List Value} (h : Held W B I i vc vs vp vt us) (x : Pair) (hown : W'.ownsRow B 69 2 v' (i.pairs.length + 1) (pairCells i.pairs ++ ints (pairNums x))) (hg : W.grownBy W' vp.ownBlock) :
    HeldSome (W'.setCell ⟨I, 2, none⟩ v') B I { i with pairs := i.pairs ++ [x] } := by
  have hI := h.typedI
  have hb := h.box_pair hg
  have hI' : Typed W' I 47 := ⟨_, hb⟩
  have hrow : ∀ e, e ≠ 69 → ∀ g, vp.ownBlock = some g → ∃ t, Typed W g t ∧ t ≠ e := fun e he g hgv => ⟨69, (own_typed h.pairs hgv).1, he.symm⟩
  have hrow2 : ∀ e, e ≠ 47 → ∀ g, some I = some g → ∃ t, Typed W' g t ∧ t ≠ e := fun e he g hgv => by
    injection hgv with hgv; subst hgv; exact ⟨47, hI', he.symm⟩
  have hs := grown_set W' I 2 v'
  refine ⟨vc, vs, v', vt, us, h.lt, ?_, ?_, ?_, ?_, ?_, ?_⟩
  · simp [World.setCell, Array.getElem?_modify, hb]
  · exact own_keep (own_keep h.cars hg (hrow _ (by decide))) hs (hrow2 _ (by decide))
  · exact own_keep (own_keep h.stops hg (hrow _ (by decide))) hs (hrow2 _ (by decide))
  · have := own_keep hown hs (hrow2 _ (by decide))
    simpa [pairCells, List.flatMap_append] using this
  · exact own_keep (own_keep h.travel hg (hrow _ (by decide))) hs (hrow2 _ (by decide))
  · intro k hk
    obtain ⟨u, h1, h2⟩ := h.rows k hk
    exact ⟨u, h1, (h2.grown hg (hrow _ (by decide))).grown hs (hrow2 _ (by decide))⟩
theorem Held.box_row {W W' : World} {B I : Nat} {i : Prob} {vc vs vp vt : Value} {us : List Value} (h : Held W B I i vc vs vp vt us) (hg : W.grownBy W' vt.ownBlock) : W'.heap[I]? = some (.cells #[vc, vs, vp, vt] 47 (0, 0)) := by
  rw [hg.block I (Array.getElem?_eq_some_iff.1 h.box).1 (fun e => typed_ne (own_typed h.travel e.symm).1 h.typedI (by decide) rfl)]
  exact h.box
theorem Held.put_row {W W' : World} {B I : Nat} {i : Prob} {vc vs vp vt v' : Value} {us : List Value} (h : Held W B I i vc vs vp vt us) (r : List Int) (u : Value) (hr : RowSome W B u r) (hown : W'.ownsRow B 22 1 v' (i.travel.length + 1) (us ++ [u])) (hg : W.grownBy W' vt.ownBlock) :
    HeldSome (W'.setCell ⟨I, 3, none⟩ v') B I { i with travel := i.travel ++ [r] } := by
  have hI := h.typedI
  have hb := h.box_row hg
  have hI' : Typed W' I 47 := ⟨_, hb⟩
  have hrow : ∀ e, e ≠ 22 → ∀ g, vt.ownBlock = some g → ∃ t, Typed W g t ∧ t ≠ e := fun e he g hgv => ⟨22, (own_typed h.travel hgv).1, he.symm⟩
  have hrow2 : ∀ e, e ≠ 47 → ∀ g, some I = some g → ∃ t, Typed W' g t ∧ t ≠ e := fun e he g hgv => by
    injection hgv with hgv; subst hgv; exact ⟨47, hI', he.symm⟩
  have hs := grown_set W' I 3 v'
  refine ⟨vc, vs, vp, v', us ++ [u], h.lt, ?_, ?_, ?_, ?_, ?_, ?_⟩
  · simp [World.setCell, Array.getElem?_modify, hb]
  · exact own_keep (own_keep h.cars hg (hrow _ (by decide))) hs (hrow2 _ (by decide))
  · exact own_keep (own_keep h.stops hg (hrow _ (by decide))) hs (hrow2 _ (by decide))
  · exact own_keep (own_keep h.pairs hg (hrow _ (by decide))) hs (hrow2 _ (by decide))
  · have := own_keep hown hs (hrow2 _ (by decide))
    simpa using this
  · intro k hk
    have hlen : us.length = i.travel.length := by have := h.travel.1; simpa using this
    by_cases hlt : k < i.travel.length
    · obtain ⟨u2, h1, h2⟩ := h.rows k hlt
      refine ⟨u2, by rw [List.getElem?_append_left (by omega)]; exact h1, ?_⟩
      rw [List.getElem_append_left hlt]
      exact (h2.grown hg (hrow _ (by decide))).grown hs (hrow2 _ (by decide))
    · simp at hk
      obtain rfl : k = i.travel.length := by omega
      refine ⟨u, by rw [List.getElem?_append_right (by omega), hlen]; simp, ?_⟩
      rw [List.getElem_append_right (by omega)]
      simpa using (hr.grown hg (hrow _ (by decide))).grown hs (hrow2 _ (by decide))
theorem own_slice {w : World} {B : Nat} {e : TypeId} {size n : Nat} {v : Value} {xs : List Value} (h : w.ownsRow B e size v n xs) : ∃ ao n' cap, v = .slice ao n' cap := by
  rcases h.2 with ⟨rfl, _⟩ | ⟨g, cap, cur, rfl, _⟩
  · exact ⟨_, _, _, rfl⟩
  · exact ⟨_, _, _, rfl⟩
theorem ints_one (l : List Int) : ∀ u ∈ ints l, u.oneCell' = true := by
  intro u hu
  simp only [ints, List.mem_map] at hu
  obtain ⟨x, _, rfl⟩ := hu
  rfl
theorem kept4 {w W w2 : World} {g : Nat} {row : Option Nat} {x0 x1 x2 x3 : Value} (hb : Below w.heap.size w W) (hgr : W.grownBy w2 row) (hg : g < w.heap.size) (hne : ∀ q, row = some q → g ≠ q)
    (n0 : w.cell? ⟨g, 0, none⟩ = some x0) (n1 : w.cell? ⟨g, 1, none⟩ = some x1) (n2 : w.cell? ⟨g, 2, none⟩ = some x2) (n3 : w.cell? ⟨g, 3, none⟩ = some x3) :
    w2.cell? ⟨g, 0, none⟩ = some x0 ∧ w2.cell? ⟨g, 1, none⟩ = some x1 ∧ w2.cell? ⟨g, 2, none⟩ = some x2 ∧ w2.cell? ⟨g, 3, none⟩ = some x3 := by
  have key : ∀ j, w2.cell? ⟨g, j, none⟩ = w.cell? ⟨g, j, none⟩ := fun j => by
    rw [World.cell?_of_block (w := W) (hgr.block g (Nat.lt_of_lt_of_le hg hb.size) (fun e => hne g e.symm rfl)), hb.cell hg]
  exact ⟨by rw [key]; exact n0, by rw [key]; exact n1, by rw [key]; exact n2, by rw [key]; exact n3⟩

theorem own_low {w : World} {B : Nat} {e : TypeId} {size n : Nat} {v : Value} {xs : List Value} (h : w.ownsRow B e size v n xs) {R : Nat} (hR : R < B) (j : Nat) (u : Value) : (w.setCell ⟨R, j, none⟩ u).ownsRow B e size v n xs := by
  refine h.kept (grown_set w R j u) ?_
  rcases hv : v.ownBlock with _ | g
  · exact .inl rfl
  · have := (own_typed h hv).2
    exact .inr (by intro e; injection e with e; omega)
theorem Held.low {W : World} {B I : Nat} {i : Prob} {vc vs vp vt : Value} {us : List Value} (h : Held W B I i vc vs vp vt us) {R : Nat} (hR : R < B) (j : Nat) (u : Value) : Held (W.setCell ⟨R, j, none⟩ u) B I i vc vs vp vt us := by
  have hl := h.lt
  refine ⟨h.lt, by rw [Below.heap_setCell _ _ _ _ (by simp; omega)]; exact h.box, own_low h.cars hR j u, own_low h.stops hR j u, own_low h.pairs hR j u, own_low h.travel hR j u, fun k hk => ?_⟩
  obtain ⟨x, h1, g, cap, rfl, hg, hbl, hty, hcp⟩ := h.rows k hk
  exact ⟨_, h1, g, cap, rfl, hg, hbl.other (by simp; omega) _, hty.setCell _ _ _, hcp⟩
theorem HeldSome.below {W W' : World} {B I : Nat} {i : Prob} (h : HeldSome W B I i) (hb : Below W.heap.size W W') : HeldSome W' B I i := by
  obtain ⟨vc, vs, vp, vt, us, h⟩ := h
  exact ⟨vc, vs, vp, vt, us, h.below hb⟩
theorem flat_get {α : Type} {c : Nat} {f : α → List Value} (hf : ∀ x, (f x).length = c) : ∀ (l : List α) (k j : Nat) (hk : k < l.length), j < c → (l.flatMap f)[k * c + j]? = (f l[k])[j]?
  | x :: l, 0, j, _, hj => by
    rw [List.flatMap_cons, List.getElem?_append_left (by rw [hf]; omega)]; simp
  | x :: l, k + 1, j, hk, hj => by
    have := flat_get hf l k j (by simpa using hk) hj
    rw [List.flatMap_cons, List.getElem?_append_right (by rw [hf, Nat.succ_mul]; omega), hf, show (k + 1) * c + j - c = k * c + j by rw [Nat.succ_mul]; omega, this]
    rfl
theorem own_get {w : World} {B : Nat} {e : TypeId} {size n : Nat} {v : Value} {xs : List Value} (h : w.ownsRow B e size v n xs) : ∃ A cap, v = .slice A n cap ∧ (0 < n → ∃ g, A = some ⟨g, 0, none⟩ ∧ g < w.heap.size ∧ ∀ j u, xs[j]? = some u → w.cell? ⟨g, j, none⟩ = some u) := by
  rcases h.2 with ⟨rfl, rfl⟩ | ⟨g, cap, cur, rfl, _, hg, _⟩
  · exact ⟨_, _, rfl, fun h => absurd h (by omega)⟩
  · refine ⟨_, _, rfl, fun _ => ⟨g, rfl, (Array.getElem?_eq_some_iff.1 hg).1, fun j u hu => ?_⟩⟩
    have := h.cells (g := g) rfl j u hu
    have e : (⟨g, 0, none⟩ : Addr).add j = ⟨g, j, none⟩ := by
      unfold Addr.add; split
      · next h => rw [h]
      · simp
    rwa [e] at this
theorem own_recs {α : Type} {w : World} {B : Nat} {e : TypeId} {c : Nat} {v : Value} {l : List α} {f : α → List Value} {g : α → Nat → Int} (h : w.ownsRow B e c v l.length (l.flatMap f)) (hf : ∀ x, (f x).length = c) (hg : ∀ x j, j < c → (f x)[j]? = some (.int .i64 (g x j))) : Recs w c g v l := by
  obtain ⟨A, cap, rfl, hc⟩ := own_get h
  refine ⟨A, cap, rfl, fun k hk => ?_⟩
  obtain ⟨b, rfl, hb, hcell⟩ := hc (by omega)
  refine ⟨b, 0, rfl, hb, fun j hj => ?_⟩
  rw [Nat.zero_add]
  exact hcell _ _ (by rw [flat_get hf l k j hk hj]; exact hg _ j hj)
theorem Held.lies {W : World} {B I : Nat} {i : Prob} {vc vs vp vt : Value} {us : List Value} (h : Held W B I i vc vs vp vt us) : Lies W (.agg #[vc, vs, vp, vt]) i := by
  refine ⟨vc, vs, vp, vt, rfl, ?_, ?_, ?_, ?_⟩
  · exact own_recs h.cars (fun x => rfl) (fun x j hj => by match j, hj with | 0, _ | 1, _ | 2, _ => rfl)
  · exact own_recs h.stops (fun x => rfl) (fun x j hj => by match j, hj with | 0, _ | 1, _ | 2, _ | 3, _ => rfl)
  · exact own_recs h.pairs (fun x => rfl) (fun x j hj => by match j, hj with | 0, _ | 1, _ => rfl)
  · obtain ⟨A, cap, rfl, hc⟩ := own_get h.travel
    refine ⟨A, cap, rfl, fun k hk => ?_⟩
    obtain ⟨b, rfl, hb, hcell⟩ := hc (by omega)
    obtain ⟨u, hu, g, cap', rfl, _, hbl, _⟩ := h.rows k hk
    refine ⟨b, 0, _, rfl, hb, by rw [Nat.zero_add]; exact hcell _ _ hu, ?_⟩
    exact hbl.recs 1 num_ i.travel[k] _ (fun k' hk' j hj => by
      obtain rfl : j = 0 := by omega
      simp [ints, num_, hk'])
theorem held_start (w : World) : HeldSome (w.alloc (.cells #[.slice none 0 0, .slice none 0 0, .slice none 0 0, .slice none 0 0] 47)) w.heap.size w.heap.size noProb :=
  ⟨_, _, _, _, [], Nat.le_refl _, by unfold World.alloc; simp, ⟨rfl, .inl ⟨rfl, rfl⟩⟩, ⟨rfl, .inl ⟨rfl, rfl⟩⟩, ⟨rfl, .inl ⟨rfl, rfl⟩⟩, ⟨rfl, .inl ⟨rfl, rfl⟩⟩, fun k hk => absurd hk (by simp [noProb])⟩
theorem Blk.nilR {W : World} {R : Nat} (h : Blk W R [.slice none 0 0, .slice none 0 0, .slice none 0 0, .slice none 0 0]) : (∀ j, j < 4 → W.cell? ⟨R, j, none⟩ = some (.slice none 0 0)) ∧ ∀ j, j < 4 → W.frozen? ⟨R, j, none⟩ = false :=
  ⟨fun j hj => by match j, hj with
    | 0, _ => exact (h.2 0 (by simp)).1
    | 1, _ => exact (h.2 1 (by simp)).1
    | 2, _ => exact (h.2 2 (by simp)).1
    | 3, _ => exact (h.2 3 (by simp)).1, fun j hj => (h.2 j (by simpa using hj)).2⟩
end Go.Proofs.Ytneelmmikaefgaa
