/- A trip whose two rows are appended to, in either order, ahead of the stores. -/
import Derived.Test.YtcllnfhjbfmomaaTripBox
namespace Go.Proofs.Ytcllnfhjbfmomaa
open Go.RowKit
set_option linter.unusedSimpArgs false

structure Stt (W : World) (T : Nat) (ty : TypeId) (va vl v1 v2 : Value) (l1 l2 : List Int) (c h : Int) : Prop where
  box : W.heap[T]? = some (.cells #[va, vl, .int .i64 c, .int .i64 h] ty (0, 0))
  o1 : W.ownsRow T 3 1 v1 l1.length (ints l1)
  o2 : W.ownsRow T 3 1 v2 l2.length (ints l2)
  dis : ∀ g, v1.ownBlock = some g → v2.ownBlock ≠ some g
  typ : ty ≠ 3
theorem TB.stt {W : World} {T : Nat} {ty : TypeId} {va vl : Value} {arr load : List Int} {c h : Int} (H : TB W T T ty va vl arr load c h) : Stt W T ty va vl va vl arr load c h := ⟨H.box, H.arr, H.load, H.dis, H.typ⟩
section
variable {W W2 : World} {T : Nat} {ty : TypeId} {va vl v1 v2 v' : Value} {l1 l2 : List Int} {c h x : Int}
theorem Stt.lt (H : Stt W T ty va vl v1 v2 l1 l2 c h) : T < W.heap.size := (Array.getElem?_eq_some_iff.1 H.box).1
theorem Stt.typed (H : Stt W T ty va vl v1 v2 l1 l2 c h) : Typed W T ty := ⟨_, H.box⟩
theorem Stt.below (H : Stt W T ty va vl v1 v2 l1 l2 c h) (hb : Below W.heap.size W W2) : Stt W2 T ty va vl v1 v2 l1 l2 c h :=
  ⟨by rw [hb.block T H.lt]; exact H.box, own_below H.o1 hb, own_below H.o2 hb, H.dis, H.typ⟩
theorem Stt.cells (H : Stt W T ty va vl v1 v2 l1 l2 c h) : W.cell? ⟨T, 0, none⟩ = some va ∧ W.cell? ⟨T, 1, none⟩ = some vl ∧ W.cell? ⟨T, 2, none⟩ = some (.int .i64 c) :=
  ⟨by rw [Lib.cell_of_heap H.box]; rfl, by rw [Lib.cell_of_heap H.box]; rfl, by rw [Lib.cell_of_heap H.box]; rfl⟩
theorem Stt.thaw (H : Stt W T ty va vl v1 v2 l1 l2 c h) (j : Nat) : W.frozen? ⟨T, j, none⟩ = false := Lib.frozen_of_heap H.box j
theorem Stt.app1 (H : Stt W T ty va vl v1 v2 l1 l2 c h) (hown : W2.ownsRow T 3 1 v' (l1.length + 1) (ints l1 ++ [.int .i64 x])) (hg : W.grownBy W2 v1.ownBlock) (hob : v'.ownBlock = v1.ownBlock ∨ v'.ownBlock = some W.heap.size) :
    Stt W2 T ty va vl v' v2 (l1 ++ [x]) l2 c h := by
  refine ⟨?_, by simpa [ints] using hown, H.o2.kept hg ?_, fun g hv hl => ?_, H.typ⟩
  · rw [hg.block T H.lt (fun e => typed_ne (own_typed H.o1 e.symm).1 H.typed (Ne.symm H.typ) rfl)]; exact H.box
  · rcases hv : v2.ownBlock with _ | g
    · exact .inl rfl
    · exact .inr fun e => H.dis g e.symm hv
  · rcases hob with e | e
    · exact H.dis g (by rw [← e]; exact hv) hl
    · rw [e] at hv; injection hv with hv
      have := own_lt H.o2 hl
      omega
theorem Stt.app2 (H : Stt W T ty va vl v1 v2 l1 l2 c h) (hown : W2.ownsRow T 3 1 v' (l2.length + 1) (ints l2 ++ [.int .i64 x])) (hg : W.grownBy W2 v2.ownBlock) (hob : v'.ownBlock = v2.ownBlock ∨ v'.ownBlock = some W.heap.size) :
    Stt W2 T ty va vl v1 v' l1 (l2 ++ [x]) c h := by
  refine ⟨?_, H.o1.kept hg ?_, by simpa [ints] using hown, fun g hv hl => ?_, H.typ⟩
  · rw [hg.block T H.lt (fun e => typed_ne (own_typed H.o2 e.symm).1 H.typed (Ne.symm H.typ) rfl)]; exact H.box
  · rcases hv : v1.ownBlock with _ | g
    · exact .inl rfl
    · exact .inr fun e => H.dis g hv e.symm
  · rcases hob with e | e
    · exact H.dis g hv (by rw [← e]; exact hl)
    · rw [e] at hl; injection hl with hl
      have := own_lt H.o1 hv
      omega
theorem Stt.fin (H : Stt W T ty va vl v1 v2 l1 l2 c h) (y : Int) : TB (((W.setCell ⟨T, 0, none⟩ v1).setCell ⟨T, 1, none⟩ v2).setCell ⟨T, 2, none⟩ (.int .i64 y)) T T ty v1 v2 l1 l2 y h := by
  have hrow : ∀ (W : World), Typed W T ty → ∀ g, some T = some g → ∃ t, Typed W g t ∧ t ≠ 3 := fun W hT g hgv => by
    injection hgv with hgv; subst hgv; exact ⟨ty, hT, H.typ⟩
  have t0 := H.typed
  have t1 := t0.setCell T 0 v1
  have t2 := t1.setCell T 1 v2
  refine ⟨by simp [World.setCell, Array.getElem?_modify, H.box], ?_, ?_, H.dis, H.typ⟩
  · exact own_keep (own_keep (own_keep H.o1 (grown_set _ _ _ _) (hrow _ t0)) (grown_set _ _ _ _) (hrow _ t1)) (grown_set _ _ _ _) (hrow _ t2)
  · exact own_keep (own_keep (own_keep H.o2 (grown_set _ _ _ _) (hrow _ t0)) (grown_set _ _ _ _) (hrow _ t1)) (grown_set _ _ _ _) (hrow _ t2)
/-- a slice of one number that is about to be appended -/
structure Sl (W : World) (g : Nat) (x : Int) (v1 v2 : Value) : Prop where
  lt : g < W.heap.size
  cell : W.cell? ⟨g, 0, none⟩ = some (.int .i64 x)
  n1 : v1.ownBlock ≠ some g
  n2 : v2.ownBlock ≠ some g
variable {g : Nat} {z : Int}
theorem sl_new (H : Stt W T ty va vl v1 v2 l1 l2 c h) (z : Int) : Sl (W.alloc (.cells #[.int .i64 z] 3)) W.heap.size z v1 v2 :=
  ⟨by simp, by simp, fun e => Nat.lt_irrefl _ (own_lt H.o1 e), fun e => Nat.lt_irrefl _ (own_lt H.o2 e)⟩
theorem Sl.below (s : Sl W g z v1 v2) (hb : Below W.heap.size W W2) : Sl W2 g z v1 v2 := ⟨Nat.lt_of_lt_of_le s.lt hb.size, by rw [hb.cell s.lt]; exact s.cell, s.n1, s.n2⟩
theorem Sl.app1 (s : Sl W g z v1 v2) (hg : W.grownBy W2 v1.ownBlock) (hob : v'.ownBlock = v1.ownBlock ∨ v'.ownBlock = some W.heap.size) : Sl W2 g z v' v2 :=
  ⟨Nat.lt_of_lt_of_le s.lt hg.size, by rw [World.cell?_of_block (w := W) (hg.block g s.lt (fun e => s.n1 e.symm))]; exact s.cell, fun e => by
    rcases hob with h | h
    · exact s.n1 (by rw [← h]; exact e)
    · rw [h] at e; injection e with e; have := s.lt; omega, s.n2⟩
theorem Sl.app2 (s : Sl W g z v1 v2) (hg : W.grownBy W2 v2.ownBlock) (hob : v'.ownBlock = v2.ownBlock ∨ v'.ownBlock = some W.heap.size) : Sl W2 g z v1 v' :=
  ⟨Nat.lt_of_lt_of_le s.lt hg.size, by rw [World.cell?_of_block (w := W) (hg.block g s.lt (fun e => s.n2 e.symm))]; exact s.cell, s.n1, fun e => by
    rcases hob with h | h
    · exact s.n2 (by rw [← h]; exact e)
    · rw [h] at e; injection e with e; have := s.lt; omega⟩
theorem Sl.reads (s : Sl W g z v1 v2) : Reads W W.heap.size 1 (some ⟨g, 0, none⟩) 1 [.int .i64 z] :=
  ⟨by simp, fun _ => ⟨_, rfl, s.lt, fun j u hu => by
    match j, hu with
    | 0, hu =>
      simp at hu
      subst hu
      have : (⟨g, 0, none⟩ : Addr).add 0 = ⟨g, 0, none⟩ := by unfold Addr.add; simp
      rw [this]; exact s.cell⟩⟩
end
theorem tb_from (w : World) {ty : TypeId} (h : ty ≠ 3) (S : Nat) (x : Int) : TB (w.alloc (.cells #[.slice none 0 0, .slice none 0 0, .int .i64 0, .int .i64 x] ty)) S w.heap.size ty (.slice none 0 0) (.slice none 0 0) [] [] 0 x :=
  ⟨by unfold World.alloc; simp, ⟨rfl, .inl ⟨rfl, rfl⟩⟩, ⟨rfl, .inl ⟨rfl, rfl⟩⟩, fun g hg => (by cases hg), h⟩
end Go.Proofs.Ytcllnfhjbfmomaa
