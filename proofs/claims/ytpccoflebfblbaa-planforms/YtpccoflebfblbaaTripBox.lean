/- A trip that a call makes in a variable: two rows of its own, two numbers. -/
import Derived.Test.YtpccoflebfblbaaOwn
namespace Go.Proofs.Ytpccoflebfblbaa
open Go.RowKit
set_option linter.unusedSimpArgs false

structure TB (W : World) (S T : Nat) (ty : TypeId) (va vl : Value) (arr load : List Int) (c h : Int) : Prop where
  box : W.heap[T]? = some (.cells #[va, vl, .int .i64 c, .int .i64 h] ty (0, 0))
  arr : W.ownsRow S 3 1 va arr.length (ints arr)
  load : W.ownsRow S 3 1 vl load.length (ints load)
  dis : ∀ g, va.ownBlock = some g → vl.ownBlock ≠ some g
  typ : ty ≠ 3
theorem TB.lt {W : World} {S T : Nat} {ty : TypeId} {va vl : Value} {arr load : List Int} {c h : Int} (H : TB W S T ty va vl arr load c h) : T < W.heap.size := (Array.getElem?_eq_some_iff.1 H.box).1
theorem TB.typed {W : World} {S T : Nat} {ty : TypeId} {va vl : Value} {arr load : List Int} {c h : Int} (H : TB W S T ty va vl arr load c h) : Typed W T ty := ⟨_, H.box⟩
theorem TB.below {W W' : World} {S T : Nat} {ty : TypeId} {va vl : Value} {arr load : List Int} {c h : Int} (H : TB W S T ty va vl arr load c h) (hb : Below W.heap.size W W') : TB W' S T ty va vl arr load c h :=
  ⟨by rw [hb.block T H.lt]; exact H.box, own_below H.arr hb, own_below H.load hb, H.dis, H.typ⟩
theorem TB.cells {W : World} {S T : Nat} {ty : TypeId} {va vl : Value} {arr load : List Int} {c h : Int} (H : TB W S T ty va vl arr load c h) :
    W.cell? ⟨T, 0, none⟩ = some va ∧ W.cell? ⟨T, 1, none⟩ = some vl ∧ W.cell? ⟨T, 2, none⟩ = some (.int .i64 c) ∧ W.cell? ⟨T, 3, none⟩ = some (.int .i64 h) ∧ ∀ j, W.frozen? ⟨T, j, none⟩ = false :=
  ⟨by rw [Lib.cell_of_heap H.box]; rfl, by rw [Lib.cell_of_heap H.box]; rfl, by rw [Lib.cell_of_heap H.box]; rfl, by rw [Lib.cell_of_heap H.box]; rfl, fun j => Lib.frozen_of_heap H.box j⟩
theorem own_lt {w : World} {B : Nat} {e : TypeId} {size n : Nat} {v : Value} {xs : List Value} (h : w.ownsRow B e size v n xs) {g : Nat} (hg : v.ownBlock = some g) : g < w.heap.size := by
  obtain ⟨⟨cur, hc⟩, _⟩ := own_typed h hg
  exact (Array.getElem?_eq_some_iff.1 hc).1
theorem TB.put_arr {W W2 : World} {S T : Nat} {ty : TypeId} {va vl v' : Value} {arr load : List Int} {c h x : Int} (H : TB W S T ty va vl arr load c h) (hown : W2.ownsRow S 3 1 v' (arr.length + 1) (ints arr ++ [.int .i64 x])) (hg : W.grownBy W2 va.ownBlock) (hob : v'.ownBlock = va.ownBlock ∨ v'.ownBlock = some W.heap.size) :
    TB (W2.setCell ⟨T, 0, none⟩ v') S T ty v' vl (arr ++ [x]) load c h := by
  have hT : Typed W2 T ty := by
    refine grown_typed H.typed hg ?_
    intro e
    exact typed_ne (own_typed H.arr e.symm).1 H.typed (Ne.symm H.typ) rfl
  have hb : W2.heap[T]? = some (.cells #[va, vl, .int .i64 c, .int .i64 h] ty (0, 0)) := by
    rw [hg.block T H.lt (fun e => typed_ne (own_typed H.arr e.symm).1 H.typed (Ne.symm H.typ) rfl)]; exact H.box
  have hs := grown_set W2 T 0 v'
  have hrow : ∀ g, some T = some g → ∃ t, Typed W2 g t ∧ t ≠ 3 := fun g hgv => by
    injection hgv with hgv; subst hgv; exact ⟨ty, hT, H.typ⟩
  refine ⟨by simp [World.setCell, Array.getElem?_modify, hb], ?_, ?_, fun g hv hl => ?_, H.typ⟩
  · have := own_keep hown hs hrow
    simpa [ints] using this
  · refine own_keep (H.load.kept hg ?_) hs hrow
    rcases hv : vl.ownBlock with _ | g
    · exact .inl rfl
    · exact .inr fun e => H.dis g e.symm hv
  · rcases hob with e | e
    · exact H.dis g (by rw [← e]; exact hv) hl
    · rw [e] at hv; injection hv with hv
      have := own_lt H.load hl
      omega
theorem TB.put_load {W W2 : World} {S T : Nat} {ty : TypeId} {va vl v' : Value} {arr load : List Int} {c h x : Int} (H : TB W S T ty va vl arr load c h) (hown : W2.ownsRow S 3 1 v' (load.length + 1) (ints load ++ [.int .i64 x])) (hg : W.grownBy W2 vl.ownBlock) (hob : v'.ownBlock = vl.ownBlock ∨ v'.ownBlock = some W.heap.size) :
    TB (W2.setCell ⟨T, 1, none⟩ v') S T ty va v' arr (load ++ [x]) c h := by
  have hT : Typed W2 T ty := by
    refine grown_typed H.typed hg ?_
    intro e
    exact typed_ne (own_typed H.load e.symm).1 H.typed (Ne.symm H.typ) rfl
  have hb : W2.heap[T]? = some (.cells #[va, vl, .int .i64 c, .int .i64 h] ty (0, 0)) := by
    rw [hg.block T H.lt (fun e => typed_ne (own_typed H.load e.symm).1 H.typed (Ne.symm H.typ) rfl)]; exact H.box
  have hs := grown_set W2 T 1 v'
  have hrow : ∀ g, some T = some g → ∃ t, Typed W2 g t ∧ t ≠ 3 := fun g hgv => by
    injection hgv with hgv; subst hgv; exact ⟨ty, hT, H.typ⟩
  refine ⟨by simp [World.setCell, Array.getElem?_modify, hb], ?_, ?_, fun g hv hl => ?_, H.typ⟩
  · refine own_keep (H.arr.kept hg ?_) hs hrow
    rcases hv : va.ownBlock with _ | g
    · exact .inl rfl
    · exact .inr fun e => H.dis g hv e.symm
  · have := own_keep hown hs hrow
    simpa [ints] using this
  · rcases hob with e | e
    · exact H.dis g hv (by rw [← e]; exact hl)
    · rw [e] at hl; injection hl with hl
      have := own_lt H.arr hv
      omega
theorem TB.at_arr {W W2 : World} {S T : Nat} {ty : TypeId} {va vl : Value} {arr load : List Int} {c h : Int} (H : TB W S T ty va vl arr load c h) (hg : W.grownBy W2 va.ownBlock) : T < W2.heap.size ∧ W2.cell? ⟨T, 0, none⟩ = some va ∧ W2.frozen? ⟨T, 0, none⟩ = false := by
  have hb : W2.heap[T]? = some (.cells #[va, vl, .int .i64 c, .int .i64 h] ty (0, 0)) := by
    rw [hg.block T H.lt (fun e => typed_ne (own_typed H.arr e.symm).1 H.typed (Ne.symm H.typ) rfl)]; exact H.box
  exact ⟨(Array.getElem?_eq_some_iff.1 hb).1, by rw [Lib.cell_of_heap hb]; rfl, Lib.frozen_of_heap hb 0⟩
theorem TB.at_load {W W2 : World} {S T : Nat} {ty : TypeId} {va vl : Value} {arr load : List Int} {c h : Int} (H : TB W S T ty va vl arr load c h) (hg : W.grownBy W2 vl.ownBlock) : T < W2.heap.size ∧ W2.cell? ⟨T, 1, none⟩ = some vl ∧ W2.frozen? ⟨T, 1, none⟩ = false := by
  have hb : W2.heap[T]? = some (.cells #[va, vl, .int .i64 c, .int .i64 h] ty (0, 0)) := by
    rw [hg.block T H.lt (fun e => typed_ne (own_typed H.load e.symm).1 H.typed (Ne.symm H.typ) rfl)]; exact H.box
  exact ⟨(Array.getElem?_eq_some_iff.1 hb).1, by rw [Lib.cell_of_heap hb]; rfl, Lib.frozen_of_heap hb 1⟩
theorem TB.put_cost {W : World} {S T : Nat} {ty : TypeId} {va vl : Value} {arr load : List Int} {c h : Int} (H : TB W S T ty va vl arr load c h) (x : Int) : TB (W.setCell ⟨T, 2, none⟩ (.int .i64 x)) S T ty va vl arr load x h := by
  have hs := grown_set W T 2 (.int .i64 x)
  have hrow : ∀ g, some T = some g → ∃ t, Typed W g t ∧ t ≠ 3 := fun g hgv => by
    injection hgv with hgv; subst hgv; exact ⟨ty, H.typed, H.typ⟩
  exact ⟨by simp [World.setCell, Array.getElem?_modify, H.box], own_keep H.arr hs hrow, own_keep H.load hs hrow, H.dis, H.typ⟩
theorem TB.put_home {W : World} {S T : Nat} {ty : TypeId} {va vl : Value} {arr load : List Int} {c h : Int} (H : TB W S T ty va vl arr load c h) (x : Int) : TB (W.setCell ⟨T, 3, none⟩ (.int .i64 x)) S T ty va vl arr load c x := by
  have hs := grown_set W T 3 (.int .i64 x)
  have hrow : ∀ g, some T = some g → ∃ t, Typed W g t ∧ t ≠ 3 := fun g hgv => by
    injection hgv with hgv; subst hgv; exact ⟨ty, H.typed, H.typ⟩
  exact ⟨by simp [World.setCell, Array.getElem?_modify, H.box], own_keep H.arr hs hrow, own_keep H.load hs hrow, H.dis, H.typ⟩
/-- a cell elsewhere is set -/
theorem TB.low {W : World} {S T : Nat} {ty : TypeId} {va vl : Value} {arr load : List Int} {c h : Int} (H : TB W S T ty va vl arr load c h) {R : Nat} (hR : R < T) (hRS : R < S) (j : Nat) (u : Value) : TB (W.setCell ⟨R, j, none⟩ u) S T ty va vl arr load c h := by
  have key : ∀ {v : Value} {l : List Int}, W.ownsRow S 3 1 v l.length (ints l) → (W.setCell ⟨R, j, none⟩ u).ownsRow S 3 1 v l.length (ints l) := fun h => own_low h hRS j u
  exact ⟨by rw [Below.heap_setCell _ _ _ _ (by simp; omega)]; exact H.box, key H.arr, key H.load, H.dis, H.typ⟩
theorem tb_new (w : World) {ty : TypeId} (h : ty ≠ 3) (S : Nat) : TB (w.alloc (.cells #[.slice none 0 0, .slice none 0 0, .int .i64 0, .int .i64 0] ty)) S w.heap.size ty (.slice none 0 0) (.slice none 0 0) [] [] 0 0 :=
  ⟨by unfold World.alloc; simp, ⟨rfl, .inl ⟨rfl, rfl⟩⟩, ⟨rfl, .inl ⟨rfl, rfl⟩⟩, fun g hg => (by cases hg), h⟩
/-- a variable of the call's own, of another type than the rows -/
def LB (W : World) (Q : Nat) (t : TypeId) (l : List Value) : Prop := Blk W Q l ∧ Typed W Q t
theorem lb_new (w : World) (c : Array Value) (t : TypeId) : LB (w.alloc (.cells c t)) w.heap.size t c.toList := ⟨blk_new w c t, typed_new w c t⟩
theorem LB.below {W W' : World} {Q : Nat} {t : TypeId} {l : List Value} (h : LB W Q t l) (hb : Below W.heap.size W W') : LB W' Q t l := ⟨h.1.below hb, h.2.below hb⟩
theorem LB.grown {W W' : World} {Q : Nat} {t : TypeId} {l : List Value} {row : Option Nat} (h : LB W Q t l) (hg : W.grownBy W' row) (hrow : ∀ g, row = some g → ∃ t', Typed W g t' ∧ t' ≠ t) : LB W' Q t l := by
  have hne : some Q ≠ row := fun e => by
    obtain ⟨t', h1, h2⟩ := hrow Q e.symm
    exact typed_ne h1 h.2 h2 rfl
  exact ⟨h.1.heap (hg.block Q h.1.1 hne) hg.size, grown_typed h.2 hg hne⟩
theorem LB.other {W : World} {Q : Nat} {t : TypeId} {l : List Value} (h : LB W Q t l) {R : Nat} (hR : R ≠ Q) (j : Nat) (u : Value) : LB (W.setCell ⟨R, j, none⟩ u) Q t l := ⟨h.1.other hR u, h.2.setCell _ _ _⟩
theorem own_row_typed {w : World} {B : Nat} {n : Nat} {v : Value} {xs : List Value} (h : w.ownsRow B 3 1 v n xs) {t : TypeId} (ht : 3 ≠ t) : ∀ g, v.ownBlock = some g → ∃ t', Typed w g t' ∧ t' ≠ t := fun _ hg => ⟨_, (own_typed h hg).1, ht⟩
/-- a slice in memory from block B on -/
def Fresh (B : Nat) (A : Option Addr) : Prop := ∀ ad, A = some ad → B ≤ ad.block
theorem Fresh.mono {B C : Nat} {A : Option Addr} (h : Fresh B A) (hC : C ≤ B) : Fresh C A := fun ad e => Nat.le_trans hC (h ad e)
/-- an owned row of numbers, as a slice of numbers -/
theorem own_nums {w : World} {B : Nat} {v : Value} {l : List Int} (h : w.ownsRow B 3 1 v l.length (ints l)) : ∃ A cap, v = .slice A l.length cap ∧ l.length ≤ cap ∧ Recs w 1 num_ v l ∧ Fresh B A := by
  have hR : Recs w 1 num_ v l := by
    obtain ⟨A, cap, rfl, hc⟩ := own_get h
    refine ⟨A, cap, rfl, fun k hk => ?_⟩
    obtain ⟨b, rfl, hb, hcell⟩ := hc (by omega)
    refine ⟨b, 0, rfl, hb, fun j hj => ?_⟩
    obtain rfl : j = 0 := by omega
    rw [Nat.zero_add, Nat.mul_one, Nat.add_zero]
    exact hcell _ _ (by simp [ints, num_, hk])
  rcases h.2 with ⟨rfl, h0⟩ | ⟨g, cap, cur, rfl, hBg, _, hn, _⟩
  · exact ⟨none, 0, by rw [h0], by omega, hR, fun ad h => by cases h⟩
  · exact ⟨_, cap, rfl, hn, hR, fun ad h => by cases h; exact hBg⟩
end Go.Proofs.Ytpccoflebfblbaa
