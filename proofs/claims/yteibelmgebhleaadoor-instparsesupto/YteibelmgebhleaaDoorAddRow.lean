/- inst.addLine: the walks. -/
import Derived.Test.YteibelmgebhleaaDoorAddLine
namespace Go.Proofs.YteibelmgebhleaaDoor
open Go.RowKit
set_option linter.unusedSimpArgs false

set_option maxRecDepth 100000 in
set_option maxHeartbeats 4000000 in
theorem add_row (B I : Nat) (i : Prob) (vc vs vp vt : Value) (us : List Value) (r : List Int) (u : Value) (w : World) (h : Held w B I i vc vs vp vt us) (hr : RowAt w B u r) (hB : B ≤ w.heap.size) (hl : i.travel.length ≤ 1000000000) :
    Calls Tryd.prog 27 #[.pointer (some ⟨I, 0, none⟩), .int .i64 3, u] w fun e w' => e = .returned (.tuple #[]) ∧ HeldSome w' B I { i with travel := i.travel ++ [r] } ∧ Below B w w' := by
  obtain ⟨i0, hi, hz0, hz1, hz2⟩ := info_parts row_info
  have c0 : w.cell? ⟨I, 3, none⟩ = some vt := by rw [Lib.cell_of_heap h.box]; rfl
  have HH := Lib.hid h
  have hI : I < w.heap.size := (Array.getElem?_eq_some_iff.1 h.box).1
  have hbi := h.lt
  have HR := Lib.hid hr
  obtain ⟨g, rfl, _⟩ := hr
  have RN := Lib.hid (reads_new w [.slice (some ⟨g, 0, none⟩) r.length r.length] 42)
  have HW := Lib.hid ((Below.refl _ _).alloc (Nat.le_refl _) (.cells #[.slice (some ⟨g, 0, none⟩) r.length r.length] 42) : Below w.heap.size w _)
  clear h
  go_enter Tryd.func27, Tryd.ntmps27
  go_wp2_with (at_builtin; refine wpList_append_any _ rfl _ _ 28 rfl B 42 i0 _ 1 24 Tryd.underlying28 hi hz0 hz1 hz2 rfl (by decide) vt i.travel.length us rfl (own_below HH.out.travel HW.out) (w.heap.size + 1) (some ⟨w.heap.size, 0, none⟩) 1 1 [.slice (some ⟨g, 0, none⟩) r.length r.length] rfl RN.out ?c1 ?c2 ?c3 ?c4 ?_)
  case c1 => intro x hx; simp at hx; subst hx; rfl
  case c2 => unfold maxLen; omega
  case c3 => omega
  case c4 => simp; omega
  intro v' w2 hown' hgrow hob
  obtain ⟨ao, n', cap', rfl⟩ := own_slice hown'
  have hbx := (HH.out.below HW.out).box_row hgrow
  have d0 : w2.cell? ⟨I, 3, none⟩ = some vt := by rw [Lib.cell_of_heap hbx]; rfl
  have e0 : w2.frozen? ⟨I, 3, none⟩ = false := Lib.frozen_of_heap hbx 3
  have HO := Lib.hid hown'
  have HG := Lib.hid hgrow
  clear hown' hgrow hob hbx
  go_wp2
  go_end0
  exact ⟨rfl, (HH.out.below HW.out).put_row r _ (HR.out.some.below HW.out) HO.out HG.out, ((((Below.refl _ _).alloc hB _)).grown HG.out (by simp; omega) (fun k hk => (own_typed (HH.out.below HW.out).travel hk).2)).setCell hbi _⟩
end Go.Proofs.YteibelmgebhleaaDoor
