/- inst.addLine: the walks. -/
import Derived.Test.YteibelmgebhleaaDoorAddLine
namespace Go.Proofs.YteibelmgebhleaaDoor
open Go.RowKit
set_option linter.unusedSimpArgs false

set_option maxRecDepth 100000 in
set_option maxHeartbeats 4000000 in
theorem add_car (B I g : Nat) (i : Prob) (vc vs vp vt : Value) (us : List Value) (a b c : Int) (w : World) (h : Held w B I i vc vs vp vt us) (hr : Blk w g (ints [a, b, c])) (hB : B ≤ w.heap.size) (hl : i.cars.length ≤ 1000000000) :
    Calls Tryd.prog 27 #[.pointer (some ⟨I, 0, none⟩), .int .i64 0, .slice (some ⟨g, 0, none⟩) 3 3] w fun e w' => e = .returned (.tuple #[]) ∧ HeldSome w' B I { i with cars := i.cars ++ [⟨a, b, c⟩] } ∧ Below B w w' := by
  obtain ⟨i0, hi, hz0, hz1, hz2⟩ := info_parts car_info
  have c0 : w.cell? ⟨I, 0, none⟩ = some vc := by rw [Lib.cell_of_heap h.box]; rfl
  have n0 : w.cell? ⟨g, 0, none⟩ = some (.int .i64 a) := (hr.2 0 (by simp [ints])).1
  have n1 : w.cell? ⟨g, 1, none⟩ = some (.int .i64 b) := (hr.2 1 (by simp [ints])).1
  have n2 : w.cell? ⟨g, 2, none⟩ = some (.int .i64 c) := (hr.2 2 (by simp [ints])).1
  have HH := Lib.hid h
  have hI : I < w.heap.size := (Array.getElem?_eq_some_iff.1 h.box).1
  have hg := hr.1
  have hbi := h.lt
  have RN := Lib.hid (reads_new w (ints [a, b, c]) 58)
  have HW := Lib.hid (((Below.refl _ _).alloc (Nat.le_refl _) (.cells (ints [a, b, c]).toArray 58)).drew : Below w.heap.size w _)
  clear h hr
  go_enter Tryd.func27, Tryd.ntmps27
  go_wp2
  go_region_law (refine step_append_any _ rfl (.tmp 13) (.tmp 24) 25 rfl B 58 i0 _ 3 24 Tryd.underlying25 hi hz0 hz1 hz2 rfl (by decide) vc i.cars.length (carCells i.cars) (by simp [Act.eval, Act.put]) (own_below HH.out.cars HW.out) (w.heap.size + 1) (some ⟨w.heap.size, 0, none⟩) 1 1 (ints [a, b, c]) (by simp [Act.eval, Act.put]) RN.out.drew (ints_one _) (by unfold maxLen; omega) (by omega) (by simp; omega) ?_; intro v' w2 hown' hgrow hob; obtain ⟨ao, n', cap', rfl⟩ := own_slice hown'; have hbx := (HH.out.below HW.out).box_car hgrow; have d0 : w2.cell? ⟨I, 0, none⟩ = some vc := (by rw [Lib.cell_of_heap hbx]; rfl); have e0 : w2.frozen? ⟨I, 0, none⟩ = false := Lib.frozen_of_heap hbx 0; have HO := Lib.hid hown'; have HG := Lib.hid hgrow; clear hown' hgrow hob hbx)
  all_goals (
    go_wp2
    go_end0
    exact ⟨rfl, (HH.out.below HW.out).put_car ⟨a, b, c⟩ HO.out HG.out, ((((Below.refl _ _).alloc hB _).drew).grown HG.out (by simp; omega) (fun k hk => (own_typed (HH.out.below HW.out).cars hk).2)).setCell hbi _⟩)
end Go.Proofs.YteibelmgebhleaaDoor
