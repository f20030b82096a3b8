/- The walk of NumForms: for any int the law returns true; what was there in memory is as it was. -/
import Derived.Test.YtnnoglnnaliadaaParts
import Derived.RowKit3
namespace Go.Proofs.Ytnnoglnnaliadaa
open Go.RowKit

/-- the table of the statement lies in block B: in each of its 13 rows two numbers, then what Add and Mul answer of them -/
def Tab (B : Nat) (wr : World) : Prop := ∀ k, k < 13 → ∃ a b : Int, Fit a ∧ Fit b ∧
    wr.cell? ⟨B, k * 6, none⟩ = some (.int .i64 a) ∧ wr.cell? ⟨B, k * 6 + 1, none⟩ = some (.int .i64 b) ∧
    wr.cell? ⟨B, k * 6 + 1 + 1, none⟩ = some (.int .i64 (addV a b)) ∧ wr.cell? ⟨B, k * 6 + 1 + 1 + 1, none⟩ = some (.int .i64 (mulV a b)) ∧
    wr.cell? ⟨B, k * 6 + 1 + 1 + 1 + 1, none⟩ = some (.bool (addOk a b)) ∧ wr.cell? ⟨B, k * 6 + 1 + 1 + 1 + 1 + 1, none⟩ = some (.bool (mulOk a b))
theorem Tab.below {B : Nat} {w1 w2 : World} (h : Tab B w1) (hb : Below w1.heap.size w1 w2) (hB : B < w1.heap.size) : Tab B w2 := by
  intro k hk
  obtain ⟨a, b, fa, fb, h0, h1, h2, h3, h4, h5⟩ := h k hk
  refine ⟨a, b, fa, fb, ?_, ?_, ?_, ?_, ?_, ?_⟩
  all_goals rw [hb.cell hB]; assumption

theorem tab_row {w : World} {C : Array Value} {t : TypeId} {k : Nat} (a b : Int) (fa : Fit a) (fb : Fit b)
    (h0 : C[k * 6]? = some (.int .i64 a)) (h1 : C[k * 6 + 1]? = some (.int .i64 b)) (h2 : C[k * 6 + 1 + 1]? = some (.int .i64 (addV a b)))
    (h3 : C[k * 6 + 1 + 1 + 1]? = some (.int .i64 (mulV a b))) (h4 : C[k * 6 + 1 + 1 + 1 + 1]? = some (.bool (addOk a b))) (h5 : C[k * 6 + 1 + 1 + 1 + 1 + 1]? = some (.bool (mulOk a b))) :
    ∃ a b : Int, Fit a ∧ Fit b ∧
    (w.alloc (.cells C t)).cell? ⟨w.heap.size, k * 6, none⟩ = some (.int .i64 a) ∧ (w.alloc (.cells C t)).cell? ⟨w.heap.size, k * 6 + 1, none⟩ = some (.int .i64 b) ∧
    (w.alloc (.cells C t)).cell? ⟨w.heap.size, k * 6 + 1 + 1, none⟩ = some (.int .i64 (addV a b)) ∧ (w.alloc (.cells C t)).cell? ⟨w.heap.size, k * 6 + 1 + 1 + 1, none⟩ = some (.int .i64 (mulV a b)) ∧
    (w.alloc (.cells C t)).cell? ⟨w.heap.size, k * 6 + 1 + 1 + 1 + 1, none⟩ = some (.bool (addOk a b)) ∧ (w.alloc (.cells C t)).cell? ⟨w.heap.size, k * 6 + 1 + 1 + 1 + 1 + 1, none⟩ = some (.bool (mulOk a b)) := by
  refine ⟨a, b, fa, fb, ?_, ?_, ?_, ?_, ?_, ?_⟩
  all_goals rw [World.cell?_alloc_new]; assumption

/-- the table as the statement's text lays it -/
def tabCells : Array Value := #[
  .int .i64 3, .int .i64 4, .int .i64 7, .int .i64 12, .bool true, .bool true,
  .int .i64 9223372036854775807, .int .i64 1, .int .i64 0, .int .i64 9223372036854775807, .bool false, .bool true,
  .int .i64 9223372036854775807, .int .i64 (-1), .int .i64 9223372036854775806, .int .i64 (-9223372036854775807), .bool true, .bool true,
  .int .i64 (-9223372036854775808), .int .i64 (-1), .int .i64 0, .int .i64 0, .bool false, .bool false,
  .int .i64 (-9223372036854775808), .int .i64 1, .int .i64 (-9223372036854775807), .int .i64 (-9223372036854775808), .bool true, .bool true,
  .int .i64 (-9223372036854775808), .int .i64 0, .int .i64 (-9223372036854775808), .int .i64 0, .bool true, .bool true,
  .int .i64 4294967296, .int .i64 2147483648, .int .i64 6442450944, .int .i64 0, .bool true, .bool false,
  .int .i64 2147483648, .int .i64 2147483648, .int .i64 4294967296, .int .i64 4611686018427387904, .bool true, .bool true,
  .int .i64 (-4294967296), .int .i64 2147483648, .int .i64 (-2147483648), .int .i64 (-9223372036854775808), .bool true, .bool true,
  .int .i64 9223372036854775807, .int .i64 9223372036854775807, .int .i64 0, .int .i64 0, .bool false, .bool false,
  .int .i64 (-9223372036854775808), .int .i64 (-9223372036854775808), .int .i64 0, .int .i64 0, .bool false, .bool false,
  .int .i64 3037000500, .int .i64 3037000500, .int .i64 6074001000, .int .i64 0, .bool true, .bool false,
  .int .i64 (-3037000499), .int .i64 3037000499, .int .i64 0, .int .i64 (-9223372030926249001), .bool true, .bool true]
theorem tab_start (w : World) (t : TypeId) : Tab w.heap.size (w.alloc (.cells tabCells t)) := by
  intro k hk
  match k, hk with
  | 0, _ => exact tab_row (w := w) (C := tabCells) (t := t) (k := 0) 3 4 (fit_of rfl) (fit_of rfl) rfl rfl rfl rfl rfl rfl
  | 1, _ => exact tab_row (w := w) (C := tabCells) (t := t) (k := 1) 9223372036854775807 1 (fit_of rfl) (fit_of rfl) rfl rfl rfl rfl rfl rfl
  | 2, _ => exact tab_row (w := w) (C := tabCells) (t := t) (k := 2) 9223372036854775807 (-1) (fit_of rfl) (fit_of rfl) rfl rfl rfl rfl rfl rfl
  | 3, _ => exact tab_row (w := w) (C := tabCells) (t := t) (k := 3) (-9223372036854775808) (-1) (fit_of rfl) (fit_of rfl) rfl rfl rfl rfl rfl rfl
  | 4, _ => exact tab_row (w := w) (C := tabCells) (t := t) (k := 4) (-9223372036854775808) 1 (fit_of rfl) (fit_of rfl) rfl rfl rfl rfl rfl rfl
  | 5, _ => exact tab_row (w := w) (C := tabCells) (t := t) (k := 5) (-9223372036854775808) 0 (fit_of rfl) (fit_of rfl) rfl rfl rfl rfl rfl rfl
  | 6, _ => exact tab_row (w := w) (C := tabCells) (t := t) (k := 6) 4294967296 2147483648 (fit_of rfl) (fit_of rfl) rfl rfl rfl rfl rfl rfl
  | 7, _ => exact tab_row (w := w) (C := tabCells) (t := t) (k := 7) 2147483648 2147483648 (fit_of rfl) (fit_of rfl) rfl rfl rfl rfl rfl rfl
  | 8, _ => exact tab_row (w := w) (C := tabCells) (t := t) (k := 8) (-4294967296) 2147483648 (fit_of rfl) (fit_of rfl) rfl rfl rfl rfl rfl rfl
  | 9, _ => exact tab_row (w := w) (C := tabCells) (t := t) (k := 9) 9223372036854775807 9223372036854775807 (fit_of rfl) (fit_of rfl) rfl rfl rfl rfl rfl rfl
  | 10, _ => exact tab_row (w := w) (C := tabCells) (t := t) (k := 10) (-9223372036854775808) (-9223372036854775808) (fit_of rfl) (fit_of rfl) rfl rfl rfl rfl rfl rfl
  | 11, _ => exact tab_row (w := w) (C := tabCells) (t := t) (k := 11) 3037000500 3037000500 (fit_of rfl) (fit_of rfl) rfl rfl rfl rfl rfl rfl
  | 12, _ => exact tab_row (w := w) (C := tabCells) (t := t) (k := 12) (-3037000499) 3037000499 (fit_of rfl) (fit_of rfl) rfl rfl rfl rfl rfl rfl

theorem forms_consts (n : Int) : (drawI 0 == 2463534242) = true ∧ (drawI 2463534242 == 723471715) = true ∧ (pickI 7 3 == 1) = true ∧ (pickI 7 0 == 0) = true ∧
    (pickI 7 (-withinI n 40) == 0) = true ∧ (pickI 4294967295 1099511627776 == 4294967295) = true ∧ (pickI 5 1 == 0) = true ∧ 0 ≤ withinI n 40 ∧ withinI n 40 < 40 := by
  have hw := withinI_bounds (v := n) (n := 40) (by omega)
  refine ⟨by decide +kernel, by decide +kernel, by decide +kernel, by decide +kernel, ?_, by decide +kernel, by decide +kernel, hw.1, hw.2⟩
  rw [← pickI_low (by omega)]; rfl

set_option maxRecDepth 100000 in
set_option maxHeartbeats 2000000 in
theorem forms_walk (n : Int) (w : World) :
    Calls Try.prog 3 #[.int .i64 n] w fun e w' => e = .returned (.bool true) ∧ Grown w w' := by
  go_enter Try.func3, Try.ntmps3
  go_wp2
  go_loopw [24] (fun i wr => ∃ k : Nat, k ≤ 13 ∧ i = .int .i64 k ∧ Grown w wr ∧ w.heap.size < wr.heap.size ∧ Tab w.heap.size wr) (fun i _ => 13 - (intOf i).toNat)
  case atStart => exact ⟨0, Nat.zero_le _, rfl, (Grown.refl _).alloc _ _, by simp, tab_start w 22⟩
  case round =>
    obtain ⟨k, hk, rfl, hg, hsz, htab⟩ := hrel
    by_cases hlt : k < 13
    · obtain ⟨a, b, fa, fb, c0, c1, c2, c3, c4, c5⟩ := htab k hlt
      go_wp2_with (first
        | (go_at_call 8; refine (add_any _ _ _ (by assumption) (by assumption)).mono ?_; rintro e w' ⟨rfl, rfl⟩)
        | (go_at_call 9; refine (mul_any _ _ _ (by assumption) (by assumption)).mono ?_; rintro e w' ⟨rfl, rfl⟩))
      go_roundw
      case rel => exact ⟨k + 1, by omega, by go_num, hg.alloc _ _, by simp; omega, htab.below ((Below.refl _ _).alloc (Nat.le_refl _) _) hsz⟩
      case measure => simp [intOf]; omega
    · obtain ⟨f1, f2, f3, f4, f5, f6, f7, f8, f9⟩ := forms_consts n
      go_wp2_with (first
        | (go_at_call 10; refine (within_any _ _ _ (by omega) (by omega)).mono ?_; rintro e w' ⟨rfl, rfl⟩)
        | (go_at_call 11; refine (draw_any _ _ (by omega) (by omega)).mono ?_; rintro e w' ⟨rfl, rfl⟩)
        | (go_at_call 12; refine (pick_any _ _ _ (by omega) (by omega) (by omega)).mono ?_; rintro e w' ⟨rfl, rfl⟩)
        | (go_at_call 13; refine (wakes_any _).mono ?_; rintro e w' ⟨rfl, rfl⟩))
      go_ret
      exact ⟨rfl, hg⟩
end Go.Proofs.Ytnnoglnnaliadaa
