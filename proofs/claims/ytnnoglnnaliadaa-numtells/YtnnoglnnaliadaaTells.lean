/- The walk of NumTells: for any two int64, any uint32, any int the law returns true; the world stands. -/
import Derived.Test.YtnnoglnnaliadaaParts
import Derived.RowKit3
namespace Go.Proofs.Ytnnoglnnaliadaa
open Go.RowKit

theorem bne_of {x y : Int} (h : x ≠ y) : (x == y) = false := by simpa using h
theorem beq_of {x y : Int} (h : x = y) : (x == y) = true := by simpa using h

/-- what decides the statement's tests of a sum -/
theorem tells_add {a b : Int} (ha : Fit a) (hb : Fit b) :
    ((0 ≤ b ∧ a ≤ wrap64 (a + b)) ∧ addOk a b = true ∧ (addV a b != wrap64 (a + b)) = false) ∨
    ((b < 0 ∧ wrap64 (a + b) < a) ∧ addOk a b = true ∧ (addV a b != wrap64 (a + b)) = false) ∨
    ((0 ≤ b ∧ wrap64 (a + b) < a) ∧ addOk a b = false ∧ (addV a b != 0) = false) ∨
    ((b < 0 ∧ a ≤ wrap64 (a + b)) ∧ addOk a b = false ∧ (addV a b != 0) = false) := by
  have yes : addOk a b = true → (addV a b != wrap64 (a + b)) = false := fun h => by rw [addV_ok h, wrap_fit (addOk_fit h)]; simp
  have no : addOk a b = false → (addV a b != 0) = false := fun h => by rw [addV_no h]; rfl
  have ht := add_test ha hb
  by_cases h1 : 0 ≤ b <;> by_cases h2 : a ≤ wrap64 (a + b)
  · have h : addOk a b = true := by rw [ht]; simp [h1, h2]
    exact .inl ⟨⟨h1, h2⟩, h, yes h⟩
  · have h : addOk a b = false := by rw [ht]; simp [h1, h2]
    exact .inr (.inr (.inl ⟨⟨h1, by omega⟩, h, no h⟩))
  · have h : addOk a b = false := by rw [ht]; simp [h1, h2]
    exact .inr (.inr (.inr ⟨⟨by omega, h2⟩, h, no h⟩))
  · have h : addOk a b = true := by rw [ht]; simp [h1, h2]
    exact .inr (.inl ⟨⟨by omega, by omega⟩, h, yes h⟩)

theorem mul_yes {a b : Int} (h : Fit (a * b)) : mulOk a b = true ∧ (mulV a b != wrap64 (a * b)) = false :=
  ⟨mulOk_mk h, by rw [mulV_ok (mulOk_mk h), wrap_fit h]; simp⟩
theorem mul_no {a b : Int} (h : ¬ Fit (a * b)) : mulOk a b = false ∧ (mulV a b != 0) = false :=
  ⟨mulOk_not h, by rw [mulV_no (mulOk_not h)]; rfl⟩
theorem fit_zero : Fit 0 := by unfold Fit; omega
/-- what decides the statement's tests of a product of two that are not 0 -/
theorem tells_mul {a b : Int} (ha : Fit a) (hb : Fit b) (h0 : b ≠ 0) :
    ((wrap64 ((wrap64 (a * b)).tdiv b) == a) = false ∧ mulOk a b = false ∧ (mulV a b != 0) = false) ∨
    ((wrap64 ((wrap64 (a * b)).tdiv b) == a) = true ∧ (b == -1) = true ∧ (a == -9223372036854775808) = true ∧ (a == -1) = false ∧ mulOk a b = false ∧ (mulV a b != 0) = false) ∨
    ((wrap64 ((wrap64 (a * b)).tdiv b) == a) = true ∧ (b == -1) = true ∧ (a == -9223372036854775808) = false ∧ (a == -1) = true ∧ (b == -9223372036854775808) = false ∧ mulOk a b = true ∧ (mulV a b != wrap64 (a * b)) = false) ∨
    ((wrap64 ((wrap64 (a * b)).tdiv b) == a) = true ∧ (b == -1) = true ∧ (a == -9223372036854775808) = false ∧ (a == -1) = false ∧ mulOk a b = true ∧ (mulV a b != wrap64 (a * b)) = false) ∨
    ((wrap64 ((wrap64 (a * b)).tdiv b) == a) = true ∧ (b == -1) = false ∧ (a == -1) = true ∧ (b == -9223372036854775808) = false ∧ mulOk a b = true ∧ (mulV a b != wrap64 (a * b)) = false) ∨
    ((wrap64 ((wrap64 (a * b)).tdiv b) == a) = true ∧ (b == -1) = false ∧ (a == -1) = false ∧ mulOk a b = true ∧ (mulV a b != wrap64 (a * b)) = false) := by
  by_cases hq : wrap64 ((wrap64 (a * b)).tdiv b) = a
  · have q := beq_of hq
    by_cases hl : a = -9223372036854775808 ∧ b = -1
    · obtain ⟨rfl, rfl⟩ := hl
      exact .inr (.inl ⟨q, rfl, by simp, by simp, mul_no low_mul⟩)
    · have hf := mul_back ha hb h0 hl hq
      have y := mul_yes hf
      have hbl : a = -1 → (b == -9223372036854775808) = false := fun h => bne_of (fun h' => by subst h h'; unfold Fit at hf; omega)
      by_cases hb1 : b = -1
      · have ha1 : (a == -9223372036854775808) = false := bne_of (fun h => hl ⟨h, hb1⟩)
        by_cases h : a = -1
        · exact .inr (.inr (.inl ⟨q, beq_of hb1, ha1, beq_of h, hbl h, y⟩))
        · exact .inr (.inr (.inr (.inl ⟨q, beq_of hb1, ha1, bne_of h, y⟩)))
      · by_cases h : a = -1
        · exact .inr (.inr (.inr (.inr (.inl ⟨q, bne_of hb1, beq_of h, hbl h, y⟩))))
        · exact .inr (.inr (.inr (.inr (.inr ⟨q, bne_of hb1, bne_of h, y⟩))))
  · exact .inl ⟨bne_of hq, mul_no (fun h => hq (mul_forth ha h0 h))⟩

set_option maxRecDepth 100000 in
set_option maxHeartbeats 4000000 in
theorem tells_walk_a0 (a b x n : Int) (w : World) (ha : Fit a) (hb : Fit b) (x0 : 0 ≤ x) (x1 : x < 4294967296) (n1 : n ≤ 9223372036854775807)
    (d1 : (a == 0) = true) (k1 : mulOk a b = true) (k2 : (mulV a b != wrap64 (a * b)) = false) :
    Calls Try.prog 5 #[.int .i64 a, .int .i64 b, .int .u32 x, .int .i64 n] w fun e w' => e = .returned (.bool true) ∧ w = w' := by
  rcases tells_add ha hb with ⟨⟨g1, g2⟩, h1, h2⟩ | ⟨⟨g1, g2⟩, h1, h2⟩ | ⟨⟨g1, g2⟩, h1, h2⟩ | ⟨⟨g1, g2⟩, h1, h2⟩
  all_goals
    go_enter Try.func5, Try.ntmps5
    go_wp2_with (first
      | (go_at_call 8; refine (add_any _ _ _ (by assumption) (by assumption)).mono ?_; rintro e w' ⟨rfl, rfl⟩)
      | (go_at_call 9; refine (mul_any _ _ _ (by assumption) (by assumption)).mono ?_; rintro e w' ⟨rfl, rfl⟩)
      | (go_at_call 11; refine (draw_any _ _ (by assumption) (by assumption)).mono ?_; rintro e w' ⟨rfl, rfl⟩)
      | (go_at_call 14; refine (refDraw_any _ _ (by assumption) (by assumption)).mono ?_; rintro e w' ⟨rfl, rfl⟩)
      | (go_at_call 12; refine (pick_any _ _ _ (by assumption) (by assumption) (by assumption)).mono ?_; rintro e w' ⟨rfl, rfl⟩)
      | (go_at_call 15; refine (refPick_any _ _ _ (by assumption) (by assumption) (by assumption)).mono ?_; rintro e w' ⟨rfl, rfl⟩)
      | (go_at_call 13; refine (wakes_any _).mono ?_; rintro e w' ⟨rfl, rfl⟩))
    go_ret
    exact ⟨rfl, rfl⟩

set_option maxRecDepth 100000 in
set_option maxHeartbeats 4000000 in
theorem tells_walk_b0 (a b x n : Int) (w : World) (ha : Fit a) (hb : Fit b) (x0 : 0 ≤ x) (x1 : x < 4294967296) (n1 : n ≤ 9223372036854775807)
    (d1 : (a == 0) = false) (d2 : (b == 0) = true) (k1 : mulOk a b = true) (k2 : (mulV a b != wrap64 (a * b)) = false) :
    Calls Try.prog 5 #[.int .i64 a, .int .i64 b, .int .u32 x, .int .i64 n] w fun e w' => e = .returned (.bool true) ∧ w = w' := by
  rcases tells_add ha hb with ⟨⟨g1, g2⟩, h1, h2⟩ | ⟨⟨g1, g2⟩, h1, h2⟩ | ⟨⟨g1, g2⟩, h1, h2⟩ | ⟨⟨g1, g2⟩, h1, h2⟩
  all_goals
    go_enter Try.func5, Try.ntmps5
    go_wp2_with (first
      | (go_at_call 8; refine (add_any _ _ _ (by assumption) (by assumption)).mono ?_; rintro e w' ⟨rfl, rfl⟩)
      | (go_at_call 9; refine (mul_any _ _ _ (by assumption) (by assumption)).mono ?_; rintro e w' ⟨rfl, rfl⟩)
      | (go_at_call 11; refine (draw_any _ _ (by assumption) (by assumption)).mono ?_; rintro e w' ⟨rfl, rfl⟩)
      | (go_at_call 14; refine (refDraw_any _ _ (by assumption) (by assumption)).mono ?_; rintro e w' ⟨rfl, rfl⟩)
      | (go_at_call 12; refine (pick_any _ _ _ (by assumption) (by assumption) (by assumption)).mono ?_; rintro e w' ⟨rfl, rfl⟩)
      | (go_at_call 15; refine (refPick_any _ _ _ (by assumption) (by assumption) (by assumption)).mono ?_; rintro e w' ⟨rfl, rfl⟩)
      | (go_at_call 13; refine (wakes_any _).mono ?_; rintro e w' ⟨rfl, rfl⟩))
    go_ret
    exact ⟨rfl, rfl⟩

set_option maxRecDepth 100000 in
set_option maxHeartbeats 4000000 in
theorem tells_walk_q (a b x n : Int) (w : World) (ha : Fit a) (hb : Fit b) (x0 : 0 ≤ x) (x1 : x < 4294967296) (n1 : n ≤ 9223372036854775807)
    (d1 : (a == 0) = false) (d2 : (b == 0) = false) (d3 : (wrap64 ((wrap64 (a * b)).tdiv b) == a) = false) (k1 : mulOk a b = false) (k2 : (mulV a b != 0) = false) :
    Calls Try.prog 5 #[.int .i64 a, .int .i64 b, .int .u32 x, .int .i64 n] w fun e w' => e = .returned (.bool true) ∧ w = w' := by
  have hb0 : ¬ b = 0 := by simpa using d2
  rcases tells_add ha hb with ⟨⟨g1, g2⟩, h1, h2⟩ | ⟨⟨g1, g2⟩, h1, h2⟩ | ⟨⟨g1, g2⟩, h1, h2⟩ | ⟨⟨g1, g2⟩, h1, h2⟩
  all_goals
    go_enter Try.func5, Try.ntmps5
    go_wp2_with (first
      | (go_at_call 8; refine (add_any _ _ _ (by assumption) (by assumption)).mono ?_; rintro e w' ⟨rfl, rfl⟩)
      | (go_at_call 9; refine (mul_any _ _ _ (by assumption) (by assumption)).mono ?_; rintro e w' ⟨rfl, rfl⟩)
      | (go_at_call 11; refine (draw_any _ _ (by assumption) (by assumption)).mono ?_; rintro e w' ⟨rfl, rfl⟩)
      | (go_at_call 14; refine (refDraw_any _ _ (by assumption) (by assumption)).mono ?_; rintro e w' ⟨rfl, rfl⟩)
      | (go_at_call 12; refine (pick_any _ _ _ (by assumption) (by assumption) (by assumption)).mono ?_; rintro e w' ⟨rfl, rfl⟩)
      | (go_at_call 15; refine (refPick_any _ _ _ (by assumption) (by assumption) (by assumption)).mono ?_; rintro e w' ⟨rfl, rfl⟩)
      | (go_at_call 13; refine (wakes_any _).mono ?_; rintro e w' ⟨rfl, rfl⟩))
    go_ret
    exact ⟨rfl, rfl⟩

set_option maxRecDepth 100000 in
set_option maxHeartbeats 4000000 in
theorem tells_walk_l (a b x n : Int) (w : World) (ha : Fit a) (hb : Fit b) (x0 : 0 ≤ x) (x1 : x < 4294967296) (n1 : n ≤ 9223372036854775807)
    (d1 : (a == 0) = false) (d2 : (b == 0) = false) (d3 : (wrap64 ((wrap64 (a * b)).tdiv b) == a) = true) (d4 : (b == -1) = true) (d5 : (a == -9223372036854775808) = true) (d6 : (a == -1) = false) (k1 : mulOk a b = false) (k2 : (mulV a b != 0) = false) :
    Calls Try.prog 5 #[.int .i64 a, .int .i64 b, .int .u32 x, .int .i64 n] w fun e w' => e = .returned (.bool true) ∧ w = w' := by
  have hb0 : ¬ b = 0 := by simpa using d2
  rcases tells_add ha hb with ⟨⟨g1, g2⟩, h1, h2⟩ | ⟨⟨g1, g2⟩, h1, h2⟩ | ⟨⟨g1, g2⟩, h1, h2⟩ | ⟨⟨g1, g2⟩, h1, h2⟩
  all_goals
    go_enter Try.func5, Try.ntmps5
    go_wp2_with (first
      | (go_at_call 8; refine (add_any _ _ _ (by assumption) (by assumption)).mono ?_; rintro e w' ⟨rfl, rfl⟩)
      | (go_at_call 9; refine (mul_any _ _ _ (by assumption) (by assumption)).mono ?_; rintro e w' ⟨rfl, rfl⟩)
      | (go_at_call 11; refine (draw_any _ _ (by assumption) (by assumption)).mono ?_; rintro e w' ⟨rfl, rfl⟩)
      | (go_at_call 14; refine (refDraw_any _ _ (by assumption) (by assumption)).mono ?_; rintro e w' ⟨rfl, rfl⟩)
      | (go_at_call 12; refine (pick_any _ _ _ (by assumption) (by assumption) (by assumption)).mono ?_; rintro e w' ⟨rfl, rfl⟩)
      | (go_at_call 15; refine (refPick_any _ _ _ (by assumption) (by assumption) (by assumption)).mono ?_; rintro e w' ⟨rfl, rfl⟩)
      | (go_at_call 13; refine (wakes_any _).mono ?_; rintro e w' ⟨rfl, rfl⟩))
    go_ret
    exact ⟨rfl, rfl⟩

set_option maxRecDepth 100000 in
set_option maxHeartbeats 4000000 in
theorem tells_walk_m (a b x n : Int) (w : World) (ha : Fit a) (hb : Fit b) (x0 : 0 ≤ x) (x1 : x < 4294967296) (n1 : n ≤ 9223372036854775807)
    (d1 : (a == 0) = false) (d2 : (b == 0) = false) (d3 : (wrap64 ((wrap64 (a * b)).tdiv b) == a) = true) (d4 : (b == -1) = true) (d5 : (a == -9223372036854775808) = false) (d6 : (a == -1) = true) (d7 : (b == -9223372036854775808) = false) (k1 : mulOk a b = true) (k2 : (mulV a b != wrap64 (a * b)) = false) :
    Calls Try.prog 5 #[.int .i64 a, .int .i64 b, .int .u32 x, .int .i64 n] w fun e w' => e = .returned (.bool true) ∧ w = w' := by
  have hb0 : ¬ b = 0 := by simpa using d2
  rcases tells_add ha hb with ⟨⟨g1, g2⟩, h1, h2⟩ | ⟨⟨g1, g2⟩, h1, h2⟩ | ⟨⟨g1, g2⟩, h1, h2⟩ | ⟨⟨g1, g2⟩, h1, h2⟩
  all_goals
    go_enter Try.func5, Try.ntmps5
    go_wp2_with (first
      | (go_at_call 8; refine (add_any _ _ _ (by assumption) (by assumption)).mono ?_; rintro e w' ⟨rfl, rfl⟩)
      | (go_at_call 9; refine (mul_any _ _ _ (by assumption) (by assumption)).mono ?_; rintro e w' ⟨rfl, rfl⟩)
      | (go_at_call 11; refine (draw_any _ _ (by assumption) (by assumption)).mono ?_; rintro e w' ⟨rfl, rfl⟩)
      | (go_at_call 14; refine (refDraw_any _ _ (by assumption) (by assumption)).mono ?_; rintro e w' ⟨rfl, rfl⟩)
      | (go_at_call 12; refine (pick_any _ _ _ (by assumption) (by assumption) (by assumption)).mono ?_; rintro e w' ⟨rfl, rfl⟩)
      | (go_at_call 15; refine (refPick_any _ _ _ (by assumption) (by assumption) (by assumption)).mono ?_; rintro e w' ⟨rfl, rfl⟩)
      | (go_at_call 13; refine (wakes_any _).mono ?_; rintro e w' ⟨rfl, rfl⟩))
    go_ret
    exact ⟨rfl, rfl⟩

set_option maxRecDepth 100000 in
set_option maxHeartbeats 4000000 in
theorem tells_walk_o (a b x n : Int) (w : World) (ha : Fit a) (hb : Fit b) (x0 : 0 ≤ x) (x1 : x < 4294967296) (n1 : n ≤ 9223372036854775807)
    (d1 : (a == 0) = false) (d2 : (b == 0) = false) (d3 : (wrap64 ((wrap64 (a * b)).tdiv b) == a) = true) (d4 : (b == -1) = true) (d5 : (a == -9223372036854775808) = false) (d6 : (a == -1) = false) (k1 : mulOk a b = true) (k2 : (mulV a b != wrap64 (a * b)) = false) :
    Calls Try.prog 5 #[.int .i64 a, .int .i64 b, .int .u32 x, .int .i64 n] w fun e w' => e = .returned (.bool true) ∧ w = w' := by
  have hb0 : ¬ b = 0 := by simpa using d2
  rcases tells_add ha hb with ⟨⟨g1, g2⟩, h1, h2⟩ | ⟨⟨g1, g2⟩, h1, h2⟩ | ⟨⟨g1, g2⟩, h1, h2⟩ | ⟨⟨g1, g2⟩, h1, h2⟩
  all_goals
    go_enter Try.func5, Try.ntmps5
    go_wp2_with (first
      | (go_at_call 8; refine (add_any _ _ _ (by assumption) (by assumption)).mono ?_; rintro e w' ⟨rfl, rfl⟩)
      | (go_at_call 9; refine (mul_any _ _ _ (by assumption) (by assumption)).mono ?_; rintro e w' ⟨rfl, rfl⟩)
      | (go_at_call 11; refine (draw_any _ _ (by assumption) (by assumption)).mono ?_; rintro e w' ⟨rfl, rfl⟩)
      | (go_at_call 14; refine (refDraw_any _ _ (by assumption) (by assumption)).mono ?_; rintro e w' ⟨rfl, rfl⟩)
      | (go_at_call 12; refine (pick_any _ _ _ (by assumption) (by assumption) (by assumption)).mono ?_; rintro e w' ⟨rfl, rfl⟩)
      | (go_at_call 15; refine (refPick_any _ _ _ (by assumption) (by assumption) (by assumption)).mono ?_; rintro e w' ⟨rfl, rfl⟩)
      | (go_at_call 13; refine (wakes_any _).mono ?_; rintro e w' ⟨rfl, rfl⟩))
    go_ret
    exact ⟨rfl, rfl⟩

set_option maxRecDepth 100000 in
set_option maxHeartbeats 4000000 in
theorem tells_walk_p (a b x n : Int) (w : World) (ha : Fit a) (hb : Fit b) (x0 : 0 ≤ x) (x1 : x < 4294967296) (n1 : n ≤ 9223372036854775807)
    (d1 : (a == 0) = false) (d2 : (b == 0) = false) (d3 : (wrap64 ((wrap64 (a * b)).tdiv b) == a) = true) (d4 : (b == -1) = false) (d6 : (a == -1) = true) (d7 : (b == -9223372036854775808) = false) (k1 : mulOk a b = true) (k2 : (mulV a b != wrap64 (a * b)) = false) :
    Calls Try.prog 5 #[.int .i64 a, .int .i64 b, .int .u32 x, .int .i64 n] w fun e w' => e = .returned (.bool true) ∧ w = w' := by
  have hb0 : ¬ b = 0 := by simpa using d2
  rcases tells_add ha hb with ⟨⟨g1, g2⟩, h1, h2⟩ | ⟨⟨g1, g2⟩, h1, h2⟩ | ⟨⟨g1, g2⟩, h1, h2⟩ | ⟨⟨g1, g2⟩, h1, h2⟩
  all_goals
    go_enter Try.func5, Try.ntmps5
    go_wp2_with (first
      | (go_at_call 8; refine (add_any _ _ _ (by assumption) (by assumption)).mono ?_; rintro e w' ⟨rfl, rfl⟩)
      | (go_at_call 9; refine (mul_any _ _ _ (by assumption) (by assumption)).mono ?_; rintro e w' ⟨rfl, rfl⟩)
      | (go_at_call 11; refine (draw_any _ _ (by assumption) (by assumption)).mono ?_; rintro e w' ⟨rfl, rfl⟩)
      | (go_at_call 14; refine (refDraw_any _ _ (by assumption) (by assumption)).mono ?_; rintro e w' ⟨rfl, rfl⟩)
      | (go_at_call 12; refine (pick_any _ _ _ (by assumption) (by assumption) (by assumption)).mono ?_; rintro e w' ⟨rfl, rfl⟩)
      | (go_at_call 15; refine (refPick_any _ _ _ (by assumption) (by assumption) (by assumption)).mono ?_; rintro e w' ⟨rfl, rfl⟩)
      | (go_at_call 13; refine (wakes_any _).mono ?_; rintro e w' ⟨rfl, rfl⟩))
    go_ret
    exact ⟨rfl, rfl⟩

set_option maxRecDepth 100000 in
set_option maxHeartbeats 4000000 in
theorem tells_walk_r (a b x n : Int) (w : World) (ha : Fit a) (hb : Fit b) (x0 : 0 ≤ x) (x1 : x < 4294967296) (n1 : n ≤ 9223372036854775807)
    (d1 : (a == 0) = false) (d2 : (b == 0) = false) (d3 : (wrap64 ((wrap64 (a * b)).tdiv b) == a) = true) (d4 : (b == -1) = false) (d6 : (a == -1) = false) (k1 : mulOk a b = true) (k2 : (mulV a b != wrap64 (a * b)) = false) :
    Calls Try.prog 5 #[.int .i64 a, .int .i64 b, .int .u32 x, .int .i64 n] w fun e w' => e = .returned (.bool true) ∧ w = w' := by
  have hb0 : ¬ b = 0 := by simpa using d2
  rcases tells_add ha hb with ⟨⟨g1, g2⟩, h1, h2⟩ | ⟨⟨g1, g2⟩, h1, h2⟩ | ⟨⟨g1, g2⟩, h1, h2⟩ | ⟨⟨g1, g2⟩, h1, h2⟩
  all_goals
    go_enter Try.func5, Try.ntmps5
    go_wp2_with (first
      | (go_at_call 8; refine (add_any _ _ _ (by assumption) (by assumption)).mono ?_; rintro e w' ⟨rfl, rfl⟩)
      | (go_at_call 9; refine (mul_any _ _ _ (by assumption) (by assumption)).mono ?_; rintro e w' ⟨rfl, rfl⟩)
      | (go_at_call 11; refine (draw_any _ _ (by assumption) (by assumption)).mono ?_; rintro e w' ⟨rfl, rfl⟩)
      | (go_at_call 14; refine (refDraw_any _ _ (by assumption) (by assumption)).mono ?_; rintro e w' ⟨rfl, rfl⟩)
      | (go_at_call 12; refine (pick_any _ _ _ (by assumption) (by assumption) (by assumption)).mono ?_; rintro e w' ⟨rfl, rfl⟩)
      | (go_at_call 15; refine (refPick_any _ _ _ (by assumption) (by assumption) (by assumption)).mono ?_; rintro e w' ⟨rfl, rfl⟩)
      | (go_at_call 13; refine (wakes_any _).mono ?_; rintro e w' ⟨rfl, rfl⟩))
    go_ret
    exact ⟨rfl, rfl⟩

theorem tells_walk (a b x n : Int) (w : World) (ha : Fit a) (hb : Fit b) (x0 : 0 ≤ x) (x1 : x < 4294967296) (n1 : n ≤ 9223372036854775807) :
    Calls Try.prog 5 #[.int .i64 a, .int .i64 b, .int .u32 x, .int .i64 n] w fun e w' => e = .returned (.bool true) ∧ w = w' := by
  by_cases h0 : a = 0
  · obtain ⟨k1, k2⟩ := mul_yes (a := a) (b := b) (by subst h0; rw [Int.zero_mul]; exact fit_zero)
    exact tells_walk_a0 a b x n w ha hb x0 x1 n1 (beq_of h0) k1 k2
  · have d1 := bne_of h0
    by_cases h1 : b = 0
    · obtain ⟨k1, k2⟩ := mul_yes (a := a) (b := b) (by subst h1; rw [Int.mul_zero]; exact fit_zero)
      exact tells_walk_b0 a b x n w ha hb x0 x1 n1 d1 (beq_of h1) k1 k2
    · have d2 := bne_of h1
      rcases tells_mul ha hb h1 with ⟨d3, k1, k2⟩ | ⟨d3, d4, d5, d6, k1, k2⟩ | ⟨d3, d4, d5, d6, d7, k1, k2⟩ | ⟨d3, d4, d5, d6, k1, k2⟩ | ⟨d3, d4, d6, d7, k1, k2⟩ | ⟨d3, d4, d6, k1, k2⟩
      · exact tells_walk_q a b x n w ha hb x0 x1 n1 d1 d2 d3 k1 k2
      · exact tells_walk_l a b x n w ha hb x0 x1 n1 d1 d2 d3 d4 d5 d6 k1 k2
      · exact tells_walk_m a b x n w ha hb x0 x1 n1 d1 d2 d3 d4 d5 d6 d7 k1 k2
      · exact tells_walk_o a b x n w ha hb x0 x1 n1 d1 d2 d3 d4 d5 d6 k1 k2
      · exact tells_walk_p a b x n w ha hb x0 x1 n1 d1 d2 d3 d4 d6 d7 k1 k2
      · exact tells_walk_r a b x n w ha hb x0 x1 n1 d1 d2 d3 d4 d6 k1 k2
end Go.Proofs.Ytnnoglnnaliadaa
