/- The walk of NumLaws: for any two int64, any two uint32, any int the law returns true; the world stands. -/
import Derived.Test.YtnnoglnnaliadaaParts
import Derived.RowKit3
namespace Go.Proofs.Ytnnoglnnaliadaa
open Go.RowKit

theorem addOk_comm (a b : Int) : addOk b a = addOk a b := by unfold addOk; rw [Int.add_comm]
theorem addV_comm (a b : Int) : addV b a = addV a b := by unfold addV; rw [Int.add_comm]
theorem mulOk_comm (a b : Int) : mulOk b a = mulOk a b := by unfold mulOk; rw [Int.mul_comm]
theorem mulV_comm (a b : Int) : mulV b a = mulV a b := by unfold mulV; rw [Int.mul_comm]
theorem comm_facts (a b : Int) : (addV a b != addV b a) = false ∧ (addOk a b != addOk b a) = false ∧ (mulV a b != mulV b a) = false ∧ (mulOk a b != mulOk b a) = false := by
  rw [addOk_comm, addV_comm, mulOk_comm, mulV_comm]; simp
theorem one_facts {a : Int} (ha : Fit a) : addOk a 0 = true ∧ (addV a 0 == a) = true ∧ mulOk a 1 = true ∧ (mulV a 1 == a) = true := by
  have h1 : addOk a 0 = true := addOk_mk (by rw [Int.add_zero]; exact ha)
  have h2 : mulOk a 1 = true := mulOk_mk (by rw [Int.mul_one]; exact ha)
  refine ⟨h1, ?_, h2, ?_⟩
  · rw [addV_ok h1]; simp
  · rw [mulV_ok h2]; simp
theorem away_facts {a b : Int} (ha : Fit a) (h : addOk a b = true) : addOk (addV a b) (-b) = true ∧ (addV (addV a b) (-b) != a) = false := by
  have e := addV_ok h
  have g : Fit (addV a b + -b) := by rw [e]; unfold Fit at *; omega
  refine ⟨addOk_mk g, ?_⟩
  rw [addV_ok (addOk_mk g), e]
  simp; omega
theorem draw_facts {x y : Int} (x0 : 0 ≤ x) (x1 : x < 4294967296) (y0 : 0 ≤ y) (y1 : y < 4294967296) :
    (x == 0) = true ∨ ((x == 0) = false ∧ (y == 0) = true) ∨
    ((x == 0) = false ∧ (y == 0) = false ∧ (x == y) = true ∧ (drawI x == drawI y) = true) ∨
    ((x == 0) = false ∧ (y == 0) = false ∧ (x == y) = false ∧ (drawI x == drawI y) = false) := by
  by_cases hx : x = 0
  · exact .inl (by simpa using hx)
  · by_cases hy : y = 0
    · exact .inr (.inl ⟨by simpa using hx, by simpa using hy⟩)
    · by_cases h : x = y
      · exact .inr (.inr (.inl ⟨by simpa using hx, by simpa using hy, by simpa using h, by rw [h]; simp⟩))
      · exact .inr (.inr (.inr ⟨by simpa using hx, by simpa using hy, by simpa using h, by
          rw [beq_eq_false_iff_ne]; intro g; exact h (drawI_inj (by omega) x1 (by omega) y1 g)⟩))
theorem fit_zero' : Fit 0 := by unfold Fit; omega
theorem fit_one : Fit 1 := by unfold Fit; omega
theorem fit_neg {b : Int} (hb : Fit b) (h : b ≠ -9223372036854775808) : Fit (-b) := by unfold Fit at *; omega

set_option maxRecDepth 100000 in
set_option maxHeartbeats 4000000 in
theorem laws_walk_no (a b x y n : Int) (w : World) (ha : Fit a) (hb : Fit b) (x0 : 0 ≤ x) (x1 : x < 4294967296) (y0 : 0 ≤ y) (y1 : y < 4294967296) (n1 : n ≤ 9223372036854775807)
    (h1 : addOk a b = false) (h2 : addOk b a = false) :
    Calls Try.prog 6 #[.int .i64 a, .int .i64 b, .int .u32 x, .int .u32 y, .int .i64 n] w fun e w' => e = .returned (.bool true) ∧ w = w' := by
  obtain ⟨c1, -, c3, -⟩ := comm_facts a b
  obtain ⟨m, m1, m2⟩ : ∃ m, mulOk a b = m ∧ mulOk b a = m := ⟨_, rfl, mulOk_comm a b⟩
  obtain ⟨o1, o2, o3, o4⟩ := one_facts ha
  have z0 := fit_zero'
  have z1 := fit_one
  have dn : (drawI x != 0) = true := by have := (drawI_bounds x0 x1).1; simp; omega
  by_cases hn : n < 1
  · have p : (pickI x n == 0) = true := by rw [← pickI_low hn]; rfl
    rcases draw_facts x0 x1 y0 y1 with d1 | ⟨d1, d2⟩ | ⟨d1, d2, d3, d4⟩ | ⟨d1, d2, d3, d4⟩
    all_goals
      go_enter Try.func6, Try.ntmps6
      go_wp2_with (first
        | (go_at_call 8; refine (add_any _ _ _ (by assumption) (by assumption)).mono ?_; rintro e w' ⟨rfl, rfl⟩)
        | (go_at_call 9; refine (mul_any _ _ _ (by assumption) (by assumption)).mono ?_; rintro e w' ⟨rfl, rfl⟩)
        | (go_at_call 11; refine (draw_any _ _ (by assumption) (by assumption)).mono ?_; rintro e w' ⟨rfl, rfl⟩)
        | (go_at_call 12; refine (pick_any _ _ _ (by assumption) (by assumption) (by assumption)).mono ?_; rintro e w' ⟨rfl, rfl⟩)
        | (go_at_call 13; refine (wakes_any _).mono ?_; rintro e w' ⟨rfl, rfl⟩))
      go_ret
      exact ⟨rfl, rfl⟩
  · obtain ⟨p1, p2⟩ := pickI_bounds (x := x) (n := n) (by omega)
    have hn' : 1 ≤ n := by omega
    rcases draw_facts x0 x1 y0 y1 with d1 | ⟨d1, d2⟩ | ⟨d1, d2, d3, d4⟩ | ⟨d1, d2, d3, d4⟩
    all_goals
      go_enter Try.func6, Try.ntmps6
      go_wp2_with (first
        | (go_at_call 8; refine (add_any _ _ _ (by assumption) (by assumption)).mono ?_; rintro e w' ⟨rfl, rfl⟩)
        | (go_at_call 9; refine (mul_any _ _ _ (by assumption) (by assumption)).mono ?_; rintro e w' ⟨rfl, rfl⟩)
        | (go_at_call 11; refine (draw_any _ _ (by assumption) (by assumption)).mono ?_; rintro e w' ⟨rfl, rfl⟩)
        | (go_at_call 12; refine (pick_any _ _ _ (by assumption) (by assumption) (by assumption)).mono ?_; rintro e w' ⟨rfl, rfl⟩)
        | (go_at_call 13; refine (wakes_any _).mono ?_; rintro e w' ⟨rfl, rfl⟩))
      go_ret
      exact ⟨rfl, rfl⟩
set_option maxRecDepth 100000 in
set_option maxHeartbeats 4000000 in
theorem laws_walk_low (a b x y n : Int) (w : World) (ha : Fit a) (hb : Fit b) (x0 : 0 ≤ x) (x1 : x < 4294967296) (y0 : 0 ≤ y) (y1 : y < 4294967296) (n1 : n ≤ 9223372036854775807)
    (h1 : addOk a b = true) (h2 : addOk b a = true) (h3 : (b != -9223372036854775808) = false) :
    Calls Try.prog 6 #[.int .i64 a, .int .i64 b, .int .u32 x, .int .u32 y, .int .i64 n] w fun e w' => e = .returned (.bool true) ∧ w = w' := by
  obtain ⟨c1, -, c3, -⟩ := comm_facts a b
  obtain ⟨m, m1, m2⟩ : ∃ m, mulOk a b = m ∧ mulOk b a = m := ⟨_, rfl, mulOk_comm a b⟩
  obtain ⟨o1, o2, o3, o4⟩ := one_facts ha
  have z0 := fit_zero'
  have z1 := fit_one
  have dn : (drawI x != 0) = true := by have := (drawI_bounds x0 x1).1; simp; omega
  by_cases hn : n < 1
  · have p : (pickI x n == 0) = true := by rw [← pickI_low hn]; rfl
    rcases draw_facts x0 x1 y0 y1 with d1 | ⟨d1, d2⟩ | ⟨d1, d2, d3, d4⟩ | ⟨d1, d2, d3, d4⟩
    all_goals
      go_enter Try.func6, Try.ntmps6
      go_wp2_with (first
        | (go_at_call 8; refine (add_any _ _ _ (by assumption) (by assumption)).mono ?_; rintro e w' ⟨rfl, rfl⟩)
        | (go_at_call 9; refine (mul_any _ _ _ (by assumption) (by assumption)).mono ?_; rintro e w' ⟨rfl, rfl⟩)
        | (go_at_call 11; refine (draw_any _ _ (by assumption) (by assumption)).mono ?_; rintro e w' ⟨rfl, rfl⟩)
        | (go_at_call 12; refine (pick_any _ _ _ (by assumption) (by assumption) (by assumption)).mono ?_; rintro e w' ⟨rfl, rfl⟩)
        | (go_at_call 13; refine (wakes_any _).mono ?_; rintro e w' ⟨rfl, rfl⟩))
      go_ret
      exact ⟨rfl, rfl⟩
  · obtain ⟨p1, p2⟩ := pickI_bounds (x := x) (n := n) (by omega)
    have hn' : 1 ≤ n := by omega
    rcases draw_facts x0 x1 y0 y1 with d1 | ⟨d1, d2⟩ | ⟨d1, d2, d3, d4⟩ | ⟨d1, d2, d3, d4⟩
    all_goals
      go_enter Try.func6, Try.ntmps6
      go_wp2_with (first
        | (go_at_call 8; refine (add_any _ _ _ (by assumption) (by assumption)).mono ?_; rintro e w' ⟨rfl, rfl⟩)
        | (go_at_call 9; refine (mul_any _ _ _ (by assumption) (by assumption)).mono ?_; rintro e w' ⟨rfl, rfl⟩)
        | (go_at_call 11; refine (draw_any _ _ (by assumption) (by assumption)).mono ?_; rintro e w' ⟨rfl, rfl⟩)
        | (go_at_call 12; refine (pick_any _ _ _ (by assumption) (by assumption) (by assumption)).mono ?_; rintro e w' ⟨rfl, rfl⟩)
        | (go_at_call 13; refine (wakes_any _).mono ?_; rintro e w' ⟨rfl, rfl⟩))
      go_ret
      exact ⟨rfl, rfl⟩
set_option maxRecDepth 100000 in
set_option maxHeartbeats 4000000 in
theorem laws_walk_yes (a b x y n : Int) (w : World) (ha : Fit a) (hb : Fit b) (x0 : 0 ≤ x) (x1 : x < 4294967296) (y0 : 0 ≤ y) (y1 : y < 4294967296) (n1 : n ≤ 9223372036854775807)
    (h1 : addOk a b = true) (h2 : addOk b a = true) (h3 : (b != -9223372036854775808) = true) (hm : Fit (-b)) (hl : -9223372036854775807 ≤ b) (hr : b ≤ 9223372036854775807) :
    Calls Try.prog 6 #[.int .i64 a, .int .i64 b, .int .u32 x, .int .u32 y, .int .i64 n] w fun e w' => e = .returned (.bool true) ∧ w = w' := by
  obtain ⟨c1, -, c3, -⟩ := comm_facts a b
  obtain ⟨m, m1, m2⟩ : ∃ m, mulOk a b = m ∧ mulOk b a = m := ⟨_, rfl, mulOk_comm a b⟩
  obtain ⟨o1, o2, o3, o4⟩ := one_facts ha
  obtain ⟨g1, g2⟩ := away_facts ha h1
  have fs := fit_addV a b
  have z0 := fit_zero'
  have z1 := fit_one
  have dn : (drawI x != 0) = true := by have := (drawI_bounds x0 x1).1; simp; omega
  by_cases hn : n < 1
  · have p : (pickI x n == 0) = true := by rw [← pickI_low hn]; rfl
    rcases draw_facts x0 x1 y0 y1 with d1 | ⟨d1, d2⟩ | ⟨d1, d2, d3, d4⟩ | ⟨d1, d2, d3, d4⟩
    all_goals
      go_enter Try.func6, Try.ntmps6
      go_wp2_with (first
        | (go_at_call 8; refine (add_any _ _ _ (by assumption) (by assumption)).mono ?_; rintro e w' ⟨rfl, rfl⟩)
        | (go_at_call 9; refine (mul_any _ _ _ (by assumption) (by assumption)).mono ?_; rintro e w' ⟨rfl, rfl⟩)
        | (go_at_call 11; refine (draw_any _ _ (by assumption) (by assumption)).mono ?_; rintro e w' ⟨rfl, rfl⟩)
        | (go_at_call 12; refine (pick_any _ _ _ (by assumption) (by assumption) (by assumption)).mono ?_; rintro e w' ⟨rfl, rfl⟩)
        | (go_at_call 13; refine (wakes_any _).mono ?_; rintro e w' ⟨rfl, rfl⟩))
      go_ret
      exact ⟨rfl, rfl⟩
  · obtain ⟨p1, p2⟩ := pickI_bounds (x := x) (n := n) (by omega)
    have hn' : 1 ≤ n := by omega
    rcases draw_facts x0 x1 y0 y1 with d1 | ⟨d1, d2⟩ | ⟨d1, d2, d3, d4⟩ | ⟨d1, d2, d3, d4⟩
    all_goals
      go_enter Try.func6, Try.ntmps6
      go_wp2_with (first
        | (go_at_call 8; refine (add_any _ _ _ (by assumption) (by assumption)).mono ?_; rintro e w' ⟨rfl, rfl⟩)
        | (go_at_call 9; refine (mul_any _ _ _ (by assumption) (by assumption)).mono ?_; rintro e w' ⟨rfl, rfl⟩)
        | (go_at_call 11; refine (draw_any _ _ (by assumption) (by assumption)).mono ?_; rintro e w' ⟨rfl, rfl⟩)
        | (go_at_call 12; refine (pick_any _ _ _ (by assumption) (by assumption) (by assumption)).mono ?_; rintro e w' ⟨rfl, rfl⟩)
        | (go_at_call 13; refine (wakes_any _).mono ?_; rintro e w' ⟨rfl, rfl⟩))
      go_ret
      exact ⟨rfl, rfl⟩
theorem laws_walk (a b x y n : Int) (w : World) (ha : Fit a) (hb : Fit b) (x0 : 0 ≤ x) (x1 : x < 4294967296) (y0 : 0 ≤ y) (y1 : y < 4294967296) (n1 : n ≤ 9223372036854775807) :
    Calls Try.prog 6 #[.int .i64 a, .int .i64 b, .int .u32 x, .int .u32 y, .int .i64 n] w fun e w' => e = .returned (.bool true) ∧ w = w' := by
  rcases h : addOk a b with _ | _
  · exact laws_walk_no a b x y n w ha hb x0 x1 y0 y1 n1 h (by rw [addOk_comm]; exact h)
  · have h2 : addOk b a = true := by rw [addOk_comm]; exact h
    by_cases hl : b = -9223372036854775808
    · exact laws_walk_low a b x y n w ha hb x0 x1 y0 y1 n1 h h2 (by simpa using hl)
    · exact laws_walk_yes a b x y n w ha hb x0 x1 y0 y1 n1 h h2 (by simpa using hl) (fit_neg hb hl) (by unfold Fit at hb; omega) (by unfold Fit at hb; omega)
end Go.Proofs.Ytnnoglnnaliadaa
