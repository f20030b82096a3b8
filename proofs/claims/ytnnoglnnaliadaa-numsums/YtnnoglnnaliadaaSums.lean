/- The walk of NumSums: for any three int64 the law returns true; the world stands. -/
import Derived.Test.YtnnoglnnaliadaaParts
import Derived.RowKit3
namespace Go.Proofs.Ytnnoglnnaliadaa
open Go.RowKit

theorem sums_cases (a b c : Int) : addOk a b = false ∨ (addOk a b = true ∧ addOk (addV a b) c = false) ∨
    (addOk a b = true ∧ addOk (addV a b) c = true ∧ addOk b c = false) ∨
    (addOk a b = true ∧ addOk (addV a b) c = true ∧ addOk b c = true ∧ addOk a (addV b c) = true ∧ (addV (addV a b) c != addV a (addV b c)) = false) := by
  rcases h1 : addOk a b with _ | _
  · exact .inl rfl
  · rcases h2 : addOk (addV a b) c with _ | _
    · exact .inr (.inl ⟨rfl, rfl⟩)
    · rcases h3 : addOk b c with _ | _
      · exact .inr (.inr (.inl ⟨rfl, rfl, rfl⟩))
      · obtain ⟨g1, g2⟩ := sums_three h1 h2 h3
        exact .inr (.inr (.inr ⟨rfl, rfl, rfl, g1, by rw [g2]; simp⟩))
theorem parts_cases (a b c : Int) (h0 : addOk a b = true) : mulOk a c = false ∨ (mulOk a c = true ∧ mulOk b c = false) ∨
    (mulOk a c = true ∧ mulOk b c = true ∧ addOk (mulV a c) (mulV b c) = false) ∨
    (mulOk a c = true ∧ mulOk b c = true ∧ addOk (mulV a c) (mulV b c) = true ∧ mulOk (addV a b) c = true ∧ (addV (mulV a c) (mulV b c) == mulV (addV a b) c) = true) := by
  rcases h1 : mulOk a c with _ | _
  · exact .inl rfl
  · rcases h2 : mulOk b c with _ | _
    · exact .inr (.inl ⟨rfl, rfl⟩)
    · rcases h3 : addOk (mulV a c) (mulV b c) with _ | _
      · exact .inr (.inr (.inl ⟨rfl, rfl, rfl⟩))
      · obtain ⟨g1, g2⟩ := parts_over h0 h1 h2 h3
        exact .inr (.inr (.inr ⟨rfl, rfl, rfl, g1, by rw [g2]; simp⟩))

set_option maxRecDepth 100000 in
set_option maxHeartbeats 1000000 in
theorem sums_walk (a b c : Int) (w : World) (ha : Fit a) (hb : Fit b) (hc : Fit c) :
    Calls Try.prog 7 #[.int .i64 a, .int .i64 b, .int .i64 c] w fun e w' => e = .returned (.bool true) ∧ w = w' := by
  have f1 := fit_addV a b
  have f2 := fit_addV b c
  have f3 := fit_mulV a c
  have f4 := fit_mulV b c
  rcases sums_cases a b c with h | ⟨h, h2⟩ | ⟨h, h2, h3⟩ | ⟨h, h2, h3, h4, h5⟩
  · go_enter Try.func7, Try.ntmps7
    go_wp2_with (first
      | (go_at_call 8; refine (add_any _ _ _ (by assumption) (by assumption)).mono ?_; rintro e w' ⟨rfl, rfl⟩)
      | (go_at_call 9; refine (mul_any _ _ _ (by assumption) (by assumption)).mono ?_; rintro e w' ⟨rfl, rfl⟩)
      | (go_at_call 13; refine (wakes_any _).mono ?_; rintro e w' ⟨rfl, rfl⟩))
    go_ret
    exact ⟨rfl, rfl⟩
  all_goals
    rcases parts_cases a b c h with k | ⟨k, k2⟩ | ⟨k, k2, k3⟩ | ⟨k, k2, k3, k4, k5⟩
    all_goals
      go_enter Try.func7, Try.ntmps7
      go_wp2_with (first
        | (go_at_call 8; refine (add_any _ _ _ (by assumption) (by assumption)).mono ?_; rintro e w' ⟨rfl, rfl⟩)
        | (go_at_call 9; refine (mul_any _ _ _ (by assumption) (by assumption)).mono ?_; rintro e w' ⟨rfl, rfl⟩)
        | (go_at_call 13; refine (wakes_any _).mono ?_; rintro e w' ⟨rfl, rfl⟩))
      go_ret
      exact ⟨rfl, rfl⟩
end Go.Proofs.Ytnnoglnnaliadaa
