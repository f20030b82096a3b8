/- What each call of package num, and of the statements' helps, answers, for every argument of its type: sums, products, draws, picks; the world stands. -/
import Derived.Test.YtnnoglnnaliadaaProg
import Derived.Test.YtnnoglnnaliadaaPlain
import Derived.WalkKit
import Derived.WalkLawsBesides
import Derived.Lib.Hide
namespace Go.Proofs.Ytnnoglnnaliadaa
open Go.RowKit

theorem ret_int {k : IntKind} {a b : Int} (h : a = b) : Ending.returned (.int k a) = .returned (.int k b) := by rw [h]
theorem ret_two {a b : Int} {c d : Bool} (h : a = b) (g : c = d) : Ending.returned (.tuple #[.int .i64 a, .bool c]) = .returned (.tuple #[.int .i64 b, .bool d]) := by rw [h, g]

set_option maxHeartbeats 400000 in
theorem add_any (a b : Int) (w : World) (ha : Fit a) (hb : Fit b) :
    Calls Try.prog 8 #[.int .i64 a, .int .i64 b] w fun e w' => e = .returned (.tuple #[.int .i64 (addV a b), .bool (addOk a b)]) ∧ w = w' := by
  go_enter Try.func8, Try.ntmps8
  go_wp2
  · have h := add_neg ha hb ‹_›
    go_ret2
    exact ⟨ret_two (by unfold addV; rw [h]; rfl) (by unfold addOk; rw [h]), rfl⟩
  · have h := add_pos ha hb ‹_›
    go_ret2
    exact ⟨ret_two (by unfold addV; rw [h]; exact wrap_fit (fit_of h)) (by unfold addOk; rw [h]), rfl⟩

set_option maxHeartbeats 400000 in
theorem mul_zero (a : Int) (w : World) :
    Calls Try.prog 9 #[.int .i64 a, .int .i64 0] w fun e w' => e = .returned (.tuple #[.int .i64 (mulV a 0), .bool (mulOk a 0)]) ∧ w = w' := by
  have h : fitB (a * 0) = true := fitB_true (by unfold Fit; simp)
  have HV := Lib.hid (show mulV a 0 = 0 by unfold mulV; rw [h]; simp)
  have HO := Lib.hid (show mulOk a 0 = true by unfold mulOk; rw [h])
  clear h
  go_enter Try.func9, Try.ntmps9
  go_wp2
  go_ret2
  exact ⟨ret_two HV.out.symm HO.out.symm, rfl⟩

set_option maxHeartbeats 400000 in
theorem mul_other (a b : Int) (w : World) (ha : Fit a) (hb : Fit b) (h0 : (b == 0) = false) :
    Calls Try.prog 9 #[.int .i64 a, .int .i64 b] w fun e w' => e = .returned (.tuple #[.int .i64 (mulV a b), .bool (mulOk a b)]) ∧ w = w' := by
  have hne : b ≠ 0 := by simpa using h0
  by_cases hq : wrap64 ((wrap64 (a * b)).tdiv b) = a
  · by_cases hl : a = -9223372036854775808 ∧ b = -1
    · obtain ⟨rfl, rfl⟩ := hl
      have hf : fitB (-9223372036854775808 * -1) = false := fitB_false low_mul
      have HV := Lib.hid (show mulV (-9223372036854775808) (-1) = 0 by unfold mulV; rw [hf]; rfl)
      have HO := Lib.hid (show mulOk (-9223372036854775808) (-1) = false by unfold mulOk; rw [hf])
      clear hf hq hne h0 ha hb
      go_enter Try.func9, Try.ntmps9
      go_wp2
      all_goals
        go_ret2
        exact ⟨ret_two HV.out.symm HO.out.symm, rfl⟩
    · have hf : fitB (a * b) = true := fitB_true (mul_back ha hb hne hl hq)
      have HV := Lib.hid (show wrap64 (a * b) = mulV a b by unfold mulV; rw [hf]; exact wrap_fit (fit_of hf))
      have HO := Lib.hid (show mulOk a b = true by unfold mulOk; rw [hf])
      have hq' : (wrap64 ((wrap64 (a * b)).tdiv b) != a) = false := by simpa using hq
      clear hf hq
      by_cases ha1 : a = -9223372036854775808
      · have hb1 : (b == -1) = false := by
          rw [beq_eq_false_iff_ne]; intro h; exact hl ⟨ha1, h⟩
        subst ha1
        clear hl
        go_enter Try.func9, Try.ntmps9
        go_wp2
        go_ret2
        exact ⟨ret_two HV.out HO.out.symm, rfl⟩
      · have ha2 : (a == -9223372036854775808) = false := by simpa using ha1
        clear hl
        go_enter Try.func9, Try.ntmps9
        go_wp2
        go_ret2
        exact ⟨ret_two HV.out HO.out.symm, rfl⟩
  · have hf : fitB (a * b) = false := fitB_false (fun h => hq (mul_forth ha hne h))
    have HV := Lib.hid (show mulV a b = 0 by unfold mulV; rw [hf]; rfl)
    have HO := Lib.hid (show mulOk a b = false by unfold mulOk; rw [hf])
    have hq' : (wrap64 ((wrap64 (a * b)).tdiv b) != a) = true := by simpa using hq
    clear hf
    go_enter Try.func9, Try.ntmps9
    go_wp2
    go_ret2
    exact ⟨ret_two HV.out.symm HO.out.symm, rfl⟩

theorem mul_any (a b : Int) (w : World) (ha : Fit a) (hb : Fit b) :
    Calls Try.prog 9 #[.int .i64 a, .int .i64 b] w fun e w' => e = .returned (.tuple #[.int .i64 (mulV a b), .bool (mulOk a b)]) ∧ w = w' := by
  by_cases h : b = 0
  · subst h; exact mul_zero a w
  · exact mul_other a b w ha hb (by simpa using h)

set_option maxHeartbeats 400000 in
theorem within_any (v n : Int) (w : World) (h1 : 1 ≤ n) (h2 : n ≤ 9223372036854775807) :
    Calls Try.prog 10 #[.int .i64 v, .int .i64 n] w fun e w' => e = .returned (.int .i64 (withinI v n)) ∧ w = w' := by
  go_enter Try.func10, Try.ntmps10
  go_wp2
  · go_ret
    exact ⟨ret_int (within_neg h1 h2 ‹_›), rfl⟩
  · go_ret
    exact ⟨ret_int (within_pos h1 ‹_›), rfl⟩

set_option maxHeartbeats 400000 in
theorem draw_any (x : Int) (w : World) (h0 : 0 ≤ x) (h1 : x < 4294967296) :
    Calls Try.prog 11 #[.int .u32 x] w fun e w' => e = .returned (.int .u32 (drawI x)) ∧ w = w' := by
  go_enter Try.func11, Try.ntmps11
  go_wp2
  · go_ret
    exact ⟨ret_int (drawI_zero ‹_›), rfl⟩
  · go_ret
    exact ⟨ret_int (drawI_step h0 h1 ‹_›), rfl⟩

set_option maxHeartbeats 400000 in
theorem refDraw_any (x : Int) (w : World) (h0 : 0 ≤ x) (h1 : x < 4294967296) :
    Calls Try.prog 14 #[.int .u32 x] w fun e w' => e = .returned (.int .u32 (drawI x)) ∧ w = w' := by
  go_enter Try.func14, Try.ntmps14
  go_wp2
  · go_ret
    exact ⟨ret_int (drawI_zero ‹_›), rfl⟩
  · go_ret
    exact ⟨ret_int (drawI_step h0 h1 ‹_›), rfl⟩

set_option maxHeartbeats 400000 in
theorem pick_any (x n : Int) (w : World) (h0 : 0 ≤ x) (h1 : x < 4294967296) (h2 : n ≤ 9223372036854775807) :
    Calls Try.prog 12 #[.int .u32 x, .int .i64 n] w fun e w' => e = .returned (.int .i64 (pickI x n)) ∧ w = w' := by
  by_cases hn : n < 1
  · go_enter Try.func12, Try.ntmps12
    go_wp2
    go_ret
    exact ⟨ret_int (pickI_low hn), rfl⟩
  · have hn' : 1 ≤ n := by omega
    go_enter Try.func12, Try.ntmps12
    go_wp2
    go_ret
    exact ⟨ret_int (pickI_walk hn' h2), rfl⟩

set_option maxHeartbeats 400000 in
theorem refPick_any (x n : Int) (w : World) (h0 : 0 ≤ x) (h1 : x < 4294967296) (h2 : n ≤ 9223372036854775807) :
    Calls Try.prog 15 #[.int .u32 x, .int .i64 n] w fun e w' => e = .returned (.int .i64 (pickI x n)) ∧ w = w' := by
  by_cases hn : n < 1
  · go_enter Try.func15, Try.ntmps15
    go_wp2
    go_ret
    exact ⟨ret_int (pickI_low hn), rfl⟩
  · have hn' : 1 ≤ n := by omega
    go_enter Try.func15, Try.ntmps15
    go_wp2
    go_ret
    exact ⟨ret_int (pickI_walk hn' h2), rfl⟩

theorem draw_one : (drawI 1 == 270369) = true := by decide +kernel
set_option maxHeartbeats 400000 in
theorem wakes_any (w : World) : Calls Try.prog 13 #[] w fun e w' => e = .returned (.bool true) ∧ w = w' := by
  have h := draw_one
  go_enter Try.func13, Try.ntmps13
  go_wp2_with (go_at_call 11; refine (draw_any _ _ (by omega) (by omega)).mono ?_; rintro e w' ⟨rfl, rfl⟩)
  go_ret
  exact ⟨rfl, rfl⟩
end Go.Proofs.Ytnnoglnnaliadaa
