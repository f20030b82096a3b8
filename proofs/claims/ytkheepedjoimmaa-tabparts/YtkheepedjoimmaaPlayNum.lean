/- draymanplay.num: some number. -/
import Derived.Test.YtkheepedjoimmaaKeep
import Derived.Test.YtkheepedjoimmaaInstTravel
namespace Go.Proofs.Ytkheepedjoimmaa
open Go.RowKit
def Fit64 (a : Int) : Prop := -9223372036854775808 ≤ a ∧ a ≤ 9223372036854775807
/-- draymanplay.num of a list, by its place -/
def numF (l : List Int) (k : Nat) : Int := if l.length = 0 then (k : Int) * 7 else wrap64 (wrap64 ((l[k % l.length]?.getD 0).tdiv (1 + ((k / l.length : Nat) : Int))) + ((k / l.length : Nat) : Int))
def NumF (l : List Int) (k : Nat) (n : Int) : Prop := Fit64 n ∧ n = numF l k
def SomeN (l : List Int) (k : Nat) (w : World) (e : Ending) (w' : World) : Prop := ∃ n m, e = .returned (.int .i64 n) ∧ NumF l k n ∧ w' = w.drewN m
theorem fit_wrap (x : Int) : Fit64 (wrap64 x) := by unfold Fit64 wrap64; omega
set_option maxRecDepth 100000 in
set_option maxHeartbeats 1000000 in
theorem num_any (v : Value) (l : List Int) (k : Nat) (w : World) (h : Recs w 1 num_ v l) (hk : k ≤ 100) (hl : l.length ≤ 9223372036854775807) :
    Calls Try.prog 28 #[v, .int .i64 k] w (SomeN l k w) := by
  obtain ⟨A, cap, rfl, hc⟩ := h.num
  by_cases h0 : l.length = 0
  · have t1 : ((l.length : Int) == 0) = true := by simpa using h0
    have t2 : (l.length == 0) = true := by simpa using h0
    clear hc h
    go_enter Try.func28, Try.ntmps28
    go_wp2
    go_ret
    exact ⟨_, 0, rfl, ⟨⟨by omega, by omega⟩, (if_pos h0).symm⟩, rfl⟩
  · have t1 : ((l.length : Int) == 0) = false := by rw [beq_eq_false_iff_ne]; omega
    have t2 : (l.length == 0) = false := by rw [beq_eq_false_iff_ne]; exact h0
    obtain ⟨j, hj, hjl, HJ⟩ : ∃ j : Nat, (k : Int).tmod (l.length : Int) = (j : Int) ∧ j < l.length ∧ Hid (j = k % l.length) := by
      have h1 : (k : Int).tmod (l.length : Int) = ((k % l.length : Nat) : Int) := by rw [Int.tmod_eq_emod_of_nonneg (by omega)]; rfl
      exact ⟨k % l.length, h1, Nat.mod_lt _ (by omega), Lib.hid rfl⟩
    obtain ⟨q, hq, hq2, HQ⟩ : ∃ q : Nat, (k : Int).tdiv (l.length : Int) = (q : Int) ∧ q ≤ 100 ∧ Hid (q = k / l.length) := by
      have h1 : (k : Int).tdiv (l.length : Int) = ((k / l.length : Nat) : Int) := by rw [Int.tdiv_eq_ediv_of_nonneg (by omega)]; rfl
      exact ⟨k / l.length, h1, Nat.le_trans (Nat.div_le_self _ _) hk, Lib.hid rfl⟩
    obtain ⟨B, o, rfl, hB, c0⟩ := hc j hjl
    have HX0 : Hid (l[j]?.getD 0 = l[j]) := by show _ = _; rw [List.getElem?_eq_getElem hjl]; rfl
    generalize l[j] = x at *
    have n0 : ¬ (l.length : Int) = 0 := by omega
    have n1 : (0 : Int) ≤ (j : Int) := by omega
    have n2 : (j : Int) < (l.length : Int) := by omega
    have n3 : (j : Int).toNat = j := by omega
    have n4 : IntKind.i64.wrap (1 + (q : Int)) = 1 + (q : Int) := IntWalk.i64_in _ (by omega)
    have n5 : ¬ (1 + (q : Int)) = 0 := by omega
    have n6 : IntKind.i64.wrap (j : Int) = (j : Int) := IntWalk.i64_in _ (by omega)
    have n7 : IntKind.i64.wrap (q : Int) = (q : Int) := IntWalk.i64_in _ (by omega)
    clear hc h
    go_enter Try.func28, Try.ntmps28
    go_wp2
    go_quiet (fail)
    go_wp2
    go_ret
    exact ⟨_, _, rfl, ⟨fit_wrap _, by unfold numF; rw [if_neg h0, ← HJ.out, ← HQ.out, HX0.out]⟩, rfl⟩
theorem num_lit (m : Int) (v : Value) (l : List Int) (k : Nat) (w : World) (hm : m = (k : Int)) (h : Recs w 1 num_ v l) (hk : k ≤ 100) (hl : l.length ≤ 9223372036854775807) :
    Calls Try.prog 28 #[v, .int .i64 m] w (SomeN l k w) := by subst hm; exact num_any v l k w h hk hl
end Go.Proofs.Ytkheepedjoimmaa
