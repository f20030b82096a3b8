/- draymanplay.num: some number. -/
import Derived.Test.YtcllnfhjbfmomaaKeep
import Derived.Test.YtcllnfhjbfmomaaInstTravel
namespace Go.Proofs.Ytcllnfhjbfmomaa
open Go.RowKit
def Fit64 (a : Int) : Prop := -9223372036854775808 ≤ a ∧ a ≤ 9223372036854775807
def SomeN (w : World) (e : Ending) (w' : World) : Prop := ∃ n m, e = .returned (.int .i64 n) ∧ Fit64 n ∧ w' = w.drewN m
theorem fit_wrap (x : Int) : Fit64 (wrap64 x) := by unfold Fit64 wrap64; omega
set_option maxRecDepth 100000 in
set_option maxHeartbeats 1000000 in
theorem num_any (v : Value) (l : List Int) (k : Nat) (w : World) (h : Recs w 1 num_ v l) (hk : k ≤ 100) (hl : l.length ≤ 9223372036854775807) :
    Calls Try.prog 27 #[v, .int .i64 k] w (SomeN w) := by
  obtain ⟨A, cap, rfl, hc⟩ := h.num
  by_cases h0 : l.length = 0
  · have t1 : ((l.length : Int) == 0) = true := by simpa using h0
    have t2 : (l.length == 0) = true := by simpa using h0
    clear hc h
    go_enter Try.func27, Try.ntmps27
    go_wp2
    go_ret
    exact ⟨_, 0, rfl, ⟨by omega, by omega⟩, rfl⟩
  · have t1 : ((l.length : Int) == 0) = false := by rw [beq_eq_false_iff_ne]; omega
    have t2 : (l.length == 0) = false := by rw [beq_eq_false_iff_ne]; exact h0
    obtain ⟨j, hj, hjl⟩ : ∃ j : Nat, (k : Int).tmod (l.length : Int) = (j : Int) ∧ j < l.length := by
      have h1 : (k : Int).tmod (l.length : Int) = ((k % l.length : Nat) : Int) := by rw [Int.tmod_eq_emod_of_nonneg (by omega)]; rfl
      exact ⟨k % l.length, h1, Nat.mod_lt _ (by omega)⟩
    obtain ⟨q, hq, hq2⟩ : ∃ q : Nat, (k : Int).tdiv (l.length : Int) = (q : Int) ∧ q ≤ 100 := by
      have h1 : (k : Int).tdiv (l.length : Int) = ((k / l.length : Nat) : Int) := by rw [Int.tdiv_eq_ediv_of_nonneg (by omega)]; rfl
      exact ⟨k / l.length, h1, Nat.le_trans (Nat.div_le_self _ _) hk⟩
    obtain ⟨B, o, rfl, hB, c0⟩ := hc j hjl
    generalize l[j] = x at *
    have n0 : ¬ (l.length : Int) = 0 := by omega
    have n1 : (0 : Int) ≤ (j : Int) := by omega
    have n2 : (j : Int) < (l.length : Int) := by omega
    have n3 : (j : Int).toNat = j := by omega
    have n4 : IntKind.i64.wrap (1 + (q : Int)) = 1 + (q : Int) := IntWalk.i64_in _ (by omega)
    have n5 : ¬ (1 + (q : Int)) = 0 := by omega
    have n6 : IntKind.i64.wrap (j : Int) = (j : Int) := IntWalk.i64_in _ (by omega)
    have n7 : IntKind.i64.wrap (q : Int) = (q : Int) := IntWalk.i64_in _ (by omega)
    clear hc h
    go_enter Try.func27, Try.ntmps27
    go_wp2
    go_quiet (fail)
    go_wp2
    go_ret
    exact ⟨_, _, rfl, fit_wrap _, rfl⟩
theorem num_lit (m : Int) (v : Value) (l : List Int) (k : Nat) (w : World) (hm : m = (k : Int)) (h : Recs w 1 num_ v l) (hk : k ≤ 100) (hl : l.length ≤ 9223372036854775807) :
    Calls Try.prog 27 #[v, .int .i64 m] w (SomeN w) := by subst hm; exact num_any v l k w h hk hl
end Go.Proofs.Ytcllnfhjbfmomaa
