/- draymankeep.Within. -/
import Derived.Test.YtneelmmikaefgaaInstViews
import Derived.IntWalk
namespace Go.Proofs.Ytneelmmikaefgaa
open Go.RowKit
theorem ret_int {k : IntKind} {a b : Int} (h : a = b) : Ending.returned (.int k a) = .returned (.int k b) := by rw [h]
def withinI (v n : Int) : Int := if n < 1 then 0 else v % n
theorem within_neg {v n : Int} (h : 1 ≤ n) (hn : n ≤ 9223372036854775807) (hv : v.tmod n < 0) : wrap64 (v.tmod n + n) = withinI v n := by
  unfold withinI
  rw [if_neg (by omega)]
  have hm := Int.tmod_eq_emod (a := v) (b := n)
  have hl := Int.lt_tmod_of_pos v (b := n) (by omega)
  have b := Int.emod_lt_of_pos v (b := n) (by omega)
  have a := Int.emod_nonneg v (b := n) (by omega)
  have e : v % n = v.tmod n + n := by
    rw [hm] at hv ⊢
    split at hv
    · omega
    · next hc => rw [if_neg hc]; omega
  rw [e]
  unfold wrap64; omega
theorem within_pos {v n : Int} (h : 1 ≤ n) (hv : 0 ≤ v.tmod n) : v.tmod n = withinI v n := by
  unfold withinI
  rw [if_neg (by omega)]
  have hm := Int.tmod_eq_emod (a := v) (b := n)
  have b := Int.emod_lt_of_pos v (b := n) (by omega)
  rw [hm] at hv ⊢
  split
  · omega
  · next hc => rw [if_neg hc] at hv; omega
theorem withinI_bounds {v n : Int} (hn : 1 ≤ n) : 0 ≤ withinI v n ∧ withinI v n < n := by
  unfold withinI
  rw [if_neg (by omega)]
  exact ⟨Int.emod_nonneg v (by omega), Int.emod_lt_of_pos v (by omega)⟩
set_option maxHeartbeats 400000 in
theorem within_any (v n : Int) (w : World) (h1 : 1 ≤ n) (h2 : n ≤ 9223372036854775807) :
    Calls Try.prog 6 #[.int .i64 v, .int .i64 n] w fun e w' => e = .returned (.int .i64 (withinI v n)) ∧ w = w' := by
  go_enter Try.func6, Try.ntmps6
  go_wp2
  · go_ret
    exact ⟨ret_int (within_neg h1 h2 ‹_›), rfl⟩
  · go_ret
    exact ⟨ret_int (within_pos h1 ‹_›), rfl⟩

end Go.Proofs.Ytneelmmikaefgaa
