/- draymankeep.Same at two rows that hold the same words answers true; the world but draws. And the example of the document. -/
import Derived.Test.YtakknkenanhjgaaDoorRows1
import Derived.Deep.QuietTactic
import Derived.BigQuiet
namespace Go.Proofs.YtakknkenanhjgaaDoor
open Go.RowKit

/-- an owned row of texts, its address a letter -/
theorem own_view {w : World} {B : Nat} {v : Value} {l : List (List UInt8)} (h : w.ownsRow B 9 1 v l.length (strs l)) :
    ∃ A c, v = .slice A l.length c ∧ ∀ k (hk : k < l.length), ∃ g, A = some ⟨g, 0, none⟩ ∧ w.cell? ⟨g, k, none⟩ = some (.string (ofL l[k])) := by
  rcases h.2 with ⟨rfl, he⟩ | ⟨g, cap, cur, rfl, _⟩
  · have hl : l = [] := by cases l with | nil => rfl | cons x l => simp at he
    subst hl
    exact ⟨none, 0, rfl, fun k hk => absurd hk (by simp)⟩
  · refine ⟨_, _, rfl, fun k hk => ⟨g, rfl, ?_⟩⟩
    rw [h.cellAt k (by omega)]
    simp [strs, hk]

set_option maxHeartbeats 1000000 in
theorem same_any (B1 B2 : Nat) (v1 v2 : Value) (l : List (List UInt8)) (w : World) (h1 : w.ownsRow B1 9 1 v1 l.length (strs l)) (h2 : w.ownsRow B2 9 1 v2 l.length (strs l)) (hl : l.length ≤ 1099511627776) :
    Calls Tryd.prog 10 #[v1, v2] w fun e w' => e = .returned (.bool true) ∧ ∃ n, w' = w.drewN n := by
  obtain ⟨A1, c1, rfl, hc1⟩ := own_view h1
  obtain ⟨A2, c2, rfl, hc2⟩ := own_view h2
  clear h1 h2
  have H1 := Lib.hid hc1
  have H2 := Lib.hid hc2
  clear hc1 hc2
  go_enter Tryd.func10, Tryd.ntmps10
  go_wp2
  go_loopw [5] (fun i wr => ∃ k n : Nat, k ≤ l.length ∧ i = .int .i64 k ∧ wr = w.drewN n) (fun i _ => l.length - (intOf i).toNat)
  case atStart => exact ⟨0, 0, Nat.zero_le _, rfl, rfl⟩
  case round =>
    obtain ⟨k, n, hk, rfl, rfl⟩ := hrel
    by_cases hlt : k < l.length
    · obtain ⟨g1, rfl, d1⟩ := H1.out k hlt
      obtain ⟨g2, rfl, d2⟩ := H2.out k hlt
      generalize ofL l[k] = x at d1 d2
      go_wp2
      go_quiet (fail)
      go_wp2
      go_roundw
      case rel => exact ⟨k + 1, _, by omega, by go_num, rfl⟩
      case measure => simp [intOf]; omega
    · go_wp2
      go_ret
      exact ⟨rfl, n, rfl⟩
end Go.Proofs.YtakknkenanhjgaaDoor
