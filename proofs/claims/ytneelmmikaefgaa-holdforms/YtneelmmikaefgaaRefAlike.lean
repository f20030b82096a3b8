/- The reference's Alike: two rows of numbers are the same or not. -/
import Derived.Test.YtneelmmikaefgaaDBits
namespace Go.Proofs.Ytneelmmikaefgaa
open Go.RowKit
set_option linter.unusedSimpArgs false

theorem alike_from {a b : List Int} (hl : a.length = b.length) (h : ∀ j (h1 : j < a.length) (h2 : j < b.length), a[j] = b[j]) : a = b := List.ext_getElem hl fun j h1 h2 => h j h1 h2
set_option maxRecDepth 100000 in
set_option maxHeartbeats 1000000 in
theorem refAlike_any (A1 A2 : Option Addr) (c1 c2 : Nat) (a b : List Int) (w : World) (h1 : Recs w 1 num_ (.slice A1 a.length c1) a) (h2 : Recs w 1 num_ (.slice A2 b.length c2) b) (hl : a.length ≤ 1099511627776) (hm : b.length ≤ 1099511627776) :
    Calls Try.prog 31 #[.slice A1 a.length c1, .slice A2 b.length c2] w fun e w' => e = .returned (.bool (decide (a = b))) ∧ ∃ n, w' = w.drewN n := by
  have H1 := Lib.hid h1
  have H2 := Lib.hid h2
  clear h1 h2
  by_cases hn : a.length = b.length
  · have HN := Lib.hid hn
    have t1 : (((a.length : Nat) : Int) == ((b.length : Nat) : Int)) = true := by rw [hn]; simp
    have t2 : (((a.length : Nat) : Int) != ((b.length : Nat) : Int)) = false := by rw [hn]; simp
    have hle : b.length ≤ a.length := by omega
    clear hn
    go_enter Try.func31, Try.ntmps31
    go_wp2
    go_loopw [13] (fun i wr => ∃ k n : Nat, k ≤ a.length ∧ i = .int .i64 k ∧ wr = w.drewN n ∧ Hid (∀ j (h1 : j < a.length) (h2 : j < b.length), j < k → a[j] = b[j])) (fun i _ => a.length - (intOf i).toNat)
    case atStart => exact ⟨0, 0, Nat.zero_le _, rfl, rfl, Lib.hid (fun j _ _ h => by omega)⟩
    case round =>
      obtain ⟨k, n, hk, rfl, rfl, hs⟩ := hrel
      by_cases hlt : k < a.length
      · obtain ⟨g1, o1, rfl, hg1, a0⟩ := recs_num H1.out hlt
        have hlt2 : k < b.length := by have := HN.out; omega
        obtain ⟨g2, o2, rfl, hg2, b0⟩ := recs_num H2.out hlt2
        generalize hx : a[k] = x at *
        generalize hy : b[k] = y at *
        by_cases hxy : x = y
        · have t3 : (x != y) = false := by simpa using hxy
          have t4 : (x == y) = true := by simpa using hxy
          have HX := Lib.hid hxy
          clear hxy
          go_wp2
          go_quiet (fail)
          go_wp2
          go_roundw
          case rel => exact ⟨k + 1, _, by omega, by go_num, rfl, Lib.hid (fun j p1 p2 h => by
            rcases Nat.lt_or_ge j k with q | q
            · exact hs.out j p1 p2 q
            · obtain rfl : j = k := by omega
              rw [hx, hy]; exact HX.out)⟩
          case measure => simp [intOf]; omega
        · have t3 : (x != y) = true := by simpa using hxy
          have t4 : (x == y) = false := by simpa using hxy
          have HX := Lib.hid hxy
          clear hxy
          go_wp2
          go_quiet (fail)
          go_wp2
          go_ret
          refine ⟨?_, _, (by first | rfl | exact drews _ _ _)⟩
          have : decide (a = b) = false := decide_eq_false (fun e => HX.out (by subst e; rw [← hx, ← hy]))
          rw [this]
          rfl
      · go_wp2
        go_ret
        refine ⟨?_, n, rfl⟩
        have : decide (a = b) = true := decide_eq_true (alike_from HN.out fun j p1 p2 => hs.out j p1 p2 (by omega))
        rw [this]
        rfl
  · have HN := Lib.hid hn
    have t1 : (((a.length : Nat) : Int) == ((b.length : Nat) : Int)) = false := by simp; omega
    have t2 : (((a.length : Nat) : Int) != ((b.length : Nat) : Int)) = true := by simp; omega
    clear hn
    go_enter Try.func31, Try.ntmps31
    go_wp2
    go_ret
    refine ⟨?_, 0, rfl⟩
    have : decide (a = b) = false := decide_eq_false (fun e => HN.out (by rw [e]))
    rw [this]
    rfl
end Go.Proofs.Ytneelmmikaefgaa
