/- Package hold: who holds; what of a held stop would move (laid by gen_hold.py). -/
import Derived.Test.YtneelmmikaefgaaPlanPut
import Derived.Test.YtneelmmikaefgaaPlanMem
namespace Go.Proofs.Ytneelmmikaefgaa
open Go.RowKit
set_option linter.unusedSimpArgs false
set_option linter.unusedVariables false

def holderL (l : List Int) (lo k : Int) : Int := if k < lo ∨ (l.length : Int) ≤ k then -1 else l.getD k.toNat 0
def another (h who : Int) : Bool := decide (h ≠ -1) && decide (h ≠ who)
def stopL (r : List Int) (k : Nat) : Int := if k < r.length then r.getD k 0 else 0
def heldBy (lk : List Int) (who s : Int) : Bool := another (holderL lk 1 s) who
def movesAt (lk : List Int) (who : Int) (r a : List Int) (k : Nat) : Bool := decide (stopL r k ≠ stopL a k) && (heldBy lk who (stopL r k) || heldBy lk who (stopL a k))
def movesL (lk : List Int) (who : Int) (r a : List Int) : Bool := (List.range (max r.length a.length)).any (movesAt lk who r a)
def turnMoves (rs : List (List Int)) (lk : List Int) (who : Int) (c : Int) (a : List Int) : Bool := if c < 0 ∨ (rs.length : Int) ≤ c then false else movesL lk who (rs.getD c.toNat []) a
set_option maxRecDepth 100000 in
set_option maxHeartbeats 4000000 in
theorem holder_any (A : Option Addr) (cap : Nat) (l : List Int) (lo k : Int) (w : World) (h : Recs w 1 num_ (.slice A l.length cap) l) (hf : 0 ≤ lo) :
    Calls Try.prog 36 #[.slice A l.length cap, .int .i64 lo, .int .i64 k] w fun e w' => e = .returned (.int .i64 (holderL l lo k)) ∧ w' = w := by
  obtain ⟨z, hz⟩ : ∃ z, holderL l lo k = z := ⟨_, rfl⟩
  rw [hz]
  have HR := Lib.hid h
  clear h
  by_cases h0 : k < lo
  · have HE : Hid (z = -1) := Lib.hid (by rw [← hz]; unfold holderL; rw [if_pos (.inl h0)])
    clear hz
    go_enter Try.func36, Try.ntmps36
    go_wp2
    go_ret
    exact ⟨by rw [HE.out]; rfl, rfl⟩
  · by_cases h1 : (l.length : Int) ≤ k
    · have HE : Hid (z = -1) := Lib.hid (by rw [← hz]; unfold holderL; rw [if_pos (.inr h1)])
      clear hz
      go_enter Try.func36, Try.ntmps36
      go_wp2
      go_ret
      exact ⟨by rw [HE.out]; rfl, rfl⟩
    · obtain ⟨n, rfl⟩ : ∃ n : Nat, k = (n : Int) := ⟨k.toNat, by omega⟩
      have hn : n < l.length := by omega
      have hn2 : (n : Int) < (l.length : Int) := by omega
      obtain ⟨B, o, rfl, hB, hc⟩ := recs_num HR.out hn
      have HE : Hid (z = l[n]) := Lib.hid (by rw [← hz]; unfold holderL; rw [if_neg (by omega)]; simp [hn])
      clear hz
      generalize l[n] = x at *
      go_enter Try.func36, Try.ntmps36
      go_wp2
      go_ret
      exact ⟨by rw [HE.out]; rfl, rfl⟩
set_option maxRecDepth 100000 in
set_option maxHeartbeats 4000000 in
theorem another_any (h who : Int) (w : World) :
    Calls Try.prog 37 #[.int .i64 h, .int .i64 who] w fun e w' => e = .returned (.bool (another h who)) ∧ w' = w := by
  obtain ⟨z, hz⟩ : ∃ z, another h who = z := ⟨_, rfl⟩
  rw [hz]
  by_cases h0 : h = -1
  · have t1 : (h == -1) = true := by simpa using h0
    have t2 : (h != -1) = false := by simpa using h0
    have HE : Hid (z = false) := Lib.hid (by rw [← hz]; unfold another; simp [h0])
    clear hz h0
    go_enter Try.func37, Try.ntmps37
    go_wp2
    go_ret
    exact ⟨by rw [HE.out]; rfl, rfl⟩
  · have t1 : (h == -1) = false := by simpa using h0
    have t2 : (h != -1) = true := by simpa using h0
    by_cases h1 : h = who
    · have q1 : (h == who) = true := by simpa using h1
      have q2 : (h != who) = false := by simpa using h1
      have HE : Hid (z = false) := Lib.hid (by rw [← hz]; unfold another; simp [h1])
      clear hz h0 h1
      go_enter Try.func37, Try.ntmps37
      go_wp2
      go_ret
      exact ⟨by rw [HE.out]; rfl, rfl⟩
    · have q1 : (h == who) = false := by simpa using h1
      have q2 : (h != who) = true := by simpa using h1
      have HE : Hid (z = true) := Lib.hid (by rw [← hz]; unfold another; simp [h0, h1])
      clear hz h0 h1
      go_enter Try.func37, Try.ntmps37
      go_wp2
      go_ret
      exact ⟨by rw [HE.out]; rfl, rfl⟩
set_option maxRecDepth 100000 in
set_option maxHeartbeats 4000000 in
theorem stopAt_any (A : Option Addr) (cap : Nat) (l : List Int) (k : Nat) (w : World) (h : Recs w 1 num_ (.slice A l.length cap) l) :
    Calls Try.prog 56 #[.slice A l.length cap, .int .i64 (k : Int)] w fun e w' => e = .returned (.int .i64 (stopL l k)) ∧ w' = w := by
  obtain ⟨z, hz⟩ : ∃ z, stopL l k = z := ⟨_, rfl⟩
  rw [hz]
  have HR := Lib.hid h
  clear h
  by_cases h1 : k < l.length
  · have h2 : ¬ (l.length : Int) ≤ (k : Int) := by omega
    have h3 : (k : Int) < (l.length : Int) := by omega
    obtain ⟨B, o, rfl, hB, hc⟩ := recs_num HR.out h1
    have HE : Hid (z = l[k]) := Lib.hid (by rw [← hz]; unfold stopL; rw [if_pos h1]; simp [h1])
    clear hz
    generalize l[k] = x at *
    go_enter Try.func56, Try.ntmps56
    go_wp2
    go_ret
    exact ⟨by rw [HE.out]; rfl, rfl⟩
  · have h2 : (l.length : Int) ≤ (k : Int) := by omega
    have HE : Hid (z = 0) := Lib.hid (by rw [← hz]; unfold stopL; rw [if_neg h1])
    clear hz
    go_enter Try.func56, Try.ntmps56
    go_wp2
    go_ret
    exact ⟨by rw [HE.out]; rfl, rfl⟩
set_option maxRecDepth 100000 in
set_option maxHeartbeats 4000000 in
theorem heldBy_any (A1 A2 A3 A4 A5 A6 : Option Addr) (n4 n5 n6 c1 c2 c3 c4 c5 c6 : Nat) (pv : Int) (rs : List (List Int)) (lk ic : List Int) (who s : Int) (w : World) (hl : Recs w 1 num_ (.slice A2 lk.length c2) lk) :
    Calls Try.prog 57 #[.agg #[.slice A1 rs.length c1, .slice A2 lk.length c2, .slice A3 ic.length c3, .slice A4 n4 c4, .slice A5 n5 c5, .slice A6 n6 c6, .int .i64 pv], .int .i64 who, .int .i64 s] w fun e w' => e = .returned (.bool (heldBy lk who s)) ∧ Below w.heap.size w w' := by
  have B0 := Lib.hid ((Below.refl w.heap.size w).alloc (Nat.le_refl _) (.cells #[.slice A1 rs.length c1, .slice A2 lk.length c2, .slice A3 ic.length c3, .slice A4 n4 c4, .slice A5 n5 c5, .slice A6 n6 c6, .int .i64 pv] 25))
  have KH := Lib.hid (holder_any A2 c2 lk 1 s (w.alloc (.cells #[.slice A1 rs.length c1, .slice A2 lk.length c2, .slice A3 ic.length c3, .slice A4 n4 c4, .slice A5 n5 c5, .slice A6 n6 c6, .int .i64 pv] 25)) (hl.below B0.out) (by decide))
  have KA := Lib.hid (fun W => another_any (holderL lk 1 s) who W)
  have HE : Hid (heldBy lk who s = another (holderL lk 1 s) who) := Lib.hid rfl
  clear hl
  generalize heldBy lk who s = z at *
  generalize holderL lk 1 s = x at *
  go_enter Try.func57, Try.ntmps57
  go_wp2_with (go_at_call 36; fail)
  go_at_call 36
  (with_reducible refine KH.out.mono ?_)
  rintro e w2 ⟨rfl, rfl⟩
  go_wp2_with (go_at_call 37; fail)
  go_at_call 37
  (with_reducible refine (KA.out _).mono ?_)
  rintro e w2 ⟨rfl, rfl⟩
  go_wp2
  go_ret
  exact ⟨by rw [HE.out]; rfl, B0.out⟩
end Go.Proofs.Ytneelmmikaefgaa
