/- tab.digit, has, stopThere, stopsOnly, carThere, halves, sums, isSecond: what they answer. -/
import Derived.Test.YtkheepedjoimmaaTabCode
import Derived.Test.YtkheepedjoimmaaTripViews
import Derived.Test.YtkheepedjoimmaaBeginsMem
import Derived.Deep.QuietTactic
import Derived.BigQuiet
namespace Go.Proofs.Ytkheepedjoimmaa
open Go.RowKit
set_option linter.unusedSimpArgs false

theorem digit_lt' {s : Int} (h : s ≤ 11) : digit s < 4096 := by
  unfold digit
  have : 2 ^ s.toNat ≤ 2 ^ 11 := Nat.pow_le_pow_right (by omega) (by omega)
  omega
set_option maxRecDepth 100000 in
theorem digit_any (s : Int) (w : World) (h0 : 0 ≤ s) (h : s ≤ 11) : Calls Try.prog 51 #[.int .i64 s] w fun e w' => e = .returned (.int .u32 (digit s : Nat)) ∧ w' = w := by
  obtain ⟨n, rfl⟩ : ∃ n : Nat, s = (n : Int) := ⟨s.toNat, by omega⟩
  have hn : n ≤ 11 := by omega
  have hm : (n : Int) % 4294967296 = (n : Int) := by omega
  have hlt : (2 : Int) ^ n % 4294967296 = ((2 ^ n : Nat) : Int) := by
    have h1 : (2 : Nat) ^ n ≤ 2 ^ 11 := Nat.pow_le_pow_right (by omega) hn
    have h2 : ((2 ^ n : Nat) : Int) = (2 : Int) ^ n := by simp
    rw [← h2]
    generalize (2 : Nat) ^ n = m at *
    omega
  clear h0 h
  go_enter Try.func51, Try.ntmps51
  go_wp2
  go_ret
  exact ⟨by simp [digit, hlt, hm], rfl⟩
theorem bits_has {S : Nat} {s : Int} (hS : S < 4294967296) (hs : s ≤ 11) : (Go.bits .and .u32 (S : Int) (digit s : Int) != 0) = hasD S s := by
  have := digit_lt' hs
  rw [u32_and hS (by omega)]
  cases h : hasD S s
  · rw [and_none h]; rfl
  · have := and_some h; simpa using this
set_option maxRecDepth 100000 in
theorem has_any (S : Nat) (s : Int) (w : World) (hS : S < 4294967296) (h0 : 0 ≤ s) (h : s ≤ 11) : Calls Try.prog 50 #[.int .u32 (S : Nat), .int .i64 s] w fun e w' => e = .returned (.bool (hasD S s)) ∧ w' = w := by
  have K := Lib.hid (fun W => digit_any s W h0 h)
  have HB := Lib.hid (bits_has hS h)
  clear h0 h hS
  go_enter Try.func50, Try.ntmps50
  go_wp2_with (go_at_call 51; fail)
  (with_reducible refine (K.out _).mono ?_)
  rintro e w1 ⟨rfl, rfl⟩
  go_wp2
  go_ret
  exact ⟨by rw [HB.out]; rfl, rfl⟩
set_option maxRecDepth 100000 in
theorem stopThere_any (v : Value) (i : Prob) (s : Int) (w : World) (h : Lies w v i) :
    Calls Try.prog 49 #[v, .int .i64 s] w fun e w' => e = .returned (.bool (inB s 1 i.stops.length)) ∧ Below w.heap.size w w' := by
  obtain ⟨vc, vs, vp, vt, rfl, _, ⟨A, cap, rfl, _⟩, _⟩ := h
  by_cases h1 : 1 ≤ s
  · by_cases h2 : s ≤ i.stops.length
    · have HE : Hid (inB s 1 i.stops.length = true) := inB_iff.2 ⟨h1, h2⟩
      go_enter Try.func49, Try.ntmps49
      go_wp2
      go_ret
      exact ⟨by rw [HE.out]; rfl, (Below.refl _ _).alloc (Nat.le_refl _) _⟩
    · have HE : Hid (inB s 1 i.stops.length = false) := inB_no.2 (by omega)
      have t2 : decide (s ≤ (i.stops.length : Int)) = false := by simpa using h2
      go_enter Try.func49, Try.ntmps49
      go_wp2
      go_ret
      exact ⟨by rw [HE.out]; rfl, (Below.refl _ _).alloc (Nat.le_refl _) _⟩
  · have HE : Hid (inB s 1 i.stops.length = false) := inB_no.2 (by omega)
    have t1 : decide (1 ≤ s) = false := by simpa using h1
    go_enter Try.func49, Try.ntmps49
    go_wp2
    go_ret
    exact ⟨by rw [HE.out]; rfl, (Below.refl _ _).alloc (Nat.le_refl _) _⟩
set_option maxRecDepth 100000 in
theorem carThere_any (v : Value) (i : Prob) (c : Int) (w : World) (h : Lies w v i) (hok : probOk i = true) (hp : i.pairs.length ≤ 1000000) :
    Calls Try.prog 33 #[v, .int .i64 c] w fun e w' => e = .returned (.bool (inB c 0 (i.cars.length - 1))) ∧ Below w.heap.size w w' := by
  obtain ⟨A1, A2, A3, A4, c1, c2, c3, c4, rfl, hs⟩ := h.said
  have hcl := (fine_of hok).cars
  have HS := Lib.hid (short_of hok hp)
  have BX0 := Lib.hid (box_new hs 28)
  have HB0 := Lib.hid ((Below.refl w.heap.size w).alloc (Nat.le_refl _) (.cells #[.slice A1 i.cars.length c1, .slice A2 i.stops.length c2, .slice A3 i.pairs.length c3, .slice A4 i.travel.length c4] 28))
  have K : Hid (∀ W, Below w.heap.size w W → Calls Try.prog 48 #[.agg #[.slice A1 i.cars.length c1, .slice A2 i.stops.length c2, .slice A3 i.pairs.length c3, .slice A4 i.travel.length c4]] W fun e w' => e = .returned (.int .i64 0) ∧ Below W.heap.size W w') := fun W hB => check_ok (Lies.below hs hB) HS.out hok
  obtain ⟨b, hb⟩ : ∃ b, inB c 0 (i.cars.length - 1) = b := ⟨_, rfl⟩
  have HC := Lib.hid hb
  rw [hb]
  clear hs h hok hb
  go_enter Try.func33, Try.ntmps33
  go_upto_region 1 with (fail)
  generalize w.alloc (.cells #[.slice A1 i.cars.length c1, .slice A2 i.stops.length c2, .slice A3 i.pairs.length c3, .slice A4 i.travel.length c4] 28) = wa at *
  have k0 := BX0.out.b0
  have k1 := BX0.out.b1
  have k2 := BX0.out.b2
  have k3 := BX0.out.b3
  have hIz := BX0.out.lt
  go_wp2_with (go_at_call 48; fail)
  (with_reducible refine (K.out _ HB0.out).mono ?_)
  rintro e w1 ⟨rfl, hb1⟩
  have HB1 := Lib.hid (HB0.out.trans (hb1.mono HB0.out.size))
  have BI := Lib.hid (BX0.out.below hb1)
  clear hb1 k0 k1 k2 k3 hIz BX0
  have k0 := BI.out.b0
  have hIz := BI.out.lt
  by_cases h1 : 0 ≤ c
  · by_cases h2 : c < i.cars.length
    · have HE : Hid (b = true) := by show _ = _; rw [← HC.out]; exact inB_iff.2 ⟨h1, by omega⟩
      go_wp2
      go_ret
      exact ⟨by rw [HE.out]; rfl, HB1.out⟩
    · have HE : Hid (b = false) := by show _ = _; rw [← HC.out]; exact inB_no.2 (by omega)
      have t2 : decide (c < (i.cars.length : Int)) = false := by simpa using h2
      go_wp2
      go_ret
      exact ⟨by rw [HE.out]; rfl, HB1.out⟩
  · have HE : Hid (b = false) := by show _ = _; rw [← HC.out]; exact inB_no.2 (by omega)
    have t1 : decide (0 ≤ c) = false := by simpa using h1
    go_wp2
    go_ret
    exact ⟨by rw [HE.out]; rfl, HB1.out⟩
theorem all_bit {n k : Nat} (hn : n ≤ 10) : (2 ^ (n + 1) - 2).testBit k = (decide (1 ≤ k) && decide (k ≤ n)) := by
  by_cases hk : k < 12
  · have h1 : ∀ n : Fin 11, ∀ k : Fin 12, (2 ^ (n.1 + 1) - 2).testBit k.1 = (decide (1 ≤ k.1) && decide (k.1 ≤ n.1)) := by decide
    exact h1 ⟨n, by omega⟩ ⟨k, hk⟩
  · have h2 : 2 ^ (n + 1) ≤ 2 ^ k := Nat.pow_le_pow_right (by omega) (by omega)
    have h3 : 0 < 2 ^ k := Nat.two_pow_pos k
    rw [Nat.testBit_lt_two_pow (by omega)]
    simp; omega
theorem andNot_zero {a b : Nat} (h : ∀ k, a.testBit k = true → b.testBit k = true) : Go.bits .andNot .u32 (a : Int) (b : Int) = 0 := by
  show IntKind.u32.wrap ((BitVec.ofNat 32 a &&& ~~~ BitVec.ofNat 32 b).toNat : Int) = _
  have e : (BitVec.ofNat 32 a &&& ~~~ BitVec.ofNat 32 b).toNat = 0 := by
    refine Nat.eq_of_testBit_eq fun k => ?_
    rw [BitVec.testBit_toNat, BitVec.getLsbD_and, BitVec.getLsbD_not, BitVec.getLsbD_ofNat, BitVec.getLsbD_ofNat, Nat.zero_testBit]
    have := h k
    cases h1 : a.testBit k <;> cases h2 : b.testBit k <;> simp_all
  rw [e]; exact u32_wrap (n := 0) (by omega)
set_option maxRecDepth 100000 in
theorem stopsOnly_any (v : Value) (i : Prob) (S : Nat) (w : World) (h : Lies w v i) (hst : i.stops.length ≤ 10) (h0 : S.testBit 0 = false) (ht : ∀ x : Int, 1 ≤ x → hasD S x = true → x ≤ i.stops.length) :
    Calls Try.prog 53 #[v, .int .u32 (S : Nat)] w fun e w' => e = .returned (.bool true) ∧ Below w.heap.size w w' := by
  obtain ⟨vc, vs, vp, vt, rfl, _, ⟨A, cap, rfl, _⟩, _⟩ := h
  have K1 := Lib.hid (fun W => digit_any ((i.stops.length : Int) + 1) W (by omega) (by omega))
  have K2 := Lib.hid (fun W => digit_any 1 W (by omega) (by omega))
  have e1 : (digit ((i.stops.length : Int) + 1) : Int) - (digit 1 : Int) = ((2 ^ (i.stops.length + 1) - 2 : Nat) : Int) := by
    have h2 : 2 ^ 1 ≤ 2 ^ (i.stops.length + 1) := Nat.pow_le_pow_right (by omega) (by omega)
    unfold digit
    rw [show ((i.stops.length : Int) + 1).toNat = i.stops.length + 1 by omega, show (1 : Int).toNat = 1 from rfl]
    omega
  have e2 : (2 ^ (i.stops.length + 1) - 2 : Nat) < 2048 := by
    have h2 : 2 ^ (i.stops.length + 1) ≤ 2 ^ 11 := Nat.pow_le_pow_right (by omega) (by omega)
    omega
  have HA : Hid (Go.bits .andNot .u32 (S : Int) ((2 ^ (i.stops.length + 1) - 2 : Nat) : Int) = 0) := andNot_zero (fun k hk => by
    rw [all_bit hst]
    have hk0 : k ≠ 0 := fun e => by subst e; rw [h0] at hk; cases hk
    have := ht (k : Int) (by omega) (by unfold hasD; simpa using hk)
    simp; omega)
  generalize digit ((i.stops.length : Int) + 1) = d1 at *
  generalize digit 1 = d2 at *
  generalize (2 ^ (i.stops.length + 1) - 2 : Nat) = m at *
  have hw : ((d1 : Int) - (d2 : Int)) % 4294967296 = (m : Int) := by omega
  have HA' := HA.out
  clear ht h0
  go_enter Try.func53, Try.ntmps53
  go_wp2_with (go_at_call 51; fail)
  (with_reducible refine (K1.out _).mono ?_)
  rintro e w1 ⟨rfl, rfl⟩
  go_wp2_with (go_at_call 51; fail)
  (with_reducible refine (K2.out _).mono ?_)
  rintro e w1 ⟨rfl, rfl⟩
  go_wp2
  go_ret
  exact ⟨rfl, (Below.refl _ _).alloc (Nat.le_refl _) _⟩
end Go.Proofs.Ytkheepedjoimmaa
