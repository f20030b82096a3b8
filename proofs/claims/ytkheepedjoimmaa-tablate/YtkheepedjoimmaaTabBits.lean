/- Sets of stops as digits of a uint32: what the program's own operations make of them. -/
import Derived.Test.YtkheepedjoimmaaTabEval
namespace Go.Proofs.Ytkheepedjoimmaa
open Go.RowKit

theorem u32_wrap {n : Nat} (h : n < 4294967296) : IntKind.u32.wrap (n : Int) = (n : Int) := by
  have : IntKind.u32.wrap (n : Int) = (n : Int) % 4294967296 := by first | rfl | simp [go_sem] | (unfold IntKind.wrap; simp)
  rw [this]; omega
theorem u32_nat (a : Nat) : BitVec.ofInt IntKind.u32.bits (a : Int) = BitVec.ofNat 32 a := rfl
theorem u32_and {a b : Nat} (ha : a < 4294967296) (hb : b < 4294967296) : Go.bits .and .u32 (a : Int) (b : Int) = ((a &&& b : Nat) : Int) := by
  show IntKind.u32.wrap ((BitVec.ofNat 32 a &&& BitVec.ofNat 32 b).toNat : Int) = _
  rw [BitVec.toNat_and, BitVec.toNat_ofNat, BitVec.toNat_ofNat, Nat.mod_eq_of_lt (by omega), Nat.mod_eq_of_lt (by omega)]
  exact u32_wrap (Nat.lt_of_le_of_lt Nat.and_le_left ha)
theorem u32_or {a b : Nat} (ha : a < 4294967296) (hb : b < 4294967296) : Go.bits .or .u32 (a : Int) (b : Int) = ((a ||| b : Nat) : Int) := by
  show IntKind.u32.wrap ((BitVec.ofNat 32 a ||| BitVec.ofNat 32 b).toNat : Int) = _
  rw [BitVec.toNat_or, BitVec.toNat_ofNat, BitVec.toNat_ofNat, Nat.mod_eq_of_lt (by omega), Nat.mod_eq_of_lt (by omega)]
  exact u32_wrap (Nat.or_lt_two_pow (n := 32) ha hb)
theorem digit_lt {s : Int} (h : s ≤ 10) : digit s < 2048 := by
  unfold digit
  have : 2 ^ s.toNat ≤ 2 ^ 10 := Nat.pow_le_pow_right (by omega) (by omega)
  omega
theorem u32_andNot {a : Nat} {m : Int} (ha : a < 4294967296) (hm : m ≤ 10) (h : hasD a m = true) : Go.bits .andNot .u32 (a : Int) (digit m : Int) = ((a ^^^ digit m : Nat) : Int) := by
  have hd := digit_lt hm
  show IntKind.u32.wrap ((BitVec.ofNat 32 a &&& ~~~ BitVec.ofNat 32 (digit m)).toNat : Int) = _
  have e : (BitVec.ofNat 32 a &&& ~~~ BitVec.ofNat 32 (digit m)).toNat = a ^^^ digit m := by
    refine Nat.eq_of_testBit_eq fun k => ?_
    rw [BitVec.testBit_toNat, BitVec.getLsbD_and, BitVec.getLsbD_not, BitVec.getLsbD_ofNat, BitVec.getLsbD_ofNat, Nat.testBit_xor, test_digit]
    by_cases hk : k < 32
    · by_cases hmk : m.toNat = k
      · subst hmk; unfold hasD at h; simp [h]
      · simp [hk, hmk]
    · have h1 : a.testBit k = false := Nat.testBit_lt_two_pow (Nat.lt_of_lt_of_le ha (by have := Nat.pow_le_pow_right (n := 2) (by omega) (show 32 ≤ k by omega); omega))
      have h2 : ¬ m.toNat = k := by omega
      simp [hk, h1, h2]
  rw [e]
  exact u32_wrap (Nat.xor_lt_two_pow (n := 32) ha (by omega))
theorem and_digit {a : Nat} {s : Int} : a &&& digit s = 0 ↔ hasD a s = false := by
  have := @or_and_zero 0 a s
  rw [Nat.zero_or, Nat.zero_and, Nat.and_comm] at this
  rw [this]
  simp
theorem and_none {a : Nat} {s : Int} (h : hasD a s = false) : ((a &&& digit s : Nat) : Int) = 0 := by rw [and_digit.2 h]; rfl
theorem and_some {a : Nat} {s : Int} (h : hasD a s = true) : ((a &&& digit s : Nat) : Int) ≠ 0 := by
  intro e
  have : hasD a s = false := and_digit.1 (by omega)
  rw [h] at this; cases this
end Go.Proofs.Ytkheepedjoimmaa
