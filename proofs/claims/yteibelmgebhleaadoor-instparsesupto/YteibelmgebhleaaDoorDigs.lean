/- What scan.Digits, draymanref01.Digits and draymankeep.Within answer, for every argument. -/
import Derived.Test.YteibelmgebhleaaDoorKeep
import Derived.Test.YteibelmgebhleaaDoorRows1
import Derived.Test.YteibelmgebhleaaDoorNums
import Derived.Test.YteibelmgebhleaaDoorShelf
import Derived.Lib.AppendIntMem
import Derived.Lib.ItoaLen
namespace Go.Proofs.YteibelmgebhleaaDoor
open Go.RowKit

theorem ret_str {a b : ByteArray} (h : a = b) : Ending.returned (.string a) = .returned (.string b) := by rw [h]
def Fit (a : Int) : Prop := -9223372036854775808 ≤ a ∧ a ≤ 9223372036854775807
/-- the library's table of powers lies as its text lays it, whatever is done from block B on -/
def Tab (B : Nat) (w : World) : Prop := Lib.TabBelow Tryd.prog B w "internal/strconv.uint64pow10" .u64 Lib.pow10Tab
theorem Tab.on {B : Nat} {w w1 : World} (h : Tab B w) (hb : Below B w w1) : Tab B w1 := Lib.TabBelow.on h hb
/-- the digits of n as a text -/
def digs (n : Int) : ByteArray := ofL (Lib.itoa n)
theorem digs_size {n : Int} (h : Fit n) : (digs n).size ≤ 21 := by
  rw [← data_len]; exact Lib.itoa_length_le n h.1 h.2

set_option maxHeartbeats 400000 in
theorem digits_any (B : Nat) (n : Int) (w : World) (hn : Fit n) (hB : B ≤ w.heap.size) (ht : Tab B w) :
    Calls Tryd.prog 42 #[.int .i64 n] w fun e w' => e = .returned (.string (digs n)) ∧ Below B w w' ∧ Below w.heap.size w w' := by
  have HT := Lib.hid (Lib.TabBelow.here ht)
  clear ht
  go_enter Tryd.func42, Tryd.ntmps42
  go_wp2_with (go_at_call 51; refine (strconv_Itoa n hn.1 hn.2 _ HT.out).mono ?_; rintro e w' ⟨rfl, k, os, rfl⟩)
  go_ret
  exact ⟨rfl, Lib.below_grow B w hB k os, Lib.below_grow _ w (Nat.le_refl _) k os⟩

/-! within -/
/-! the reference's digits -/
/-- what is left of n, and the digits so far -/
def DRel (n : Int) (c : ByteArray) (m : Int) : Prop := Fit m ∧ c.size ≤ 21 ∧
  ((c.data.toList = [] ∧ m = n) ∨ (c.data.toList ≠ [] ∧ m ≠ 0 ∧ Lib.decDigits n.natAbs = Lib.decDigits m.natAbs ++ c.data.toList) ∨ (c.data.toList ≠ [] ∧ m = 0 ∧ Lib.decDigits n.natAbs = c.data.toList))
theorem dec_len {n : Int} (h : Fit n) : (Lib.decDigits n.natAbs).length ≤ 20 := by
  have := h.1; have := h.2
  rw [Lib.decDigits_length]; exact nDigits_le _ 19 (by have : (10 : Nat) ^ (19 + 1) = 100000000000000000000 := by decide
                                                       omega)
theorem DRel.next {n m : Int} {c : ByteArray} (hn : Fit n) (h : DRel n c m) (hgo : m ≠ 0 ∨ c.data.toList = []) : DRel n (ofL [UInt8.ofNat (48 + m.natAbs % 10)] ++ c) (m.tdiv 10) := by
  have hl := dec_len hn
  have e : (ofL [UInt8.ofNat (48 + m.natAbs % 10)] ++ c).data.toList = UInt8.ofNat (48 + m.natAbs % 10) :: c.data.toList := by simp [ByteArray.data_append, ofL]
  have hne : (ofL [UInt8.ofNat (48 + m.natAbs % 10)] ++ c).data.toList ≠ [] := by rw [e]; simp
  have hq : (m.tdiv 10).natAbs = m.natAbs / 10 := Int.natAbs_tdiv m 10
  have hfit : Fit (m.tdiv 10) := by have h1 := h.1.1; have h2 := h.1.2; unfold Fit; omega
  have key : (m.tdiv 10 ≠ 0 ∧ Lib.decDigits n.natAbs = Lib.decDigits (m.tdiv 10).natAbs ++ (ofL [UInt8.ofNat (48 + m.natAbs % 10)] ++ c).data.toList) ∨ (m.tdiv 10 = 0 ∧ Lib.decDigits n.natAbs = (ofL [UInt8.ofNat (48 + m.natAbs % 10)] ++ c).data.toList) := by
    have hd : Lib.decDigits n.natAbs = Lib.decDigits m.natAbs ++ c.data.toList := by
      rcases h.2.2 with ⟨g1, g2⟩ | ⟨_, _, g⟩ | ⟨g1, g2, g3⟩
      · rw [g1, g2]; simp
      · exact g
      · rcases hgo with k | k
        · exact absurd g2 k
        · exact absurd k g1
    by_cases h10 : m.natAbs < 10
    · have h0 : m.natAbs / 10 = 0 := by omega
      refine .inr ⟨by omega, ?_⟩
      rw [hd, e, Lib.decDigits_one h10, Nat.mod_eq_of_lt h10]; rfl
    · refine .inl ⟨by omega, ?_⟩
      rw [hd, e, hq, decDigits_step (by omega)]; simp
  refine ⟨hfit, ?_, ?_⟩
  · rw [← data_len]
    rcases key with ⟨_, k⟩ | ⟨_, k⟩
    · rw [k, List.length_append] at hl; omega
    · rw [k] at hl; omega
  · rcases key with ⟨k1, k2⟩ | ⟨k1, k2⟩
    · exact .inr (.inl ⟨hne, k1, k2⟩)
    · exact .inr (.inr ⟨hne, k1, k2⟩)
theorem ten_cut : ∀ e : Fin 10, ((⟨#[48, 49, 50, 51, 52, 53, 54, 55, 56, 57]⟩ : ByteArray).extract e.val (e.val + 1)).data.toList = [UInt8.ofNat (48 + e.val)] := by decide +kernel
theorem ten_one {e : Nat} (h : e < 10) : (⟨#[48, 49, 50, 51, 52, 53, 54, 55, 56, 57]⟩ : ByteArray).extract e (e + 1) = ofL [UInt8.ofNat (48 + e)] := by
  rw [← ten_cut ⟨e, h⟩]; rfl

def emp (v : Value) : Nat := match v with | .string b => if b.size = 0 then 1 else 0 | _ => 0
theorem emp_one {c : ByteArray} (h : c.data.toList = []) : emp (.string c) = 1 := by
  have : c.size = 0 := by rw [← data_len, h]; rfl
  simp [emp, this]
theorem emp_le (v : Value) : emp v ≤ 1 := by unfold emp; split <;> (try split) <;> omega
theorem emp_zero {x c : ByteArray} (h : x.size = 1) : emp (.string (x ++ c)) = 0 := by simp [emp, ByteArray.size_append, h]
theorem tmod_neg10 {m : Int} (h : m < 0) : m.tmod 10 = -((m.natAbs % 10 : Nat) : Int) := by
  obtain ⟨k, rfl⟩ : ∃ k : Nat, m = -(k : Int) := ⟨m.natAbs, by omega⟩
  rw [Int.neg_tmod, Int.natAbs_neg]; rfl
theorem tmod_pos10 {m : Int} (h : 0 ≤ m) : m.tmod 10 = ((m.natAbs % 10 : Nat) : Int) := by
  obtain ⟨k, rfl⟩ : ∃ k : Nat, m = (k : Int) := ⟨m.natAbs, by omega⟩
  rfl
theorem DRel.done {n m : Int} {c : ByteArray} (h : DRel n c m) (hgo : ¬ (m ≠ 0 ∨ c.data.toList = [])) : Lib.decDigits n.natAbs = c.data.toList := by
  rcases h.2.2 with ⟨g1, g2⟩ | ⟨_, g, _⟩ | ⟨g1, g2, g3⟩
  · exact absurd (.inr g1) hgo
  · exact absurd (.inl g) hgo
  · exact g3
theorem digs_neg {n : Int} {c : ByteArray} (h : Lib.decDigits n.natAbs = c.data.toList) (hn : n < 0) : (⟨#[45]⟩ : ByteArray) ++ c = digs n := by
  apply Go.WideShapes.bytes_inj
  rw [digs, ofL_toList, Lib.itoa, if_pos hn, h]; simp [ByteArray.data_append]
theorem digs_pos {n : Int} {c : ByteArray} (h : Lib.decDigits n.natAbs = c.data.toList) (hn : ¬ n < 0) : c = digs n := by
  apply Go.WideShapes.bytes_inj
  rw [digs, ofL_toList, Lib.itoa, if_neg hn, ← h]; congr 1; omega

set_option maxHeartbeats 2000000 in
theorem refDigits_any (n : Int) (w : World) (hn : Fit n) :
    Calls Tryd.prog 33 #[.int .i64 n] w fun e w' => e = .returned (.string (digs n)) ∧ w = w' := by
  go_enter Tryd.func33, Tryd.ntmps33
  go_wp2
  go_loop [3, 4] (fun s t => ∃ (c : ByteArray) (m : Int), s = .string c ∧ t = .int .i64 m ∧ DRel n c m) (fun s t => (intOf t).natAbs + emp s)
  case atStart => exact ⟨_, _, rfl, rfl, hn, by decide, .inl ⟨rfl, rfl⟩⟩
  case round =>
    obtain ⟨c, m, rfl, rfl, hr⟩ := hrel
    have hm1 := hr.1.1
    have hm2 := hr.1.2
    have hc1 := hr.2.1
    by_cases hgo : m ≠ 0 ∨ c.data.toList = []
    · have R0 := hr.next hn hgo
      obtain ⟨e, he, hlt⟩ : ∃ e : Nat, m.natAbs % 10 = e ∧ e < 10 := ⟨_, rfl, Nat.mod_lt _ (by decide)⟩
      have hcut := ten_one hlt
      rw [he] at R0
      have hx1 : (ofL [UInt8.ofNat (48 + e)]).size = 1 := rfl
      generalize ofL [UInt8.ofNat (48 + e)] = x at hcut R0 hx1
      have R := Lib.hid R0
      have HX := Lib.hid hx1
      have hx2 : x.size ≤ 1 := by omega
      have HM := Lib.hid (emp_zero (c := c) hx1)
      have HQ := Lib.hid (show (m.tdiv 10).natAbs = m.natAbs / 10 from Int.natAbs_tdiv m 10)
      have b1 : (e : Int) + 1 ≤ 10 := by omega
      have b2 : e + 1 ≤ 10 := by omega
      have b3 : (e : Int) ≤ (e : Int) + 1 := by omega
      clear R0 hx1
      rcases (show m < 0 ∨ m = 0 ∨ 0 < m by omega) with h0 | h0 | h0
      · have ht : m.tmod 10 = -(e : Int) := by rw [tmod_neg10 h0, he]
        have hz : (m != 0) = true := by simp; omega
        clear hgo he
        by_cases he0 : e = 0
        · subst he0
          go_wp2
          go_round
          case rel => exact ⟨_, _, rfl, rfl, R.out⟩
          case measure => rw [HM.out]; show (m.tdiv 10).natAbs + 0 < m.natAbs + _; have := HQ.out; omega
        · go_wp2
          go_round
          case rel => exact ⟨_, _, rfl, rfl, R.out⟩
          case measure => rw [HM.out]; show (m.tdiv 10).natAbs + 0 < m.natAbs + _; have := HQ.out; omega
      · subst h0
        have hce : c.toList.isEmpty = true := by rw [Lib.toList_data]; rcases hgo with h | h; exact absurd rfl h; rw [h]; rfl
        have HO := Lib.hid (emp_one (isEmpty_true hce))
        have he0 : e = 0 := by simpa using he.symm
        subst he0
        clear hgo he
        go_wp2
        go_round
        case rel => exact ⟨_, _, rfl, rfl, R.out⟩
        case measure => rw [HM.out, HO.out]; simp [intOf]
      · have ht : m.tmod 10 = (e : Int) := by rw [tmod_pos10 (by omega), he]
        have ht2 : m % 10 = (e : Int) := by omega
        have hz : (m != 0) = true := by simp; omega
        have HD := Lib.hid (show m / 10 = m.tdiv 10 from (Int.tdiv_eq_ediv_of_nonneg (by omega)).symm)
        clear hgo he
        go_wp2
        go_round
        case rel => exact ⟨_, _, rfl, rfl, by first | exact R.out | (rw [HD.out]; exact R.out)⟩
        case measure => rw [HM.out]; simp [intOf]; have := HQ.out; omega
    · have HR := Lib.hid (hr.done hgo)
      have hm0 : m = 0 := by
        by_cases h : m = 0
        · exact h
        · exact absurd (.inl h) hgo
      have hce : c.toList.isEmpty = false := by
        rcases h : c.toList.isEmpty with _ | _
        · rfl
        · exact absurd (.inr (isEmpty_true h)) hgo
      subst hm0
      clear hgo
      by_cases h0 : n < 0
      · go_wp2
        go_ret
        exact ⟨ret_str (digs_neg HR.out h0), rfl⟩
      · go_wp2
        go_ret
        exact ⟨ret_str (digs_pos HR.out (by omega)), rfl⟩
end Go.Proofs.YteibelmgebhleaaDoor
