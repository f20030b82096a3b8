/- Facts on the digits of a number, as ScanDigits asks them: the sign, no 0 ahead, a tenth's digits, spoilt digits. -/
import Derived.Test.YtakknkenanhjgaaDoorDigs
import Derived.Test.YtakknkenanhjgaaDoorInts
namespace Go.Proofs.YtakknkenanhjgaaDoor
open Go.RowKit

theorem get_of {d : ByteArray} {c : UInt8} {l : List UInt8} (h : d.data.toList = c :: l) (h0 : 0 < d.size) : d[0] = c := by
  have h1 : d[0] = d.data.toList[0]'(by rw [data_len]; exact h0) := rfl
  rw [h1]; simp [h]
theorem get_of1 {d : ByteArray} {b c : UInt8} {l : List UInt8} (h : d.data.toList = b :: c :: l) (h0 : 1 < d.size) : d[1] = c := by
  have h1 : d[1] = d.data.toList[1]'(by rw [data_len]; exact h0) := rfl
  rw [h1]; simp [h]
theorem size_of {d : ByteArray} {l : List UInt8} (h : d.data.toList = l) : d.size = l.length := by rw [← data_len, h]
theorem digs_size_pos (p : Int) : 0 < (digs p).size := by
  rw [size_of (d := digs p) rfl]
  unfold digs; rw [ofL_toList, Lib.itoa]
  split
  · simp
  · exact List.length_pos_iff.2 (decDigits_ne _)
theorem byte_ne {c : UInt8} {n : Nat} (hn : n < 256) (h : c ≠ UInt8.ofNat n) : ((c.toNat : Int) == (n : Int)) = false := by rw [toNat_int hn]; simpa using h
theorem digs_below {p : Int} (h : p < 0) (h0 : 0 < (digs p).size) : 1 < (digs p).size ∧ (((digs p)[0].toNat : Int) == 45) = true ∧ (((digs p)[0].toNat : Int) == 48) = false ∧ ∀ h1 : 1 < (digs p).size, (((digs p)[1].toNat : Int) == 48) = false := by
  obtain ⟨c, l, e, h48, h45⟩ := decDigits_head (u := p.natAbs) (by omega)
  have hd : (digs p).data.toList = 45 :: c :: l := by rw [digs, ofL_toList, Lib.itoa, if_pos h, e]
  refine ⟨by rw [size_of hd]; simp, by rw [get_of hd h0]; rfl, by rw [get_of hd h0]; rfl, fun h1 => by rw [get_of1 hd h1]; exact byte_ne (n := 48) (by decide) h48⟩
theorem digs_above {p : Int} (h : 0 < p) (h0 : 0 < (digs p).size) : (((digs p)[0].toNat : Int) == 45) = false ∧ (((digs p)[0].toNat : Int) == 48) = false := by
  obtain ⟨c, l, e, h48, h45⟩ := decDigits_head (u := p.toNat) (by omega)
  have hd : (digs p).data.toList = c :: l := by rw [digs, ofL_toList, Lib.itoa, if_neg (by omega), e]
  exact ⟨by rw [get_of hd h0]; exact byte_ne (n := 45) (by decide) h45, by rw [get_of hd h0]; exact byte_ne (n := 48) (by decide) h48⟩
theorem digs_zero (h0 : 0 < (digs 0).size) : (((digs 0)[0].toNat : Int) == 45) = false := by
  have hd : (digs 0).data.toList = [48] := by rw [digs, ofL_toList, Lib.itoa, if_neg (by decide)]; exact decDigits_zero
  rw [get_of hd h0]; rfl
theorem itoa_tenth {p : Int} (h : 9 < p ∨ p < -9) : ∃ c, Lib.itoa p = Lib.itoa (p.tdiv 10) ++ [c] := by
  have hq : (p.tdiv 10).natAbs = p.natAbs / 10 := Int.natAbs_tdiv p 10
  rcases h with h | h
  · have hs : p.tdiv 10 = p / 10 := Int.tdiv_eq_ediv_of_nonneg (by omega)
    have e : (p.tdiv 10).toNat = p.toNat / 10 := by omega
    refine ⟨UInt8.ofNat (48 + p.toNat % 10), ?_⟩
    rw [Lib.itoa, if_neg (by omega), Lib.itoa, if_neg (by omega), e, decDigits_step (by omega)]
  · have hs : p.tdiv 10 = -((p.natAbs / 10 : Nat) : Int) := by
      obtain ⟨k, rfl⟩ : ∃ k : Nat, p = -(k : Int) := ⟨p.natAbs, by omega⟩
      rw [Int.neg_tdiv, Int.natAbs_neg]; rfl
    refine ⟨UInt8.ofNat (48 + p.natAbs % 10), ?_⟩
    rw [Lib.itoa, if_pos (by omega), Lib.itoa, if_pos (by omega), hq, decDigits_step (by omega)]; rfl
theorem digs_tenth {p : Int} (h : 9 < p ∨ p < -9) : (digs p).extract 0 ((digs p).size - 1) = digs (p.tdiv 10) := by
  obtain ⟨c, e⟩ := itoa_tenth h
  have hs : (digs p).size - 1 = (Lib.itoa (p.tdiv 10)).length := by rw [size_of (d := digs p) rfl, digs, ofL_toList, e]; simp
  apply Go.WideShapes.bytes_inj
  rw [hs, Lib.extract_data, digs, digs, ofL_toList, ofL_toList, e]; simp
/-- digits with a byte in between that is neither a digit nor a sign -/
theorem spoilt_none {x y z : ByteArray} {c : UInt8} (hy : y.data.toList = [c]) (hd : ¬ (48 ≤ (c.toNat : Int) ∧ (c.toNat : Int) ≤ 57)) (hm : ((c.toNat : Int) == 45) = false) :
    intOk ((x ++ y ++ z).data.toList) = false := by
  refine int_spoilt (c := c) ?_ (not_dig hd) (fun h => by rw [h] at hm; cases hm)
  simp [ByteArray.data_append, hy]
end Go.Proofs.YtakknkenanhjgaaDoor
