/- What scan.Int answers, for every text; the world stands. And the example of the document. -/
import Derived.Test.YteibelmgebhleaaDoorRows1
import Derived.Test.YteibelmgebhleaaDoorNums
import Derived.Test.YteibelmgebhleaaDoorShelf
namespace Go.Proofs.YteibelmgebhleaaDoor
open Go.RowKit

theorem ret_two {a b : Int} {c d : Bool} (h : a = b) (g : c = d) : Ending.returned (.tuple #[.int .i64 a, .bool c]) = .returned (.tuple #[.int .i64 b, .bool d]) := by rw [h, g]
def valB (d : ByteArray) : Int := valOf d.data.toList
def digB (d : ByteArray) : Bool := allDig d.data.toList
theorem valB_bounds {d : ByteArray} (hd : d.size ≤ 18) : 0 ≤ valB d ∧ valB d ≤ 999999999999999999 := by
  unfold valB valOf
  split
  · have := val_small (l := d.data.toList) (by assumption) (by rw [data_len]; exact hd); omega
  · omega
theorem not_dig {c : UInt8} (h : ¬ (48 ≤ (c.toNat : Int) ∧ (c.toNat : Int) ≤ 57)) : isDig c = false := by
  rcases hb : isDig c with _ | _
  · rfl
  · have := (isDig_iff c).1 hb; omega
theorem all_no {d : ByteArray} {k : Nat} (hk : k < d.size) (h : isDig d[k] = false) : allDig d.data.toList = false := by
  rw [allDig, List.all_eq_false]
  refine ⟨d[k], ?_, by rw [h]; decide⟩
  have : d[k] = d.data.toList[k]'(by rw [data_len]; exact hk) := rfl
  rw [this]; exact List.getElem_mem _

set_option maxHeartbeats 1000000 in
theorem valueOf_any (d : ByteArray) (w : World) (hd : d.size ≤ 18) :
    Calls Tryd.prog 65 #[.string d] w fun e w' => e = .returned (.tuple #[.int .i64 (valB d), .bool (digB d)]) ∧ w = w' := by
  go_enter Tryd.func65, Tryd.ntmps65
  go_wp2
  go_loop [4, 5] (fun n i => ∃ k : Nat, k ≤ d.size ∧ i = .int .i64 k ∧ n = .int .i64 (val (d.data.toList.take k)) ∧ Hid (allDig (d.data.toList.take k) = true)) (fun _ i => d.size - (intOf i).toNat)
  case atStart => exact ⟨0, Nat.zero_le _, rfl, rfl, Lib.hid rfl⟩
  case round =>
    obtain ⟨k, hk, rfl, rfl, ha⟩ := hrel
    by_cases hlt : k < d.size
    · have hv : val (d.data.toList.take k) ≤ 99999999999999999 := val_smaller ha.out (by rw [take_len d k hk]; omega)
      by_cases h1 : 48 ≤ (d[k].toNat : Int)
      · by_cases h2 : (d[k].toNat : Int) ≤ 57
        · have HS := Lib.hid (show val (d.data.toList.take (k + 1)) = val (d.data.toList.take k) * 10 + (d[k].toNat - 48) by rw [take_snoc d k hlt, val_snoc])
          have HA := Lib.hid (show allDig (d.data.toList.take (k + 1)) = true by rw [take_snoc d k hlt, allDig_snoc, ha.out, (isDig_iff d[k]).2 (by omega)]; rfl)
          go_wp2
          go_round
          case rel => exact ⟨k + 1, by omega, by go_num, by rw [HS.out]; congr 1; omega, HA⟩
          case measure => simp [intOf]; omega
        · have hn := Lib.hid (all_no hlt (not_dig (fun h => h2 h.2)))
          go_wp2
          go_ret2
          exact ⟨ret_two (by unfold valB valOf; rw [hn.out]; rfl) (by unfold digB; rw [hn.out]), rfl⟩
      · have hn := Lib.hid (all_no hlt (not_dig (fun h => h1 h.1)))
        go_wp2
        go_ret2
        exact ⟨ret_two (by unfold valB valOf; rw [hn.out]; rfl) (by unfold digB; rw [hn.out]), rfl⟩
    · obtain rfl : k = d.size := by omega
      have hA := Lib.hid (show allDig d.data.toList = true by rw [← take_all d]; exact ha.out)
      go_wp2
      go_ret2
      exact ⟨ret_two (by unfold valB valOf; rw [hA.out, take_all]; rfl) (by unfold digB; rw [hA.out]), rfl⟩

theorem cut_any (s d : ByteArray) (b : Bool) (w : World) (hd : d.data.toList = bare s.data.toList) (hb : b = negL s.data.toList) :
    Calls Tryd.prog 64 #[.string s, .string ⟨#[45]⟩] w fun e w' => e = .returned (.tuple #[.string d, .bool b]) ∧ w = w' := by
  refine (strings_CutPrefix s ⟨#[45]⟩ w).mono ?_
  rintro e w' ⟨rfl, rfl⟩
  refine ⟨?_, rfl⟩
  have h1 : (⟨(Lib.trimPrefix s.data.toList [45]).toArray⟩ : ByteArray) = d := by
    show (⟨(bare s.data.toList).toArray⟩ : ByteArray) = d
    rw [← hd]
  rw [hb]
  show Ending.returned (.tuple #[.string ⟨(Lib.trimPrefix s.data.toList [45]).toArray⟩, _]) = _
  rw [h1]; rfl
theorem bare_length (l : List UInt8) : (bare l).length ≤ l.length := Lib.trimPrefix_le l [45]
theorem head_zero {d : ByteArray} (h : 0 < d.size) : d.data.toList.head? = some d[0] := by
  rw [List.head?_eq_getElem?, List.getElem?_eq_getElem (by rw [data_len]; exact h)]; rfl
theorem toNat_int {c : UInt8} {n : Nat} (hn : n < 256) : ((c.toNat : Int) == (n : Int)) = (c == UInt8.ofNat n) := by
  rw [Bool.eq_iff_iff, beq_iff_eq, beq_iff_eq]
  constructor
  · intro h; apply UInt8.toNat.inj; simp; omega
  · intro h; rw [h]; simp; omega

theorem ok_short {l : List UInt8} (h : (bare l).length < 1) : intOk l = false := by unfold intOk; rw [decide_eq_false (by omega)]; rfl
theorem ok_long {l : List UInt8} (h : 18 < (bare l).length) : intOk l = false := by unfold intOk; rw [decide_eq_false (p := (bare l).length ≤ 18) (by omega)]; simp
theorem ok_zero {l : List UInt8} (h : (bare l).head? = some 48) (hl : 1 < l.length) : intOk l = false := by unfold intOk; rw [h]; simp [hl]
theorem ok_else {l : List UInt8} (h1 : 1 ≤ (bare l).length) (h2 : (bare l).length ≤ 18) (h3 : (bare l).head? ≠ some 48 ∨ l.length ≤ 1) : intOk l = allDig (bare l) := by
  unfold intOk
  rw [decide_eq_true h1, decide_eq_true h2]
  have : ((bare l).head? == some 48 && decide (1 < l.length)) = false := by
    rcases h3 with h | h
    · rw [beq_eq_false_iff_ne.2 h]; rfl
    · rw [decide_eq_false (by omega)]; simp
  rw [this]; rfl
theorem val_else {l : List UInt8} (h : intOk l = allDig (bare l)) : intVal l = if negL l then -(valOf (bare l)) else valOf (bare l) := by
  unfold intVal valOf
  rw [h]
  cases allDig (bare l) <;> cases negL l <;> rfl

set_option maxHeartbeats 1000000 in
theorem int_any (s : ByteArray) (w : World) (hs : s.size ≤ 1099511627776) :
    Calls Tryd.prog 57 #[.string s] w fun e w' => e = .returned (.tuple #[.int .i64 (intVal s.data.toList), .bool (intOk s.data.toList)]) ∧ w = w' := by
  obtain ⟨d, hd⟩ : ∃ d : ByteArray, d.data.toList = bare s.data.toList := ⟨ofL (bare s.data.toList), rfl⟩
  obtain ⟨b, hb⟩ : ∃ b, b = negL s.data.toList := ⟨_, rfl⟩
  have hds : d.size ≤ s.size := by rw [← data_len, ← data_len, hd]; exact bare_length _
  have HD := Lib.hid hd
  have HB := Lib.hid hb
  have hdl := Lib.hid (show d.size = (bare s.data.toList).length by rw [← data_len, hd])
  have hsl := Lib.hid (data_len s)
  clear hd hb
  by_cases h1 : d.size < 1
  · have HK := Lib.hid (ok_short (l := s.data.toList) (by rw [← hdl.out]; exact h1))
    go_enter Tryd.func57, Tryd.ntmps57
    go_wp2_with (go_at_call 64; refine (cut_any s d b _ HD.out HB.out).mono ?_; rintro e w' ⟨rfl, rfl⟩)
    go_ret2
    exact ⟨ret_two (intVal_none HK.out).symm HK.out.symm, rfl⟩
  by_cases h2 : 18 < d.size
  · have HK := Lib.hid (ok_long (l := s.data.toList) (by rw [← hdl.out]; exact h2))
    go_enter Tryd.func57, Tryd.ntmps57
    go_wp2_with (go_at_call 64; refine (cut_any s d b _ HD.out HB.out).mono ?_; rintro e w' ⟨rfl, rfl⟩)
    go_ret2
    exact ⟨ret_two (intVal_none HK.out).symm HK.out.symm, rfl⟩
  have hp : 0 < d.size := by omega
  have HH := Lib.hid (show (bare s.data.toList).head? = some d[0] by rw [← HD.out]; exact head_zero hp)
  by_cases h3 : d[0] = 48 ∧ 1 < s.size
  · have HK := Lib.hid (ok_zero (l := s.data.toList) (by rw [HH.out, h3.1]) (by rw [hsl.out]; exact h3.2))
    have hz : ((d[0].toNat : Int) == 48) = true := by rw [h3.1]; rfl
    have hs1 := h3.2
    clear h3
    go_enter Tryd.func57, Tryd.ntmps57
    go_wp2_with (go_at_call 64; refine (cut_any s d b _ HD.out HB.out).mono ?_; rintro e w' ⟨rfl, rfl⟩)
    go_ret2
    exact ⟨ret_two (intVal_none HK.out).symm HK.out.symm, rfl⟩
  · have hv := valB_bounds (d := d) (by omega)
    have HK := Lib.hid (ok_else (l := s.data.toList) (by rw [← hdl.out]; omega) (by rw [← hdl.out]; omega) (by
      by_cases h : d[0] = 48
      · exact .inr (by rw [hsl.out]; have : ¬ 1 < s.size := fun g => h3 ⟨h, g⟩; omega)
      · exact .inl (by rw [HH.out]; exact fun g => h (Option.some.inj g))))
    have HV := Lib.hid (val_else HK.out)
    have HE := Lib.hid (show valB d = valOf (bare s.data.toList) by unfold valB; rw [HD.out])
    have HF := Lib.hid (show digB d = allDig (bare s.data.toList) by unfold digB; rw [HD.out])
    rcases (show (((d[0].toNat : Int) == 48) = false) ∨ (((d[0].toNat : Int) == 48) = true ∧ s.size ≤ 1) by
      rw [show (48 : Int) = ((48 : Nat) : Int) from rfl, toNat_int (by decide)]
      by_cases h : d[0] = 48
      · exact .inr ⟨by rw [h]; rfl, by have : ¬ 1 < s.size := fun g => h3 ⟨h, g⟩; omega⟩
      · exact .inl (by simpa using h)) with hz | ⟨hz, hs1⟩
    all_goals
      clear h3
      rcases b with _ | _
      all_goals
        go_enter Tryd.func57, Tryd.ntmps57
        go_wp2_with (first
          | (go_at_call 64; refine (cut_any s d _ _ HD.out HB.out).mono ?_; rintro e w' ⟨rfl, rfl⟩)
          | (go_at_call 65; refine (valueOf_any d _ (by omega)).mono ?_; rintro e w' ⟨rfl, rfl⟩))
        go_ret2
        exact ⟨ret_two (by rw [HV.out, ← HB.out, HE.out]; rfl) (by rw [HK.out, HF.out]), rfl⟩
end Go.Proofs.YteibelmgebhleaaDoor
