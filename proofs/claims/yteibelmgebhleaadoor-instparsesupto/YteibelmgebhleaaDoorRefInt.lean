/- What draymanref01.Int answers, for every text: what scan.Int does; the world stands. -/
import Derived.Test.YteibelmgebhleaaDoorInts
namespace Go.Proofs.YteibelmgebhleaaDoor
open Go.RowKit
set_option maxRecDepth 100000

/-- the loop of ref.Int, and what is behind it, by cases of the sign -/
def outV (b : Bool) (d : ByteArray) : Int := if b then -(valB d) else valB d
theorem bare_neg {s : ByteArray} (h0 : 0 < s.size) (h : s[0] = 45) : (s.extract 1 s.size).data.toList = bare s.data.toList ∧ negL s.data.toList = true := by
  have e : s.data.toList = 45 :: (s.extract 1 s.size).data.toList := by
    rw [Lib.extract_data, List.take_of_length_le (by rw [List.length_drop, data_len]; exact Nat.le_refl _)]
    have := List.drop_eq_getElem_cons (l := s.data.toList) (i := 0) (by rw [data_len]; exact h0)
    rw [List.drop_zero] at this
    rw [this]
    have h1 : s.data.toList[0]'(by rw [data_len]; exact h0) = s[0] := rfl
    rw [h1, h]; rfl
  constructor
  · conv => rhs; rw [e]
    rw [bare_minus]
  · rw [e, negL_cons]; rfl
theorem bare_pos {s : ByteArray} (h : ∀ h0 : 0 < s.size, s[0] ≠ 45) : bare s.data.toList = s.data.toList ∧ negL s.data.toList = false := by
  rcases hl : s.data.toList with _ | ⟨c, l⟩
  · exact ⟨rfl, rfl⟩
  · have h0 : 0 < s.size := by rw [← data_len, hl]; simp
    have hc : c ≠ 45 := by
      have := h h0
      have e : s[0] = c := by
        have h1 : s[0] = s.data.toList[0]'(by rw [data_len]; exact h0) := rfl
        rw [h1]; simp [hl]
      rwa [e] at this
    exact ⟨bare_other hc l, by rw [negL_cons]; simpa using hc⟩
theorem as48 {c : UInt8} (h : ¬ c = 48) : ¬ (c.toNat : Int) = 48 := fun g => h (UInt8.toNat.inj (show c.toNat = 48 by omega))

set_option maxHeartbeats 2000000 in
theorem refInt_minus (s d : ByteArray) (w : World) (hs : s.size ≤ 1099511627776) (h0 : 0 < s.size) (h45 : s[0] = 45) (hd : s.extract 1 s.size = d) :
    Calls Tryd.prog 40 #[.string s] w fun e w' => e = .returned (.tuple #[.int .i64 (intVal s.data.toList), .bool (intOk s.data.toList)]) ∧ w = w' := by
  obtain ⟨hd', hb⟩ := bare_neg h0 h45
  rw [hd] at hd'
  have hm' : ((s[0].toNat : Int) == 45) = true := by rw [h45]; rfl
  have hdz : d.size ≤ s.size := by rw [← hd]; simp
  have HB := Lib.hid hb
  have HD := Lib.hid hd'
  have HL := Lib.hid (show (bare s.data.toList).length = d.size by rw [← hd', data_len])
  have HLs := Lib.hid (show s.data.toList.length = d.size + 1 by rw [data_len, ← hd]; simp; omega)
  clear hd' hb h45
  by_cases h1 : d.size < 1
  · have HK := Lib.hid (ok_short (l := s.data.toList) (by rw [HL.out]; exact h1))
    go_enter Tryd.func40, Tryd.ntmps40
    go_wp2
    go_ret2
    exact ⟨ret_two (intVal_none HK.out).symm HK.out.symm, rfl⟩
  by_cases h2 : 18 < d.size
  · have HK := Lib.hid (ok_long (l := s.data.toList) (by rw [HL.out]; exact h2))
    go_enter Tryd.func40, Tryd.ntmps40
    go_wp2
    go_ret2
    exact ⟨ret_two (intVal_none HK.out).symm HK.out.symm, rfl⟩
  have hp : 0 < d.size := by omega
  by_cases h3 : d[0] = 48
  · have HK := Lib.hid (ok_zero (l := s.data.toList) (by rw [← HD.out, head_zero hp, h3]) (by rw [HLs.out]; omega))
    have hz : ((d[0].toNat : Int) == 48) = true := by rw [h3]; rfl
    clear h3
    by_cases h4 : 1 < d.size
    all_goals
      go_enter Tryd.func40, Tryd.ntmps40
      go_wp2
      go_ret2
      exact ⟨ret_two (intVal_none HK.out).symm HK.out.symm, rfl⟩
  · have hz : ((d[0].toNat : Int) == 48) = false := by simpa using as48 h3
    have HK := Lib.hid (ok_else (l := s.data.toList) (by rw [HL.out]; omega) (by rw [HL.out]; omega) (.inl (by rw [← HD.out, head_zero hp]; exact fun g => h3 (Option.some.inj g))))
    have HV := Lib.hid (val_else HK.out)
    have hds : d.size ≤ 18 := by omega
    have HE := Lib.hid (show valB d = valOf (bare s.data.toList) by unfold valB; rw [HD.out])
    have HF := Lib.hid (show digB d = allDig (bare s.data.toList) by unfold digB; rw [HD.out])
    clear h3
    go_enter Tryd.func40, Tryd.ntmps40
    go_wp2
    clear hd HL HLs HD h1 h2 hz
    have hvb := valB_bounds hds
    go_loop [5, 6] (fun n i => ∃ k : Nat, k ≤ d.size ∧ i = .int .i64 k ∧ n = .int .i64 (val (d.data.toList.take k)) ∧ Hid (allDig (d.data.toList.take k) = true)) (fun _ i => d.size - (intOf i).toNat)
    case atStart => exact ⟨0, Nat.zero_le _, rfl, rfl, Lib.hid rfl⟩
    case round =>
      obtain ⟨k, hk, rfl, rfl, ha⟩ := hrel
      by_cases hlt : k < d.size
      · have hv : val (d.data.toList.take k) ≤ 99999999999999999 := val_smaller ha.out (by rw [take_len _ k (by omega)]; omega)
        by_cases g1 : 48 ≤ (d[k].toNat : Int)
        · by_cases g2 : (d[k].toNat : Int) ≤ 57
          · have HS' := Lib.hid (show val (d.data.toList.take (k + 1)) = val (d.data.toList.take k) * 10 + (d[k].toNat - 48) by rw [take_snoc _ k hlt, val_snoc])
            have HA := Lib.hid (show allDig (d.data.toList.take (k + 1)) = true by rw [take_snoc _ k hlt, allDig_snoc, ha.out, (isDig_iff _).2 (by omega)]; rfl)
            go_wp2
            go_round
            case rel => exact ⟨k + 1, by omega, by go_num, by rw [HS'.out]; congr 1; omega, HA⟩
            case measure => simp [intOf]; omega
          · have hn := Lib.hid (all_no hlt (not_dig (fun h => g2 h.2)))
            go_wp2
            go_ret2
            exact ⟨ret_two (by rw [HV.out, HB.out, ← HE.out]; unfold valB valOf; rw [hn.out]; rfl) (by rw [HK.out, ← HF.out]; unfold digB; rw [hn.out]), rfl⟩
        · have hn := Lib.hid (all_no hlt (not_dig (fun h => g1 h.1)))
          go_wp2
          go_ret2
          exact ⟨ret_two (by rw [HV.out, HB.out, ← HE.out]; unfold valB valOf; rw [hn.out]; rfl) (by rw [HK.out, ← HF.out]; unfold digB; rw [hn.out]), rfl⟩
      · obtain rfl : k = d.size := by omega
        have hA := Lib.hid (show allDig d.data.toList = true by rw [← take_all d]; exact ha.out)
        have HW := Lib.hid (show ((val (d.data.toList.take d.size) : Nat) : Int) = valB d by unfold valB valOf; rw [hA.out, take_all]; rfl)
        have hw1 : (val (d.data.toList.take d.size) : Int) ≤ 999999999999999999 := by rw [HW.out]; exact hvb.2
        go_wp2
        go_ret2
        exact ⟨ret_two (by rw [HV.out, HB.out, ← HE.out, ← HW.out]; rfl) (by rw [HK.out, ← HF.out]; unfold digB; rw [hA.out]), rfl⟩

set_option maxHeartbeats 2000000 in
theorem refInt_plus (d : ByteArray) (w : World) (hs : d.size ≤ 1099511627776) (h45 : ∀ h0 : 0 < d.size, d[0] ≠ 45) :
    Calls Tryd.prog 40 #[.string d] w fun e w' => e = .returned (.tuple #[.int .i64 (intVal d.data.toList), .bool (intOk d.data.toList)]) ∧ w = w' := by
  obtain ⟨hd', hb⟩ := bare_pos h45
  have HB := Lib.hid hb
  have HD := Lib.hid hd'.symm
  have HL := Lib.hid (show (bare d.data.toList).length = d.size by rw [hd', data_len])
  have HLs := Lib.hid (data_len d)
  clear hd' hb
  by_cases h1 : d.size < 1
  · have HK := Lib.hid (ok_short (l := d.data.toList) (by rw [HL.out]; exact h1))
    clear h45
    go_enter Tryd.func40, Tryd.ntmps40
    go_wp2
    go_ret2
    exact ⟨ret_two (intVal_none HK.out).symm HK.out.symm, rfl⟩
  have hp : 0 < d.size := by omega
  have hm' : ((d[0].toNat : Int) == 45) = false := by
    rw [show (45 : Int) = ((45 : Nat) : Int) from rfl, toNat_int (by decide)]; simpa using h45 hp
  clear h45
  by_cases h2 : 18 < d.size
  · have HK := Lib.hid (ok_long (l := d.data.toList) (by rw [HL.out]; exact h2))
    go_enter Tryd.func40, Tryd.ntmps40
    go_wp2
    go_ret2
    exact ⟨ret_two (intVal_none HK.out).symm HK.out.symm, rfl⟩
  by_cases h3 : d[0] = 48 ∧ 1 < d.size
  · obtain ⟨h3, h4⟩ := h3
    have HK := Lib.hid (ok_zero (l := d.data.toList) (by rw [← HD.out, head_zero hp, h3]) (by rw [HLs.out]; omega))
    have hz : ((d[0].toNat : Int) == 48) = true := by rw [h3]; rfl
    clear h3
    go_enter Tryd.func40, Tryd.ntmps40
    go_wp2
    go_ret2
    exact ⟨ret_two (intVal_none HK.out).symm HK.out.symm, rfl⟩
  · have HK := Lib.hid (ok_else (l := d.data.toList) (by rw [HL.out]; omega) (by rw [HL.out]; omega) (by
      by_cases h : d[0] = 48
      · exact .inr (by rw [HLs.out]; have : ¬ 1 < d.size := fun g => h3 ⟨h, g⟩; omega)
      · exact .inl (by rw [← HD.out, head_zero hp]; exact fun g => h (Option.some.inj g))))
    have HV := Lib.hid (val_else HK.out)
    have hds : d.size ≤ 18 := by omega
    have HE := Lib.hid (show valB d = valOf (bare d.data.toList) by unfold valB; rw [← HD.out])
    have HF := Lib.hid (show digB d = allDig (bare d.data.toList) by unfold digB; rw [← HD.out])
    rcases (show (((d[0].toNat : Int) == 48) = false) ∨ (((d[0].toNat : Int) == 48) = true ∧ d.size ≤ 1) by
      rw [show (48 : Int) = ((48 : Nat) : Int) from rfl, toNat_int (by decide)]
      by_cases h : d[0] = 48
      · exact .inr ⟨by rw [h]; rfl, by have : ¬ 1 < d.size := fun g => h3 ⟨h, g⟩; omega⟩
      · exact .inl (by simpa using h)) with hz | ⟨hz, hs1⟩
    all_goals
      clear h3
      go_enter Tryd.func40, Tryd.ntmps40
      go_wp2
      clear HL HLs HD h1 h2 hz
      have hvb := valB_bounds hds
      go_loop [5, 6] (fun n i => ∃ k : Nat, k ≤ d.size ∧ i = .int .i64 k ∧ n = .int .i64 (val (d.data.toList.take k)) ∧ Hid (allDig (d.data.toList.take k) = true)) (fun _ i => d.size - (intOf i).toNat)
      case atStart => exact ⟨0, Nat.zero_le _, rfl, rfl, Lib.hid rfl⟩
      case round =>
        obtain ⟨k, hk, rfl, rfl, ha⟩ := hrel
        by_cases hlt : k < d.size
        · have hv : val (d.data.toList.take k) ≤ 99999999999999999 := val_smaller ha.out (by rw [take_len _ k (by omega)]; omega)
          by_cases g1 : 48 ≤ (d[k].toNat : Int)
          · by_cases g2 : (d[k].toNat : Int) ≤ 57
            · have HS' := Lib.hid (show val (d.data.toList.take (k + 1)) = val (d.data.toList.take k) * 10 + (d[k].toNat - 48) by rw [take_snoc _ k hlt, val_snoc])
              have HA := Lib.hid (show allDig (d.data.toList.take (k + 1)) = true by rw [take_snoc _ k hlt, allDig_snoc, ha.out, (isDig_iff _).2 (by omega)]; rfl)
              go_wp2
              go_round
              case rel => exact ⟨k + 1, by omega, by go_num, by rw [HS'.out]; congr 1; omega, HA⟩
              case measure => simp [intOf]; omega
            · have hn := Lib.hid (all_no hlt (not_dig (fun h => g2 h.2)))
              go_wp2
              go_ret2
              exact ⟨ret_two (by rw [HV.out, HB.out, ← HE.out]; unfold valB valOf; rw [hn.out]; rfl) (by rw [HK.out, ← HF.out]; unfold digB; rw [hn.out]), rfl⟩
          · have hn := Lib.hid (all_no hlt (not_dig (fun h => g1 h.1)))
            go_wp2
            go_ret2
            exact ⟨ret_two (by rw [HV.out, HB.out, ← HE.out]; unfold valB valOf; rw [hn.out]; rfl) (by rw [HK.out, ← HF.out]; unfold digB; rw [hn.out]), rfl⟩
        · obtain rfl : k = d.size := by omega
          have hA := Lib.hid (show allDig d.data.toList = true by rw [← take_all d]; exact ha.out)
          have HW := Lib.hid (show ((val (d.data.toList.take d.size) : Nat) : Int) = valB d by unfold valB valOf; rw [hA.out, take_all]; rfl)
          have hw1 : (val (d.data.toList.take d.size) : Int) ≤ 999999999999999999 := by rw [HW.out]; exact hvb.2
          go_wp2
          go_ret2
          exact ⟨ret_two (by rw [HV.out, HB.out, ← HE.out, ← HW.out]; rfl) (by rw [HK.out, ← HF.out]; unfold digB; rw [hA.out]), rfl⟩

theorem refInt_any (s : ByteArray) (w : World) (hs : s.size ≤ 1099511627776) :
    Calls Tryd.prog 40 #[.string s] w fun e w' => e = .returned (.tuple #[.int .i64 (intVal s.data.toList), .bool (intOk s.data.toList)]) ∧ w = w' := by
  by_cases hm : ∃ h0 : 0 < s.size, s[0] = 45
  · obtain ⟨h0, h45⟩ := hm
    exact refInt_minus s _ w hs h0 h45 rfl
  · exact refInt_plus s w hs (fun h0 h => hm ⟨h0, h⟩)
end Go.Proofs.YteibelmgebhleaaDoor
