/- The walk of ScanJoins: for any two texts of together at most 2^21 bytes the law returns true; old memory stands. -/
import Derived.Test.YtakknkenanhjgaaInts
import Derived.Test.YtakknkenanhjgaaSame
import Derived.Test.YtakknkenanhjgaaMem
namespace Go.Proofs.Ytakknkenanhjgaa
open Go.RowKit

theorem data_add (a b : ByteArray) : (a ++ b).data.toList = a.data.toList ++ b.data.toList := by simp [ByteArray.data_append]
def lenSum (l : List (List UInt8)) (k : Nat) : Nat := ((l.take k).map List.length).sum
theorem lenSum_succ (l : List (List UInt8)) (k : Nat) (h : k < l.length) : lenSum l (k + 1) = lenSum l k + l[k].length := by
  unfold lenSum; rw [List.take_succ_eq_append_getElem h, List.map_append, List.sum_append]; rfl
theorem lenSum_all (l : List (List UInt8)) : lenSum l l.length = (l.map List.length).sum := by unfold lenSum; rw [List.take_length]
theorem lenSum_le (l : List (List UInt8)) (k : Nat) : lenSum l k ≤ (l.map List.length).sum := by
  unfold lenSum
  induction l generalizing k with
  | nil => simp
  | cons x l ih => cases k with
    | zero => simp
    | succ k => simp only [List.take_succ_cons, List.map_cons, List.sum_cons]; have := ih k; omega
def blanks (l : List UInt8) : Nat := (l.filter (· == 32)).length
theorem blanks_snoc (l : List UInt8) (c : UInt8) : blanks (l ++ [c]) = blanks l + if c = 32 then 1 else 0 := by
  unfold blanks; rw [List.filter_append]; by_cases h : c = 32 <;> simp [h]
theorem blanks_le (l : List UInt8) : blanks l ≤ l.length := List.length_filter_le _ _
theorem joins_sum (s t : List UInt8) : ((words s ++ words t).map List.length).sum + blanks (s ++ t) = s.length + t.length := by
  have h1 := words_count s
  have h2 := words_count t
  rw [List.map_append, List.sum_append, blanks, List.filter_append, List.length_append]; omega

set_option maxRecDepth 100000 in
set_option maxHeartbeats 4000000 in
theorem joins_walk (s t : ByteArray) (w : World) (hs : s.size + t.size ≤ 2097152) :
    Calls Try.prog 3 #[.string s, .string t] w fun e w' => e = .returned (.bool true) ∧ Below w.heap.size w w' := by
  obtain ⟨i0, hi0, hz0, hz1, hz2⟩ := info_parts str_info
  have e1 : (s ++ ⟨#[32]⟩ ++ t).data.toList = s.data.toList ++ 32 :: t.data.toList := by rw [data_add, data_add]; simp
  have z1 : (s ++ ⟨#[32]⟩ ++ t).size ≤ 1099511627776 := by
    have : (⟨#[32]⟩ : ByteArray).size = 1 := rfl
    rw [ByteArray.size_append, ByteArray.size_append, this]; omega
  have C1 := Lib.hid (fun W => words_any (s ++ ⟨#[32]⟩ ++ t) W z1)
  obtain ⟨L, hL⟩ : ∃ L, words s.data.toList ++ words t.data.toList = L := ⟨_, rfl⟩
  rw [e1, words_join, hL] at C1
  have HL := Lib.hid hL
  have HW := Lib.hid (show ∀ x ∈ L, IsWord x by
    intro x hx; rw [← hL] at hx
    rcases List.mem_append.1 hx with h | h
    · exact words_isWord _ x h
    · exact words_isWord _ x h)
  have hsum : (L.map List.length).sum + blanks (s ++ t).data.toList = s.size + t.size := by
    rw [← hL, data_add, joins_sum, data_len, data_len]
  have HS := Lib.hid hsum
  have hsum1 : (L.map List.length).sum ≤ 2097152 := by omega
  have hlen : L.length ≤ 2097152 := by have := sum_one HW.out; omega
  clear hL hsum
  have C2 := Lib.hid (fun W => words_any s W (by omega))
  have C3 := Lib.hid (fun W => words_any t W (by omega))
  have L1 := words_length s.data.toList
  have L2 := words_length t.data.toList
  rw [data_len] at L1 L2
  clear e1 z1
  go_enter Try.func3, Try.ntmps3
  go_wp2_with (go_at_call 4; fail)
  (with_reducible refine (C1.out _).mono ?_); rintro e w1 ⟨v1, rfl, hown1, hb1⟩; obtain ⟨A1, c1, rfl, _⟩ := own_view hown1; have H1 := Lib.hid hown1; have B1 := Lib.hid hb1; clear hown1 hb1
  go_wp2_with (go_at_call 4; fail)
  (with_reducible refine (C2.out _).mono ?_); rintro e w2 ⟨v2, rfl, hown2, hb2⟩; have H2 := Lib.hid hown2; have B2 := Lib.hid hb2; clear hown2 hb2
  go_wp2_with (go_at_call 4; fail)
  (with_reducible refine (C3.out _).mono ?_); rintro e w3 ⟨v3, rfl, hown3, hb3⟩; have H3 := Lib.hid hown3; have B3 := Lib.hid hb3; clear hown3 hb3
  obtain ⟨A3, c3, rfl, _⟩ := own_view H3.out
  have R3 := Lib.hid (Reads.of_own H3.out)
  have H2' := Lib.hid (own_below H2.out B3.out)
  have S2 := B2.out.size
  have S3 := B3.out.size
  go_wp2_with (at_builtin; refine wpList_append_any _ rfl (.tmp 19) (.tmp 21) 22 rfl w1.heap.size 9 i0 _ 1 16 Try.underlying22 hi0 hz0 hz1 hz2 rfl (by omega) v2 _ _ rfl H2'.out w3.heap.size A3 _ c3 _ rfl R3.out (strs_one _) (by unfold maxLen; omega) (by omega) (by omega) ?_)
  intro v4 w4 hown4 hg4 hat4
  rw [← strs_append, ← List.length_append, HL.out] at hown4
  have H4 := Lib.hid hown4
  have S4 := hg4.size
  have B4 := Lib.hid (show Below w1.heap.size w1 w4 from ((B2.out.trans (B3.out.mono S2)).grown hg4 (by omega) (fun k hk => (H2.out.lt k hk).1)))
  have H1' := Lib.hid (own_below H1.out B4.out)
  have BW := Lib.hid (show Below w.heap.size w w4 from B1.out.trans (B4.out.mono B1.out.size))
  clear hown4 hg4 hat4
  have C5 := Lib.hid (same_any _ _ _ _ _ w4 H1'.out H4.out (by omega))
  go_wp2_with (go_at_call 5; fail)
  (with_reducible refine (C5.out).mono ?_); rintro e w5 ⟨rfl, n5, rfl⟩
  have HB5 := Lib.hid (below_draws BW.out n5)
  have H15 := Lib.hid (own_draws H1'.out n5)
  clear C1 C2 C3 C5 H2' H3 H4 R3 B1 B2 B3 B4 S2 S3 S4 BW H1 H1' H2
  generalize w4.drewN n5 = w6 at *
  go_wp2
  go_loopw [6, 27] (fun z i wr => ∃ k : Nat, k ≤ L.length ∧ i = .int .i64 k ∧ z = .int .i64 (lenSum L k) ∧ Hid (wr.ownsRow w.heap.size 9 1 (.slice A1 L.length c1) L.length (strs L)) ∧ Hid (Below w.heap.size w wr)) (fun _ i _ => L.length - (intOf i).toNat)
  case atStart => exact ⟨0, Nat.zero_le _, rfl, rfl, H15, HB5⟩
  case round =>
    obtain ⟨k, hk, rfl, rfl, hown, hb⟩ := hrel
    have hls := lenSum_le L k
    by_cases hlt : k < L.length
    · obtain ⟨A', c', hv, hcell⟩ := own_view hown.out
      obtain ⟨g, hg, hc⟩ := hcell k hlt
      obtain rfl : A1 = some ⟨g, 0, none⟩ := by injection hv with h1 h2 h3; rw [h1]; exact hg
      clear hcell hv hg
      have hw := HW.out L[k] (List.getElem_mem hlt)
      have hx : (ofL L[k]).toList.isEmpty = false := by
        rcases h : (ofL L[k]).toList.isEmpty with _ | _
        · rfl
        · exact absurd (isEmpty_true h) hw.1
      have HN := Lib.hid (show lenSum L (k + 1) = lenSum L k + (ofL L[k]).size by rw [lenSum_succ L k hlt, ← data_len, ofL_toList])
      have hxs : (ofL L[k]).size ≤ 2097152 := by have := lenSum_le L (k + 1); have := HN.out; omega
      have CW := Lib.hid (words_any (ofL L[k]) wr (by omega))
      rw [ofL_toList, words_word hw] at CW
      clear hw
      generalize ofL L[k] = x at *
      go_wp2_with (go_at_call 4; fail)
      (with_reducible refine (CW.out).mono ?_); rintro e w7 ⟨v7, rfl, hown7, hb7⟩; obtain ⟨A7, c7, rfl, _⟩ := own_view hown7; have H7 := Lib.hid (own_below hown.out hb7); have B7 := Lib.hid (hb.out.trans (hb7.mono hb.out.size)); clear hown7 hb7
      go_wp2
      go_roundw
      case rel => exact ⟨k + 1, by omega, by go_num, by rw [HN.out]; go_num, H7, B7⟩
      case measure => simp [intOf]; omega
    · obtain rfl : k = L.length := by omega
      have HE := Lib.hid (lenSum_all L)
      have hst : (s ++ t).size = s.size + t.size := ByteArray.size_append ..
      have HST := Lib.hid hst
      clear hst
      obtain ⟨u, hu⟩ : ∃ u, s ++ t = u := ⟨_, rfl⟩
      rw [hu] at HS HST
      have hul : u.size ≤ 2097152 := by rw [HST.out]; exact hs
      go_wp2
      clear hu
      go_loop [9, 11] (fun b i => ∃ j : Nat, j ≤ u.size ∧ i = .int .i64 j ∧ b = .int .i64 (blanks (u.data.toList.take j))) (fun _ i => u.size - (intOf i).toNat)
      case atStart => exact ⟨0, Nat.zero_le _, rfl, rfl⟩
      case round =>
        obtain ⟨j, hj, rfl, rfl⟩ := hrel
        have hbl : blanks (u.data.toList.take j) ≤ j := by have h1 := blanks_le (u.data.toList.take j); rw [take_len u j hj] at h1; exact h1
        by_cases hjl : j < u.size
        · by_cases hc : u[j] = 32
          · have R := Lib.hid (show blanks (u.data.toList.take (j + 1)) = blanks (u.data.toList.take j) + 1 by rw [take_snoc u j hjl, blanks_snoc, if_pos hc])
            have hc' : ((u[j].toNat : Int) == 32) = true := by rw [hc]; rfl
            clear hc
            go_wp2
            go_round
            case rel => exact ⟨j + 1, by omega, by go_num, by rw [R.out]; go_num⟩
            case measure => simp [intOf]; omega
          · have R := Lib.hid (show blanks (u.data.toList.take (j + 1)) = blanks (u.data.toList.take j) by rw [take_snoc u j hjl, blanks_snoc, if_neg hc]; rfl)
            have hc' : ((u[j].toNat : Int) == 32) = false := by
              rw [beq_eq_false_iff_ne]; intro h; exact hc (UInt8.toNat.inj (show u[j].toNat = 32 by omega))
            clear hc
            go_wp2
            go_round
            case rel => exact ⟨j + 1, by omega, by go_num, by rw [R.out]⟩
            case measure => simp [intOf]; omega
        · obtain rfl : j = u.size := by omega
          have hfin : ((lenSum L L.length : Int) + (blanks (u.data.toList.take u.size) : Int) == (s.size : Int) + (t.size : Int)) = true := by
            rw [beq_iff_eq, HE.out, take_all]; have := HS.out; omega
          go_wp2_with (go_at_call 6; refine (wakes_any _).mono ?_; rintro e w' ⟨rfl, rfl⟩)
          go_ret
          exact ⟨rfl, hb.out⟩
end Go.Proofs.Ytakknkenanhjgaa
