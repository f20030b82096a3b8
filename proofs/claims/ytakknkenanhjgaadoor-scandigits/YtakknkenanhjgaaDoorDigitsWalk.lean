/- The walk of ScanDigits: for any two ints and any byte the law returns true; old memory stands. -/
import Derived.Test.YtakknkenanhjgaaDoorDigitsPlain
import Derived.Deep.RegionWith
namespace Go.Proofs.YtakknkenanhjgaaDoor
open Go.RowKit

theorem not_empty {d : ByteArray} (h : 0 < d.size) : d.toList.isEmpty = false := by
  rcases hx : d.toList.isEmpty with _ | _
  · rfl
  · have := isEmpty_true hx; rw [← data_len, this] at h; simp at h

theorem conv_one (c : Int) (h0 : 0 ≤ c) (h1 : c ≤ 255) (W : World) :
    (convert 35 9 (.slice (some ⟨W.heap.size, 0, none⟩) 1 1)).run Tryd.prog (W.alloc (.cells #[.int .u8 c] 5)).drew = .ok (.string (ofL [UInt8.ofNat c.toNat])) (W.alloc (.cells #[.int .u8 c] 5)).drew := by
  refine run_convert_bytes_back _ 35 9 5 ⟨W.heap.size, 0, none⟩ 1 [UInt8.ofNat c.toNat] Tryd.underlying35 Tryd.underlying5 Tryd.underlying9 ?_
  intro j hj
  have hj0 : j = 0 := by simpa using hj
  subst hj0
  simp [Addr.add]; omega
theorem spoilt_calls {d y : ByteArray} {r : Nat} {c : Int} (hd : d.size ≤ 21) (hr : r ≤ d.size) (h0 : 0 ≤ c) (h1 : c ≤ 255) (hy : ofL [UInt8.ofNat c.toNat] = y) (hc : c < 48 ∨ 57 < c) (hm : (c == 45) = false) (W : World) :
    Calls Tryd.prog 7 #[.string (d.extract 0 r ++ y ++ d.extract r d.size)] W fun e w' => e = .returned (.tuple #[.int .i64 (intVal (d.extract 0 r ++ y ++ d.extract r d.size).data.toList), .bool false]) ∧ W = w' := by
  have hcc : ((UInt8.ofNat c.toNat).toNat : Int) = c := by simp; omega
  have hy1 : y.size = 1 := by rw [← hy]; rfl
  have h := int_any (d.extract 0 r ++ y ++ d.extract r d.size) W (by simp [ByteArray.size_append, hy1]; omega)
  rw [spoilt_none (c := UInt8.ofNat c.toNat) (by rw [← hy]; rfl) (by rw [hcc]; omega) (by rw [hcc]; exact hm)] at h
  exact h

set_option maxRecDepth 100000 in
set_option maxHeartbeats 4000000 in
theorem digits_head (n at' c : Int) (w : World) (hc0 : 0 ≤ c) (hc1 : c ≤ 255) (ht : Tab w.heap.size w) :
    Calls Tryd.prog 6 #[.int .i64 n, .int .i64 at', .int .u8 c] w fun e w' => e = .returned (.bool true) ∧ Below w.heap.size w w' := by
  obtain ⟨p, hp⟩ : ∃ p, n.tmod 1000000000000000000 = p := ⟨_, rfl⟩
  have hp1 : -1000000000000000000 < p := by rw [← hp]; exact Int.lt_tmod_of_pos n (by decide)
  have hp2 : p < 1000000000000000000 := by rw [← hp]; exact Int.tmod_lt_of_pos n (by decide)
  have h0 := digs_size_pos p
  have hpf : Fit p := by unfold Fit; omega
  have hs21 := digs_size hpf
  have hq0 : Fit (p.tdiv 10) := by have h : (p.tdiv 10).natAbs = p.natAbs / 10 := Int.natAbs_tdiv p 10
                                   unfold Fit; omega
  have C1 := Lib.hid (fun W hB ht => digits_any w.heap.size p W hpf hB ht)
  have C2 := Lib.hid (fun W hB ht => digits_any w.heap.size (p.tdiv 10) W hq0 hB ht)
  have hne := not_empty h0
  have HT := Lib.hid ht
  clear hpf hq0 ht
  rcases (show (48 ≤ c ∧ c ≤ 57) ∨ c = 45 ∨ (c < 48 ∧ (c == 45) = false) ∨ (57 < c ∧ (c == 45) = false) by
    by_cases h : c = 45
    · exact .inr (.inl h)
    · have : (c == 45) = false := by simpa using h
      rcases (show (48 ≤ c ∧ c ≤ 57) ∨ c < 48 ∨ 57 < c by omega) with g | g | g
      · exact .inl g
      · exact .inr (.inr (.inl ⟨g, this⟩))
      · exact .inr (.inr (.inr ⟨g, this⟩))) with ⟨g1, g2⟩ | rfl | ⟨g1, g2⟩ | ⟨g1, g2⟩
  · rcases (show p < -9 ∨ (-9 ≤ p ∧ p < 0) ∨ p = 0 ∨ (0 < p ∧ p ≤ 9) ∨ 9 < p by omega) with hq | hq | hq | hq | hq
    · obtain ⟨f1, f2, f3, f4'⟩ := digs_below (p := p) (by omega) h0
      have f4 := f4' f1
      have f5 : decide (p < 0) = true := by simp; omega
      have f6 := digs_tenth (p := p) (.inr hq)
      have f7 : (p != 0) = true := by simp; omega
      clear f4'
      generalize digs p = d at *
      generalize digs (p.tdiv 10) = d10 at *
      go_enter Tryd.func6, Tryd.ntmps6
      go_wp2_with (first
        | (go_at_call 8; refine (C1.out _ (Nat.le_refl _) HT.out).mono ?_; rintro e w1 ⟨rfl, hb1, _⟩; have HB1 := Lib.hid hb1; clear hb1)
        | (go_at_call 8; refine (C2.out _ HB1.out.size (HT.out.on HB1.out)).mono ?_; rintro e w2 ⟨rfl, hb2, _⟩; have HB2 := Lib.hid (HB1.out.trans hb2); clear hb2)
        | (go_at_call 12; refine (wakes_any _).mono ?_; rintro e w' ⟨rfl, rfl⟩))
      go_ret
      exact ⟨rfl, HB2.out⟩
    · obtain ⟨f1, f2, f3, f4'⟩ := digs_below (p := p) (by omega) h0
      have f4 := f4' f1
      have f5 : decide (p < 0) = true := by simp; omega
      have f7 : (p != 0) = true := by simp; omega
      clear f4'
      generalize digs p = d at *
      generalize digs (p.tdiv 10) = d10 at *
      go_enter Tryd.func6, Tryd.ntmps6
      go_wp2_with (first
        | (go_at_call 8; refine (C1.out _ (Nat.le_refl _) HT.out).mono ?_; rintro e w1 ⟨rfl, hb1, _⟩; have HB1 := Lib.hid hb1; clear hb1)
        | (go_at_call 8; refine (C2.out _ HB1.out.size (HT.out.on HB1.out)).mono ?_; rintro e w2 ⟨rfl, hb2, _⟩; have HB2 := Lib.hid (HB1.out.trans hb2); clear hb2)
        | (go_at_call 12; refine (wakes_any _).mono ?_; rintro e w' ⟨rfl, rfl⟩))
      go_ret
      exact ⟨rfl, HB2.out⟩
    · subst hq
      have f2 := digs_zero h0
      rw [show (0 : Int).tdiv 10 = 0 from rfl] at C2
      generalize digs 0 = d at *
      go_enter Tryd.func6, Tryd.ntmps6
      go_wp2_with (first
        | (go_at_call 8; refine (C1.out _ (Nat.le_refl _) HT.out).mono ?_; rintro e w1 ⟨rfl, hb1, _⟩; have HB1 := Lib.hid hb1; clear hb1)
        | (go_at_call 8; refine (C2.out _ HB1.out.size (HT.out.on HB1.out)).mono ?_; rintro e w2 ⟨rfl, hb2, _⟩; have HB2 := Lib.hid (HB1.out.trans hb2); clear hb2)
        | (go_at_call 12; refine (wakes_any _).mono ?_; rintro e w' ⟨rfl, rfl⟩))
      go_ret
      exact ⟨rfl, HB2.out⟩
    · obtain ⟨f2, f3⟩ := digs_above (p := p) (by omega) h0
      have f5 : decide (p < 0) = false := by simp; omega
      have f7 : (p != 0) = true := by simp; omega
      have hdv : p.tdiv 10 = p / 10 := Int.tdiv_eq_ediv_of_nonneg (by omega)
      rw [hdv] at C2
      clear hdv
      generalize digs p = d at *
      generalize digs (p / 10) = d10 at *
      go_enter Tryd.func6, Tryd.ntmps6
      go_wp2_with (first
        | (go_at_call 8; refine (C1.out _ (Nat.le_refl _) HT.out).mono ?_; rintro e w1 ⟨rfl, hb1, _⟩; have HB1 := Lib.hid hb1; clear hb1)
        | (go_at_call 8; refine (C2.out _ HB1.out.size (HT.out.on HB1.out)).mono ?_; rintro e w2 ⟨rfl, hb2, _⟩; have HB2 := Lib.hid (HB1.out.trans hb2); clear hb2)
        | (go_at_call 12; refine (wakes_any _).mono ?_; rintro e w' ⟨rfl, rfl⟩))
      go_ret
      exact ⟨rfl, HB2.out⟩
    · obtain ⟨f2, f3⟩ := digs_above (p := p) (by omega) h0
      have f5 : decide (p < 0) = false := by simp; omega
      have f6 := digs_tenth (p := p) (.inl hq)
      have f7 : (p != 0) = true := by simp; omega
      have hdv : p.tdiv 10 = p / 10 := Int.tdiv_eq_ediv_of_nonneg (by omega)
      rw [hdv] at C2
      rw [hdv] at f6
      clear hdv
      generalize digs p = d at *
      generalize digs (p / 10) = d10 at *
      go_enter Tryd.func6, Tryd.ntmps6
      go_wp2_with (first
        | (go_at_call 8; refine (C1.out _ (Nat.le_refl _) HT.out).mono ?_; rintro e w1 ⟨rfl, hb1, _⟩; have HB1 := Lib.hid hb1; clear hb1)
        | (go_at_call 8; refine (C2.out _ HB1.out.size (HT.out.on HB1.out)).mono ?_; rintro e w2 ⟨rfl, hb2, _⟩; have HB2 := Lib.hid (HB1.out.trans hb2); clear hb2)
        | (go_at_call 12; refine (wakes_any _).mono ?_; rintro e w' ⟨rfl, rfl⟩))
      go_ret
      exact ⟨rfl, HB2.out⟩
  · rcases (show p < -9 ∨ (-9 ≤ p ∧ p < 0) ∨ p = 0 ∨ (0 < p ∧ p ≤ 9) ∨ 9 < p by omega) with hq | hq | hq | hq | hq
    · obtain ⟨f1, f2, f3, f4'⟩ := digs_below (p := p) (by omega) h0
      have f4 := f4' f1
      have f5 : decide (p < 0) = true := by simp; omega
      have f6 := digs_tenth (p := p) (.inr hq)
      have f7 : (p != 0) = true := by simp; omega
      clear f4'
      generalize digs p = d at *
      generalize digs (p.tdiv 10) = d10 at *
      go_enter Tryd.func6, Tryd.ntmps6
      go_wp2_with (first
        | (go_at_call 8; refine (C1.out _ (Nat.le_refl _) HT.out).mono ?_; rintro e w1 ⟨rfl, hb1, _⟩; have HB1 := Lib.hid hb1; clear hb1)
        | (go_at_call 8; refine (C2.out _ HB1.out.size (HT.out.on HB1.out)).mono ?_; rintro e w2 ⟨rfl, hb2, _⟩; have HB2 := Lib.hid (HB1.out.trans hb2); clear hb2)
        | (go_at_call 12; refine (wakes_any _).mono ?_; rintro e w' ⟨rfl, rfl⟩))
      go_ret
      exact ⟨rfl, HB2.out⟩
    · obtain ⟨f1, f2, f3, f4'⟩ := digs_below (p := p) (by omega) h0
      have f4 := f4' f1
      have f5 : decide (p < 0) = true := by simp; omega
      have f7 : (p != 0) = true := by simp; omega
      clear f4'
      generalize digs p = d at *
      generalize digs (p.tdiv 10) = d10 at *
      go_enter Tryd.func6, Tryd.ntmps6
      go_wp2_with (first
        | (go_at_call 8; refine (C1.out _ (Nat.le_refl _) HT.out).mono ?_; rintro e w1 ⟨rfl, hb1, _⟩; have HB1 := Lib.hid hb1; clear hb1)
        | (go_at_call 8; refine (C2.out _ HB1.out.size (HT.out.on HB1.out)).mono ?_; rintro e w2 ⟨rfl, hb2, _⟩; have HB2 := Lib.hid (HB1.out.trans hb2); clear hb2)
        | (go_at_call 12; refine (wakes_any _).mono ?_; rintro e w' ⟨rfl, rfl⟩))
      go_ret
      exact ⟨rfl, HB2.out⟩
    · subst hq
      have f2 := digs_zero h0
      rw [show (0 : Int).tdiv 10 = 0 from rfl] at C2
      generalize digs 0 = d at *
      go_enter Tryd.func6, Tryd.ntmps6
      go_wp2_with (first
        | (go_at_call 8; refine (C1.out _ (Nat.le_refl _) HT.out).mono ?_; rintro e w1 ⟨rfl, hb1, _⟩; have HB1 := Lib.hid hb1; clear hb1)
        | (go_at_call 8; refine (C2.out _ HB1.out.size (HT.out.on HB1.out)).mono ?_; rintro e w2 ⟨rfl, hb2, _⟩; have HB2 := Lib.hid (HB1.out.trans hb2); clear hb2)
        | (go_at_call 12; refine (wakes_any _).mono ?_; rintro e w' ⟨rfl, rfl⟩))
      go_ret
      exact ⟨rfl, HB2.out⟩
    · obtain ⟨f2, f3⟩ := digs_above (p := p) (by omega) h0
      have f5 : decide (p < 0) = false := by simp; omega
      have f7 : (p != 0) = true := by simp; omega
      have hdv : p.tdiv 10 = p / 10 := Int.tdiv_eq_ediv_of_nonneg (by omega)
      rw [hdv] at C2
      clear hdv
      generalize digs p = d at *
      generalize digs (p / 10) = d10 at *
      go_enter Tryd.func6, Tryd.ntmps6
      go_wp2_with (first
        | (go_at_call 8; refine (C1.out _ (Nat.le_refl _) HT.out).mono ?_; rintro e w1 ⟨rfl, hb1, _⟩; have HB1 := Lib.hid hb1; clear hb1)
        | (go_at_call 8; refine (C2.out _ HB1.out.size (HT.out.on HB1.out)).mono ?_; rintro e w2 ⟨rfl, hb2, _⟩; have HB2 := Lib.hid (HB1.out.trans hb2); clear hb2)
        | (go_at_call 12; refine (wakes_any _).mono ?_; rintro e w' ⟨rfl, rfl⟩))
      go_ret
      exact ⟨rfl, HB2.out⟩
    · obtain ⟨f2, f3⟩ := digs_above (p := p) (by omega) h0
      have f5 : decide (p < 0) = false := by simp; omega
      have f6 := digs_tenth (p := p) (.inl hq)
      have f7 : (p != 0) = true := by simp; omega
      have hdv : p.tdiv 10 = p / 10 := Int.tdiv_eq_ediv_of_nonneg (by omega)
      rw [hdv] at C2
      rw [hdv] at f6
      clear hdv
      generalize digs p = d at *
      generalize digs (p / 10) = d10 at *
      go_enter Tryd.func6, Tryd.ntmps6
      go_wp2_with (first
        | (go_at_call 8; refine (C1.out _ (Nat.le_refl _) HT.out).mono ?_; rintro e w1 ⟨rfl, hb1, _⟩; have HB1 := Lib.hid hb1; clear hb1)
        | (go_at_call 8; refine (C2.out _ HB1.out.size (HT.out.on HB1.out)).mono ?_; rintro e w2 ⟨rfl, hb2, _⟩; have HB2 := Lib.hid (HB1.out.trans hb2); clear hb2)
        | (go_at_call 12; refine (wakes_any _).mono ?_; rintro e w' ⟨rfl, rfl⟩))
      go_ret
      exact ⟨rfl, HB2.out⟩
  · rcases (show p < -9 ∨ (-9 ≤ p ∧ p < 0) ∨ p = 0 ∨ (0 < p ∧ p ≤ 9) ∨ 9 < p by omega) with hq | hq | hq | hq | hq
    · obtain ⟨f1, f2, f3, f4'⟩ := digs_below (p := p) (by omega) h0
      have f4 := f4' f1
      have f5 : decide (p < 0) = true := by simp; omega
      have f6 := digs_tenth (p := p) (.inr hq)
      have f7 : (p != 0) = true := by simp; omega
      clear f4'
      generalize digs p = d at *
      generalize digs (p.tdiv 10) = d10 at *
      have HW := Lib.hid (fun W => within_any at' ((d.size : Int) + 1) W (by omega) (by omega))
      obtain ⟨r, hr, hr2⟩ : ∃ r : Nat, withinI at' ((d.size : Int) + 1) = (r : Int) ∧ r ≤ d.size := by
        have := withinI_bounds (v := at') (n := (d.size : Int) + 1) (by omega)
        exact ⟨(withinI at' ((d.size : Int) + 1)).toNat, by omega, by omega⟩
      rw [hr] at HW
      clear hr
      have hcv := conv_one c hc0 hc1
      obtain ⟨y, hy⟩ : ∃ y, ofL [UInt8.ofNat c.toNat] = y := ⟨_, rfl⟩
      have hy1 : y.size ≤ 1 := by rw [← hy]; exact Nat.le_refl 1
      have C3 := Lib.hid (fun W => spoilt_calls hs21 hr2 hc0 hc1 hy (by omega) g2 W)
      rw [hy] at hcv
      clear hy
      go_enter Tryd.func6, Tryd.ntmps6
      go_wp2_with (first
        | (go_at_call 8; refine (C1.out _ (Nat.le_refl _) HT.out).mono ?_; rintro e w1 ⟨rfl, hb1, _⟩; have HB1 := Lib.hid hb1; clear hb1)
        | (go_at_call 8; refine (C2.out _ HB1.out.size (HT.out.on HB1.out)).mono ?_; rintro e w2 ⟨rfl, hb2, _⟩; have HB2 := Lib.hid (HB1.out.trans hb2); clear hb2)
        | (go_at_call 9; refine (HW.out _).mono ?_; rintro e w' ⟨rfl, rfl⟩)
        | (go_at_call 12; refine (wakes_any _).mono ?_; rintro e w' ⟨rfl, rfl⟩))
      go_region_with (go_at_call 7; refine (C3.out _).mono ?_; rintro e w' ⟨rfl, rfl⟩)
      go_wp2_with (go_at_call 12; refine (wakes_any _).mono ?_; rintro e w' ⟨rfl, rfl⟩)
      go_ret
      exact ⟨rfl, (HB2.out.alloc HB2.out.size _).drew⟩
    · obtain ⟨f1, f2, f3, f4'⟩ := digs_below (p := p) (by omega) h0
      have f4 := f4' f1
      have f5 : decide (p < 0) = true := by simp; omega
      have f7 : (p != 0) = true := by simp; omega
      clear f4'
      generalize digs p = d at *
      generalize digs (p.tdiv 10) = d10 at *
      have HW := Lib.hid (fun W => within_any at' ((d.size : Int) + 1) W (by omega) (by omega))
      obtain ⟨r, hr, hr2⟩ : ∃ r : Nat, withinI at' ((d.size : Int) + 1) = (r : Int) ∧ r ≤ d.size := by
        have := withinI_bounds (v := at') (n := (d.size : Int) + 1) (by omega)
        exact ⟨(withinI at' ((d.size : Int) + 1)).toNat, by omega, by omega⟩
      rw [hr] at HW
      clear hr
      have hcv := conv_one c hc0 hc1
      obtain ⟨y, hy⟩ : ∃ y, ofL [UInt8.ofNat c.toNat] = y := ⟨_, rfl⟩
      have hy1 : y.size ≤ 1 := by rw [← hy]; exact Nat.le_refl 1
      have C3 := Lib.hid (fun W => spoilt_calls hs21 hr2 hc0 hc1 hy (by omega) g2 W)
      rw [hy] at hcv
      clear hy
      go_enter Tryd.func6, Tryd.ntmps6
      go_wp2_with (first
        | (go_at_call 8; refine (C1.out _ (Nat.le_refl _) HT.out).mono ?_; rintro e w1 ⟨rfl, hb1, _⟩; have HB1 := Lib.hid hb1; clear hb1)
        | (go_at_call 8; refine (C2.out _ HB1.out.size (HT.out.on HB1.out)).mono ?_; rintro e w2 ⟨rfl, hb2, _⟩; have HB2 := Lib.hid (HB1.out.trans hb2); clear hb2)
        | (go_at_call 9; refine (HW.out _).mono ?_; rintro e w' ⟨rfl, rfl⟩)
        | (go_at_call 12; refine (wakes_any _).mono ?_; rintro e w' ⟨rfl, rfl⟩))
      go_region_with (go_at_call 7; refine (C3.out _).mono ?_; rintro e w' ⟨rfl, rfl⟩)
      go_wp2_with (go_at_call 12; refine (wakes_any _).mono ?_; rintro e w' ⟨rfl, rfl⟩)
      go_ret
      exact ⟨rfl, (HB2.out.alloc HB2.out.size _).drew⟩
    · subst hq
      have f2 := digs_zero h0
      rw [show (0 : Int).tdiv 10 = 0 from rfl] at C2
      generalize digs 0 = d at *
      have HW := Lib.hid (fun W => within_any at' ((d.size : Int) + 1) W (by omega) (by omega))
      obtain ⟨r, hr, hr2⟩ : ∃ r : Nat, withinI at' ((d.size : Int) + 1) = (r : Int) ∧ r ≤ d.size := by
        have := withinI_bounds (v := at') (n := (d.size : Int) + 1) (by omega)
        exact ⟨(withinI at' ((d.size : Int) + 1)).toNat, by omega, by omega⟩
      rw [hr] at HW
      clear hr
      have hcv := conv_one c hc0 hc1
      obtain ⟨y, hy⟩ : ∃ y, ofL [UInt8.ofNat c.toNat] = y := ⟨_, rfl⟩
      have hy1 : y.size ≤ 1 := by rw [← hy]; exact Nat.le_refl 1
      have C3 := Lib.hid (fun W => spoilt_calls hs21 hr2 hc0 hc1 hy (by omega) g2 W)
      rw [hy] at hcv
      clear hy
      go_enter Tryd.func6, Tryd.ntmps6
      go_wp2_with (first
        | (go_at_call 8; refine (C1.out _ (Nat.le_refl _) HT.out).mono ?_; rintro e w1 ⟨rfl, hb1, _⟩; have HB1 := Lib.hid hb1; clear hb1)
        | (go_at_call 8; refine (C2.out _ HB1.out.size (HT.out.on HB1.out)).mono ?_; rintro e w2 ⟨rfl, hb2, _⟩; have HB2 := Lib.hid (HB1.out.trans hb2); clear hb2)
        | (go_at_call 9; refine (HW.out _).mono ?_; rintro e w' ⟨rfl, rfl⟩)
        | (go_at_call 12; refine (wakes_any _).mono ?_; rintro e w' ⟨rfl, rfl⟩))
      go_region_with (go_at_call 7; refine (C3.out _).mono ?_; rintro e w' ⟨rfl, rfl⟩)
      go_wp2_with (go_at_call 12; refine (wakes_any _).mono ?_; rintro e w' ⟨rfl, rfl⟩)
      go_ret
      exact ⟨rfl, (HB2.out.alloc HB2.out.size _).drew⟩
    · obtain ⟨f2, f3⟩ := digs_above (p := p) (by omega) h0
      have f5 : decide (p < 0) = false := by simp; omega
      have f7 : (p != 0) = true := by simp; omega
      have hdv : p.tdiv 10 = p / 10 := Int.tdiv_eq_ediv_of_nonneg (by omega)
      rw [hdv] at C2
      clear hdv
      generalize digs p = d at *
      generalize digs (p / 10) = d10 at *
      have HW := Lib.hid (fun W => within_any at' ((d.size : Int) + 1) W (by omega) (by omega))
      obtain ⟨r, hr, hr2⟩ : ∃ r : Nat, withinI at' ((d.size : Int) + 1) = (r : Int) ∧ r ≤ d.size := by
        have := withinI_bounds (v := at') (n := (d.size : Int) + 1) (by omega)
        exact ⟨(withinI at' ((d.size : Int) + 1)).toNat, by omega, by omega⟩
      rw [hr] at HW
      clear hr
      have hcv := conv_one c hc0 hc1
      obtain ⟨y, hy⟩ : ∃ y, ofL [UInt8.ofNat c.toNat] = y := ⟨_, rfl⟩
      have hy1 : y.size ≤ 1 := by rw [← hy]; exact Nat.le_refl 1
      have C3 := Lib.hid (fun W => spoilt_calls hs21 hr2 hc0 hc1 hy (by omega) g2 W)
      rw [hy] at hcv
      clear hy
      go_enter Tryd.func6, Tryd.ntmps6
      go_wp2_with (first
        | (go_at_call 8; refine (C1.out _ (Nat.le_refl _) HT.out).mono ?_; rintro e w1 ⟨rfl, hb1, _⟩; have HB1 := Lib.hid hb1; clear hb1)
        | (go_at_call 8; refine (C2.out _ HB1.out.size (HT.out.on HB1.out)).mono ?_; rintro e w2 ⟨rfl, hb2, _⟩; have HB2 := Lib.hid (HB1.out.trans hb2); clear hb2)
        | (go_at_call 9; refine (HW.out _).mono ?_; rintro e w' ⟨rfl, rfl⟩)
        | (go_at_call 12; refine (wakes_any _).mono ?_; rintro e w' ⟨rfl, rfl⟩))
      go_region_with (go_at_call 7; refine (C3.out _).mono ?_; rintro e w' ⟨rfl, rfl⟩)
      go_wp2_with (go_at_call 12; refine (wakes_any _).mono ?_; rintro e w' ⟨rfl, rfl⟩)
      go_ret
      exact ⟨rfl, (HB2.out.alloc HB2.out.size _).drew⟩
    · obtain ⟨f2, f3⟩ := digs_above (p := p) (by omega) h0
      have f5 : decide (p < 0) = false := by simp; omega
      have f6 := digs_tenth (p := p) (.inl hq)
      have f7 : (p != 0) = true := by simp; omega
      have hdv : p.tdiv 10 = p / 10 := Int.tdiv_eq_ediv_of_nonneg (by omega)
      rw [hdv] at C2
      rw [hdv] at f6
      clear hdv
      generalize digs p = d at *
      generalize digs (p / 10) = d10 at *
      have HW := Lib.hid (fun W => within_any at' ((d.size : Int) + 1) W (by omega) (by omega))
      obtain ⟨r, hr, hr2⟩ : ∃ r : Nat, withinI at' ((d.size : Int) + 1) = (r : Int) ∧ r ≤ d.size := by
        have := withinI_bounds (v := at') (n := (d.size : Int) + 1) (by omega)
        exact ⟨(withinI at' ((d.size : Int) + 1)).toNat, by omega, by omega⟩
      rw [hr] at HW
      clear hr
      have hcv := conv_one c hc0 hc1
      obtain ⟨y, hy⟩ : ∃ y, ofL [UInt8.ofNat c.toNat] = y := ⟨_, rfl⟩
      have hy1 : y.size ≤ 1 := by rw [← hy]; exact Nat.le_refl 1
      have C3 := Lib.hid (fun W => spoilt_calls hs21 hr2 hc0 hc1 hy (by omega) g2 W)
      rw [hy] at hcv
      clear hy
      go_enter Tryd.func6, Tryd.ntmps6
      go_wp2_with (first
        | (go_at_call 8; refine (C1.out _ (Nat.le_refl _) HT.out).mono ?_; rintro e w1 ⟨rfl, hb1, _⟩; have HB1 := Lib.hid hb1; clear hb1)
        | (go_at_call 8; refine (C2.out _ HB1.out.size (HT.out.on HB1.out)).mono ?_; rintro e w2 ⟨rfl, hb2, _⟩; have HB2 := Lib.hid (HB1.out.trans hb2); clear hb2)
        | (go_at_call 9; refine (HW.out _).mono ?_; rintro e w' ⟨rfl, rfl⟩)
        | (go_at_call 12; refine (wakes_any _).mono ?_; rintro e w' ⟨rfl, rfl⟩))
      go_region_with (go_at_call 7; refine (C3.out _).mono ?_; rintro e w' ⟨rfl, rfl⟩)
      go_wp2_with (go_at_call 12; refine (wakes_any _).mono ?_; rintro e w' ⟨rfl, rfl⟩)
      go_ret
      exact ⟨rfl, (HB2.out.alloc HB2.out.size _).drew⟩
  · rcases (show p < -9 ∨ (-9 ≤ p ∧ p < 0) ∨ p = 0 ∨ (0 < p ∧ p ≤ 9) ∨ 9 < p by omega) with hq | hq | hq | hq | hq
    · obtain ⟨f1, f2, f3, f4'⟩ := digs_below (p := p) (by omega) h0
      have f4 := f4' f1
      have f5 : decide (p < 0) = true := by simp; omega
      have f6 := digs_tenth (p := p) (.inr hq)
      have f7 : (p != 0) = true := by simp; omega
      clear f4'
      generalize digs p = d at *
      generalize digs (p.tdiv 10) = d10 at *
      have HW := Lib.hid (fun W => within_any at' ((d.size : Int) + 1) W (by omega) (by omega))
      obtain ⟨r, hr, hr2⟩ : ∃ r : Nat, withinI at' ((d.size : Int) + 1) = (r : Int) ∧ r ≤ d.size := by
        have := withinI_bounds (v := at') (n := (d.size : Int) + 1) (by omega)
        exact ⟨(withinI at' ((d.size : Int) + 1)).toNat, by omega, by omega⟩
      rw [hr] at HW
      clear hr
      have hcv := conv_one c hc0 hc1
      obtain ⟨y, hy⟩ : ∃ y, ofL [UInt8.ofNat c.toNat] = y := ⟨_, rfl⟩
      have hy1 : y.size ≤ 1 := by rw [← hy]; exact Nat.le_refl 1
      have C3 := Lib.hid (fun W => spoilt_calls hs21 hr2 hc0 hc1 hy (by omega) g2 W)
      rw [hy] at hcv
      clear hy
      go_enter Tryd.func6, Tryd.ntmps6
      go_wp2_with (first
        | (go_at_call 8; refine (C1.out _ (Nat.le_refl _) HT.out).mono ?_; rintro e w1 ⟨rfl, hb1, _⟩; have HB1 := Lib.hid hb1; clear hb1)
        | (go_at_call 8; refine (C2.out _ HB1.out.size (HT.out.on HB1.out)).mono ?_; rintro e w2 ⟨rfl, hb2, _⟩; have HB2 := Lib.hid (HB1.out.trans hb2); clear hb2)
        | (go_at_call 9; refine (HW.out _).mono ?_; rintro e w' ⟨rfl, rfl⟩)
        | (go_at_call 12; refine (wakes_any _).mono ?_; rintro e w' ⟨rfl, rfl⟩))
      go_region_with (go_at_call 7; refine (C3.out _).mono ?_; rintro e w' ⟨rfl, rfl⟩)
      go_wp2_with (go_at_call 12; refine (wakes_any _).mono ?_; rintro e w' ⟨rfl, rfl⟩)
      go_ret
      exact ⟨rfl, (HB2.out.alloc HB2.out.size _).drew⟩
    · obtain ⟨f1, f2, f3, f4'⟩ := digs_below (p := p) (by omega) h0
      have f4 := f4' f1
      have f5 : decide (p < 0) = true := by simp; omega
      have f7 : (p != 0) = true := by simp; omega
      clear f4'
      generalize digs p = d at *
      generalize digs (p.tdiv 10) = d10 at *
      have HW := Lib.hid (fun W => within_any at' ((d.size : Int) + 1) W (by omega) (by omega))
      obtain ⟨r, hr, hr2⟩ : ∃ r : Nat, withinI at' ((d.size : Int) + 1) = (r : Int) ∧ r ≤ d.size := by
        have := withinI_bounds (v := at') (n := (d.size : Int) + 1) (by omega)
        exact ⟨(withinI at' ((d.size : Int) + 1)).toNat, by omega, by omega⟩
      rw [hr] at HW
      clear hr
      have hcv := conv_one c hc0 hc1
      obtain ⟨y, hy⟩ : ∃ y, ofL [UInt8.ofNat c.toNat] = y := ⟨_, rfl⟩
      have hy1 : y.size ≤ 1 := by rw [← hy]; exact Nat.le_refl 1
      have C3 := Lib.hid (fun W => spoilt_calls hs21 hr2 hc0 hc1 hy (by omega) g2 W)
      rw [hy] at hcv
      clear hy
      go_enter Tryd.func6, Tryd.ntmps6
      go_wp2_with (first
        | (go_at_call 8; refine (C1.out _ (Nat.le_refl _) HT.out).mono ?_; rintro e w1 ⟨rfl, hb1, _⟩; have HB1 := Lib.hid hb1; clear hb1)
        | (go_at_call 8; refine (C2.out _ HB1.out.size (HT.out.on HB1.out)).mono ?_; rintro e w2 ⟨rfl, hb2, _⟩; have HB2 := Lib.hid (HB1.out.trans hb2); clear hb2)
        | (go_at_call 9; refine (HW.out _).mono ?_; rintro e w' ⟨rfl, rfl⟩)
        | (go_at_call 12; refine (wakes_any _).mono ?_; rintro e w' ⟨rfl, rfl⟩))
      go_region_with (go_at_call 7; refine (C3.out _).mono ?_; rintro e w' ⟨rfl, rfl⟩)
      go_wp2_with (go_at_call 12; refine (wakes_any _).mono ?_; rintro e w' ⟨rfl, rfl⟩)
      go_ret
      exact ⟨rfl, (HB2.out.alloc HB2.out.size _).drew⟩
    · subst hq
      have f2 := digs_zero h0
      rw [show (0 : Int).tdiv 10 = 0 from rfl] at C2
      generalize digs 0 = d at *
      have HW := Lib.hid (fun W => within_any at' ((d.size : Int) + 1) W (by omega) (by omega))
      obtain ⟨r, hr, hr2⟩ : ∃ r : Nat, withinI at' ((d.size : Int) + 1) = (r : Int) ∧ r ≤ d.size := by
        have := withinI_bounds (v := at') (n := (d.size : Int) + 1) (by omega)
        exact ⟨(withinI at' ((d.size : Int) + 1)).toNat, by omega, by omega⟩
      rw [hr] at HW
      clear hr
      have hcv := conv_one c hc0 hc1
      obtain ⟨y, hy⟩ : ∃ y, ofL [UInt8.ofNat c.toNat] = y := ⟨_, rfl⟩
      have hy1 : y.size ≤ 1 := by rw [← hy]; exact Nat.le_refl 1
      have C3 := Lib.hid (fun W => spoilt_calls hs21 hr2 hc0 hc1 hy (by omega) g2 W)
      rw [hy] at hcv
      clear hy
      go_enter Tryd.func6, Tryd.ntmps6
      go_wp2_with (first
        | (go_at_call 8; refine (C1.out _ (Nat.le_refl _) HT.out).mono ?_; rintro e w1 ⟨rfl, hb1, _⟩; have HB1 := Lib.hid hb1; clear hb1)
        | (go_at_call 8; refine (C2.out _ HB1.out.size (HT.out.on HB1.out)).mono ?_; rintro e w2 ⟨rfl, hb2, _⟩; have HB2 := Lib.hid (HB1.out.trans hb2); clear hb2)
        | (go_at_call 9; refine (HW.out _).mono ?_; rintro e w' ⟨rfl, rfl⟩)
        | (go_at_call 12; refine (wakes_any _).mono ?_; rintro e w' ⟨rfl, rfl⟩))
      go_region_with (go_at_call 7; refine (C3.out _).mono ?_; rintro e w' ⟨rfl, rfl⟩)
      go_wp2_with (go_at_call 12; refine (wakes_any _).mono ?_; rintro e w' ⟨rfl, rfl⟩)
      go_ret
      exact ⟨rfl, (HB2.out.alloc HB2.out.size _).drew⟩
    · obtain ⟨f2, f3⟩ := digs_above (p := p) (by omega) h0
      have f5 : decide (p < 0) = false := by simp; omega
      have f7 : (p != 0) = true := by simp; omega
      have hdv : p.tdiv 10 = p / 10 := Int.tdiv_eq_ediv_of_nonneg (by omega)
      rw [hdv] at C2
      clear hdv
      generalize digs p = d at *
      generalize digs (p / 10) = d10 at *
      have HW := Lib.hid (fun W => within_any at' ((d.size : Int) + 1) W (by omega) (by omega))
      obtain ⟨r, hr, hr2⟩ : ∃ r : Nat, withinI at' ((d.size : Int) + 1) = (r : Int) ∧ r ≤ d.size := by
        have := withinI_bounds (v := at') (n := (d.size : Int) + 1) (by omega)
        exact ⟨(withinI at' ((d.size : Int) + 1)).toNat, by omega, by omega⟩
      rw [hr] at HW
      clear hr
      have hcv := conv_one c hc0 hc1
      obtain ⟨y, hy⟩ : ∃ y, ofL [UInt8.ofNat c.toNat] = y := ⟨_, rfl⟩
      have hy1 : y.size ≤ 1 := by rw [← hy]; exact Nat.le_refl 1
      have C3 := Lib.hid (fun W => spoilt_calls hs21 hr2 hc0 hc1 hy (by omega) g2 W)
      rw [hy] at hcv
      clear hy
      go_enter Tryd.func6, Tryd.ntmps6
      go_wp2_with (first
        | (go_at_call 8; refine (C1.out _ (Nat.le_refl _) HT.out).mono ?_; rintro e w1 ⟨rfl, hb1, _⟩; have HB1 := Lib.hid hb1; clear hb1)
        | (go_at_call 8; refine (C2.out _ HB1.out.size (HT.out.on HB1.out)).mono ?_; rintro e w2 ⟨rfl, hb2, _⟩; have HB2 := Lib.hid (HB1.out.trans hb2); clear hb2)
        | (go_at_call 9; refine (HW.out _).mono ?_; rintro e w' ⟨rfl, rfl⟩)
        | (go_at_call 12; refine (wakes_any _).mono ?_; rintro e w' ⟨rfl, rfl⟩))
      go_region_with (go_at_call 7; refine (C3.out _).mono ?_; rintro e w' ⟨rfl, rfl⟩)
      go_wp2_with (go_at_call 12; refine (wakes_any _).mono ?_; rintro e w' ⟨rfl, rfl⟩)
      go_ret
      exact ⟨rfl, (HB2.out.alloc HB2.out.size _).drew⟩
    · obtain ⟨f2, f3⟩ := digs_above (p := p) (by omega) h0
      have f5 : decide (p < 0) = false := by simp; omega
      have f6 := digs_tenth (p := p) (.inl hq)
      have f7 : (p != 0) = true := by simp; omega
      have hdv : p.tdiv 10 = p / 10 := Int.tdiv_eq_ediv_of_nonneg (by omega)
      rw [hdv] at C2
      rw [hdv] at f6
      clear hdv
      generalize digs p = d at *
      generalize digs (p / 10) = d10 at *
      have HW := Lib.hid (fun W => within_any at' ((d.size : Int) + 1) W (by omega) (by omega))
      obtain ⟨r, hr, hr2⟩ : ∃ r : Nat, withinI at' ((d.size : Int) + 1) = (r : Int) ∧ r ≤ d.size := by
        have := withinI_bounds (v := at') (n := (d.size : Int) + 1) (by omega)
        exact ⟨(withinI at' ((d.size : Int) + 1)).toNat, by omega, by omega⟩
      rw [hr] at HW
      clear hr
      have hcv := conv_one c hc0 hc1
      obtain ⟨y, hy⟩ : ∃ y, ofL [UInt8.ofNat c.toNat] = y := ⟨_, rfl⟩
      have hy1 : y.size ≤ 1 := by rw [← hy]; exact Nat.le_refl 1
      have C3 := Lib.hid (fun W => spoilt_calls hs21 hr2 hc0 hc1 hy (by omega) g2 W)
      rw [hy] at hcv
      clear hy
      go_enter Tryd.func6, Tryd.ntmps6
      go_wp2_with (first
        | (go_at_call 8; refine (C1.out _ (Nat.le_refl _) HT.out).mono ?_; rintro e w1 ⟨rfl, hb1, _⟩; have HB1 := Lib.hid hb1; clear hb1)
        | (go_at_call 8; refine (C2.out _ HB1.out.size (HT.out.on HB1.out)).mono ?_; rintro e w2 ⟨rfl, hb2, _⟩; have HB2 := Lib.hid (HB1.out.trans hb2); clear hb2)
        | (go_at_call 9; refine (HW.out _).mono ?_; rintro e w' ⟨rfl, rfl⟩)
        | (go_at_call 12; refine (wakes_any _).mono ?_; rintro e w' ⟨rfl, rfl⟩))
      go_region_with (go_at_call 7; refine (C3.out _).mono ?_; rintro e w' ⟨rfl, rfl⟩)
      go_wp2_with (go_at_call 12; refine (wakes_any _).mono ?_; rintro e w' ⟨rfl, rfl⟩)
      go_ret
      exact ⟨rfl, (HB2.out.alloc HB2.out.size _).drew⟩
end Go.Proofs.YtakknkenanhjgaaDoor
