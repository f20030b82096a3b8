/- inst.kindOf, rightCount, readLine. -/
import Derived.Test.YteibelmgebhleaaDoorReadNums
namespace Go.Proofs.YteibelmgebhleaaDoor
open Go.RowKit
set_option linter.unusedSimpArgs false

theorem idx_name0 (W : World) : (Instr.index 90 (.agg #[.string ⟨#[99, 97, 114]⟩, .string ⟨#[115, 116, 111, 112]⟩, .string ⟨#[112, 97, 105, 114]⟩, .string ⟨#[114, 111, 119]⟩]) (.int .i64 0)).run Tryd.prog W = .ok (.string ⟨#[99, 97, 114]⟩) W := by kernel_rfl
theorem idx_name1 (W : World) : (Instr.index 90 (.agg #[.string ⟨#[99, 97, 114]⟩, .string ⟨#[115, 116, 111, 112]⟩, .string ⟨#[112, 97, 105, 114]⟩, .string ⟨#[114, 111, 119]⟩]) (.int .i64 1)).run Tryd.prog W = .ok (.string ⟨#[115, 116, 111, 112]⟩) W := by kernel_rfl
theorem idx_name2 (W : World) : (Instr.index 90 (.agg #[.string ⟨#[99, 97, 114]⟩, .string ⟨#[115, 116, 111, 112]⟩, .string ⟨#[112, 97, 105, 114]⟩, .string ⟨#[114, 111, 119]⟩]) (.int .i64 2)).run Tryd.prog W = .ok (.string ⟨#[112, 97, 105, 114]⟩) W := by kernel_rfl
theorem idx_name3 (W : World) : (Instr.index 90 (.agg #[.string ⟨#[99, 97, 114]⟩, .string ⟨#[115, 116, 111, 112]⟩, .string ⟨#[112, 97, 105, 114]⟩, .string ⟨#[114, 111, 119]⟩]) (.int .i64 3)).run Tryd.prog W = .ok (.string ⟨#[114, 111, 119]⟩) W := by kernel_rfl
theorem idx_names (k : Nat) (h : k < 4) (W : World) : (Instr.index 90 (.agg #[.string ⟨#[99, 97, 114]⟩, .string ⟨#[115, 116, 111, 112]⟩, .string ⟨#[112, 97, 105, 114]⟩, .string ⟨#[114, 111, 119]⟩]) (.int .i64 (k : Int))).run Tryd.prog W = .ok (.string (ofL (nameL k))) W := by
  obtain rfl | rfl | rfl | rfl : k = 0 ∨ k = 1 ∨ k = 2 ∨ k = 3 := by omega
  · exact idx_name0 W
  · exact idx_name1 W
  · exact idx_name2 W
  · exact idx_name3 W
theorem eq_name {x : ByteArray} {y : List UInt8} (h : (x.toList == (ofL y).toList) = true) : x.data.toList = y := by
  rw [Lib.toList_data, Lib.toList_data] at h; simpa [ofL_toList] using h
theorem ne_name {x : ByteArray} {y : List UInt8} (h : (x.toList == (ofL y).toList) = false) : x.data.toList ≠ y := by
  rw [Lib.toList_data, Lib.toList_data] at h; simpa [ofL_toList] using h
theorem kindL_all {x : List UInt8} (h : ∀ q, q < 4 → x ≠ nameL q) : kindL x = none := by
  simp [kindL, h 0 (by omega), h 1 (by omega), h 2 (by omega), h 3 (by omega)]
theorem ret_ib {a b : Int} {c d : Bool} (h : a = b) (g : c = d) : Ending.returned (.tuple #[.int .i64 a, .bool c]) = .returned (.tuple #[.int .i64 b, .bool d]) := by rw [h, g]

set_option maxRecDepth 100000 in
set_option maxHeartbeats 2000000 in
theorem kind_any (x : ByteArray) (w : World) (hn : Names w) :
    Calls Tryd.prog 46 #[.string x] w fun e w' => (e = .returned (.tuple #[.int .i64 (((kindL x.data.toList).getD 0 : Nat) : Int), .bool (kindL x.data.toList).isSome])) ∧ w = w' := by
  have n0 : w.cell? ⟨0, 0, none⟩ = some (.string ⟨#[99, 97, 114]⟩) := hn 0 (by omega)
  have n1 : w.cell? ⟨0, 1, none⟩ = some (.string ⟨#[115, 116, 111, 112]⟩) := hn 1 (by omega)
  have n2 : w.cell? ⟨0, 2, none⟩ = some (.string ⟨#[112, 97, 105, 114]⟩) := hn 2 (by omega)
  have n3 : w.cell? ⟨0, 3, none⟩ = some (.string ⟨#[114, 111, 119]⟩) := hn 3 (by omega)
  clear hn
  go_enter Tryd.func46, Tryd.ntmps46
  go_wp2
  clear n0 n1 n2 n3
  go_loop [7] (fun i => ∃ r : Nat, r ≤ 4 ∧ i = .int .i64 r ∧ ∀ q, q < r → x.data.toList ≠ nameL q) (fun i => 4 - (intOf i).toNat)
  case atStart => exact ⟨0, by omega, rfl, fun q hq => absurd hq (by omega)⟩
  case round =>
    obtain ⟨r, hr, rfl, hq⟩ := hrel
    have HQ := Lib.hid hq
    clear hq
    by_cases hlt : r < 4
    · have hi := idx_names r hlt
      have hlt2 : (r : Int) < 4 := by omega
      generalize hy : nameL r = y at *
      have HY := Lib.hid hy
      clear hy
      go_wp2
      · have hx := eq_name ‹_›
        rw [← HY.out] at hx
        have hk := kindL_name hlt
        rw [← hx] at hk
        have HK := Lib.hid hk
        clear hk hx
        go_ret2
        exact ⟨ret_ib (by rw [HK.out]; rfl) (by rw [HK.out]; rfl), rfl⟩
      · have hx := Lib.hid (ne_name ‹_›)
        go_round
        case rel => exact ⟨r + 1, by omega, by go_num, fun q hq => by
            by_cases e : q = r
            · subst e; rw [HY.out]; exact hx.out
            · exact HQ.out q (by omega)⟩
        case measure => simp [intOf]; omega
    · obtain rfl : r = 4 := by omega
      have HK := Lib.hid (kindL_all HQ.out)
      go_wp2
      go_ret2
      exact ⟨ret_ib (by rw [HK.out]; rfl) (by rw [HK.out]; rfl), rfl⟩
theorem beq_cast (n m : Nat) : ((n : Int) == (m : Int)) = (n == m) := by rw [Bool.eq_iff_iff]; simp; omega
theorem ret_b {a b : Bool} (h : a = b) : Ending.returned (.bool a) = .returned (.bool b) := by rw [h]
set_option maxHeartbeats 1000000 in
theorem count_any (k n : Nat) (w : World) (hk : k < 4) :
    Calls Tryd.prog 47 #[.int .i64 k, .int .i64 n] w fun e w' => e = .returned (.bool (countOk k n)) ∧ w = w' := by
  obtain rfl | rfl | rfl | rfl : k = 0 ∨ k = 1 ∨ k = 2 ∨ k = 3 := by omega
  · go_enter Tryd.func47, Tryd.ntmps47
    go_wp2
    go_ret
    exact ⟨ret_b (beq_cast n 3), rfl⟩
  · go_enter Tryd.func47, Tryd.ntmps47
    go_wp2
    go_ret
    exact ⟨ret_b (beq_cast n 4), rfl⟩
  · go_enter Tryd.func47, Tryd.ntmps47
    go_wp2
    go_ret
    exact ⟨ret_b (beq_cast n 2), rfl⟩
  · go_enter Tryd.func47, Tryd.ntmps47
    go_wp2
    go_ret
    exact ⟨ret_b (by simp [countOk]; omega), rfl⟩
theorem own_cells {w : World} {B : Nat} {v : Value} {l : List (List UInt8)} (h : w.ownsRow B 9 1 v l.length (strs l)) (hne : 0 < l.length) :
    ∃ g cap, v = .slice (some ⟨g, 0, none⟩) l.length cap ∧ l.length ≤ cap ∧ g < w.heap.size ∧ ∀ k (hk : k < l.length), w.cell? ⟨g, k, none⟩ = some (.string (ofL l[k])) := by
  rcases h.2 with ⟨rfl, he⟩ | ⟨g, cap, cur, hv, _, hg, hnc, _⟩
  · rw [he] at hne; exact absurd hne (by simp)
  · subst hv
    refine ⟨g, cap, rfl, hnc, (Array.getElem?_eq_some_iff.1 hg).1, fun k hk => ?_⟩
    rw [h.cellAt k (by omega)]
    simp [strs, hk]
theorem mem_sum {x : List UInt8} : ∀ {l : List (List UInt8)}, x ∈ l → x.length ≤ (l.map List.length).sum
  | [], h => by simp at h
  | y :: l, h => by
    simp only [List.map_cons, List.sum_cons]
    rcases List.mem_cons.1 h with rfl | h
    · omega
    · have := mem_sum h; omega
def LineEnd (l : List UInt8) (w : World) (e : Ending) (w' : World) : Prop := Below w.heap.size w w' ∧
  ((lineL l = none ∧ ∃ kk u, e = .returned (.tuple #[.int .i64 kk, u, .bool false])) ∨
   ∃ k ns g, lineL l = some (k, ns) ∧ e = .returned (.tuple #[.int .i64 ((k : Nat) : Int), .slice (some ⟨g, 0, none⟩) ns.length ns.length, .bool true]) ∧ w.heap.size ≤ g ∧ Blk w' g (ints ns) ∧ Typed w' g 3)
theorem lineL_count {l x : List UInt8} {ws : List (List UInt8)} (hw : words l = x :: ws) (h : ws.length ≠ l.count 32) : lineL l = none := by simp [lineL, hw, h]
theorem lineL_kind {l x : List UInt8} {ws : List (List UInt8)} (hw : words l = x :: ws) (h : kindL x = none) : lineL l = none := by simp [lineL, hw, h]
theorem lineL_args {l x : List UInt8} {ws : List (List UInt8)} {k : Nat} (hw : words l = x :: ws) (hk : kindL x = some k) (h : (countOk k ws.length && ws.all intOk) = false) : lineL l = none := by simp [lineL, hw, hk, h]
theorem lineL_good {l x : List UInt8} {ws : List (List UInt8)} {k : Nat} (hw : words l = x :: ws) (hc : ws.length = l.count 32) (hk : kindL x = some k) (h : (countOk k ws.length && ws.all intOk) = true) : lineL l = some (k, ws.map intVal) := by simp only [lineL, hw, hc, hk, if_true]; rw [← hc, h]; rfl
theorem countOk_one {k n : Nat} (h : countOk k n = true) : 1 ≤ n := by
  unfold countOk at h
  split at h
  · simp at h; omega
  · simp at h; omega
  · simp at h; omega
  · simpa using h
set_option maxRecDepth 100000 in
set_option maxHeartbeats 4000000 in
theorem line_read (s : ByteArray) (w : World) (hs : s.size ≤ 1099511627776) (hn : Names w) (h0 : 0 < w.heap.size) :
    Calls Tryd.prog 26 #[.string s] w (LineEnd s.data.toList w) := by
  have C1 := Lib.hid (words_any s w hs)
  have HN := Lib.hid hn
  have hcl : s.data.toList.count 32 ≤ 1099511627776 := Nat.le_trans List.count_le_length (by simpa using hs)
  have hwl : (words s.data.toList).length ≤ 1099511627776 := Nat.le_trans (words_length _) (by simpa using hs)
  have HWX : Hid (∀ x ∈ words s.data.toList, x.length ≤ 1099511627776) := by
    intro x hx
    have h1 := words_count s.data.toList
    have h2 : x.length ≤ ((words s.data.toList).map List.length).sum := mem_sum hx
    have : s.data.toList.length ≤ 1099511627776 := by simpa using hs
    omega
  have C2 : Hid (∀ W, Calls Tryd.prog 45 #[.string s, .string ⟨#[32]⟩] W fun e w' => e = .returned (.int .i64 (s.data.toList.count 32 : Nat)) ∧ W = w') := fun W => (strings_Count_one s 32 W).mono fun e w' ⟨h1, h2⟩ => ⟨h1, h2.symm⟩
  generalize hl : s.data.toList = l at *
  clear hs
  cases hw : words l with
  | nil =>
    have HL : Hid (lineL l = none) := by show _ = _; simp [lineL, hw]
    rw [hw] at C1
    clear hw hwl HWX
    generalize l.count 32 = c at *
    go_enter Tryd.func26, Tryd.ntmps26
    go_wp2_with (go_at_call 44; fail)
    (with_reducible refine (C1.out).mono ?_)
    rintro e w1 ⟨v, rfl, hown, hb1⟩
    have HB1 := Lib.hid hb1
    obtain ⟨A, cp, rfl⟩ : ∃ A cp, v = .slice A 0 cp := by
      rcases hown.2 with ⟨rfl, _⟩ | ⟨g, cap, cur, rfl, _⟩
      · exact ⟨_, _, rfl⟩
      · exact ⟨_, _, rfl⟩
    clear hown hb1
    have t1 : ((0 : Int) == (c : Int) + 1) = false := by simp; omega
    have t2 : ((0 : Int) != (c : Int) + 1) = true := by simp; omega
    go_wp2_with (go_at_call 45; fail)
    (with_reducible refine (C2.out _).mono ?_)
    rintro e w' ⟨rfl, rfl⟩
    go_wp2
    go_ret3
    exact ⟨HB1.out, .inl ⟨HL.out, _, _, rfl⟩⟩
  | cons x ws =>
    rw [hw] at C1 hwl
    simp only [List.length_cons] at hwl
    have HW := Lib.hid hw
    have C3 := Lib.hid (fun W hn => kind_any (ofL x) W hn)
    rw [ofL_toList] at C3
    by_cases hc : ws.length = l.count 32
    case neg =>
      have HL := Lib.hid (lineL_count hw hc)
      generalize l.count 32 = c at *
      have t1 : (((ws.length : Int) + 1) == (c : Int) + 1) = false := by simp; omega
      have t2 : (((ws.length : Int) + 1) != (c : Int) + 1) = true := by simp; omega
      have t3 : ((ws.length : Int) == (c : Int)) = false := by simp; omega
      have t4 : ((ws.length : Int) != (c : Int)) = true := by simp; omega
      have t5 : (ws.length == c) = false := by simp; omega
      have t6 : (ws.length != c) = true := by simp; omega
      clear hw hc
      go_enter Tryd.func26, Tryd.ntmps26
      go_wp2_with (go_at_call 44; fail)
      (with_reducible refine (C1.out).mono ?_)
      rintro e w1 ⟨v, rfl, hown, hb1⟩
      have HB1 := Lib.hid hb1
      obtain ⟨g, cap, rfl, hcap, hg, hcell⟩ := own_cells hown (by simp)
      have c0 : w1.cell? ⟨g, 0, none⟩ = some (.string (ofL x)) := hcell 0 (by simp)
      have HC := Lib.hid hcell
      have HN1 := Lib.hid (HN.out.below hb1 h0)
      simp only [List.length_cons] at hcap
      clear hown hb1 hcell
      go_wp2_with (go_at_call 45; fail)
      (with_reducible refine (C2.out _).mono ?_)
      rintro e w' ⟨rfl, rfl⟩
      go_wp2
      go_ret3
      exact ⟨HB1.out, .inl ⟨HL.out, _, _, rfl⟩⟩
    case pos =>
      have HCC := Lib.hid hc
      generalize hcg : l.count 32 = c at *
      have HCG := Lib.hid hcg
      obtain rfl : c = ws.length := hc.symm
      clear hcg hc
      cases hk : kindL x with
      | none =>
        have HL := Lib.hid (lineL_kind hw hk)
        rw [hk] at C3
        clear hw hk
        go_enter Tryd.func26, Tryd.ntmps26
        go_wp2_with (go_at_call 44; fail)
        (with_reducible refine (C1.out).mono ?_)
        rintro e w1 ⟨v, rfl, hown, hb1⟩
        have HB1 := Lib.hid hb1
        obtain ⟨g, cap, rfl, hcap, hg, hcell⟩ := own_cells hown (by simp)
        have c0 : w1.cell? ⟨g, 0, none⟩ = some (.string (ofL x)) := hcell 0 (by simp)
        have HC := Lib.hid hcell
        have HN1 := Lib.hid (HN.out.below hb1 h0)
        simp only [List.length_cons] at hcap
        clear hown hb1 hcell
        go_wp2_with (go_at_call 45; fail)
        (with_reducible refine (C2.out _).mono ?_)
        rintro e w' ⟨rfl, rfl⟩
        go_wp2_with (go_at_call 46; fail)
        (with_reducible refine (C3.out _ HN1.out).mono ?_)
        rintro e w' ⟨rfl, rfl⟩
        go_wp2
        go_ret3
        exact ⟨HB1.out, .inl ⟨HL.out, _, _, rfl⟩⟩
      | some k =>
        have hk4 := (kindL_lt hk).1
        have HKK := Lib.hid hk
        rw [hk] at C3
        have C4 := Lib.hid (fun W => count_any k ws.length W hk4)
        cases hco : countOk k ws.length
        · have HL := Lib.hid (lineL_args hw hk (by rw [hco]; rfl))
          rw [hco] at C4
          clear hw hk hco
          go_enter Tryd.func26, Tryd.ntmps26
          go_wp2_with (go_at_call 44; fail)
          (with_reducible refine (C1.out).mono ?_)
          rintro e w1 ⟨v, rfl, hown, hb1⟩
          have HB1 := Lib.hid hb1
          obtain ⟨g, cap, rfl, hcap, hg, hcell⟩ := own_cells hown (by simp)
          have c0 : w1.cell? ⟨g, 0, none⟩ = some (.string (ofL x)) := hcell 0 (by simp)
          have HC := Lib.hid hcell
          have HN1 := Lib.hid (HN.out.below hb1 h0)
          simp only [List.length_cons] at hcap
          clear hown hb1 hcell
          go_wp2_with (go_at_call 45; fail)
          (with_reducible refine (C2.out _).mono ?_)
          rintro e w' ⟨rfl, rfl⟩
          go_wp2_with (go_at_call 46; fail)
          (with_reducible refine (C3.out _ HN1.out).mono ?_)
          rintro e w' ⟨rfl, rfl⟩
          go_wp2_with (go_at_call 47; fail)
          (with_reducible refine (C4.out _).mono ?_)
          rintro e w' ⟨rfl, rfl⟩
          go_wp2
          go_ret3
          exact ⟨HB1.out, .inl ⟨HL.out, _, _, rfl⟩⟩
        · rw [hco] at C4
          have h1 := countOk_one hco
          have HCO := Lib.hid hco
          have HWW := Lib.hid hw
          clear hw hk hco
          go_enter Tryd.func26, Tryd.ntmps26
          go_wp2_with (go_at_call 44; fail)
          (with_reducible refine (C1.out).mono ?_)
          rintro e w1 ⟨v, rfl, hown, hb1⟩
          have HB1 := Lib.hid hb1
          obtain ⟨g, cap, rfl, hcap, hg, hcell⟩ := own_cells hown (by simp)
          have c0 : w1.cell? ⟨g, 0, none⟩ = some (.string (ofL x)) := hcell 0 (by simp)
          have HC := Lib.hid hcell
          have HN1 := Lib.hid (HN.out.below hb1 h0)
          simp only [List.length_cons] at hcap
          clear hown hb1 hcell
          go_wp2_with (go_at_call 45; fail)
          (with_reducible refine (C2.out _).mono ?_)
          rintro e w' ⟨rfl, rfl⟩
          go_wp2_with (go_at_call 46; fail)
          (with_reducible refine (C3.out _ HN1.out).mono ?_)
          rintro e w' ⟨rfl, rfl⟩
          go_wp2_with (go_at_call 47; fail)
          (with_reducible refine (C4.out _).mono ?_)
          rintro e w' ⟨rfl, rfl⟩
          have hcap1 : ¬ cap = 1 := by omega
          have C5 := Lib.hid (nums_any (some ⟨g, 1, none⟩) (cap - 1) ws w1 (fun j hj => ⟨g, 1, rfl, hg, by have := HC.out (j + 1) (by simpa using hj); rw [Nat.add_comm 1 j]; simpa using this⟩) (by omega) (fun y hy => HWX.out y (by rw [HWW.out]; simp [hy])))
          go_wp2_with (go_at_call 48; fail)
          (with_reducible refine (C5.out).mono ?_)
          rintro e w2 ⟨hb2, ⟨ha, rfl, hbl, hty⟩ | ⟨ha, rfl⟩⟩
          · have HA := Lib.hid (lineL_good HWW.out HCG.out.symm HKK.out (by rw [HCO.out, ha]; rfl))
            have HB2 := Lib.hid (HB1.out.trans (hb2.mono HB1.out.size))
            have HBL := Lib.hid hbl
            have HTY := Lib.hid hty
            clear hb2 ha hbl hty
            go_wp2
            go_ret3
            exact ⟨HB2.out, .inr ⟨k, ws.map intVal, w1.heap.size, HA.out, by simp, HB1.out.size, HBL.out, HTY.out⟩⟩
          · have HA := Lib.hid (lineL_args HWW.out HKK.out (by rw [ha, Bool.and_false]))
            have HB2 := Lib.hid (HB1.out.trans (hb2.mono HB1.out.size))
            clear hb2 ha
            go_wp2
            go_ret3
            exact ⟨HB2.out, .inl ⟨HA.out, _, _, rfl⟩⟩
end Go.Proofs.YteibelmgebhleaaDoor
