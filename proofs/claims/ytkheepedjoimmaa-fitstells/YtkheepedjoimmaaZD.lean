/- The calls of fits.Table: what each answers of a table in memory. · fits.Table.Set, fits.New: the table that there is then. · What the laws of stage 6 stand on: tables told plainly, the law's own right, with, wakes. -/
import Derived.Test.YtkheepedjoimmaaZC
import Derived.Test.YtkheepedjoimmaaZB
import Derived.Test.YtkheepedjoimmaaZA
namespace Go.Proofs.Ytkheepedjoimmaa
open Go.RowKit
set_option linter.unusedSimpArgs false

set_option maxRecDepth 100000 in
set_option maxHeartbeats 4000000 in
theorem fhead_any (a : Nat) (A1 A2 A3 A4 : Option Addr) (c1 c2 c3 c4 : Nat) (i : Prob) (c : Int) (r : List Int) (vh vt : Value) (p : Int) (w : World) (T : TV w a A1 A2 A3 A4 c1 c2 c3 c4 i c r vh vt) :
    Calls Try.prog 45 #[.pointer (some ⟨a, 0, none⟩), .int .i64 p] w fun e w' => e = .returned (headV (headAt i c r p)) ∧ Below w.heap.size w w' := by
  have TW : Hid (TV (w.alloc (.cells #[.bool false, .int .i64 0, .int .i64 0, .int .i64 0, .int .u32 0, .int .u32 0, .int .i64 0] 44)) a A1 A2 A3 A4 c1 c2 c3 c4 i c r vh vt) := T.below ((Below.refl _ _).alloc (Nat.le_refl _) _)
  have RB : Hid (Blk (w.alloc (.cells #[.bool false, .int .i64 0, .int .i64 0, .int .i64 0, .int .u32 0, .int .u32 0, .int .i64 0] 44)) w.heap.size #[.bool false, .int .i64 0, .int .i64 0, .int .i64 0, .int .u32 0, .int .u32 0, .int .i64 0].toList) := blk_new _ _ _
  have HB0 : Hid (Below w.heap.size w (w.alloc (.cells #[.bool false, .int .i64 0, .int .i64 0, .int .i64 0, .int .u32 0, .int .u32 0, .int .i64 0] 44))) := (Below.refl _ _).alloc (Nat.le_refl _) _
  clear T
  by_cases h0 : p < 0
  · have NO := Lib.hid (headAt_no (i := i) (c := c) (r := r) (.inr (.inl h0)))
    go_enter Try.func45, Try.ntmps45
    go_upto_region 1 with (fail)
    generalize w.alloc (.cells #[.bool false, .int .i64 0, .int .i64 0, .int .i64 0, .int .u32 0, .int .u32 0, .int .i64 0] 44) = wa at *
    have hRw : w.heap.size ≤ w.heap.size := Nat.le_refl _
    have ha := TW.out.blk.1
    have t0 : decide (p < 0) = true := by simpa using h0
    have r0 := RB.out.cell (j := 0) rfl
    have z0 := (RB.out.2 0 (by simp)).2
    have r1 := RB.out.cell (j := 1) rfl
    have z1 := (RB.out.2 1 (by simp)).2
    have r2 := RB.out.cell (j := 2) rfl
    have z2 := (RB.out.2 2 (by simp)).2
    have r3 := RB.out.cell (j := 3) rfl
    have z3 := (RB.out.2 3 (by simp)).2
    have r4 := RB.out.cell (j := 4) rfl
    have z4 := (RB.out.2 4 (by simp)).2
    have r5 := RB.out.cell (j := 5) rfl
    have z5 := (RB.out.2 5 (by simp)).2
    have r6 := RB.out.cell (j := 6) rfl
    have z6 := (RB.out.2 6 (by simp)).2
    have hRz := RB.out.1
    have HBf := Lib.hid (below7 HB0.out hRw (.bool false) (.int .i64 0) (.int .i64 0) (.int .i64 0) (.int .u32 0) (.int .u32 0) (.int .i64 0))
    go_wp2
    exact bodyPost_ret (v := .agg #[.bool false, .int .i64 0, .int .i64 0, .int .i64 0, .int .u32 0, .int .u32 0, .int .i64 0]) (by simp [results, Try.results45, go_sem, r0, r1, r2, r3, r4, r5, r6, z0, z1, z2, z3, z4, z5, z6]) rfl ⟨by rw [NO.out]; rfl, HBf.out⟩
  · have t0 : decide (p < 0) = false := by simpa using h0
    rcases TW.out.rows with ⟨hc, gh, gt, rfl, rfl, H1, H2⟩ | ⟨hc, rfl, rfl⟩
    · by_cases h1 : (r.length : Int) < p
      · have NO := Lib.hid (headAt_no (i := i) (c := c) (r := r) (p := p) (.inr (.inr h1)))
        clear H1 H2
        go_enter Try.func45, Try.ntmps45
        go_upto_region 1 with (fail)
        generalize w.alloc (.cells #[.bool false, .int .i64 0, .int .i64 0, .int .i64 0, .int .u32 0, .int .u32 0, .int .i64 0] 44) = wa at *
        have hRw : w.heap.size ≤ w.heap.size := Nat.le_refl _
        have ha := TW.out.blk.1
        have v0 := TW.out.blk.cell (j := 6) rfl
        have t1 : decide (((r.length + 1 : Nat) : Int) ≤ p) = true := by simp; omega
        have t1' : decide ((r.length : Int) + 1 ≤ p) = true := by simp; omega
        have r0 := RB.out.cell (j := 0) rfl
        have z0 := (RB.out.2 0 (by simp)).2
        have r1 := RB.out.cell (j := 1) rfl
        have z1 := (RB.out.2 1 (by simp)).2
        have r2 := RB.out.cell (j := 2) rfl
        have z2 := (RB.out.2 2 (by simp)).2
        have r3 := RB.out.cell (j := 3) rfl
        have z3 := (RB.out.2 3 (by simp)).2
        have r4 := RB.out.cell (j := 4) rfl
        have z4 := (RB.out.2 4 (by simp)).2
        have r5 := RB.out.cell (j := 5) rfl
        have z5 := (RB.out.2 5 (by simp)).2
        have r6 := RB.out.cell (j := 6) rfl
        have z6 := (RB.out.2 6 (by simp)).2
        have hRz := RB.out.1
        have HBf := Lib.hid (below7 HB0.out hRw (.bool false) (.int .i64 0) (.int .i64 0) (.int .i64 0) (.int .u32 0) (.int .u32 0) (.int .i64 0))
        go_wp2
        exact bodyPost_ret (v := .agg #[.bool false, .int .i64 0, .int .i64 0, .int .i64 0, .int .u32 0, .int .u32 0, .int .i64 0]) (by simp [results, Try.results45, go_sem, r0, r1, r2, r3, r4, r5, r6, z0, z1, z2, z3, z4, z5, z6]) rfl ⟨by rw [NO.out]; rfl, HBf.out⟩
      · obtain ⟨k, rfl⟩ : ∃ k : Nat, p = (k : Int) := ⟨p.toNat, by omega⟩
        have hk : k ≤ r.length := by omega
        have NO := Lib.hid (headAt_in hc hk)
        have H := Lib.hid H1
        clear H1 H2
        obtain ⟨x0, x1, x2, x3, x4, x5, x6, hxV, hxC⟩ := head_form (headL i c (r.take k))
        have HXV := Lib.hid hxV
        obtain ⟨d0, d1, d2, d3, d4, d5, d6⟩ := H.out.at7 (k := k) (by omega) hxC
        have hgz := H.out.1
        clear hxV hxC
        go_enter Try.func45, Try.ntmps45
        go_upto_region 1 with (fail)
        generalize w.alloc (.cells #[.bool false, .int .i64 0, .int .i64 0, .int .i64 0, .int .u32 0, .int .u32 0, .int .i64 0] 44) = wa at *
        have hRw : w.heap.size ≤ w.heap.size := Nat.le_refl _
        have ha := TW.out.blk.1
        have v0 := TW.out.blk.cell (j := 6) rfl
        have t1 : decide (((r.length + 1 : Nat) : Int) ≤ (k : Int)) = false := by simp; omega
        have t1' : decide ((r.length : Int) + 1 ≤ (k : Int)) = false := by simp; omega
        have n0 : (0 : Int) ≤ (k : Int) := by omega
        have n1 : (k : Int) < ((r.length + 1 : Nat) : Int) := by omega
        have n1' : (k : Int) < (r.length : Int) + 1 := by omega
        have n2 : (k : Int).toNat = k := by omega
        have r0 := RB.out.cell (j := 0) rfl
        have z0 := (RB.out.2 0 (by simp)).2
        have r1 := RB.out.cell (j := 1) rfl
        have z1 := (RB.out.2 1 (by simp)).2
        have r2 := RB.out.cell (j := 2) rfl
        have z2 := (RB.out.2 2 (by simp)).2
        have r3 := RB.out.cell (j := 3) rfl
        have z3 := (RB.out.2 3 (by simp)).2
        have r4 := RB.out.cell (j := 4) rfl
        have z4 := (RB.out.2 4 (by simp)).2
        have r5 := RB.out.cell (j := 5) rfl
        have z5 := (RB.out.2 5 (by simp)).2
        have r6 := RB.out.cell (j := 6) rfl
        have z6 := (RB.out.2 6 (by simp)).2
        have hRz := RB.out.1
        have HBf := Lib.hid (below7 HB0.out hRw (.bool x0) (.int .i64 x1) (.int .i64 x2) (.int .i64 x3) (.int .u32 x4) (.int .u32 x5) (.int .i64 x6))
        go_wp2
        exact bodyPost_ret (v := .agg #[.bool x0, .int .i64 x1, .int .i64 x2, .int .i64 x3, .int .u32 x4, .int .u32 x5, .int .i64 x6]) (by simp [results, Try.results45, go_sem, r0, r1, r2, r3, r4, r5, r6, z0, z1, z2, z3, z4, z5, z6]) rfl ⟨by rw [NO.out, HXV.out], HBf.out⟩
    · have NO := Lib.hid (headAt_no (i := i) (c := c) (r := r) (p := p) (.inl hc))
      clear hc
      go_enter Try.func45, Try.ntmps45
      go_upto_region 1 with (fail)
      generalize w.alloc (.cells #[.bool false, .int .i64 0, .int .i64 0, .int .i64 0, .int .u32 0, .int .u32 0, .int .i64 0] 44) = wa at *
      have hRw : w.heap.size ≤ w.heap.size := Nat.le_refl _
      have ha := TW.out.blk.1
      have v0 := TW.out.blk.cell (j := 6) rfl
      have t1 : decide ((0 : Int) ≤ p) = true := by simp; omega
      have r0 := RB.out.cell (j := 0) rfl
      have z0 := (RB.out.2 0 (by simp)).2
      have r1 := RB.out.cell (j := 1) rfl
      have z1 := (RB.out.2 1 (by simp)).2
      have r2 := RB.out.cell (j := 2) rfl
      have z2 := (RB.out.2 2 (by simp)).2
      have r3 := RB.out.cell (j := 3) rfl
      have z3 := (RB.out.2 3 (by simp)).2
      have r4 := RB.out.cell (j := 4) rfl
      have z4 := (RB.out.2 4 (by simp)).2
      have r5 := RB.out.cell (j := 5) rfl
      have z5 := (RB.out.2 5 (by simp)).2
      have r6 := RB.out.cell (j := 6) rfl
      have z6 := (RB.out.2 6 (by simp)).2
      have hRz := RB.out.1
      have HBf := Lib.hid (below7 HB0.out hRw (.bool false) (.int .i64 0) (.int .i64 0) (.int .i64 0) (.int .u32 0) (.int .u32 0) (.int .i64 0))
      go_wp2
      exact bodyPost_ret (v := .agg #[.bool false, .int .i64 0, .int .i64 0, .int .i64 0, .int .u32 0, .int .u32 0, .int .i64 0]) (by simp [results, Try.results45, go_sem, r0, r1, r2, r3, r4, r5, r6, z0, z1, z2, z3, z4, z5, z6]) rfl ⟨by rw [NO.out]; rfl, HBf.out⟩
set_option maxRecDepth 100000 in
set_option maxHeartbeats 4000000 in
theorem ftail_any (a : Nat) (A1 A2 A3 A4 : Option Addr) (c1 c2 c3 c4 : Nat) (i : Prob) (c : Int) (r : List Int) (vh vt : Value) (p : Int) (w : World) (T : TV w a A1 A2 A3 A4 c1 c2 c3 c4 i c r vh vt) :
    Calls Try.prog 46 #[.pointer (some ⟨a, 0, none⟩), .int .i64 p] w fun e w' => e = .returned (tailV (tailAt i c r p)) ∧ Below w.heap.size w w' := by
  have TW : Hid (TV (w.alloc (.cells #[.bool false, .int .i64 0, .int .i64 0, .int .i64 0, .int .i64 0, .int .u32 0, .int .u32 0, .int .i64 0] 46)) a A1 A2 A3 A4 c1 c2 c3 c4 i c r vh vt) := T.below ((Below.refl _ _).alloc (Nat.le_refl _) _)
  have RB : Hid (Blk (w.alloc (.cells #[.bool false, .int .i64 0, .int .i64 0, .int .i64 0, .int .i64 0, .int .u32 0, .int .u32 0, .int .i64 0] 46)) w.heap.size #[.bool false, .int .i64 0, .int .i64 0, .int .i64 0, .int .i64 0, .int .u32 0, .int .u32 0, .int .i64 0].toList) := blk_new _ _ _
  have HB0 : Hid (Below w.heap.size w (w.alloc (.cells #[.bool false, .int .i64 0, .int .i64 0, .int .i64 0, .int .i64 0, .int .u32 0, .int .u32 0, .int .i64 0] 46))) := (Below.refl _ _).alloc (Nat.le_refl _) _
  clear T
  by_cases h0 : p < 0
  · have NO := Lib.hid (tailAt_no (i := i) (c := c) (r := r) (.inr (.inl h0)))
    go_enter Try.func46, Try.ntmps46
    go_upto_region 1 with (fail)
    generalize w.alloc (.cells #[.bool false, .int .i64 0, .int .i64 0, .int .i64 0, .int .i64 0, .int .u32 0, .int .u32 0, .int .i64 0] 46) = wa at *
    have hRw : w.heap.size ≤ w.heap.size := Nat.le_refl _
    have ha := TW.out.blk.1
    have t0 : decide (p < 0) = true := by simpa using h0
    have r0 := RB.out.cell (j := 0) rfl
    have z0 := (RB.out.2 0 (by simp)).2
    have r1 := RB.out.cell (j := 1) rfl
    have z1 := (RB.out.2 1 (by simp)).2
    have r2 := RB.out.cell (j := 2) rfl
    have z2 := (RB.out.2 2 (by simp)).2
    have r3 := RB.out.cell (j := 3) rfl
    have z3 := (RB.out.2 3 (by simp)).2
    have r4 := RB.out.cell (j := 4) rfl
    have z4 := (RB.out.2 4 (by simp)).2
    have r5 := RB.out.cell (j := 5) rfl
    have z5 := (RB.out.2 5 (by simp)).2
    have r6 := RB.out.cell (j := 6) rfl
    have z6 := (RB.out.2 6 (by simp)).2
    have r7 := RB.out.cell (j := 7) rfl
    have z7 := (RB.out.2 7 (by simp)).2
    have hRz := RB.out.1
    have HBf := Lib.hid (below8 HB0.out hRw (.bool false) (.int .i64 0) (.int .i64 0) (.int .i64 0) (.int .i64 0) (.int .u32 0) (.int .u32 0) (.int .i64 0))
    go_wp2
    exact bodyPost_ret (v := .agg #[.bool false, .int .i64 0, .int .i64 0, .int .i64 0, .int .i64 0, .int .u32 0, .int .u32 0, .int .i64 0]) (by simp [results, Try.results46, go_sem, r0, r1, r2, r3, r4, r5, r6, r7, z0, z1, z2, z3, z4, z5, z6, z7]) rfl ⟨by rw [NO.out]; rfl, HBf.out⟩
  · have t0 : decide (p < 0) = false := by simpa using h0
    rcases TW.out.rows with ⟨hc, gh, gt, rfl, rfl, H1, H2⟩ | ⟨hc, rfl, rfl⟩
    · by_cases h1 : (r.length : Int) < p
      · have NO := Lib.hid (tailAt_no (i := i) (c := c) (r := r) (p := p) (.inr (.inr h1)))
        clear H1 H2
        go_enter Try.func46, Try.ntmps46
        go_upto_region 1 with (fail)
        generalize w.alloc (.cells #[.bool false, .int .i64 0, .int .i64 0, .int .i64 0, .int .i64 0, .int .u32 0, .int .u32 0, .int .i64 0] 46) = wa at *
        have hRw : w.heap.size ≤ w.heap.size := Nat.le_refl _
        have ha := TW.out.blk.1
        have v0 := TW.out.blk.cell (j := 7) rfl
        have t1 : decide (((r.length + 1 : Nat) : Int) ≤ p) = true := by simp; omega
        have t1' : decide ((r.length : Int) + 1 ≤ p) = true := by simp; omega
        have r0 := RB.out.cell (j := 0) rfl
        have z0 := (RB.out.2 0 (by simp)).2
        have r1 := RB.out.cell (j := 1) rfl
        have z1 := (RB.out.2 1 (by simp)).2
        have r2 := RB.out.cell (j := 2) rfl
        have z2 := (RB.out.2 2 (by simp)).2
        have r3 := RB.out.cell (j := 3) rfl
        have z3 := (RB.out.2 3 (by simp)).2
        have r4 := RB.out.cell (j := 4) rfl
        have z4 := (RB.out.2 4 (by simp)).2
        have r5 := RB.out.cell (j := 5) rfl
        have z5 := (RB.out.2 5 (by simp)).2
        have r6 := RB.out.cell (j := 6) rfl
        have z6 := (RB.out.2 6 (by simp)).2
        have r7 := RB.out.cell (j := 7) rfl
        have z7 := (RB.out.2 7 (by simp)).2
        have hRz := RB.out.1
        have HBf := Lib.hid (below8 HB0.out hRw (.bool false) (.int .i64 0) (.int .i64 0) (.int .i64 0) (.int .i64 0) (.int .u32 0) (.int .u32 0) (.int .i64 0))
        go_wp2
        exact bodyPost_ret (v := .agg #[.bool false, .int .i64 0, .int .i64 0, .int .i64 0, .int .i64 0, .int .u32 0, .int .u32 0, .int .i64 0]) (by simp [results, Try.results46, go_sem, r0, r1, r2, r3, r4, r5, r6, r7, z0, z1, z2, z3, z4, z5, z6, z7]) rfl ⟨by rw [NO.out]; rfl, HBf.out⟩
      · obtain ⟨k, rfl⟩ : ∃ k : Nat, p = (k : Int) := ⟨p.toNat, by omega⟩
        have hk : k ≤ r.length := by omega
        have NO := Lib.hid (tailAt_in hc hk)
        have H := Lib.hid H2
        clear H1 H2
        obtain ⟨x0, x1, x2, x3, x4, x5, x6, x7, hxV, hxC⟩ := tail_form (tailL i c (r.drop k))
        have HXV := Lib.hid hxV
        obtain ⟨d0, d1, d2, d3, d4, d5, d6, d7⟩ := H.out.at8 (k := k) (by omega) hxC
        have hgz := H.out.1
        clear hxV hxC
        go_enter Try.func46, Try.ntmps46
        go_upto_region 1 with (fail)
        generalize w.alloc (.cells #[.bool false, .int .i64 0, .int .i64 0, .int .i64 0, .int .i64 0, .int .u32 0, .int .u32 0, .int .i64 0] 46) = wa at *
        have hRw : w.heap.size ≤ w.heap.size := Nat.le_refl _
        have ha := TW.out.blk.1
        have v0 := TW.out.blk.cell (j := 7) rfl
        have t1 : decide (((r.length + 1 : Nat) : Int) ≤ (k : Int)) = false := by simp; omega
        have t1' : decide ((r.length : Int) + 1 ≤ (k : Int)) = false := by simp; omega
        have n0 : (0 : Int) ≤ (k : Int) := by omega
        have n1 : (k : Int) < ((r.length + 1 : Nat) : Int) := by omega
        have n1' : (k : Int) < (r.length : Int) + 1 := by omega
        have n2 : (k : Int).toNat = k := by omega
        have r0 := RB.out.cell (j := 0) rfl
        have z0 := (RB.out.2 0 (by simp)).2
        have r1 := RB.out.cell (j := 1) rfl
        have z1 := (RB.out.2 1 (by simp)).2
        have r2 := RB.out.cell (j := 2) rfl
        have z2 := (RB.out.2 2 (by simp)).2
        have r3 := RB.out.cell (j := 3) rfl
        have z3 := (RB.out.2 3 (by simp)).2
        have r4 := RB.out.cell (j := 4) rfl
        have z4 := (RB.out.2 4 (by simp)).2
        have r5 := RB.out.cell (j := 5) rfl
        have z5 := (RB.out.2 5 (by simp)).2
        have r6 := RB.out.cell (j := 6) rfl
        have z6 := (RB.out.2 6 (by simp)).2
        have r7 := RB.out.cell (j := 7) rfl
        have z7 := (RB.out.2 7 (by simp)).2
        have hRz := RB.out.1
        have HBf := Lib.hid (below8 HB0.out hRw (.bool x0) (.int .i64 x1) (.int .i64 x2) (.int .i64 x3) (.int .i64 x4) (.int .u32 x5) (.int .u32 x6) (.int .i64 x7))
        go_wp2
        exact bodyPost_ret (v := .agg #[.bool x0, .int .i64 x1, .int .i64 x2, .int .i64 x3, .int .i64 x4, .int .u32 x5, .int .u32 x6, .int .i64 x7]) (by simp [results, Try.results46, go_sem, r0, r1, r2, r3, r4, r5, r6, r7, z0, z1, z2, z3, z4, z5, z6, z7]) rfl ⟨by rw [NO.out, HXV.out], HBf.out⟩
    · have NO := Lib.hid (tailAt_no (i := i) (c := c) (r := r) (p := p) (.inl hc))
      clear hc
      go_enter Try.func46, Try.ntmps46
      go_upto_region 1 with (fail)
      generalize w.alloc (.cells #[.bool false, .int .i64 0, .int .i64 0, .int .i64 0, .int .i64 0, .int .u32 0, .int .u32 0, .int .i64 0] 46) = wa at *
      have hRw : w.heap.size ≤ w.heap.size := Nat.le_refl _
      have ha := TW.out.blk.1
      have v0 := TW.out.blk.cell (j := 7) rfl
      have t1 : decide ((0 : Int) ≤ p) = true := by simp; omega
      have r0 := RB.out.cell (j := 0) rfl
      have z0 := (RB.out.2 0 (by simp)).2
      have r1 := RB.out.cell (j := 1) rfl
      have z1 := (RB.out.2 1 (by simp)).2
      have r2 := RB.out.cell (j := 2) rfl
      have z2 := (RB.out.2 2 (by simp)).2
      have r3 := RB.out.cell (j := 3) rfl
      have z3 := (RB.out.2 3 (by simp)).2
      have r4 := RB.out.cell (j := 4) rfl
      have z4 := (RB.out.2 4 (by simp)).2
      have r5 := RB.out.cell (j := 5) rfl
      have z5 := (RB.out.2 5 (by simp)).2
      have r6 := RB.out.cell (j := 6) rfl
      have z6 := (RB.out.2 6 (by simp)).2
      have r7 := RB.out.cell (j := 7) rfl
      have z7 := (RB.out.2 7 (by simp)).2
      have hRz := RB.out.1
      have HBf := Lib.hid (below8 HB0.out hRw (.bool false) (.int .i64 0) (.int .i64 0) (.int .i64 0) (.int .i64 0) (.int .u32 0) (.int .u32 0) (.int .i64 0))
      go_wp2
      exact bodyPost_ret (v := .agg #[.bool false, .int .i64 0, .int .i64 0, .int .i64 0, .int .i64 0, .int .u32 0, .int .u32 0, .int .i64 0]) (by simp [results, Try.results46, go_sem, r0, r1, r2, r3, r4, r5, r6, r7, z0, z1, z2, z3, z4, z5, z6, z7]) rfl ⟨by rw [NO.out]; rfl, HBf.out⟩
set_option maxRecDepth 100000 in
set_option maxHeartbeats 4000000 in
theorem fmeet_walk (a : Nat) (A1 A2 A3 A4 : Option Addr) (c1 c2 c3 c4 : Nat) (i : Prob) (c : Int) (r : List Int) (vh vt : Value) (x0 y0 : Bool) (x1 x2 x3 x4 x5 x6 y1 y2 y3 y4 y5 y6 y7 : Int) (mc : Int) (mo : Bool) (w : World) (T : TV w a A1 A2 A3 A4 c1 c2 c3 c4 i c r vh vt)
    (KM : ∀ W, Below w.heap.size w W → Calls Try.prog 16 #[.agg #[.slice A1 i.cars.length c1, .slice A2 i.stops.length c2, .slice A3 i.pairs.length c3, .slice A4 i.travel.length c4], .int .i64 c, .agg #[.bool x0, .int .i64 x1, .int .i64 x2, .int .i64 x3, .int .u32 x4, .int .u32 x5, .int .i64 x6], .agg #[.bool y0, .int .i64 y1, .int .i64 y2, .int .i64 y3, .int .i64 y4, .int .u32 y5, .int .u32 y6, .int .i64 y7]] W fun e w' => e = .returned (.tuple #[.int .i64 mc, .bool mo]) ∧ Below W.heap.size W w') :
    Calls Try.prog 44 #[.pointer (some ⟨a, 0, none⟩), .agg #[.bool x0, .int .i64 x1, .int .i64 x2, .int .i64 x3, .int .u32 x4, .int .u32 x5, .int .i64 x6], .agg #[.bool y0, .int .i64 y1, .int .i64 y2, .int .i64 y3, .int .i64 y4, .int .u32 y5, .int .u32 y6, .int .i64 y7]] w fun e w' => e = .returned (.tuple #[.int .i64 mc, .bool mo]) ∧ Below w.heap.size w w' := by
  have X0 : Hid (Blk ((w.alloc (.cells #[.bool x0, .int .i64 x1, .int .i64 x2, .int .i64 x3, .int .u32 x4, .int .u32 x5, .int .i64 x6] 44)).alloc (.cells #[.bool y0, .int .i64 y1, .int .i64 y2, .int .i64 y3, .int .i64 y4, .int .u32 y5, .int .u32 y6, .int .i64 y7] 46)) w.heap.size #[.bool x0, .int .i64 x1, .int .i64 x2, .int .i64 x3, .int .u32 x4, .int .u32 x5, .int .i64 x6].toList) := (blk_new _ _ _).alloc _
  have Y0 : Hid (Blk ((w.alloc (.cells #[.bool x0, .int .i64 x1, .int .i64 x2, .int .i64 x3, .int .u32 x4, .int .u32 x5, .int .i64 x6] 44)).alloc (.cells #[.bool y0, .int .i64 y1, .int .i64 y2, .int .i64 y3, .int .i64 y4, .int .u32 y5, .int .u32 y6, .int .i64 y7] 46)) (w.heap.size + 1) #[.bool y0, .int .i64 y1, .int .i64 y2, .int .i64 y3, .int .i64 y4, .int .u32 y5, .int .u32 y6, .int .i64 y7].toList) := blk_at _ _ (by simp)
  have HB0 : Hid (Below w.heap.size w ((w.alloc (.cells #[.bool x0, .int .i64 x1, .int .i64 x2, .int .i64 x3, .int .u32 x4, .int .u32 x5, .int .i64 x6] 44)).alloc (.cells #[.bool y0, .int .i64 y1, .int .i64 y2, .int .i64 y3, .int .i64 y4, .int .u32 y5, .int .u32 y6, .int .i64 y7] 46))) := ((Below.refl _ _).alloc (Nat.le_refl _) _).alloc (by simp) _
  have T := T.below HB0.out
  have KM := Lib.hid KM
  go_enter Try.func44, Try.ntmps44
  go_upto_region 1 with (fail)
  generalize (w.alloc (.cells #[.bool x0, .int .i64 x1, .int .i64 x2, .int .i64 x3, .int .u32 x4, .int .u32 x5, .int .i64 x6] 44)).alloc (.cells #[.bool y0, .int .i64 y1, .int .i64 y2, .int .i64 y3, .int .i64 y4, .int .u32 y5, .int .u32 y6, .int .i64 y7] 46) = wa at *
  generalize w.heap.size + 1 = S1 at *
  have SS : Hid (∀ W, Below wa.heap.size wa W → W.cell? ⟨a, 0, none⟩ = some (.slice A1 i.cars.length c1) ∧ W.cell? ⟨a, 1, none⟩ = some (.slice A2 i.stops.length c2) ∧ W.cell? ⟨a, 2, none⟩ = some (.slice A3 i.pairs.length c3) ∧ W.cell? ⟨a, 3, none⟩ = some (.slice A4 i.travel.length c4) ∧ W.cell? ⟨a, 4, none⟩ = some (.int .i64 c) ∧ W.cell? ⟨w.heap.size, 0, none⟩ = some (.bool x0) ∧ W.cell? ⟨w.heap.size, 1, none⟩ = some (.int .i64 x1) ∧ W.cell? ⟨w.heap.size, 2, none⟩ = some (.int .i64 x2) ∧ W.cell? ⟨w.heap.size, 3, none⟩ = some (.int .i64 x3) ∧ W.cell? ⟨w.heap.size, 4, none⟩ = some (.int .u32 x4) ∧ W.cell? ⟨w.heap.size, 5, none⟩ = some (.int .u32 x5) ∧ W.cell? ⟨w.heap.size, 6, none⟩ = some (.int .i64 x6) ∧ W.cell? ⟨S1, 0, none⟩ = some (.bool y0) ∧ W.cell? ⟨S1, 1, none⟩ = some (.int .i64 y1) ∧ W.cell? ⟨S1, 2, none⟩ = some (.int .i64 y2) ∧ W.cell? ⟨S1, 3, none⟩ = some (.int .i64 y3) ∧ W.cell? ⟨S1, 4, none⟩ = some (.int .i64 y4) ∧ W.cell? ⟨S1, 5, none⟩ = some (.int .u32 y5) ∧ W.cell? ⟨S1, 6, none⟩ = some (.int .u32 y6) ∧ W.cell? ⟨S1, 7, none⟩ = some (.int .i64 y7)) := fun W hB =>
    ⟨(T.below hB).blk.cell (j := 0) rfl, (T.below hB).blk.cell (j := 1) rfl, (T.below hB).blk.cell (j := 2) rfl, (T.below hB).blk.cell (j := 3) rfl, (T.below hB).blk.cell (j := 4) rfl, (X0.out.below hB).cell (j := 0) rfl, (X0.out.below hB).cell (j := 1) rfl, (X0.out.below hB).cell (j := 2) rfl, (X0.out.below hB).cell (j := 3) rfl, (X0.out.below hB).cell (j := 4) rfl, (X0.out.below hB).cell (j := 5) rfl, (X0.out.below hB).cell (j := 6) rfl, (Y0.out.below hB).cell (j := 0) rfl, (Y0.out.below hB).cell (j := 1) rfl, (Y0.out.below hB).cell (j := 2) rfl, (Y0.out.below hB).cell (j := 3) rfl, (Y0.out.below hB).cell (j := 4) rfl, (Y0.out.below hB).cell (j := 5) rfl, (Y0.out.below hB).cell (j := 6) rfl, (Y0.out.below hB).cell (j := 7) rfl⟩
  have K1 : Hid (∀ W, Below wa.heap.size wa W → Calls Try.prog 16 #[.agg #[.slice A1 i.cars.length c1, .slice A2 i.stops.length c2, .slice A3 i.pairs.length c3, .slice A4 i.travel.length c4], .int .i64 c, .agg #[.bool x0, .int .i64 x1, .int .i64 x2, .int .i64 x3, .int .u32 x4, .int .u32 x5, .int .i64 x6], .agg #[.bool y0, .int .i64 y1, .int .i64 y2, .int .i64 y3, .int .i64 y4, .int .u32 y5, .int .u32 y6, .int .i64 y7]] W fun e w' => e = .returned (.tuple #[.int .i64 mc, .bool mo]) ∧ Below W.heap.size W w') := fun W hB => KM.out W (HB0.out.trans (hB.mono HB0.out.size))
  clear KM T X0 Y0
  refine wp_region_z (S := (fun W => W.cell? ⟨a, 0, none⟩ = some (.slice A1 i.cars.length c1) ∧ W.cell? ⟨a, 1, none⟩ = some (.slice A2 i.stops.length c2) ∧ W.cell? ⟨a, 2, none⟩ = some (.slice A3 i.pairs.length c3) ∧ W.cell? ⟨a, 3, none⟩ = some (.slice A4 i.travel.length c4) ∧ W.cell? ⟨a, 4, none⟩ = some (.int .i64 c) ∧ W.cell? ⟨w.heap.size, 0, none⟩ = some (.bool x0) ∧ W.cell? ⟨w.heap.size, 1, none⟩ = some (.int .i64 x1) ∧ W.cell? ⟨w.heap.size, 2, none⟩ = some (.int .i64 x2) ∧ W.cell? ⟨w.heap.size, 3, none⟩ = some (.int .i64 x3) ∧ W.cell? ⟨w.heap.size, 4, none⟩ = some (.int .u32 x4) ∧ W.cell? ⟨w.heap.size, 5, none⟩ = some (.int .u32 x5) ∧ W.cell? ⟨w.heap.size, 6, none⟩ = some (.int .i64 x6) ∧ W.cell? ⟨S1, 0, none⟩ = some (.bool y0) ∧ W.cell? ⟨S1, 1, none⟩ = some (.int .i64 y1) ∧ W.cell? ⟨S1, 2, none⟩ = some (.int .i64 y2) ∧ W.cell? ⟨S1, 3, none⟩ = some (.int .i64 y3) ∧ W.cell? ⟨S1, 4, none⟩ = some (.int .i64 y4) ∧ W.cell? ⟨S1, 5, none⟩ = some (.int .u32 y5) ∧ W.cell? ⟨S1, 6, none⟩ = some (.int .u32 y6) ∧ W.cell? ⟨S1, 7, none⟩ = some (.int .i64 y7))) (z := 15) (by kernel_rfl) (SS.out _ (Below.refl wa.heap.size wa).drew) (fun hH => ?_)
  refine wpAnyZ_takeS (i := 0) (v := ?_) rfl (by kernel_rfl) (by kernel_rfl) (by kernel_rfl) (by kernel_rfl) (fun _ _ _ h => h) (gives_value (by rfl) ?_) (by assumption) ?_
  rotate_left
  · intro w hSw
    (try dsimp only at hSw)
    go_simp
    (try with_reducible rfl)
  (try simp only [Act.put, List.getElem_toArray, List.getElem_cons_succ, List.getElem_cons_zero, List.setIfInBounds_toArray, List.set_cons_zero, List.set_cons_succ])
  refine wpAnyZ_takeS (i := 1) (v := ?_) rfl (by kernel_rfl) (by kernel_rfl) (by kernel_rfl) (by kernel_rfl) (fun _ _ _ h => h) (gives_value (by rfl) ?_) (by assumption) ?_
  rotate_left
  · intro w hSw
    (try dsimp only at hSw)
    go_simp
    (try with_reducible rfl)
  (try simp only [Act.put, List.getElem_toArray, List.getElem_cons_succ, List.getElem_cons_zero, List.setIfInBounds_toArray, List.set_cons_zero, List.set_cons_succ])
  refine wpAnyZ_takeS (i := 2) (v := ?_) rfl (by kernel_rfl) (by kernel_rfl) (by kernel_rfl) (by kernel_rfl) (fun _ _ _ h => h) (gives_value (by rfl) ?_) (by assumption) ?_
  rotate_left
  · intro w hSw
    (try dsimp only at hSw)
    go_simp
    (try with_reducible rfl)
  (try simp only [Act.put, List.getElem_toArray, List.getElem_cons_succ, List.getElem_cons_zero, List.setIfInBounds_toArray, List.set_cons_zero, List.set_cons_succ])
  refine wpAnyZ_takeS (i := 3) (v := ?_) rfl (by kernel_rfl) (by kernel_rfl) (by kernel_rfl) (by kernel_rfl) (fun _ _ _ h => h) (gives_value (by rfl) ?_) (by assumption) ?_
  rotate_left
  · intro w hSw
    (try dsimp only at hSw)
    go_simp
    (try with_reducible rfl)
  (try simp only [Act.put, List.getElem_toArray, List.getElem_cons_succ, List.getElem_cons_zero, List.setIfInBounds_toArray, List.set_cons_zero, List.set_cons_succ])
  refine wpAnyZ_takeS (i := 4) (v := ?_) rfl (by kernel_rfl) (by kernel_rfl) (by kernel_rfl) (by kernel_rfl) (fun _ _ _ h => h) (gives_value (by rfl) ?_) (by assumption) ?_
  rotate_left
  · intro w hSw
    (try dsimp only at hSw)
    go_simp
    (try with_reducible rfl)
  (try simp only [Act.put, List.getElem_toArray, List.getElem_cons_succ, List.getElem_cons_zero, List.setIfInBounds_toArray, List.set_cons_zero, List.set_cons_succ])
  refine wpAnyZ_takeS (i := 5) (v := ?_) rfl (by kernel_rfl) (by kernel_rfl) (by kernel_rfl) (by kernel_rfl) (fun _ _ _ h => h) (gives_value (by rfl) ?_) (by assumption) ?_
  rotate_left
  · intro w hSw
    (try dsimp only at hSw)
    go_simp
    (try with_reducible rfl)
  (try simp only [Act.put, List.getElem_toArray, List.getElem_cons_succ, List.getElem_cons_zero, List.setIfInBounds_toArray, List.set_cons_zero, List.set_cons_succ])
  refine wpAnyZ_takeS (i := 6) (v := ?_) rfl (by kernel_rfl) (by kernel_rfl) (by kernel_rfl) (by kernel_rfl) (fun _ _ _ h => h) (gives_value (by rfl) ?_) (by assumption) ?_
  rotate_left
  · intro w hSw
    (try dsimp only at hSw)
    go_simp
    (try with_reducible rfl)
  (try simp only [Act.put, List.getElem_toArray, List.getElem_cons_succ, List.getElem_cons_zero, List.setIfInBounds_toArray, List.set_cons_zero, List.set_cons_succ])
  refine wpAnyZ_takeS (i := 7) (v := ?_) rfl (by kernel_rfl) (by kernel_rfl) (by kernel_rfl) (by kernel_rfl) (fun _ _ _ h => h) (gives_value (by rfl) ?_) (by assumption) ?_
  rotate_left
  · intro w hSw
    (try dsimp only at hSw)
    go_simp
    (try with_reducible rfl)
  (try simp only [Act.put, List.getElem_toArray, List.getElem_cons_succ, List.getElem_cons_zero, List.setIfInBounds_toArray, List.set_cons_zero, List.set_cons_succ])
  refine wpAnyZ_takeS (i := 8) (v := ?_) rfl (by kernel_rfl) (by kernel_rfl) (by kernel_rfl) (by kernel_rfl) (fun _ _ _ h => h) (gives_value (by rfl) ?_) (by assumption) ?_
  rotate_left
  · intro w hSw
    (try dsimp only at hSw)
    go_simp
    (try with_reducible rfl)
  (try simp only [Act.put, List.getElem_toArray, List.getElem_cons_succ, List.getElem_cons_zero, List.setIfInBounds_toArray, List.set_cons_zero, List.set_cons_succ])
  refine wpAnyZ_takeS (i := 9) (v := ?_) rfl (by kernel_rfl) (by kernel_rfl) (by kernel_rfl) (by kernel_rfl) (fun _ _ _ h => h) (gives_value (by rfl) ?_) (by assumption) ?_
  rotate_left
  · intro w hSw
    (try dsimp only at hSw)
    go_simp
    (try with_reducible rfl)
  (try simp only [Act.put, List.getElem_toArray, List.getElem_cons_succ, List.getElem_cons_zero, List.setIfInBounds_toArray, List.set_cons_zero, List.set_cons_succ])
  refine wpAnyZ_one (i := 10) (by kernel_rfl) ?_
  refine zstep rfl (fun K hK => ?_)
  go_simp
  (with_reducible refine (K1.out _ ((Below.refl wa.heap.size wa).drew)).mono ?_)
  rintro e w1 ⟨rfl, hb⟩
  have HBw1 := Lib.hid (((Below.refl wa.heap.size wa).drew).trans hb)
  clear hb
  refine hK.out _ _ (fun _ => SS.out _ HBw1.out) (fun hH => ?_)
  replace hH := hH (by decide)
  clear hK K
  (try simp only [Act.put, List.getElem_toArray, List.getElem_cons_succ, List.getElem_cons_zero, List.setIfInBounds_toArray, List.set_cons_zero, List.set_cons_succ])
  refine wpAnyZ_takeS (i := 11) (v := ?_) rfl (by kernel_rfl) (by kernel_rfl) (by kernel_rfl) (by kernel_rfl) (fun _ _ _ h => h) (gives_value (by rfl) ?_) (by assumption) ?_
  rotate_left
  · intro w hSw
    (try dsimp only at hSw)
    go_simp
    (try with_reducible rfl)
  (try simp only [Act.put, List.getElem_toArray, List.getElem_cons_succ, List.getElem_cons_zero, List.setIfInBounds_toArray, List.set_cons_zero, List.set_cons_succ])
  refine wpAnyZ_takeS (i := 12) (v := ?_) rfl (by kernel_rfl) (by kernel_rfl) (by kernel_rfl) (by kernel_rfl) (fun _ _ _ h => h) (gives_value (by rfl) ?_) (by assumption) ?_
  rotate_left
  · intro w hSw
    (try dsimp only at hSw)
    go_simp
    (try with_reducible rfl)
  (try simp only [Act.put, List.getElem_toArray, List.getElem_cons_succ, List.getElem_cons_zero, List.setIfInBounds_toArray, List.set_cons_zero, List.set_cons_succ])
  refine wpAnyZ_takeS (i := 13) (v := ?_) rfl (by kernel_rfl) (by kernel_rfl) (by kernel_rfl) (by kernel_rfl) (fun _ _ _ h => h) (gives_value (by rfl) ?_) (by assumption) ?_
  rotate_left
  · intro w hSw
    (try dsimp only at hSw)
    go_simp
    (try with_reducible rfl)
  (try simp only [Act.put, List.getElem_toArray, List.getElem_cons_succ, List.getElem_cons_zero, List.setIfInBounds_toArray, List.set_cons_zero, List.set_cons_succ])
  refine wpAnyZ_takeS (i := 14) (v := ?_) rfl (by kernel_rfl) (by kernel_rfl) (by kernel_rfl) (by kernel_rfl) (fun _ _ _ h => h) (gives_value (by rfl) ?_) (by assumption) ?_
  rotate_left
  · intro w hSw
    (try dsimp only at hSw)
    go_simp
    (try with_reducible rfl)
  (try simp only [Act.put, List.getElem_toArray, List.getElem_cons_succ, List.getElem_cons_zero, List.setIfInBounds_toArray, List.set_cons_zero, List.set_cons_succ])
  refine wpAnyZ_done (by kernel_rfl) ?_ _
  have HB9 := Lib.hid (HB0.out.trans (HBw1.out.mono HB0.out.size))
  clear hH SS K1
  go_wp2
  go_ret2
  exact ⟨rfl, HB9.out⟩
theorem fmeet_any (a : Nat) (A1 A2 A3 A4 : Option Addr) (c1 c2 c3 c4 : Nat) (i : Prob) (c : Int) (r : List Int) (vh vt : Value) (ho : Option HeadP) (tl : Option TailP) (w : World) (T : TV w a A1 A2 A3 A4 c1 c2 c3 c4 i c r vh vt) (hok : probOk i = true) (hp : i.pairs.length ≤ 1000000) (hb : ∀ h, ho = some h → HB i h ∧ HdA i c h) (hbt : inB c 0 (i.cars.length - 1) = true → ∀ t, tl = some t → TBd i t ∧ 0 ≤ t.late ∧ t.late ≤ 1000 ∧ TlA i c t) :
    Calls Try.prog 44 #[.pointer (some ⟨a, 0, none⟩), headV ho, tailV tl] w fun e w' => e = .returned (meetV (meetC i c ho tl)) ∧ Below w.heap.size w w' := by
  obtain ⟨x0, x1, x2, x3, x4, x5, x6, hxV, hxC⟩ := head_form ho
  obtain ⟨y0, y1, y2, y3, y4, y5, y6, y7, hyV, hyC⟩ := tail_form tl
  obtain ⟨mc, mo, hm⟩ : ∃ mc mo, meetV (meetC i c ho tl) = .tuple #[.int .i64 mc, .bool mo] := by
    cases meetC i c ho tl with
    | none => exact ⟨0, false, rfl⟩
    | some x => exact ⟨x, true, rfl⟩
  rw [hxV, hyV, hm]
  refine fmeet_walk a A1 A2 A3 A4 c1 c2 c3 c4 i c r vh vt x0 y0 x1 x2 x3 x4 x5 x6 y1 y2 y3 y4 y5 y6 y7 mc mo w T fun W hB => ?_
  have := pmeet_any _ i c ho tl W (Lies.below T.said hB) hok hp hb hbt
  rw [hxV, hyV, show meetV (if inB c 0 (i.cars.length - 1) = true then meetO i c ho tl else none) = _ from hm] at this
  exact this
set_option maxRecDepth 100000 in
set_option maxHeartbeats 4000000 in
theorem fwhole_any (a : Nat) (A1 A2 A3 A4 : Option Addr) (c1 c2 c3 c4 : Nat) (i : Prob) (c : Int) (r : List Int) (vh vt : Value) (w : World) (T : TV w a A1 A2 A3 A4 c1 c2 c3 c4 i c r vh vt) (hok : probOk i = true) (hp : i.pairs.length ≤ 1000000) (hr : r.length ≤ 900) :
    Calls Try.prog 21 #[.pointer (some ⟨a, 0, none⟩)] w fun e w' => e = .returned (meetV (meetC i c (headAt i c r 0) (tailAt i c r 0))) ∧ Below w.heap.size w w' := by
  have hf := fine_of hok
  have hm := mated_of hok
  have B1 : ∀ h, headAt i c r 0 = some h → HB i h ∧ HdA i c h := headAt_bd hf hm (by omega)
  have B2 : inB c 0 (i.cars.length - 1) = true → ∀ t, tailAt i c r 0 = some t → TBd i t ∧ 0 ≤ t.late ∧ t.late ≤ 1000 ∧ TlA i c t := fun hc => tailAt_bd hf hm hc (by omega)
  have K1 := Lib.hid (fun W (hB : Below w.heap.size w W) => fhead_any a A1 A2 A3 A4 c1 c2 c3 c4 i c r vh vt 0 W (T.below hB))
  have K2 := Lib.hid (fun W (hB : Below w.heap.size w W) => ftail_any a A1 A2 A3 A4 c1 c2 c3 c4 i c r vh vt 0 W (T.below hB))
  have K3 := Lib.hid (fun W (hB : Below w.heap.size w W) => fmeet_any a A1 A2 A3 A4 c1 c2 c3 c4 i c r vh vt (headAt i c r 0) (tailAt i c r 0) W (T.below hB) hok hp B1 B2)
  obtain ⟨mc, mo, hmv⟩ : ∃ mc mo, meetV (meetC i c (headAt i c r 0) (tailAt i c r 0)) = .tuple #[.int .i64 mc, .bool mo] := by
    cases meetC i c (headAt i c r 0) (tailAt i c r 0) with
    | none => exact ⟨0, false, rfl⟩
    | some x => exact ⟨x, true, rfl⟩
  rw [hmv] at K3 ⊢
  clear hmv B1 B2 hm hf hok T
  generalize headAt i c r 0 = H at *
  generalize tailAt i c r 0 = X at *
  generalize headV H = vH at *
  generalize tailV X = vX at *
  go_enter Try.func21, Try.ntmps21
  go_wp2_with (go_at_call 45; fail)
  (with_reducible refine (K1.out _ (Below.refl _ _)).mono ?_)
  rintro e w1 ⟨rfl, hb⟩
  have HBw1 := Lib.hid (hb)
  clear hb
  go_wp2_with (go_at_call 46; fail)
  (with_reducible refine (K2.out _ HBw1.out).mono ?_)
  rintro e w2 ⟨rfl, hb⟩
  have HBw2 := Lib.hid (HBw1.out.trans (hb.mono HBw1.out.size))
  clear hb
  go_wp2_with (go_at_call 44; fail)
  (with_reducible refine (K3.out _ HBw2.out).mono ?_)
  rintro e w3 ⟨rfl, hb⟩
  have HBw3 := Lib.hid (HBw2.out.trans (hb.mono HBw2.out.size))
  clear hb
  go_wp2
  go_ret2
  exact ⟨rfl, HBw3.out⟩
set_option maxRecDepth 100000 in
set_option maxHeartbeats 4000000 in
theorem frem_any (a : Nat) (A1 A2 A3 A4 : Option Addr) (c1 c2 c3 c4 : Nat) (i : Prob) (c : Int) (r : List Int) (vh vt : Value) (p : Int) (w : World) (T : TV w a A1 A2 A3 A4 c1 c2 c3 c4 i c r vh vt) (hok : probOk i = true) (hp : i.pairs.length ≤ 1000000) (hr : r.length ≤ 900) :
    Calls Try.prog 24 #[.pointer (some ⟨a, 0, none⟩), .int .i64 p] w fun e w' => e = .returned (meetV (meetC i c (headAt i c r p) (tailAt i c r (wrap64 (p + 1))))) ∧ Below w.heap.size w w' := by
  have hf := fine_of hok
  have hm := mated_of hok
  have B1 : ∀ h, headAt i c r p = some h → HB i h ∧ HdA i c h := headAt_bd hf hm (by omega)
  have B2 : inB c 0 (i.cars.length - 1) = true → ∀ t, tailAt i c r (wrap64 (p + 1)) = some t → TBd i t ∧ 0 ≤ t.late ∧ t.late ≤ 1000 ∧ TlA i c t := fun hc => tailAt_bd hf hm hc (by omega)
  have K1 := Lib.hid (fun W (hB : Below w.heap.size w W) => fhead_any a A1 A2 A3 A4 c1 c2 c3 c4 i c r vh vt p W (T.below hB))
  have K2 := Lib.hid (fun W (hB : Below w.heap.size w W) => ftail_any a A1 A2 A3 A4 c1 c2 c3 c4 i c r vh vt (wrap64 (p + 1)) W (T.below hB))
  have K3 := Lib.hid (fun W (hB : Below w.heap.size w W) => fmeet_any a A1 A2 A3 A4 c1 c2 c3 c4 i c r vh vt (headAt i c r p) (tailAt i c r (wrap64 (p + 1))) W (T.below hB) hok hp B1 B2)
  obtain ⟨mc, mo, hmv⟩ : ∃ mc mo, meetV (meetC i c (headAt i c r p) (tailAt i c r (wrap64 (p + 1)))) = .tuple #[.int .i64 mc, .bool mo] := by
    cases meetC i c (headAt i c r p) (tailAt i c r (wrap64 (p + 1))) with
    | none => exact ⟨0, false, rfl⟩
    | some x => exact ⟨x, true, rfl⟩
  rw [hmv] at K3 ⊢
  clear hmv B1 B2 hm hf hok T
  generalize headAt i c r p = H at *
  generalize tailAt i c r (wrap64 (p + 1)) = X at *
  generalize headV H = vH at *
  generalize tailV X = vX at *
  go_enter Try.func24, Try.ntmps24
  go_wp2_with (go_at_call 45; fail)
  (with_reducible refine (K1.out _ (Below.refl _ _)).mono ?_)
  rintro e w1 ⟨rfl, hb⟩
  have HBw1 := Lib.hid (hb)
  clear hb
  go_wp2_with (go_at_call 46; fail)
  (with_reducible refine (K2.out _ HBw1.out).mono ?_)
  rintro e w2 ⟨rfl, hb⟩
  have HBw2 := Lib.hid (HBw1.out.trans (hb.mono HBw1.out.size))
  clear hb
  go_wp2_with (go_at_call 44; fail)
  (with_reducible refine (K3.out _ HBw2.out).mono ?_)
  rintro e w3 ⟨rfl, hb⟩
  have HBw3 := Lib.hid (HBw2.out.trans (hb.mono HBw2.out.size))
  clear hb
  go_wp2
  go_ret2
  exact ⟨rfl, HBw3.out⟩
set_option maxRecDepth 100000 in
set_option maxHeartbeats 4000000 in
theorem fcross_any (a : Nat) (A1 A2 A3 A4 : Option Addr) (c1 c2 c3 c4 : Nat) (i : Prob) (c : Int) (r : List Int) (vh vt : Value) (b : Nat) (D1 D2 D3 D4 : Option Addr) (d1 d2 d3 d4 : Nat) (q : List Int) (uh ut : Value) (p m : Int) (w : World) (T : TV w a A1 A2 A3 A4 c1 c2 c3 c4 i c r vh vt) (U : TV w b D1 D2 D3 D4 d1 d2 d3 d4 i c q uh ut) (hok : probOk i = true) (hp : i.pairs.length ≤ 1000000) (hr : r.length ≤ 900) (hq : q.length ≤ 900) :
    Calls Try.prog 19 #[.pointer (some ⟨a, 0, none⟩), .int .i64 p, .pointer (some ⟨b, 0, none⟩), .int .i64 m] w fun e w' => e = .returned (meetV (meetC i c (headAt i c r p) (tailAt i c q m))) ∧ Below w.heap.size w w' := by
  have hf := fine_of hok
  have hm := mated_of hok
  have B1 : ∀ h, headAt i c r p = some h → HB i h ∧ HdA i c h := headAt_bd hf hm (by omega)
  have B2 : inB c 0 (i.cars.length - 1) = true → ∀ t, tailAt i c q m = some t → TBd i t ∧ 0 ≤ t.late ∧ t.late ≤ 1000 ∧ TlA i c t := fun hc => tailAt_bd hf hm hc (by omega)
  have K0 := Lib.hid (fun W (hB : Below w.heap.size w W) => alike_any i A1 A2 A3 A4 D1 D2 D3 D4 c1 c2 c3 c4 d1 d2 d3 d4 W (Lies.below T.said hB) (Lies.below U.said hB) hok hp)
  have K1 := Lib.hid (fun W (hB : Below w.heap.size w W) => fhead_any a A1 A2 A3 A4 c1 c2 c3 c4 i c r vh vt p W (T.below hB))
  have K2 := Lib.hid (fun W (hB : Below w.heap.size w W) => ftail_any b D1 D2 D3 D4 d1 d2 d3 d4 i c q uh ut m W (U.below hB))
  have K3 := Lib.hid (fun W (hB : Below w.heap.size w W) => fmeet_any a A1 A2 A3 A4 c1 c2 c3 c4 i c r vh vt (headAt i c r p) (tailAt i c q m) W (T.below hB) hok hp B1 B2)
  have SS : Hid (∀ W, Below w.heap.size w W → (W.cell? ⟨a, 0, none⟩ = some (.slice A1 i.cars.length c1) ∧ W.cell? ⟨a, 1, none⟩ = some (.slice A2 i.stops.length c2) ∧ W.cell? ⟨a, 2, none⟩ = some (.slice A3 i.pairs.length c3) ∧ W.cell? ⟨a, 3, none⟩ = some (.slice A4 i.travel.length c4) ∧ W.cell? ⟨a, 4, none⟩ = some (.int .i64 c)) ∧ (W.cell? ⟨b, 0, none⟩ = some (.slice D1 i.cars.length d1) ∧ W.cell? ⟨b, 1, none⟩ = some (.slice D2 i.stops.length d2) ∧ W.cell? ⟨b, 2, none⟩ = some (.slice D3 i.pairs.length d3) ∧ W.cell? ⟨b, 3, none⟩ = some (.slice D4 i.travel.length d4) ∧ W.cell? ⟨b, 4, none⟩ = some (.int .i64 c))) := fun W hB =>
    ⟨⟨(T.below hB).blk.cell (j := 0) rfl, (T.below hB).blk.cell (j := 1) rfl, (T.below hB).blk.cell (j := 2) rfl, (T.below hB).blk.cell (j := 3) rfl, (T.below hB).blk.cell (j := 4) rfl⟩, ⟨(U.below hB).blk.cell (j := 0) rfl, (U.below hB).blk.cell (j := 1) rfl, (U.below hB).blk.cell (j := 2) rfl, (U.below hB).blk.cell (j := 3) rfl, (U.below hB).blk.cell (j := 4) rfl⟩⟩
  obtain ⟨mc, mo, hmv⟩ : ∃ mc mo, meetV (meetC i c (headAt i c r p) (tailAt i c q m)) = .tuple #[.int .i64 mc, .bool mo] := by
    cases meetC i c (headAt i c r p) (tailAt i c q m) with
    | none => exact ⟨0, false, rfl⟩
    | some x => exact ⟨x, true, rfl⟩
  rw [hmv] at K3 ⊢
  have tcc : (c != c) = false := by simp
  clear hmv B1 B2 hm hf hok T U
  generalize headAt i c r p = H at *
  generalize tailAt i c q m = X at *
  generalize headV H = vH at *
  generalize tailV X = vX at *
  go_enter Try.func19, Try.ntmps19
  go_upto_region 1 with (fail)
  refine wp_region_z (S := (fun W => (W.cell? ⟨a, 0, none⟩ = some (.slice A1 i.cars.length c1) ∧ W.cell? ⟨a, 1, none⟩ = some (.slice A2 i.stops.length c2) ∧ W.cell? ⟨a, 2, none⟩ = some (.slice A3 i.pairs.length c3) ∧ W.cell? ⟨a, 3, none⟩ = some (.slice A4 i.travel.length c4) ∧ W.cell? ⟨a, 4, none⟩ = some (.int .i64 c)) ∧ (W.cell? ⟨b, 0, none⟩ = some (.slice D1 i.cars.length d1) ∧ W.cell? ⟨b, 1, none⟩ = some (.slice D2 i.stops.length d2) ∧ W.cell? ⟨b, 2, none⟩ = some (.slice D3 i.pairs.length d3) ∧ W.cell? ⟨b, 3, none⟩ = some (.slice D4 i.travel.length d4) ∧ W.cell? ⟨b, 4, none⟩ = some (.int .i64 c)))) (z := 21) (by kernel_rfl) (SS.out _ (Below.refl w.heap.size w).drew) (fun hH => ?_)
  refine wpAnyZ_takeS (i := 0) (v := ?_) rfl (by kernel_rfl) (by kernel_rfl) (by kernel_rfl) (by kernel_rfl) (fun _ _ _ h => h) (gives_value (by rfl) ?_) (by assumption) ?_
  rotate_left
  · intro w hSw
    (try dsimp only at hSw)
    go_simp
    (try with_reducible rfl)
  (try simp only [Act.put, List.getElem_toArray, List.getElem_cons_succ, List.getElem_cons_zero, List.setIfInBounds_toArray, List.set_cons_zero, List.set_cons_succ])
  refine wpAnyZ_takeS (i := 1) (v := ?_) rfl (by kernel_rfl) (by kernel_rfl) (by kernel_rfl) (by kernel_rfl) (fun _ _ _ h => h) (gives_value (by rfl) ?_) (by assumption) ?_
  rotate_left
  · intro w hSw
    (try dsimp only at hSw)
    go_simp
    (try with_reducible rfl)
  (try simp only [Act.put, List.getElem_toArray, List.getElem_cons_succ, List.getElem_cons_zero, List.setIfInBounds_toArray, List.set_cons_zero, List.set_cons_succ])
  refine wpAnyZ_takeS (i := 2) (v := ?_) rfl (by kernel_rfl) (by kernel_rfl) (by kernel_rfl) (by kernel_rfl) (fun _ _ _ h => h) (gives_value (by rfl) ?_) (by assumption) ?_
  rotate_left
  · intro w hSw
    (try dsimp only at hSw)
    go_simp
    (try with_reducible rfl)
  (try simp only [Act.put, List.getElem_toArray, List.getElem_cons_succ, List.getElem_cons_zero, List.setIfInBounds_toArray, List.set_cons_zero, List.set_cons_succ])
  refine wpAnyZ_takeS (i := 3) (v := ?_) rfl (by kernel_rfl) (by kernel_rfl) (by kernel_rfl) (by kernel_rfl) (fun _ _ _ h => h) (gives_value (by rfl) ?_) (by assumption) ?_
  rotate_left
  · intro w hSw
    (try dsimp only at hSw)
    go_simp
    (try with_reducible rfl)
  (try simp only [Act.put, List.getElem_toArray, List.getElem_cons_succ, List.getElem_cons_zero, List.setIfInBounds_toArray, List.set_cons_zero, List.set_cons_succ])
  refine wpAnyZ_takeS (i := 4) (v := ?_) rfl (by kernel_rfl) (by kernel_rfl) (by kernel_rfl) (by kernel_rfl) (fun _ _ _ h => h) (gives_value (by rfl) ?_) (by assumption) ?_
  rotate_left
  · intro w hSw
    (try dsimp only at hSw)
    go_simp
    (try with_reducible rfl)
  (try simp only [Act.put, List.getElem_toArray, List.getElem_cons_succ, List.getElem_cons_zero, List.setIfInBounds_toArray, List.set_cons_zero, List.set_cons_succ])
  refine wpAnyZ_takeS (i := 5) (v := ?_) rfl (by kernel_rfl) (by kernel_rfl) (by kernel_rfl) (by kernel_rfl) (fun _ _ _ h => h) (gives_value (by rfl) ?_) (by assumption) ?_
  rotate_left
  · intro w hSw
    (try dsimp only at hSw)
    go_simp
    (try with_reducible rfl)
  (try simp only [Act.put, List.getElem_toArray, List.getElem_cons_succ, List.getElem_cons_zero, List.setIfInBounds_toArray, List.set_cons_zero, List.set_cons_succ])
  refine wpAnyZ_takeS (i := 6) (v := ?_) rfl (by kernel_rfl) (by kernel_rfl) (by kernel_rfl) (by kernel_rfl) (fun _ _ _ h => h) (gives_value (by rfl) ?_) (by assumption) ?_
  rotate_left
  · intro w hSw
    (try dsimp only at hSw)
    go_simp
    (try with_reducible rfl)
  (try simp only [Act.put, List.getElem_toArray, List.getElem_cons_succ, List.getElem_cons_zero, List.setIfInBounds_toArray, List.set_cons_zero, List.set_cons_succ])
  refine wpAnyZ_takeS (i := 7) (v := ?_) rfl (by kernel_rfl) (by kernel_rfl) (by kernel_rfl) (by kernel_rfl) (fun _ _ _ h => h) (gives_value (by rfl) ?_) (by assumption) ?_
  rotate_left
  · intro w hSw
    (try dsimp only at hSw)
    go_simp
    (try with_reducible rfl)
  (try simp only [Act.put, List.getElem_toArray, List.getElem_cons_succ, List.getElem_cons_zero, List.setIfInBounds_toArray, List.set_cons_zero, List.set_cons_succ])
  refine wpAnyZ_takeS (i := 8) (v := ?_) rfl (by kernel_rfl) (by kernel_rfl) (by kernel_rfl) (by kernel_rfl) (fun _ _ _ h => h) (gives_value (by rfl) ?_) (by assumption) ?_
  rotate_left
  · intro w hSw
    (try dsimp only at hSw)
    go_simp
    (try with_reducible rfl)
  (try simp only [Act.put, List.getElem_toArray, List.getElem_cons_succ, List.getElem_cons_zero, List.setIfInBounds_toArray, List.set_cons_zero, List.set_cons_succ])
  refine wpAnyZ_takeS (i := 9) (v := ?_) rfl (by kernel_rfl) (by kernel_rfl) (by kernel_rfl) (by kernel_rfl) (fun _ _ _ h => h) (gives_value (by rfl) ?_) (by assumption) ?_
  rotate_left
  · intro w hSw
    (try dsimp only at hSw)
    go_simp
    (try with_reducible rfl)
  (try simp only [Act.put, List.getElem_toArray, List.getElem_cons_succ, List.getElem_cons_zero, List.setIfInBounds_toArray, List.set_cons_zero, List.set_cons_succ])
  refine wpAnyZ_takeS (i := 10) (v := ?_) rfl (by kernel_rfl) (by kernel_rfl) (by kernel_rfl) (by kernel_rfl) (fun _ _ _ h => h) (gives_value (by rfl) ?_) (by assumption) ?_
  rotate_left
  · intro w hSw
    (try dsimp only at hSw)
    go_simp
    (try with_reducible rfl)
  (try simp only [Act.put, List.getElem_toArray, List.getElem_cons_succ, List.getElem_cons_zero, List.setIfInBounds_toArray, List.set_cons_zero, List.set_cons_succ])
  refine wpAnyZ_takeS (i := 11) (v := ?_) rfl (by kernel_rfl) (by kernel_rfl) (by kernel_rfl) (by kernel_rfl) (fun _ _ _ h => h) (gives_value (by rfl) ?_) (by assumption) ?_
  rotate_left
  · intro w hSw
    (try dsimp only at hSw)
    go_simp
    (try with_reducible rfl)
  (try simp only [Act.put, List.getElem_toArray, List.getElem_cons_succ, List.getElem_cons_zero, List.setIfInBounds_toArray, List.set_cons_zero, List.set_cons_succ])
  refine wpAnyZ_takeS (i := 12) (v := ?_) rfl (by kernel_rfl) (by kernel_rfl) (by kernel_rfl) (by kernel_rfl) (fun _ _ _ h => h) (gives_value (by rfl) ?_) (by assumption) ?_
  rotate_left
  · intro w hSw
    (try dsimp only at hSw)
    go_simp
    (try with_reducible rfl)
  (try simp only [Act.put, List.getElem_toArray, List.getElem_cons_succ, List.getElem_cons_zero, List.setIfInBounds_toArray, List.set_cons_zero, List.set_cons_succ])
  refine wpAnyZ_takeS (i := 13) (v := ?_) rfl (by kernel_rfl) (by kernel_rfl) (by kernel_rfl) (by kernel_rfl) (fun _ _ _ h => h) (gives_value (by rfl) ?_) (by assumption) ?_
  rotate_left
  · intro w hSw
    (try dsimp only at hSw)
    go_simp
    (try with_reducible rfl)
  (try simp only [Act.put, List.getElem_toArray, List.getElem_cons_succ, List.getElem_cons_zero, List.setIfInBounds_toArray, List.set_cons_zero, List.set_cons_succ])
  refine wpAnyZ_takeS (i := 14) (v := ?_) rfl (by kernel_rfl) (by kernel_rfl) (by kernel_rfl) (by kernel_rfl) (fun _ _ _ h => h) (gives_value (by rfl) ?_) (by assumption) ?_
  rotate_left
  · intro w hSw
    (try dsimp only at hSw)
    go_simp
    (try with_reducible rfl)
  (try simp only [Act.put, List.getElem_toArray, List.getElem_cons_succ, List.getElem_cons_zero, List.setIfInBounds_toArray, List.set_cons_zero, List.set_cons_succ])
  refine wpAnyZ_takeS (i := 15) (v := ?_) rfl (by kernel_rfl) (by kernel_rfl) (by kernel_rfl) (by kernel_rfl) (fun _ _ _ h => h) (gives_value (by rfl) ?_) (by assumption) ?_
  rotate_left
  · intro w hSw
    (try dsimp only at hSw)
    go_simp
    (try with_reducible rfl)
  (try simp only [Act.put, List.getElem_toArray, List.getElem_cons_succ, List.getElem_cons_zero, List.setIfInBounds_toArray, List.set_cons_zero, List.set_cons_succ])
  refine wpAnyZ_takeS (i := 16) (v := ?_) rfl (by kernel_rfl) (by kernel_rfl) (by kernel_rfl) (by kernel_rfl) (fun _ _ _ h => h) (gives_value (by rfl) ?_) (by assumption) ?_
  rotate_left
  · intro w hSw
    (try dsimp only at hSw)
    go_simp
    (try with_reducible rfl)
  (try simp only [Act.put, List.getElem_toArray, List.getElem_cons_succ, List.getElem_cons_zero, List.setIfInBounds_toArray, List.set_cons_zero, List.set_cons_succ])
  refine wpAnyZ_takeS (i := 17) (v := ?_) rfl (by kernel_rfl) (by kernel_rfl) (by kernel_rfl) (by kernel_rfl) (fun _ _ _ h => h) (gives_value (by rfl) ?_) (by assumption) ?_
  rotate_left
  · intro w hSw
    (try dsimp only at hSw)
    go_simp
    (try with_reducible rfl)
  (try simp only [Act.put, List.getElem_toArray, List.getElem_cons_succ, List.getElem_cons_zero, List.setIfInBounds_toArray, List.set_cons_zero, List.set_cons_succ])
  refine wpAnyZ_one (i := 18) (by kernel_rfl) ?_
  refine zstep rfl (fun K hK => ?_)
  go_simp
  (with_reducible refine (K0.out _ ((Below.refl w.heap.size w).drew)).mono ?_)
  rintro e w0 ⟨rfl, hb⟩
  have HBw0 := Lib.hid (((Below.refl w.heap.size w).drew).trans hb)
  clear hb
  refine hK.out _ _ (fun _ => SS.out _ HBw0.out) (fun hH => ?_)
  replace hH := hH (by decide)
  clear hK K
  (try simp only [Act.put, List.getElem_toArray, List.getElem_cons_succ, List.getElem_cons_zero, List.setIfInBounds_toArray, List.set_cons_zero, List.set_cons_succ])
  refine wpAnyZ_takeS (i := 19) (v := ?_) rfl (by kernel_rfl) (by kernel_rfl) (by kernel_rfl) (by kernel_rfl) (fun _ _ _ h => h) (gives_value (by rfl) ?_) (by assumption) ?_
  rotate_left
  · intro w hSw
    (try dsimp only at hSw)
    go_simp
    (try with_reducible rfl)
  (try simp only [Act.put, List.getElem_toArray, List.getElem_cons_succ, List.getElem_cons_zero, List.setIfInBounds_toArray, List.set_cons_zero, List.set_cons_succ])
  refine wpAnyZ_takeS (i := 20) (v := ?_) rfl (by kernel_rfl) (by kernel_rfl) (by kernel_rfl) (by kernel_rfl) (fun _ _ _ h => h) (gives_value (by rfl) ?_) (by assumption) ?_
  rotate_left
  · intro w hSw
    (try dsimp only at hSw)
    go_simp
    (try with_reducible rfl)
  (try simp only [Act.put, List.getElem_toArray, List.getElem_cons_succ, List.getElem_cons_zero, List.setIfInBounds_toArray, List.set_cons_zero, List.set_cons_succ])
  refine wpAnyZ_done (by kernel_rfl) ?_ _
  clear hH SS K0
  go_wp2_with (go_at_call 45; fail)
  (with_reducible refine (K1.out _ HBw0.out).mono ?_)
  rintro e w1 ⟨rfl, hb⟩
  have HBw1 := Lib.hid (HBw0.out.trans (hb.mono HBw0.out.size))
  clear hb
  go_wp2_with (go_at_call 46; fail)
  (with_reducible refine (K2.out _ HBw1.out).mono ?_)
  rintro e w2 ⟨rfl, hb⟩
  have HBw2 := Lib.hid (HBw1.out.trans (hb.mono HBw1.out.size))
  clear hb
  go_wp2_with (go_at_call 44; fail)
  (with_reducible refine (K3.out _ HBw2.out).mono ?_)
  rintro e w3 ⟨rfl, hb⟩
  have HBw3 := Lib.hid (HBw2.out.trans (hb.mono HBw2.out.size))
  clear hb
  go_wp2
  go_ret2
  exact ⟨rfl, HBw3.out⟩
set_option maxRecDepth 100000 in
set_option maxHeartbeats 4000000 in
theorem fins_any (a : Nat) (A1 A2 A3 A4 : Option Addr) (c1 c2 c3 c4 : Nat) (i : Prob) (c : Int) (r : List Int) (vh vt : Value) (p s : Int) (w : World) (T : TV w a A1 A2 A3 A4 c1 c2 c3 c4 i c r vh vt) (hok : probOk i = true) (hp : i.pairs.length ≤ 1000000) (hr : r.length ≤ 900) :
    Calls Try.prog 23 #[.pointer (some ⟨a, 0, none⟩), .int .i64 p, .int .i64 s] w fun e w' => e = .returned (meetV (meetC i c (extC' i c (headAt i c r p) s) (tailAt i c r p))) ∧ Below w.heap.size w w' := by
  have hf := fine_of hok
  have hm := mated_of hok
  have B0 : ∀ h, headAt i c r p = some h → HB i h ∧ HdA i c h := headAt_bd hf hm (by omega)
  have B1 : ∀ h, extC' i c (headAt i c r p) s = some h → HB i h ∧ HdA i c h := extC_bd hf hm hr
  have B2 : inB c 0 (i.cars.length - 1) = true → ∀ t, tailAt i c r p = some t → TBd i t ∧ 0 ≤ t.late ∧ t.late ≤ 1000 ∧ TlA i c t := fun hc => tailAt_bd hf hm hc (by omega)
  have K1 := Lib.hid (fun W (hB : Below w.heap.size w W) => fhead_any a A1 A2 A3 A4 c1 c2 c3 c4 i c r vh vt p W (T.below hB))
  have K0 : Hid (∀ W, Below w.heap.size w W → Calls Try.prog 47 #[.agg #[.slice A1 i.cars.length c1, .slice A2 i.stops.length c2, .slice A3 i.pairs.length c3, .slice A4 i.travel.length c4], .int .i64 c, headV (headAt i c r p), .int .i64 s] W fun e w' => e = .returned (headV (extC' i c (headAt i c r p) s)) ∧ Below W.heap.size W w') := fun W hB => pextend_any _ i c (headAt i c r p) s W (Lies.below T.said hB) hok hp B0
  have K2 := Lib.hid (fun W (hB : Below w.heap.size w W) => ftail_any a A1 A2 A3 A4 c1 c2 c3 c4 i c r vh vt p W (T.below hB))
  have K3 := Lib.hid (fun W (hB : Below w.heap.size w W) => fmeet_any a A1 A2 A3 A4 c1 c2 c3 c4 i c r vh vt (extC' i c (headAt i c r p) s) (tailAt i c r p) W (T.below hB) hok hp B1 B2)
  have SS : Hid (∀ W, Below w.heap.size w W → W.cell? ⟨a, 0, none⟩ = some (.slice A1 i.cars.length c1) ∧ W.cell? ⟨a, 1, none⟩ = some (.slice A2 i.stops.length c2) ∧ W.cell? ⟨a, 2, none⟩ = some (.slice A3 i.pairs.length c3) ∧ W.cell? ⟨a, 3, none⟩ = some (.slice A4 i.travel.length c4) ∧ W.cell? ⟨a, 4, none⟩ = some (.int .i64 c)) := fun W hB =>
    ⟨(T.below hB).blk.cell (j := 0) rfl, (T.below hB).blk.cell (j := 1) rfl, (T.below hB).blk.cell (j := 2) rfl, (T.below hB).blk.cell (j := 3) rfl, (T.below hB).blk.cell (j := 4) rfl⟩
  obtain ⟨mc, mo, hmv⟩ : ∃ mc mo, meetV (meetC i c (extC' i c (headAt i c r p) s) (tailAt i c r p)) = .tuple #[.int .i64 mc, .bool mo] := by
    cases meetC i c (extC' i c (headAt i c r p) s) (tailAt i c r p) with
    | none => exact ⟨0, false, rfl⟩
    | some x => exact ⟨x, true, rfl⟩
  rw [hmv] at K3 ⊢
  clear hmv B0 B1 B2 hm hf hok T
  generalize extC' i c (headAt i c r p) s = E at *
  generalize headAt i c r p = H at *
  generalize tailAt i c r p = X at *
  generalize headV E = vE at *
  generalize headV H = vH at *
  generalize tailV X = vX at *
  go_enter Try.func23, Try.ntmps23
  go_upto_region 1 with (fail)
  refine wp_region_z (S := (fun W => W.cell? ⟨a, 0, none⟩ = some (.slice A1 i.cars.length c1) ∧ W.cell? ⟨a, 1, none⟩ = some (.slice A2 i.stops.length c2) ∧ W.cell? ⟨a, 2, none⟩ = some (.slice A3 i.pairs.length c3) ∧ W.cell? ⟨a, 3, none⟩ = some (.slice A4 i.travel.length c4) ∧ W.cell? ⟨a, 4, none⟩ = some (.int .i64 c))) (z := 22) (by kernel_rfl) (SS.out _ (Below.refl w.heap.size w).drew) (fun hH => ?_)
  refine wpAnyZ_takeS (i := 0) (v := ?_) rfl (by kernel_rfl) (by kernel_rfl) (by kernel_rfl) (by kernel_rfl) (fun _ _ _ h => h) (gives_value (by rfl) ?_) (by assumption) ?_
  rotate_left
  · intro w hSw
    (try dsimp only at hSw)
    go_simp
    (try with_reducible rfl)
  (try simp only [Act.put, List.getElem_toArray, List.getElem_cons_succ, List.getElem_cons_zero, List.setIfInBounds_toArray, List.set_cons_zero, List.set_cons_succ])
  refine wpAnyZ_takeS (i := 1) (v := ?_) rfl (by kernel_rfl) (by kernel_rfl) (by kernel_rfl) (by kernel_rfl) (fun _ _ _ h => h) (gives_value (by rfl) ?_) (by assumption) ?_
  rotate_left
  · intro w hSw
    (try dsimp only at hSw)
    go_simp
    (try with_reducible rfl)
  (try simp only [Act.put, List.getElem_toArray, List.getElem_cons_succ, List.getElem_cons_zero, List.setIfInBounds_toArray, List.set_cons_zero, List.set_cons_succ])
  refine wpAnyZ_takeS (i := 2) (v := ?_) rfl (by kernel_rfl) (by kernel_rfl) (by kernel_rfl) (by kernel_rfl) (fun _ _ _ h => h) (gives_value (by rfl) ?_) (by assumption) ?_
  rotate_left
  · intro w hSw
    (try dsimp only at hSw)
    go_simp
    (try with_reducible rfl)
  (try simp only [Act.put, List.getElem_toArray, List.getElem_cons_succ, List.getElem_cons_zero, List.setIfInBounds_toArray, List.set_cons_zero, List.set_cons_succ])
  refine wpAnyZ_takeS (i := 3) (v := ?_) rfl (by kernel_rfl) (by kernel_rfl) (by kernel_rfl) (by kernel_rfl) (fun _ _ _ h => h) (gives_value (by rfl) ?_) (by assumption) ?_
  rotate_left
  · intro w hSw
    (try dsimp only at hSw)
    go_simp
    (try with_reducible rfl)
  (try simp only [Act.put, List.getElem_toArray, List.getElem_cons_succ, List.getElem_cons_zero, List.setIfInBounds_toArray, List.set_cons_zero, List.set_cons_succ])
  refine wpAnyZ_takeS (i := 4) (v := ?_) rfl (by kernel_rfl) (by kernel_rfl) (by kernel_rfl) (by kernel_rfl) (fun _ _ _ h => h) (gives_value (by rfl) ?_) (by assumption) ?_
  rotate_left
  · intro w hSw
    (try dsimp only at hSw)
    go_simp
    (try with_reducible rfl)
  (try simp only [Act.put, List.getElem_toArray, List.getElem_cons_succ, List.getElem_cons_zero, List.setIfInBounds_toArray, List.set_cons_zero, List.set_cons_succ])
  refine wpAnyZ_takeS (i := 5) (v := ?_) rfl (by kernel_rfl) (by kernel_rfl) (by kernel_rfl) (by kernel_rfl) (fun _ _ _ h => h) (gives_value (by rfl) ?_) (by assumption) ?_
  rotate_left
  · intro w hSw
    (try dsimp only at hSw)
    go_simp
    (try with_reducible rfl)
  (try simp only [Act.put, List.getElem_toArray, List.getElem_cons_succ, List.getElem_cons_zero, List.setIfInBounds_toArray, List.set_cons_zero, List.set_cons_succ])
  refine wpAnyZ_takeS (i := 6) (v := ?_) rfl (by kernel_rfl) (by kernel_rfl) (by kernel_rfl) (by kernel_rfl) (fun _ _ _ h => h) (gives_value (by rfl) ?_) (by assumption) ?_
  rotate_left
  · intro w hSw
    (try dsimp only at hSw)
    go_simp
    (try with_reducible rfl)
  (try simp only [Act.put, List.getElem_toArray, List.getElem_cons_succ, List.getElem_cons_zero, List.setIfInBounds_toArray, List.set_cons_zero, List.set_cons_succ])
  refine wpAnyZ_takeS (i := 7) (v := ?_) rfl (by kernel_rfl) (by kernel_rfl) (by kernel_rfl) (by kernel_rfl) (fun _ _ _ h => h) (gives_value (by rfl) ?_) (by assumption) ?_
  rotate_left
  · intro w hSw
    (try dsimp only at hSw)
    go_simp
    (try with_reducible rfl)
  (try simp only [Act.put, List.getElem_toArray, List.getElem_cons_succ, List.getElem_cons_zero, List.setIfInBounds_toArray, List.set_cons_zero, List.set_cons_succ])
  refine wpAnyZ_takeS (i := 8) (v := ?_) rfl (by kernel_rfl) (by kernel_rfl) (by kernel_rfl) (by kernel_rfl) (fun _ _ _ h => h) (gives_value (by rfl) ?_) (by assumption) ?_
  rotate_left
  · intro w hSw
    (try dsimp only at hSw)
    go_simp
    (try with_reducible rfl)
  (try simp only [Act.put, List.getElem_toArray, List.getElem_cons_succ, List.getElem_cons_zero, List.setIfInBounds_toArray, List.set_cons_zero, List.set_cons_succ])
  refine wpAnyZ_takeS (i := 9) (v := ?_) rfl (by kernel_rfl) (by kernel_rfl) (by kernel_rfl) (by kernel_rfl) (fun _ _ _ h => h) (gives_value (by rfl) ?_) (by assumption) ?_
  rotate_left
  · intro w hSw
    (try dsimp only at hSw)
    go_simp
    (try with_reducible rfl)
  (try simp only [Act.put, List.getElem_toArray, List.getElem_cons_succ, List.getElem_cons_zero, List.setIfInBounds_toArray, List.set_cons_zero, List.set_cons_succ])
  refine wpAnyZ_takeS (i := 10) (v := ?_) rfl (by kernel_rfl) (by kernel_rfl) (by kernel_rfl) (by kernel_rfl) (fun _ _ _ h => h) (gives_value (by rfl) ?_) (by assumption) ?_
  rotate_left
  · intro w hSw
    (try dsimp only at hSw)
    go_simp
    (try with_reducible rfl)
  (try simp only [Act.put, List.getElem_toArray, List.getElem_cons_succ, List.getElem_cons_zero, List.setIfInBounds_toArray, List.set_cons_zero, List.set_cons_succ])
  refine wpAnyZ_takeS (i := 12) (v := ?_) rfl (by kernel_rfl) (by kernel_rfl) (by kernel_rfl) (by kernel_rfl) (fun _ _ _ h => h) (gives_value (by rfl) ?_) (by assumption) ?_
  rotate_left
  · intro w hSw
    (try dsimp only at hSw)
    go_simp
    (try with_reducible rfl)
  (try simp only [Act.put, List.getElem_toArray, List.getElem_cons_succ, List.getElem_cons_zero, List.setIfInBounds_toArray, List.set_cons_zero, List.set_cons_succ])
  refine wpAnyZ_takeS (i := 14) (v := ?_) rfl (by kernel_rfl) (by kernel_rfl) (by kernel_rfl) (by kernel_rfl) (fun _ _ _ h => h) (gives_value (by rfl) ?_) (by assumption) ?_
  rotate_left
  · intro w hSw
    (try dsimp only at hSw)
    go_simp
    (try with_reducible rfl)
  (try simp only [Act.put, List.getElem_toArray, List.getElem_cons_succ, List.getElem_cons_zero, List.setIfInBounds_toArray, List.set_cons_zero, List.set_cons_succ])
  refine wpAnyZ_takeS (i := 15) (v := ?_) rfl (by kernel_rfl) (by kernel_rfl) (by kernel_rfl) (by kernel_rfl) (fun _ _ _ h => h) (gives_value (by rfl) ?_) (by assumption) ?_
  rotate_left
  · intro w hSw
    (try dsimp only at hSw)
    go_simp
    (try with_reducible rfl)
  (try simp only [Act.put, List.getElem_toArray, List.getElem_cons_succ, List.getElem_cons_zero, List.setIfInBounds_toArray, List.set_cons_zero, List.set_cons_succ])
  refine wpAnyZ_one (i := 11) (by kernel_rfl) ?_
  refine zstep rfl (fun K hK => ?_)
  go_simp
  (with_reducible refine (K1.out _ ((Below.refl w.heap.size w).drew)).mono ?_)
  rintro e w1 ⟨rfl, hb⟩
  have HBw1 := Lib.hid (((Below.refl w.heap.size w).drew).trans hb)
  clear hb
  refine hK.out _ _ (fun _ => SS.out _ HBw1.out) (fun hH => ?_)
  replace hH := hH (by decide)
  clear hK K
  (try simp only [Act.put, List.getElem_toArray, List.getElem_cons_succ, List.getElem_cons_zero, List.setIfInBounds_toArray, List.set_cons_zero, List.set_cons_succ])
  refine wpAnyZ_one (i := 13) (by kernel_rfl) ?_
  refine zstep rfl (fun K hK => ?_)
  go_simp
  (with_reducible refine (K0.out _ (HBw1.out)).mono ?_)
  rintro e w2 ⟨rfl, hb⟩
  have HBw2 := Lib.hid (HBw1.out.trans (hb.mono HBw1.out.size))
  clear hb
  refine hK.out _ _ (fun _ => SS.out _ HBw2.out) (fun hH => ?_)
  replace hH := hH (by decide)
  clear hK K
  (try simp only [Act.put, List.getElem_toArray, List.getElem_cons_succ, List.getElem_cons_zero, List.setIfInBounds_toArray, List.set_cons_zero, List.set_cons_succ])
  refine wpAnyZ_one (i := 16) (by kernel_rfl) ?_
  refine zstep rfl (fun K hK => ?_)
  go_simp
  (with_reducible refine (K2.out _ (HBw2.out)).mono ?_)
  rintro e w3 ⟨rfl, hb⟩
  have HBw3 := Lib.hid (HBw2.out.trans (hb.mono HBw2.out.size))
  clear hb
  refine hK.out _ _ (fun _ => SS.out _ HBw3.out) (fun hH => ?_)
  replace hH := hH (by decide)
  clear hK K
  (try simp only [Act.put, List.getElem_toArray, List.getElem_cons_succ, List.getElem_cons_zero, List.setIfInBounds_toArray, List.set_cons_zero, List.set_cons_succ])
  refine wpAnyZ_one (i := 17) (by kernel_rfl) ?_
  refine zstep rfl (fun K hK => ?_)
  go_simp
  (with_reducible refine (K3.out _ (HBw3.out)).mono ?_)
  rintro e w4 ⟨rfl, hb⟩
  have HBw4 := Lib.hid (HBw3.out.trans (hb.mono HBw3.out.size))
  clear hb
  refine hK.out _ _ (fun _ => SS.out _ HBw4.out) (fun hH => ?_)
  replace hH := hH (by decide)
  clear hK K
  (try simp only [Act.put, List.getElem_toArray, List.getElem_cons_succ, List.getElem_cons_zero, List.setIfInBounds_toArray, List.set_cons_zero, List.set_cons_succ])
  refine wpAnyZ_takeS (i := 18) (v := ?_) rfl (by kernel_rfl) (by kernel_rfl) (by kernel_rfl) (by kernel_rfl) (fun _ _ _ h => h) (gives_value (by rfl) ?_) (by assumption) ?_
  rotate_left
  · intro w hSw
    (try dsimp only at hSw)
    go_simp
    (try with_reducible rfl)
  (try simp only [Act.put, List.getElem_toArray, List.getElem_cons_succ, List.getElem_cons_zero, List.setIfInBounds_toArray, List.set_cons_zero, List.set_cons_succ])
  refine wpAnyZ_takeS (i := 19) (v := ?_) rfl (by kernel_rfl) (by kernel_rfl) (by kernel_rfl) (by kernel_rfl) (fun _ _ _ h => h) (gives_value (by rfl) ?_) (by assumption) ?_
  rotate_left
  · intro w hSw
    (try dsimp only at hSw)
    go_simp
    (try with_reducible rfl)
  (try simp only [Act.put, List.getElem_toArray, List.getElem_cons_succ, List.getElem_cons_zero, List.setIfInBounds_toArray, List.set_cons_zero, List.set_cons_succ])
  refine wpAnyZ_takeS (i := 20) (v := ?_) rfl (by kernel_rfl) (by kernel_rfl) (by kernel_rfl) (by kernel_rfl) (fun _ _ _ h => h) (gives_value (by rfl) ?_) (by assumption) ?_
  rotate_left
  · intro w hSw
    (try dsimp only at hSw)
    go_simp
    (try with_reducible rfl)
  (try simp only [Act.put, List.getElem_toArray, List.getElem_cons_succ, List.getElem_cons_zero, List.setIfInBounds_toArray, List.set_cons_zero, List.set_cons_succ])
  refine wpAnyZ_takeS (i := 21) (v := ?_) rfl (by kernel_rfl) (by kernel_rfl) (by kernel_rfl) (by kernel_rfl) (fun _ _ _ h => h) (gives_value (by rfl) ?_) (by assumption) ?_
  rotate_left
  · intro w hSw
    (try dsimp only at hSw)
    go_simp
    (try with_reducible rfl)
  (try simp only [Act.put, List.getElem_toArray, List.getElem_cons_succ, List.getElem_cons_zero, List.setIfInBounds_toArray, List.set_cons_zero, List.set_cons_succ])
  refine wpAnyZ_done (by kernel_rfl) ?_ _
  clear hH SS
  go_wp2
  go_ret2
  exact ⟨rfl, HBw4.out⟩
theorem flen_any (a : Nat) (A1 A2 A3 A4 : Option Addr) (c1 c2 c3 c4 : Nat) (i : Prob) (c : Int) (r : List Int) (vh vt : Value) (w : World) (T : TV w a A1 A2 A3 A4 c1 c2 c3 c4 i c r vh vt) :
    Calls Try.prog 26 #[.pointer (some ⟨a, 0, none⟩)] w fun e w' => e = .returned (.int .i64 (r.length : Int)) ∧ w = w' := by
  have v5 := T.blk.cell (j := 5) rfl
  have ha := T.blk.1
  clear T
  go_enter Try.func26, Try.ntmps26
  go_wp2
  go_ret
  exact ⟨rfl, rfl⟩
end Go.Proofs.Ytkheepedjoimmaa
namespace Go.Proofs.Ytkheepedjoimmaa
open Go.RowKit
set_option linter.unusedSimpArgs false

def HRow (W : World) (i : Prob) (c : Int) (q : List Int) (A : Option Addr) (n : Nat) : Prop :=
  (inB c 0 (i.cars.length - 1) = true ∧ n = q.length + 1 ∧ ∃ g, A = some ⟨g, 0, none⟩ ∧ RowC W g 7 (fun k => headC (headL i c (q.take k))) (q.length + 1)) ∨ (inB c 0 (i.cars.length - 1) = false ∧ A = none ∧ n = 0)
def TRow (W : World) (i : Prob) (c : Int) (q : List Int) (A : Option Addr) (n : Nat) : Prop :=
  (inB c 0 (i.cars.length - 1) = true ∧ n = q.length + 1 ∧ ∃ g, A = some ⟨g, 0, none⟩ ∧ RowC W g 8 (fun k => tailC (tailL i c (q.drop k))) (q.length + 1)) ∨ (inB c 0 (i.cars.length - 1) = false ∧ A = none ∧ n = 0)
theorem ht_mk {W : World} {i : Prob} {c : Int} {q : List Int} {A B : Option Addr} {n m : Nat} (h : HRow W i c q A n) (k : TRow W i c q B m) : HT W i c q (.slice A n n) (.slice B m m) := by
  rcases h with ⟨hc, rfl, g, rfl, h1⟩ | ⟨hc, rfl, rfl⟩
  · rcases k with ⟨_, rfl, g', rfl, h2⟩ | ⟨hc', _⟩
    · exact .inl ⟨hc, g, g', rfl, rfl, h1, h2⟩
    · rw [hc] at hc'; cases hc'
  · rcases k with ⟨hc', _⟩ | ⟨_, rfl, rfl⟩
    · rw [hc] at hc'; cases hc'
    · exact .inr ⟨hc, rfl, rfl⟩
def RowsOut (w w' : World) (e : Ending) (P : World → Option Addr → Nat → Prop) : Prop := ∃ A n, e = .returned (.slice A n n) ∧ Young w.heap.size w'.heap.size w' (fun W => P W A n) ∧ Below w.heap.size w w'
theorem heads_all (v u : Value) (i : Prob) (c : Int) (q : List Int) (w : World) (hv : Lies w v i) (hok : probOk i = true) (hp : i.pairs.length ≤ 1000000) (hr : Recs w 1 num_ u q) (hl : q.length ≤ 1000) :
    Calls Try.prog 14 #[v, .int .i64 c, u] w fun e w' => RowsOut w w' e fun W => HRow W i c q := by
  by_cases hc : inB c 0 (i.cars.length - 1) = true
  · refine (pheads_in v u i c q w hv hok hp hr hl hc).mono ?_
    rintro e w' ⟨g, rfl, hg, hrow, hb⟩
    exact ⟨_, _, rfl, (cells_young hrow hg (by have := hrow.1; omega)).imp fun W h => .inl ⟨hc, rfl, g, rfl, h⟩, hb⟩
  · have hc' : inB c 0 (i.cars.length - 1) = false := by simpa using hc
    refine (pheads_no v u i c w hv hok hp hc').mono ?_
    rintro e w' ⟨rfl, hb⟩
    exact ⟨_, _, rfl, fun W _ => .inr ⟨hc', rfl, rfl⟩, hb⟩
theorem tails_all (v u : Value) (i : Prob) (c : Int) (q : List Int) (w : World) (hv : Lies w v i) (hok : probOk i = true) (hp : i.pairs.length ≤ 1000000) (hr : Recs w 1 num_ u q) (hl : q.length ≤ 1000) :
    Calls Try.prog 15 #[v, .int .i64 c, u] w fun e w' => RowsOut w w' e fun W => TRow W i c q := by
  by_cases hc : inB c 0 (i.cars.length - 1) = true
  · refine (ptails_in v u i c q w hv hok hp hr hl hc).mono ?_
    rintro e w' ⟨g, rfl, hg, hrow, hb⟩
    exact ⟨_, _, rfl, (cells_young hrow hg (by have := hrow.1; omega)).imp fun W h => .inl ⟨hc, rfl, g, rfl, h⟩, hb⟩
  · have hc' : inB c 0 (i.cars.length - 1) = false := by simpa using hc
    refine (ptails_no v u i c w hv hok hp hc').mono ?_
    rintro e w' ⟨rfl, hb⟩
    exact ⟨_, _, rfl, fun W _ => .inr ⟨hc', rfl, rfl⟩, hb⟩
theorem recs_old {α : Type} {W W' : World} {c : Nat} {g : α → Nat → Int} {v : Value} {l : List α} (h : Recs W c g v l) (hs : W.heap.size ≤ W'.heap.size) (hb : ∀ b, b < W.heap.size → W'.heap[b]? = W.heap[b]?) : Recs W' c g v l := by
  obtain ⟨A, cap, rfl, h⟩ := h
  refine ⟨A, cap, rfl, fun k hk => ?_⟩
  obtain ⟨B, o, rfl, hB, hc⟩ := h k hk
  exact ⟨B, o, rfl, Nat.lt_of_lt_of_le hB hs, fun j hj => by rw [World.cell?_of_block (w := W) (hb B hB)]; exact hc j hj⟩
/-- a row that was there ahead of block a -/
theorem recs_ahead {W0 W : World} {a : Nat} {u : Value} {q : List Int} (h : Recs W0 1 num_ u q) (ha : W0.heap.size ≤ a) (hb : Below W0.heap.size W0 W) : Young 0 a W fun W => Recs W 1 num_ u q := fun W' hx =>
  recs_old h (Nat.le_trans hb.size hx.size) fun b hlt => (hx.block b (Nat.zero_le _) (by omega) (Nat.lt_of_lt_of_le hlt hb.size)).trans (hb.block b hlt)
/-- the table's block, its problem; whatever else it holds -/
def TblP (lo a : Nat) (i : Prob) (c : Int) (W : World) : Prop :=
  ∃ A1 A2 A3 A4 c1 c2 c3 c4 x5 x6 x7, lo ≤ a ∧ Blk W a [.slice A1 i.cars.length c1, .slice A2 i.stops.length c2, .slice A3 i.pairs.length c3, .slice A4 i.travel.length c4, .int .i64 c, x5, x6, x7] ∧ Young lo a W fun W => Said W A1 A2 A3 A4 c1 c2 c3 c4 i
theorem Tbl.pre {lo a : Nat} {i : Prob} {c : Int} {r : List Int} {W : World} (h : Tbl lo a i c r W) : TblP lo a i c W := by
  obtain ⟨A1, A2, A3, A4, c1, c2, c3, c4, vh, vt, hl, h1, hy⟩ := h
  exact ⟨A1, A2, A3, A4, c1, c2, c3, c4, _, vh, vt, hl, h1, hy.imp fun _ h => h.1⟩
theorem Young.both {lo a b : Nat} {W W' : World} {P : World → Prop} (h : Young lo b W P) (ha : a < lo ∨ W.heap.size ≤ a) (he : Below W.heap.size W W') : Young lo a W' P :=
  fun W2 h2 => h W2 ⟨Nat.le_trans he.size h2.size, fun k h1 _ h3 => (h2.block k h1 (by omega) (Nat.lt_of_lt_of_le h3 he.size)).trans (he.block k h3)⟩
theorem grown_trans {a b c : World} {row : Option Nat} (h : a.grownBy b row) (k : b.grownBy c row) : a.grownBy c row :=
  ⟨k.os.trans h.os, k.tape.trans h.tape, k.output.trans h.output, Nat.le_trans h.size k.size, fun j hj hn => (k.block j (Nat.lt_of_lt_of_le hj h.size) hn).trans (h.block j hj hn)⟩
set_option maxRecDepth 100000 in
set_option maxHeartbeats 4000000 in
theorem fset_any (lo a : Nat) (i : Prob) (c : Int) (q : List Int) (A : Option Addr) (cap : Nat) (w : World) (hT : TblP lo a i c w) (hq : Young 0 a w fun W => Recs W 1 num_ (.slice A q.length cap) q) (hok : probOk i = true) (hp : i.pairs.length ≤ 1000000) (hl : q.length ≤ 900) :
    Calls Try.prog 25 #[.pointer (some ⟨a, 0, none⟩), .slice A q.length cap] w fun e w' => e = .returned (.tuple #[]) ∧ Tbl lo a i c q w' ∧ w.grownBy w' (some a) := by
  obtain ⟨A1, A2, A3, A4, c1, c2, c3, c4, x5, x6, x7, hlo, hblk, hsaid⟩ := hT
  have B0 := Lib.hid hblk
  have Y0 := Lib.hid hsaid
  have Q0 := Lib.hid hq
  clear hblk hsaid hq
  have r5 := B0.out.cell (j := 5) rfl
  have f5 := (B0.out.2 5 (by simp)).2
  have haz := B0.out.1
  have B1 := Lib.hid (B0.out.set (k := 5) (by simp) (.int .i64 (q.length : Int)))
  simp only [List.set_cons_succ, List.set_cons_zero] at B1
  have G1 := Lib.hid (grown_set w a 5 (.int .i64 (q.length : Int)))
  have hsz : (w.setCell ⟨a, 5, none⟩ (.int .i64 (q.length : Int))).heap.size = w.heap.size := by simp
  go_enter Try.func25, Try.ntmps25
  go_upto_region 1 with (fail)
  clear r5 f5 B0
  generalize w.setCell ⟨a, 5, none⟩ (.int .i64 (q.length : Int)) = v1 at *
  have Y1 := Lib.hid (Y0.out.on (Ex.of_grown G1.out (fun b hb => by injection hb with hb; exact .inr hb.symm)))
  have Q1 := Lib.hid (Q0.out.on (Ex.of_grown G1.out (fun b hb => by injection hb with hb; exact .inr hb.symm)))
  clear Y0 Q0
  have KH : Hid (∀ W, Below v1.heap.size v1 W → Calls Try.prog 14 #[.agg #[.slice A1 i.cars.length c1, .slice A2 i.stops.length c2, .slice A3 i.pairs.length c3, .slice A4 i.travel.length c4], .int .i64 c, .slice A q.length cap] W fun e w' => RowsOut W w' e fun W => HRow W i c q) := fun W hB => heads_all _ _ i c q W ((Y1.out.below hB).now) hok hp ((Q1.out.below hB).now) (by omega)
  have SS : Hid (∀ W, Below v1.heap.size v1 W → W.cell? ⟨a, 0, none⟩ = some (.slice A1 i.cars.length c1) ∧ W.cell? ⟨a, 1, none⟩ = some (.slice A2 i.stops.length c2) ∧ W.cell? ⟨a, 2, none⟩ = some (.slice A3 i.pairs.length c3) ∧ W.cell? ⟨a, 3, none⟩ = some (.slice A4 i.travel.length c4) ∧ W.cell? ⟨a, 4, none⟩ = some (.int .i64 c)) := fun W hB => ⟨(B1.out.below hB).cell (j := 0) rfl, (B1.out.below hB).cell (j := 1) rfl, (B1.out.below hB).cell (j := 2) rfl, (B1.out.below hB).cell (j := 3) rfl, (B1.out.below hB).cell (j := 4) rfl⟩
  go_upto_region 1 with (fail)
  refine wp_region_z (S := (fun W => W.cell? ⟨a, 0, none⟩ = some (.slice A1 i.cars.length c1) ∧ W.cell? ⟨a, 1, none⟩ = some (.slice A2 i.stops.length c2) ∧ W.cell? ⟨a, 2, none⟩ = some (.slice A3 i.pairs.length c3) ∧ W.cell? ⟨a, 3, none⟩ = some (.slice A4 i.travel.length c4) ∧ W.cell? ⟨a, 4, none⟩ = some (.int .i64 c))) (z := 14) (by kernel_rfl) (SS.out _ (Below.refl v1.heap.size v1).drew) (fun hH => ?_)
  refine wpAnyZ_takeS (i := 0) (v := ?_) rfl (by kernel_rfl) (by kernel_rfl) (by kernel_rfl) (by kernel_rfl) (fun _ _ _ h => h) (gives_value (by rfl) ?_) (by assumption) ?_
  rotate_left
  · intro w hSw
    (try dsimp only at hSw)
    go_simp
    (try with_reducible rfl)
  (try simp only [Act.put, List.getElem_toArray, List.getElem_cons_succ, List.getElem_cons_zero, List.setIfInBounds_toArray, List.set_cons_zero, List.set_cons_succ])
  refine wpAnyZ_takeS (i := 1) (v := ?_) rfl (by kernel_rfl) (by kernel_rfl) (by kernel_rfl) (by kernel_rfl) (fun _ _ _ h => h) (gives_value (by rfl) ?_) (by assumption) ?_
  rotate_left
  · intro w hSw
    (try dsimp only at hSw)
    go_simp
    (try with_reducible rfl)
  (try simp only [Act.put, List.getElem_toArray, List.getElem_cons_succ, List.getElem_cons_zero, List.setIfInBounds_toArray, List.set_cons_zero, List.set_cons_succ])
  refine wpAnyZ_takeS (i := 2) (v := ?_) rfl (by kernel_rfl) (by kernel_rfl) (by kernel_rfl) (by kernel_rfl) (fun _ _ _ h => h) (gives_value (by rfl) ?_) (by assumption) ?_
  rotate_left
  · intro w hSw
    (try dsimp only at hSw)
    go_simp
    (try with_reducible rfl)
  (try simp only [Act.put, List.getElem_toArray, List.getElem_cons_succ, List.getElem_cons_zero, List.setIfInBounds_toArray, List.set_cons_zero, List.set_cons_succ])
  refine wpAnyZ_takeS (i := 3) (v := ?_) rfl (by kernel_rfl) (by kernel_rfl) (by kernel_rfl) (by kernel_rfl) (fun _ _ _ h => h) (gives_value (by rfl) ?_) (by assumption) ?_
  rotate_left
  · intro w hSw
    (try dsimp only at hSw)
    go_simp
    (try with_reducible rfl)
  (try simp only [Act.put, List.getElem_toArray, List.getElem_cons_succ, List.getElem_cons_zero, List.setIfInBounds_toArray, List.set_cons_zero, List.set_cons_succ])
  refine wpAnyZ_takeS (i := 4) (v := ?_) rfl (by kernel_rfl) (by kernel_rfl) (by kernel_rfl) (by kernel_rfl) (fun _ _ _ h => h) (gives_value (by rfl) ?_) (by assumption) ?_
  rotate_left
  · intro w hSw
    (try dsimp only at hSw)
    go_simp
    (try with_reducible rfl)
  (try simp only [Act.put, List.getElem_toArray, List.getElem_cons_succ, List.getElem_cons_zero, List.setIfInBounds_toArray, List.set_cons_zero, List.set_cons_succ])
  refine wpAnyZ_takeS (i := 5) (v := ?_) rfl (by kernel_rfl) (by kernel_rfl) (by kernel_rfl) (by kernel_rfl) (fun _ _ _ h => h) (gives_value (by rfl) ?_) (by assumption) ?_
  rotate_left
  · intro w hSw
    (try dsimp only at hSw)
    go_simp
    (try with_reducible rfl)
  (try simp only [Act.put, List.getElem_toArray, List.getElem_cons_succ, List.getElem_cons_zero, List.setIfInBounds_toArray, List.set_cons_zero, List.set_cons_succ])
  refine wpAnyZ_takeS (i := 6) (v := ?_) rfl (by kernel_rfl) (by kernel_rfl) (by kernel_rfl) (by kernel_rfl) (fun _ _ _ h => h) (gives_value (by rfl) ?_) (by assumption) ?_
  rotate_left
  · intro w hSw
    (try dsimp only at hSw)
    go_simp
    (try with_reducible rfl)
  (try simp only [Act.put, List.getElem_toArray, List.getElem_cons_succ, List.getElem_cons_zero, List.setIfInBounds_toArray, List.set_cons_zero, List.set_cons_succ])
  refine wpAnyZ_takeS (i := 7) (v := ?_) rfl (by kernel_rfl) (by kernel_rfl) (by kernel_rfl) (by kernel_rfl) (fun _ _ _ h => h) (gives_value (by rfl) ?_) (by assumption) ?_
  rotate_left
  · intro w hSw
    (try dsimp only at hSw)
    go_simp
    (try with_reducible rfl)
  (try simp only [Act.put, List.getElem_toArray, List.getElem_cons_succ, List.getElem_cons_zero, List.setIfInBounds_toArray, List.set_cons_zero, List.set_cons_succ])
  refine wpAnyZ_takeS (i := 8) (v := ?_) rfl (by kernel_rfl) (by kernel_rfl) (by kernel_rfl) (by kernel_rfl) (fun _ _ _ h => h) (gives_value (by rfl) ?_) (by assumption) ?_
  rotate_left
  · intro w hSw
    (try dsimp only at hSw)
    go_simp
    (try with_reducible rfl)
  (try simp only [Act.put, List.getElem_toArray, List.getElem_cons_succ, List.getElem_cons_zero, List.setIfInBounds_toArray, List.set_cons_zero, List.set_cons_succ])
  refine wpAnyZ_takeS (i := 9) (v := ?_) rfl (by kernel_rfl) (by kernel_rfl) (by kernel_rfl) (by kernel_rfl) (fun _ _ _ h => h) (gives_value (by rfl) ?_) (by assumption) ?_
  rotate_left
  · intro w hSw
    (try dsimp only at hSw)
    go_simp
    (try with_reducible rfl)
  (try simp only [Act.put, List.getElem_toArray, List.getElem_cons_succ, List.getElem_cons_zero, List.setIfInBounds_toArray, List.set_cons_zero, List.set_cons_succ])
  refine wpAnyZ_one (i := 10) (by kernel_rfl) ?_
  refine zstep rfl (fun K hK => ?_)
  go_simp
  (with_reducible refine (KH.out _ (Below.refl v1.heap.size v1).drew).mono ?_)
  rintro e w1 ⟨E1, n1, rfl, hy, hb⟩
  have HBw1 := Lib.hid (((Below.refl v1.heap.size v1).drew).trans hb)
  have YH := Lib.hid hy
  clear hy hb
  refine hK.out _ _ (fun _ => SS.out _ HBw1.out) (fun hH => ?_)
  replace hH := hH (by decide)
  clear hK K
  (try simp only [Act.put, List.getElem_toArray, List.getElem_cons_succ, List.getElem_cons_zero, List.setIfInBounds_toArray, List.set_cons_zero, List.set_cons_succ])
  refine wpAnyZ_takeS (i := 11) (v := ?_) rfl (by kernel_rfl) (by kernel_rfl) (by kernel_rfl) (by kernel_rfl) (fun _ _ _ h => h) (gives_value (by rfl) ?_) (by assumption) ?_
  rotate_left
  · intro w hSw
    (try dsimp only at hSw)
    go_simp
    (try with_reducible rfl)
  (try simp only [Act.put, List.getElem_toArray, List.getElem_cons_succ, List.getElem_cons_zero, List.setIfInBounds_toArray, List.set_cons_zero, List.set_cons_succ])
  refine wpAnyZ_takeS (i := 12) (v := ?_) rfl (by kernel_rfl) (by kernel_rfl) (by kernel_rfl) (by kernel_rfl) (fun _ _ _ h => h) (gives_value (by rfl) ?_) (by assumption) ?_
  rotate_left
  · intro w hSw
    (try dsimp only at hSw)
    go_simp
    (try with_reducible rfl)
  (try simp only [Act.put, List.getElem_toArray, List.getElem_cons_succ, List.getElem_cons_zero, List.setIfInBounds_toArray, List.set_cons_zero, List.set_cons_succ])
  refine wpAnyZ_one (i := 13) (by kernel_rfl) ?_
  refine zstep rfl (fun K hK => ?_)
  have B1x := Lib.hid (B1.out.below HBw1.out)
  have r0 := B1x.out.cell (j := 6) rfl
  have f0 := (B1x.out.2 6 (by simp)).2
  have hgz := B1x.out.1
  have B2 := Lib.hid (B1x.out.set (k := 6) (by simp) (.slice E1 n1 n1))
  simp only [List.set_cons_succ, List.set_cons_zero] at B2
  go_simp
  clear r0 f0 hgz B1x
  refine hK.out _ _ (fun _ => ⟨B2.out.cell (j := 0) rfl, B2.out.cell (j := 1) rfl, B2.out.cell (j := 2) rfl, B2.out.cell (j := 3) rfl, B2.out.cell (j := 4) rfl⟩) (fun hH => ?_)
  replace hH := hH (by decide)
  clear hK K
  (try simp only [Act.put, List.getElem_toArray, List.getElem_cons_succ, List.getElem_cons_zero, List.setIfInBounds_toArray, List.set_cons_zero, List.set_cons_succ])
  refine wpAnyZ_done (by kernel_rfl) ?_ _
  clear hH SS
  have G2 := Lib.hid (grown_set w1 a 6 (.slice E1 n1 n1))
  have hs2 : (w1.setCell ⟨a, 6, none⟩ (.slice E1 n1 n1)).heap.size = w1.heap.size := by simp
  generalize w1.setCell ⟨a, 6, none⟩ (.slice E1 n1 n1) = v2 at *
  have X12 : Hid (Ex 0 a v1 v2) := (Ex.of_below HBw1.out).trans (Ex.of_grown G2.out (fun b hb => by injection hb with hb; exact .inr hb.symm))
  have Y2 := Lib.hid (Y1.out.on ⟨X12.out.size, fun b _ h2 h3 => X12.out.block b (Nat.zero_le _) h2 h3⟩)
  have Q2 := Lib.hid (Q1.out.on X12.out)
  have hz1 := HBw1.out.size
  have YH2 : Hid (Young lo a v2 fun W => HRow W i c q E1 n1) := Lib.hid ((((YH.out.both (a := a) (.inl (by rw [show v1.drew.heap.size = v1.heap.size from rfl]; omega)) (Below.refl _ _)).low (show lo ≤ v1.drew.heap.size by rw [show v1.drew.heap.size = v1.heap.size from rfl]; omega)).on (Ex.of_grown G2.out (fun b hb => by injection hb with hb; exact .inr hb.symm))))
  clear Y1 Q1 YH KH
  have KT : Hid (∀ W, Below v2.heap.size v2 W → Calls Try.prog 15 #[.agg #[.slice A1 i.cars.length c1, .slice A2 i.stops.length c2, .slice A3 i.pairs.length c3, .slice A4 i.travel.length c4], .int .i64 c, .slice A q.length cap] W fun e w' => RowsOut W w' e fun W => TRow W i c q) := fun W hB => tails_all _ _ i c q W ((Y2.out.below hB).now) hok hp ((Q2.out.below hB).now) (by omega)
  have SS : Hid (∀ W, Below v2.heap.size v2 W → W.cell? ⟨a, 0, none⟩ = some (.slice A1 i.cars.length c1) ∧ W.cell? ⟨a, 1, none⟩ = some (.slice A2 i.stops.length c2) ∧ W.cell? ⟨a, 2, none⟩ = some (.slice A3 i.pairs.length c3) ∧ W.cell? ⟨a, 3, none⟩ = some (.slice A4 i.travel.length c4) ∧ W.cell? ⟨a, 4, none⟩ = some (.int .i64 c)) := fun W hB => ⟨(B2.out.below hB).cell (j := 0) rfl, (B2.out.below hB).cell (j := 1) rfl, (B2.out.below hB).cell (j := 2) rfl, (B2.out.below hB).cell (j := 3) rfl, (B2.out.below hB).cell (j := 4) rfl⟩
  go_upto_region 2 with (fail)
  refine wp_region_z (S := (fun W => W.cell? ⟨a, 0, none⟩ = some (.slice A1 i.cars.length c1) ∧ W.cell? ⟨a, 1, none⟩ = some (.slice A2 i.stops.length c2) ∧ W.cell? ⟨a, 2, none⟩ = some (.slice A3 i.pairs.length c3) ∧ W.cell? ⟨a, 3, none⟩ = some (.slice A4 i.travel.length c4) ∧ W.cell? ⟨a, 4, none⟩ = some (.int .i64 c))) (z := 14) (by kernel_rfl) (SS.out _ (Below.refl v2.heap.size v2).drew) (fun hH => ?_)
  refine wpAnyZ_takeS (i := 0) (v := ?_) rfl (by kernel_rfl) (by kernel_rfl) (by kernel_rfl) (by kernel_rfl) (fun _ _ _ h => h) (gives_value (by rfl) ?_) (by assumption) ?_
  rotate_left
  · intro w hSw
    (try dsimp only at hSw)
    go_simp
    (try with_reducible rfl)
  (try simp only [Act.put, List.getElem_toArray, List.getElem_cons_succ, List.getElem_cons_zero, List.setIfInBounds_toArray, List.set_cons_zero, List.set_cons_succ])
  refine wpAnyZ_takeS (i := 1) (v := ?_) rfl (by kernel_rfl) (by kernel_rfl) (by kernel_rfl) (by kernel_rfl) (fun _ _ _ h => h) (gives_value (by rfl) ?_) (by assumption) ?_
  rotate_left
  · intro w hSw
    (try dsimp only at hSw)
    go_simp
    (try with_reducible rfl)
  (try simp only [Act.put, List.getElem_toArray, List.getElem_cons_succ, List.getElem_cons_zero, List.setIfInBounds_toArray, List.set_cons_zero, List.set_cons_succ])
  refine wpAnyZ_takeS (i := 2) (v := ?_) rfl (by kernel_rfl) (by kernel_rfl) (by kernel_rfl) (by kernel_rfl) (fun _ _ _ h => h) (gives_value (by rfl) ?_) (by assumption) ?_
  rotate_left
  · intro w hSw
    (try dsimp only at hSw)
    go_simp
    (try with_reducible rfl)
  (try simp only [Act.put, List.getElem_toArray, List.getElem_cons_succ, List.getElem_cons_zero, List.setIfInBounds_toArray, List.set_cons_zero, List.set_cons_succ])
  refine wpAnyZ_takeS (i := 3) (v := ?_) rfl (by kernel_rfl) (by kernel_rfl) (by kernel_rfl) (by kernel_rfl) (fun _ _ _ h => h) (gives_value (by rfl) ?_) (by assumption) ?_
  rotate_left
  · intro w hSw
    (try dsimp only at hSw)
    go_simp
    (try with_reducible rfl)
  (try simp only [Act.put, List.getElem_toArray, List.getElem_cons_succ, List.getElem_cons_zero, List.setIfInBounds_toArray, List.set_cons_zero, List.set_cons_succ])
  refine wpAnyZ_takeS (i := 4) (v := ?_) rfl (by kernel_rfl) (by kernel_rfl) (by kernel_rfl) (by kernel_rfl) (fun _ _ _ h => h) (gives_value (by rfl) ?_) (by assumption) ?_
  rotate_left
  · intro w hSw
    (try dsimp only at hSw)
    go_simp
    (try with_reducible rfl)
  (try simp only [Act.put, List.getElem_toArray, List.getElem_cons_succ, List.getElem_cons_zero, List.setIfInBounds_toArray, List.set_cons_zero, List.set_cons_succ])
  refine wpAnyZ_takeS (i := 5) (v := ?_) rfl (by kernel_rfl) (by kernel_rfl) (by kernel_rfl) (by kernel_rfl) (fun _ _ _ h => h) (gives_value (by rfl) ?_) (by assumption) ?_
  rotate_left
  · intro w hSw
    (try dsimp only at hSw)
    go_simp
    (try with_reducible rfl)
  (try simp only [Act.put, List.getElem_toArray, List.getElem_cons_succ, List.getElem_cons_zero, List.setIfInBounds_toArray, List.set_cons_zero, List.set_cons_succ])
  refine wpAnyZ_takeS (i := 6) (v := ?_) rfl (by kernel_rfl) (by kernel_rfl) (by kernel_rfl) (by kernel_rfl) (fun _ _ _ h => h) (gives_value (by rfl) ?_) (by assumption) ?_
  rotate_left
  · intro w hSw
    (try dsimp only at hSw)
    go_simp
    (try with_reducible rfl)
  (try simp only [Act.put, List.getElem_toArray, List.getElem_cons_succ, List.getElem_cons_zero, List.setIfInBounds_toArray, List.set_cons_zero, List.set_cons_succ])
  refine wpAnyZ_takeS (i := 7) (v := ?_) rfl (by kernel_rfl) (by kernel_rfl) (by kernel_rfl) (by kernel_rfl) (fun _ _ _ h => h) (gives_value (by rfl) ?_) (by assumption) ?_
  rotate_left
  · intro w hSw
    (try dsimp only at hSw)
    go_simp
    (try with_reducible rfl)
  (try simp only [Act.put, List.getElem_toArray, List.getElem_cons_succ, List.getElem_cons_zero, List.setIfInBounds_toArray, List.set_cons_zero, List.set_cons_succ])
  refine wpAnyZ_takeS (i := 8) (v := ?_) rfl (by kernel_rfl) (by kernel_rfl) (by kernel_rfl) (by kernel_rfl) (fun _ _ _ h => h) (gives_value (by rfl) ?_) (by assumption) ?_
  rotate_left
  · intro w hSw
    (try dsimp only at hSw)
    go_simp
    (try with_reducible rfl)
  (try simp only [Act.put, List.getElem_toArray, List.getElem_cons_succ, List.getElem_cons_zero, List.setIfInBounds_toArray, List.set_cons_zero, List.set_cons_succ])
  refine wpAnyZ_takeS (i := 9) (v := ?_) rfl (by kernel_rfl) (by kernel_rfl) (by kernel_rfl) (by kernel_rfl) (fun _ _ _ h => h) (gives_value (by rfl) ?_) (by assumption) ?_
  rotate_left
  · intro w hSw
    (try dsimp only at hSw)
    go_simp
    (try with_reducible rfl)
  (try simp only [Act.put, List.getElem_toArray, List.getElem_cons_succ, List.getElem_cons_zero, List.setIfInBounds_toArray, List.set_cons_zero, List.set_cons_succ])
  refine wpAnyZ_one (i := 10) (by kernel_rfl) ?_
  refine zstep rfl (fun K hK => ?_)
  go_simp
  (with_reducible refine (KT.out _ (Below.refl v2.heap.size v2).drew).mono ?_)
  rintro e w2 ⟨E2, n2, rfl, hy, hb⟩
  have HBw2 := Lib.hid (((Below.refl v2.heap.size v2).drew).trans hb)
  have YT := Lib.hid hy
  clear hy hb
  refine hK.out _ _ (fun _ => SS.out _ HBw2.out) (fun hH => ?_)
  replace hH := hH (by decide)
  clear hK K
  (try simp only [Act.put, List.getElem_toArray, List.getElem_cons_succ, List.getElem_cons_zero, List.setIfInBounds_toArray, List.set_cons_zero, List.set_cons_succ])
  refine wpAnyZ_takeS (i := 11) (v := ?_) rfl (by kernel_rfl) (by kernel_rfl) (by kernel_rfl) (by kernel_rfl) (fun _ _ _ h => h) (gives_value (by rfl) ?_) (by assumption) ?_
  rotate_left
  · intro w hSw
    (try dsimp only at hSw)
    go_simp
    (try with_reducible rfl)
  (try simp only [Act.put, List.getElem_toArray, List.getElem_cons_succ, List.getElem_cons_zero, List.setIfInBounds_toArray, List.set_cons_zero, List.set_cons_succ])
  refine wpAnyZ_takeS (i := 12) (v := ?_) rfl (by kernel_rfl) (by kernel_rfl) (by kernel_rfl) (by kernel_rfl) (fun _ _ _ h => h) (gives_value (by rfl) ?_) (by assumption) ?_
  rotate_left
  · intro w hSw
    (try dsimp only at hSw)
    go_simp
    (try with_reducible rfl)
  (try simp only [Act.put, List.getElem_toArray, List.getElem_cons_succ, List.getElem_cons_zero, List.setIfInBounds_toArray, List.set_cons_zero, List.set_cons_succ])
  refine wpAnyZ_one (i := 13) (by kernel_rfl) ?_
  refine zstep rfl (fun K hK => ?_)
  have B2x := Lib.hid (B2.out.below HBw2.out)
  have r0 := B2x.out.cell (j := 7) rfl
  have f0 := (B2x.out.2 7 (by simp)).2
  have hgz := B2x.out.1
  have B3 := Lib.hid (B2x.out.set (k := 7) (by simp) (.slice E2 n2 n2))
  simp only [List.set_cons_succ, List.set_cons_zero] at B3
  go_simp
  clear r0 f0 hgz B2x
  refine hK.out _ _ (fun _ => ⟨B3.out.cell (j := 0) rfl, B3.out.cell (j := 1) rfl, B3.out.cell (j := 2) rfl, B3.out.cell (j := 3) rfl, B3.out.cell (j := 4) rfl⟩) (fun hH => ?_)
  replace hH := hH (by decide)
  clear hK K
  (try simp only [Act.put, List.getElem_toArray, List.getElem_cons_succ, List.getElem_cons_zero, List.setIfInBounds_toArray, List.set_cons_zero, List.set_cons_succ])
  refine wpAnyZ_done (by kernel_rfl) ?_ _
  clear hH SS
  have G3 := Lib.hid (grown_set w2 a 7 (.slice E2 n2 n2))
  have hs3 : (w2.setCell ⟨a, 7, none⟩ (.slice E2 n2 n2)).heap.size = w2.heap.size := by simp
  generalize w2.setCell ⟨a, 7, none⟩ (.slice E2 n2 n2) = v3 at *
  have X23 : Hid (Ex 0 a v2 v3) := (Ex.of_below HBw2.out).trans (Ex.of_grown G3.out (fun b hb => by injection hb with hb; exact .inr hb.symm))
  have hz2 := HBw2.out.size
  have XL : Hid (Ex lo a v2 v3) := ⟨X23.out.size, fun b _ h2 h3 => X23.out.block b (Nat.zero_le _) h2 h3⟩
  have YT3 : Hid (Young lo a v3 fun W => TRow W i c q E2 n2) := Lib.hid ((((YT.out.both (a := a) (.inl (by rw [show v2.drew.heap.size = v2.heap.size from rfl]; omega)) (Below.refl _ _)).low (show lo ≤ v2.drew.heap.size by rw [show v2.drew.heap.size = v2.heap.size from rfl]; omega)).on (Ex.of_grown G3.out (fun b hb => by injection hb with hb; exact .inr hb.symm))))
  have HY : Hid (Young lo a v3 fun W => Said W A1 A2 A3 A4 c1 c2 c3 c4 i ∧ HT W i c q (.slice E1 n1 n1) (.slice E2 n2 n2)) := ((Y2.out.on XL.out).and ((YH2.out.on XL.out).and YT3.out)).imp fun W h => ⟨h.1, ht_mk h.2.1 h.2.2⟩
  have HG : Hid (w.grownBy v3 (some a)) := grown_trans (grown_trans (grown_trans G1.out (only_of_below HBw1.out _)) G2.out) (grown_trans (only_of_below HBw2.out _) G3.out)
  clear YT YH2 Y2 Q2 KT X12 X23 XL YT3
  go_wp2
  go_end0
  exact ⟨rfl, ⟨A1, A2, A3, A4, c1, c2, c3, c4, _, _, hlo, B3.out, HY.out⟩, HG.out⟩
set_option maxRecDepth 100000 in
set_option maxHeartbeats 4000000 in
theorem fnew_any (v : Value) (i : Prob) (c : Int) (q : List Int) (A : Option Addr) (cap : Nat) (w : World) (hv : Lies w v i) (hq : Recs w 1 num_ (.slice A q.length cap) q) (hok : probOk i = true) (hp : i.pairs.length ≤ 1000000) (hl : q.length ≤ 900) :
    Calls Try.prog 18 #[v, .int .i64 c, .slice A q.length cap] w fun e w' => ∃ a, e = .returned (.pointer (some ⟨a, 0, none⟩)) ∧ Tbl w.heap.size a i c q w' ∧ Below w.heap.size w w' := by
  obtain ⟨A1, A2, A3, A4, c1, c2, c3, c4, rfl, hs⟩ := hv.said
  have BX0 := Lib.hid (box_new hs 28)
  have HB0 := Lib.hid ((Below.refl w.heap.size w).alloc (Nat.le_refl _) (.cells #[.slice A1 i.cars.length c1, .slice A2 i.stops.length c2, .slice A3 i.pairs.length c3, .slice A4 i.travel.length c4] 28))
  have hsz : (w.alloc (.cells #[.slice A1 i.cars.length c1, .slice A2 i.stops.length c2, .slice A3 i.pairs.length c3, .slice A4 i.travel.length c4] 28)).heap.size = w.heap.size + 1 := by simp
  have QR := Lib.hid hq
  clear hs hv hq
  go_enter Try.func18, Try.ntmps18
  go_upto_region 1 with (fail)
  generalize w.alloc (.cells #[.slice A1 i.cars.length c1, .slice A2 i.stops.length c2, .slice A3 i.pairs.length c3, .slice A4 i.travel.length c4] 28) = wa at *
  have KC : Hid (Calls Try.prog 42 #[.agg #[.slice A1 i.cars.length c1, .slice A2 i.stops.length c2, .slice A3 i.pairs.length c3, .slice A4 i.travel.length c4]] wa (CopyIs i wa)) := copy_any _ i wa BX0.out.lies hok hp
  have k0 := BX0.out.b0
  have k1 := BX0.out.b1
  have k2 := BX0.out.b2
  have k3 := BX0.out.b3
  have hIz := BX0.out.lt
  go_wp2_with (go_at_call 42; fail)
  (with_reducible refine (KC.out).mono ?_)
  rintro e w1 ⟨D1, D2, D3, D4, d1, d2, d3, d4, rfl, hy, hb⟩
  have HB1 := Lib.hid (HB0.out.trans (hb.mono HB0.out.size))
  have YC := Lib.hid hy
  have hza : wa.heap.size ≤ w1.heap.size := hb.size
  clear hy hb k0 k1 k2 k3 hIz KC BX0
  go_upto_region 2 with (fail)
  have B2 := Lib.hid (blk_new w1 #[.slice D1 i.cars.length d1, .slice D2 i.stops.length d2, .slice D3 i.pairs.length d3, .slice D4 i.travel.length d4, .int .i64 c, .int .i64 0, .slice none 0 0, .slice none 0 0] 83)
  have HB2 : Hid (Below w.heap.size w (w1.alloc (.cells #[.slice D1 i.cars.length d1, .slice D2 i.stops.length d2, .slice D3 i.pairs.length d3, .slice D4 i.travel.length d4, .int .i64 c, .int .i64 0, .slice none 0 0, .slice none 0 0] 83))) := HB1.out.alloc HB1.out.size _
  have Y2 : Hid (Young wa.heap.size w1.heap.size (w1.alloc (.cells #[.slice D1 i.cars.length d1, .slice D2 i.stops.length d2, .slice D3 i.pairs.length d3, .slice D4 i.travel.length d4, .int .i64 c, .int .i64 0, .slice none 0 0, .slice none 0 0] 83)) fun W => Said W D1 D2 D3 D4 d1 d2 d3 d4 i) := YC.out.below ((Below.refl _ _).alloc (Nat.le_refl _) _)
  clear YC
  generalize w1.alloc (.cells #[.slice D1 i.cars.length d1, .slice D2 i.stops.length d2, .slice D3 i.pairs.length d3, .slice D4 i.travel.length d4, .int .i64 c, .int .i64 0, .slice none 0 0, .slice none 0 0] 83) = w2 at *
  have hwl : w.heap.size ≤ w1.heap.size := HB1.out.size
  generalize w1.heap.size = a at *
  have KS : Hid (Calls Try.prog 25 #[.pointer (some ⟨a, 0, none⟩), .slice A q.length cap] w2 fun e w' => e = .returned (.tuple #[]) ∧ Tbl w.heap.size a i c q w' ∧ w2.grownBy w' (some a)) :=
    fset_any w.heap.size a i c q A cap w2 ⟨D1, D2, D3, D4, d1, d2, d3, d4, _, _, _, hwl, B2.out, Y2.out.low (by omega)⟩ (recs_ahead QR.out hwl HB2.out) hok hp hl
  clear Y2 B2
  go_wp2_with (go_at_call 25; fail)
  (with_reducible refine (KS.out).mono ?_)
  rintro e w3 ⟨rfl, ht, hg⟩
  have HT3 := Lib.hid ht
  have HB3 := Lib.hid (HB2.out.grown hg HB2.out.size (fun k hk => by injection hk with hk; omega))
  clear ht hg KS
  go_wp2
  go_ret
  exact ⟨a, rfl, HT3.out, HB3.out⟩
end Go.Proofs.Ytkheepedjoimmaa
namespace Go.Proofs.Ytkheepedjoimmaa
open Go.RowKit
set_option linter.unusedSimpArgs false

def TblV (W : World) (a : Nat) (i : Prob) (c : Int) (r : List Int) : Prop := ∃ A1 A2 A3 A4 c1 c2 c3 c4 vh vt, TV W a A1 A2 A3 A4 c1 c2 c3 c4 i c r vh vt
theorem TblV.below {W W' : World} {a : Nat} {i : Prob} {c : Int} {r : List Int} (h : TblV W a i c r) (hb : Below W.heap.size W W') : TblV W' a i c r := by
  obtain ⟨A1, A2, A3, A4, c1, c2, c3, c4, vh, vt, h⟩ := h
  exact ⟨A1, A2, A3, A4, c1, c2, c3, c4, vh, vt, h.below hb⟩
theorem Tbl.view {lo a : Nat} {i : Prob} {c : Int} {r : List Int} {W : World} (h : Tbl lo a i c r W) : TblV W a i c r := h.tv
theorem meetV_form (o : Option Int) : ∃ mc mo, meetV o = .tuple #[.int .i64 mc, .bool mo] := by
  cases o with
  | none => exact ⟨0, false, rfl⟩
  | some x => exact ⟨x, true, rfl⟩
section
variable {a b : Nat} {i : Prob} {c : Int} {r q : List Int} {w : World} (hok : probOk i = true) (hp : i.pairs.length ≤ 1000000)
theorem Fwhole (h : TblV w a i c r) (hok : probOk i = true) (hp : i.pairs.length ≤ 1000000) (hr : r.length ≤ 900) : Calls Try.prog 21 #[.pointer (some ⟨a, 0, none⟩)] w fun e w' => e = .returned (meetV (meetC i c (headAt i c r 0) (tailAt i c r 0))) ∧ Below w.heap.size w w' := by
  obtain ⟨A1, A2, A3, A4, c1, c2, c3, c4, vh, vt, h⟩ := h
  exact fwhole_any a A1 A2 A3 A4 c1 c2 c3 c4 i c r vh vt w h hok hp hr
theorem Frem (p : Int) (h : TblV w a i c r) (hok : probOk i = true) (hp : i.pairs.length ≤ 1000000) (hr : r.length ≤ 900) : Calls Try.prog 24 #[.pointer (some ⟨a, 0, none⟩), .int .i64 p] w fun e w' => e = .returned (meetV (meetC i c (headAt i c r p) (tailAt i c r (wrap64 (p + 1))))) ∧ Below w.heap.size w w' := by
  obtain ⟨A1, A2, A3, A4, c1, c2, c3, c4, vh, vt, h⟩ := h
  exact frem_any a A1 A2 A3 A4 c1 c2 c3 c4 i c r vh vt p w h hok hp hr
theorem Fins (p s : Int) (h : TblV w a i c r) (hok : probOk i = true) (hp : i.pairs.length ≤ 1000000) (hr : r.length ≤ 900) : Calls Try.prog 23 #[.pointer (some ⟨a, 0, none⟩), .int .i64 p, .int .i64 s] w fun e w' => e = .returned (meetV (meetC i c (extC' i c (headAt i c r p) s) (tailAt i c r p))) ∧ Below w.heap.size w w' := by
  obtain ⟨A1, A2, A3, A4, c1, c2, c3, c4, vh, vt, h⟩ := h
  exact fins_any a A1 A2 A3 A4 c1 c2 c3 c4 i c r vh vt p s w h hok hp hr
theorem Fcross (p m : Int) (h : TblV w a i c r) (u : TblV w b i c q) (hok : probOk i = true) (hp : i.pairs.length ≤ 1000000) (hr : r.length ≤ 900) (hq : q.length ≤ 900) : Calls Try.prog 19 #[.pointer (some ⟨a, 0, none⟩), .int .i64 p, .pointer (some ⟨b, 0, none⟩), .int .i64 m] w fun e w' => e = .returned (meetV (meetC i c (headAt i c r p) (tailAt i c q m))) ∧ Below w.heap.size w w' := by
  obtain ⟨A1, A2, A3, A4, c1, c2, c3, c4, vh, vt, h⟩ := h
  obtain ⟨D1, D2, D3, D4, d1, d2, d3, d4, uh, ut, u⟩ := u
  exact fcross_any a A1 A2 A3 A4 c1 c2 c3 c4 i c r vh vt b D1 D2 D3 D4 d1 d2 d3 d4 q uh ut p m w h u hok hp hr hq
theorem Flen (h : TblV w a i c r) : Calls Try.prog 26 #[.pointer (some ⟨a, 0, none⟩)] w fun e w' => e = .returned (.int .i64 (r.length : Int)) ∧ w = w' := by
  obtain ⟨A1, A2, A3, A4, c1, c2, c3, c4, vh, vt, h⟩ := h
  exact flen_any a A1 A2 A3 A4 c1 c2 c3 c4 i c r vh vt w h
end
theorem trip_cost {W : World} {C : Nat} {ev : Option TripR} {A1 A2 : Option Addr} {n1 c1 n2 c2 : Nat} {cc hh mc : Int} {ok mo : Bool} (h : TripV W C ev A1 n1 c1 A2 n2 c2 cc hh ok) (hm : meetV (ev.map (·.cost)) = .tuple #[.int .i64 mc, .bool mo]) : ok = mo ∧ cc = mc ∧ (mo = false → mc = 0) := by
  cases ok with
  | false =>
    obtain ⟨e, _, _, _, _, _, _, e2, _⟩ := h.no rfl
    rw [e] at hm
    simp only [Option.map_none, meetV, Value.tuple.injEq, Array.mk.injEq, List.cons.injEq, Value.int.injEq, Value.bool.injEq, and_true, true_and] at hm
    exact ⟨hm.2, by rw [e2, hm.1], fun _ => hm.1.symm⟩
  | true =>
    obtain ⟨t, e, _, _, e2, _⟩ := h.yes rfl
    rw [e] at hm
    simp only [Option.map_some, meetV, Value.tuple.injEq, Array.mk.injEq, List.cons.injEq, Value.int.injEq, Value.bool.injEq, and_true, true_and] at hm
    exact ⟨hm.2, by rw [e2, hm.1], fun h => by rw [← hm.2] at h; cases h⟩
set_option maxRecDepth 100000 in
set_option maxHeartbeats 2000000 in
theorem right_any (A1 A2 A3 A4 : Option Addr) (c1 c2 c3 c4 : Nat) (u : Value) (i : Prob) (c : Int) (l : List Int) (mc : Int) (mo : Bool) (w : World) (hs : Said w A1 A2 A3 A4 c1 c2 c3 c4 i) (hok : probOk i = true) (hp : i.pairs.length ≤ 1000000) (hr : Recs w 1 num_ u l) (hl : l.length ≤ 100000) (hx : ∀ x ∈ l, -1000000 ≤ x ∧ x ≤ 1000000) (hm : meetV ((evalL i c l).map (·.cost)) = .tuple #[.int .i64 mc, .bool mo]) :
    Calls Try.prog 20 #[.agg #[.slice A1 i.cars.length c1, .slice A2 i.stops.length c2, .slice A3 i.pairs.length c3, .slice A4 i.travel.length c4], .int .i64 c, u, .int .i64 mc, .bool mo] w fun e w' => e = .returned (.bool true) ∧ Below w.heap.size w w' := by
  have BX0 := Lib.hid (box_new hs 28)
  have HB0 := Lib.hid ((Below.refl w.heap.size w).alloc (Nat.le_refl _) (.cells #[.slice A1 i.cars.length c1, .slice A2 i.stops.length c2, .slice A3 i.pairs.length c3, .slice A4 i.travel.length c4] 28))
  have HR := Lib.hid hr
  have HM := Lib.hid hm
  have HX := Lib.hid hx
  clear hs hr hm hx
  go_enter Try.func20, Try.ntmps20
  go_upto_region 1 with (fail)
  generalize w.alloc (.cells #[.slice A1 i.cars.length c1, .slice A2 i.stops.length c2, .slice A3 i.pairs.length c3, .slice A4 i.travel.length c4] 28) = wa at *
  have KE : Hid (Calls Try.prog 13 #[.agg #[.slice A1 i.cars.length c1, .slice A2 i.stops.length c2, .slice A3 i.pairs.length c3, .slice A4 i.travel.length c4], .int .i64 c, u] wa (TripIs wa (evalL i c l))) := refEval_any _ _ i c l wa BX0.out.lies hok hp (HR.out.below HB0.out) hl HX.out
  have k0 := BX0.out.b0
  have k1 := BX0.out.b1
  have k2 := BX0.out.b2
  have k3 := BX0.out.b3
  have hIz := BX0.out.lt
  go_wp2_with (go_at_call 13; fail)
  (with_reducible refine (KE.out).mono ?_)
  rintro e w3 hti
  obtain ⟨hb, D1, n1, d1, D2, n2, d2, cc, hh, ok, rfl, htv⟩ := hti.parts
  obtain ⟨q1, q2, q3⟩ := trip_cost htv HM.out
  subst q1 q2
  have HQ := Lib.hid q3
  have HB3 := Lib.hid (HB0.out.trans (hb.mono HB0.out.size))
  clear htv hti hb k0 k1 k2 k3 hIz KE HX HM q3
  have tcc : (cc == cc) = true := by simp
  cases ok
  · obtain rfl : cc = 0 := HQ.out rfl
    go_wp2
    go_ret
    exact ⟨rfl, HB3.out.alloc HB3.out.size _⟩
  · go_wp2
    go_ret
    exact ⟨rfl, HB3.out.alloc HB3.out.size _⟩
/-- a new row of these numbers -/
def NewRow (w : World) (l : List Int) (e : Ending) (w' : World) : Prop := ∃ A cap, e = .returned (.slice A l.length cap) ∧ l.length ≤ cap ∧ Young w.heap.size w'.heap.size w' (fun W => Recs W 1 num_ (.slice A l.length cap) l) ∧ Below w.heap.size w w'
theorem row_new {w w' : World} {v : Value} {l : List Int} (h : w'.ownsRow w.heap.size 3 1 v l.length (ints l)) (hb : Below w.heap.size w w') : NewRow w l (.returned v) w' := by
  obtain ⟨A, cap, rfl, hc, _, _⟩ := own_nums h
  refine ⟨A, cap, rfl, hc, (own_young h (fun e => ?_)).imp fun W' h' => ?_, hb⟩
  · have := (h.lt _ e).2; omega
  · obtain ⟨_, _, _, _, hr, _⟩ := own_nums h'
    exact hr
theorem ints_app' (a b : List Int) : ints a ++ ints b = ints (a ++ b) := by simp [ints]
theorem row_cat {w : World} {B : Nat} {v : Value} {a b : List Int} (h : w.ownsRow B 3 1 v (a.length + b.length) (ints a ++ ints b)) : w.ownsRow B 3 1 v (a ++ b).length (ints (a ++ b)) := by
  rw [List.length_append, ← ints_app']; exact h
set_option maxRecDepth 100000 in
set_option maxHeartbeats 4000000 in
theorem with_any (A : Option Addr) (cap : Nat) (l : List Int) (k : Nat) (s : Int) (w : World) (hr : Recs w 1 num_ (.slice A l.length cap) l) (hl : l.length ≤ 1000) (hc : l.length ≤ cap) (hk : k ≤ l.length) :
    Calls Try.prog 27 #[.slice A l.length cap, .int .i64 (k : Int), .int .i64 s] w (NewRow w (l.take k ++ s :: l.drop k)) := by
  obtain ⟨i0, hi0, hz0, hz1, hz2⟩ := info_parts int_info
  obtain ⟨A5, cap5, hsl1, hre1⟩ := slice_h A cap l hk hc
  obtain ⟨A6, cap6, hsl2, hre2⟩ := slice_l A cap l hk hc
  have SL1 := Lib.hid hsl1
  have SL2 := Lib.hid hsl2
  have RP : Hid (∀ W, Below w.heap.size w W → Recs W 1 num_ (.slice A5 (l.take k).length cap5) (l.take k) ∧ Recs W 1 num_ (.slice A6 (l.drop k).length cap6) (l.drop k)) := fun W hB => ⟨hre1 W (hr.below hB), hre2 W (hr.below hB)⟩
  have hx1 : (l.take k).length ≤ 1000 := by rw [List.length_take]; omega
  have hx2 : (l.drop k).length ≤ 1000 := by rw [List.length_drop]; omega
  clear hsl1 hsl2 hre1 hre2 hr
  generalize hX : l.take k = X at *
  generalize hY : l.drop k = Y at *
  clear hX hY
  go_enter Try.func27, Try.ntmps27
  go_upto_region 1 with (fail)
  refine wp_region_z (S := (fun _ => True)) (z := 12) (by kernel_rfl) trivial (fun hH => ?_)
  refine wpAnyZ_takeS (i := 0) (v := ?_) rfl (by kernel_rfl) (by kernel_rfl) (by kernel_rfl) (by kernel_rfl) (fun _ _ _ h => h) (gives_value (by rfl) ?_) (by assumption) ?_
  rotate_left
  · intro w hSw
    (try dsimp only at hSw)
    go_simp
    (try with_reducible rfl)
  (try simp only [Act.put, List.getElem_toArray, List.getElem_cons_succ, List.getElem_cons_zero, List.setIfInBounds_toArray, List.set_cons_zero, List.set_cons_succ])
  refine wpAnyZ_takeS (i := 1) (v := ?_) rfl (by kernel_rfl) (by kernel_rfl) (by kernel_rfl) (by kernel_rfl) (fun _ _ _ h => h) (gives_value (by rfl) ?_) (by assumption) ?_
  rotate_left
  · intro w hSw
    (try dsimp only at hSw)
    go_simp
    (try with_reducible rfl)
  (try simp only [Act.put, List.getElem_toArray, List.getElem_cons_succ, List.getElem_cons_zero, List.setIfInBounds_toArray, List.set_cons_zero, List.set_cons_succ])
  refine wpAnyZ_takeS (i := 2) (v := .slice A5 X.length cap5) rfl (by kernel_rfl) (by kernel_rfl) (by kernel_rfl) (by kernel_rfl) (fun _ _ _ h => h) (gives_value (by rfl) ?_) (by assumption) ?_
  · intro w hSw
    have q := SL1.out w
    clear hSw
    go_simp
  (try simp only [Act.put, List.getElem_toArray, List.getElem_cons_succ, List.getElem_cons_zero, List.setIfInBounds_toArray, List.set_cons_zero, List.set_cons_succ])
  refine wpAnyZ_takeS (i := 4) (v := ?_) rfl (by kernel_rfl) (by kernel_rfl) (by kernel_rfl) (by kernel_rfl) (fun _ _ _ h => h) (gives_value (by rfl) ?_) (by assumption) ?_
  rotate_left
  · intro w hSw
    (try dsimp only at hSw)
    go_simp
    (try with_reducible rfl)
  (try simp only [Act.put, List.getElem_toArray, List.getElem_cons_succ, List.getElem_cons_zero, List.setIfInBounds_toArray, List.set_cons_zero, List.set_cons_succ])
  refine wpAnyZ_takeS (i := 7) (v := ?_) rfl (by kernel_rfl) (by kernel_rfl) (by kernel_rfl) (by kernel_rfl) (fun _ _ _ h => h) (gives_value (by rfl) ?_) (by assumption) ?_
  rotate_left
  · intro w hSw
    (try dsimp only at hSw)
    go_simp
    (try with_reducible rfl)
  (try simp only [Act.put, List.getElem_toArray, List.getElem_cons_succ, List.getElem_cons_zero, List.setIfInBounds_toArray, List.set_cons_zero, List.set_cons_succ])
  refine wpAnyZ_takeS (i := 8) (v := ?_) rfl (by kernel_rfl) (by kernel_rfl) (by kernel_rfl) (by kernel_rfl) (fun _ _ _ h => h) (gives_value (by rfl) ?_) (by assumption) ?_
  rotate_left
  · intro w hSw
    (try dsimp only at hSw)
    go_simp
    (try with_reducible rfl)
  (try simp only [Act.put, List.getElem_toArray, List.getElem_cons_succ, List.getElem_cons_zero, List.setIfInBounds_toArray, List.set_cons_zero, List.set_cons_succ])
  refine wpAnyZ_takeS (i := 9) (v := .slice A6 Y.length cap6) rfl (by kernel_rfl) (by kernel_rfl) (by kernel_rfl) (by kernel_rfl) (fun _ _ _ h => h) (gives_value (by rfl) ?_) (by assumption) ?_
  · intro w hSw
    have q := SL2.out w
    clear hSw
    go_simp
  (try simp only [Act.put, List.getElem_toArray, List.getElem_cons_succ, List.getElem_cons_zero, List.setIfInBounds_toArray, List.set_cons_zero, List.set_cons_succ])
  refine wpAnyZ_two (i := 3) (j := 5) (by kernel_rfl) ?_ ?_
  · refine zstep rfl (fun K hK => ?_)
    refine step_append_any _ rfl (.const (.slice none 0 0)) (.tmp 9) 22 rfl w.heap.size 3 i0 _ 1 8 Try.underlying22 hi0 hz0 hz1 hz2 rfl (by decide) (.slice none 0 0) 0 [] (by rfl) ⟨rfl, .inl ⟨rfl, rfl⟩⟩ w.drew.heap.size A5 X.length cap5 (ints X) (by rfl) ((RP.out _ ((Below.refl w.heap.size w).drew)).1.reads) (ints_one _) (by unfold maxLen; omega) (by omega) ((Below.refl w.heap.size w).drew).size ?_
    intro v' w1 hown' hgrow hob
    rw [Nat.zero_add, List.nil_append] at hown'
    have HSw1 : Hid (Below w.drew.heap.size w.drew w1) := (Below.refl _ _).grown hgrow (Nat.le_refl _) (fun g hg => by cases hg)
    have HBw1 := Lib.hid (((Below.refl w.heap.size w).drew).trans (HSw1.out.mono ((Below.refl w.heap.size w).drew).size))
    have OW1 := Lib.hid hown'
    clear hown' hgrow hob
    refine hK.out _ _ (fun _ => trivial) (fun hH => ?_)
    replace hH := hH (by decide)
    clear hK K
    (try simp only [Act.put, List.getElem_toArray, List.getElem_cons_succ, List.getElem_cons_zero, List.setIfInBounds_toArray, List.set_cons_zero, List.set_cons_succ])
    refine wpAnyZ_one (i := 5) (by kernel_rfl) ?_
    refine zstep rfl (fun K hK => ?_)
    go_simp
    have HB2 : Hid (Below w.heap.size w (w1.alloc (.cells #[.int .i64 s] 3))) := HBw1.out.alloc HBw1.out.size _
    have OW2 : Hid ((w1.alloc (.cells #[.int .i64 s] 3)).ownsRow w.heap.size 3 1 v' X.length (ints X)) := OW1.out.alloc _
    have RN2 : Hid (Reads (w1.alloc (.cells #[.int .i64 s] 3)) (w1.heap.size + 1) 1 (some ⟨w1.heap.size, 0, none⟩) 1 (ints [s])) := reads_new w1 (ints [s]) 3
    refine hK.out _ _ (fun _ => trivial) (fun hH => ?_)
    replace hH := hH (by decide)
    clear hK K
    (try simp only [Act.put, List.getElem_toArray, List.getElem_cons_succ, List.getElem_cons_zero, List.setIfInBounds_toArray, List.set_cons_zero, List.set_cons_succ])
    refine wpAnyZ_one (i := 6) (by kernel_rfl) ?_
    refine zstep rfl (fun K hK => ?_)
    refine step_append_any _ rfl (.tmp 10) (.tmp 12) 22 rfl w.heap.size 3 i0 _ 1 8 Try.underlying22 hi0 hz0 hz1 hz2 rfl (by decide) v' X.length (ints X) (by rfl) (OW2.out) _ _ 1 1 (ints [s]) (by rfl) (RN2.out) (ints_one [s]) (by unfold maxLen; omega) (by omega) HB2.out.size ?_
    intro v2 w3a hown2 hgrow hob
    have HB3a := Lib.hid (HB2.out.grown hgrow HB2.out.size (fun g hg => (own_typed (OW2.out) hg).2))
    have OW3a := Lib.hid (row_cat (a := X) (b := [s]) hown2)
    clear hown2 hgrow hob
    refine hK.out _ _ (fun _ => trivial) (fun hH => ?_)
    replace hH := hH (by decide)
    clear hK K
    (try simp only [Act.put, List.getElem_toArray, List.getElem_cons_succ, List.getElem_cons_zero, List.setIfInBounds_toArray, List.set_cons_zero, List.set_cons_succ])
    refine wpAnyZ_one (i := 10) (by kernel_rfl) ?_
    refine zstep rfl (fun K hK => ?_)
    refine step_append_any _ rfl (.tmp 13) (.tmp 16) 22 rfl w.heap.size 3 i0 _ 1 8 Try.underlying22 hi0 hz0 hz1 hz2 rfl (by decide) v2 (X ++ [s]).length (ints (X ++ [s])) (by rfl) OW3a.out _ A6 Y.length cap6 (ints Y) (by rfl) (RP.out _ HB3a.out).2.reads (ints_one Y) (by unfold maxLen; simp; omega) (by simp; omega) HB3a.out.size ?_
    intro v3 w4a hown3 hgrow hob
    have HB4a := Lib.hid (HB3a.out.grown hgrow HB3a.out.size (fun g hg => (own_typed OW3a.out hg).2))
    have OW4a := Lib.hid (row_cat hown3)
    clear hown3 hgrow hob
    obtain ⟨ao, n', cp', rfl⟩ := own_slice OW4a.out
    refine hK.out _ _ (fun _ => trivial) (fun hH => ?_)
    replace hH := hH (by decide)
    clear hK K
    (try simp only [Act.put, List.getElem_toArray, List.getElem_cons_succ, List.getElem_cons_zero, List.setIfInBounds_toArray, List.set_cons_zero, List.set_cons_succ])
    refine wpAnyZ_takeS (i := 11) (v := ?_) rfl (by kernel_rfl) (by kernel_rfl) (by kernel_rfl) (by kernel_rfl) (fun _ _ _ h => h) (gives_value (by rfl) ?_) (by assumption) ?_
    rotate_left
    · intro w hSw
      (try dsimp only at hSw)
      go_simp
      (try with_reducible rfl)
    (try simp only [Act.put, List.getElem_toArray, List.getElem_cons_succ, List.getElem_cons_zero, List.setIfInBounds_toArray, List.set_cons_zero, List.set_cons_succ])
    refine wpAnyZ_done (by kernel_rfl) ?_ _
    clear hH
    go_wp2
    go_ret
    rw [show X ++ s :: Y = X ++ [s] ++ Y by simp]
    exact row_new OW4a.out HB4a.out
  · refine zstep rfl (fun K hK => ?_)
    go_simp
    have HB2 : Hid (Below w.heap.size w (w.alloc (.cells #[.int .i64 s] 3)).drew) := ((Below.refl _ _).alloc (Nat.le_refl _) _).drew
    have RN2 : Hid (Reads (w.alloc (.cells #[.int .i64 s] 3)).drew (w.heap.size + 1) 1 (some ⟨w.heap.size, 0, none⟩) 1 (ints [s])) := reads_new w (ints [s]) 3
    have hz2' : (w.alloc (.cells #[.int .i64 s] 3)).drew.heap.size = w.heap.size + 1 := by simp
    refine hK.out _ _ (fun _ => trivial) (fun hH => ?_)
    replace hH := hH (by decide)
    clear hK K
    (try simp only [Act.put, List.getElem_toArray, List.getElem_cons_succ, List.getElem_cons_zero, List.setIfInBounds_toArray, List.set_cons_zero, List.set_cons_succ])
    generalize (w.alloc (.cells #[.int .i64 s] 3)).drew = w2 at *
    refine wpAnyZ_one (i := 3) (by kernel_rfl) ?_
    refine zstep rfl (fun K hK => ?_)
    refine step_append_any _ rfl (.const (.slice none 0 0)) (.tmp 9) 22 rfl w.heap.size 3 i0 _ 1 8 Try.underlying22 hi0 hz0 hz1 hz2 rfl (by decide) (.slice none 0 0) 0 [] (by rfl) ⟨rfl, .inl ⟨rfl, rfl⟩⟩ w2.heap.size A5 X.length cap5 (ints X) (by rfl) ((RP.out _ HB2.out).1.reads) (ints_one _) (by unfold maxLen; omega) (by omega) HB2.out.size ?_
    intro v' w5 hown' hgrow hob
    rw [Nat.zero_add, List.nil_append] at hown'
    have HSw5 : Hid (Below w2.heap.size w2 w5) := (Below.refl _ _).grown hgrow (Nat.le_refl _) (fun g hg => by cases hg)
    have HBw5 := Lib.hid (HB2.out.trans (HSw5.out.mono HB2.out.size))
    have OW5 := Lib.hid hown'
    clear hown' hgrow hob
    refine hK.out _ _ (fun _ => trivial) (fun hH => ?_)
    replace hH := hH (by decide)
    clear hK K
    (try simp only [Act.put, List.getElem_toArray, List.getElem_cons_succ, List.getElem_cons_zero, List.setIfInBounds_toArray, List.set_cons_zero, List.set_cons_succ])
    have RN5 : Hid (Reads w5 (w.heap.size + 1) 1 (some ⟨w.heap.size, 0, none⟩) 1 (ints [s])) := RN2.out.below (HSw5.out.mono (by omega))
    refine wpAnyZ_one (i := 6) (by kernel_rfl) ?_
    refine zstep rfl (fun K hK => ?_)
    refine step_append_any _ rfl (.tmp 10) (.tmp 12) 22 rfl w.heap.size 3 i0 _ 1 8 Try.underlying22 hi0 hz0 hz1 hz2 rfl (by decide) v' X.length (ints X) (by rfl) (OW5.out) _ _ 1 1 (ints [s]) (by rfl) (RN5.out) (ints_one [s]) (by unfold maxLen; omega) (by omega) HBw5.out.size ?_
    intro v2 w3b hown2 hgrow hob
    have HB3b := Lib.hid (HBw5.out.grown hgrow HBw5.out.size (fun g hg => (own_typed (OW5.out) hg).2))
    have OW3b := Lib.hid (row_cat (a := X) (b := [s]) hown2)
    clear hown2 hgrow hob
    refine hK.out _ _ (fun _ => trivial) (fun hH => ?_)
    replace hH := hH (by decide)
    clear hK K
    (try simp only [Act.put, List.getElem_toArray, List.getElem_cons_succ, List.getElem_cons_zero, List.setIfInBounds_toArray, List.set_cons_zero, List.set_cons_succ])
    refine wpAnyZ_one (i := 10) (by kernel_rfl) ?_
    refine zstep rfl (fun K hK => ?_)
    refine step_append_any _ rfl (.tmp 13) (.tmp 16) 22 rfl w.heap.size 3 i0 _ 1 8 Try.underlying22 hi0 hz0 hz1 hz2 rfl (by decide) v2 (X ++ [s]).length (ints (X ++ [s])) (by rfl) OW3b.out _ A6 Y.length cap6 (ints Y) (by rfl) (RP.out _ HB3b.out).2.reads (ints_one Y) (by unfold maxLen; simp; omega) (by simp; omega) HB3b.out.size ?_
    intro v3 w4b hown3 hgrow hob
    have HB4b := Lib.hid (HB3b.out.grown hgrow HB3b.out.size (fun g hg => (own_typed OW3b.out hg).2))
    have OW4b := Lib.hid (row_cat hown3)
    clear hown3 hgrow hob
    obtain ⟨ao, n', cp', rfl⟩ := own_slice OW4b.out
    refine hK.out _ _ (fun _ => trivial) (fun hH => ?_)
    replace hH := hH (by decide)
    clear hK K
    (try simp only [Act.put, List.getElem_toArray, List.getElem_cons_succ, List.getElem_cons_zero, List.setIfInBounds_toArray, List.set_cons_zero, List.set_cons_succ])
    refine wpAnyZ_takeS (i := 11) (v := ?_) rfl (by kernel_rfl) (by kernel_rfl) (by kernel_rfl) (by kernel_rfl) (fun _ _ _ h => h) (gives_value (by rfl) ?_) (by assumption) ?_
    rotate_left
    · intro w hSw
      (try dsimp only at hSw)
      go_simp
      (try with_reducible rfl)
    (try simp only [Act.put, List.getElem_toArray, List.getElem_cons_succ, List.getElem_cons_zero, List.setIfInBounds_toArray, List.set_cons_zero, List.set_cons_succ])
    refine wpAnyZ_done (by kernel_rfl) ?_ _
    clear hH
    go_wp2
    go_ret
    rw [show X ++ s :: Y = X ++ [s] ++ Y by simp]
    exact row_new OW4b.out HB4b.out
set_option maxRecDepth 100000 in
set_option maxHeartbeats 4000000 in
theorem wakes6_any (w : World) : Calls Try.prog 22 #[] w fun e w' => e = .returned (.bool true) ∧ Below w.heap.size w w' := by
  have HL := Lib.hid (wake5_lies (w := ((w.alloc (.cells #[.int .i64 0, .int .i64 0, .int .i64 5] 52)).alloc (.cells #[.int .i64 0] 3)).alloc (.cells #[.slice (some ⟨w.heap.size + 1, 0, none⟩) 1 1] 22)) (S := w.heap.size) (((blk_at _ _ rfl).alloc _).alloc _) ((blk_at _ _ (by simp)).alloc _) (blk_at _ _ (by simp)))
  have HB0 := Lib.hid ((((Below.refl _ _).alloc (Nat.le_refl _) (.cells #[.int .i64 0, .int .i64 0, .int .i64 5] 52)).alloc (by simp) (.cells #[.int .i64 0] 3)).alloc (by simp; omega) (.cells #[.slice (some ⟨w.heap.size + 1, 0, none⟩) 1 1] 22) : Below w.heap.size w _)
  have KN : Hid (Calls Try.prog 18 #[.agg #[.slice (some ⟨w.heap.size, 0, none⟩) 1 1, .slice none 0 0, .slice none 0 0, .slice (some ⟨w.heap.size + 1 + 1, 0, none⟩) 1 1], .int .i64 0, .slice none 0 0] (((w.alloc (.cells #[.int .i64 0, .int .i64 0, .int .i64 5] 52)).alloc (.cells #[.int .i64 0] 3)).alloc (.cells #[.slice (some ⟨w.heap.size + 1, 0, none⟩) 1 1] 22)) fun e w' => ∃ a, e = .returned (.pointer (some ⟨a, 0, none⟩)) ∧ Tbl (((w.alloc (.cells #[.int .i64 0, .int .i64 0, .int .i64 5] 52)).alloc (.cells #[.int .i64 0] 3)).alloc (.cells #[.slice (some ⟨w.heap.size + 1, 0, none⟩) 1 1] 22)).heap.size a wakeP5 0 [] w' ∧ Below (((w.alloc (.cells #[.int .i64 0, .int .i64 0, .int .i64 5] 52)).alloc (.cells #[.int .i64 0] 3)).alloc (.cells #[.slice (some ⟨w.heap.size + 1, 0, none⟩) 1 1] 22)).heap.size (((w.alloc (.cells #[.int .i64 0, .int .i64 0, .int .i64 5] 52)).alloc (.cells #[.int .i64 0] 3)).alloc (.cells #[.slice (some ⟨w.heap.size + 1, 0, none⟩) 1 1] 22)) w') := fnew_any _ wakeP5 0 [] none 0 _ HL.out Recs.nil rfl (by decide) (by decide)
  go_enter Try.func22, Try.ntmps22
  go_wp2_with (go_at_call 18; fail)
  generalize ((w.alloc (.cells #[.int .i64 0, .int .i64 0, .int .i64 5] 52)).alloc (.cells #[.int .i64 0] 3)).alloc (.cells #[.slice (some ⟨w.heap.size + 1, 0, none⟩) 1 1] 22) = w0 at *
  (with_reducible refine (KN.out).mono ?_)
  rintro e w1 ⟨a, rfl, ht, hb⟩
  have TA := Lib.hid ht.view
  have HB1 := Lib.hid (HB0.out.trans (hb.mono HB0.out.size))
  clear ht hb KN HL
  have KW : Hid (∀ W, Below w1.heap.size w1 W → Calls Try.prog 21 #[.pointer (some ⟨a, 0, none⟩)] W fun e w' => e = .returned (.tuple #[.int .i64 0, .bool true]) ∧ Below W.heap.size W w') := fun W hB => by
    have := Fwhole (TA.out.below hB) rfl (by decide) (by decide)
    rw [show meetC wakeP5 0 (headAt wakeP5 0 [] 0) (tailAt wakeP5 0 [] 0) = some 0 by decide] at this
    exact this
  go_wp2_with (go_at_call 21; fail)
  (with_reducible refine (KW.out _ (Below.refl _ _)).mono ?_)
  rintro e w2 ⟨rfl, hb⟩
  have KL := Lib.hid (Flen (TA.out.below hb))
  have HB2 := Lib.hid (HB1.out.trans (hb.mono HB1.out.size))
  clear hb KW
  go_wp2_with (go_at_call 26; fail)
  (with_reducible refine (KL.out).mono ?_)
  rintro e w3 ⟨rfl, rfl⟩
  go_wp2
  go_ret
  exact ⟨rfl, HB2.out⟩
end Go.Proofs.Ytkheepedjoimmaa
