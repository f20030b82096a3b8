/- tab.Heads: what it answers. -/
import Derived.Test.YtgkieelacjcopaaZ13
import Derived.Test.YtgkieelacjcopaaZ08
namespace Go.Proofs.Ytgkieelacjcopaa
open Go.RowKit
set_option linter.unusedSimpArgs false

theorem pheads_info : (Try.prog.info? 35).map (fun i => (i.zero, i.size, i.bytes)) = some (some (.agg #[.bool false, .int .i64 0, .int .i64 0, .int .i64 0, .int .u32 0, .int .u32 0, .int .i64 0]), 7, 48) := by kernel_rfl
set_option maxRecDepth 100000 in
set_option maxHeartbeats 8000000 in
theorem pheads_walk (u : Value) (i : Prob) (cn : Nat) (cap st en : Int) (l : List Int) (w : World) (B3 o3 : Nat) (A2 A3 A4 : Option Addr) (c1 c2 c3 c4 : Nat) (hs : Said w (some ⟨B3, o3, none⟩) A2 A3 A4 c1 c2 c3 c4 i) (hr : Recs w 1 num_ u l) (hl : l.length ≤ 1000) (hcn : cn < i.cars.length) (hB3 : B3 < w.heap.size) (e0 : w.cell? ⟨B3, o3 + cn * 3, none⟩ = some (.int .i64 cap)) (e1 : w.cell? ⟨B3, o3 + cn * 3 + 1, none⟩ = some (.int .i64 st)) (e2 : w.cell? ⟨B3, o3 + cn * 3 + 2, none⟩ = some (.int .i64 en))
    (KC : ∀ W, Below w.heap.size w W → Calls Try.prog 26 #[.agg #[.slice (some ⟨B3, o3, none⟩) i.cars.length c1, .slice A2 i.stops.length c2, .slice A3 i.pairs.length c3, .slice A4 i.travel.length c4], .int .i64 cn] W fun e w' => e = .returned (.bool true) ∧ Below W.heap.size W w')
    (KB : ∀ W, Below w.heap.size w W → Calls Try.prog 27 #[.agg #[.int .i64 cap, .int .i64 st, .int .i64 en]] W fun e w' => e = .returned (headV (headL i cn (l.take 0))) ∧ Below W.heap.size W w')
    (KX : ∀ (k : Nat) (hk : k < l.length) (W : World), Below w.heap.size w W → Calls Try.prog 28 #[.agg #[.slice (some ⟨B3, o3, none⟩) i.cars.length c1, .slice A2 i.stops.length c2, .slice A3 i.pairs.length c3, .slice A4 i.travel.length c4], .agg #[.int .i64 cap, .int .i64 st, .int .i64 en], headV (headL i cn (l.take k)), .int .i64 l[k]] W fun e w' => e = .returned (headV (headL i cn (l.take (k + 1)))) ∧ Below W.heap.size W w') :
    Calls Try.prog 10 #[.agg #[.slice (some ⟨B3, o3, none⟩) i.cars.length c1, .slice A2 i.stops.length c2, .slice A3 i.pairs.length c3, .slice A4 i.travel.length c4], .int .i64 cn, u] w fun e w' => ∃ g, e = .returned (.slice (some ⟨g, 0, none⟩) (l.length + 1) (l.length + 1)) ∧ w.heap.size ≤ g ∧ RowC w' g 7 (fun k => headC (headL i cn (l.take k))) (l.length + 1) ∧ Below w.heap.size w w' := by
  obtain ⟨A, cpp, rfl, hcell⟩ := hr.num
  have HCE := Lib.hid hcell
  have BX0 := Lib.hid (box_new hs 27)
  have HB0 := Lib.hid ((Below.refl w.heap.size w).alloc (Nat.le_refl _) (.cells #[.slice (some ⟨B3, o3, none⟩) i.cars.length c1, .slice A2 i.stops.length c2, .slice A3 i.pairs.length c3, .slice A4 i.travel.length c4] 27))
  have KC := Lib.hid KC
  have KB := Lib.hid KB
  have KX := Lib.hid KX
  have e0' := Lib.hid e0
  have e1' := Lib.hid e1
  have e2' := Lib.hid e2
  have hmk := Lib.hid (fun W => make_row1 (S := 29) (E := 35) #[.bool false, .int .i64 0, .int .i64 0, .int .i64 0, .int .u32 0, .int .u32 0, .int .i64 0] rfl Try.underlying29 pheads_info (by omega) l.length (by omega) W)
  clear hs hr hcell e0 e1 e2
  go_enter Try.func10, Try.ntmps10
  go_upto_region 1 with (fail)
  have hwz : w.heap.size < (w.alloc (.cells #[.slice (some ⟨B3, o3, none⟩) i.cars.length c1, .slice A2 i.stops.length c2, .slice A3 i.pairs.length c3, .slice A4 i.travel.length c4] 27)).heap.size := by simp
  generalize w.alloc (.cells #[.slice (some ⟨B3, o3, none⟩) i.cars.length c1, .slice A2 i.stops.length c2, .slice A3 i.pairs.length c3, .slice A4 i.travel.length c4] 27) = wa at *
  have k0 := BX0.out.b0
  have k1 := BX0.out.b1
  have k2 := BX0.out.b2
  have k3 := BX0.out.b3
  have hIz := BX0.out.lt
  go_wp2_with (go_at_call 26; fail)
  (with_reducible refine (KC.out _ HB0.out).mono ?_)
  rintro e w1 ⟨rfl, hb1⟩
  have HB1 := Lib.hid (HB0.out.trans (hb1.mono HB0.out.size))
  have BX1 := Lib.hid (BX0.out.below hb1)
  clear hb1 k0 k1 k2 k3 hIz KC BX0 HB0
  have SS1 : Hid (∀ W, Below w1.heap.size w1 W → W.cell? ⟨w.heap.size, 0, none⟩ = some (.slice (some ⟨B3, o3, none⟩) i.cars.length c1) ∧ W.cell? ⟨w.heap.size, 1, none⟩ = some (.slice A2 i.stops.length c2) ∧ W.cell? ⟨w.heap.size, 2, none⟩ = some (.slice A3 i.pairs.length c3) ∧ W.cell? ⟨w.heap.size, 3, none⟩ = some (.slice A4 i.travel.length c4) ∧ W.cell? ⟨B3, o3 + cn * 3, none⟩ = some (.int .i64 cap) ∧ W.cell? ⟨B3, o3 + cn * 3 + 1, none⟩ = some (.int .i64 st) ∧ W.cell? ⟨B3, o3 + cn * 3 + 2, none⟩ = some (.int .i64 en)) := fun W hB =>
    have hB' : Below w.heap.size w W := HB1.out.trans (hB.mono HB1.out.size)
    ⟨(BX1.out.below hB).b0, (BX1.out.below hB).b1, (BX1.out.below hB).b2, (BX1.out.below hB).b3, cell_up hB' hB3 e0'.out, cell_up hB' hB3 e1'.out, cell_up hB' hB3 e2'.out⟩
  have hw1 : IntKind.i64.wrap ((l.length : Int) + 1) = (l.length : Int) + 1 := IntWalk.i64_in _ (by omega)
  have hmk1 := hmk.out w1
  go_upto_region 4 with (fail)
  have HB2 := Lib.hid ((Below.refl w1.heap.size w1).alloc (Nat.le_refl _) (.cells (madeCells #[.bool false, .int .i64 0, .int .i64 0, .int .i64 0, .int .u32 0, .int .u32 0, .int .i64 0] ((l.length + 1) * 7)) 35))
  have BG0 := Lib.hid (blk_new w1 (madeCells #[.bool false, .int .i64 0, .int .i64 0, .int .i64 0, .int .u32 0, .int .u32 0, .int .i64 0] ((l.length + 1) * 7)) 35)
  have hxl : (madeCells #[.bool false, .int .i64 0, .int .i64 0, .int .i64 0, .int .u32 0, .int .u32 0, .int .i64 0] ((l.length + 1) * 7)).toList.length = (l.length + 1) * 7 := made_len _ _
  clear hmk hmk1
  generalize w1.alloc (.cells (madeCells #[.bool false, .int .i64 0, .int .i64 0, .int .i64 0, .int .u32 0, .int .u32 0, .int .i64 0] ((l.length + 1) * 7)) 35) = w2 at *
  generalize (madeCells #[.bool false, .int .i64 0, .int .i64 0, .int .i64 0, .int .u32 0, .int .u32 0, .int .i64 0] ((l.length + 1) * 7)).toList = xs0 at *
  have hgw : w1.heap.size ≤ w1.heap.size := Nat.le_refl _
  generalize hgg : w1.heap.size = g at hgw BG0 ⊢
  obtain ⟨k0, k1, k2, k3, e0, e1, e2⟩ := SS1.out w2 HB2.out
  have hIz := (BX1.out.below HB2.out).lt
  have n0 : (0 : Int) ≤ (cn : Int) := by omega
  have n1 : (cn : Int) < (i.cars.length : Int) := by omega
  have n2 : (cn : Int).toNat = cn := by omega
  have hB3z : B3 < w2.heap.size := Nat.lt_of_lt_of_le hB3 (HB1.out.trans (HB2.out.mono HB1.out.size)).size
  go_wp2_with (go_at_call 27; fail)
  (with_reducible refine (KB.out _ (HB1.out.trans (HB2.out.mono HB1.out.size))).mono ?_)
  rintro e w3 ⟨rfl, hb3⟩
  have HB3 := Lib.hid (HB2.out.trans (hb3.mono HB2.out.size))
  have BG3 := Lib.hid (BG0.out.below hb3)
  clear hb3 k0 k1 k2 k3 e0 e1 e2 hIz hB3z BG0 HB2 KB
  obtain ⟨y0, y1, y2, y3, y4, y5, y6, hyV, hyC⟩ := head_form (headL i cn (l.take 0))
  rw [hyV]
  have HYC := Lib.hid hyC
  clear hyV hyC
  have hp0 : 0 * 7 + 7 ≤ xs0.length := by rw [hxl]; omega
  have hpz : 0 + 7 ≤ xs0.length := by omega
  have f0 := (BG3.out.2 (0) (by omega)).2
  have r0 := (BG3.out.2 (0) (by omega)).1
  have f1 := (BG3.out.2 (0 + 1) (by omega)).2
  have r1 := (BG3.out.2 (0 + 1) (by omega)).1
  have f2 := (BG3.out.2 (0 + 2) (by omega)).2
  have r2 := (BG3.out.2 (0 + 2) (by omega)).1
  have f3 := (BG3.out.2 (0 + 3) (by omega)).2
  have r3 := (BG3.out.2 (0 + 3) (by omega)).1
  have f4 := (BG3.out.2 (0 + 4) (by omega)).2
  have r4 := (BG3.out.2 (0 + 4) (by omega)).1
  have f5 := (BG3.out.2 (0 + 5) (by omega)).2
  have r5 := (BG3.out.2 (0 + 5) (by omega)).1
  have f6 := (BG3.out.2 (0 + 6) (by omega)).2
  have r6 := (BG3.out.2 (0 + 6) (by omega)).1
  have hgz := BG3.out.1
  have BG4 := Lib.hid (blk_put7 BG3.out hpz (.bool y0) (.int .i64 y1) (.int .i64 y2) (.int .i64 y3) (.int .u32 y4) (.int .u32 y5) (.int .i64 y6))
  have HB4 := Lib.hid (below_put7 HB3.out (g := g) (by omega) (0) (.bool y0) (.int .i64 y1) (.int .i64 y2) (.int .i64 y3) (.int .u32 y4) (.int .u32 y5) (.int .i64 y6))
  have HD0 : Hid (Holds (putAt xs0 (0) [.bool y0, .int .i64 y1, .int .i64 y2, .int .i64 y3, .int .u32 y4, .int .u32 y5, .int .i64 y6]) 7 (fun k => headC (headL i cn (l.take k))) (fun q => False ∨ q = 0)) := by
    show Holds _ _ _ _
    have := holds_put (xs := xs0) (m := 7) (n := l.length + 1) (f := fun k => headC (headL i cn (l.take k))) (P := fun _ => False) (fun _ h => h.elim) hxl (fun k => headC_len _) (k := 0) (by omega)
    simp only [HYC.out] at this
    rw [Nat.zero_mul] at this; exact this
  have m0 : (0 : Int) ≤ (l.length : Int) := by omega
  have m1 : (l.length : Int) < ((l.length + 1 : Nat) : Int) := by omega
  have m1' : (l.length : Int) < (l.length : Int) + 1 := by omega
  have m2 : (l.length : Int).toNat = l.length := by omega
  have m3 : (0 : Int) < (l.length : Int) + 1 := by omega
  go_wp2
  clear f0 r0 f1 r1 f2 r2 f3 r3 f4 r4 f5 r5 f6 r6 hgz m0 m1 m1' m2 m3 BG3 HB3
  go_loopw [28] (fun kv wr => ∃ (k : Nat) (xs : List Value), k ≤ l.length ∧ kv = .int .i64 k ∧ Blk wr g xs ∧ xs.length = (l.length + 1) * 7 ∧ Holds xs 7 (fun k => headC (headL i cn (l.take k))) (fun q => q ≤ k) ∧ Below w1.heap.size w1 wr) (fun kv _ => l.length - (intOf kv).toNat)
  case atStart => exact ⟨0, _, by omega, rfl, BG4.out, by rw [putAt_len, hxl], fun q hq => HD0.out q (.inr (by omega)), HB4.out⟩
  case round =>
    obtain ⟨k, xs, hk, rfl, hbg, hlen, hold, hbr⟩ := hrel
    have BG := Lib.hid hbg
    have HLD := Lib.hid hold
    have HBr := Lib.hid hbr
    have HBW : Hid (Below w.heap.size w wr) := HB1.out.trans (hbr.mono HB1.out.size)
    clear hbg hold hbr BG4 HB4 HD0
    by_cases hlt : k < l.length
    · have hkl : k < l.length := hlt
      obtain ⟨B, o, rfl, hB, hx⟩ := HCE.out k hkl
      have d0 : wr.cell? ⟨B, o + k, none⟩ = some (.int .i64 l[k]) := cell_up HBW.out hB hx
      have hBz := Nat.lt_of_lt_of_le hB HBW.out.size
      obtain ⟨x0, x1, x2, x3, x4, x5, x6, hxV, hxC⟩ := head_form (headL i cn (l.take k))
      obtain ⟨y0', y1', y2', y3', y4', y5', y6', hyV, hyC⟩ := head_form (headL i cn (l.take (k + 1)))
      have KE : Hid (∀ W, Below w.heap.size w W → Calls Try.prog 28 #[.agg #[.slice (some ⟨B3, o3, none⟩) i.cars.length c1, .slice A2 i.stops.length c2, .slice A3 i.pairs.length c3, .slice A4 i.travel.length c4], .agg #[.int .i64 cap, .int .i64 st, .int .i64 en], .agg #[.bool x0, .int .i64 x1, .int .i64 x2, .int .i64 x3, .int .u32 x4, .int .u32 x5, .int .i64 x6], .int .i64 l[k]] W fun e w' => e = .returned (.agg #[.bool y0', .int .i64 y1', .int .i64 y2', .int .i64 y3', .int .u32 y4', .int .u32 y5', .int .i64 y6']) ∧ Below W.heap.size W w') := fun W hB => by
        have := KX.out k hkl W hB
        rw [hxV, hyV] at this; exact this
      have HYC' := Lib.hid hyC
      have hw2 : k * 7 + 7 ≤ xs.length := by rw [hlen]; omega
      have hw3 : (k + 1) * 7 + 7 ≤ xs.length := by rw [hlen]; omega
      have hrow : ∀ j u, j < 7 → [.bool x0, .int .i64 x1, .int .i64 x2, .int .i64 x3, .int .u32 x4, .int .u32 x5, .int .i64 x6][j]? = some u → xs[k * 7 + j]? = some u := fun j u hj hu => by
        rw [HLD.out k (by omega) j hj]
        show (headC (headL i cn (l.take k)))[j]? = some u
        rw [hxC]; exact hu
      have cc0 := blk_cell BG.out (hrow 0 _ (by omega) rfl)
      have cc1 := blk_cell BG.out (hrow 1 _ (by omega) rfl)
      have cc2 := blk_cell BG.out (hrow 2 _ (by omega) rfl)
      have cc3 := blk_cell BG.out (hrow 3 _ (by omega) rfl)
      have cc4 := blk_cell BG.out (hrow 4 _ (by omega) rfl)
      have cc5 := blk_cell BG.out (hrow 5 _ (by omega) rfl)
      have cc6 := blk_cell BG.out (hrow 6 _ (by omega) rfl)
      try rw [Nat.add_zero] at cc0
      have SS : Hid (∀ W, Below wr.heap.size wr W → W.cell? ⟨w.heap.size, 0, none⟩ = some (.slice (some ⟨B3, o3, none⟩) i.cars.length c1) ∧ W.cell? ⟨w.heap.size, 1, none⟩ = some (.slice A2 i.stops.length c2) ∧ W.cell? ⟨w.heap.size, 2, none⟩ = some (.slice A3 i.pairs.length c3) ∧ W.cell? ⟨w.heap.size, 3, none⟩ = some (.slice A4 i.travel.length c4) ∧ W.cell? ⟨B3, o3 + cn * 3, none⟩ = some (.int .i64 cap) ∧ W.cell? ⟨B3, o3 + cn * 3 + 1, none⟩ = some (.int .i64 st) ∧ W.cell? ⟨B3, o3 + cn * 3 + 2, none⟩ = some (.int .i64 en) ∧ W.cell? ⟨g, k * 7, none⟩ = some (.bool x0) ∧ W.cell? ⟨g, k * 7 + 1, none⟩ = some (.int .i64 x1) ∧ W.cell? ⟨g, k * 7 + 2, none⟩ = some (.int .i64 x2) ∧ W.cell? ⟨g, k * 7 + 3, none⟩ = some (.int .i64 x3) ∧ W.cell? ⟨g, k * 7 + 4, none⟩ = some (.int .u32 x4) ∧ W.cell? ⟨g, k * 7 + 5, none⟩ = some (.int .u32 x5) ∧ W.cell? ⟨g, k * 7 + 6, none⟩ = some (.int .i64 x6)) := fun W hB =>
        have q := SS1.out W (HBr.out.trans (hB.mono HBr.out.size))
        ⟨q.1, q.2.1, q.2.2.1, q.2.2.2.1, q.2.2.2.2.1, q.2.2.2.2.2.1, q.2.2.2.2.2.2, cell_up hB BG.out.1 cc0, cell_up hB BG.out.1 cc1, cell_up hB BG.out.1 cc2, cell_up hB BG.out.1 cc3, cell_up hB BG.out.1 cc4, cell_up hB BG.out.1 cc5, cell_up hB BG.out.1 cc6⟩
      clear cc0 cc1 cc2 cc3 cc4 cc5 cc6 hrow hxV hxC hyV hyC
      have hnm : (k : Int) < (l.length : Int) := by omega
      have n3 : (0 : Int) ≤ (k : Int) := by omega
      have n4 : (k : Int).toNat = k := by omega
      have n5 : (k : Int) < ((l.length + 1 : Nat) : Int) := by omega
      have n5' : (k : Int) < (l.length : Int) + 1 := by omega
      have n6 : (0 : Int) ≤ (k : Int) + 1 := by omega
      have n7 : (k : Int) + 1 < ((l.length + 1 : Nat) : Int) := by omega
      have n7' : (k : Int) + 1 < (l.length : Int) + 1 := by omega
      have n8 : ((k : Int) + 1).toNat = k + 1 := by omega
      have n9 : IntKind.i64.wrap ((k : Int) + 1) = (k : Int) + 1 := IntWalk.i64_in _ (by omega)
      generalize l[k] = s at *
      go_upto_region 8 with (fail)
      refine wp_region_z (S := (fun W => W.cell? ⟨w.heap.size, 0, none⟩ = some (.slice (some ⟨B3, o3, none⟩) i.cars.length c1) ∧ W.cell? ⟨w.heap.size, 1, none⟩ = some (.slice A2 i.stops.length c2) ∧ W.cell? ⟨w.heap.size, 2, none⟩ = some (.slice A3 i.pairs.length c3) ∧ W.cell? ⟨w.heap.size, 3, none⟩ = some (.slice A4 i.travel.length c4) ∧ W.cell? ⟨B3, o3 + cn * 3, none⟩ = some (.int .i64 cap) ∧ W.cell? ⟨B3, o3 + cn * 3 + 1, none⟩ = some (.int .i64 st) ∧ W.cell? ⟨B3, o3 + cn * 3 + 2, none⟩ = some (.int .i64 en) ∧ W.cell? ⟨g, k * 7, none⟩ = some (.bool x0) ∧ W.cell? ⟨g, k * 7 + 1, none⟩ = some (.int .i64 x1) ∧ W.cell? ⟨g, k * 7 + 2, none⟩ = some (.int .i64 x2) ∧ W.cell? ⟨g, k * 7 + 3, none⟩ = some (.int .i64 x3) ∧ W.cell? ⟨g, k * 7 + 4, none⟩ = some (.int .u32 x4) ∧ W.cell? ⟨g, k * 7 + 5, none⟩ = some (.int .u32 x5) ∧ W.cell? ⟨g, k * 7 + 6, none⟩ = some (.int .i64 x6))) (z := 16) (by kernel_rfl) (SS.out _ (Below.refl wr.heap.size wr).drew) (fun hH => ?_)
      refine wpAnyZ_take (i := 0) (v := ?_) rfl (by kernel_rfl) (by kernel_rfl) (by kernel_rfl) rfl (by kernel_rfl) (fun _ _ _ h => h) (gives_value (by rfl) ?_) (by assumption) ?_
      rotate_left
      · intro w hSw
        (try dsimp only at hSw)
        go_simp
        (try with_reducible rfl)
      (try simp only [Act.put, List.getElem_toArray, List.getElem_cons_succ, List.getElem_cons_zero, List.setIfInBounds_toArray, List.set_cons_zero, List.set_cons_succ])
      refine wpAnyZ_take (i := 1) (v := ?_) rfl (by kernel_rfl) (by kernel_rfl) (by kernel_rfl) rfl (by kernel_rfl) (fun _ _ _ h => h) (gives_value (by rfl) ?_) (by assumption) ?_
      rotate_left
      · intro w hSw
        (try dsimp only at hSw)
        go_simp
        (try with_reducible rfl)
      (try simp only [Act.put, List.getElem_toArray, List.getElem_cons_succ, List.getElem_cons_zero, List.setIfInBounds_toArray, List.set_cons_zero, List.set_cons_succ])
      refine wpAnyZ_take (i := 2) (v := ?_) rfl (by kernel_rfl) (by kernel_rfl) (by kernel_rfl) rfl (by kernel_rfl) (fun _ _ _ h => h) (gives_value (by rfl) ?_) (by assumption) ?_
      rotate_left
      · intro w hSw
        (try dsimp only at hSw)
        go_simp
        (try with_reducible rfl)
      (try simp only [Act.put, List.getElem_toArray, List.getElem_cons_succ, List.getElem_cons_zero, List.setIfInBounds_toArray, List.set_cons_zero, List.set_cons_succ])
      refine wpAnyZ_take (i := 3) (v := ?_) rfl (by kernel_rfl) (by kernel_rfl) (by kernel_rfl) rfl (by kernel_rfl) (fun _ _ _ h => h) (gives_value (by rfl) ?_) (by assumption) ?_
      rotate_left
      · intro w hSw
        (try dsimp only at hSw)
        go_simp
        (try with_reducible rfl)
      (try simp only [Act.put, List.getElem_toArray, List.getElem_cons_succ, List.getElem_cons_zero, List.setIfInBounds_toArray, List.set_cons_zero, List.set_cons_succ])
      refine wpAnyZ_take (i := 4) (v := ?_) rfl (by kernel_rfl) (by kernel_rfl) (by kernel_rfl) rfl (by kernel_rfl) (fun _ _ _ h => h) (gives_value (by rfl) ?_) (by assumption) ?_
      rotate_left
      · intro w hSw
        (try dsimp only at hSw)
        go_simp
        (try with_reducible rfl)
      (try simp only [Act.put, List.getElem_toArray, List.getElem_cons_succ, List.getElem_cons_zero, List.setIfInBounds_toArray, List.set_cons_zero, List.set_cons_succ])
      refine wpAnyZ_take (i := 5) (v := ?_) rfl (by kernel_rfl) (by kernel_rfl) (by kernel_rfl) rfl (by kernel_rfl) (fun _ _ _ h => h) (gives_value (by rfl) ?_) (by assumption) ?_
      rotate_left
      · intro w hSw
        (try dsimp only at hSw)
        go_simp
        (try with_reducible rfl)
      (try simp only [Act.put, List.getElem_toArray, List.getElem_cons_succ, List.getElem_cons_zero, List.setIfInBounds_toArray, List.set_cons_zero, List.set_cons_succ])
      refine wpAnyZ_take (i := 6) (v := ?_) rfl (by kernel_rfl) (by kernel_rfl) (by kernel_rfl) rfl (by kernel_rfl) (fun _ _ _ h => h) (gives_value (by rfl) ?_) (by assumption) ?_
      rotate_left
      · intro w hSw
        (try dsimp only at hSw)
        go_simp
        (try with_reducible rfl)
      (try simp only [Act.put, List.getElem_toArray, List.getElem_cons_succ, List.getElem_cons_zero, List.setIfInBounds_toArray, List.set_cons_zero, List.set_cons_succ])
      refine wpAnyZ_take (i := 7) (v := ?_) rfl (by kernel_rfl) (by kernel_rfl) (by kernel_rfl) rfl (by kernel_rfl) (fun _ _ _ h => h) (gives_value (by rfl) ?_) (by assumption) ?_
      rotate_left
      · intro w hSw
        (try dsimp only at hSw)
        go_simp
        (try with_reducible rfl)
      (try simp only [Act.put, List.getElem_toArray, List.getElem_cons_succ, List.getElem_cons_zero, List.setIfInBounds_toArray, List.set_cons_zero, List.set_cons_succ])
      refine wpAnyZ_take (i := 8) (v := ?_) rfl (by kernel_rfl) (by kernel_rfl) (by kernel_rfl) rfl (by kernel_rfl) (fun _ _ _ h => h) (gives_value (by rfl) ?_) (by assumption) ?_
      rotate_left
      · intro w hSw
        (try dsimp only at hSw)
        go_simp
        (try with_reducible rfl)
      (try simp only [Act.put, List.getElem_toArray, List.getElem_cons_succ, List.getElem_cons_zero, List.setIfInBounds_toArray, List.set_cons_zero, List.set_cons_succ])
      refine wpAnyZ_take (i := 9) (v := ?_) rfl (by kernel_rfl) (by kernel_rfl) (by kernel_rfl) rfl (by kernel_rfl) (fun _ _ _ h => h) (gives_value (by rfl) ?_) (by assumption) ?_
      rotate_left
      · intro w hSw
        (try dsimp only at hSw)
        go_simp
        (try with_reducible rfl)
      (try simp only [Act.put, List.getElem_toArray, List.getElem_cons_succ, List.getElem_cons_zero, List.setIfInBounds_toArray, List.set_cons_zero, List.set_cons_succ])
      refine wpAnyZ_take (i := 10) (v := ?_) rfl (by kernel_rfl) (by kernel_rfl) (by kernel_rfl) rfl (by kernel_rfl) (fun _ _ _ h => h) (gives_value (by rfl) ?_) (by assumption) ?_
      rotate_left
      · intro w hSw
        (try dsimp only at hSw)
        go_simp
        (try with_reducible rfl)
      (try simp only [Act.put, List.getElem_toArray, List.getElem_cons_succ, List.getElem_cons_zero, List.setIfInBounds_toArray, List.set_cons_zero, List.set_cons_succ])
      refine wpAnyZ_take (i := 11) (v := ?_) rfl (by kernel_rfl) (by kernel_rfl) (by kernel_rfl) rfl (by kernel_rfl) (fun _ _ _ h => h) (gives_value (by rfl) ?_) (by assumption) ?_
      rotate_left
      · intro w hSw
        (try dsimp only at hSw)
        go_simp
        (try with_reducible rfl)
      (try simp only [Act.put, List.getElem_toArray, List.getElem_cons_succ, List.getElem_cons_zero, List.setIfInBounds_toArray, List.set_cons_zero, List.set_cons_succ])
      refine wpAnyZ_take (i := 12) (v := ?_) rfl (by kernel_rfl) (by kernel_rfl) (by kernel_rfl) rfl (by kernel_rfl) (fun _ _ _ h => h) (gives_value (by rfl) ?_) (by assumption) ?_
      rotate_left
      · intro w hSw
        (try dsimp only at hSw)
        go_simp
        (try with_reducible rfl)
      (try simp only [Act.put, List.getElem_toArray, List.getElem_cons_succ, List.getElem_cons_zero, List.setIfInBounds_toArray, List.set_cons_zero, List.set_cons_succ])
      refine wpAnyZ_take (i := 13) (v := ?_) rfl (by kernel_rfl) (by kernel_rfl) (by kernel_rfl) rfl (by kernel_rfl) (fun _ _ _ h => h) (gives_value (by rfl) ?_) (by assumption) ?_
      rotate_left
      · intro w hSw
        (try dsimp only at hSw)
        go_simp
        (try with_reducible rfl)
      (try simp only [Act.put, List.getElem_toArray, List.getElem_cons_succ, List.getElem_cons_zero, List.setIfInBounds_toArray, List.set_cons_zero, List.set_cons_succ])
      refine wpAnyZ_one (i := 14) (by kernel_rfl) ?_
      refine zstep rfl (fun K hK => ?_)
      go_simp
      (with_reducible refine (KE.out _ HBW.out.drew).mono ?_)
      rintro e w5 ⟨rfl, hb⟩
      have HB5 := Lib.hid (((Below.refl wr.heap.size wr).drew).trans hb)
      have BG5 := Lib.hid (BG.out.below HB5.out)
      clear hb
      refine hK.out _ _ (fun _ => SS.out _ HB5.out) (fun hH => ?_)
      replace hH := hH (by decide)
      clear hK K
      (try simp only [Act.put, List.getElem_toArray, List.getElem_cons_succ, List.getElem_cons_zero, List.setIfInBounds_toArray, List.set_cons_zero, List.set_cons_succ])
      refine wpAnyZ_take (i := 15) (v := ?_) rfl (by kernel_rfl) (by kernel_rfl) (by kernel_rfl) rfl (by kernel_rfl) (fun _ _ _ h => h) (gives_value (by rfl) ?_) (by assumption) ?_
      rotate_left
      · intro w hSw
        (try dsimp only at hSw)
        go_simp
        (try with_reducible rfl)
      (try simp only [Act.put, List.getElem_toArray, List.getElem_cons_succ, List.getElem_cons_zero, List.setIfInBounds_toArray, List.set_cons_zero, List.set_cons_succ])
      refine wpAnyZ_one (i := 16) (by kernel_rfl) ?_
      refine zstep rfl (fun K hK => ?_)
      have f0 := (BG5.out.2 ((k + 1) * 7) (by omega)).2
      have r0 := (BG5.out.2 ((k + 1) * 7) (by omega)).1
      have f1 := (BG5.out.2 ((k + 1) * 7 + 1) (by omega)).2
      have r1 := (BG5.out.2 ((k + 1) * 7 + 1) (by omega)).1
      have f2 := (BG5.out.2 ((k + 1) * 7 + 2) (by omega)).2
      have r2 := (BG5.out.2 ((k + 1) * 7 + 2) (by omega)).1
      have f3 := (BG5.out.2 ((k + 1) * 7 + 3) (by omega)).2
      have r3 := (BG5.out.2 ((k + 1) * 7 + 3) (by omega)).1
      have f4 := (BG5.out.2 ((k + 1) * 7 + 4) (by omega)).2
      have r4 := (BG5.out.2 ((k + 1) * 7 + 4) (by omega)).1
      have f5 := (BG5.out.2 ((k + 1) * 7 + 5) (by omega)).2
      have r5 := (BG5.out.2 ((k + 1) * 7 + 5) (by omega)).1
      have f6 := (BG5.out.2 ((k + 1) * 7 + 6) (by omega)).2
      have r6 := (BG5.out.2 ((k + 1) * 7 + 6) (by omega)).1
      have hgz := BG5.out.1
      have BG6 := Lib.hid (blk_put7 BG5.out hw3 (.bool y0') (.int .i64 y1') (.int .i64 y2') (.int .i64 y3') (.int .u32 y4') (.int .u32 y5') (.int .i64 y6'))
      have HB6 := Lib.hid (below_put7 (HBr.out.trans (HB5.out.mono HBr.out.size)) (g := g) (by omega) ((k + 1) * 7) (.bool y0') (.int .i64 y1') (.int .i64 y2') (.int .i64 y3') (.int .u32 y4') (.int .u32 y5') (.int .i64 y6'))
      have HD6 : Hid (Holds (putAt xs ((k + 1) * 7) [.bool y0', .int .i64 y1', .int .i64 y2', .int .i64 y3', .int .u32 y4', .int .u32 y5', .int .i64 y6']) 7 (fun k => headC (headL i cn (l.take k))) (fun q => q ≤ k ∨ q = (k + 1))) := by
        show Holds _ _ _ _
        have := holds_put HLD.out hlen (fun k => headC_len _) (k := (k + 1)) (by omega)
        simp only [HYC'.out] at this
        exact this
      go_simp
      refine hK.out _ _ (fun h => absurd rfl h) (fun hH => ?_)
      clear hK K hH
      (try simp only [Act.put, List.getElem_toArray, List.getElem_cons_succ, List.getElem_cons_zero, List.setIfInBounds_toArray, List.set_cons_zero, List.set_cons_succ])
      refine wpAnyZ_done (by kernel_rfl) ?_ _
      clear f0 r0 f1 r1 f2 r2 f3 r3 f4 r4 f5 r5 f6 r6 hgz d0 SS BG5 BG HB5
      go_wp2
      go_roundw
      case rel => exact ⟨(k + 1), _, by omega, by go_num, BG6.out, by rw [putAt_len, hlen], fun q hq => HD6.out q (by omega), HB6.out⟩
      case measure => first | (simp [intOf]; done) | (simp [intOf]; omega)
    · obtain rfl : k = l.length := by omega
      go_wp2
      go_ret
      exact ⟨g, rfl, by have := HB1.out.size; omega, row_of BG.out (fun q hq => HLD.out q (by omega)), HBW.out⟩
set_option maxRecDepth 100000 in
theorem pheads_no (v u : Value) (i : Prob) (c : Int) (w : World) (hv : Lies w v i) (hok : probOk i = true) (hp : i.pairs.length ≤ 1000000) (hc : inB c 0 (i.cars.length - 1) = false) :
    Calls Try.prog 10 #[v, .int .i64 c, u] w fun e w' => e = .returned (.slice none 0 0) ∧ Below w.heap.size w w' := by
  obtain ⟨A1, A2, A3, A4, c1, c2, c3, c4, rfl, hs⟩ := hv.said
  have hf := fine_of hok
  have hcl := hf.cars
  have BX0 := Lib.hid (box_new hs 27)
  have HB0 := Lib.hid ((Below.refl w.heap.size w).alloc (Nat.le_refl _) (.cells #[.slice A1 i.cars.length c1, .slice A2 i.stops.length c2, .slice A3 i.pairs.length c3, .slice A4 i.travel.length c4] 27))
  have KC : Hid (∀ W, Below w.heap.size w W → Calls Try.prog 26 #[.agg #[.slice A1 i.cars.length c1, .slice A2 i.stops.length c2, .slice A3 i.pairs.length c3, .slice A4 i.travel.length c4], .int .i64 c] W fun e w' => e = .returned (.bool false) ∧ Below W.heap.size W w') := fun W hB => by have := carThere_any _ i c W (Lies.below hs hB) hok hp; rw [hc] at this; exact this
  clear hs hv hf hok hc
  go_enter Try.func10, Try.ntmps10
  go_upto_region 1 with (fail)
  generalize w.alloc (.cells #[.slice A1 i.cars.length c1, .slice A2 i.stops.length c2, .slice A3 i.pairs.length c3, .slice A4 i.travel.length c4] 27) = wa at *
  have k0 := BX0.out.b0
  have k1 := BX0.out.b1
  have k2 := BX0.out.b2
  have k3 := BX0.out.b3
  have hIz := BX0.out.lt
  go_wp2_with (go_at_call 26; fail)
  (with_reducible refine (KC.out _ HB0.out).mono ?_)
  rintro e w1 ⟨rfl, hb1⟩
  have HB1 := Lib.hid (HB0.out.trans (hb1.mono HB0.out.size))
  clear hb1 k0 k1 k2 k3 hIz
  go_wp2
  go_ret
  exact ⟨rfl, HB1.out⟩
theorem pheads_in (v u : Value) (i : Prob) (c : Int) (l : List Int) (w : World) (hv : Lies w v i) (hok : probOk i = true) (hp : i.pairs.length ≤ 1000000) (hr : Recs w 1 num_ u l) (hl : l.length ≤ 1000) (hc : inB c 0 (i.cars.length - 1) = true) :
    Calls Try.prog 10 #[v, .int .i64 c, u] w fun e w' => ∃ g, e = .returned (.slice (some ⟨g, 0, none⟩) (l.length + 1) (l.length + 1)) ∧ w.heap.size ≤ g ∧ RowC w' g 7 (fun k => headC (headL i c (l.take k))) (l.length + 1) ∧ Below w.heap.size w w' := by
  obtain ⟨A1, A2, A3, A4, c1, c2, c3, c4, rfl, hs⟩ := hv.said
  have hf := fine_of hok
  have hcl := hf.cars
  have hm := mated_of hok
  have h2 := inB_iff.1 hc
  obtain ⟨cn, rfl⟩ : ∃ cn : Nat, c = (cn : Int) := ⟨c.toNat, by omega⟩
  obtain ⟨B3, o3, rfl, hB3, e0, e1, e2⟩ := said_car hs (show cn < i.cars.length by omega)
  exact pheads_walk u i cn _ _ _ l w B3 o3 A2 A3 A4 c1 c2 c3 c4 hs hr hl (by omega) hB3 e0 e1 e2
    (fun W hB => by have := carThere_any _ i cn W (Lies.below hs hB) hok hp; rw [hc] at this; exact this)
    (fun W _ => cbegin_any _ _ _ W)
    (fun k hk W hB => by
      have := cext_any _ i (carAt i cn).c (carAt i cn).s (carAt i cn).e (headL i cn (l.take k)) l[k] W (Lies.below hs hB) hf hp (fun h hh => (head_hbn hf (by omega) hh).hb (by omega))
      have he : (headL i cn (l.take k)).bind (fun h => extC i (carAt i cn).c h l[k]) = headL i cn (l.take (k + 1)) := by
        rw [head_step hk]
        cases hq : headL i cn (l.take k) with
        | none => rfl
        | some h => have A := head_agrees hm hf hq; exact ext_code hm A.opn A.need _
      rw [he] at this
      exact this)
end Go.Proofs.Ytgkieelacjcopaa
