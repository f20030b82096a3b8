/- tab.Heads: what it answers. · tab.Tails: what it answers. · What the laws of stage 5 stand on: the problem, the row, its heads and tails in memory. · draymanlaw05.wakes: it answers true. · A row's beginning, a row's end, as slices. -/
import Derived.Test.YtkheepedjoimmaaCodePub
import Derived.Test.YtkheepedjoimmaaTabMk
import Derived.Test.YtkheepedjoimmaaCodeMeet
import Derived.Test.YtkheepedjoimmaaTripTwo
namespace Go.Proofs.Ytkheepedjoimmaa
open Go.RowKit
set_option linter.unusedSimpArgs false

theorem pheads_info : (Try.prog.info? 44).map (fun i => (i.zero, i.size, i.bytes)) = some (some (.agg #[.bool false, .int .i64 0, .int .i64 0, .int .i64 0, .int .u32 0, .int .u32 0, .int .i64 0]), 7, 48) := by kernel_rfl
set_option maxRecDepth 100000 in
set_option maxHeartbeats 8000000 in
theorem pheads_walk (u : Value) (i : Prob) (cn : Nat) (cap st en : Int) (l : List Int) (w : World) (B3 o3 : Nat) (A2 A3 A4 : Option Addr) (c1 c2 c3 c4 : Nat) (hs : Said w (some ⟨B3, o3, none⟩) A2 A3 A4 c1 c2 c3 c4 i) (hr : Recs w 1 num_ u l) (hl : l.length ≤ 1000) (hcn : cn < i.cars.length) (hB3 : B3 < w.heap.size) (e0 : w.cell? ⟨B3, o3 + cn * 3, none⟩ = some (.int .i64 cap)) (e1 : w.cell? ⟨B3, o3 + cn * 3 + 1, none⟩ = some (.int .i64 st)) (e2 : w.cell? ⟨B3, o3 + cn * 3 + 2, none⟩ = some (.int .i64 en))
    (KC : ∀ W, Below w.heap.size w W → Calls Try.prog 33 #[.agg #[.slice (some ⟨B3, o3, none⟩) i.cars.length c1, .slice A2 i.stops.length c2, .slice A3 i.pairs.length c3, .slice A4 i.travel.length c4], .int .i64 cn] W fun e w' => e = .returned (.bool true) ∧ Below W.heap.size W w')
    (KB : ∀ W, Below w.heap.size w W → Calls Try.prog 34 #[.agg #[.int .i64 cap, .int .i64 st, .int .i64 en]] W fun e w' => e = .returned (headV (headL i cn (l.take 0))) ∧ Below W.heap.size W w')
    (KX : ∀ (k : Nat) (hk : k < l.length) (W : World), Below w.heap.size w W → Calls Try.prog 35 #[.agg #[.slice (some ⟨B3, o3, none⟩) i.cars.length c1, .slice A2 i.stops.length c2, .slice A3 i.pairs.length c3, .slice A4 i.travel.length c4], .agg #[.int .i64 cap, .int .i64 st, .int .i64 en], headV (headL i cn (l.take k)), .int .i64 l[k]] W fun e w' => e = .returned (headV (headL i cn (l.take (k + 1)))) ∧ Below W.heap.size W w') :
    Calls Try.prog 14 #[.agg #[.slice (some ⟨B3, o3, none⟩) i.cars.length c1, .slice A2 i.stops.length c2, .slice A3 i.pairs.length c3, .slice A4 i.travel.length c4], .int .i64 cn, u] w fun e w' => ∃ g, e = .returned (.slice (some ⟨g, 0, none⟩) (l.length + 1) (l.length + 1)) ∧ w.heap.size ≤ g ∧ RowC w' g 7 (fun k => headC (headL i cn (l.take k))) (l.length + 1) ∧ Below w.heap.size w w' := by
  obtain ⟨A, cpp, rfl, hcell⟩ := hr.num
  have HCE := Lib.hid hcell
  have BX0 := Lib.hid (box_new hs 28)
  have HB0 := Lib.hid ((Below.refl w.heap.size w).alloc (Nat.le_refl _) (.cells #[.slice (some ⟨B3, o3, none⟩) i.cars.length c1, .slice A2 i.stops.length c2, .slice A3 i.pairs.length c3, .slice A4 i.travel.length c4] 28))
  have KC := Lib.hid KC
  have KB := Lib.hid KB
  have KX := Lib.hid KX
  have e0' := Lib.hid e0
  have e1' := Lib.hid e1
  have e2' := Lib.hid e2
  have hmk := Lib.hid (fun W => make_row1 (S := 36) (E := 44) #[.bool false, .int .i64 0, .int .i64 0, .int .i64 0, .int .u32 0, .int .u32 0, .int .i64 0] rfl Try.underlying36 pheads_info (by omega) l.length (by omega) W)
  clear hs hr hcell e0 e1 e2
  go_enter Try.func14, Try.ntmps14
  go_upto_region 1 with (fail)
  have hwz : w.heap.size < (w.alloc (.cells #[.slice (some ⟨B3, o3, none⟩) i.cars.length c1, .slice A2 i.stops.length c2, .slice A3 i.pairs.length c3, .slice A4 i.travel.length c4] 28)).heap.size := by simp
  generalize w.alloc (.cells #[.slice (some ⟨B3, o3, none⟩) i.cars.length c1, .slice A2 i.stops.length c2, .slice A3 i.pairs.length c3, .slice A4 i.travel.length c4] 28) = wa at *
  have k0 := BX0.out.b0
  have k1 := BX0.out.b1
  have k2 := BX0.out.b2
  have k3 := BX0.out.b3
  have hIz := BX0.out.lt
  go_wp2_with (go_at_call 33; fail)
  (with_reducible refine (KC.out _ HB0.out).mono ?_)
  rintro e w1 ⟨rfl, hb1⟩
  have HB1 := Lib.hid (HB0.out.trans (hb1.mono HB0.out.size))
  have BX1 := Lib.hid (BX0.out.below hb1)
  clear hb1 k0 k1 k2 k3 hIz KC BX0 HB0
  have SS1 : Hid (∀ W, Below w1.heap.size w1 W → W.cell? ⟨w.heap.size, 0, none⟩ = some (.slice (some ⟨B3, o3, none⟩) i.cars.length c1) ∧ W.cell? ⟨w.heap.size, 1, none⟩ = some (.slice A2 i.stops.length c2) ∧ W.cell? ⟨w.heap.size, 2, none⟩ = some (.slice A3 i.pairs.length c3) ∧ W.cell? ⟨w.heap.size, 3, none⟩ = some (.slice A4 i.travel.length c4) ∧ W.cell? ⟨B3, o3 + cn * 3, none⟩ = some (.int .i64 cap) ∧ W.cell? ⟨B3, o3 + cn * 3 + 1, none⟩ = some (.int .i64 st) ∧ W.cell? ⟨B3, o3 + cn * 3 + 2, none⟩ = some (.int .i64 en)) := fun W hB =>
    have hB' : Below w.heap.size w W := HB1.out.trans (hB.mono HB1.out.size)
    ⟨(BX1.out.below hB).b0, (BX1.out.below hB).b1, (BX1.out.below hB).b2, (BX1.out.below hB).b3, cell_up hB' hB3 e0'.out, cell_up hB' hB3 e1'.out, cell_up hB' hB3 e2'.out⟩
  have hw1 : IntKind.i64.wrap ((l.length : Int) + 1) = (l.length : Int) + 1 := IntWalk.i64_in _ (by omega)
  have hmk1 := hmk.out w1
  go_upto_region 4 with (fail)
  have HB2 := Lib.hid ((Below.refl w1.heap.size w1).alloc (Nat.le_refl _) (.cells (madeCells #[.bool false, .int .i64 0, .int .i64 0, .int .i64 0, .int .u32 0, .int .u32 0, .int .i64 0] ((l.length + 1) * 7)) 44))
  have BG0 := Lib.hid (blk_new w1 (madeCells #[.bool false, .int .i64 0, .int .i64 0, .int .i64 0, .int .u32 0, .int .u32 0, .int .i64 0] ((l.length + 1) * 7)) 44)
  have hxl : (madeCells #[.bool false, .int .i64 0, .int .i64 0, .int .i64 0, .int .u32 0, .int .u32 0, .int .i64 0] ((l.length + 1) * 7)).toList.length = (l.length + 1) * 7 := made_len _ _
  clear hmk hmk1
  generalize w1.alloc (.cells (madeCells #[.bool false, .int .i64 0, .int .i64 0, .int .i64 0, .int .u32 0, .int .u32 0, .int .i64 0] ((l.length + 1) * 7)) 44) = w2 at *
  generalize (madeCells #[.bool false, .int .i64 0, .int .i64 0, .int .i64 0, .int .u32 0, .int .u32 0, .int .i64 0] ((l.length + 1) * 7)).toList = xs0 at *
  have hgw : w1.heap.size ≤ w1.heap.size := Nat.le_refl _
  generalize hgg : w1.heap.size = g at hgw BG0 ⊢
  obtain ⟨k0, k1, k2, k3, e0, e1, e2⟩ := SS1.out w2 HB2.out
  have hIz := (BX1.out.below HB2.out).lt
  have n0 : (0 : Int) ≤ (cn : Int) := by omega
  have n1 : (cn : Int) < (i.cars.length : Int) := by omega
  have n2 : (cn : Int).toNat = cn := by omega
  have hB3z : B3 < w2.heap.size := Nat.lt_of_lt_of_le hB3 (HB1.out.trans (HB2.out.mono HB1.out.size)).size
  go_wp2_with (go_at_call 34; fail)
  (with_reducible refine (KB.out _ (HB1.out.trans (HB2.out.mono HB1.out.size))).mono ?_)
  rintro e w3 ⟨rfl, hb3⟩
  have HB3 := Lib.hid (HB2.out.trans (hb3.mono HB2.out.size))
  have BG3 := Lib.hid (BG0.out.below hb3)
  clear hb3 k0 k1 k2 k3 e0 e1 e2 hIz hB3z BG0 HB2 KB
  obtain ⟨y0, y1, y2, y3, y4, y5, y6, hyV, hyC⟩ := head_form (headL i cn (l.take 0))
  rw [hyV]
  have HYC := Lib.hid hyC
  clear hyV hyC
  have hp0 : 0 * 7 + 7 ≤ xs0.length := by rw [hxl]; omega
  have hpz : 0 + 7 ≤ xs0.length := by omega
  have f0 := (BG3.out.2 (0) (by omega)).2
  have r0 := (BG3.out.2 (0) (by omega)).1
  have f1 := (BG3.out.2 (0 + 1) (by omega)).2
  have r1 := (BG3.out.2 (0 + 1) (by omega)).1
  have f2 := (BG3.out.2 (0 + 2) (by omega)).2
  have r2 := (BG3.out.2 (0 + 2) (by omega)).1
  have f3 := (BG3.out.2 (0 + 3) (by omega)).2
  have r3 := (BG3.out.2 (0 + 3) (by omega)).1
  have f4 := (BG3.out.2 (0 + 4) (by omega)).2
  have r4 := (BG3.out.2 (0 + 4) (by omega)).1
  have f5 := (BG3.out.2 (0 + 5) (by omega)).2
  have r5 := (BG3.out.2 (0 + 5) (by omega)).1
  have f6 := (BG3.out.2 (0 + 6) (by omega)).2
  have r6 := (BG3.out.2 (0 + 6) (by omega)).1
  have hgz := BG3.out.1
  have BG4 := Lib.hid (blk_put7 BG3.out hpz (.bool y0) (.int .i64 y1) (.int .i64 y2) (.int .i64 y3) (.int .u32 y4) (.int .u32 y5) (.int .i64 y6))
  have HB4 := Lib.hid (below_put7 HB3.out (g := g) (by omega) (0) (.bool y0) (.int .i64 y1) (.int .i64 y2) (.int .i64 y3) (.int .u32 y4) (.int .u32 y5) (.int .i64 y6))
  have HD0 : Hid (Holds (putAt xs0 (0) [.bool y0, .int .i64 y1, .int .i64 y2, .int .i64 y3, .int .u32 y4, .int .u32 y5, .int .i64 y6]) 7 (fun k => headC (headL i cn (l.take k))) (fun q => False ∨ q = 0)) := by
    show Holds _ _ _ _
    have := holds_put (xs := xs0) (m := 7) (n := l.length + 1) (f := fun k => headC (headL i cn (l.take k))) (P := fun _ => False) (fun _ h => h.elim) hxl (fun k => headC_len _) (k := 0) (by omega)
    simp only [HYC.out] at this
    rw [Nat.zero_mul] at this; exact this
  have m0 : (0 : Int) ≤ (l.length : Int) := by omega
  have m1 : (l.length : Int) < ((l.length + 1 : Nat) : Int) := by omega
  have m1' : (l.length : Int) < (l.length : Int) + 1 := by omega
  have m2 : (l.length : Int).toNat = l.length := by omega
  have m3 : (0 : Int) < (l.length : Int) + 1 := by omega
  go_wp2
  clear f0 r0 f1 r1 f2 r2 f3 r3 f4 r4 f5 r5 f6 r6 hgz m0 m1 m1' m2 m3 BG3 HB3
  go_loopw [28] (fun kv wr => ∃ (k : Nat) (xs : List Value), k ≤ l.length ∧ kv = .int .i64 k ∧ Blk wr g xs ∧ xs.length = (l.length + 1) * 7 ∧ Holds xs 7 (fun k => headC (headL i cn (l.take k))) (fun q => q ≤ k) ∧ Below w1.heap.size w1 wr) (fun kv _ => l.length - (intOf kv).toNat)
  case atStart => exact ⟨0, _, by omega, rfl, BG4.out, by rw [putAt_len, hxl], fun q hq => HD0.out q (.inr (by omega)), HB4.out⟩
  case round =>
    obtain ⟨k, xs, hk, rfl, hbg, hlen, hold, hbr⟩ := hrel
    have BG := Lib.hid hbg
    have HLD := Lib.hid hold
    have HBr := Lib.hid hbr
    have HBW : Hid (Below w.heap.size w wr) := HB1.out.trans (hbr.mono HB1.out.size)
    clear hbg hold hbr BG4 HB4 HD0
    by_cases hlt : k < l.length
    · have hkl : k < l.length := hlt
      obtain ⟨B, o, rfl, hB, hx⟩ := HCE.out k hkl
      have d0 : wr.cell? ⟨B, o + k, none⟩ = some (.int .i64 l[k]) := cell_up HBW.out hB hx
      have hBz := Nat.lt_of_lt_of_le hB HBW.out.size
      obtain ⟨x0, x1, x2, x3, x4, x5, x6, hxV, hxC⟩ := head_form (headL i cn (l.take k))
      obtain ⟨y0', y1', y2', y3', y4', y5', y6', hyV, hyC⟩ := head_form (headL i cn (l.take (k + 1)))
      have KE : Hid (∀ W, Below w.heap.size w W → Calls Try.prog 35 #[.agg #[.slice (some ⟨B3, o3, none⟩) i.cars.length c1, .slice A2 i.stops.length c2, .slice A3 i.pairs.length c3, .slice A4 i.travel.length c4], .agg #[.int .i64 cap, .int .i64 st, .int .i64 en], .agg #[.bool x0, .int .i64 x1, .int .i64 x2, .int .i64 x3, .int .u32 x4, .int .u32 x5, .int .i64 x6], .int .i64 l[k]] W fun e w' => e = .returned (.agg #[.bool y0', .int .i64 y1', .int .i64 y2', .int .i64 y3', .int .u32 y4', .int .u32 y5', .int .i64 y6']) ∧ Below W.heap.size W w') := fun W hB => by
        have := KX.out k hkl W hB
        rw [hxV, hyV] at this; exact this
      have HYC' := Lib.hid hyC
      have hw2 : k * 7 + 7 ≤ xs.length := by rw [hlen]; omega
      have hw3 : (k + 1) * 7 + 7 ≤ xs.length := by rw [hlen]; omega
      have hrow : ∀ j u, j < 7 → [.bool x0, .int .i64 x1, .int .i64 x2, .int .i64 x3, .int .u32 x4, .int .u32 x5, .int .i64 x6][j]? = some u → xs[k * 7 + j]? = some u := fun j u hj hu => by
        rw [HLD.out k (by omega) j hj]
        show (headC (headL i cn (l.take k)))[j]? = some u
        rw [hxC]; exact hu
      have cc0 := blk_cell BG.out (hrow 0 _ (by omega) rfl)
      have cc1 := blk_cell BG.out (hrow 1 _ (by omega) rfl)
      have cc2 := blk_cell BG.out (hrow 2 _ (by omega) rfl)
      have cc3 := blk_cell BG.out (hrow 3 _ (by omega) rfl)
      have cc4 := blk_cell BG.out (hrow 4 _ (by omega) rfl)
      have cc5 := blk_cell BG.out (hrow 5 _ (by omega) rfl)
      have cc6 := blk_cell BG.out (hrow 6 _ (by omega) rfl)
      try rw [Nat.add_zero] at cc0
      have SS : Hid (∀ W, Below wr.heap.size wr W → W.cell? ⟨w.heap.size, 0, none⟩ = some (.slice (some ⟨B3, o3, none⟩) i.cars.length c1) ∧ W.cell? ⟨w.heap.size, 1, none⟩ = some (.slice A2 i.stops.length c2) ∧ W.cell? ⟨w.heap.size, 2, none⟩ = some (.slice A3 i.pairs.length c3) ∧ W.cell? ⟨w.heap.size, 3, none⟩ = some (.slice A4 i.travel.length c4) ∧ W.cell? ⟨B3, o3 + cn * 3, none⟩ = some (.int .i64 cap) ∧ W.cell? ⟨B3, o3 + cn * 3 + 1, none⟩ = some (.int .i64 st) ∧ W.cell? ⟨B3, o3 + cn * 3 + 2, none⟩ = some (.int .i64 en) ∧ W.cell? ⟨g, k * 7, none⟩ = some (.bool x0) ∧ W.cell? ⟨g, k * 7 + 1, none⟩ = some (.int .i64 x1) ∧ W.cell? ⟨g, k * 7 + 2, none⟩ = some (.int .i64 x2) ∧ W.cell? ⟨g, k * 7 + 3, none⟩ = some (.int .i64 x3) ∧ W.cell? ⟨g, k * 7 + 4, none⟩ = some (.int .u32 x4) ∧ W.cell? ⟨g, k * 7 + 5, none⟩ = some (.int .u32 x5) ∧ W.cell? ⟨g, k * 7 + 6, none⟩ = some (.int .i64 x6)) := fun W hB =>
        have q := SS1.out W (HBr.out.trans (hB.mono HBr.out.size))
        ⟨q.1, q.2.1, q.2.2.1, q.2.2.2.1, q.2.2.2.2.1, q.2.2.2.2.2.1, q.2.2.2.2.2.2, cell_up hB BG.out.1 cc0, cell_up hB BG.out.1 cc1, cell_up hB BG.out.1 cc2, cell_up hB BG.out.1 cc3, cell_up hB BG.out.1 cc4, cell_up hB BG.out.1 cc5, cell_up hB BG.out.1 cc6⟩
      clear cc0 cc1 cc2 cc3 cc4 cc5 cc6 hrow hxV hxC hyV hyC
      have hnm : (k : Int) < (l.length : Int) := by omega
      have n3 : (0 : Int) ≤ (k : Int) := by omega
      have n4 : (k : Int).toNat = k := by omega
      have n5 : (k : Int) < ((l.length + 1 : Nat) : Int) := by omega
      have n5' : (k : Int) < (l.length : Int) + 1 := by omega
      have n6 : (0 : Int) ≤ (k : Int) + 1 := by omega
      have n7 : (k : Int) + 1 < ((l.length + 1 : Nat) : Int) := by omega
      have n7' : (k : Int) + 1 < (l.length : Int) + 1 := by omega
      have n8 : ((k : Int) + 1).toNat = k + 1 := by omega
      have n9 : IntKind.i64.wrap ((k : Int) + 1) = (k : Int) + 1 := IntWalk.i64_in _ (by omega)
      generalize l[k] = s at *
      go_upto_region 8 with (fail)
      refine wp_region_z (S := (fun W => W.cell? ⟨w.heap.size, 0, none⟩ = some (.slice (some ⟨B3, o3, none⟩) i.cars.length c1) ∧ W.cell? ⟨w.heap.size, 1, none⟩ = some (.slice A2 i.stops.length c2) ∧ W.cell? ⟨w.heap.size, 2, none⟩ = some (.slice A3 i.pairs.length c3) ∧ W.cell? ⟨w.heap.size, 3, none⟩ = some (.slice A4 i.travel.length c4) ∧ W.cell? ⟨B3, o3 + cn * 3, none⟩ = some (.int .i64 cap) ∧ W.cell? ⟨B3, o3 + cn * 3 + 1, none⟩ = some (.int .i64 st) ∧ W.cell? ⟨B3, o3 + cn * 3 + 2, none⟩ = some (.int .i64 en) ∧ W.cell? ⟨g, k * 7, none⟩ = some (.bool x0) ∧ W.cell? ⟨g, k * 7 + 1, none⟩ = some (.int .i64 x1) ∧ W.cell? ⟨g, k * 7 + 2, none⟩ = some (.int .i64 x2) ∧ W.cell? ⟨g, k * 7 + 3, none⟩ = some (.int .i64 x3) ∧ W.cell? ⟨g, k * 7 + 4, none⟩ = some (.int .u32 x4) ∧ W.cell? ⟨g, k * 7 + 5, none⟩ = some (.int .u32 x5) ∧ W.cell? ⟨g, k * 7 + 6, none⟩ = some (.int .i64 x6))) (z := 16) (by kernel_rfl) (SS.out _ (Below.refl wr.heap.size wr).drew) (fun hH => ?_)
      refine wpAnyZ_take (i := 0) (v := ?_) rfl (by kernel_rfl) (by kernel_rfl) (by kernel_rfl) rfl (by kernel_rfl) (fun _ _ _ h => h) (gives_value (by rfl) ?_) (by assumption) ?_
      rotate_left
      · intro w hSw
        (try dsimp only at hSw)
        go_simp
        (try with_reducible rfl)
      (try simp only [Act.put, List.getElem_toArray, List.getElem_cons_succ, List.getElem_cons_zero, List.setIfInBounds_toArray, List.set_cons_zero, List.set_cons_succ])
      refine wpAnyZ_take (i := 1) (v := ?_) rfl (by kernel_rfl) (by kernel_rfl) (by kernel_rfl) rfl (by kernel_rfl) (fun _ _ _ h => h) (gives_value (by rfl) ?_) (by assumption) ?_
      rotate_left
      · intro w hSw
        (try dsimp only at hSw)
        go_simp
        (try with_reducible rfl)
      (try simp only [Act.put, List.getElem_toArray, List.getElem_cons_succ, List.getElem_cons_zero, List.setIfInBounds_toArray, List.set_cons_zero, List.set_cons_succ])
      refine wpAnyZ_take (i := 2) (v := ?_) rfl (by kernel_rfl) (by kernel_rfl) (by kernel_rfl) rfl (by kernel_rfl) (fun _ _ _ h => h) (gives_value (by rfl) ?_) (by assumption) ?_
      rotate_left
      · intro w hSw
        (try dsimp only at hSw)
        go_simp
        (try with_reducible rfl)
      (try simp only [Act.put, List.getElem_toArray, List.getElem_cons_succ, List.getElem_cons_zero, List.setIfInBounds_toArray, List.set_cons_zero, List.set_cons_succ])
      refine wpAnyZ_take (i := 3) (v := ?_) rfl (by kernel_rfl) (by kernel_rfl) (by kernel_rfl) rfl (by kernel_rfl) (fun _ _ _ h => h) (gives_value (by rfl) ?_) (by assumption) ?_
      rotate_left
      · intro w hSw
        (try dsimp only at hSw)
        go_simp
        (try with_reducible rfl)
      (try simp only [Act.put, List.getElem_toArray, List.getElem_cons_succ, List.getElem_cons_zero, List.setIfInBounds_toArray, List.set_cons_zero, List.set_cons_succ])
      refine wpAnyZ_take (i := 4) (v := ?_) rfl (by kernel_rfl) (by kernel_rfl) (by kernel_rfl) rfl (by kernel_rfl) (fun _ _ _ h => h) (gives_value (by rfl) ?_) (by assumption) ?_
      rotate_left
      · intro w hSw
        (try dsimp only at hSw)
        go_simp
        (try with_reducible rfl)
      (try simp only [Act.put, List.getElem_toArray, List.getElem_cons_succ, List.getElem_cons_zero, List.setIfInBounds_toArray, List.set_cons_zero, List.set_cons_succ])
      refine wpAnyZ_take (i := 5) (v := ?_) rfl (by kernel_rfl) (by kernel_rfl) (by kernel_rfl) rfl (by kernel_rfl) (fun _ _ _ h => h) (gives_value (by rfl) ?_) (by assumption) ?_
      rotate_left
      · intro w hSw
        (try dsimp only at hSw)
        go_simp
        (try with_reducible rfl)
      (try simp only [Act.put, List.getElem_toArray, List.getElem_cons_succ, List.getElem_cons_zero, List.setIfInBounds_toArray, List.set_cons_zero, List.set_cons_succ])
      refine wpAnyZ_take (i := 6) (v := ?_) rfl (by kernel_rfl) (by kernel_rfl) (by kernel_rfl) rfl (by kernel_rfl) (fun _ _ _ h => h) (gives_value (by rfl) ?_) (by assumption) ?_
      rotate_left
      · intro w hSw
        (try dsimp only at hSw)
        go_simp
        (try with_reducible rfl)
      (try simp only [Act.put, List.getElem_toArray, List.getElem_cons_succ, List.getElem_cons_zero, List.setIfInBounds_toArray, List.set_cons_zero, List.set_cons_succ])
      refine wpAnyZ_take (i := 7) (v := ?_) rfl (by kernel_rfl) (by kernel_rfl) (by kernel_rfl) rfl (by kernel_rfl) (fun _ _ _ h => h) (gives_value (by rfl) ?_) (by assumption) ?_
      rotate_left
      · intro w hSw
        (try dsimp only at hSw)
        go_simp
        (try with_reducible rfl)
      (try simp only [Act.put, List.getElem_toArray, List.getElem_cons_succ, List.getElem_cons_zero, List.setIfInBounds_toArray, List.set_cons_zero, List.set_cons_succ])
      refine wpAnyZ_take (i := 8) (v := ?_) rfl (by kernel_rfl) (by kernel_rfl) (by kernel_rfl) rfl (by kernel_rfl) (fun _ _ _ h => h) (gives_value (by rfl) ?_) (by assumption) ?_
      rotate_left
      · intro w hSw
        (try dsimp only at hSw)
        go_simp
        (try with_reducible rfl)
      (try simp only [Act.put, List.getElem_toArray, List.getElem_cons_succ, List.getElem_cons_zero, List.setIfInBounds_toArray, List.set_cons_zero, List.set_cons_succ])
      refine wpAnyZ_take (i := 9) (v := ?_) rfl (by kernel_rfl) (by kernel_rfl) (by kernel_rfl) rfl (by kernel_rfl) (fun _ _ _ h => h) (gives_value (by rfl) ?_) (by assumption) ?_
      rotate_left
      · intro w hSw
        (try dsimp only at hSw)
        go_simp
        (try with_reducible rfl)
      (try simp only [Act.put, List.getElem_toArray, List.getElem_cons_succ, List.getElem_cons_zero, List.setIfInBounds_toArray, List.set_cons_zero, List.set_cons_succ])
      refine wpAnyZ_take (i := 10) (v := ?_) rfl (by kernel_rfl) (by kernel_rfl) (by kernel_rfl) rfl (by kernel_rfl) (fun _ _ _ h => h) (gives_value (by rfl) ?_) (by assumption) ?_
      rotate_left
      · intro w hSw
        (try dsimp only at hSw)
        go_simp
        (try with_reducible rfl)
      (try simp only [Act.put, List.getElem_toArray, List.getElem_cons_succ, List.getElem_cons_zero, List.setIfInBounds_toArray, List.set_cons_zero, List.set_cons_succ])
      refine wpAnyZ_take (i := 11) (v := ?_) rfl (by kernel_rfl) (by kernel_rfl) (by kernel_rfl) rfl (by kernel_rfl) (fun _ _ _ h => h) (gives_value (by rfl) ?_) (by assumption) ?_
      rotate_left
      · intro w hSw
        (try dsimp only at hSw)
        go_simp
        (try with_reducible rfl)
      (try simp only [Act.put, List.getElem_toArray, List.getElem_cons_succ, List.getElem_cons_zero, List.setIfInBounds_toArray, List.set_cons_zero, List.set_cons_succ])
      refine wpAnyZ_take (i := 12) (v := ?_) rfl (by kernel_rfl) (by kernel_rfl) (by kernel_rfl) rfl (by kernel_rfl) (fun _ _ _ h => h) (gives_value (by rfl) ?_) (by assumption) ?_
      rotate_left
      · intro w hSw
        (try dsimp only at hSw)
        go_simp
        (try with_reducible rfl)
      (try simp only [Act.put, List.getElem_toArray, List.getElem_cons_succ, List.getElem_cons_zero, List.setIfInBounds_toArray, List.set_cons_zero, List.set_cons_succ])
      refine wpAnyZ_take (i := 13) (v := ?_) rfl (by kernel_rfl) (by kernel_rfl) (by kernel_rfl) rfl (by kernel_rfl) (fun _ _ _ h => h) (gives_value (by rfl) ?_) (by assumption) ?_
      rotate_left
      · intro w hSw
        (try dsimp only at hSw)
        go_simp
        (try with_reducible rfl)
      (try simp only [Act.put, List.getElem_toArray, List.getElem_cons_succ, List.getElem_cons_zero, List.setIfInBounds_toArray, List.set_cons_zero, List.set_cons_succ])
      refine wpAnyZ_one (i := 14) (by kernel_rfl) ?_
      refine zstep rfl (fun K hK => ?_)
      go_simp
      (with_reducible refine (KE.out _ HBW.out.drew).mono ?_)
      rintro e w5 ⟨rfl, hb⟩
      have HB5 := Lib.hid (((Below.refl wr.heap.size wr).drew).trans hb)
      have BG5 := Lib.hid (BG.out.below HB5.out)
      clear hb
      refine hK.out _ _ (fun _ => SS.out _ HB5.out) (fun hH => ?_)
      replace hH := hH (by decide)
      clear hK K
      (try simp only [Act.put, List.getElem_toArray, List.getElem_cons_succ, List.getElem_cons_zero, List.setIfInBounds_toArray, List.set_cons_zero, List.set_cons_succ])
      refine wpAnyZ_take (i := 15) (v := ?_) rfl (by kernel_rfl) (by kernel_rfl) (by kernel_rfl) rfl (by kernel_rfl) (fun _ _ _ h => h) (gives_value (by rfl) ?_) (by assumption) ?_
      rotate_left
      · intro w hSw
        (try dsimp only at hSw)
        go_simp
        (try with_reducible rfl)
      (try simp only [Act.put, List.getElem_toArray, List.getElem_cons_succ, List.getElem_cons_zero, List.setIfInBounds_toArray, List.set_cons_zero, List.set_cons_succ])
      refine wpAnyZ_one (i := 16) (by kernel_rfl) ?_
      refine zstep rfl (fun K hK => ?_)
      have f0 := (BG5.out.2 ((k + 1) * 7) (by omega)).2
      have r0 := (BG5.out.2 ((k + 1) * 7) (by omega)).1
      have f1 := (BG5.out.2 ((k + 1) * 7 + 1) (by omega)).2
      have r1 := (BG5.out.2 ((k + 1) * 7 + 1) (by omega)).1
      have f2 := (BG5.out.2 ((k + 1) * 7 + 2) (by omega)).2
      have r2 := (BG5.out.2 ((k + 1) * 7 + 2) (by omega)).1
      have f3 := (BG5.out.2 ((k + 1) * 7 + 3) (by omega)).2
      have r3 := (BG5.out.2 ((k + 1) * 7 + 3) (by omega)).1
      have f4 := (BG5.out.2 ((k + 1) * 7 + 4) (by omega)).2
      have r4 := (BG5.out.2 ((k + 1) * 7 + 4) (by omega)).1
      have f5 := (BG5.out.2 ((k + 1) * 7 + 5) (by omega)).2
      have r5 := (BG5.out.2 ((k + 1) * 7 + 5) (by omega)).1
      have f6 := (BG5.out.2 ((k + 1) * 7 + 6) (by omega)).2
      have r6 := (BG5.out.2 ((k + 1) * 7 + 6) (by omega)).1
      have hgz := BG5.out.1
      have BG6 := Lib.hid (blk_put7 BG5.out hw3 (.bool y0') (.int .i64 y1') (.int .i64 y2') (.int .i64 y3') (.int .u32 y4') (.int .u32 y5') (.int .i64 y6'))
      have HB6 := Lib.hid (below_put7 (HBr.out.trans (HB5.out.mono HBr.out.size)) (g := g) (by omega) ((k + 1) * 7) (.bool y0') (.int .i64 y1') (.int .i64 y2') (.int .i64 y3') (.int .u32 y4') (.int .u32 y5') (.int .i64 y6'))
      have HD6 : Hid (Holds (putAt xs ((k + 1) * 7) [.bool y0', .int .i64 y1', .int .i64 y2', .int .i64 y3', .int .u32 y4', .int .u32 y5', .int .i64 y6']) 7 (fun k => headC (headL i cn (l.take k))) (fun q => q ≤ k ∨ q = (k + 1))) := by
        show Holds _ _ _ _
        have := holds_put HLD.out hlen (fun k => headC_len _) (k := (k + 1)) (by omega)
        simp only [HYC'.out] at this
        exact this
      go_simp
      refine hK.out _ _ (fun h => absurd rfl h) (fun hH => ?_)
      clear hK K hH
      (try simp only [Act.put, List.getElem_toArray, List.getElem_cons_succ, List.getElem_cons_zero, List.setIfInBounds_toArray, List.set_cons_zero, List.set_cons_succ])
      refine wpAnyZ_done (by kernel_rfl) ?_ _
      clear f0 r0 f1 r1 f2 r2 f3 r3 f4 r4 f5 r5 f6 r6 hgz d0 SS BG5 BG HB5
      go_wp2
      go_roundw
      case rel => exact ⟨(k + 1), _, by omega, by go_num, BG6.out, by rw [putAt_len, hlen], fun q hq => HD6.out q (by omega), HB6.out⟩
      case measure => first | (simp [intOf]; done) | (simp [intOf]; omega)
    · obtain rfl : k = l.length := by omega
      go_wp2
      go_ret
      exact ⟨g, rfl, by have := HB1.out.size; omega, row_of BG.out (fun q hq => HLD.out q (by omega)), HBW.out⟩
set_option maxRecDepth 100000 in
theorem pheads_no (v u : Value) (i : Prob) (c : Int) (w : World) (hv : Lies w v i) (hok : probOk i = true) (hp : i.pairs.length ≤ 1000000) (hc : inB c 0 (i.cars.length - 1) = false) :
    Calls Try.prog 14 #[v, .int .i64 c, u] w fun e w' => e = .returned (.slice none 0 0) ∧ Below w.heap.size w w' := by
  obtain ⟨A1, A2, A3, A4, c1, c2, c3, c4, rfl, hs⟩ := hv.said
  have hf := fine_of hok
  have hcl := hf.cars
  have BX0 := Lib.hid (box_new hs 28)
  have HB0 := Lib.hid ((Below.refl w.heap.size w).alloc (Nat.le_refl _) (.cells #[.slice A1 i.cars.length c1, .slice A2 i.stops.length c2, .slice A3 i.pairs.length c3, .slice A4 i.travel.length c4] 28))
  have KC : Hid (∀ W, Below w.heap.size w W → Calls Try.prog 33 #[.agg #[.slice A1 i.cars.length c1, .slice A2 i.stops.length c2, .slice A3 i.pairs.length c3, .slice A4 i.travel.length c4], .int .i64 c] W fun e w' => e = .returned (.bool false) ∧ Below W.heap.size W w') := fun W hB => by have := carThere_any _ i c W (Lies.below hs hB) hok hp; rw [hc] at this; exact this
  clear hs hv hf hok hc
  go_enter Try.func14, Try.ntmps14
  go_upto_region 1 with (fail)
  generalize w.alloc (.cells #[.slice A1 i.cars.length c1, .slice A2 i.stops.length c2, .slice A3 i.pairs.length c3, .slice A4 i.travel.length c4] 28) = wa at *
  have k0 := BX0.out.b0
  have k1 := BX0.out.b1
  have k2 := BX0.out.b2
  have k3 := BX0.out.b3
  have hIz := BX0.out.lt
  go_wp2_with (go_at_call 33; fail)
  (with_reducible refine (KC.out _ HB0.out).mono ?_)
  rintro e w1 ⟨rfl, hb1⟩
  have HB1 := Lib.hid (HB0.out.trans (hb1.mono HB0.out.size))
  clear hb1 k0 k1 k2 k3 hIz
  go_wp2
  go_ret
  exact ⟨rfl, HB1.out⟩
theorem pheads_in (v u : Value) (i : Prob) (c : Int) (l : List Int) (w : World) (hv : Lies w v i) (hok : probOk i = true) (hp : i.pairs.length ≤ 1000000) (hr : Recs w 1 num_ u l) (hl : l.length ≤ 1000) (hc : inB c 0 (i.cars.length - 1) = true) :
    Calls Try.prog 14 #[v, .int .i64 c, u] w fun e w' => ∃ g, e = .returned (.slice (some ⟨g, 0, none⟩) (l.length + 1) (l.length + 1)) ∧ w.heap.size ≤ g ∧ RowC w' g 7 (fun k => headC (headL i c (l.take k))) (l.length + 1) ∧ Below w.heap.size w w' := by
  obtain ⟨A1, A2, A3, A4, c1, c2, c3, c4, rfl, hs⟩ := hv.said
  have hf := fine_of hok
  have hcl := hf.cars
  have hm := mated_of hok
  have h2 := inB_iff.1 hc
  obtain ⟨cn, rfl⟩ : ∃ cn : Nat, c = (cn : Int) := ⟨c.toNat, by omega⟩
  obtain ⟨B3, o3, rfl, hB3, e0, e1, e2⟩ := said_car hs (show cn < i.cars.length by omega)
  exact pheads_walk u i cn _ _ _ l w B3 o3 A2 A3 A4 c1 c2 c3 c4 hs hr hl (by omega) hB3 e0 e1 e2
    (fun W hB => by have := carThere_any _ i cn W (Lies.below hs hB) hok hp; rw [hc] at this; exact this)
    (fun W _ => cbegin_any _ _ _ W)
    (fun k hk W hB => by
      have := cext_any _ i (carAt i cn).c (carAt i cn).s (carAt i cn).e (headL i cn (l.take k)) l[k] W (Lies.below hs hB) hf hp (fun h hh => (head_hbn hf (by omega) hh).hb (by omega))
      have he : (headL i cn (l.take k)).bind (fun h => extC i (carAt i cn).c h l[k]) = headL i cn (l.take (k + 1)) := by
        rw [head_step hk]
        cases hq : headL i cn (l.take k) with
        | none => rfl
        | some h => have A := head_agrees hm hf hq; exact ext_code hm A.opn A.need _
      rw [he] at this
      exact this)
end Go.Proofs.Ytkheepedjoimmaa
namespace Go.Proofs.Ytkheepedjoimmaa
open Go.RowKit
set_option linter.unusedSimpArgs false

theorem ptails_info : (Try.prog.info? 46).map (fun i => (i.zero, i.size, i.bytes)) = some (some (.agg #[.bool false, .int .i64 0, .int .i64 0, .int .i64 0, .int .i64 0, .int .u32 0, .int .u32 0, .int .i64 0]), 8, 56) := by kernel_rfl
set_option maxRecDepth 100000 in
set_option maxHeartbeats 8000000 in
theorem ptails_walk (u : Value) (i : Prob) (cn : Nat) (cap st en : Int) (l : List Int) (w : World) (B3 o3 : Nat) (A2 A3 A4 : Option Addr) (c1 c2 c3 c4 : Nat) (hs : Said w (some ⟨B3, o3, none⟩) A2 A3 A4 c1 c2 c3 c4 i) (hr : Recs w 1 num_ u l) (hl : l.length ≤ 1000) (hcn : cn < i.cars.length) (hB3 : B3 < w.heap.size) (e0 : w.cell? ⟨B3, o3 + cn * 3, none⟩ = some (.int .i64 cap)) (e1 : w.cell? ⟨B3, o3 + cn * 3 + 1, none⟩ = some (.int .i64 st)) (e2 : w.cell? ⟨B3, o3 + cn * 3 + 2, none⟩ = some (.int .i64 en))
    (KC : ∀ W, Below w.heap.size w W → Calls Try.prog 33 #[.agg #[.slice (some ⟨B3, o3, none⟩) i.cars.length c1, .slice A2 i.stops.length c2, .slice A3 i.pairs.length c3, .slice A4 i.travel.length c4], .int .i64 cn] W fun e w' => e = .returned (.bool true) ∧ Below W.heap.size W w')
    (KB : ∀ W, Below w.heap.size w W → Calls Try.prog 36 #[.agg #[.int .i64 cap, .int .i64 st, .int .i64 en]] W fun e w' => e = .returned (tailV (tailL i cn (l.drop l.length))) ∧ Below W.heap.size W w')
    (KX : ∀ (k : Nat) (hk : k < l.length) (W : World), Below w.heap.size w W → Calls Try.prog 37 #[.agg #[.slice (some ⟨B3, o3, none⟩) i.cars.length c1, .slice A2 i.stops.length c2, .slice A3 i.pairs.length c3, .slice A4 i.travel.length c4], .int .i64 l[k], tailV (tailL i cn (l.drop (k + 1)))] W fun e w' => e = .returned (tailV (tailL i cn (l.drop k))) ∧ Below W.heap.size W w') :
    Calls Try.prog 15 #[.agg #[.slice (some ⟨B3, o3, none⟩) i.cars.length c1, .slice A2 i.stops.length c2, .slice A3 i.pairs.length c3, .slice A4 i.travel.length c4], .int .i64 cn, u] w fun e w' => ∃ g, e = .returned (.slice (some ⟨g, 0, none⟩) (l.length + 1) (l.length + 1)) ∧ w.heap.size ≤ g ∧ RowC w' g 8 (fun k => tailC (tailL i cn (l.drop k))) (l.length + 1) ∧ Below w.heap.size w w' := by
  obtain ⟨A, cpp, rfl, hcell⟩ := hr.num
  have HCE := Lib.hid hcell
  have BX0 := Lib.hid (box_new hs 28)
  have HB0 := Lib.hid ((Below.refl w.heap.size w).alloc (Nat.le_refl _) (.cells #[.slice (some ⟨B3, o3, none⟩) i.cars.length c1, .slice A2 i.stops.length c2, .slice A3 i.pairs.length c3, .slice A4 i.travel.length c4] 28))
  have KC := Lib.hid KC
  have KB := Lib.hid KB
  have KX := Lib.hid KX
  have e0' := Lib.hid e0
  have e1' := Lib.hid e1
  have e2' := Lib.hid e2
  have hmk := Lib.hid (fun W => make_row1 (S := 38) (E := 46) #[.bool false, .int .i64 0, .int .i64 0, .int .i64 0, .int .i64 0, .int .u32 0, .int .u32 0, .int .i64 0] rfl Try.underlying38 ptails_info (by omega) l.length (by omega) W)
  clear hs hr hcell e0 e1 e2
  go_enter Try.func15, Try.ntmps15
  go_upto_region 1 with (fail)
  have hwz : w.heap.size < (w.alloc (.cells #[.slice (some ⟨B3, o3, none⟩) i.cars.length c1, .slice A2 i.stops.length c2, .slice A3 i.pairs.length c3, .slice A4 i.travel.length c4] 28)).heap.size := by simp
  generalize w.alloc (.cells #[.slice (some ⟨B3, o3, none⟩) i.cars.length c1, .slice A2 i.stops.length c2, .slice A3 i.pairs.length c3, .slice A4 i.travel.length c4] 28) = wa at *
  have k0 := BX0.out.b0
  have k1 := BX0.out.b1
  have k2 := BX0.out.b2
  have k3 := BX0.out.b3
  have hIz := BX0.out.lt
  go_wp2_with (go_at_call 33; fail)
  (with_reducible refine (KC.out _ HB0.out).mono ?_)
  rintro e w1 ⟨rfl, hb1⟩
  have HB1 := Lib.hid (HB0.out.trans (hb1.mono HB0.out.size))
  have BX1 := Lib.hid (BX0.out.below hb1)
  clear hb1 k0 k1 k2 k3 hIz KC BX0 HB0
  have SS1 : Hid (∀ W, Below w1.heap.size w1 W → W.cell? ⟨w.heap.size, 0, none⟩ = some (.slice (some ⟨B3, o3, none⟩) i.cars.length c1) ∧ W.cell? ⟨w.heap.size, 1, none⟩ = some (.slice A2 i.stops.length c2) ∧ W.cell? ⟨w.heap.size, 2, none⟩ = some (.slice A3 i.pairs.length c3) ∧ W.cell? ⟨w.heap.size, 3, none⟩ = some (.slice A4 i.travel.length c4) ∧ W.cell? ⟨B3, o3 + cn * 3, none⟩ = some (.int .i64 cap) ∧ W.cell? ⟨B3, o3 + cn * 3 + 1, none⟩ = some (.int .i64 st) ∧ W.cell? ⟨B3, o3 + cn * 3 + 2, none⟩ = some (.int .i64 en)) := fun W hB =>
    have hB' : Below w.heap.size w W := HB1.out.trans (hB.mono HB1.out.size)
    ⟨(BX1.out.below hB).b0, (BX1.out.below hB).b1, (BX1.out.below hB).b2, (BX1.out.below hB).b3, cell_up hB' hB3 e0'.out, cell_up hB' hB3 e1'.out, cell_up hB' hB3 e2'.out⟩
  have hw1 : IntKind.i64.wrap ((l.length : Int) + 1) = (l.length : Int) + 1 := IntWalk.i64_in _ (by omega)
  have hmk1 := hmk.out w1
  go_upto_region 4 with (fail)
  have HB2 := Lib.hid ((Below.refl w1.heap.size w1).alloc (Nat.le_refl _) (.cells (madeCells #[.bool false, .int .i64 0, .int .i64 0, .int .i64 0, .int .i64 0, .int .u32 0, .int .u32 0, .int .i64 0] ((l.length + 1) * 8)) 46))
  have BG0 := Lib.hid (blk_new w1 (madeCells #[.bool false, .int .i64 0, .int .i64 0, .int .i64 0, .int .i64 0, .int .u32 0, .int .u32 0, .int .i64 0] ((l.length + 1) * 8)) 46)
  have hxl : (madeCells #[.bool false, .int .i64 0, .int .i64 0, .int .i64 0, .int .i64 0, .int .u32 0, .int .u32 0, .int .i64 0] ((l.length + 1) * 8)).toList.length = (l.length + 1) * 8 := made_len _ _
  clear hmk hmk1
  generalize w1.alloc (.cells (madeCells #[.bool false, .int .i64 0, .int .i64 0, .int .i64 0, .int .i64 0, .int .u32 0, .int .u32 0, .int .i64 0] ((l.length + 1) * 8)) 46) = w2 at *
  generalize (madeCells #[.bool false, .int .i64 0, .int .i64 0, .int .i64 0, .int .i64 0, .int .u32 0, .int .u32 0, .int .i64 0] ((l.length + 1) * 8)).toList = xs0 at *
  have hgw : w1.heap.size ≤ w1.heap.size := Nat.le_refl _
  generalize hgg : w1.heap.size = g at hgw BG0 ⊢
  obtain ⟨k0, k1, k2, k3, e0, e1, e2⟩ := SS1.out w2 HB2.out
  have hIz := (BX1.out.below HB2.out).lt
  have n0 : (0 : Int) ≤ (cn : Int) := by omega
  have n1 : (cn : Int) < (i.cars.length : Int) := by omega
  have n2 : (cn : Int).toNat = cn := by omega
  have hB3z : B3 < w2.heap.size := Nat.lt_of_lt_of_le hB3 (HB1.out.trans (HB2.out.mono HB1.out.size)).size
  go_wp2_with (go_at_call 36; fail)
  (with_reducible refine (KB.out _ (HB1.out.trans (HB2.out.mono HB1.out.size))).mono ?_)
  rintro e w3 ⟨rfl, hb3⟩
  have HB3 := Lib.hid (HB2.out.trans (hb3.mono HB2.out.size))
  have BG3 := Lib.hid (BG0.out.below hb3)
  clear hb3 k0 k1 k2 k3 e0 e1 e2 hIz hB3z BG0 HB2 KB
  obtain ⟨y0, y1, y2, y3, y4, y5, y6, y7, hyV, hyC⟩ := tail_form (tailL i cn (l.drop l.length))
  rw [hyV]
  have HYC := Lib.hid hyC
  clear hyV hyC
  have hp0 : l.length * 8 + 8 ≤ xs0.length := by rw [hxl]; omega
  have hpz : l.length * 8 + 8 ≤ xs0.length := by omega
  have f0 := (BG3.out.2 (l.length * 8) (by omega)).2
  have r0 := (BG3.out.2 (l.length * 8) (by omega)).1
  have f1 := (BG3.out.2 (l.length * 8 + 1) (by omega)).2
  have r1 := (BG3.out.2 (l.length * 8 + 1) (by omega)).1
  have f2 := (BG3.out.2 (l.length * 8 + 2) (by omega)).2
  have r2 := (BG3.out.2 (l.length * 8 + 2) (by omega)).1
  have f3 := (BG3.out.2 (l.length * 8 + 3) (by omega)).2
  have r3 := (BG3.out.2 (l.length * 8 + 3) (by omega)).1
  have f4 := (BG3.out.2 (l.length * 8 + 4) (by omega)).2
  have r4 := (BG3.out.2 (l.length * 8 + 4) (by omega)).1
  have f5 := (BG3.out.2 (l.length * 8 + 5) (by omega)).2
  have r5 := (BG3.out.2 (l.length * 8 + 5) (by omega)).1
  have f6 := (BG3.out.2 (l.length * 8 + 6) (by omega)).2
  have r6 := (BG3.out.2 (l.length * 8 + 6) (by omega)).1
  have f7 := (BG3.out.2 (l.length * 8 + 7) (by omega)).2
  have r7 := (BG3.out.2 (l.length * 8 + 7) (by omega)).1
  have hgz := BG3.out.1
  have BG4 := Lib.hid (blk_put8 BG3.out hpz (.bool y0) (.int .i64 y1) (.int .i64 y2) (.int .i64 y3) (.int .i64 y4) (.int .u32 y5) (.int .u32 y6) (.int .i64 y7))
  have HB4 := Lib.hid (below_put8 HB3.out (g := g) (by omega) (l.length * 8) (.bool y0) (.int .i64 y1) (.int .i64 y2) (.int .i64 y3) (.int .i64 y4) (.int .u32 y5) (.int .u32 y6) (.int .i64 y7))
  have HD0 : Hid (Holds (putAt xs0 (l.length * 8) [.bool y0, .int .i64 y1, .int .i64 y2, .int .i64 y3, .int .i64 y4, .int .u32 y5, .int .u32 y6, .int .i64 y7]) 8 (fun k => tailC (tailL i cn (l.drop k))) (fun q => False ∨ q = l.length)) := by
    show Holds _ _ _ _
    have := holds_put (xs := xs0) (m := 8) (n := l.length + 1) (f := fun k => tailC (tailL i cn (l.drop k))) (P := fun _ => False) (fun _ h => h.elim) hxl (fun k => tailC_len _) (k := l.length) (by omega)
    simp only [HYC.out] at this
    exact this
  have m0 : (0 : Int) ≤ (l.length : Int) := by omega
  have m1 : (l.length : Int) < ((l.length + 1 : Nat) : Int) := by omega
  have m1' : (l.length : Int) < (l.length : Int) + 1 := by omega
  have m2 : (l.length : Int).toNat = l.length := by omega
  have m3 : (0 : Int) < (l.length : Int) + 1 := by omega
  go_wp2
  clear f0 r0 f1 r1 f2 r2 f3 r3 f4 r4 f5 r5 f6 r6 f7 r7 hgz m0 m1 m1' m2 m3 BG3 HB3
  go_loopw [8] (fun kv wr => ∃ (k : Nat) (xs : List Value), k ≤ l.length ∧ kv = .int .i64 ((k : Int) - 1) ∧ Blk wr g xs ∧ xs.length = (l.length + 1) * 8 ∧ Holds xs 8 (fun k => tailC (tailL i cn (l.drop k))) (fun q => k ≤ q ∧ q ≤ l.length) ∧ Below w1.heap.size w1 wr) (fun kv _ => (intOf kv + 1).toNat)
  case atStart => exact ⟨l.length, _, by omega, by go_num, BG4.out, by rw [putAt_len, hxl], fun q hq => HD0.out q (.inr (by omega)), HB4.out⟩
  case round =>
    obtain ⟨k1, xs, hk, rfl, hbg, hlen, hold, hbr⟩ := hrel
    have BG := Lib.hid hbg
    have HLD := Lib.hid hold
    have HBr := Lib.hid hbr
    have HBW : Hid (Below w.heap.size w wr) := HB1.out.trans (hbr.mono HB1.out.size)
    clear hbg hold hbr BG4 HB4 HD0
    by_cases hlt : 0 < k1
    · obtain ⟨k, rfl⟩ : ∃ k, k1 = k + 1 := ⟨k1 - 1, by omega⟩
      have hkl : k < l.length := by omega
      rw [show ((k + 1 : Nat) : Int) - 1 = (k : Int) by omega]
      obtain ⟨B, o, rfl, hB, hx⟩ := HCE.out k hkl
      have d0 : wr.cell? ⟨B, o + k, none⟩ = some (.int .i64 l[k]) := cell_up HBW.out hB hx
      have hBz := Nat.lt_of_lt_of_le hB HBW.out.size
      obtain ⟨x0, x1, x2, x3, x4, x5, x6, x7, hxV, hxC⟩ := tail_form (tailL i cn (l.drop (k + 1)))
      obtain ⟨y0', y1', y2', y3', y4', y5', y6', y7', hyV, hyC⟩ := tail_form (tailL i cn (l.drop k))
      have KE : Hid (∀ W, Below w.heap.size w W → Calls Try.prog 37 #[.agg #[.slice (some ⟨B3, o3, none⟩) i.cars.length c1, .slice A2 i.stops.length c2, .slice A3 i.pairs.length c3, .slice A4 i.travel.length c4], .int .i64 l[k], .agg #[.bool x0, .int .i64 x1, .int .i64 x2, .int .i64 x3, .int .i64 x4, .int .u32 x5, .int .u32 x6, .int .i64 x7]] W fun e w' => e = .returned (.agg #[.bool y0', .int .i64 y1', .int .i64 y2', .int .i64 y3', .int .i64 y4', .int .u32 y5', .int .u32 y6', .int .i64 y7']) ∧ Below W.heap.size W w') := fun W hB => by
        have := KX.out k hkl W hB
        rw [hxV, hyV] at this; exact this
      have HYC' := Lib.hid hyC
      have hw2 : (k + 1) * 8 + 8 ≤ xs.length := by rw [hlen]; omega
      have hw3 : k * 8 + 8 ≤ xs.length := by rw [hlen]; omega
      have hrow : ∀ j u, j < 8 → [.bool x0, .int .i64 x1, .int .i64 x2, .int .i64 x3, .int .i64 x4, .int .u32 x5, .int .u32 x6, .int .i64 x7][j]? = some u → xs[(k + 1) * 8 + j]? = some u := fun j u hj hu => by
        rw [HLD.out (k + 1) (by omega) j hj]
        show (tailC (tailL i cn (l.drop (k + 1))))[j]? = some u
        rw [hxC]; exact hu
      have cc0 := blk_cell BG.out (hrow 0 _ (by omega) rfl)
      have cc1 := blk_cell BG.out (hrow 1 _ (by omega) rfl)
      have cc2 := blk_cell BG.out (hrow 2 _ (by omega) rfl)
      have cc3 := blk_cell BG.out (hrow 3 _ (by omega) rfl)
      have cc4 := blk_cell BG.out (hrow 4 _ (by omega) rfl)
      have cc5 := blk_cell BG.out (hrow 5 _ (by omega) rfl)
      have cc6 := blk_cell BG.out (hrow 6 _ (by omega) rfl)
      have cc7 := blk_cell BG.out (hrow 7 _ (by omega) rfl)
      try rw [Nat.add_zero] at cc0
      have SS : Hid (∀ W, Below wr.heap.size wr W → W.cell? ⟨w.heap.size, 0, none⟩ = some (.slice (some ⟨B3, o3, none⟩) i.cars.length c1) ∧ W.cell? ⟨w.heap.size, 1, none⟩ = some (.slice A2 i.stops.length c2) ∧ W.cell? ⟨w.heap.size, 2, none⟩ = some (.slice A3 i.pairs.length c3) ∧ W.cell? ⟨w.heap.size, 3, none⟩ = some (.slice A4 i.travel.length c4) ∧ W.cell? ⟨g, (k + 1) * 8, none⟩ = some (.bool x0) ∧ W.cell? ⟨g, (k + 1) * 8 + 1, none⟩ = some (.int .i64 x1) ∧ W.cell? ⟨g, (k + 1) * 8 + 2, none⟩ = some (.int .i64 x2) ∧ W.cell? ⟨g, (k + 1) * 8 + 3, none⟩ = some (.int .i64 x3) ∧ W.cell? ⟨g, (k + 1) * 8 + 4, none⟩ = some (.int .i64 x4) ∧ W.cell? ⟨g, (k + 1) * 8 + 5, none⟩ = some (.int .u32 x5) ∧ W.cell? ⟨g, (k + 1) * 8 + 6, none⟩ = some (.int .u32 x6) ∧ W.cell? ⟨g, (k + 1) * 8 + 7, none⟩ = some (.int .i64 x7) ∧ W.cell? ⟨B, o + k, none⟩ = some (.int .i64 l[k])) := fun W hB =>
        have q := SS1.out W (HBr.out.trans (hB.mono HBr.out.size))
        ⟨q.1, q.2.1, q.2.2.1, q.2.2.2.1, cell_up hB BG.out.1 cc0, cell_up hB BG.out.1 cc1, cell_up hB BG.out.1 cc2, cell_up hB BG.out.1 cc3, cell_up hB BG.out.1 cc4, cell_up hB BG.out.1 cc5, cell_up hB BG.out.1 cc6, cell_up hB BG.out.1 cc7, cell_up hB hBz d0⟩
      clear cc0 cc1 cc2 cc3 cc4 cc5 cc6 cc7 hrow hxV hxC hyV hyC
      have hnm : (k : Int) < (l.length : Int) := by omega
      have n3 : (0 : Int) ≤ (k : Int) := by omega
      have n4 : (k : Int).toNat = k := by omega
      have n5 : (k : Int) < ((l.length + 1 : Nat) : Int) := by omega
      have n5' : (k : Int) < (l.length : Int) + 1 := by omega
      have n6 : (0 : Int) ≤ (k : Int) + 1 := by omega
      have n7 : (k : Int) + 1 < ((l.length + 1 : Nat) : Int) := by omega
      have n7' : (k : Int) + 1 < (l.length : Int) + 1 := by omega
      have n8 : ((k : Int) + 1).toNat = k + 1 := by omega
      have n9 : IntKind.i64.wrap ((k : Int) + 1) = (k : Int) + 1 := IntWalk.i64_in _ (by omega)
      generalize l[k] = s at *
      go_upto_region 8 with (fail)
      refine wp_region_z (S := (fun W => W.cell? ⟨w.heap.size, 0, none⟩ = some (.slice (some ⟨B3, o3, none⟩) i.cars.length c1) ∧ W.cell? ⟨w.heap.size, 1, none⟩ = some (.slice A2 i.stops.length c2) ∧ W.cell? ⟨w.heap.size, 2, none⟩ = some (.slice A3 i.pairs.length c3) ∧ W.cell? ⟨w.heap.size, 3, none⟩ = some (.slice A4 i.travel.length c4) ∧ W.cell? ⟨g, (k + 1) * 8, none⟩ = some (.bool x0) ∧ W.cell? ⟨g, (k + 1) * 8 + 1, none⟩ = some (.int .i64 x1) ∧ W.cell? ⟨g, (k + 1) * 8 + 2, none⟩ = some (.int .i64 x2) ∧ W.cell? ⟨g, (k + 1) * 8 + 3, none⟩ = some (.int .i64 x3) ∧ W.cell? ⟨g, (k + 1) * 8 + 4, none⟩ = some (.int .i64 x4) ∧ W.cell? ⟨g, (k + 1) * 8 + 5, none⟩ = some (.int .u32 x5) ∧ W.cell? ⟨g, (k + 1) * 8 + 6, none⟩ = some (.int .u32 x6) ∧ W.cell? ⟨g, (k + 1) * 8 + 7, none⟩ = some (.int .i64 x7) ∧ W.cell? ⟨B, o + k, none⟩ = some (.int .i64 s))) (z := 14) (by kernel_rfl) (SS.out _ (Below.refl wr.heap.size wr).drew) (fun hH => ?_)
      refine wpAnyZ_take (i := 0) (v := ?_) rfl (by kernel_rfl) (by kernel_rfl) (by kernel_rfl) rfl (by kernel_rfl) (fun _ _ _ h => h) (gives_value (by rfl) ?_) (by assumption) ?_
      rotate_left
      · intro w hSw
        (try dsimp only at hSw)
        go_simp
        (try with_reducible rfl)
      (try simp only [Act.put, List.getElem_toArray, List.getElem_cons_succ, List.getElem_cons_zero, List.setIfInBounds_toArray, List.set_cons_zero, List.set_cons_succ])
      refine wpAnyZ_take (i := 1) (v := ?_) rfl (by kernel_rfl) (by kernel_rfl) (by kernel_rfl) rfl (by kernel_rfl) (fun _ _ _ h => h) (gives_value (by rfl) ?_) (by assumption) ?_
      rotate_left
      · intro w hSw
        (try dsimp only at hSw)
        go_simp
        (try with_reducible rfl)
      (try simp only [Act.put, List.getElem_toArray, List.getElem_cons_succ, List.getElem_cons_zero, List.setIfInBounds_toArray, List.set_cons_zero, List.set_cons_succ])
      refine wpAnyZ_take (i := 2) (v := ?_) rfl (by kernel_rfl) (by kernel_rfl) (by kernel_rfl) rfl (by kernel_rfl) (fun _ _ _ h => h) (gives_value (by rfl) ?_) (by assumption) ?_
      rotate_left
      · intro w hSw
        (try dsimp only at hSw)
        go_simp
        (try with_reducible rfl)
      (try simp only [Act.put, List.getElem_toArray, List.getElem_cons_succ, List.getElem_cons_zero, List.setIfInBounds_toArray, List.set_cons_zero, List.set_cons_succ])
      refine wpAnyZ_take (i := 3) (v := ?_) rfl (by kernel_rfl) (by kernel_rfl) (by kernel_rfl) rfl (by kernel_rfl) (fun _ _ _ h => h) (gives_value (by rfl) ?_) (by assumption) ?_
      rotate_left
      · intro w hSw
        (try dsimp only at hSw)
        go_simp
        (try with_reducible rfl)
      (try simp only [Act.put, List.getElem_toArray, List.getElem_cons_succ, List.getElem_cons_zero, List.setIfInBounds_toArray, List.set_cons_zero, List.set_cons_succ])
      refine wpAnyZ_take (i := 4) (v := ?_) rfl (by kernel_rfl) (by kernel_rfl) (by kernel_rfl) rfl (by kernel_rfl) (fun _ _ _ h => h) (gives_value (by rfl) ?_) (by assumption) ?_
      rotate_left
      · intro w hSw
        (try dsimp only at hSw)
        go_simp
        (try with_reducible rfl)
      (try simp only [Act.put, List.getElem_toArray, List.getElem_cons_succ, List.getElem_cons_zero, List.setIfInBounds_toArray, List.set_cons_zero, List.set_cons_succ])
      refine wpAnyZ_take (i := 5) (v := ?_) rfl (by kernel_rfl) (by kernel_rfl) (by kernel_rfl) rfl (by kernel_rfl) (fun _ _ _ h => h) (gives_value (by rfl) ?_) (by assumption) ?_
      rotate_left
      · intro w hSw
        (try dsimp only at hSw)
        go_simp
        (try with_reducible rfl)
      (try simp only [Act.put, List.getElem_toArray, List.getElem_cons_succ, List.getElem_cons_zero, List.setIfInBounds_toArray, List.set_cons_zero, List.set_cons_succ])
      refine wpAnyZ_take (i := 6) (v := ?_) rfl (by kernel_rfl) (by kernel_rfl) (by kernel_rfl) rfl (by kernel_rfl) (fun _ _ _ h => h) (gives_value (by rfl) ?_) (by assumption) ?_
      rotate_left
      · intro w hSw
        (try dsimp only at hSw)
        go_simp
        (try with_reducible rfl)
      (try simp only [Act.put, List.getElem_toArray, List.getElem_cons_succ, List.getElem_cons_zero, List.setIfInBounds_toArray, List.set_cons_zero, List.set_cons_succ])
      refine wpAnyZ_take (i := 7) (v := ?_) rfl (by kernel_rfl) (by kernel_rfl) (by kernel_rfl) rfl (by kernel_rfl) (fun _ _ _ h => h) (gives_value (by rfl) ?_) (by assumption) ?_
      rotate_left
      · intro w hSw
        (try dsimp only at hSw)
        go_simp
        (try with_reducible rfl)
      (try simp only [Act.put, List.getElem_toArray, List.getElem_cons_succ, List.getElem_cons_zero, List.setIfInBounds_toArray, List.set_cons_zero, List.set_cons_succ])
      refine wpAnyZ_take (i := 8) (v := ?_) rfl (by kernel_rfl) (by kernel_rfl) (by kernel_rfl) rfl (by kernel_rfl) (fun _ _ _ h => h) (gives_value (by rfl) ?_) (by assumption) ?_
      rotate_left
      · intro w hSw
        (try dsimp only at hSw)
        go_simp
        (try with_reducible rfl)
      (try simp only [Act.put, List.getElem_toArray, List.getElem_cons_succ, List.getElem_cons_zero, List.setIfInBounds_toArray, List.set_cons_zero, List.set_cons_succ])
      refine wpAnyZ_take (i := 9) (v := ?_) rfl (by kernel_rfl) (by kernel_rfl) (by kernel_rfl) rfl (by kernel_rfl) (fun _ _ _ h => h) (gives_value (by rfl) ?_) (by assumption) ?_
      rotate_left
      · intro w hSw
        (try dsimp only at hSw)
        go_simp
        (try with_reducible rfl)
      (try simp only [Act.put, List.getElem_toArray, List.getElem_cons_succ, List.getElem_cons_zero, List.setIfInBounds_toArray, List.set_cons_zero, List.set_cons_succ])
      refine wpAnyZ_take (i := 10) (v := ?_) rfl (by kernel_rfl) (by kernel_rfl) (by kernel_rfl) rfl (by kernel_rfl) (fun _ _ _ h => h) (gives_value (by rfl) ?_) (by assumption) ?_
      rotate_left
      · intro w hSw
        (try dsimp only at hSw)
        go_simp
        (try with_reducible rfl)
      (try simp only [Act.put, List.getElem_toArray, List.getElem_cons_succ, List.getElem_cons_zero, List.setIfInBounds_toArray, List.set_cons_zero, List.set_cons_succ])
      refine wpAnyZ_take (i := 11) (v := ?_) rfl (by kernel_rfl) (by kernel_rfl) (by kernel_rfl) rfl (by kernel_rfl) (fun _ _ _ h => h) (gives_value (by rfl) ?_) (by assumption) ?_
      rotate_left
      · intro w hSw
        (try dsimp only at hSw)
        go_simp
        (try with_reducible rfl)
      (try simp only [Act.put, List.getElem_toArray, List.getElem_cons_succ, List.getElem_cons_zero, List.setIfInBounds_toArray, List.set_cons_zero, List.set_cons_succ])
      refine wpAnyZ_one (i := 12) (by kernel_rfl) ?_
      refine zstep rfl (fun K hK => ?_)
      go_simp
      (with_reducible refine (KE.out _ HBW.out.drew).mono ?_)
      rintro e w5 ⟨rfl, hb⟩
      have HB5 := Lib.hid (((Below.refl wr.heap.size wr).drew).trans hb)
      have BG5 := Lib.hid (BG.out.below HB5.out)
      clear hb
      refine hK.out _ _ (fun _ => SS.out _ HB5.out) (fun hH => ?_)
      replace hH := hH (by decide)
      clear hK K
      (try simp only [Act.put, List.getElem_toArray, List.getElem_cons_succ, List.getElem_cons_zero, List.setIfInBounds_toArray, List.set_cons_zero, List.set_cons_succ])
      refine wpAnyZ_take (i := 13) (v := ?_) rfl (by kernel_rfl) (by kernel_rfl) (by kernel_rfl) rfl (by kernel_rfl) (fun _ _ _ h => h) (gives_value (by rfl) ?_) (by assumption) ?_
      rotate_left
      · intro w hSw
        (try dsimp only at hSw)
        go_simp
        (try with_reducible rfl)
      (try simp only [Act.put, List.getElem_toArray, List.getElem_cons_succ, List.getElem_cons_zero, List.setIfInBounds_toArray, List.set_cons_zero, List.set_cons_succ])
      refine wpAnyZ_one (i := 14) (by kernel_rfl) ?_
      refine zstep rfl (fun K hK => ?_)
      have f0 := (BG5.out.2 (k * 8) (by omega)).2
      have r0 := (BG5.out.2 (k * 8) (by omega)).1
      have f1 := (BG5.out.2 (k * 8 + 1) (by omega)).2
      have r1 := (BG5.out.2 (k * 8 + 1) (by omega)).1
      have f2 := (BG5.out.2 (k * 8 + 2) (by omega)).2
      have r2 := (BG5.out.2 (k * 8 + 2) (by omega)).1
      have f3 := (BG5.out.2 (k * 8 + 3) (by omega)).2
      have r3 := (BG5.out.2 (k * 8 + 3) (by omega)).1
      have f4 := (BG5.out.2 (k * 8 + 4) (by omega)).2
      have r4 := (BG5.out.2 (k * 8 + 4) (by omega)).1
      have f5 := (BG5.out.2 (k * 8 + 5) (by omega)).2
      have r5 := (BG5.out.2 (k * 8 + 5) (by omega)).1
      have f6 := (BG5.out.2 (k * 8 + 6) (by omega)).2
      have r6 := (BG5.out.2 (k * 8 + 6) (by omega)).1
      have f7 := (BG5.out.2 (k * 8 + 7) (by omega)).2
      have r7 := (BG5.out.2 (k * 8 + 7) (by omega)).1
      have hgz := BG5.out.1
      have BG6 := Lib.hid (blk_put8 BG5.out hw3 (.bool y0') (.int .i64 y1') (.int .i64 y2') (.int .i64 y3') (.int .i64 y4') (.int .u32 y5') (.int .u32 y6') (.int .i64 y7'))
      have HB6 := Lib.hid (below_put8 (HBr.out.trans (HB5.out.mono HBr.out.size)) (g := g) (by omega) (k * 8) (.bool y0') (.int .i64 y1') (.int .i64 y2') (.int .i64 y3') (.int .i64 y4') (.int .u32 y5') (.int .u32 y6') (.int .i64 y7'))
      have HD6 : Hid (Holds (putAt xs (k * 8) [.bool y0', .int .i64 y1', .int .i64 y2', .int .i64 y3', .int .i64 y4', .int .u32 y5', .int .u32 y6', .int .i64 y7']) 8 (fun k => tailC (tailL i cn (l.drop k))) (fun q => (k + 1 ≤ q ∧ q ≤ l.length) ∨ q = k)) := by
        show Holds _ _ _ _
        have := holds_put HLD.out hlen (fun k => tailC_len _) (k := k) (by omega)
        simp only [HYC'.out] at this
        exact this
      go_simp
      refine hK.out _ _ (fun h => absurd rfl h) (fun hH => ?_)
      clear hK K hH
      (try simp only [Act.put, List.getElem_toArray, List.getElem_cons_succ, List.getElem_cons_zero, List.setIfInBounds_toArray, List.set_cons_zero, List.set_cons_succ])
      refine wpAnyZ_done (by kernel_rfl) ?_ _
      clear f0 r0 f1 r1 f2 r2 f3 r3 f4 r4 f5 r5 f6 r6 f7 r7 hgz d0 SS BG5 BG HB5
      go_wp2
      go_roundw
      case rel => exact ⟨k, _, by omega, by go_num, BG6.out, by rw [putAt_len, hlen], fun q hq => HD6.out q (by omega), HB6.out⟩
      case measure => first | (simp [intOf]; done) | (simp [intOf]; omega)
    · obtain rfl : k1 = 0 := by omega
      go_wp2
      go_ret
      exact ⟨g, rfl, by have := HB1.out.size; omega, row_of BG.out (fun q hq => HLD.out q (by omega)), HBW.out⟩
set_option maxRecDepth 100000 in
theorem ptails_no (v u : Value) (i : Prob) (c : Int) (w : World) (hv : Lies w v i) (hok : probOk i = true) (hp : i.pairs.length ≤ 1000000) (hc : inB c 0 (i.cars.length - 1) = false) :
    Calls Try.prog 15 #[v, .int .i64 c, u] w fun e w' => e = .returned (.slice none 0 0) ∧ Below w.heap.size w w' := by
  obtain ⟨A1, A2, A3, A4, c1, c2, c3, c4, rfl, hs⟩ := hv.said
  have hf := fine_of hok
  have hcl := hf.cars
  have BX0 := Lib.hid (box_new hs 28)
  have HB0 := Lib.hid ((Below.refl w.heap.size w).alloc (Nat.le_refl _) (.cells #[.slice A1 i.cars.length c1, .slice A2 i.stops.length c2, .slice A3 i.pairs.length c3, .slice A4 i.travel.length c4] 28))
  have KC : Hid (∀ W, Below w.heap.size w W → Calls Try.prog 33 #[.agg #[.slice A1 i.cars.length c1, .slice A2 i.stops.length c2, .slice A3 i.pairs.length c3, .slice A4 i.travel.length c4], .int .i64 c] W fun e w' => e = .returned (.bool false) ∧ Below W.heap.size W w') := fun W hB => by have := carThere_any _ i c W (Lies.below hs hB) hok hp; rw [hc] at this; exact this
  clear hs hv hf hok hc
  go_enter Try.func15, Try.ntmps15
  go_upto_region 1 with (fail)
  generalize w.alloc (.cells #[.slice A1 i.cars.length c1, .slice A2 i.stops.length c2, .slice A3 i.pairs.length c3, .slice A4 i.travel.length c4] 28) = wa at *
  have k0 := BX0.out.b0
  have k1 := BX0.out.b1
  have k2 := BX0.out.b2
  have k3 := BX0.out.b3
  have hIz := BX0.out.lt
  go_wp2_with (go_at_call 33; fail)
  (with_reducible refine (KC.out _ HB0.out).mono ?_)
  rintro e w1 ⟨rfl, hb1⟩
  have HB1 := Lib.hid (HB0.out.trans (hb1.mono HB0.out.size))
  clear hb1 k0 k1 k2 k3 hIz
  go_wp2
  go_ret
  exact ⟨rfl, HB1.out⟩
theorem tail_bd {i : Prob} (hf : Fine i) {c : Int} (hc : inB c 0 (i.cars.length - 1) = true) {l : List Int} (hl : l.length ≤ 1000) {k : Nat} {t : TailP} (h : tailL i c (l.drop k) = some t) : TBd i t ∧ 0 ≤ t.late ∧ t.late ≤ 1000 := by
  have H := tail_tbn hf hc h
  have hk : (l.drop k).length ≤ 1000 := by rw [List.length_drop]; omega
  have h1 := H.low
  have h2 := H.high
  have h3 := H.cost
  have h4 := H.late
  exact ⟨⟨H.first, by omega, by omega, by omega, H.need, H.set, by omega⟩, h4⟩
theorem ptails_in (v u : Value) (i : Prob) (c : Int) (l : List Int) (w : World) (hv : Lies w v i) (hok : probOk i = true) (hp : i.pairs.length ≤ 1000000) (hr : Recs w 1 num_ u l) (hl : l.length ≤ 1000) (hc : inB c 0 (i.cars.length - 1) = true) :
    Calls Try.prog 15 #[v, .int .i64 c, u] w fun e w' => ∃ g, e = .returned (.slice (some ⟨g, 0, none⟩) (l.length + 1) (l.length + 1)) ∧ w.heap.size ≤ g ∧ RowC w' g 8 (fun k => tailC (tailL i c (l.drop k))) (l.length + 1) ∧ Below w.heap.size w w' := by
  obtain ⟨A1, A2, A3, A4, c1, c2, c3, c4, rfl, hs⟩ := hv.said
  have hf := fine_of hok
  have hcl := hf.cars
  have hm := mated_of hok
  have h2 := inB_iff.1 hc
  obtain ⟨cn, rfl⟩ : ∃ cn : Nat, c = (cn : Int) := ⟨c.toNat, by omega⟩
  obtain ⟨B3, o3, rfl, hB3, e0, e1, e2⟩ := said_car hs (show cn < i.cars.length by omega)
  exact ptails_walk u i cn _ _ _ l w B3 o3 A2 A3 A4 c1 c2 c3 c4 hs hr hl (by omega) hB3 e0 e1 e2
    (fun W hB => by have := carThere_any _ i cn W (Lies.below hs hB) hok hp; rw [hc] at this; exact this)
    (fun W _ => by rw [List.drop_length]; exact cend_any _ _ _ W)
    (fun k hk W hB => by
      have := cbef_any _ i (tailL i cn (l.drop (k + 1))) l[k] W (Lies.below hs hB) hf hp (fun t ht => (tail_bd hf hc hl ht).1)
      have he : (tailL i cn (l.drop (k + 1))).bind (fun t => befC i l[k] t) = tailL i cn (l.drop k) := by
        rw [tail_step hk]
        cases hq : tailL i cn (l.drop (k + 1)) with
        | none => rfl
        | some t => have A := tail_agrees hm hf hq; exact bef_code hm A.need A.opn _
      rw [he] at this
      exact this)
end Go.Proofs.Ytkheepedjoimmaa
namespace Go.Proofs.Ytkheepedjoimmaa
open Go.RowKit
set_option linter.unusedSimpArgs false

/-- the variable i, the row r, rows of its heads and tails, in a world that stands on w -/
structure T5 (w W : World) (I : Nat) (A1 A2 A3 A4 : Option Addr) (c1 c2 c3 c4 : Nat) (i : Prob) (A : Option Addr) (cap : Nat) (r : List Int) (c : Int) (gh gt : Nat) : Prop where
  two : Two w W I A1 A2 A3 A4 c1 c2 c3 c4 i A cap r
  hr : RowC W gh 7 (fun k => headC (headL i c (r.take k))) (r.length + 1)
  tr : RowC W gt 8 (fun k => tailC (tailL i c (r.drop k))) (r.length + 1)
theorem T5.on {w W W' : World} {I : Nat} {A1 A2 A3 A4 : Option Addr} {c1 c2 c3 c4 : Nat} {i : Prob} {A : Option Addr} {cap : Nat} {r : List Int} {c : Int} {gh gt : Nat} (h : T5 w W I A1 A2 A3 A4 c1 c2 c3 c4 i A cap r c gh gt) (hb : Below W.heap.size W W') : T5 w W' I A1 A2 A3 A4 c1 c2 c3 c4 i A cap r c gh gt :=
  ⟨h.two.on hb, h.hr.below hb, h.tr.below hb⟩
theorem head_bd {i : Prob} (hf : Fine i) (hm : Mated i) {c : Int} {r : List Int} (hr : r.length ≤ 1000) {k : Nat} (hk : k ≤ r.length) : ∀ h, headL i c (r.take k) = some h → HB i h ∧ HdA i c h := fun _ hh =>
  ⟨(head_hbn hf hk hh).hb (by omega), head_agrees hm hf hh⟩
theorem tail_bd' {i : Prob} (hf : Fine i) (hm : Mated i) {c : Int} (hc : inB c 0 (i.cars.length - 1) = true) {r : List Int} (hr : r.length ≤ 1000) {k : Nat} : ∀ t, tailL i c (r.drop k) = some t → TBd i t ∧ 0 ≤ t.late ∧ t.late ≤ 1000 ∧ TlA i c t := fun _ ht =>
  have h := tail_bd hf hc hr ht
  ⟨h.1, h.2.1, h.2.2, tail_agrees hm hf ht⟩
theorem RowC.at7 {W : World} {g n : Nat} {f : Nat → List Value} (h : RowC W g 7 f n) {k : Nat} (hk : k < n) {a0 a1 a2 a3 a4 a5 a6 : Value} (e : f k = [a0, a1, a2, a3, a4, a5, a6]) :
    W.cell? ⟨g, k * 7, none⟩ = some a0 ∧ W.cell? ⟨g, k * 7 + 1, none⟩ = some a1 ∧ W.cell? ⟨g, k * 7 + 2, none⟩ = some a2 ∧ W.cell? ⟨g, k * 7 + 3, none⟩ = some a3 ∧ W.cell? ⟨g, k * 7 + 4, none⟩ = some a4 ∧ W.cell? ⟨g, k * 7 + 5, none⟩ = some a5 ∧ W.cell? ⟨g, k * 7 + 6, none⟩ = some a6 :=
  ⟨h.2 k hk 0 _ (by omega) (by rw [e]; rfl), h.2 k hk 1 _ (by omega) (by rw [e]; rfl), h.2 k hk 2 _ (by omega) (by rw [e]; rfl), h.2 k hk 3 _ (by omega) (by rw [e]; rfl), h.2 k hk 4 _ (by omega) (by rw [e]; rfl), h.2 k hk 5 _ (by omega) (by rw [e]; rfl), h.2 k hk 6 _ (by omega) (by rw [e]; rfl)⟩
theorem RowC.at8 {W : World} {g n : Nat} {f : Nat → List Value} (h : RowC W g 8 f n) {k : Nat} (hk : k < n) {a0 a1 a2 a3 a4 a5 a6 a7 : Value} (e : f k = [a0, a1, a2, a3, a4, a5, a6, a7]) :
    W.cell? ⟨g, k * 8, none⟩ = some a0 ∧ W.cell? ⟨g, k * 8 + 1, none⟩ = some a1 ∧ W.cell? ⟨g, k * 8 + 2, none⟩ = some a2 ∧ W.cell? ⟨g, k * 8 + 3, none⟩ = some a3 ∧ W.cell? ⟨g, k * 8 + 4, none⟩ = some a4 ∧ W.cell? ⟨g, k * 8 + 5, none⟩ = some a5 ∧ W.cell? ⟨g, k * 8 + 6, none⟩ = some a6 ∧ W.cell? ⟨g, k * 8 + 7, none⟩ = some a7 :=
  ⟨h.2 k hk 0 _ (by omega) (by rw [e]; rfl), h.2 k hk 1 _ (by omega) (by rw [e]; rfl), h.2 k hk 2 _ (by omega) (by rw [e]; rfl), h.2 k hk 3 _ (by omega) (by rw [e]; rfl), h.2 k hk 4 _ (by omega) (by rw [e]; rfl), h.2 k hk 5 _ (by omega) (by rw [e]; rfl), h.2 k hk 6 _ (by omega) (by rw [e]; rfl), h.2 k hk 7 _ (by omega) (by rw [e]; rfl)⟩
end Go.Proofs.Ytkheepedjoimmaa
namespace Go.Proofs.Ytkheepedjoimmaa
open Go.RowKit
set_option linter.unusedSimpArgs false

def wakeP5 : Prob := ⟨[⟨0, 0, 5⟩], [], [], [[0]]⟩
theorem wake5_lies {w : World} {S : Nat} (h0 : Blk w S (ints [0, 0, 5])) (h1 : Blk w (S + 1) (ints [0])) (h2 : Blk w (S + 1 + 1) [.slice (some ⟨S + 1, 0, none⟩) 1 1]) :
    Lies w (.agg #[.slice (some ⟨S, 0, none⟩) 1 1, .slice none 0 0, .slice none 0 0, .slice (some ⟨S + 1 + 1, 0, none⟩) 1 1]) wakeP5 :=
  ⟨_, _, _, _, rfl, h0.car _, Recs.nil, Recs.nil, h2.trav [[0]] 1 fun k hk => by
    match k, hk with
    | 0, _ => exact ⟨_, rfl, h1.recs 1 num_ [0] 1 fun k hk j hj => by
        match k, hk, j, hj with
        | 0, _, 0, _ => rfl⟩⟩
theorem wake5_h : ∀ h, some (⟨0, 0, 0, 0, 0, 0⟩ : HeadP) = some h → HB wakeP5 h ∧ HdA wakeP5 0 h := fun h e => by
  obtain rfl : beginH wakeP5 0 = h := by injection e
  exact ⟨(begin_hbn (fine_of rfl) 0).hb (by omega), begin_agrees (mated_of rfl) (by decide)⟩
theorem wake5_t : ∀ t, some (⟨0, 5, 0, 0, 0, 0, 0⟩ : TailP) = some t → TBd wakeP5 t ∧ 0 ≤ t.late ∧ t.late ≤ 1000 ∧ TlA wakeP5 0 t := fun t e => by
  injection e with e
  subst e
  exact ⟨⟨by decide, by decide, by decide, by decide, by decide, by decide, by decide⟩, by decide, by decide, end_agrees (i := wakeP5) (mated_of rfl)⟩
set_option maxRecDepth 100000 in
set_option maxHeartbeats 4000000 in
theorem wakes5_any (w : World) : Calls Try.prog 17 #[] w fun e w' => e = .returned (.bool true) ∧ Below w.heap.size w w' := by
  have HL := Lib.hid (wake5_lies (w := ((w.alloc (.cells #[.int .i64 0, .int .i64 0, .int .i64 5] 52)).alloc (.cells #[.int .i64 0] 3)).alloc (.cells #[.slice (some ⟨w.heap.size + 1, 0, none⟩) 1 1] 22)) (S := w.heap.size)
    (((blk_at _ _ rfl).alloc _).alloc _) ((blk_at _ _ (by simp)).alloc _) (blk_at _ _ (by simp)))
  have HB0 := Lib.hid ((((Below.refl _ _).alloc (Nat.le_refl _) (.cells #[.int .i64 0, .int .i64 0, .int .i64 5] 52)).alloc (by simp) (.cells #[.int .i64 0] 3)).alloc (by simp; omega) (.cells #[.slice (some ⟨w.heap.size + 1, 0, none⟩) 1 1] 22) : Below w.heap.size w _)
  go_enter Try.func17, Try.ntmps17
  go_upto_region 2 with (fail)
  have hz : (((w.alloc (.cells #[.int .i64 0, .int .i64 0, .int .i64 5] 52)).alloc (.cells #[.int .i64 0] 3)).alloc (.cells #[.slice (some ⟨w.heap.size + 1, 0, none⟩) 1 1] 22)).heap.size = w.heap.size + 1 + 1 + 1 := by simp
  generalize ((w.alloc (.cells #[.int .i64 0, .int .i64 0, .int .i64 5] 52)).alloc (.cells #[.int .i64 0] 3)).alloc (.cells #[.slice (some ⟨w.heap.size + 1, 0, none⟩) 1 1] 22) = w0 at *
  generalize w.heap.size + 1 + 1 + 1 = I at *
  generalize w.heap.size + 1 + 1 = S2 at *
  generalize hS0 : w.heap.size = S0 at *
  have KB : Hid (∀ W, Below w0.heap.size w0 W → Calls Try.prog 40 #[.agg #[.slice (some ⟨S0, 0, none⟩) 1 1, .slice none 0 0, .slice none 0 0, .slice (some ⟨S2, 0, none⟩) 1 1], .int .i64 0] W fun e w' => e = .returned (.agg #[.bool true, .int .i64 0, .int .i64 0, .int .i64 0, .int .u32 0, .int .u32 0, .int .i64 0]) ∧ Below W.heap.size W w') := fun W hB => pbegin_any _ wakeP5 0 W (HL.out.below hB) rfl (by decide)
  have KE : Hid (∀ W, Below w0.heap.size w0 W → Calls Try.prog 41 #[.agg #[.slice (some ⟨S0, 0, none⟩) 1 1, .slice none 0 0, .slice none 0 0, .slice (some ⟨S2, 0, none⟩) 1 1], .int .i64 0] W fun e w' => e = .returned (.agg #[.bool true, .int .i64 0, .int .i64 5, .int .i64 0, .int .i64 0, .int .u32 0, .int .u32 0, .int .i64 0]) ∧ Below W.heap.size W w') := fun W hB => pend_any _ wakeP5 0 W (HL.out.below hB) rfl (by decide)
  have KM : Hid (∀ W, Below w0.heap.size w0 W → Calls Try.prog 16 #[.agg #[.slice (some ⟨S0, 0, none⟩) 1 1, .slice none 0 0, .slice none 0 0, .slice (some ⟨S2, 0, none⟩) 1 1], .int .i64 0, .agg #[.bool true, .int .i64 0, .int .i64 0, .int .i64 0, .int .u32 0, .int .u32 0, .int .i64 0], .agg #[.bool true, .int .i64 0, .int .i64 5, .int .i64 0, .int .i64 0, .int .u32 0, .int .u32 0, .int .i64 0]] W fun e w' => e = .returned (.tuple #[.int .i64 0, .bool true]) ∧ Below W.heap.size W w') := fun W hB => by
    have := pmeet_any _ wakeP5 0 (some ⟨0, 0, 0, 0, 0, 0⟩) (some ⟨0, 5, 0, 0, 0, 0, 0⟩) W (HL.out.below hB) rfl (by decide) wake5_h (fun _ => wake5_t)
    rw [show (if inB 0 0 (wakeP5.cars.length - 1) = true then meetO wakeP5 0 (some ⟨0, 0, 0, 0, 0, 0⟩) (some ⟨0, 5, 0, 0, 0, 0, 0⟩) else none) = some 0 by decide] at this
    exact this
  have BI := Lib.hid (blk_at (w := w0) (B := I) #[.slice (some ⟨S0, 0, none⟩) 1 1, .slice none 0 0, .slice none 0 0, .slice (some ⟨S2, 0, none⟩) 1 1] 28 hz.symm)
  have HBI := Lib.hid ((Below.refl w0.heap.size w0).alloc (Nat.le_refl _) (.cells #[.slice (some ⟨S0, 0, none⟩) 1 1, .slice none 0 0, .slice none 0 0, .slice (some ⟨S2, 0, none⟩) 1 1] 28))
  generalize w0.alloc (.cells #[.slice (some ⟨S0, 0, none⟩) 1 1, .slice none 0 0, .slice none 0 0, .slice (some ⟨S2, 0, none⟩) 1 1] 28) = wa at *
  have SS : Hid (∀ W, Below wa.heap.size wa W → W.cell? ⟨I, 0, none⟩ = some (.slice (some ⟨S0, 0, none⟩) 1 1) ∧ W.cell? ⟨I, 1, none⟩ = some (.slice none 0 0) ∧ W.cell? ⟨I, 2, none⟩ = some (.slice none 0 0) ∧ W.cell? ⟨I, 3, none⟩ = some (.slice (some ⟨S2, 0, none⟩) 1 1)) := fun W hB => ⟨(BI.out.below hB).cell (j := 0) rfl, (BI.out.below hB).cell (j := 1) rfl, (BI.out.below hB).cell (j := 2) rfl, (BI.out.below hB).cell (j := 3) rfl⟩
  have up : ∀ W, Below wa.heap.size wa W → Below w0.heap.size w0 W := fun W hB => HBI.out.trans (hB.mono HBI.out.size)
  have UP := Lib.hid up
  clear up
  refine wp_region_z (S := (fun W => W.cell? ⟨I, 0, none⟩ = some (.slice (some ⟨S0, 0, none⟩) 1 1) ∧ W.cell? ⟨I, 1, none⟩ = some (.slice none 0 0) ∧ W.cell? ⟨I, 2, none⟩ = some (.slice none 0 0) ∧ W.cell? ⟨I, 3, none⟩ = some (.slice (some ⟨S2, 0, none⟩) 1 1))) (z := 11) (by kernel_rfl) (SS.out _ (Below.refl wa.heap.size wa).drew) (fun hH => ?_)
  refine wpAnyZ_takeS (i := 0) (v := ?_) rfl (by kernel_rfl) (by kernel_rfl) (by kernel_rfl) (by kernel_rfl) (fun _ _ _ h => h) (gives_value (by rfl) ?_) (by assumption) ?_
  rotate_left
  · intro w hSw
    (try dsimp only at hSw)
    go_simp
    (try with_reducible rfl)
  (try simp only [Act.put, List.getElem_toArray, List.getElem_cons_succ, List.getElem_cons_zero, List.setIfInBounds_toArray, List.set_cons_zero, List.set_cons_succ])
  refine wpAnyZ_takeS (i := 1) (v := ?_) rfl (by kernel_rfl) (by kernel_rfl) (by kernel_rfl) (by kernel_rfl) (fun _ _ _ h => h) (gives_value (by rfl) ?_) (by assumption) ?_
  rotate_left
  · intro w hSw
    (try dsimp only at hSw)
    go_simp
    (try with_reducible rfl)
  (try simp only [Act.put, List.getElem_toArray, List.getElem_cons_succ, List.getElem_cons_zero, List.setIfInBounds_toArray, List.set_cons_zero, List.set_cons_succ])
  refine wpAnyZ_takeS (i := 3) (v := ?_) rfl (by kernel_rfl) (by kernel_rfl) (by kernel_rfl) (by kernel_rfl) (fun _ _ _ h => h) (gives_value (by rfl) ?_) (by assumption) ?_
  rotate_left
  · intro w hSw
    (try dsimp only at hSw)
    go_simp
    (try with_reducible rfl)
  (try simp only [Act.put, List.getElem_toArray, List.getElem_cons_succ, List.getElem_cons_zero, List.setIfInBounds_toArray, List.set_cons_zero, List.set_cons_succ])
  refine wpAnyZ_one (i := 2) (by kernel_rfl) ?_
  refine zstep rfl (fun K hK => ?_)
  go_simp
  (with_reducible refine (KB.out _ (UP.out _ (Below.refl wa.heap.size wa).drew)).mono ?_)
  rintro e w1 ⟨rfl, hb⟩
  have HB1 := Lib.hid (((Below.refl wa.heap.size wa).drew).trans hb)
  clear hb
  refine hK.out _ _ (fun _ => SS.out _ HB1.out) (fun hH => ?_)
  replace hH := hH (by decide)
  clear hK K
  (try simp only [Act.put, List.getElem_toArray, List.getElem_cons_succ, List.getElem_cons_zero, List.setIfInBounds_toArray, List.set_cons_zero, List.set_cons_succ])
  refine wpAnyZ_one (i := 4) (by kernel_rfl) ?_
  refine zstep rfl (fun K hK => ?_)
  go_simp
  (with_reducible refine (KE.out _ (UP.out _ HB1.out)).mono ?_)
  rintro e w2 ⟨rfl, hb⟩
  have HB2 := Lib.hid (HB1.out.trans (hb.mono HB1.out.size))
  clear hb
  refine hK.out _ _ (fun _ => SS.out _ HB2.out) (fun hH => ?_)
  replace hH := hH (by decide)
  clear hK K
  (try simp only [Act.put, List.getElem_toArray, List.getElem_cons_succ, List.getElem_cons_zero, List.setIfInBounds_toArray, List.set_cons_zero, List.set_cons_succ])
  refine wpAnyZ_one (i := 5) (by kernel_rfl) ?_
  refine zstep rfl (fun K hK => ?_)
  go_simp
  (with_reducible refine (KM.out _ (UP.out _ HB2.out)).mono ?_)
  rintro e w3 ⟨rfl, hb⟩
  have HB3 := Lib.hid (HB2.out.trans (hb.mono HB2.out.size))
  clear hb
  refine hK.out _ _ (fun _ => SS.out _ HB3.out) (fun hH => ?_)
  replace hH := hH (by decide)
  clear hK K
  (try simp only [Act.put, List.getElem_toArray, List.getElem_cons_succ, List.getElem_cons_zero, List.setIfInBounds_toArray, List.set_cons_zero, List.set_cons_succ])
  refine wpAnyZ_takeS (i := 6) (v := ?_) rfl (by kernel_rfl) (by kernel_rfl) (by kernel_rfl) (by kernel_rfl) (fun _ _ _ h => h) (gives_value (by rfl) ?_) (by assumption) ?_
  rotate_left
  · intro w hSw
    (try dsimp only at hSw)
    go_simp
    (try with_reducible rfl)
  (try simp only [Act.put, List.getElem_toArray, List.getElem_cons_succ, List.getElem_cons_zero, List.setIfInBounds_toArray, List.set_cons_zero, List.set_cons_succ])
  refine wpAnyZ_takeS (i := 7) (v := ?_) rfl (by kernel_rfl) (by kernel_rfl) (by kernel_rfl) (by kernel_rfl) (fun _ _ _ h => h) (gives_value (by rfl) ?_) (by assumption) ?_
  rotate_left
  · intro w hSw
    (try dsimp only at hSw)
    go_simp
    (try with_reducible rfl)
  (try simp only [Act.put, List.getElem_toArray, List.getElem_cons_succ, List.getElem_cons_zero, List.setIfInBounds_toArray, List.set_cons_zero, List.set_cons_succ])
  refine wpAnyZ_takeS (i := 8) (v := ?_) rfl (by kernel_rfl) (by kernel_rfl) (by kernel_rfl) (by kernel_rfl) (fun _ _ _ h => h) (gives_value (by rfl) ?_) (by assumption) ?_
  rotate_left
  · intro w hSw
    (try dsimp only at hSw)
    go_simp
    (try with_reducible rfl)
  (try simp only [Act.put, List.getElem_toArray, List.getElem_cons_succ, List.getElem_cons_zero, List.setIfInBounds_toArray, List.set_cons_zero, List.set_cons_succ])
  refine wpAnyZ_takeS (i := 9) (v := ?_) rfl (by kernel_rfl) (by kernel_rfl) (by kernel_rfl) (by kernel_rfl) (fun _ _ _ h => h) (gives_value (by rfl) ?_) (by assumption) ?_
  rotate_left
  · intro w hSw
    (try dsimp only at hSw)
    go_simp
    (try with_reducible rfl)
  (try simp only [Act.put, List.getElem_toArray, List.getElem_cons_succ, List.getElem_cons_zero, List.setIfInBounds_toArray, List.set_cons_zero, List.set_cons_succ])
  refine wpAnyZ_takeS (i := 10) (v := ?_) rfl (by kernel_rfl) (by kernel_rfl) (by kernel_rfl) (by kernel_rfl) (fun _ _ _ h => h) (gives_value (by rfl) ?_) (by assumption) ?_
  rotate_left
  · intro w hSw
    (try dsimp only at hSw)
    go_simp
    (try with_reducible rfl)
  (try simp only [Act.put, List.getElem_toArray, List.getElem_cons_succ, List.getElem_cons_zero, List.setIfInBounds_toArray, List.set_cons_zero, List.set_cons_succ])
  refine wpAnyZ_done (by kernel_rfl) ?_ _
  obtain ⟨k0, k1, k2, k3⟩ := SS.out _ HB3.out
  have hIz := (BI.out.below HB3.out).1
  clear hH
  go_wp2_with (go_at_call 41; fail)
  (with_reducible refine (KE.out _ (UP.out _ HB3.out)).mono ?_)
  rintro e w4 ⟨rfl, hb⟩
  have HB4 := Lib.hid ((UP.out _ HB3.out).trans (hb.mono (UP.out _ HB3.out).size))
  clear hb k0 k1 k2 k3 hIz
  have hfin : Hid (Below S0 w w4) := HB0.out.trans (HB4.out.mono (by have := HB0.out.size; omega))
  have hfl : (Instr.field 46 (.agg #[.bool true, .int .i64 0, .int .i64 5, .int .i64 0, .int .i64 0, .int .u32 0, .int .u32 0, .int .i64 0]) 2).run Try.prog w4 = .ok (.int .i64 5) w4 := by kernel_rfl
  go_wp2
  go_ret
  exact ⟨rfl, by rw [hS0]; exact hfin.out⟩
end Go.Proofs.Ytkheepedjoimmaa
namespace Go.Proofs.Ytkheepedjoimmaa
open Go.RowKit
set_option linter.unusedSimpArgs false

theorem el_int : Try.prog.underlying 22 = some (.slice (Try.prog.elem 22)) := by kernel_rfl
theorem sz_int (W : World) : (sizeOf (Try.prog.elem 22)).run Try.prog W = .ok 1 W := by kernel_rfl
theorem add_addr (B o k : Nat) : (⟨B, o, none⟩ : Addr).add k = ⟨B, o + k, none⟩ := by unfold Addr.add; split <;> simp_all
theorem slice_h (A : Option Addr) (cap : Nat) (r : List Int) {j : Nat} (hj : j ≤ r.length) (hc : r.length ≤ cap) : ∃ A' cap', (∀ W, (Instr.slice 22 (.slice A r.length cap) none (some (.int .i64 (j : Int))) none).run Try.prog W = .ok (.slice A' (r.take j).length cap') W) ∧
    ∀ W, Recs W 1 num_ (.slice A r.length cap) r → Recs W 1 num_ (.slice A' (r.take j).length cap') (r.take j) := by
  have hl : (r.take j).length = j := by rw [List.length_take]; omega
  refine ⟨(if cap = 0 then A else A.map (·.add (0 * 1))), cap, fun W => ?_, fun W h => ?_⟩
  · rw [run_slice_h (P := Try.prog) W 22 A r.length cap el_int .i64 (j : Int) (by omega) (by omega), sz_int, hl]
    rfl
  · obtain ⟨A2, cap2, he, hcl⟩ := h.num
    obtain ⟨rfl, rfl⟩ : A = A2 ∧ cap = cap2 := by injection he with a _ b; exact ⟨a, b⟩
    have := Recs.begin h hj cap
    rw [hl]
    by_cases h0 : cap = 0
    · rw [if_pos h0]; exact this
    · rw [if_neg h0]
      by_cases hr : 0 < r.length
      · obtain ⟨B, o, rfl, _, _⟩ := hcl 0 hr
        rw [Option.map_some, add_addr]
        exact this
      · have : r.take j = [] := by rw [List.eq_nil_iff_length_eq_zero, hl]; omega
        rw [this, show j = 0 by omega]
        exact Recs.nil
theorem slice_l (A : Option Addr) (cap : Nat) (r : List Int) {k : Nat} (hk : k ≤ r.length) (hc : r.length ≤ cap) : ∃ A' cap', (∀ W, (Instr.slice 22 (.slice A r.length cap) (some (.int .i64 (k : Int))) none none).run Try.prog W = .ok (.slice A' (r.drop k).length cap') W) ∧
    ∀ W, Recs W 1 num_ (.slice A r.length cap) r → Recs W 1 num_ (.slice A' (r.drop k).length cap') (r.drop k) := by
  have hl : (r.drop k).length = r.length - k := List.length_drop
  refine ⟨(if cap = k then A else A.map (·.add (k * 1))), cap - k, fun W => ?_, fun W h => ?_⟩
  · rw [run_slice_l (P := Try.prog) W 22 A r.length cap el_int .i64 (k : Int) (by omega) (by omega), sz_int, hl]
    rfl
  · obtain ⟨A2, cap2, he, hcl⟩ := h.num
    obtain ⟨rfl, rfl⟩ : A = A2 ∧ cap = cap2 := by injection he with a _ b; exact ⟨a, b⟩
    by_cases hr : k < r.length
    · obtain ⟨B, o, rfl, hB, _⟩ := hcl k hr
      rw [if_neg (by omega), Option.map_some, add_addr]
      refine ⟨_, _, rfl, fun m hm => ?_⟩
      obtain ⟨B', o', e', hB', hx⟩ := hcl (k + m) (by omega)
      injection e' with e'
      injection e' with e1 e2 _
      subst e1 e2
      refine ⟨B, o + k * 1, rfl, hB, fun q hq => ?_⟩
      obtain rfl : q = 0 := by omega
      rw [show o + k * 1 + m * 1 + 0 = o + (k + m) by omega, hx]
      simp [num_]
    · have : r.drop k = [] := List.drop_eq_nil_of_le (by omega)
      rw [this]
      exact Recs.nil
end Go.Proofs.Ytkheepedjoimmaa
