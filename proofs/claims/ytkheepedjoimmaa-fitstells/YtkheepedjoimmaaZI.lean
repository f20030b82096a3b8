/- The walk of FitsTells: for any rows of numbers, any car, any stop the law returns true; old memory stands. -/
import Derived.Test.YtkheepedjoimmaaZD
namespace Go.Proofs.Ytkheepedjoimmaa
open Go.RowKit
set_option linter.unusedSimpArgs false

theorem wrap64_id {x : Int} (h : -9223372036854775808 ≤ x ∧ x ≤ 9223372036854775807) : wrap64 x = x := by unfold wrap64; omega
theorem mem_ins' {r : List Int} {k : Nat} {s lo hi : Int} (h : ∀ x ∈ r, lo ≤ x ∧ x ≤ hi) (hs : lo ≤ s ∧ s ≤ hi) : ∀ x ∈ r.take k ++ s :: r.drop k, lo ≤ x ∧ x ≤ hi := fun x hx => by
  rcases List.mem_append.1 hx with hx | hx
  · exact h x (List.mem_of_mem_take hx)
  · rcases List.mem_cons.1 hx with rfl | hx
    · exact hs
    · exact h x (List.mem_of_mem_drop hx)
theorem mem_cut {r s : List Int} {k m : Nat} {lo hi : Int} (h : ∀ x ∈ r, lo ≤ x ∧ x ≤ hi) (hs : ∀ x ∈ s, lo ≤ x ∧ x ≤ hi) : ∀ x ∈ r.take k ++ s.drop m, lo ≤ x ∧ x ≤ hi := fun x hx => by
  rcases List.mem_append.1 hx with hx | hx
  · exact h x (List.mem_of_mem_take hx)
  · exact hs x (List.mem_of_mem_drop hx)
/-- a fresh row -/
theorem fresh_young {w w' : World} {A : Option Addr} {cap a : Nat} {q : List Int} (h : Recs w' 1 num_ (.slice A q.length cap) q) (hf : Fresh w.heap.size A) (ha : a < w.heap.size) : Young 0 a w' fun W => Recs W 1 num_ (.slice A q.length cap) q := fun W hx => by
  obtain ⟨A', cap', e, hc⟩ := h
  obtain ⟨rfl, rfl⟩ : A = A' ∧ cap = cap' := by injection e with a _ b; exact ⟨a, b⟩
  refine ⟨A, cap, rfl, fun k hk => ?_⟩
  obtain ⟨B, o, rfl, hB, hcell⟩ := hc k hk
  have hBa : w.heap.size ≤ B := hf _ rfl
  exact ⟨B, o, rfl, Nat.lt_of_lt_of_le hB hx.size, fun j hj => by rw [World.cell?_of_block (w := w') (hx.block B (Nat.zero_le _) (by omega) hB)]; exact hcell j hj⟩
set_option maxRecDepth 100000 in
set_option maxHeartbeats 32000000 in
theorem tells6_walk (v u u2 u3 : Value) (l row row2 row3 : List Int) (car stop : Int) (w : World) (h : Recs w 1 num_ v l) (hl : l.length ≤ 9223372036854775807) (hr : Recs w 1 num_ u row) (hrl : row.length ≤ 9223372036854775807) (hr2 : Recs w 1 num_ u2 row2) (hrl2 : row2.length ≤ 9223372036854775807) (hr3 : Recs w 1 num_ u3 row3) (hrl3 : row3.length ≤ 9223372036854775807) :
    Calls Try.prog 9 #[v, u, u2, u3, .int .i64 car, .int .i64 stop] w fun e w' => e = .returned (.bool true) ∧ Below w.heap.size w w' := by
  have HU2 := Lib.hid hr2
  have HU3 := Lib.hid hr3
  clear hr2 hr3
  have HP := Lib.hid (play_said v l w h hl)
  have HU := Lib.hid hr
  clear h hr
  go_enter Try.func9, Try.ntmps9
  go_wp2_with (go_at_call 10; fail)
  (with_reducible refine (HP.out).mono ?_)
  rintro e w1 ⟨i, A1, A2, A3, A4, c1, c2, c3, c4, rfl, hs1, hok, hs2, hs8, hp2, hb1⟩
  have HOK := Lib.hid hok
  have HF := Lib.hid (fine_of hok)
  have HM := Lib.hid (mated_of hok)
  have BX1 := Lib.hid (box_new hs1 28)
  have HB1 := Lib.hid (hb1.alloc hb1.size (.cells #[.slice A1 i.cars.length c1, .slice A2 i.stops.length c2, .slice A3 i.pairs.length c3, .slice A4 i.travel.length c4] 28))
  have hcar := (fine_of hok).cars
  clear hok hs1 hb1 HP
  go_upto_region 2 with (fail)
  generalize w1.alloc (.cells #[.slice A1 i.cars.length c1, .slice A2 i.stops.length c2, .slice A3 i.pairs.length c3, .slice A4 i.travel.length c4] 28) = wa at *
  generalize w1.heap.size = I at *
  have k0 := BX1.out.b0
  have k1 := BX1.out.b1
  have k2 := BX1.out.b2
  have k3 := BX1.out.b3
  have hIz := BX1.out.lt
  obtain ⟨cn, hcn, hcnl⟩ := within_nat car i.cars.length (by omega)
  have K0 := Lib.hid (fun W => within_q car i.cars.length W (by omega) (by omega) _ hcn)
  clear hcn
  go_wp2_with (go_at_call 11; fail)
  (with_reducible refine (K0.out _).mono ?_)
  rintro e w2 ⟨rfl, hww⟩
  replace hww := hww.symm
  subst hww
  clear K0
  clear k0 k1 k2 k3 hIz
  have SS : Hid (∀ W, Below wa.heap.size wa W → W.cell? ⟨I, 0, none⟩ = some (.slice A1 i.cars.length c1) ∧ W.cell? ⟨I, 1, none⟩ = some (.slice A2 i.stops.length c2) ∧ W.cell? ⟨I, 2, none⟩ = some (.slice A3 i.pairs.length c3) ∧ W.cell? ⟨I, 3, none⟩ = some (.slice A4 i.travel.length c4)) := fun W hB => ⟨(BX1.out.below hB).b0, (BX1.out.below hB).b1, (BX1.out.below hB).b2, (BX1.out.below hB).b3⟩
  have K1 : Hid (∀ W, Below wa.heap.size wa W → Calls Try.prog 12 #[.agg #[.slice A1 i.cars.length c1, .slice A2 i.stops.length c2, .slice A3 i.pairs.length c3, .slice A4 i.travel.length c4], u] W (RowEnd W)) := fun W hB => row_any _ _ i row W (BX1.out.lies.below hB) HOK.out (by omega) hs2 ((HU.out.below HB1.out).below hB) hrl
  have K2 : Hid (∀ W, Below wa.heap.size wa W → Calls Try.prog 12 #[.agg #[.slice A1 i.cars.length c1, .slice A2 i.stops.length c2, .slice A3 i.pairs.length c3, .slice A4 i.travel.length c4], u2] W (RowEnd W)) := fun W hB => row_any _ _ i row2 W (BX1.out.lies.below hB) HOK.out (by omega) hs2 ((HU2.out.below HB1.out).below hB) hrl2
  go_upto_region 3 with (fail)
  refine wp_region_z (S := (fun W => W.cell? ⟨I, 0, none⟩ = some (.slice A1 i.cars.length c1) ∧ W.cell? ⟨I, 1, none⟩ = some (.slice A2 i.stops.length c2) ∧ W.cell? ⟨I, 2, none⟩ = some (.slice A3 i.pairs.length c3) ∧ W.cell? ⟨I, 3, none⟩ = some (.slice A4 i.travel.length c4))) (z := 8) (by kernel_rfl) (SS.out _ (Below.refl wa.heap.size wa).drew) (fun hH => ?_)
  refine wpAnyZ_takeS (i := 0) (v := ?_) rfl (by kernel_rfl) (by kernel_rfl) (by kernel_rfl) (by kernel_rfl) (fun _ _ _ h => h) (gives_value (by rfl) ?_) (by assumption) ?_
  rotate_left
  · intro w hSw
    (try dsimp only at hSw)
    go_simp
    (try with_reducible rfl)
  (try simp only [Act.put, List.getElem_toArray, List.getElem_cons_succ, List.getElem_cons_zero, List.setIfInBounds_toArray, List.set_cons_zero, List.set_cons_succ])
  refine wpAnyZ_takeS (i := 1) (v := ?_) rfl (by kernel_rfl) (by kernel_rfl) (by kernel_rfl) (by kernel_rfl) (fun _ _ _ h => h) (gives_value (by rfl) ?_) (by assumption) ?_
  rotate_left
  · intro w hSw
    (try dsimp only at hSw)
    go_simp
    (try with_reducible rfl)
  (try simp only [Act.put, List.getElem_toArray, List.getElem_cons_succ, List.getElem_cons_zero, List.setIfInBounds_toArray, List.set_cons_zero, List.set_cons_succ])
  refine wpAnyZ_takeS (i := 3) (v := ?_) rfl (by kernel_rfl) (by kernel_rfl) (by kernel_rfl) (by kernel_rfl) (fun _ _ _ h => h) (gives_value (by rfl) ?_) (by assumption) ?_
  rotate_left
  · intro w hSw
    (try dsimp only at hSw)
    go_simp
    (try with_reducible rfl)
  (try simp only [Act.put, List.getElem_toArray, List.getElem_cons_succ, List.getElem_cons_zero, List.setIfInBounds_toArray, List.set_cons_zero, List.set_cons_succ])
  refine wpAnyZ_takeS (i := 4) (v := ?_) rfl (by kernel_rfl) (by kernel_rfl) (by kernel_rfl) (by kernel_rfl) (fun _ _ _ h => h) (gives_value (by rfl) ?_) (by assumption) ?_
  rotate_left
  · intro w hSw
    (try dsimp only at hSw)
    go_simp
    (try with_reducible rfl)
  (try simp only [Act.put, List.getElem_toArray, List.getElem_cons_succ, List.getElem_cons_zero, List.setIfInBounds_toArray, List.set_cons_zero, List.set_cons_succ])
  refine wpAnyZ_one (i := 2) (by kernel_rfl) ?_
  refine zstep rfl (fun K hK => ?_)
  go_simp
  (with_reducible refine (K1.out _ (Below.refl wa.heap.size wa).drew).mono ?_)
  rintro e w2 ⟨r, A, cap, rfl, hr14, hrc, hrx, hrr, hrf, hb⟩
  have HBw2 := Lib.hid (((Below.refl wa.heap.size wa).drew).trans hb)
  have RR2 := Lib.hid hrr
  have HRX := Lib.hid hrx
  clear hrr hrf hrx
  clear hb
  refine hK.out _ _ (fun _ => SS.out _ HBw2.out) (fun hH => ?_)
  replace hH := hH (by decide)
  clear hK K
  (try simp only [Act.put, List.getElem_toArray, List.getElem_cons_succ, List.getElem_cons_zero, List.setIfInBounds_toArray, List.set_cons_zero, List.set_cons_succ])
  refine wpAnyZ_one (i := 5) (by kernel_rfl) ?_
  refine zstep rfl (fun K hK => ?_)
  go_simp
  (with_reducible refine (K2.out _ HBw2.out).mono ?_)
  rintro e w3 ⟨s, E, ecap, rfl, hs14, hsc, hsx, hsr, hsf, hb⟩
  have HBw3 := Lib.hid (HBw2.out.trans (hb.mono HBw2.out.size))
  have RS3 := Lib.hid hsr
  have RR3 := Lib.hid (RR2.out.below hb)
  have HSX := Lib.hid hsx
  clear hsr hsf hsx RR2
  clear hb
  refine hK.out _ _ (fun _ => SS.out _ HBw3.out) (fun hH => ?_)
  replace hH := hH (by decide)
  clear hK K
  (try simp only [Act.put, List.getElem_toArray, List.getElem_cons_succ, List.getElem_cons_zero, List.setIfInBounds_toArray, List.set_cons_zero, List.set_cons_succ])
  refine wpAnyZ_takeS (i := 6) (v := ?_) rfl (by kernel_rfl) (by kernel_rfl) (by kernel_rfl) (by kernel_rfl) (fun _ _ _ h => h) (gives_value (by rfl) ?_) (by assumption) ?_
  rotate_left
  · intro w hSw
    (try dsimp only at hSw)
    go_simp
    (try with_reducible rfl)
  (try simp only [Act.put, List.getElem_toArray, List.getElem_cons_succ, List.getElem_cons_zero, List.setIfInBounds_toArray, List.set_cons_zero, List.set_cons_succ])
  refine wpAnyZ_takeS (i := 7) (v := ?_) rfl (by kernel_rfl) (by kernel_rfl) (by kernel_rfl) (by kernel_rfl) (fun _ _ _ h => h) (gives_value (by rfl) ?_) (by assumption) ?_
  rotate_left
  · intro w hSw
    (try dsimp only at hSw)
    go_simp
    (try with_reducible rfl)
  (try simp only [Act.put, List.getElem_toArray, List.getElem_cons_succ, List.getElem_cons_zero, List.setIfInBounds_toArray, List.set_cons_zero, List.set_cons_succ])
  refine wpAnyZ_done (by kernel_rfl) ?_ _
  clear hH
  have TW := Lib.hid (⟨HB1.out.trans (HBw3.out.mono HB1.out.size), BX1.out.below HBw3.out, RR3.out⟩ : Two w w3 I A1 A2 A3 A4 c1 c2 c3 c4 i A cap r)
  have HU4 := Lib.hid (HU3.out.below (HB1.out.trans (HBw3.out.mono HB1.out.size)))
  clear SS K1 K2 BX1 HB1 HU HU2 HU3 RR3 HBw2 HBw3
  have HRX2 : Hid (∀ x ∈ r, -1000000 ≤ x ∧ x ≤ 1000000) := fun x hx => by have := HRX.out x hx; omega
  have HSX2 : Hid (∀ x ∈ s, -1000000 ≤ x ∧ x ≤ 1000000) := fun x hx => by have := HSX.out x hx; omega
  clear HRX HSX
  have SS : Hid (∀ W, Below w3.heap.size w3 W → W.cell? ⟨I, 0, none⟩ = some (.slice A1 i.cars.length c1) ∧ W.cell? ⟨I, 1, none⟩ = some (.slice A2 i.stops.length c2) ∧ W.cell? ⟨I, 2, none⟩ = some (.slice A3 i.pairs.length c3) ∧ W.cell? ⟨I, 3, none⟩ = some (.slice A4 i.travel.length c4)) := fun W hB => ⟨(TW.out.box.below hB).b0, (TW.out.box.below hB).b1, (TW.out.box.below hB).b2, (TW.out.box.below hB).b3⟩
  have hc : inB (cn : Int) 0 (i.cars.length - 1) = true := inB_iff.2 ⟨by omega, by omega⟩
  have K1 : Hid (∀ W, Below w3.heap.size w3 W → Calls Try.prog 18 #[.agg #[.slice A1 i.cars.length c1, .slice A2 i.stops.length c2, .slice A3 i.pairs.length c3, .slice A4 i.travel.length c4], .int .i64 cn, .slice A r.length cap] W fun e w' => ∃ a, e = .returned (.pointer (some ⟨a, 0, none⟩)) ∧ Tbl W.heap.size a i cn r w' ∧ Below W.heap.size W w') := fun W hB => fnew_any _ i cn r A _ W (TW.out.box.lies.below hB) (TW.out.row.below hB) HOK.out (by omega) (by omega)
  have K2 : Hid (∀ W, Below w3.heap.size w3 W → Calls Try.prog 18 #[.agg #[.slice A1 i.cars.length c1, .slice A2 i.stops.length c2, .slice A3 i.pairs.length c3, .slice A4 i.travel.length c4], .int .i64 cn, .slice E s.length ecap] W fun e w' => ∃ a, e = .returned (.pointer (some ⟨a, 0, none⟩)) ∧ Tbl W.heap.size a i cn s w' ∧ Below W.heap.size W w') := fun W hB => fnew_any _ i cn s E _ W (TW.out.box.lies.below hB) (RS3.out.below hB) HOK.out (by omega) (by omega)
  have HC := Lib.hid hc
  clear hc
  go_upto_region 4 with (fail)
  refine wp_region_z (S := (fun W => W.cell? ⟨I, 0, none⟩ = some (.slice A1 i.cars.length c1) ∧ W.cell? ⟨I, 1, none⟩ = some (.slice A2 i.stops.length c2) ∧ W.cell? ⟨I, 2, none⟩ = some (.slice A3 i.pairs.length c3) ∧ W.cell? ⟨I, 3, none⟩ = some (.slice A4 i.travel.length c4))) (z := 10) (by kernel_rfl) (SS.out _ (Below.refl w3.heap.size w3).drew) (fun hH => ?_)
  refine wpAnyZ_takeS (i := 0) (v := ?_) rfl (by kernel_rfl) (by kernel_rfl) (by kernel_rfl) (by kernel_rfl) (fun _ _ _ h => h) (gives_value (by rfl) ?_) (by assumption) ?_
  rotate_left
  · intro w hSw
    (try dsimp only at hSw)
    go_simp
    (try with_reducible rfl)
  (try simp only [Act.put, List.getElem_toArray, List.getElem_cons_succ, List.getElem_cons_zero, List.setIfInBounds_toArray, List.set_cons_zero, List.set_cons_succ])
  refine wpAnyZ_takeS (i := 1) (v := ?_) rfl (by kernel_rfl) (by kernel_rfl) (by kernel_rfl) (by kernel_rfl) (fun _ _ _ h => h) (gives_value (by rfl) ?_) (by assumption) ?_
  rotate_left
  · intro w hSw
    (try dsimp only at hSw)
    go_simp
    (try with_reducible rfl)
  (try simp only [Act.put, List.getElem_toArray, List.getElem_cons_succ, List.getElem_cons_zero, List.setIfInBounds_toArray, List.set_cons_zero, List.set_cons_succ])
  refine wpAnyZ_takeS (i := 2) (v := ?_) rfl (by kernel_rfl) (by kernel_rfl) (by kernel_rfl) (by kernel_rfl) (fun _ _ _ h => h) (gives_value (by rfl) ?_) (by assumption) ?_
  rotate_left
  · intro w hSw
    (try dsimp only at hSw)
    go_simp
    (try with_reducible rfl)
  (try simp only [Act.put, List.getElem_toArray, List.getElem_cons_succ, List.getElem_cons_zero, List.setIfInBounds_toArray, List.set_cons_zero, List.set_cons_succ])
  refine wpAnyZ_takeS (i := 4) (v := ?_) rfl (by kernel_rfl) (by kernel_rfl) (by kernel_rfl) (by kernel_rfl) (fun _ _ _ h => h) (gives_value (by rfl) ?_) (by assumption) ?_
  rotate_left
  · intro w hSw
    (try dsimp only at hSw)
    go_simp
    (try with_reducible rfl)
  (try simp only [Act.put, List.getElem_toArray, List.getElem_cons_succ, List.getElem_cons_zero, List.setIfInBounds_toArray, List.set_cons_zero, List.set_cons_succ])
  refine wpAnyZ_takeS (i := 5) (v := ?_) rfl (by kernel_rfl) (by kernel_rfl) (by kernel_rfl) (by kernel_rfl) (fun _ _ _ h => h) (gives_value (by rfl) ?_) (by assumption) ?_
  rotate_left
  · intro w hSw
    (try dsimp only at hSw)
    go_simp
    (try with_reducible rfl)
  (try simp only [Act.put, List.getElem_toArray, List.getElem_cons_succ, List.getElem_cons_zero, List.setIfInBounds_toArray, List.set_cons_zero, List.set_cons_succ])
  refine wpAnyZ_takeS (i := 6) (v := ?_) rfl (by kernel_rfl) (by kernel_rfl) (by kernel_rfl) (by kernel_rfl) (fun _ _ _ h => h) (gives_value (by rfl) ?_) (by assumption) ?_
  rotate_left
  · intro w hSw
    (try dsimp only at hSw)
    go_simp
    (try with_reducible rfl)
  (try simp only [Act.put, List.getElem_toArray, List.getElem_cons_succ, List.getElem_cons_zero, List.setIfInBounds_toArray, List.set_cons_zero, List.set_cons_succ])
  refine wpAnyZ_one (i := 3) (by kernel_rfl) ?_
  refine zstep rfl (fun K hK => ?_)
  go_simp
  (with_reducible refine (K1.out _ (Below.refl w3.heap.size w3).drew).mono ?_)
  rintro e w5 ⟨a, rfl, ha, hb⟩
  have HBw5 := Lib.hid (((Below.refl w3.heap.size w3).drew).trans hb)
  have TA5 := Lib.hid ha
  clear ha
  clear hb
  refine hK.out _ _ (fun _ => SS.out _ HBw5.out) (fun hH => ?_)
  replace hH := hH (by decide)
  clear hK K
  (try simp only [Act.put, List.getElem_toArray, List.getElem_cons_succ, List.getElem_cons_zero, List.setIfInBounds_toArray, List.set_cons_zero, List.set_cons_succ])
  refine wpAnyZ_one (i := 7) (by kernel_rfl) ?_
  refine zstep rfl (fun K hK => ?_)
  go_simp
  (with_reducible refine (K2.out _ HBw5.out).mono ?_)
  rintro e w6 ⟨b, rfl, hbt, hb⟩
  have HBw6 := Lib.hid (HBw5.out.trans (hb.mono HBw5.out.size))
  have TB6 := Lib.hid hbt
  have TA6 := Lib.hid (TA5.out.below hb)
  have hab := TA5.out.lt.1
  clear hbt TA5
  clear hb
  refine hK.out _ _ (fun _ => SS.out _ HBw6.out) (fun hH => ?_)
  replace hH := hH (by decide)
  clear hK K
  (try simp only [Act.put, List.getElem_toArray, List.getElem_cons_succ, List.getElem_cons_zero, List.setIfInBounds_toArray, List.set_cons_zero, List.set_cons_succ])
  refine wpAnyZ_takeS (i := 8) (v := ?_) rfl (by kernel_rfl) (by kernel_rfl) (by kernel_rfl) (by kernel_rfl) (fun _ _ _ h => h) (gives_value (by rfl) ?_) (by assumption) ?_
  rotate_left
  · intro w hSw
    (try dsimp only at hSw)
    go_simp
    (try with_reducible rfl)
  (try simp only [Act.put, List.getElem_toArray, List.getElem_cons_succ, List.getElem_cons_zero, List.setIfInBounds_toArray, List.set_cons_zero, List.set_cons_succ])
  refine wpAnyZ_takeS (i := 9) (v := ?_) rfl (by kernel_rfl) (by kernel_rfl) (by kernel_rfl) (by kernel_rfl) (fun _ _ _ h => h) (gives_value (by rfl) ?_) (by assumption) ?_
  rotate_left
  · intro w hSw
    (try dsimp only at hSw)
    go_simp
    (try with_reducible rfl)
  (try simp only [Act.put, List.getElem_toArray, List.getElem_cons_succ, List.getElem_cons_zero, List.setIfInBounds_toArray, List.set_cons_zero, List.set_cons_succ])
  refine wpAnyZ_done (by kernel_rfl) ?_ _
  clear hH
  have hal := TA6.out.lt.2
  have hz5 : w3.heap.size ≤ w5.heap.size := HBw5.out.size
  have SS3 := SS
  have HBR := Lib.hid (⟨RS3.out, HU4.out⟩ : Recs w3 1 num_ (.slice E s.length ecap) s ∧ Recs w3 1 num_ u3 row3)
  clear SS K1 K2 HBw5
  obtain ⟨sn, hsn, hsnl⟩ := within_nat stop (i.stops.length + 1) (by omega)
  rw [Int.natCast_add, Int.natCast_one] at hsn
  have KST := Lib.hid (fun W => within_q stop ((i.stops.length : Int) + 1) W (by omega) (by omega) _ hsn)
  clear hsn
  obtain ⟨i0, hi0, hz0, hz1, hz2⟩ := info_parts int_info
  have RA3 := Lib.hid (RS3.out)
  have TWR := Lib.hid TW.out.row
  go_wp2
  go_loopw [14, 18] (fun rv tv wr => ∃ (n : Nat) (r : List Int) (A : Option Addr) (cap : Nat), n ≤ 2 ∧ r.length ≤ 14 ∧ r.length ≤ cap ∧ (∀ x ∈ r, -1000000 ≤ x ∧ x ≤ 1000000) ∧ rv = .slice A r.length cap ∧ tv = .int .i64 n ∧ Recs wr 1 num_ (.slice A r.length cap) r ∧ Tbl w3.drew.heap.size a i cn r wr ∧ Tbl w5.heap.size b i cn s wr ∧ Below w3.heap.size w3 wr) (fun _ tv _ => 2 - (intOf tv).toNat)
  case atStart => exact ⟨0, r, A, cap, by omega, hr14, hrc, HRX2.out, rfl, rfl, TW.out.row.below HBw6.out, TA6.out, TB6.out, HBw6.out⟩
  case round =>
    obtain ⟨n, r, A, cap, hn, hr14, hrc, hrx, rfl, rfl, hrr, hta, htb, hbr⟩ := hrel
    have HBr := Lib.hid hbr
    have RR := Lib.hid hrr
    have TAr := Lib.hid hta
    have TBr := Lib.hid htb
    have RX := Lib.hid hrx
    have TWr := Lib.hid (TW.out.on hbr)
    clear hbr hrr hta htb hrx TA6 TB6 HBw6
    by_cases hgo : n < 2
    · have tn : decide ((n : Int) < 2) = true := by simp; omega
      have tll : ((r.length : Int) != (r.length : Int)) = false := by simp
      have KL := Lib.hid (Flen TAr.out.view)
      go_wp2_with (go_at_call 26; fail)
      (with_reducible refine (KL.out).mono ?_)
      rintro e wz ⟨rfl, rfl⟩
      clear KL
      obtain ⟨mw, ow, hmw⟩ := meetV_form ((evalL i cn r).map (fun t : TripR => t.cost))
      have Hmw := Lib.hid hmw
      clear hmw
      have K1 : Hid (Calls Try.prog 21 #[.pointer (some ⟨a, 0, none⟩)] wr fun e w' => e = .returned (.tuple #[.int .i64 mw, .bool ow]) ∧ Below wr.heap.size wr w') := by
        have := Fwhole TAr.out.view HOK.out (by omega) (by omega)
        rw [show meetC i cn (headAt i cn r 0) (tailAt i cn r 0) = (evalL i cn r).map (fun t : TripR => t.cost) by have := cross_val (r := r) (q := r) (k := 0) (m := 0) HM.out (carAt_bounds HF.out cn).1 HC.out (Nat.zero_le _) (Nat.zero_le _); simpa using this, Hmw.out] at this
        exact this
      go_wp2_with (go_at_call 21; fail)
      (with_reducible refine (K1.out).mono ?_)
      rintro e w12 ⟨rfl, hb⟩
      have HB12 := Lib.hid hb
      clear hb K1
      have KR0 : Hid (Calls Try.prog 20 #[.agg #[.slice A1 i.cars.length c1, .slice A2 i.stops.length c2, .slice A3 i.pairs.length c3, .slice A4 i.travel.length c4], .int .i64 cn, .slice A r.length cap, .int .i64 mw, .bool ow] w12 fun e w' => e = .returned (.bool true) ∧ Below w12.heap.size w12 w') := right_any _ _ _ _ _ _ _ _ _ i cn r mw ow w12 (TWr.out.box.lies.below HB12.out) HOK.out (by omega) (RR.out.below HB12.out) (by omega) RX.out Hmw.out
      have k0 := (TWr.out.box.below HB12.out).b0
      have k1 := (TWr.out.box.below HB12.out).b1
      have k2 := (TWr.out.box.below HB12.out).b2
      have k3 := (TWr.out.box.below HB12.out).b3
      have hIz := (TWr.out.box.below HB12.out).lt
      go_wp2_with (go_at_call 20; fail)
      (with_reducible refine (KR0.out).mono ?_)
      rintro e v0 ⟨rfl, hb⟩
      have HBv := Lib.hid (HB12.out.trans (hb.mono HB12.out.size))
      clear hb KR0 HB12 Hmw k0 k1 k2 k3 hIz
      have HBV := Lib.hid (HBr.out.trans (HBv.out.mono HBr.out.size))
      have TAv := Lib.hid (TAr.out.below HBv.out)
      have TBv := Lib.hid (TBr.out.below HBv.out)
      have TWv := Lib.hid (TWr.out.on HBv.out)
      have GR : Hid (∀ W, Below v0.heap.size v0 W → Recs W 1 num_ (.slice A r.length cap) r ∧ Recs W 1 num_ (.slice E s.length ecap) s) := fun W hB => ⟨(RR.out.below HBv.out).below hB, HBR.out.1.below (HBV.out.trans (hB.mono HBV.out.size))⟩
      have GA : Hid (∀ W, Below v0.heap.size v0 W → TblV W a i cn r) := fun W hB => (TAv.out.below hB).view
      have GB : Hid (∀ W, Below v0.heap.size v0 W → TblV W b i cn s) := fun W hB => (TBv.out.below hB).view
      have SS : Hid (∀ W, Below v0.heap.size v0 W → W.cell? ⟨I, 0, none⟩ = some (.slice A1 i.cars.length c1) ∧ W.cell? ⟨I, 1, none⟩ = some (.slice A2 i.stops.length c2) ∧ W.cell? ⟨I, 2, none⟩ = some (.slice A3 i.pairs.length c3) ∧ W.cell? ⟨I, 3, none⟩ = some (.slice A4 i.travel.length c4)) := fun W hB => ⟨(TWv.out.box.below hB).b0, (TWv.out.box.below hB).b1, (TWv.out.box.below hB).b2, (TWv.out.box.below hB).b3⟩
      have KR : Hid (∀ (W : World) (u : Value) (q : List Int) (mc : Int) (mo : Bool), Below v0.heap.size v0 W → Recs W 1 num_ u q → q.length ≤ 1000 → (∀ x ∈ q, -1000000 ≤ x ∧ x ≤ 1000000) → meetV ((evalL i cn q).map (fun t : TripR => t.cost)) = .tuple #[.int .i64 mc, .bool mo] → Calls Try.prog 20 #[.agg #[.slice A1 i.cars.length c1, .slice A2 i.stops.length c2, .slice A3 i.pairs.length c3, .slice A4 i.travel.length c4], .int .i64 cn, u, .int .i64 mc, .bool mo] W fun e w' => e = .returned (.bool true) ∧ Below W.heap.size W w') := fun W u q mc mo hB hu hq hx hm => right_any _ _ _ _ _ _ _ _ u i cn q mc mo W (TWv.out.box.lies.below hB) HOK.out (by omega) hu (by omega) hx hm
      clear HBr RR TAr TBr TWr HBv tll
      have nst : IntKind.i64.wrap ((i.stops.length : Int) + 1) = (i.stops.length : Int) + 1 := IntWalk.i64_in _ (by omega)
      have nsn : IntKind.i64.wrap (1 + (sn : Int)) = 1 + (sn : Int) := IntWalk.i64_in _ (by omega)
      obtain ⟨k0, k1, k2, k3⟩ := SS.out _ (Below.refl v0.heap.size v0)
      have hIz := TWv.out.box.lt
      go_wp2_with (go_at_call 11; fail)
      (with_reducible refine (KST.out _).mono ?_)
      rintro e wz ⟨rfl, hww⟩
      replace hww := hww.symm
      subst hww
      go_upto_region 16 with (fail)
      clear k0 k1 k2 k3 hIz nst nsn
      have hxs : -1000000 ≤ 1 + (sn : Int) ∧ 1 + (sn : Int) ≤ 1000000 := by omega
      generalize 1 + (sn : Int) = x at *
      have nl : IntKind.i64.wrap ((r.length : Int) + 1) = (r.length : Int) + 1 := IntWalk.i64_in _ (by omega)
      have nls : IntKind.i64.wrap ((s.length : Int) + 1) = (s.length : Int) + 1 := IntWalk.i64_in _ (by omega)
      go_wp2
      go_loopw [22] (fun kv wr => ∃ k : Int, -1 ≤ k ∧ k ≤ (r.length : Int) + 2 ∧ kv = .int .i64 k ∧ Below v0.heap.size v0 wr) (fun kv _ => ((r.length : Int) + 2 - intOf kv).toNat)
      case atStart => exact ⟨-1, by omega, by omega, rfl, Below.refl _ _⟩
      case round =>
        obtain ⟨k, hk1, hk2, rfl, hbk⟩ := hrel
        have HBk := Lib.hid hbk
        clear hbk
        by_cases hk : k ≤ (r.length : Int) + 1
        · by_cases hk0 : k < 0
          · as_aux_lemma =>
              have tk : decide (k ≤ (r.length : Int) + 1) = true := by simpa using hk
              have HNO : Hid (inB (cn : Int) 0 (i.cars.length - 1) = false ∨ k < 0 ∨ (r.length : Int) < k) := .inr (by omega)
              have tk0 : decide ((0 : Int) ≤ k) = false := by simp; omega
              have K1 : Hid (Calls Try.prog 23 #[.pointer (some ⟨a, 0, none⟩), .int .i64 k, .int .i64 x] wr fun e w' => e = .returned (.tuple #[.int .i64 0, .bool false]) ∧ Below wr.heap.size wr w') := by
                have := Fins k x (GA.out _ HBk.out) HOK.out (by omega) (by omega)
                rw [ins_no x HNO.out] at this
                exact this
              go_wp2_with (go_at_call 23; fail)
              (with_reducible refine (K1.out).mono ?_)
              rintro e w21 ⟨rfl, hb⟩
              have HB21 := Lib.hid (HBk.out.trans (hb.mono HBk.out.size))
              clear hb K1
              have K1 : Hid (Calls Try.prog 24 #[.pointer (some ⟨a, 0, none⟩), .int .i64 k] w21 fun e w' => e = .returned (.tuple #[.int .i64 0, .bool false]) ∧ Below w21.heap.size w21 w') := by
                have := Frem k (GA.out _ HB21.out) HOK.out (by omega) (by omega)
                rw [show wrap64 (k + 1) = k + 1 from wrap64_id (by omega), cross_no (by omega)] at this
                exact this
              go_wp2_with (go_at_call 24; fail)
              (with_reducible refine (K1.out).mono ?_)
              rintro e w26 ⟨rfl, hb⟩
              have HB26 := Lib.hid (HB21.out.trans (hb.mono HB21.out.size))
              clear hb K1
              go_wp2
              go_loopw [25] (fun mv wr => ∃ m : Int, -1 ≤ m ∧ m ≤ (s.length : Int) + 2 ∧ mv = .int .i64 m ∧ Below v0.heap.size v0 wr) (fun mv _ => ((s.length : Int) + 2 - intOf mv).toNat)
              case atStart => exact ⟨-1, by omega, by omega, rfl, HB26.out⟩
              case round =>
                obtain ⟨m, hm1, hm2, rfl, hbm⟩ := hrel
                have HBm := Lib.hid hbm
                clear hbm
                have nm : IntKind.i64.wrap (m + 1) = m + 1 := IntWalk.i64_in _ (by omega)
                by_cases hm : m ≤ (s.length : Int) + 1
                · have tm : decide (m ≤ (s.length : Int) + 1) = true := by simpa using hm
                  have K1 : Hid (Calls Try.prog 19 #[.pointer (some ⟨a, 0, none⟩), .int .i64 k, .pointer (some ⟨b, 0, none⟩), .int .i64 m] wr fun e w' => e = .returned (.tuple #[.int .i64 0, .bool false]) ∧ Below wr.heap.size wr w') := by
                    have := Fcross k m (GA.out _ HBm.out) (GB.out _ HBm.out) HOK.out (by omega) (by omega) (by omega)
                    rw [cross_no (.inr (.inl (by omega)))] at this
                    exact this
                  go_wp2_with (go_at_call 19; fail)
                  (with_reducible refine (K1.out).mono ?_)
                  rintro e w35 ⟨rfl, hb⟩
                  have HBx := Lib.hid (HBm.out.trans (hb.mono HBm.out.size))
                  clear hb K1
                  go_wp2
                  go_roundw
                  case rel => exact ⟨m + 1, by omega, by omega, rfl, HBx.out⟩
                  case measure => simp [intOf]; omega
                · have tm : decide (m ≤ (s.length : Int) + 1) = false := by simpa using hm
                  have nk2 : IntKind.i64.wrap (k + 1) = k + 1 := IntWalk.i64_in _ (by omega)
                  go_wp2
                  go_roundw
                  case rel => exact ⟨k + 1, by omega, by omega, rfl, HBm.out⟩
                  case measure => simp [intOf]; omega
          · by_cases hka : k < (r.length : Int)
            · as_aux_lemma =>
                obtain ⟨kn, rfl⟩ : ∃ kn : Nat, k = (kn : Int) := ⟨k.toNat, by omega⟩
                have hkr : kn ≤ r.length := by omega
                have tk0 : decide ((0 : Int) ≤ (kn : Int)) = true := by simp
                have tk1 : decide ((kn : Int) ≤ (r.length : Int)) = true := by simp; omega
                have tk1' : decide (kn ≤ r.length) = true := by simp; omega
                have tk : decide ((kn : Int) ≤ (r.length : Int) + 1) = true := by simpa using hk
                have tk2 : decide ((kn : Int) < (r.length : Int)) = true := by simp; omega
                have tk2' : decide (kn < r.length) = true := by simp; omega
                obtain ⟨mi, oi, hmi⟩ := meetV_form ((evalL i cn (r.take kn ++ x :: r.drop kn)).map (fun t : TripR => t.cost))
                have Hmi := Lib.hid hmi
                clear hmi
                have K1 : Hid (Calls Try.prog 23 #[.pointer (some ⟨a, 0, none⟩), .int .i64 (kn : Int), .int .i64 x] wr fun e w' => e = .returned (.tuple #[.int .i64 mi, .bool oi]) ∧ Below wr.heap.size wr w') := by
                  have := Fins kn x (GA.out _ HBk.out) HOK.out (by omega) (by omega)
                  rw [ins_val HM.out (carAt_bounds HF.out cn).1 HC.out hkr x, Hmi.out] at this
                  exact this
                go_wp2_with (go_at_call 23; fail)
                (with_reducible refine (K1.out).mono ?_)
                rintro e w19 ⟨rfl, hb⟩
                have HB19 := Lib.hid (HBk.out.trans (hb.mono HBk.out.size))
                clear hb K1
                have KW : Hid (∀ W, Below v0.heap.size v0 W → Calls Try.prog 27 #[.slice A r.length cap, .int .i64 (kn : Int), .int .i64 x] W (NewRow W (r.take kn ++ x :: r.drop kn))) := fun W hB => with_any A cap r kn x W (GR.out W hB).1 (by omega) hrc hkr
                have hlq : (r.take kn ++ x :: r.drop kn).length ≤ 1000 := by rw [List.length_append, List.length_cons, List.length_take, List.length_drop]; omega
                have HXQ := Lib.hid (mem_ins' (k := kn) RX.out hxs)
                generalize r.take kn ++ x :: r.drop kn = qi at *
                go_upto_region 21 with (fail)
                refine wp_region_z (S := (fun W => W.cell? ⟨I, 0, none⟩ = some (.slice A1 i.cars.length c1) ∧ W.cell? ⟨I, 1, none⟩ = some (.slice A2 i.stops.length c2) ∧ W.cell? ⟨I, 2, none⟩ = some (.slice A3 i.pairs.length c3) ∧ W.cell? ⟨I, 3, none⟩ = some (.slice A4 i.travel.length c4))) (z := 10) (by kernel_rfl) (SS.out _ (HB19.out.drew)) (fun hH => ?_)
                refine wpAnyZ_takeS (i := 0) (v := ?_) rfl (by kernel_rfl) (by kernel_rfl) (by kernel_rfl) (by kernel_rfl) (fun _ _ _ h => h) (gives_value (by rfl) ?_) (by assumption) ?_
                rotate_left
                · intro w hSw
                  (try dsimp only at hSw)
                  go_simp
                  (try with_reducible rfl)
                (try simp only [Act.put, List.getElem_toArray, List.getElem_cons_succ, List.getElem_cons_zero, List.setIfInBounds_toArray, List.set_cons_zero, List.set_cons_succ])
                refine wpAnyZ_takeS (i := 1) (v := ?_) rfl (by kernel_rfl) (by kernel_rfl) (by kernel_rfl) (by kernel_rfl) (fun _ _ _ h => h) (gives_value (by rfl) ?_) (by assumption) ?_
                rotate_left
                · intro w hSw
                  (try dsimp only at hSw)
                  go_simp
                  (try with_reducible rfl)
                (try simp only [Act.put, List.getElem_toArray, List.getElem_cons_succ, List.getElem_cons_zero, List.setIfInBounds_toArray, List.set_cons_zero, List.set_cons_succ])
                refine wpAnyZ_takeS (i := 2) (v := ?_) rfl (by kernel_rfl) (by kernel_rfl) (by kernel_rfl) (by kernel_rfl) (fun _ _ _ h => h) (gives_value (by rfl) ?_) (by assumption) ?_
                rotate_left
                · intro w hSw
                  (try dsimp only at hSw)
                  go_simp
                  (try with_reducible rfl)
                (try simp only [Act.put, List.getElem_toArray, List.getElem_cons_succ, List.getElem_cons_zero, List.setIfInBounds_toArray, List.set_cons_zero, List.set_cons_succ])
                refine wpAnyZ_takeS (i := 3) (v := ?_) rfl (by kernel_rfl) (by kernel_rfl) (by kernel_rfl) (by kernel_rfl) (fun _ _ _ h => h) (gives_value (by rfl) ?_) (by assumption) ?_
                rotate_left
                · intro w hSw
                  (try dsimp only at hSw)
                  go_simp
                  (try with_reducible rfl)
                (try simp only [Act.put, List.getElem_toArray, List.getElem_cons_succ, List.getElem_cons_zero, List.setIfInBounds_toArray, List.set_cons_zero, List.set_cons_succ])
                refine wpAnyZ_takeS (i := 4) (v := ?_) rfl (by kernel_rfl) (by kernel_rfl) (by kernel_rfl) (by kernel_rfl) (fun _ _ _ h => h) (gives_value (by rfl) ?_) (by assumption) ?_
                rotate_left
                · intro w hSw
                  (try dsimp only at hSw)
                  go_simp
                  (try with_reducible rfl)
                (try simp only [Act.put, List.getElem_toArray, List.getElem_cons_succ, List.getElem_cons_zero, List.setIfInBounds_toArray, List.set_cons_zero, List.set_cons_succ])
                refine wpAnyZ_takeS (i := 6) (v := ?_) rfl (by kernel_rfl) (by kernel_rfl) (by kernel_rfl) (by kernel_rfl) (fun _ _ _ h => h) (gives_value (by rfl) ?_) (by assumption) ?_
                rotate_left
                · intro w hSw
                  (try dsimp only at hSw)
                  go_simp
                  (try with_reducible rfl)
                (try simp only [Act.put, List.getElem_toArray, List.getElem_cons_succ, List.getElem_cons_zero, List.setIfInBounds_toArray, List.set_cons_zero, List.set_cons_succ])
                refine wpAnyZ_takeS (i := 7) (v := ?_) rfl (by kernel_rfl) (by kernel_rfl) (by kernel_rfl) (by kernel_rfl) (fun _ _ _ h => h) (gives_value (by rfl) ?_) (by assumption) ?_
                rotate_left
                · intro w hSw
                  (try dsimp only at hSw)
                  go_simp
                  (try with_reducible rfl)
                (try simp only [Act.put, List.getElem_toArray, List.getElem_cons_succ, List.getElem_cons_zero, List.setIfInBounds_toArray, List.set_cons_zero, List.set_cons_succ])
                refine wpAnyZ_one (i := 5) (by kernel_rfl) ?_
                refine zstep rfl (fun K hK => ?_)
                go_simp
                (with_reducible refine (KW.out _ HB19.out.drew).mono ?_)
                rintro e w20 ⟨AQ, cq, rfl, hcq, hy, hb⟩
                have HB20 := Lib.hid (HB19.out.drew.trans (hb.mono HB19.out.drew.size))
                have RQ := Lib.hid hy.now
                clear hy hb hcq
                refine hK.out _ _ (fun _ => SS.out _ HB20.out) (fun hH => ?_)
                replace hH := hH (by decide)
                clear hK K
                (try simp only [Act.put, List.getElem_toArray, List.getElem_cons_succ, List.getElem_cons_zero, List.setIfInBounds_toArray, List.set_cons_zero, List.set_cons_succ])
                refine wpAnyZ_one (i := 8) (by kernel_rfl) ?_
                refine zstep rfl (fun K hK => ?_)
                go_simp
                (with_reducible refine (KR.out _ _ qi mi oi HB20.out RQ.out hlq HXQ.out Hmi.out).mono ?_)
                rintro e w21 ⟨rfl, hb⟩
                have HB21 := Lib.hid (HB20.out.trans (hb.mono HB20.out.size))
                clear hb
                refine hK.out _ _ (fun _ => SS.out _ HB21.out) (fun hH => ?_)
                replace hH := hH (by decide)
                clear hK K
                (try simp only [Act.put, List.getElem_toArray, List.getElem_cons_succ, List.getElem_cons_zero, List.setIfInBounds_toArray, List.set_cons_zero, List.set_cons_succ])
                refine wpAnyZ_takeS (i := 9) (v := ?_) rfl (by kernel_rfl) (by kernel_rfl) (by kernel_rfl) (by kernel_rfl) (fun _ _ _ h => h) (gives_value (by rfl) ?_) (by assumption) ?_
                rotate_left
                · intro w hSw
                  (try dsimp only at hSw)
                  go_simp
                  (try with_reducible rfl)
                (try simp only [Act.put, List.getElem_toArray, List.getElem_cons_succ, List.getElem_cons_zero, List.setIfInBounds_toArray, List.set_cons_zero, List.set_cons_succ])
                refine wpAnyZ_done (by kernel_rfl) ?_ _
                clear hH KW RQ HXQ Hmi HB19 HB20 hlq
                obtain ⟨mr, orr, hmr⟩ := meetV_form ((evalL i cn (r.take kn ++ r.drop (kn + 1))).map (fun t : TripR => t.cost))
                have Hmr := Lib.hid hmr
                clear hmr
                have K1 : Hid (Calls Try.prog 24 #[.pointer (some ⟨a, 0, none⟩), .int .i64 (kn : Int)] w21 fun e w' => e = .returned (.tuple #[.int .i64 mr, .bool orr]) ∧ Below w21.heap.size w21 w') := by
                  have := Frem kn (GA.out _ HB21.out) HOK.out (by omega) (by omega)
                  rw [show wrap64 ((kn : Int) + 1) = ((kn + 1 : Nat) : Int) from (wrap64_id (by omega)).trans rfl, cross_val HM.out (carAt_bounds HF.out cn).1 HC.out hkr (show kn + 1 ≤ r.length by omega), Hmr.out] at this
                  exact this
                go_wp2_with (go_at_call 24; fail)
                (with_reducible refine (K1.out).mono ?_)
                rintro e w25 ⟨rfl, hb⟩
                have HB25 := Lib.hid (HB21.out.trans (hb.mono HB21.out.size))
                clear hb K1
                obtain ⟨Ua, Uc, hsl1, hre1⟩ := slice_h A cap r hkr hrc
                obtain ⟨Va, Vc, hsl2, hre2⟩ := slice_l A cap r (show kn + 1 ≤ r.length by omega) hrc
                rw [Int.natCast_add, Int.natCast_one] at hsl2
                have SL1 := Lib.hid hsl1
                have SL2 := Lib.hid hsl2
                have RP : Hid (∀ W, Below v0.heap.size v0 W → Recs W 1 num_ (.slice Ua (r.take kn).length Uc) (r.take kn) ∧ Recs W 1 num_ (.slice Va (r.drop (kn + 1)).length Vc) (r.drop (kn + 1))) := fun W hB => ⟨hre1 W (GR.out W hB).1, hre2 W (GR.out W hB).1⟩
                clear hsl1 hsl2 hre1 hre2
                have hl1 : (r.take kn).length ≤ 14 := by rw [List.length_take]; omega
                have hl2 : (r.drop (kn + 1)).length ≤ 14 := by rw [List.length_drop]; omega
                have hluv : (r.take kn ++ r.drop (kn + 1)).length ≤ 1000 := by rw [List.length_append]; omega
                have HUV := Lib.hid (mem_cut (k := kn) (m := kn + 1) RX.out RX.out)
                have nk : IntKind.i64.wrap ((kn : Int) + 1) = (kn : Int) + 1 := IntWalk.i64_in _ (by omega)
                generalize r.take kn = U at *
                generalize r.drop (kn + 1) = V at *
                go_upto_region 27 with (fail)
                refine wp_region_z (S := (fun W => W.cell? ⟨I, 0, none⟩ = some (.slice A1 i.cars.length c1) ∧ W.cell? ⟨I, 1, none⟩ = some (.slice A2 i.stops.length c2) ∧ W.cell? ⟨I, 2, none⟩ = some (.slice A3 i.pairs.length c3) ∧ W.cell? ⟨I, 3, none⟩ = some (.slice A4 i.travel.length c4))) (z := 15) (by kernel_rfl) (SS.out _ (HB25.out.drew)) (fun hH => ?_)
                refine wpAnyZ_takeS (i := 0) (v := ?_) rfl (by kernel_rfl) (by kernel_rfl) (by kernel_rfl) (by kernel_rfl) (fun _ _ _ h => h) (gives_value (by rfl) ?_) (by assumption) ?_
                rotate_left
                · intro w hSw
                  (try dsimp only at hSw)
                  go_simp
                  (try with_reducible rfl)
                (try simp only [Act.put, List.getElem_toArray, List.getElem_cons_succ, List.getElem_cons_zero, List.setIfInBounds_toArray, List.set_cons_zero, List.set_cons_succ])
                refine wpAnyZ_takeS (i := 1) (v := ?_) rfl (by kernel_rfl) (by kernel_rfl) (by kernel_rfl) (by kernel_rfl) (fun _ _ _ h => h) (gives_value (by rfl) ?_) (by assumption) ?_
                rotate_left
                · intro w hSw
                  (try dsimp only at hSw)
                  go_simp
                  (try with_reducible rfl)
                (try simp only [Act.put, List.getElem_toArray, List.getElem_cons_succ, List.getElem_cons_zero, List.setIfInBounds_toArray, List.set_cons_zero, List.set_cons_succ])
                refine wpAnyZ_takeS (i := 2) (v := ?_) rfl (by kernel_rfl) (by kernel_rfl) (by kernel_rfl) (by kernel_rfl) (fun _ _ _ h => h) (gives_value (by rfl) ?_) (by assumption) ?_
                rotate_left
                · intro w hSw
                  (try dsimp only at hSw)
                  go_simp
                  (try with_reducible rfl)
                (try simp only [Act.put, List.getElem_toArray, List.getElem_cons_succ, List.getElem_cons_zero, List.setIfInBounds_toArray, List.set_cons_zero, List.set_cons_succ])
                refine wpAnyZ_takeS (i := 3) (v := ?_) rfl (by kernel_rfl) (by kernel_rfl) (by kernel_rfl) (by kernel_rfl) (fun _ _ _ h => h) (gives_value (by rfl) ?_) (by assumption) ?_
                rotate_left
                · intro w hSw
                  (try dsimp only at hSw)
                  go_simp
                  (try with_reducible rfl)
                (try simp only [Act.put, List.getElem_toArray, List.getElem_cons_succ, List.getElem_cons_zero, List.setIfInBounds_toArray, List.set_cons_zero, List.set_cons_succ])
                refine wpAnyZ_takeS (i := 4) (v := .slice Ua U.length Uc) rfl (by kernel_rfl) (by kernel_rfl) (by kernel_rfl) (by kernel_rfl) (fun _ _ _ h => h) (gives_value (by rfl) ?_) (by assumption) ?_
                · intro w hSw
                  have q := SL1.out w
                  clear hSw
                  go_simp
                (try simp only [Act.put, List.getElem_toArray, List.getElem_cons_succ, List.getElem_cons_zero, List.setIfInBounds_toArray, List.set_cons_zero, List.set_cons_succ])
                refine wpAnyZ_takeS (i := 6) (v := ?_) rfl (by kernel_rfl) (by kernel_rfl) (by kernel_rfl) (by kernel_rfl) (fun _ _ _ h => h) (gives_value (by rfl) ?_) (by assumption) ?_
                rotate_left
                · intro w hSw
                  (try dsimp only at hSw)
                  go_simp
                  (try with_reducible rfl)
                (try simp only [Act.put, List.getElem_toArray, List.getElem_cons_succ, List.getElem_cons_zero, List.setIfInBounds_toArray, List.set_cons_zero, List.set_cons_succ])
                refine wpAnyZ_takeS (i := 7) (v := ?_) rfl (by kernel_rfl) (by kernel_rfl) (by kernel_rfl) (by kernel_rfl) (fun _ _ _ h => h) (gives_value (by rfl) ?_) (by assumption) ?_
                rotate_left
                · intro w hSw
                  (try dsimp only at hSw)
                  go_simp
                  (try with_reducible rfl)
                (try simp only [Act.put, List.getElem_toArray, List.getElem_cons_succ, List.getElem_cons_zero, List.setIfInBounds_toArray, List.set_cons_zero, List.set_cons_succ])
                refine wpAnyZ_takeS (i := 8) (v := ?_) rfl (by kernel_rfl) (by kernel_rfl) (by kernel_rfl) (by kernel_rfl) (fun _ _ _ h => h) (gives_value (by rfl) ?_) (by assumption) ?_
                rotate_left
                · intro w hSw
                  (try dsimp only at hSw)
                  go_simp
                  (try with_reducible rfl)
                (try simp only [Act.put, List.getElem_toArray, List.getElem_cons_succ, List.getElem_cons_zero, List.setIfInBounds_toArray, List.set_cons_zero, List.set_cons_succ])
                refine wpAnyZ_takeS (i := 9) (v := .slice Va V.length Vc) rfl (by kernel_rfl) (by kernel_rfl) (by kernel_rfl) (by kernel_rfl) (fun _ _ _ h => h) (gives_value (by rfl) ?_) (by assumption) ?_
                · intro w hSw
                  have q := SL2.out w
                  clear hSw
                  go_simp
                (try simp only [Act.put, List.getElem_toArray, List.getElem_cons_succ, List.getElem_cons_zero, List.setIfInBounds_toArray, List.set_cons_zero, List.set_cons_succ])
                refine wpAnyZ_takeS (i := 11) (v := ?_) rfl (by kernel_rfl) (by kernel_rfl) (by kernel_rfl) (by kernel_rfl) (fun _ _ _ h => h) (gives_value (by rfl) ?_) (by assumption) ?_
                rotate_left
                · intro w hSw
                  (try dsimp only at hSw)
                  go_simp
                  (try with_reducible rfl)
                (try simp only [Act.put, List.getElem_toArray, List.getElem_cons_succ, List.getElem_cons_zero, List.setIfInBounds_toArray, List.set_cons_zero, List.set_cons_succ])
                refine wpAnyZ_takeS (i := 12) (v := ?_) rfl (by kernel_rfl) (by kernel_rfl) (by kernel_rfl) (by kernel_rfl) (fun _ _ _ h => h) (gives_value (by rfl) ?_) (by assumption) ?_
                rotate_left
                · intro w hSw
                  (try dsimp only at hSw)
                  go_simp
                  (try with_reducible rfl)
                (try simp only [Act.put, List.getElem_toArray, List.getElem_cons_succ, List.getElem_cons_zero, List.setIfInBounds_toArray, List.set_cons_zero, List.set_cons_succ])
                refine wpAnyZ_one (i := 5) (by kernel_rfl) ?_
                refine zstep rfl (fun K hK => ?_)
                refine step_append_any _ rfl (.const (.slice none 0 0)) (.tmp 136) 22 rfl v0.heap.size 3 i0 _ 1 8 Try.underlying22 hi0 hz0 hz1 hz2 rfl (by decide) (.slice none 0 0) 0 [] (by rfl) ⟨rfl, .inl ⟨rfl, rfl⟩⟩ _ Ua U.length Uc (ints U) (by rfl) (RP.out _ HB25.out.drew).1.reads (ints_one U) (by unfold maxLen; omega) (by omega) HB25.out.drew.size ?_
                intro vr pr hown' hgrow hob
                rw [Nat.zero_add, List.nil_append] at hown'
                have HBpr := Lib.hid ((HB25.out.drew).grown hgrow HB25.out.drew.size (fun g hg => by cases hg))
                have OWr := Lib.hid hown'
                clear hown' hgrow hob
                refine hK.out _ _ (fun _ => SS.out _ HBpr.out) (fun hH => ?_)
                replace hH := hH (by decide)
                clear hK K
                (try simp only [Act.put, List.getElem_toArray, List.getElem_cons_succ, List.getElem_cons_zero, List.setIfInBounds_toArray, List.set_cons_zero, List.set_cons_succ])
                refine wpAnyZ_one (i := 10) (by kernel_rfl) ?_
                refine zstep rfl (fun K hK => ?_)
                refine step_append_any _ rfl (.tmp 137) (.tmp 141) 22 rfl v0.heap.size 3 i0 _ 1 8 Try.underlying22 hi0 hz0 hz1 hz2 rfl (by decide) vr U.length (ints U) (by rfl) OWr.out _ Va V.length Vc (ints V) (by rfl) (RP.out _ HBpr.out).2.reads (ints_one V) (by unfold maxLen; omega) (by omega) HBpr.out.size ?_
                intro vr' qr hown2 hgrow hob
                have HBqr := Lib.hid (HBpr.out.grown hgrow HBpr.out.size (fun g hg => (own_typed OWr.out hg).2))
                have OXr := Lib.hid (row_cat hown2)
                clear hown2 hgrow hob
                obtain ⟨AEr, ecr, rfl, hec, hrE, hfE⟩ := own_nums OXr.out
                rw [List.length_append] at hrE
                have REr := Lib.hid hrE
                clear hrE hfE hec
                refine hK.out _ _ (fun _ => SS.out _ HBqr.out) (fun hH => ?_)
                replace hH := hH (by decide)
                clear hK K
                (try simp only [Act.put, List.getElem_toArray, List.getElem_cons_succ, List.getElem_cons_zero, List.setIfInBounds_toArray, List.set_cons_zero, List.set_cons_succ])
                refine wpAnyZ_one (i := 13) (by kernel_rfl) ?_
                refine zstep rfl (fun K hK => ?_)
                go_simp
                (with_reducible refine (KR.out _ _ (U ++ V) mr orr HBqr.out REr.out hluv HUV.out Hmr.out).mono ?_)
                rintro e w26 ⟨rfl, hb⟩
                have HBw26 := Lib.hid (HBqr.out.trans (hb.mono HBqr.out.size))
                clear hb
                refine hK.out _ _ (fun _ => SS.out _ HBw26.out) (fun hH => ?_)
                replace hH := hH (by decide)
                clear hK K
                (try simp only [Act.put, List.getElem_toArray, List.getElem_cons_succ, List.getElem_cons_zero, List.setIfInBounds_toArray, List.set_cons_zero, List.set_cons_succ])
                refine wpAnyZ_takeS (i := 14) (v := ?_) rfl (by kernel_rfl) (by kernel_rfl) (by kernel_rfl) (by kernel_rfl) (fun _ _ _ h => h) (gives_value (by rfl) ?_) (by assumption) ?_
                rotate_left
                · intro w hSw
                  (try dsimp only at hSw)
                  go_simp
                  (try with_reducible rfl)
                (try simp only [Act.put, List.getElem_toArray, List.getElem_cons_succ, List.getElem_cons_zero, List.setIfInBounds_toArray, List.set_cons_zero, List.set_cons_succ])
                refine wpAnyZ_done (by kernel_rfl) ?_ _
                have HB26 := HBw26
                clear hH SL1 SL2 RP HUV Hmr HB25 HBpr HBqr OWr OXr REr hluv nk hl1 hl2
                go_wp2
                go_loopw [25] (fun mv wr => ∃ m : Int, -1 ≤ m ∧ m ≤ (s.length : Int) + 2 ∧ mv = .int .i64 m ∧ Below v0.heap.size v0 wr) (fun mv _ => ((s.length : Int) + 2 - intOf mv).toNat)
                case atStart => exact ⟨-1, by omega, by omega, rfl, HB26.out⟩
                case round =>
                  obtain ⟨m, hm1, hm2, rfl, hbm⟩ := hrel
                  have HBm := Lib.hid hbm
                  clear hbm
                  have nm : IntKind.i64.wrap (m + 1) = m + 1 := IntWalk.i64_in _ (by omega)
                  by_cases hm : m ≤ (s.length : Int) + 1
                  · by_cases hm0 : m < 0
                    · as_aux_lemma =>
                        have tm : decide (m ≤ (s.length : Int) + 1) = true := by simpa using hm
                        have tm1 : decide ((0 : Int) ≤ m) = false := by simp; omega
                        have K1 : Hid (Calls Try.prog 19 #[.pointer (some ⟨a, 0, none⟩), .int .i64 (kn : Int), .pointer (some ⟨b, 0, none⟩), .int .i64 m] wr fun e w' => e = .returned (.tuple #[.int .i64 0, .bool false]) ∧ Below wr.heap.size wr w') := by
                          have := Fcross (kn : Int) m (GA.out _ HBm.out) (GB.out _ HBm.out) HOK.out (by omega) (by omega) (by omega)
                          rw [cross_no (.inr (.inr (.inr (.inl (by omega)))))] at this
                          exact this
                        go_wp2_with (go_at_call 19; fail)
                        (with_reducible refine (K1.out).mono ?_)
                        rintro e w35 ⟨rfl, hb⟩
                        have HBx := Lib.hid (HBm.out.trans (hb.mono HBm.out.size))
                        clear hb K1
                        go_wp2
                        go_roundw
                        case rel => exact ⟨m + 1, by omega, by omega, rfl, HBx.out⟩
                        case measure => simp [intOf]; omega
                    · by_cases hmh : m ≤ (s.length : Int)
                      · as_aux_lemma =>
                          have tm : decide (m ≤ (s.length : Int) + 1) = true := by simpa using hm
                          obtain ⟨mn, rfl⟩ : ∃ mn : Nat, m = (mn : Int) := ⟨m.toNat, by omega⟩
                          have hmr : mn ≤ s.length := by omega
                          have tm1 : decide ((0 : Int) ≤ (mn : Int)) = true := by simp
                          have tm2 : decide ((mn : Int) ≤ (s.length : Int)) = true := by simp; omega
                          have tm2' : decide (mn ≤ s.length) = true := by simp; omega
                          obtain ⟨mx, ox, hmx⟩ := meetV_form ((evalL i cn (r.take kn ++ s.drop mn)).map (fun t : TripR => t.cost))
                          have Hmx := Lib.hid hmx
                          clear hmx
                          have K1 : Hid (Calls Try.prog 19 #[.pointer (some ⟨a, 0, none⟩), .int .i64 (kn : Int), .pointer (some ⟨b, 0, none⟩), .int .i64 (mn : Int)] wr fun e w' => e = .returned (.tuple #[.int .i64 mx, .bool ox]) ∧ Below wr.heap.size wr w') := by
                            have := Fcross kn mn (GA.out _ HBm.out) (GB.out _ HBm.out) HOK.out (by omega) (by omega) (by omega)
                            rw [cross_val HM.out (carAt_bounds HF.out cn).1 HC.out hkr hmr, Hmx.out] at this
                            exact this
                          go_wp2_with (go_at_call 19; fail)
                          (with_reducible refine (K1.out).mono ?_)
                          rintro e w34 ⟨rfl, hb⟩
                          have HB34 := Lib.hid (HBm.out.trans (hb.mono HBm.out.size))
                          clear hb K1
                          obtain ⟨Ua, Uc, hsl1, hre1⟩ := slice_h A cap r hkr hrc
                          obtain ⟨Va, Vc, hsl2, hre2⟩ := slice_l E ecap s hmr hsc
                          have SL1 := Lib.hid hsl1
                          have SL2 := Lib.hid hsl2
                          have RP : Hid (∀ W, Below v0.heap.size v0 W → Recs W 1 num_ (.slice Ua (r.take kn).length Uc) (r.take kn) ∧ Recs W 1 num_ (.slice Va (s.drop mn).length Vc) (s.drop mn)) := fun W hB => ⟨hre1 W (GR.out W hB).1, hre2 W (GR.out W hB).2⟩
                          clear hsl1 hsl2 hre1 hre2
                          have hl1 : (r.take kn).length ≤ 14 := by rw [List.length_take]; omega
                          have hl2 : (s.drop mn).length ≤ 14 := by rw [List.length_drop]; omega
                          have hluv : (r.take kn ++ s.drop mn).length ≤ 1000 := by rw [List.length_append]; omega
                          have HUV := Lib.hid (mem_cut (k := kn) (m := mn) RX.out HSX2.out)
                          generalize r.take kn = U at *
                          generalize s.drop mn = V at *
                          go_upto_region 36 with (fail)
                          refine wp_region_z (S := (fun W => W.cell? ⟨I, 0, none⟩ = some (.slice A1 i.cars.length c1) ∧ W.cell? ⟨I, 1, none⟩ = some (.slice A2 i.stops.length c2) ∧ W.cell? ⟨I, 2, none⟩ = some (.slice A3 i.pairs.length c3) ∧ W.cell? ⟨I, 3, none⟩ = some (.slice A4 i.travel.length c4))) (z := 14) (by kernel_rfl) (SS.out _ (HB34.out.drew)) (fun hH => ?_)
                          refine wpAnyZ_takeS (i := 0) (v := ?_) rfl (by kernel_rfl) (by kernel_rfl) (by kernel_rfl) (by kernel_rfl) (fun _ _ _ h => h) (gives_value (by rfl) ?_) (by assumption) ?_
                          rotate_left
                          · intro w hSw
                            (try dsimp only at hSw)
                            go_simp
                            (try with_reducible rfl)
                          (try simp only [Act.put, List.getElem_toArray, List.getElem_cons_succ, List.getElem_cons_zero, List.setIfInBounds_toArray, List.set_cons_zero, List.set_cons_succ])
                          refine wpAnyZ_takeS (i := 1) (v := ?_) rfl (by kernel_rfl) (by kernel_rfl) (by kernel_rfl) (by kernel_rfl) (fun _ _ _ h => h) (gives_value (by rfl) ?_) (by assumption) ?_
                          rotate_left
                          · intro w hSw
                            (try dsimp only at hSw)
                            go_simp
                            (try with_reducible rfl)
                          (try simp only [Act.put, List.getElem_toArray, List.getElem_cons_succ, List.getElem_cons_zero, List.setIfInBounds_toArray, List.set_cons_zero, List.set_cons_succ])
                          refine wpAnyZ_takeS (i := 2) (v := ?_) rfl (by kernel_rfl) (by kernel_rfl) (by kernel_rfl) (by kernel_rfl) (fun _ _ _ h => h) (gives_value (by rfl) ?_) (by assumption) ?_
                          rotate_left
                          · intro w hSw
                            (try dsimp only at hSw)
                            go_simp
                            (try with_reducible rfl)
                          (try simp only [Act.put, List.getElem_toArray, List.getElem_cons_succ, List.getElem_cons_zero, List.setIfInBounds_toArray, List.set_cons_zero, List.set_cons_succ])
                          refine wpAnyZ_takeS (i := 3) (v := ?_) rfl (by kernel_rfl) (by kernel_rfl) (by kernel_rfl) (by kernel_rfl) (fun _ _ _ h => h) (gives_value (by rfl) ?_) (by assumption) ?_
                          rotate_left
                          · intro w hSw
                            (try dsimp only at hSw)
                            go_simp
                            (try with_reducible rfl)
                          (try simp only [Act.put, List.getElem_toArray, List.getElem_cons_succ, List.getElem_cons_zero, List.setIfInBounds_toArray, List.set_cons_zero, List.set_cons_succ])
                          refine wpAnyZ_takeS (i := 4) (v := .slice Ua U.length Uc) rfl (by kernel_rfl) (by kernel_rfl) (by kernel_rfl) (by kernel_rfl) (fun _ _ _ h => h) (gives_value (by rfl) ?_) (by assumption) ?_
                          · intro w hSw
                            have q := SL1.out w
                            clear hSw
                            go_simp
                          (try simp only [Act.put, List.getElem_toArray, List.getElem_cons_succ, List.getElem_cons_zero, List.setIfInBounds_toArray, List.set_cons_zero, List.set_cons_succ])
                          refine wpAnyZ_takeS (i := 6) (v := ?_) rfl (by kernel_rfl) (by kernel_rfl) (by kernel_rfl) (by kernel_rfl) (fun _ _ _ h => h) (gives_value (by rfl) ?_) (by assumption) ?_
                          rotate_left
                          · intro w hSw
                            (try dsimp only at hSw)
                            go_simp
                            (try with_reducible rfl)
                          (try simp only [Act.put, List.getElem_toArray, List.getElem_cons_succ, List.getElem_cons_zero, List.setIfInBounds_toArray, List.set_cons_zero, List.set_cons_succ])
                          refine wpAnyZ_takeS (i := 7) (v := ?_) rfl (by kernel_rfl) (by kernel_rfl) (by kernel_rfl) (by kernel_rfl) (fun _ _ _ h => h) (gives_value (by rfl) ?_) (by assumption) ?_
                          rotate_left
                          · intro w hSw
                            (try dsimp only at hSw)
                            go_simp
                            (try with_reducible rfl)
                          (try simp only [Act.put, List.getElem_toArray, List.getElem_cons_succ, List.getElem_cons_zero, List.setIfInBounds_toArray, List.set_cons_zero, List.set_cons_succ])
                          refine wpAnyZ_takeS (i := 8) (v := .slice Va V.length Vc) rfl (by kernel_rfl) (by kernel_rfl) (by kernel_rfl) (by kernel_rfl) (fun _ _ _ h => h) (gives_value (by rfl) ?_) (by assumption) ?_
                          · intro w hSw
                            have q := SL2.out w
                            clear hSw
                            go_simp
                          (try simp only [Act.put, List.getElem_toArray, List.getElem_cons_succ, List.getElem_cons_zero, List.setIfInBounds_toArray, List.set_cons_zero, List.set_cons_succ])
                          refine wpAnyZ_takeS (i := 10) (v := ?_) rfl (by kernel_rfl) (by kernel_rfl) (by kernel_rfl) (by kernel_rfl) (fun _ _ _ h => h) (gives_value (by rfl) ?_) (by assumption) ?_
                          rotate_left
                          · intro w hSw
                            (try dsimp only at hSw)
                            go_simp
                            (try with_reducible rfl)
                          (try simp only [Act.put, List.getElem_toArray, List.getElem_cons_succ, List.getElem_cons_zero, List.setIfInBounds_toArray, List.set_cons_zero, List.set_cons_succ])
                          refine wpAnyZ_takeS (i := 11) (v := ?_) rfl (by kernel_rfl) (by kernel_rfl) (by kernel_rfl) (by kernel_rfl) (fun _ _ _ h => h) (gives_value (by rfl) ?_) (by assumption) ?_
                          rotate_left
                          · intro w hSw
                            (try dsimp only at hSw)
                            go_simp
                            (try with_reducible rfl)
                          (try simp only [Act.put, List.getElem_toArray, List.getElem_cons_succ, List.getElem_cons_zero, List.setIfInBounds_toArray, List.set_cons_zero, List.set_cons_succ])
                          refine wpAnyZ_one (i := 5) (by kernel_rfl) ?_
                          refine zstep rfl (fun K hK => ?_)
                          refine step_append_any _ rfl (.const (.slice none 0 0)) (.tmp 189) 22 rfl v0.heap.size 3 i0 _ 1 8 Try.underlying22 hi0 hz0 hz1 hz2 rfl (by decide) (.slice none 0 0) 0 [] (by rfl) ⟨rfl, .inl ⟨rfl, rfl⟩⟩ _ Ua U.length Uc (ints U) (by rfl) (RP.out _ HB34.out.drew).1.reads (ints_one U) (by unfold maxLen; omega) (by omega) HB34.out.drew.size ?_
                          intro vx px hown' hgrow hob
                          rw [Nat.zero_add, List.nil_append] at hown'
                          have HBpx := Lib.hid ((HB34.out.drew).grown hgrow HB34.out.drew.size (fun g hg => by cases hg))
                          have OWx := Lib.hid hown'
                          clear hown' hgrow hob
                          refine hK.out _ _ (fun _ => SS.out _ HBpx.out) (fun hH => ?_)
                          replace hH := hH (by decide)
                          clear hK K
                          (try simp only [Act.put, List.getElem_toArray, List.getElem_cons_succ, List.getElem_cons_zero, List.setIfInBounds_toArray, List.set_cons_zero, List.set_cons_succ])
                          refine wpAnyZ_one (i := 9) (by kernel_rfl) ?_
                          refine zstep rfl (fun K hK => ?_)
                          refine step_append_any _ rfl (.tmp 190) (.tmp 193) 22 rfl v0.heap.size 3 i0 _ 1 8 Try.underlying22 hi0 hz0 hz1 hz2 rfl (by decide) vx U.length (ints U) (by rfl) OWx.out _ Va V.length Vc (ints V) (by rfl) (RP.out _ HBpx.out).2.reads (ints_one V) (by unfold maxLen; omega) (by omega) HBpx.out.size ?_
                          intro vx' qx hown2 hgrow hob
                          have HBqx := Lib.hid (HBpx.out.grown hgrow HBpx.out.size (fun g hg => (own_typed OWx.out hg).2))
                          have OXx := Lib.hid (row_cat hown2)
                          clear hown2 hgrow hob
                          obtain ⟨AEx, ecx, rfl, hec, hrE, hfE⟩ := own_nums OXx.out
                          rw [List.length_append] at hrE
                          have REx := Lib.hid hrE
                          clear hrE hfE hec
                          refine hK.out _ _ (fun _ => SS.out _ HBqx.out) (fun hH => ?_)
                          replace hH := hH (by decide)
                          clear hK K
                          (try simp only [Act.put, List.getElem_toArray, List.getElem_cons_succ, List.getElem_cons_zero, List.setIfInBounds_toArray, List.set_cons_zero, List.set_cons_succ])
                          refine wpAnyZ_one (i := 12) (by kernel_rfl) ?_
                          refine zstep rfl (fun K hK => ?_)
                          go_simp
                          (with_reducible refine (KR.out _ _ (U ++ V) mx ox HBqx.out REx.out hluv HUV.out Hmx.out).mono ?_)
                          rintro e w36 ⟨rfl, hb⟩
                          have HBw36 := Lib.hid (HBqx.out.trans (hb.mono HBqx.out.size))
                          clear hb
                          refine hK.out _ _ (fun _ => SS.out _ HBw36.out) (fun hH => ?_)
                          replace hH := hH (by decide)
                          clear hK K
                          (try simp only [Act.put, List.getElem_toArray, List.getElem_cons_succ, List.getElem_cons_zero, List.setIfInBounds_toArray, List.set_cons_zero, List.set_cons_succ])
                          refine wpAnyZ_takeS (i := 13) (v := ?_) rfl (by kernel_rfl) (by kernel_rfl) (by kernel_rfl) (by kernel_rfl) (fun _ _ _ h => h) (gives_value (by rfl) ?_) (by assumption) ?_
                          rotate_left
                          · intro w hSw
                            (try dsimp only at hSw)
                            go_simp
                            (try with_reducible rfl)
                          (try simp only [Act.put, List.getElem_toArray, List.getElem_cons_succ, List.getElem_cons_zero, List.setIfInBounds_toArray, List.set_cons_zero, List.set_cons_succ])
                          refine wpAnyZ_done (by kernel_rfl) ?_ _
                          clear hH SL1 SL2 RP HUV Hmx HB34 HBpx HBqx OWx OXx REx hluv hl1 hl2
                          have HBx := HBw36
                          go_wp2
                          go_roundw
                          case rel => exact ⟨(mn : Int) + 1, by omega, by omega, rfl, HBx.out⟩
                          case measure => simp [intOf]; omega
                      · as_aux_lemma =>
                          have tm : decide (m ≤ (s.length : Int) + 1) = true := by simpa using hm
                          have tm1 : decide ((0 : Int) ≤ m) = true := by simp; omega
                          have tm2 : decide (m ≤ (s.length : Int)) = false := by simp; omega
                          have K1 : Hid (Calls Try.prog 19 #[.pointer (some ⟨a, 0, none⟩), .int .i64 (kn : Int), .pointer (some ⟨b, 0, none⟩), .int .i64 m] wr fun e w' => e = .returned (.tuple #[.int .i64 0, .bool false]) ∧ Below wr.heap.size wr w') := by
                            have := Fcross (kn : Int) m (GA.out _ HBm.out) (GB.out _ HBm.out) HOK.out (by omega) (by omega) (by omega)
                            rw [cross_no (.inr (.inr (.inr (.inr (by omega)))))] at this
                            exact this
                          go_wp2_with (go_at_call 19; fail)
                          (with_reducible refine (K1.out).mono ?_)
                          rintro e w35 ⟨rfl, hb⟩
                          have HBx := Lib.hid (HBm.out.trans (hb.mono HBm.out.size))
                          clear hb K1
                          go_wp2
                          go_roundw
                          case rel => exact ⟨m + 1, by omega, by omega, rfl, HBx.out⟩
                          case measure => simp [intOf]; omega
                  · have tm : decide (m ≤ (s.length : Int) + 1) = false := by simpa using hm
                    have nk2 : IntKind.i64.wrap ((kn : Int) + 1) = (kn : Int) + 1 := IntWalk.i64_in _ (by omega)
                    go_wp2
                    go_roundw
                    case rel => exact ⟨(kn : Int) + 1, by omega, by omega, rfl, HBm.out⟩
                    case measure => simp [intOf]; omega
            · by_cases hkb : k ≤ (r.length : Int)
              · as_aux_lemma =>
                  obtain ⟨kn, rfl⟩ : ∃ kn : Nat, k = (kn : Int) := ⟨k.toNat, by omega⟩
                  have hkr : kn ≤ r.length := by omega
                  have tk0 : decide ((0 : Int) ≤ (kn : Int)) = true := by simp
                  have tk1 : decide ((kn : Int) ≤ (r.length : Int)) = true := by simp; omega
                  have tk1' : decide (kn ≤ r.length) = true := by simp; omega
                  have tk : decide ((kn : Int) ≤ (r.length : Int) + 1) = true := by simpa using hk
                  have tk2 : decide ((kn : Int) < (r.length : Int)) = false := by simp; omega
                  have tk2' : decide (kn < r.length) = false := by simp; omega
                  obtain ⟨mi, oi, hmi⟩ := meetV_form ((evalL i cn (r.take kn ++ x :: r.drop kn)).map (fun t : TripR => t.cost))
                  have Hmi := Lib.hid hmi
                  clear hmi
                  have K1 : Hid (Calls Try.prog 23 #[.pointer (some ⟨a, 0, none⟩), .int .i64 (kn : Int), .int .i64 x] wr fun e w' => e = .returned (.tuple #[.int .i64 mi, .bool oi]) ∧ Below wr.heap.size wr w') := by
                    have := Fins kn x (GA.out _ HBk.out) HOK.out (by omega) (by omega)
                    rw [ins_val HM.out (carAt_bounds HF.out cn).1 HC.out hkr x, Hmi.out] at this
                    exact this
                  go_wp2_with (go_at_call 23; fail)
                  (with_reducible refine (K1.out).mono ?_)
                  rintro e w19 ⟨rfl, hb⟩
                  have HB19 := Lib.hid (HBk.out.trans (hb.mono HBk.out.size))
                  clear hb K1
                  have KW : Hid (∀ W, Below v0.heap.size v0 W → Calls Try.prog 27 #[.slice A r.length cap, .int .i64 (kn : Int), .int .i64 x] W (NewRow W (r.take kn ++ x :: r.drop kn))) := fun W hB => with_any A cap r kn x W (GR.out W hB).1 (by omega) hrc hkr
                  have hlq : (r.take kn ++ x :: r.drop kn).length ≤ 1000 := by rw [List.length_append, List.length_cons, List.length_take, List.length_drop]; omega
                  have HXQ := Lib.hid (mem_ins' (k := kn) RX.out hxs)
                  generalize r.take kn ++ x :: r.drop kn = qi at *
                  go_upto_region 21 with (fail)
                  refine wp_region_z (S := (fun W => W.cell? ⟨I, 0, none⟩ = some (.slice A1 i.cars.length c1) ∧ W.cell? ⟨I, 1, none⟩ = some (.slice A2 i.stops.length c2) ∧ W.cell? ⟨I, 2, none⟩ = some (.slice A3 i.pairs.length c3) ∧ W.cell? ⟨I, 3, none⟩ = some (.slice A4 i.travel.length c4))) (z := 10) (by kernel_rfl) (SS.out _ (HB19.out.drew)) (fun hH => ?_)
                  refine wpAnyZ_takeS (i := 0) (v := ?_) rfl (by kernel_rfl) (by kernel_rfl) (by kernel_rfl) (by kernel_rfl) (fun _ _ _ h => h) (gives_value (by rfl) ?_) (by assumption) ?_
                  rotate_left
                  · intro w hSw
                    (try dsimp only at hSw)
                    go_simp
                    (try with_reducible rfl)
                  (try simp only [Act.put, List.getElem_toArray, List.getElem_cons_succ, List.getElem_cons_zero, List.setIfInBounds_toArray, List.set_cons_zero, List.set_cons_succ])
                  refine wpAnyZ_takeS (i := 1) (v := ?_) rfl (by kernel_rfl) (by kernel_rfl) (by kernel_rfl) (by kernel_rfl) (fun _ _ _ h => h) (gives_value (by rfl) ?_) (by assumption) ?_
                  rotate_left
                  · intro w hSw
                    (try dsimp only at hSw)
                    go_simp
                    (try with_reducible rfl)
                  (try simp only [Act.put, List.getElem_toArray, List.getElem_cons_succ, List.getElem_cons_zero, List.setIfInBounds_toArray, List.set_cons_zero, List.set_cons_succ])
                  refine wpAnyZ_takeS (i := 2) (v := ?_) rfl (by kernel_rfl) (by kernel_rfl) (by kernel_rfl) (by kernel_rfl) (fun _ _ _ h => h) (gives_value (by rfl) ?_) (by assumption) ?_
                  rotate_left
                  · intro w hSw
                    (try dsimp only at hSw)
                    go_simp
                    (try with_reducible rfl)
                  (try simp only [Act.put, List.getElem_toArray, List.getElem_cons_succ, List.getElem_cons_zero, List.setIfInBounds_toArray, List.set_cons_zero, List.set_cons_succ])
                  refine wpAnyZ_takeS (i := 3) (v := ?_) rfl (by kernel_rfl) (by kernel_rfl) (by kernel_rfl) (by kernel_rfl) (fun _ _ _ h => h) (gives_value (by rfl) ?_) (by assumption) ?_
                  rotate_left
                  · intro w hSw
                    (try dsimp only at hSw)
                    go_simp
                    (try with_reducible rfl)
                  (try simp only [Act.put, List.getElem_toArray, List.getElem_cons_succ, List.getElem_cons_zero, List.setIfInBounds_toArray, List.set_cons_zero, List.set_cons_succ])
                  refine wpAnyZ_takeS (i := 4) (v := ?_) rfl (by kernel_rfl) (by kernel_rfl) (by kernel_rfl) (by kernel_rfl) (fun _ _ _ h => h) (gives_value (by rfl) ?_) (by assumption) ?_
                  rotate_left
                  · intro w hSw
                    (try dsimp only at hSw)
                    go_simp
                    (try with_reducible rfl)
                  (try simp only [Act.put, List.getElem_toArray, List.getElem_cons_succ, List.getElem_cons_zero, List.setIfInBounds_toArray, List.set_cons_zero, List.set_cons_succ])
                  refine wpAnyZ_takeS (i := 6) (v := ?_) rfl (by kernel_rfl) (by kernel_rfl) (by kernel_rfl) (by kernel_rfl) (fun _ _ _ h => h) (gives_value (by rfl) ?_) (by assumption) ?_
                  rotate_left
                  · intro w hSw
                    (try dsimp only at hSw)
                    go_simp
                    (try with_reducible rfl)
                  (try simp only [Act.put, List.getElem_toArray, List.getElem_cons_succ, List.getElem_cons_zero, List.setIfInBounds_toArray, List.set_cons_zero, List.set_cons_succ])
                  refine wpAnyZ_takeS (i := 7) (v := ?_) rfl (by kernel_rfl) (by kernel_rfl) (by kernel_rfl) (by kernel_rfl) (fun _ _ _ h => h) (gives_value (by rfl) ?_) (by assumption) ?_
                  rotate_left
                  · intro w hSw
                    (try dsimp only at hSw)
                    go_simp
                    (try with_reducible rfl)
                  (try simp only [Act.put, List.getElem_toArray, List.getElem_cons_succ, List.getElem_cons_zero, List.setIfInBounds_toArray, List.set_cons_zero, List.set_cons_succ])
                  refine wpAnyZ_one (i := 5) (by kernel_rfl) ?_
                  refine zstep rfl (fun K hK => ?_)
                  go_simp
                  (with_reducible refine (KW.out _ HB19.out.drew).mono ?_)
                  rintro e w20 ⟨AQ, cq, rfl, hcq, hy, hb⟩
                  have HB20 := Lib.hid (HB19.out.drew.trans (hb.mono HB19.out.drew.size))
                  have RQ := Lib.hid hy.now
                  clear hy hb hcq
                  refine hK.out _ _ (fun _ => SS.out _ HB20.out) (fun hH => ?_)
                  replace hH := hH (by decide)
                  clear hK K
                  (try simp only [Act.put, List.getElem_toArray, List.getElem_cons_succ, List.getElem_cons_zero, List.setIfInBounds_toArray, List.set_cons_zero, List.set_cons_succ])
                  refine wpAnyZ_one (i := 8) (by kernel_rfl) ?_
                  refine zstep rfl (fun K hK => ?_)
                  go_simp
                  (with_reducible refine (KR.out _ _ qi mi oi HB20.out RQ.out hlq HXQ.out Hmi.out).mono ?_)
                  rintro e w21 ⟨rfl, hb⟩
                  have HB21 := Lib.hid (HB20.out.trans (hb.mono HB20.out.size))
                  clear hb
                  refine hK.out _ _ (fun _ => SS.out _ HB21.out) (fun hH => ?_)
                  replace hH := hH (by decide)
                  clear hK K
                  (try simp only [Act.put, List.getElem_toArray, List.getElem_cons_succ, List.getElem_cons_zero, List.setIfInBounds_toArray, List.set_cons_zero, List.set_cons_succ])
                  refine wpAnyZ_takeS (i := 9) (v := ?_) rfl (by kernel_rfl) (by kernel_rfl) (by kernel_rfl) (by kernel_rfl) (fun _ _ _ h => h) (gives_value (by rfl) ?_) (by assumption) ?_
                  rotate_left
                  · intro w hSw
                    (try dsimp only at hSw)
                    go_simp
                    (try with_reducible rfl)
                  (try simp only [Act.put, List.getElem_toArray, List.getElem_cons_succ, List.getElem_cons_zero, List.setIfInBounds_toArray, List.set_cons_zero, List.set_cons_succ])
                  refine wpAnyZ_done (by kernel_rfl) ?_ _
                  clear hH KW RQ HXQ Hmi HB19 HB20 hlq
                  have K1 : Hid (Calls Try.prog 24 #[.pointer (some ⟨a, 0, none⟩), .int .i64 (kn : Int)] w21 fun e w' => e = .returned (.tuple #[.int .i64 0, .bool false]) ∧ Below w21.heap.size w21 w') := by
                    have := Frem (kn : Int) (GA.out _ HB21.out) HOK.out (by omega) (by omega)
                    rw [show wrap64 ((kn : Int) + 1) = (kn : Int) + 1 from wrap64_id (by omega), cross_no (by omega)] at this
                    exact this
                  go_wp2_with (go_at_call 24; fail)
                  (with_reducible refine (K1.out).mono ?_)
                  rintro e w26 ⟨rfl, hb⟩
                  have HB26 := Lib.hid (HB21.out.trans (hb.mono HB21.out.size))
                  clear hb K1
                  go_wp2
                  go_loopw [25] (fun mv wr => ∃ m : Int, -1 ≤ m ∧ m ≤ (s.length : Int) + 2 ∧ mv = .int .i64 m ∧ Below v0.heap.size v0 wr) (fun mv _ => ((s.length : Int) + 2 - intOf mv).toNat)
                  case atStart => exact ⟨-1, by omega, by omega, rfl, HB26.out⟩
                  case round =>
                    obtain ⟨m, hm1, hm2, rfl, hbm⟩ := hrel
                    have HBm := Lib.hid hbm
                    clear hbm
                    have nm : IntKind.i64.wrap (m + 1) = m + 1 := IntWalk.i64_in _ (by omega)
                    by_cases hm : m ≤ (s.length : Int) + 1
                    · by_cases hm0 : m < 0
                      · as_aux_lemma =>
                          have tm : decide (m ≤ (s.length : Int) + 1) = true := by simpa using hm
                          have tm1 : decide ((0 : Int) ≤ m) = false := by simp; omega
                          have K1 : Hid (Calls Try.prog 19 #[.pointer (some ⟨a, 0, none⟩), .int .i64 (kn : Int), .pointer (some ⟨b, 0, none⟩), .int .i64 m] wr fun e w' => e = .returned (.tuple #[.int .i64 0, .bool false]) ∧ Below wr.heap.size wr w') := by
                            have := Fcross (kn : Int) m (GA.out _ HBm.out) (GB.out _ HBm.out) HOK.out (by omega) (by omega) (by omega)
                            rw [cross_no (.inr (.inr (.inr (.inl (by omega)))))] at this
                            exact this
                          go_wp2_with (go_at_call 19; fail)
                          (with_reducible refine (K1.out).mono ?_)
                          rintro e w35 ⟨rfl, hb⟩
                          have HBx := Lib.hid (HBm.out.trans (hb.mono HBm.out.size))
                          clear hb K1
                          go_wp2
                          go_roundw
                          case rel => exact ⟨m + 1, by omega, by omega, rfl, HBx.out⟩
                          case measure => simp [intOf]; omega
                      · by_cases hmh : m ≤ (s.length : Int)
                        · as_aux_lemma =>
                            have tm : decide (m ≤ (s.length : Int) + 1) = true := by simpa using hm
                            obtain ⟨mn, rfl⟩ : ∃ mn : Nat, m = (mn : Int) := ⟨m.toNat, by omega⟩
                            have hmr : mn ≤ s.length := by omega
                            have tm1 : decide ((0 : Int) ≤ (mn : Int)) = true := by simp
                            have tm2 : decide ((mn : Int) ≤ (s.length : Int)) = true := by simp; omega
                            have tm2' : decide (mn ≤ s.length) = true := by simp; omega
                            obtain ⟨mx, ox, hmx⟩ := meetV_form ((evalL i cn (r.take kn ++ s.drop mn)).map (fun t : TripR => t.cost))
                            have Hmx := Lib.hid hmx
                            clear hmx
                            have K1 : Hid (Calls Try.prog 19 #[.pointer (some ⟨a, 0, none⟩), .int .i64 (kn : Int), .pointer (some ⟨b, 0, none⟩), .int .i64 (mn : Int)] wr fun e w' => e = .returned (.tuple #[.int .i64 mx, .bool ox]) ∧ Below wr.heap.size wr w') := by
                              have := Fcross kn mn (GA.out _ HBm.out) (GB.out _ HBm.out) HOK.out (by omega) (by omega) (by omega)
                              rw [cross_val HM.out (carAt_bounds HF.out cn).1 HC.out hkr hmr, Hmx.out] at this
                              exact this
                            go_wp2_with (go_at_call 19; fail)
                            (with_reducible refine (K1.out).mono ?_)
                            rintro e w34 ⟨rfl, hb⟩
                            have HB34 := Lib.hid (HBm.out.trans (hb.mono HBm.out.size))
                            clear hb K1
                            obtain ⟨Ua, Uc, hsl1, hre1⟩ := slice_h A cap r hkr hrc
                            obtain ⟨Va, Vc, hsl2, hre2⟩ := slice_l E ecap s hmr hsc
                            have SL1 := Lib.hid hsl1
                            have SL2 := Lib.hid hsl2
                            have RP : Hid (∀ W, Below v0.heap.size v0 W → Recs W 1 num_ (.slice Ua (r.take kn).length Uc) (r.take kn) ∧ Recs W 1 num_ (.slice Va (s.drop mn).length Vc) (s.drop mn)) := fun W hB => ⟨hre1 W (GR.out W hB).1, hre2 W (GR.out W hB).2⟩
                            clear hsl1 hsl2 hre1 hre2
                            have hl1 : (r.take kn).length ≤ 14 := by rw [List.length_take]; omega
                            have hl2 : (s.drop mn).length ≤ 14 := by rw [List.length_drop]; omega
                            have hluv : (r.take kn ++ s.drop mn).length ≤ 1000 := by rw [List.length_append]; omega
                            have HUV := Lib.hid (mem_cut (k := kn) (m := mn) RX.out HSX2.out)
                            generalize r.take kn = U at *
                            generalize s.drop mn = V at *
                            go_upto_region 36 with (fail)
                            refine wp_region_z (S := (fun W => W.cell? ⟨I, 0, none⟩ = some (.slice A1 i.cars.length c1) ∧ W.cell? ⟨I, 1, none⟩ = some (.slice A2 i.stops.length c2) ∧ W.cell? ⟨I, 2, none⟩ = some (.slice A3 i.pairs.length c3) ∧ W.cell? ⟨I, 3, none⟩ = some (.slice A4 i.travel.length c4))) (z := 14) (by kernel_rfl) (SS.out _ (HB34.out.drew)) (fun hH => ?_)
                            refine wpAnyZ_takeS (i := 0) (v := ?_) rfl (by kernel_rfl) (by kernel_rfl) (by kernel_rfl) (by kernel_rfl) (fun _ _ _ h => h) (gives_value (by rfl) ?_) (by assumption) ?_
                            rotate_left
                            · intro w hSw
                              (try dsimp only at hSw)
                              go_simp
                              (try with_reducible rfl)
                            (try simp only [Act.put, List.getElem_toArray, List.getElem_cons_succ, List.getElem_cons_zero, List.setIfInBounds_toArray, List.set_cons_zero, List.set_cons_succ])
                            refine wpAnyZ_takeS (i := 1) (v := ?_) rfl (by kernel_rfl) (by kernel_rfl) (by kernel_rfl) (by kernel_rfl) (fun _ _ _ h => h) (gives_value (by rfl) ?_) (by assumption) ?_
                            rotate_left
                            · intro w hSw
                              (try dsimp only at hSw)
                              go_simp
                              (try with_reducible rfl)
                            (try simp only [Act.put, List.getElem_toArray, List.getElem_cons_succ, List.getElem_cons_zero, List.setIfInBounds_toArray, List.set_cons_zero, List.set_cons_succ])
                            refine wpAnyZ_takeS (i := 2) (v := ?_) rfl (by kernel_rfl) (by kernel_rfl) (by kernel_rfl) (by kernel_rfl) (fun _ _ _ h => h) (gives_value (by rfl) ?_) (by assumption) ?_
                            rotate_left
                            · intro w hSw
                              (try dsimp only at hSw)
                              go_simp
                              (try with_reducible rfl)
                            (try simp only [Act.put, List.getElem_toArray, List.getElem_cons_succ, List.getElem_cons_zero, List.setIfInBounds_toArray, List.set_cons_zero, List.set_cons_succ])
                            refine wpAnyZ_takeS (i := 3) (v := ?_) rfl (by kernel_rfl) (by kernel_rfl) (by kernel_rfl) (by kernel_rfl) (fun _ _ _ h => h) (gives_value (by rfl) ?_) (by assumption) ?_
                            rotate_left
                            · intro w hSw
                              (try dsimp only at hSw)
                              go_simp
                              (try with_reducible rfl)
                            (try simp only [Act.put, List.getElem_toArray, List.getElem_cons_succ, List.getElem_cons_zero, List.setIfInBounds_toArray, List.set_cons_zero, List.set_cons_succ])
                            refine wpAnyZ_takeS (i := 4) (v := .slice Ua U.length Uc) rfl (by kernel_rfl) (by kernel_rfl) (by kernel_rfl) (by kernel_rfl) (fun _ _ _ h => h) (gives_value (by rfl) ?_) (by assumption) ?_
                            · intro w hSw
                              have q := SL1.out w
                              clear hSw
                              go_simp
                            (try simp only [Act.put, List.getElem_toArray, List.getElem_cons_succ, List.getElem_cons_zero, List.setIfInBounds_toArray, List.set_cons_zero, List.set_cons_succ])
                            refine wpAnyZ_takeS (i := 6) (v := ?_) rfl (by kernel_rfl) (by kernel_rfl) (by kernel_rfl) (by kernel_rfl) (fun _ _ _ h => h) (gives_value (by rfl) ?_) (by assumption) ?_
                            rotate_left
                            · intro w hSw
                              (try dsimp only at hSw)
                              go_simp
                              (try with_reducible rfl)
                            (try simp only [Act.put, List.getElem_toArray, List.getElem_cons_succ, List.getElem_cons_zero, List.setIfInBounds_toArray, List.set_cons_zero, List.set_cons_succ])
                            refine wpAnyZ_takeS (i := 7) (v := ?_) rfl (by kernel_rfl) (by kernel_rfl) (by kernel_rfl) (by kernel_rfl) (fun _ _ _ h => h) (gives_value (by rfl) ?_) (by assumption) ?_
                            rotate_left
                            · intro w hSw
                              (try dsimp only at hSw)
                              go_simp
                              (try with_reducible rfl)
                            (try simp only [Act.put, List.getElem_toArray, List.getElem_cons_succ, List.getElem_cons_zero, List.setIfInBounds_toArray, List.set_cons_zero, List.set_cons_succ])
                            refine wpAnyZ_takeS (i := 8) (v := .slice Va V.length Vc) rfl (by kernel_rfl) (by kernel_rfl) (by kernel_rfl) (by kernel_rfl) (fun _ _ _ h => h) (gives_value (by rfl) ?_) (by assumption) ?_
                            · intro w hSw
                              have q := SL2.out w
                              clear hSw
                              go_simp
                            (try simp only [Act.put, List.getElem_toArray, List.getElem_cons_succ, List.getElem_cons_zero, List.setIfInBounds_toArray, List.set_cons_zero, List.set_cons_succ])
                            refine wpAnyZ_takeS (i := 10) (v := ?_) rfl (by kernel_rfl) (by kernel_rfl) (by kernel_rfl) (by kernel_rfl) (fun _ _ _ h => h) (gives_value (by rfl) ?_) (by assumption) ?_
                            rotate_left
                            · intro w hSw
                              (try dsimp only at hSw)
                              go_simp
                              (try with_reducible rfl)
                            (try simp only [Act.put, List.getElem_toArray, List.getElem_cons_succ, List.getElem_cons_zero, List.setIfInBounds_toArray, List.set_cons_zero, List.set_cons_succ])
                            refine wpAnyZ_takeS (i := 11) (v := ?_) rfl (by kernel_rfl) (by kernel_rfl) (by kernel_rfl) (by kernel_rfl) (fun _ _ _ h => h) (gives_value (by rfl) ?_) (by assumption) ?_
                            rotate_left
                            · intro w hSw
                              (try dsimp only at hSw)
                              go_simp
                              (try with_reducible rfl)
                            (try simp only [Act.put, List.getElem_toArray, List.getElem_cons_succ, List.getElem_cons_zero, List.setIfInBounds_toArray, List.set_cons_zero, List.set_cons_succ])
                            refine wpAnyZ_one (i := 5) (by kernel_rfl) ?_
                            refine zstep rfl (fun K hK => ?_)
                            refine step_append_any _ rfl (.const (.slice none 0 0)) (.tmp 189) 22 rfl v0.heap.size 3 i0 _ 1 8 Try.underlying22 hi0 hz0 hz1 hz2 rfl (by decide) (.slice none 0 0) 0 [] (by rfl) ⟨rfl, .inl ⟨rfl, rfl⟩⟩ _ Ua U.length Uc (ints U) (by rfl) (RP.out _ HB34.out.drew).1.reads (ints_one U) (by unfold maxLen; omega) (by omega) HB34.out.drew.size ?_
                            intro vx px hown' hgrow hob
                            rw [Nat.zero_add, List.nil_append] at hown'
                            have HBpx := Lib.hid ((HB34.out.drew).grown hgrow HB34.out.drew.size (fun g hg => by cases hg))
                            have OWx := Lib.hid hown'
                            clear hown' hgrow hob
                            refine hK.out _ _ (fun _ => SS.out _ HBpx.out) (fun hH => ?_)
                            replace hH := hH (by decide)
                            clear hK K
                            (try simp only [Act.put, List.getElem_toArray, List.getElem_cons_succ, List.getElem_cons_zero, List.setIfInBounds_toArray, List.set_cons_zero, List.set_cons_succ])
                            refine wpAnyZ_one (i := 9) (by kernel_rfl) ?_
                            refine zstep rfl (fun K hK => ?_)
                            refine step_append_any _ rfl (.tmp 190) (.tmp 193) 22 rfl v0.heap.size 3 i0 _ 1 8 Try.underlying22 hi0 hz0 hz1 hz2 rfl (by decide) vx U.length (ints U) (by rfl) OWx.out _ Va V.length Vc (ints V) (by rfl) (RP.out _ HBpx.out).2.reads (ints_one V) (by unfold maxLen; omega) (by omega) HBpx.out.size ?_
                            intro vx' qx hown2 hgrow hob
                            have HBqx := Lib.hid (HBpx.out.grown hgrow HBpx.out.size (fun g hg => (own_typed OWx.out hg).2))
                            have OXx := Lib.hid (row_cat hown2)
                            clear hown2 hgrow hob
                            obtain ⟨AEx, ecx, rfl, hec, hrE, hfE⟩ := own_nums OXx.out
                            rw [List.length_append] at hrE
                            have REx := Lib.hid hrE
                            clear hrE hfE hec
                            refine hK.out _ _ (fun _ => SS.out _ HBqx.out) (fun hH => ?_)
                            replace hH := hH (by decide)
                            clear hK K
                            (try simp only [Act.put, List.getElem_toArray, List.getElem_cons_succ, List.getElem_cons_zero, List.setIfInBounds_toArray, List.set_cons_zero, List.set_cons_succ])
                            refine wpAnyZ_one (i := 12) (by kernel_rfl) ?_
                            refine zstep rfl (fun K hK => ?_)
                            go_simp
                            (with_reducible refine (KR.out _ _ (U ++ V) mx ox HBqx.out REx.out hluv HUV.out Hmx.out).mono ?_)
                            rintro e w36 ⟨rfl, hb⟩
                            have HBw36 := Lib.hid (HBqx.out.trans (hb.mono HBqx.out.size))
                            clear hb
                            refine hK.out _ _ (fun _ => SS.out _ HBw36.out) (fun hH => ?_)
                            replace hH := hH (by decide)
                            clear hK K
                            (try simp only [Act.put, List.getElem_toArray, List.getElem_cons_succ, List.getElem_cons_zero, List.setIfInBounds_toArray, List.set_cons_zero, List.set_cons_succ])
                            refine wpAnyZ_takeS (i := 13) (v := ?_) rfl (by kernel_rfl) (by kernel_rfl) (by kernel_rfl) (by kernel_rfl) (fun _ _ _ h => h) (gives_value (by rfl) ?_) (by assumption) ?_
                            rotate_left
                            · intro w hSw
                              (try dsimp only at hSw)
                              go_simp
                              (try with_reducible rfl)
                            (try simp only [Act.put, List.getElem_toArray, List.getElem_cons_succ, List.getElem_cons_zero, List.setIfInBounds_toArray, List.set_cons_zero, List.set_cons_succ])
                            refine wpAnyZ_done (by kernel_rfl) ?_ _
                            clear hH SL1 SL2 RP HUV Hmx HB34 HBpx HBqx OWx OXx REx hluv hl1 hl2
                            have HBx := HBw36
                            go_wp2
                            go_roundw
                            case rel => exact ⟨(mn : Int) + 1, by omega, by omega, rfl, HBx.out⟩
                            case measure => simp [intOf]; omega
                        · as_aux_lemma =>
                            have tm : decide (m ≤ (s.length : Int) + 1) = true := by simpa using hm
                            have tm1 : decide ((0 : Int) ≤ m) = true := by simp; omega
                            have tm2 : decide (m ≤ (s.length : Int)) = false := by simp; omega
                            have K1 : Hid (Calls Try.prog 19 #[.pointer (some ⟨a, 0, none⟩), .int .i64 (kn : Int), .pointer (some ⟨b, 0, none⟩), .int .i64 m] wr fun e w' => e = .returned (.tuple #[.int .i64 0, .bool false]) ∧ Below wr.heap.size wr w') := by
                              have := Fcross (kn : Int) m (GA.out _ HBm.out) (GB.out _ HBm.out) HOK.out (by omega) (by omega) (by omega)
                              rw [cross_no (.inr (.inr (.inr (.inr (by omega)))))] at this
                              exact this
                            go_wp2_with (go_at_call 19; fail)
                            (with_reducible refine (K1.out).mono ?_)
                            rintro e w35 ⟨rfl, hb⟩
                            have HBx := Lib.hid (HBm.out.trans (hb.mono HBm.out.size))
                            clear hb K1
                            go_wp2
                            go_roundw
                            case rel => exact ⟨m + 1, by omega, by omega, rfl, HBx.out⟩
                            case measure => simp [intOf]; omega
                    · have tm : decide (m ≤ (s.length : Int) + 1) = false := by simpa using hm
                      have nk2 : IntKind.i64.wrap ((kn : Int) + 1) = (kn : Int) + 1 := IntWalk.i64_in _ (by omega)
                      go_wp2
                      go_roundw
                      case rel => exact ⟨(kn : Int) + 1, by omega, by omega, rfl, HBm.out⟩
                      case measure => simp [intOf]; omega
              · as_aux_lemma =>
                  have tk : decide (k ≤ (r.length : Int) + 1) = true := by simpa using hk
                  have HNO : Hid (inB (cn : Int) 0 (i.cars.length - 1) = false ∨ k < 0 ∨ (r.length : Int) < k) := .inr (by omega)
                  have tk0 : decide ((0 : Int) ≤ k) = true := by simp; omega
                  have tk1 : decide (k ≤ (r.length : Int)) = false := by simp; omega
                  have tk2 : decide (k < (r.length : Int)) = false := by simp; omega
                  have K1 : Hid (Calls Try.prog 23 #[.pointer (some ⟨a, 0, none⟩), .int .i64 k, .int .i64 x] wr fun e w' => e = .returned (.tuple #[.int .i64 0, .bool false]) ∧ Below wr.heap.size wr w') := by
                    have := Fins k x (GA.out _ HBk.out) HOK.out (by omega) (by omega)
                    rw [ins_no x HNO.out] at this
                    exact this
                  go_wp2_with (go_at_call 23; fail)
                  (with_reducible refine (K1.out).mono ?_)
                  rintro e w21 ⟨rfl, hb⟩
                  have HB21 := Lib.hid (HBk.out.trans (hb.mono HBk.out.size))
                  clear hb K1
                  have K1 : Hid (Calls Try.prog 24 #[.pointer (some ⟨a, 0, none⟩), .int .i64 k] w21 fun e w' => e = .returned (.tuple #[.int .i64 0, .bool false]) ∧ Below w21.heap.size w21 w') := by
                    have := Frem k (GA.out _ HB21.out) HOK.out (by omega) (by omega)
                    rw [show wrap64 (k + 1) = k + 1 from wrap64_id (by omega), cross_no (by omega)] at this
                    exact this
                  go_wp2_with (go_at_call 24; fail)
                  (with_reducible refine (K1.out).mono ?_)
                  rintro e w26 ⟨rfl, hb⟩
                  have HB26 := Lib.hid (HB21.out.trans (hb.mono HB21.out.size))
                  clear hb K1
                  go_wp2
                  go_loopw [25] (fun mv wr => ∃ m : Int, -1 ≤ m ∧ m ≤ (s.length : Int) + 2 ∧ mv = .int .i64 m ∧ Below v0.heap.size v0 wr) (fun mv _ => ((s.length : Int) + 2 - intOf mv).toNat)
                  case atStart => exact ⟨-1, by omega, by omega, rfl, HB26.out⟩
                  case round =>
                    obtain ⟨m, hm1, hm2, rfl, hbm⟩ := hrel
                    have HBm := Lib.hid hbm
                    clear hbm
                    have nm : IntKind.i64.wrap (m + 1) = m + 1 := IntWalk.i64_in _ (by omega)
                    by_cases hm : m ≤ (s.length : Int) + 1
                    · have tm : decide (m ≤ (s.length : Int) + 1) = true := by simpa using hm
                      have K1 : Hid (Calls Try.prog 19 #[.pointer (some ⟨a, 0, none⟩), .int .i64 k, .pointer (some ⟨b, 0, none⟩), .int .i64 m] wr fun e w' => e = .returned (.tuple #[.int .i64 0, .bool false]) ∧ Below wr.heap.size wr w') := by
                        have := Fcross k m (GA.out _ HBm.out) (GB.out _ HBm.out) HOK.out (by omega) (by omega) (by omega)
                        rw [cross_no (.inr (.inr (.inl (by omega))))] at this
                        exact this
                      go_wp2_with (go_at_call 19; fail)
                      (with_reducible refine (K1.out).mono ?_)
                      rintro e w35 ⟨rfl, hb⟩
                      have HBx := Lib.hid (HBm.out.trans (hb.mono HBm.out.size))
                      clear hb K1
                      go_wp2
                      go_roundw
                      case rel => exact ⟨m + 1, by omega, by omega, rfl, HBx.out⟩
                      case measure => simp [intOf]; omega
                    · have tm : decide (m ≤ (s.length : Int) + 1) = false := by simpa using hm
                      have nk2 : IntKind.i64.wrap (k + 1) = k + 1 := IntWalk.i64_in _ (by omega)
                      go_wp2
                      go_roundw
                      case rel => exact ⟨k + 1, by omega, by omega, rfl, HBm.out⟩
                      case measure => simp [intOf]; omega
        · have tk : decide (k ≤ (r.length : Int) + 1) = false := by simpa using hk
          have KRW := Lib.hid (row_any (.agg #[.slice A1 i.cars.length c1, .slice A2 i.stops.length c2, .slice A3 i.pairs.length c3, .slice A4 i.travel.length c4]) u3 i row3 wr (TWv.out.box.lies.below HBk.out) HOK.out (by omega) hs2 (HBR.out.2.below (HBV.out.trans (HBk.out.mono HBV.out.size))) hrl3)
          obtain ⟨k0, k1, k2, k3⟩ := SS.out _ HBk.out
          have hIz := (TWv.out.box.below HBk.out).lt
          go_wp2_with (go_at_call 12; fail)
          (with_reducible refine (KRW.out).mono ?_)
          rintro e w40 ⟨q, AQ, cq, rfl, hq14, hqc, hqx, hqr, hqf, hb⟩
          have HB40 := Lib.hid (HBk.out.trans (hb.mono HBk.out.size))
          have hak : a < wr.heap.size := (TAv.out.below HBk.out).lt.1
          have YQ : Hid (Young 0 a w40 fun W => Recs W 1 num_ (.slice AQ q.length cq) q) := fresh_young hqr hqf hak
          have HQX : Hid (∀ x ∈ q, -1000000 ≤ x ∧ x ≤ 1000000) := fun x hx => by have := hqx x hx; omega
          clear hqr hqf hqx hb k0 k1 k2 k3 hIz KRW
          have TA4 := Lib.hid (TAv.out.below HB40.out)
          have TB4 := Lib.hid (TBv.out.below HB40.out)
          have HBW := Lib.hid (HBV.out.trans (HB40.out.mono HBV.out.size))
          have KS : Hid (Calls Try.prog 25 #[.pointer (some ⟨a, 0, none⟩), .slice AQ q.length cq] w40 fun e w' => e = .returned (.tuple #[]) ∧ Tbl w3.drew.heap.size a i cn q w' ∧ w40.grownBy w' (some a)) :=
            fset_any w3.drew.heap.size a i cn q AQ cq w40 TA4.out.pre YQ.out HOK.out (by omega) (by omega)
          go_wp2_with (go_at_call 25; fail)
          (with_reducible refine (KS.out).mono ?_)
          rintro e w41 ⟨rfl, ht, hg⟩
          have TQ := Lib.hid ht
          have EX := Lib.hid (Ex.of_grown (lo := 0) (a := a) hg (fun b hb => by injection hb with hb; exact .inr hb.symm))
          have TB5 := Lib.hid (TB4.out.apart hab EX.out)
          have RQ := Lib.hid (YQ.out.on EX.out).now
          have HBX := Lib.hid (HBW.out.grown hg HBW.out.size (fun k hk => by injection hk with hk; have : w3.drew.heap.size = w3.heap.size := rfl; omega))
          clear ht hg KS
          have nn : IntKind.i64.wrap ((n : Int) + 1) = (n : Int) + 1 := IntWalk.i64_in _ (by omega)
          go_wp2
          go_roundw
          case rel => exact ⟨n + 1, q, AQ, cq, by omega, hq14, hqc, HQX.out, rfl, by go_num, RQ.out, TQ.out, TB5.out, HBX.out⟩
          case measure => simp [intOf]; omega
    · have tn : decide ((n : Int) < 2) = false := by simp; omega
      have KW := Lib.hid (wakes6_any wr)
      go_wp2_with (go_at_call 22; fail)
      (with_reducible refine (KW.out).mono ?_)
      rintro e y5 ⟨rfl, hb⟩
      have TWy := Lib.hid (TWr.out.on hb)
      clear hb KW
      go_wp2
      go_ret
      exact ⟨rfl, TWy.out.below⟩
end Go.Proofs.Ytkheepedjoimmaa
