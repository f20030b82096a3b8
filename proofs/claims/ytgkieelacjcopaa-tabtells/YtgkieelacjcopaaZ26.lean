/- The walk of TabTells: for any rows of numbers and any car the law returns true; old memory stands. -/
import Derived.Test.YtgkieelacjcopaaZ17
import Derived.Test.YtgkieelacjcopaaZ25
import Derived.Test.YtgkieelacjcopaaZ24
namespace Go.Proofs.Ytgkieelacjcopaa
open Go.RowKit
set_option linter.unusedSimpArgs false

theorem refHeads_row (v u : Value) (i : Prob) (c : Int) (l : List Int) (w : World) (hv : Lies w v i) (hok : probOk i = true) (hp : i.pairs.length ≤ 1000000) (hr : Recs w 1 num_ u l) (hl : l.length ≤ 1000) (hc : inB c 0 (i.cars.length - 1) = true) :
    Calls Try.prog 22 #[v, .int .i64 c, u] w fun e w' => ∃ g cap, e = .returned (.slice (some ⟨g, 0, none⟩) (l.length + 1) cap) ∧ RowC w' g 7 (fun k => headC (headL i c (l.take k))) (l.length + 1) ∧ Below w.heap.size w w' := by
  refine (refHeads_in v u i c l w hv hok hp hr hl hc).mono ?_
  rintro e w' ⟨A, cap, rfl, hown, hb⟩
  obtain ⟨A', cap', hv', hg⟩ := own_get hown
  obtain ⟨g, rfl, hgz, hcell⟩ := hg (by omega)
  injection hv' with hA _ _
  subst hA
  refine ⟨g, cap, rfl, ⟨hgz, fun k hk j u hj hu => hcell _ _ ?_⟩, hb⟩
  unfold headsC
  rw [flat_at (fun k => headC_len _) hk hj]
  exact hu
theorem beg_row {i : Prob} {c : Int} {l : List Int} : headL i c (l.take 0) = some (beginH i c) := by rw [List.take_zero]; rfl
set_option maxRecDepth 100000 in
set_option maxHeartbeats 16000000 in
theorem tells5_walk (v u : Value) (l row : List Int) (car : Int) (w : World) (h : Recs w 1 num_ v l) (hl : l.length ≤ 9223372036854775807) (hr : Recs w 1 num_ u row) (hrl : row.length ≤ 9223372036854775807) :
    Calls Try.prog 6 #[v, u, .int .i64 car] w fun e w' => e = .returned (.bool true) ∧ Below w.heap.size w w' := by
  have HP := Lib.hid (play_said v l w h hl)
  have HU := Lib.hid hr
  clear h hr
  go_enter Try.func6, Try.ntmps6
  go_wp2_with (go_at_call 19; fail)
  (with_reducible refine (HP.out).mono ?_)
  rintro e w1 ⟨i, A1, A2, A3, A4, c1, c2, c3, c4, rfl, hs1, hok, hs2, hs8, hp2, hb1⟩
  have HOK := Lib.hid hok
  have HF := Lib.hid (fine_of hok)
  have HM := Lib.hid (mated_of hok)
  have BX1 := Lib.hid (box_new hs1 27)
  have HB1 := Lib.hid (hb1.alloc hb1.size (.cells #[.slice A1 i.cars.length c1, .slice A2 i.stops.length c2, .slice A3 i.pairs.length c3, .slice A4 i.travel.length c4] 27))
  have hcar := (fine_of hok).cars
  clear hok hs1 hb1 HP
  go_upto_region 2 with (fail)
  generalize w1.alloc (.cells #[.slice A1 i.cars.length c1, .slice A2 i.stops.length c2, .slice A3 i.pairs.length c3, .slice A4 i.travel.length c4] 27) = wa at *
  generalize w1.heap.size = I at *
  have hK := Lib.hid (fun W => within_any car ((i.cars.length : Int) + 1) W (by omega) (by omega))
  have hwl : IntKind.i64.wrap ((i.cars.length : Int) + 1) = (i.cars.length : Int) + 1 := IntWalk.i64_in _ (by omega)
  go_upto_if 20 with (fail)
  go_cut [2] from 20 to 26 (fun cv wx => ∃ c : Int, cv = .int .i64 c ∧ wx = wa)
  case first =>
    have k0 := BX1.out.b0
    have k1 := BX1.out.b1
    have k2 := BX1.out.b2
    have k3 := BX1.out.b3
    have hIz := BX1.out.lt
    by_cases t0 : car.tmod 7 = 6
    · have t1 : (car.tmod 7 != 6) = false := by simp [t0]
      go_wp2
      go_meet
      exact ⟨_, rfl, rfl⟩
    · have t1 : (car.tmod 7 != 6) = true := by simp [t0]
      go_wp2_with (go_at_call 12; fail)
      (with_reducible refine (hK.out _).mono ?_)
      rintro e w2 ⟨rfl, hww⟩
      replace hww := hww.symm
      subst hww
      go_wp2
      go_meet
      exact ⟨_, rfl, rfl⟩
  case rest =>
    obtain ⟨c, rfl, rfl⟩ := hcut
    clear hK hwl
    have k0 := BX1.out.b0
    have k1 := BX1.out.b1
    have k2 := BX1.out.b2
    have k3 := BX1.out.b3
    have hIz := BX1.out.lt
    go_wp2_with (go_at_call 20; fail)
    (with_reducible refine (row_any _ _ i row wc BX1.out.lies HOK.out (by omega) hs2 (HU.out.below HB1.out) hrl).mono ?_)
    rintro e w2 ⟨r, A, cap, rfl, hr14, hrc, hrx, hrr, hrf, hb2⟩
    have TW := Lib.hid (⟨HB1.out.trans (hb2.mono HB1.out.size), BX1.out.below hb2, hrr⟩ : Two w w2 I A1 A2 A3 A4 c1 c2 c3 c4 i A cap r)
    have HRX := Lib.hid hrx
    clear hb2 hrr hrf hrx BX1 HB1 HU
    clear k0 k1 k2 k3 hIz
    have SS : Hid (∀ W, Below w2.heap.size w2 W → W.cell? ⟨I, 0, none⟩ = some (.slice A1 i.cars.length c1) ∧ W.cell? ⟨I, 1, none⟩ = some (.slice A2 i.stops.length c2) ∧ W.cell? ⟨I, 2, none⟩ = some (.slice A3 i.pairs.length c3) ∧ W.cell? ⟨I, 3, none⟩ = some (.slice A4 i.travel.length c4)) := fun W hB => ⟨(TW.out.box.below hB).b0, (TW.out.box.below hB).b1, (TW.out.box.below hB).b2, (TW.out.box.below hB).b3⟩
    by_cases hc : inB c 0 (i.cars.length - 1) = true
    · have K1 : Hid (∀ W, Below w2.heap.size w2 W → Calls Try.prog 10 #[.agg #[.slice A1 i.cars.length c1, .slice A2 i.stops.length c2, .slice A3 i.pairs.length c3, .slice A4 i.travel.length c4], .int .i64 c, .slice A r.length cap] W fun e w' => ∃ g, e = .returned (.slice (some ⟨g, 0, none⟩) (r.length + 1) (r.length + 1)) ∧ W.heap.size ≤ g ∧ RowC w' g 7 (fun k => headC (headL i c (r.take k))) (r.length + 1) ∧ Below W.heap.size W w') := fun W hB => pheads_in _ _ i c r W (TW.out.box.lies.below hB) HOK.out (by omega) (TW.out.row.below hB) (by omega) hc
      have K2 : Hid (∀ W, Below w2.heap.size w2 W → Calls Try.prog 11 #[.agg #[.slice A1 i.cars.length c1, .slice A2 i.stops.length c2, .slice A3 i.pairs.length c3, .slice A4 i.travel.length c4], .int .i64 c, .slice A r.length cap] W fun e w' => ∃ g, e = .returned (.slice (some ⟨g, 0, none⟩) (r.length + 1) (r.length + 1)) ∧ W.heap.size ≤ g ∧ RowC w' g 8 (fun k => tailC (tailL i c (r.drop k))) (r.length + 1) ∧ Below W.heap.size W w') := fun W hB => ptails_in _ _ i c r W (TW.out.box.lies.below hB) HOK.out (by omega) (TW.out.row.below hB) (by omega) hc
      have K3 : Hid (∀ W, Below w2.heap.size w2 W → Calls Try.prog 22 #[.agg #[.slice A1 i.cars.length c1, .slice A2 i.stops.length c2, .slice A3 i.pairs.length c3, .slice A4 i.travel.length c4], .int .i64 c, .slice A r.length cap] W fun e w' => ∃ g cp, e = .returned (.slice (some ⟨g, 0, none⟩) (r.length + 1) cp) ∧ RowC w' g 7 (fun k => headC (headL i c (r.take k))) (r.length + 1) ∧ Below W.heap.size W w') := fun W hB => refHeads_row _ _ i c r W (TW.out.box.lies.below hB) HOK.out (by omega) (TW.out.row.below hB) (by omega) hc
      have K4 : Hid (∀ W, Below w2.heap.size w2 W → Calls Try.prog 23 #[.agg #[.slice A1 i.cars.length c1, .slice A2 i.stops.length c2, .slice A3 i.pairs.length c3, .slice A4 i.travel.length c4], .int .i64 c, .slice A r.length cap] W fun e w' => ∃ g, e = .returned (.slice (some ⟨g, 0, none⟩) (r.length + 1) (r.length + 1)) ∧ W.heap.size ≤ g ∧ RowC w' g 8 (fun k => tailC (tailL i c (r.drop k))) (r.length + 1) ∧ Below W.heap.size W w') := fun W hB => refTails_in _ _ i c r W (TW.out.box.lies.below hB) HOK.out (by omega) (TW.out.row.below hB) (by omega) hc
      have HC := Lib.hid hc
      clear hc
      go_upto_region 5 with (fail)
      refine wp_region_z (S := (fun W => W.cell? ⟨I, 0, none⟩ = some (.slice A1 i.cars.length c1) ∧ W.cell? ⟨I, 1, none⟩ = some (.slice A2 i.stops.length c2) ∧ W.cell? ⟨I, 2, none⟩ = some (.slice A3 i.pairs.length c3) ∧ W.cell? ⟨I, 3, none⟩ = some (.slice A4 i.travel.length c4))) (z := 10) (by kernel_rfl) (SS.out _ (Below.refl w2.heap.size w2).drew) (fun hH => ?_)
      refine wpAnyZ_takeS (i := 0) (v := ?_) rfl (by kernel_rfl) (by kernel_rfl) (by kernel_rfl) (by kernel_rfl) (fun _ _ _ h => h) (gives_value (by rfl) ?_) (by assumption) ?_
      rotate_left
      · intro w hSw
        (try dsimp only at hSw)
        go_simp
        (try with_reducible rfl)
      (try simp only [Act.put, List.getElem_toArray, List.getElem_cons_succ, List.getElem_cons_zero, List.setIfInBounds_toArray, List.set_cons_zero, List.set_cons_succ])
      refine wpAnyZ_takeS (i := 1) (v := ?_) rfl (by kernel_rfl) (by kernel_rfl) (by kernel_rfl) (by kernel_rfl) (fun _ _ _ h => h) (gives_value (by rfl) ?_) (by assumption) ?_
      rotate_left
      · intro w hSw
        (try dsimp only at hSw)
        go_simp
        (try with_reducible rfl)
      (try simp only [Act.put, List.getElem_toArray, List.getElem_cons_succ, List.getElem_cons_zero, List.setIfInBounds_toArray, List.set_cons_zero, List.set_cons_succ])
      refine wpAnyZ_takeS (i := 2) (v := ?_) rfl (by kernel_rfl) (by kernel_rfl) (by kernel_rfl) (by kernel_rfl) (fun _ _ _ h => h) (gives_value (by rfl) ?_) (by assumption) ?_
      rotate_left
      · intro w hSw
        (try dsimp only at hSw)
        go_simp
        (try with_reducible rfl)
      (try simp only [Act.put, List.getElem_toArray, List.getElem_cons_succ, List.getElem_cons_zero, List.setIfInBounds_toArray, List.set_cons_zero, List.set_cons_succ])
      refine wpAnyZ_takeS (i := 4) (v := ?_) rfl (by kernel_rfl) (by kernel_rfl) (by kernel_rfl) (by kernel_rfl) (fun _ _ _ h => h) (gives_value (by rfl) ?_) (by assumption) ?_
      rotate_left
      · intro w hSw
        (try dsimp only at hSw)
        go_simp
        (try with_reducible rfl)
      (try simp only [Act.put, List.getElem_toArray, List.getElem_cons_succ, List.getElem_cons_zero, List.setIfInBounds_toArray, List.set_cons_zero, List.set_cons_succ])
      refine wpAnyZ_takeS (i := 5) (v := ?_) rfl (by kernel_rfl) (by kernel_rfl) (by kernel_rfl) (by kernel_rfl) (fun _ _ _ h => h) (gives_value (by rfl) ?_) (by assumption) ?_
      rotate_left
      · intro w hSw
        (try dsimp only at hSw)
        go_simp
        (try with_reducible rfl)
      (try simp only [Act.put, List.getElem_toArray, List.getElem_cons_succ, List.getElem_cons_zero, List.setIfInBounds_toArray, List.set_cons_zero, List.set_cons_succ])
      refine wpAnyZ_takeS (i := 6) (v := ?_) rfl (by kernel_rfl) (by kernel_rfl) (by kernel_rfl) (by kernel_rfl) (fun _ _ _ h => h) (gives_value (by rfl) ?_) (by assumption) ?_
      rotate_left
      · intro w hSw
        (try dsimp only at hSw)
        go_simp
        (try with_reducible rfl)
      (try simp only [Act.put, List.getElem_toArray, List.getElem_cons_succ, List.getElem_cons_zero, List.setIfInBounds_toArray, List.set_cons_zero, List.set_cons_succ])
      refine wpAnyZ_one (i := 3) (by kernel_rfl) ?_
      refine zstep rfl (fun K hK => ?_)
      go_simp
      (with_reducible refine (K1.out _ (Below.refl w2.heap.size w2).drew).mono ?_)
      rintro e w3 ⟨gh, rfl, hgh, hrh, hb⟩
      have HBw3 := Lib.hid (((Below.refl w2.heap.size w2).drew).trans hb)
      have RH3 := Lib.hid hrh
      clear hrh hgh
      clear hb
      refine hK.out _ _ (fun _ => SS.out _ HBw3.out) (fun hH => ?_)
      replace hH := hH (by decide)
      clear hK K
      (try simp only [Act.put, List.getElem_toArray, List.getElem_cons_succ, List.getElem_cons_zero, List.setIfInBounds_toArray, List.set_cons_zero, List.set_cons_succ])
      refine wpAnyZ_one (i := 7) (by kernel_rfl) ?_
      refine zstep rfl (fun K hK => ?_)
      go_simp
      (with_reducible refine (K2.out _ HBw3.out).mono ?_)
      rintro e w4 ⟨gt, rfl, hgt, hrt, hb⟩
      have HBw4 := Lib.hid (HBw3.out.trans (hb.mono HBw3.out.size))
      have RT4 := Lib.hid hrt
      have RH4 := Lib.hid (RH3.out.below hb)
      clear hrt hgt RH3
      clear hb
      refine hK.out _ _ (fun _ => SS.out _ HBw4.out) (fun hH => ?_)
      replace hH := hH (by decide)
      clear hK K
      (try simp only [Act.put, List.getElem_toArray, List.getElem_cons_succ, List.getElem_cons_zero, List.setIfInBounds_toArray, List.set_cons_zero, List.set_cons_succ])
      refine wpAnyZ_takeS (i := 8) (v := ?_) rfl (by kernel_rfl) (by kernel_rfl) (by kernel_rfl) (by kernel_rfl) (fun _ _ _ h => h) (gives_value (by rfl) ?_) (by assumption) ?_
      rotate_left
      · intro w hSw
        (try dsimp only at hSw)
        go_simp
        (try with_reducible rfl)
      (try simp only [Act.put, List.getElem_toArray, List.getElem_cons_succ, List.getElem_cons_zero, List.setIfInBounds_toArray, List.set_cons_zero, List.set_cons_succ])
      refine wpAnyZ_takeS (i := 9) (v := ?_) rfl (by kernel_rfl) (by kernel_rfl) (by kernel_rfl) (by kernel_rfl) (fun _ _ _ h => h) (gives_value (by rfl) ?_) (by assumption) ?_
      rotate_left
      · intro w hSw
        (try dsimp only at hSw)
        go_simp
        (try with_reducible rfl)
      (try simp only [Act.put, List.getElem_toArray, List.getElem_cons_succ, List.getElem_cons_zero, List.setIfInBounds_toArray, List.set_cons_zero, List.set_cons_succ])
      refine wpAnyZ_done (by kernel_rfl) ?_ _
      clear hH
      have SS4 : Hid (∀ W, Below w4.heap.size w4 W → W.cell? ⟨I, 0, none⟩ = some (.slice A1 i.cars.length c1) ∧ W.cell? ⟨I, 1, none⟩ = some (.slice A2 i.stops.length c2) ∧ W.cell? ⟨I, 2, none⟩ = some (.slice A3 i.pairs.length c3) ∧ W.cell? ⟨I, 3, none⟩ = some (.slice A4 i.travel.length c4)) := fun W hB => SS.out W (HBw4.out.trans (hB.mono HBw4.out.size))
      have K3' : Hid (∀ W, Below w4.heap.size w4 W → _) := fun W hB => K3.out W (HBw4.out.trans (hB.mono HBw4.out.size))
      have K4' : Hid (∀ W, Below w4.heap.size w4 W → _) := fun W hB => K4.out W (HBw4.out.trans (hB.mono HBw4.out.size))
      have TW4 := Lib.hid (TW.out.on HBw4.out)
      clear SS K1 K2 K3 K4 TW HBw3 HBw4
      have SS := SS4
      have K3 := K3'
      have K4 := K4'
      clear SS4 K3' K4'
      go_upto_region 6 with (fail)
      refine wp_region_z (S := (fun W => W.cell? ⟨I, 0, none⟩ = some (.slice A1 i.cars.length c1) ∧ W.cell? ⟨I, 1, none⟩ = some (.slice A2 i.stops.length c2) ∧ W.cell? ⟨I, 2, none⟩ = some (.slice A3 i.pairs.length c3) ∧ W.cell? ⟨I, 3, none⟩ = some (.slice A4 i.travel.length c4))) (z := 10) (by kernel_rfl) (SS.out _ (Below.refl w4.heap.size w4).drew) (fun hH => ?_)
      refine wpAnyZ_takeS (i := 0) (v := ?_) rfl (by kernel_rfl) (by kernel_rfl) (by kernel_rfl) (by kernel_rfl) (fun _ _ _ h => h) (gives_value (by rfl) ?_) (by assumption) ?_
      rotate_left
      · intro w hSw
        (try dsimp only at hSw)
        go_simp
        (try with_reducible rfl)
      (try simp only [Act.put, List.getElem_toArray, List.getElem_cons_succ, List.getElem_cons_zero, List.setIfInBounds_toArray, List.set_cons_zero, List.set_cons_succ])
      refine wpAnyZ_takeS (i := 1) (v := ?_) rfl (by kernel_rfl) (by kernel_rfl) (by kernel_rfl) (by kernel_rfl) (fun _ _ _ h => h) (gives_value (by rfl) ?_) (by assumption) ?_
      rotate_left
      · intro w hSw
        (try dsimp only at hSw)
        go_simp
        (try with_reducible rfl)
      (try simp only [Act.put, List.getElem_toArray, List.getElem_cons_succ, List.getElem_cons_zero, List.setIfInBounds_toArray, List.set_cons_zero, List.set_cons_succ])
      refine wpAnyZ_takeS (i := 2) (v := ?_) rfl (by kernel_rfl) (by kernel_rfl) (by kernel_rfl) (by kernel_rfl) (fun _ _ _ h => h) (gives_value (by rfl) ?_) (by assumption) ?_
      rotate_left
      · intro w hSw
        (try dsimp only at hSw)
        go_simp
        (try with_reducible rfl)
      (try simp only [Act.put, List.getElem_toArray, List.getElem_cons_succ, List.getElem_cons_zero, List.setIfInBounds_toArray, List.set_cons_zero, List.set_cons_succ])
      refine wpAnyZ_takeS (i := 4) (v := ?_) rfl (by kernel_rfl) (by kernel_rfl) (by kernel_rfl) (by kernel_rfl) (fun _ _ _ h => h) (gives_value (by rfl) ?_) (by assumption) ?_
      rotate_left
      · intro w hSw
        (try dsimp only at hSw)
        go_simp
        (try with_reducible rfl)
      (try simp only [Act.put, List.getElem_toArray, List.getElem_cons_succ, List.getElem_cons_zero, List.setIfInBounds_toArray, List.set_cons_zero, List.set_cons_succ])
      refine wpAnyZ_takeS (i := 5) (v := ?_) rfl (by kernel_rfl) (by kernel_rfl) (by kernel_rfl) (by kernel_rfl) (fun _ _ _ h => h) (gives_value (by rfl) ?_) (by assumption) ?_
      rotate_left
      · intro w hSw
        (try dsimp only at hSw)
        go_simp
        (try with_reducible rfl)
      (try simp only [Act.put, List.getElem_toArray, List.getElem_cons_succ, List.getElem_cons_zero, List.setIfInBounds_toArray, List.set_cons_zero, List.set_cons_succ])
      refine wpAnyZ_takeS (i := 6) (v := ?_) rfl (by kernel_rfl) (by kernel_rfl) (by kernel_rfl) (by kernel_rfl) (fun _ _ _ h => h) (gives_value (by rfl) ?_) (by assumption) ?_
      rotate_left
      · intro w hSw
        (try dsimp only at hSw)
        go_simp
        (try with_reducible rfl)
      (try simp only [Act.put, List.getElem_toArray, List.getElem_cons_succ, List.getElem_cons_zero, List.setIfInBounds_toArray, List.set_cons_zero, List.set_cons_succ])
      refine wpAnyZ_one (i := 3) (by kernel_rfl) ?_
      refine zstep rfl (fun K hK => ?_)
      go_simp
      (with_reducible refine (K3.out _ (Below.refl w4.heap.size w4).drew).mono ?_)
      rintro e w5 ⟨gg, cp, rfl, hrh, hb⟩
      have HBw5 := Lib.hid (((Below.refl w4.heap.size w4).drew).trans hb)
      have RG5 := Lib.hid hrh
      clear hrh
      clear hb
      refine hK.out _ _ (fun _ => SS.out _ HBw5.out) (fun hH => ?_)
      replace hH := hH (by decide)
      clear hK K
      (try simp only [Act.put, List.getElem_toArray, List.getElem_cons_succ, List.getElem_cons_zero, List.setIfInBounds_toArray, List.set_cons_zero, List.set_cons_succ])
      refine wpAnyZ_one (i := 7) (by kernel_rfl) ?_
      refine zstep rfl (fun K hK => ?_)
      go_simp
      (with_reducible refine (K4.out _ HBw5.out).mono ?_)
      rintro e w6 ⟨gu, rfl, hgt, hrt, hb⟩
      have HBw6 := Lib.hid (HBw5.out.trans (hb.mono HBw5.out.size))
      have RU6 := Lib.hid hrt
      have RG6 := Lib.hid (RG5.out.below hb)
      clear hrt hgt RG5
      clear hb
      refine hK.out _ _ (fun _ => SS.out _ HBw6.out) (fun hH => ?_)
      replace hH := hH (by decide)
      clear hK K
      (try simp only [Act.put, List.getElem_toArray, List.getElem_cons_succ, List.getElem_cons_zero, List.setIfInBounds_toArray, List.set_cons_zero, List.set_cons_succ])
      refine wpAnyZ_takeS (i := 8) (v := ?_) rfl (by kernel_rfl) (by kernel_rfl) (by kernel_rfl) (by kernel_rfl) (fun _ _ _ h => h) (gives_value (by rfl) ?_) (by assumption) ?_
      rotate_left
      · intro w hSw
        (try dsimp only at hSw)
        go_simp
        (try with_reducible rfl)
      (try simp only [Act.put, List.getElem_toArray, List.getElem_cons_succ, List.getElem_cons_zero, List.setIfInBounds_toArray, List.set_cons_zero, List.set_cons_succ])
      refine wpAnyZ_takeS (i := 9) (v := ?_) rfl (by kernel_rfl) (by kernel_rfl) (by kernel_rfl) (by kernel_rfl) (fun _ _ _ h => h) (gives_value (by rfl) ?_) (by assumption) ?_
      rotate_left
      · intro w hSw
        (try dsimp only at hSw)
        go_simp
        (try with_reducible rfl)
      (try simp only [Act.put, List.getElem_toArray, List.getElem_cons_succ, List.getElem_cons_zero, List.setIfInBounds_toArray, List.set_cons_zero, List.set_cons_succ])
      refine wpAnyZ_done (by kernel_rfl) ?_ _
      clear hH
      have T5a := Lib.hid (⟨TW4.out.on HBw6.out, RH4.out.below HBw6.out, RT4.out.below HBw6.out⟩ : T5 w w6 I A1 A2 A3 A4 c1 c2 c3 c4 i A cap r c gh gt)
      clear SS K3 K4 TW4 RH4 RT4 HBw5 HBw6
      have tl : (((r.length + 1 : Nat) : Int) != ((r.length + 1 : Nat) : Int)) = false := by simp
      go_wp2
      go_loopw [60] (fun kv wr => ∃ k : Nat, k ≤ r.length + 1 ∧ kv = .int .i64 k ∧ Below w6.heap.size w6 wr) (fun kv _ => r.length + 1 - (intOf kv).toNat)
      case atStart => exact ⟨0, Nat.zero_le _, rfl, Below.refl _ _⟩
      case round =>
        obtain ⟨k, hk, rfl, hbr⟩ := hrel
        have HBr := Lib.hid hbr
        have T5r := Lib.hid (T5a.out.on hbr)
        clear hbr
        by_cases hlt : k < r.length + 1
        · obtain ⟨x0, x1, x2, x3, x4, x5, x6, hxV, hxC⟩ := head_form (headL i c (r.take k))
          obtain ⟨y0, y1, y2, y3, y4, y5, y6, y7, hyV, hyC⟩ := tail_form (tailL i c (r.drop k))
          obtain ⟨a0, a1, a2, a3, a4, a5, a6⟩ := T5r.out.hr.at7 hlt hxC
          obtain ⟨b0, b1, b2, b3, b4, b5, b6⟩ := (RG6.out.below HBr.out).at7 hlt hxC
          obtain ⟨d0, d1, d2, d3, d4, d5, d6, d7⟩ := T5r.out.tr.at8 hlt hyC
          obtain ⟨e0, e1, e2, e3, e4, e5, e6, e7⟩ := (RU6.out.below HBr.out).at8 hlt hyC
          have z1 := T5r.out.hr.1
          have z2 := (RG6.out.below HBr.out).1
          have z3 := T5r.out.tr.1
          have z4 := (RU6.out.below HBr.out).1
          clear hxV hxC hyV hyC
          have n1 : (k : Int) < ((r.length + 1 : Nat) : Int) := by omega
          have n1' : (k : Int) < (r.length : Int) + 1 := by omega
          have n0 : (0 : Int) ≤ (k : Int) := by omega
          have n2 : (k : Int).toNat = k := by omega
          go_upto_region 12 with (fail)
          go_quiet (fail)
          have HBq := Lib.hid (below_draws' HBr.out nq)
          clear a0 b0 a1 b1 a2 b2 a3 b3 a4 b4 a5 b5 a6 b6 d0 e0 d1 e1 d2 e2 d3 e3 d4 e4 d5 e5 d6 e6 d7 e7 z1 z2 z3 z4
          go_wp2
          go_roundw
          case rel => exact ⟨k + 1, by omega, by go_num, HBq.out⟩
          case measure => simp [intOf]; omega
        · obtain rfl : k = r.length + 1 := by omega
          have tt : decide (((r.length + 1 : Nat) : Int) < ((r.length + 1 : Nat) : Int)) = false := by simp
          have HBW := Lib.hid (T5r.out.two.below)
          obtain ⟨x0, x1, x2, x3, x4, x5, x6, hxV, hxC⟩ := head_form (some (beginH i c))
          obtain ⟨y0, y1, y2, y3, y4, y5, y6, y7, hyV, hyC⟩ := tail_form (some (endT i c))
          have K1 : Hid (∀ W, Below wr.heap.size wr W → Calls Try.prog 14 #[.agg #[.slice A1 i.cars.length c1, .slice A2 i.stops.length c2, .slice A3 i.pairs.length c3, .slice A4 i.travel.length c4], .int .i64 c] W fun e w' => e = .returned (.agg #[.bool x0, .int .i64 x1, .int .i64 x2, .int .i64 x3, .int .u32 x4, .int .u32 x5, .int .i64 x6]) ∧ Below W.heap.size W w') := fun W hB => by
            have := pbegin_any _ i c W (T5r.out.two.box.lies.below hB) HOK.out (by omega)
            rw [if_pos HC.out, hxV] at this; exact this
          have K2 : Hid (∀ W, Below wr.heap.size wr W → Calls Try.prog 24 #[.agg #[.slice A1 i.cars.length c1, .slice A2 i.stops.length c2, .slice A3 i.pairs.length c3, .slice A4 i.travel.length c4], .int .i64 c] W fun e w' => e = .returned (.agg #[.bool x0, .int .i64 x1, .int .i64 x2, .int .i64 x3, .int .u32 x4, .int .u32 x5, .int .i64 x6]) ∧ Below W.heap.size W w') := fun W hB => by
            have := refBegin_any _ i c W (T5r.out.two.box.lies.below hB) HOK.out
            rw [if_pos HC.out, hxV] at this; exact this
          have K3 : Hid (∀ W, Below wr.heap.size wr W → Calls Try.prog 15 #[.agg #[.slice A1 i.cars.length c1, .slice A2 i.stops.length c2, .slice A3 i.pairs.length c3, .slice A4 i.travel.length c4], .int .i64 c] W fun e w' => e = .returned (.agg #[.bool y0, .int .i64 y1, .int .i64 y2, .int .i64 y3, .int .i64 y4, .int .u32 y5, .int .u32 y6, .int .i64 y7]) ∧ Below W.heap.size W w') := fun W hB => by
            have := pend_any _ i c W (T5r.out.two.box.lies.below hB) HOK.out (by omega)
            rw [if_pos HC.out, hyV] at this; exact this
          have K4 : Hid (∀ W, Below wr.heap.size wr W → Calls Try.prog 25 #[.agg #[.slice A1 i.cars.length c1, .slice A2 i.stops.length c2, .slice A3 i.pairs.length c3, .slice A4 i.travel.length c4], .int .i64 c] W fun e w' => e = .returned (.agg #[.bool y0, .int .i64 y1, .int .i64 y2, .int .i64 y3, .int .i64 y4, .int .u32 y5, .int .u32 y6, .int .i64 y7]) ∧ Below W.heap.size W w') := fun W hB => by
            have := refEnd_any _ i c W (T5r.out.two.box.lies.below hB) HOK.out
            rw [if_pos HC.out, hyV] at this; exact this
          clear hxV hxC hyV hyC
          have SS : Hid (∀ W, Below wr.heap.size wr W → W.cell? ⟨I, 0, none⟩ = some (.slice A1 i.cars.length c1) ∧ W.cell? ⟨I, 1, none⟩ = some (.slice A2 i.stops.length c2) ∧ W.cell? ⟨I, 2, none⟩ = some (.slice A3 i.pairs.length c3) ∧ W.cell? ⟨I, 3, none⟩ = some (.slice A4 i.travel.length c4)) := fun W hB => ⟨(T5r.out.two.box.below hB).b0, (T5r.out.two.box.below hB).b1, (T5r.out.two.box.below hB).b2, (T5r.out.two.box.below hB).b3⟩
          go_upto_region 15 with (fail)
          refine wp_region_z (S := (fun W => W.cell? ⟨I, 0, none⟩ = some (.slice A1 i.cars.length c1) ∧ W.cell? ⟨I, 1, none⟩ = some (.slice A2 i.stops.length c2) ∧ W.cell? ⟨I, 2, none⟩ = some (.slice A3 i.pairs.length c3) ∧ W.cell? ⟨I, 3, none⟩ = some (.slice A4 i.travel.length c4))) (z := 16) (by kernel_rfl) (SS.out _ (Below.refl wr.heap.size wr).drew) (fun hH => ?_)
          refine wpAnyZ_takeS (i := 0) (v := ?_) rfl (by kernel_rfl) (by kernel_rfl) (by kernel_rfl) (by kernel_rfl) (fun _ _ _ h => h) (gives_value (by rfl) ?_) (by assumption) ?_
          rotate_left
          · intro w hSw
            (try dsimp only at hSw)
            go_simp
            (try with_reducible rfl)
          (try simp only [Act.put, List.getElem_toArray, List.getElem_cons_succ, List.getElem_cons_zero, List.setIfInBounds_toArray, List.set_cons_zero, List.set_cons_succ])
          refine wpAnyZ_takeS (i := 1) (v := ?_) rfl (by kernel_rfl) (by kernel_rfl) (by kernel_rfl) (by kernel_rfl) (fun _ _ _ h => h) (gives_value (by rfl) ?_) (by assumption) ?_
          rotate_left
          · intro w hSw
            (try dsimp only at hSw)
            go_simp
            (try with_reducible rfl)
          (try simp only [Act.put, List.getElem_toArray, List.getElem_cons_succ, List.getElem_cons_zero, List.setIfInBounds_toArray, List.set_cons_zero, List.set_cons_succ])
          refine wpAnyZ_takeS (i := 3) (v := ?_) rfl (by kernel_rfl) (by kernel_rfl) (by kernel_rfl) (by kernel_rfl) (fun _ _ _ h => h) (gives_value (by rfl) ?_) (by assumption) ?_
          rotate_left
          · intro w hSw
            (try dsimp only at hSw)
            go_simp
            (try with_reducible rfl)
          (try simp only [Act.put, List.getElem_toArray, List.getElem_cons_succ, List.getElem_cons_zero, List.setIfInBounds_toArray, List.set_cons_zero, List.set_cons_succ])
          refine wpAnyZ_takeS (i := 4) (v := ?_) rfl (by kernel_rfl) (by kernel_rfl) (by kernel_rfl) (by kernel_rfl) (fun _ _ _ h => h) (gives_value (by rfl) ?_) (by assumption) ?_
          rotate_left
          · intro w hSw
            (try dsimp only at hSw)
            go_simp
            (try with_reducible rfl)
          (try simp only [Act.put, List.getElem_toArray, List.getElem_cons_succ, List.getElem_cons_zero, List.setIfInBounds_toArray, List.set_cons_zero, List.set_cons_succ])
          refine wpAnyZ_one (i := 2) (by kernel_rfl) ?_
          refine zstep rfl (fun K hK => ?_)
          go_simp
          (with_reducible refine (K1.out _ ((Below.refl wr.heap.size wr).drew)).mono ?_)
          rintro e v1 ⟨rfl, hb⟩
          have HBv1 := Lib.hid (((Below.refl wr.heap.size wr).drew).trans hb)
          clear hb
          refine hK.out _ _ (fun _ => SS.out _ HBv1.out) (fun hH => ?_)
          replace hH := hH (by decide)
          clear hK K
          (try simp only [Act.put, List.getElem_toArray, List.getElem_cons_succ, List.getElem_cons_zero, List.setIfInBounds_toArray, List.set_cons_zero, List.set_cons_succ])
          refine wpAnyZ_one (i := 5) (by kernel_rfl) ?_
          refine zstep rfl (fun K hK => ?_)
          go_simp
          (with_reducible refine (K2.out _ (HBv1.out)).mono ?_)
          rintro e v2 ⟨rfl, hb⟩
          have HBv2 := Lib.hid (HBv1.out.trans (hb.mono HBv1.out.size))
          clear hb
          refine hK.out _ _ (fun _ => SS.out _ HBv2.out) (fun hH => ?_)
          replace hH := hH (by decide)
          clear hK K
          (try simp only [Act.put, List.getElem_toArray, List.getElem_cons_succ, List.getElem_cons_zero, List.setIfInBounds_toArray, List.set_cons_zero, List.set_cons_succ])
          refine wpAnyZ_takeS (i := 6) (v := ?_) rfl (by kernel_rfl) (by kernel_rfl) (by kernel_rfl) (by kernel_rfl) (fun _ _ _ h => h) (gives_value (by rfl) ?_) (by assumption) ?_
          rotate_left
          · intro w hSw
            (try dsimp only at hSw)
            go_simp
            (try with_reducible rfl)
          (try simp only [Act.put, List.getElem_toArray, List.getElem_cons_succ, List.getElem_cons_zero, List.setIfInBounds_toArray, List.set_cons_zero, List.set_cons_succ])
          refine wpAnyZ_takeS (i := 7) (v := ?_) rfl (by kernel_rfl) (by kernel_rfl) (by kernel_rfl) (by kernel_rfl) (fun _ _ _ h => h) (gives_value (by rfl) ?_) (by assumption) ?_
          rotate_left
          · intro w hSw
            (try dsimp only at hSw)
            go_simp
            (try with_reducible rfl)
          (try simp only [Act.put, List.getElem_toArray, List.getElem_cons_succ, List.getElem_cons_zero, List.setIfInBounds_toArray, List.set_cons_zero, List.set_cons_succ])
          refine wpAnyZ_takeS (i := 8) (v := ?_) rfl (by kernel_rfl) (by kernel_rfl) (by kernel_rfl) (by kernel_rfl) (fun _ _ _ h => h) (gives_value (by rfl) ?_) (by assumption) ?_
          rotate_left
          · intro w hSw
            (try dsimp only at hSw)
            go_simp
            (try with_reducible rfl)
          (try simp only [Act.put, List.getElem_toArray, List.getElem_cons_succ, List.getElem_cons_zero, List.setIfInBounds_toArray, List.set_cons_zero, List.set_cons_succ])
          refine wpAnyZ_takeS (i := 9) (v := ?_) rfl (by kernel_rfl) (by kernel_rfl) (by kernel_rfl) (by kernel_rfl) (fun _ _ _ h => h) (gives_value (by rfl) ?_) (by assumption) ?_
          rotate_left
          · intro w hSw
            (try dsimp only at hSw)
            go_simp
            (try with_reducible rfl)
          (try simp only [Act.put, List.getElem_toArray, List.getElem_cons_succ, List.getElem_cons_zero, List.setIfInBounds_toArray, List.set_cons_zero, List.set_cons_succ])
          refine wpAnyZ_takeS (i := 11) (v := ?_) rfl (by kernel_rfl) (by kernel_rfl) (by kernel_rfl) (by kernel_rfl) (fun _ _ _ h => h) (gives_value (by rfl) ?_) (by assumption) ?_
          rotate_left
          · intro w hSw
            (try dsimp only at hSw)
            go_simp
            (try with_reducible rfl)
          (try simp only [Act.put, List.getElem_toArray, List.getElem_cons_succ, List.getElem_cons_zero, List.setIfInBounds_toArray, List.set_cons_zero, List.set_cons_succ])
          refine wpAnyZ_takeS (i := 12) (v := ?_) rfl (by kernel_rfl) (by kernel_rfl) (by kernel_rfl) (by kernel_rfl) (fun _ _ _ h => h) (gives_value (by rfl) ?_) (by assumption) ?_
          rotate_left
          · intro w hSw
            (try dsimp only at hSw)
            go_simp
            (try with_reducible rfl)
          (try simp only [Act.put, List.getElem_toArray, List.getElem_cons_succ, List.getElem_cons_zero, List.setIfInBounds_toArray, List.set_cons_zero, List.set_cons_succ])
          refine wpAnyZ_one (i := 10) (by kernel_rfl) ?_
          refine zstep rfl (fun K hK => ?_)
          go_simp
          (with_reducible refine (K3.out _ (HBv2.out)).mono ?_)
          rintro e v3 ⟨rfl, hb⟩
          have HBv3 := Lib.hid (HBv2.out.trans (hb.mono HBv2.out.size))
          clear hb
          refine hK.out _ _ (fun _ => SS.out _ HBv3.out) (fun hH => ?_)
          replace hH := hH (by decide)
          clear hK K
          (try simp only [Act.put, List.getElem_toArray, List.getElem_cons_succ, List.getElem_cons_zero, List.setIfInBounds_toArray, List.set_cons_zero, List.set_cons_succ])
          refine wpAnyZ_one (i := 13) (by kernel_rfl) ?_
          refine zstep rfl (fun K hK => ?_)
          go_simp
          (with_reducible refine (K4.out _ (HBv3.out)).mono ?_)
          rintro e v4 ⟨rfl, hb⟩
          have HBv4 := Lib.hid (HBv3.out.trans (hb.mono HBv3.out.size))
          clear hb
          refine hK.out _ _ (fun _ => SS.out _ HBv4.out) (fun hH => ?_)
          replace hH := hH (by decide)
          clear hK K
          (try simp only [Act.put, List.getElem_toArray, List.getElem_cons_succ, List.getElem_cons_zero, List.setIfInBounds_toArray, List.set_cons_zero, List.set_cons_succ])
          refine wpAnyZ_takeS (i := 14) (v := ?_) rfl (by kernel_rfl) (by kernel_rfl) (by kernel_rfl) (by kernel_rfl) (fun _ _ _ h => h) (gives_value (by rfl) ?_) (by assumption) ?_
          rotate_left
          · intro w hSw
            (try dsimp only at hSw)
            go_simp
            (try with_reducible rfl)
          (try simp only [Act.put, List.getElem_toArray, List.getElem_cons_succ, List.getElem_cons_zero, List.setIfInBounds_toArray, List.set_cons_zero, List.set_cons_succ])
          refine wpAnyZ_takeS (i := 15) (v := ?_) rfl (by kernel_rfl) (by kernel_rfl) (by kernel_rfl) (by kernel_rfl) (fun _ _ _ h => h) (gives_value (by rfl) ?_) (by assumption) ?_
          rotate_left
          · intro w hSw
            (try dsimp only at hSw)
            go_simp
            (try with_reducible rfl)
          (try simp only [Act.put, List.getElem_toArray, List.getElem_cons_succ, List.getElem_cons_zero, List.setIfInBounds_toArray, List.set_cons_zero, List.set_cons_succ])
          refine wpAnyZ_done (by kernel_rfl) ?_ _
          clear hH
          have T5b := Lib.hid (T5r.out.on HBv4.out)
          clear SS K1 K2 K3 K4 HBv1 HBv2 HBv3 HBv4 T5r
          go_wp2
          go_loopw [102] (fun kv ws => ∃ k : Nat, k ≤ r.length ∧ kv = .int .i64 k ∧ Below v4.heap.size v4 ws) (fun kv _ => r.length - (intOf kv).toNat)
          case atStart => exact ⟨0, Nat.zero_le _, rfl, Below.refl _ _⟩
          case round =>
            obtain ⟨k, hk, rfl, hbs⟩ := hrel
            have T5s := Lib.hid (T5b.out.on hbs)
            have HBs := Lib.hid hbs
            clear hbs
            by_cases hlt : k < r.length
            · obtain ⟨A', cap', he, hcl⟩ := T5s.out.two.row.num
              obtain ⟨rfl, rfl⟩ : A = A' ∧ cap = cap' := by injection he with a _ b; exact ⟨a, b⟩
              obtain ⟨B, o, rfl, hB, d0⟩ := hcl k hlt
              clear he hcl
              obtain ⟨x0, x1, x2, x3, x4, x5, x6, hxV, hxC⟩ := head_form (headL i c (r.take k))
              obtain ⟨p0, p1, p2, p3, p4, p5, p6, hpV, hpC⟩ := head_form (headL i c (r.take (k + 1)))
              obtain ⟨y0, y1, y2, y3, y4, y5, y6, y7, hyV, hyC⟩ := tail_form (tailL i c (r.drop k))
              obtain ⟨q0, q1, q2, q3, q4, q5, q6, q7, hqV, hqC⟩ := tail_form (tailL i c (r.drop (k + 1)))
              have K1 : Hid (∀ W, Below wr.heap.size wr W → Calls Try.prog 16 #[.agg #[.slice A1 i.cars.length c1, .slice A2 i.stops.length c2, .slice A3 i.pairs.length c3, .slice A4 i.travel.length c4], .int .i64 c, .agg #[.bool x0, .int .i64 x1, .int .i64 x2, .int .i64 x3, .int .u32 x4, .int .u32 x5, .int .i64 x6], .int .i64 r[k]] W fun e w' => e = .returned (.agg #[.bool p0, .int .i64 p1, .int .i64 p2, .int .i64 p3, .int .u32 p4, .int .u32 p5, .int .i64 p6]) ∧ Below W.heap.size W w') := fun W hB => by
                have := pextend_any _ i c (headL i c (r.take k)) r[k] W (T5s.out.two.box.lies.below hB) HOK.out (by omega) (head_bd HF.out HM.out (by omega) (by omega))
                rw [if_pos HC.out, ← head_step hlt, hxV, hpV] at this; exact this
              have K2 : Hid (∀ W, Below wr.heap.size wr W → Calls Try.prog 17 #[.agg #[.slice A1 i.cars.length c1, .slice A2 i.stops.length c2, .slice A3 i.pairs.length c3, .slice A4 i.travel.length c4], .int .i64 c, .int .i64 r[k], .agg #[.bool q0, .int .i64 q1, .int .i64 q2, .int .i64 q3, .int .i64 q4, .int .u32 q5, .int .u32 q6, .int .i64 q7]] W fun e w' => e = .returned (.agg #[.bool y0, .int .i64 y1, .int .i64 y2, .int .i64 y3, .int .i64 y4, .int .u32 y5, .int .u32 y6, .int .i64 y7]) ∧ Below W.heap.size W w') := fun W hB => by
                have := pbefore_any _ i c (tailL i c (r.drop (k + 1))) r[k] W (T5s.out.two.box.lies.below hB) HOK.out (by omega) (fun hc => tail_bd' HF.out HM.out hc (by omega))
                rw [if_pos HC.out, ← tail_step hlt, hqV, hyV] at this; exact this
              have SS : Hid (∀ W, Below wr.heap.size wr W → W.cell? ⟨I, 0, none⟩ = some (.slice A1 i.cars.length c1) ∧ W.cell? ⟨I, 1, none⟩ = some (.slice A2 i.stops.length c2) ∧ W.cell? ⟨I, 2, none⟩ = some (.slice A3 i.pairs.length c3) ∧ W.cell? ⟨I, 3, none⟩ = some (.slice A4 i.travel.length c4) ∧ W.cell? ⟨gh, k * 7, none⟩ = some (.bool x0) ∧ W.cell? ⟨gh, k * 7 + 1, none⟩ = some (.int .i64 x1) ∧ W.cell? ⟨gh, k * 7 + 2, none⟩ = some (.int .i64 x2) ∧ W.cell? ⟨gh, k * 7 + 3, none⟩ = some (.int .i64 x3) ∧ W.cell? ⟨gh, k * 7 + 4, none⟩ = some (.int .u32 x4) ∧ W.cell? ⟨gh, k * 7 + 5, none⟩ = some (.int .u32 x5) ∧ W.cell? ⟨gh, k * 7 + 6, none⟩ = some (.int .i64 x6) ∧ W.cell? ⟨gh, (k + 1) * 7, none⟩ = some (.bool p0) ∧ W.cell? ⟨gh, (k + 1) * 7 + 1, none⟩ = some (.int .i64 p1) ∧ W.cell? ⟨gh, (k + 1) * 7 + 2, none⟩ = some (.int .i64 p2) ∧ W.cell? ⟨gh, (k + 1) * 7 + 3, none⟩ = some (.int .i64 p3) ∧ W.cell? ⟨gh, (k + 1) * 7 + 4, none⟩ = some (.int .u32 p4) ∧ W.cell? ⟨gh, (k + 1) * 7 + 5, none⟩ = some (.int .u32 p5) ∧ W.cell? ⟨gh, (k + 1) * 7 + 6, none⟩ = some (.int .i64 p6) ∧ W.cell? ⟨gt, k * 8, none⟩ = some (.bool y0) ∧ W.cell? ⟨gt, k * 8 + 1, none⟩ = some (.int .i64 y1) ∧ W.cell? ⟨gt, k * 8 + 2, none⟩ = some (.int .i64 y2) ∧ W.cell? ⟨gt, k * 8 + 3, none⟩ = some (.int .i64 y3) ∧ W.cell? ⟨gt, k * 8 + 4, none⟩ = some (.int .i64 y4) ∧ W.cell? ⟨gt, k * 8 + 5, none⟩ = some (.int .u32 y5) ∧ W.cell? ⟨gt, k * 8 + 6, none⟩ = some (.int .u32 y6) ∧ W.cell? ⟨gt, k * 8 + 7, none⟩ = some (.int .i64 y7) ∧ W.cell? ⟨gt, (k + 1) * 8, none⟩ = some (.bool q0) ∧ W.cell? ⟨gt, (k + 1) * 8 + 1, none⟩ = some (.int .i64 q1) ∧ W.cell? ⟨gt, (k + 1) * 8 + 2, none⟩ = some (.int .i64 q2) ∧ W.cell? ⟨gt, (k + 1) * 8 + 3, none⟩ = some (.int .i64 q3) ∧ W.cell? ⟨gt, (k + 1) * 8 + 4, none⟩ = some (.int .i64 q4) ∧ W.cell? ⟨gt, (k + 1) * 8 + 5, none⟩ = some (.int .u32 q5) ∧ W.cell? ⟨gt, (k + 1) * 8 + 6, none⟩ = some (.int .u32 q6) ∧ W.cell? ⟨gt, (k + 1) * 8 + 7, none⟩ = some (.int .i64 q7)) := fun W hB => by
                have X := T5s.out.on hB
                obtain ⟨a0, a1, a2, a3, a4, a5, a6⟩ := X.hr.at7 (k := k) (by omega) hxC
                obtain ⟨b0, b1, b2, b3, b4, b5, b6⟩ := X.hr.at7 (k := k + 1) (by omega) hpC
                obtain ⟨d0, d1, d2, d3, d4, d5, d6, d7⟩ := X.tr.at8 (k := k) (by omega) hyC
                obtain ⟨e0, e1, e2, e3, e4, e5, e6, e7⟩ := X.tr.at8 (k := k + 1) (by omega) hqC
                exact ⟨X.two.box.b0, X.two.box.b1, X.two.box.b2, X.two.box.b3, a0, a1, a2, a3, a4, a5, a6, b0, b1, b2, b3, b4, b5, b6, d0, d1, d2, d3, d4, d5, d6, d7, e0, e1, e2, e3, e4, e5, e6, e7⟩
              clear hxV hxC hyV hyC hpV hpC hqV hqC
              have m0 : (k : Int) < (r.length : Int) := by omega
              have n1 : (k : Int) < ((r.length + 1 : Nat) : Int) := by omega
              have n1' : (k : Int) < (r.length : Int) + 1 := by omega
              have n0 : (0 : Int) ≤ (k : Int) := by omega
              have n2 : (k : Int).toNat = k := by omega
              have n3 : (k : Int) + 1 < ((r.length + 1 : Nat) : Int) := by omega
              have n3' : (k : Int) + 1 < (r.length : Int) + 1 := by omega
              have n4 : (0 : Int) ≤ (k : Int) + 1 := by omega
              have n5 : ((k : Int) + 1).toNat = k + 1 := by omega
              have n6 : IntKind.i64.wrap ((k : Int) + 1) = (k : Int) + 1 := IntWalk.i64_in _ (by omega)
              generalize r[k] = s at *
              go_upto_region 20 with (fail)
              refine wp_region_z (S := (fun W => W.cell? ⟨I, 0, none⟩ = some (.slice A1 i.cars.length c1) ∧ W.cell? ⟨I, 1, none⟩ = some (.slice A2 i.stops.length c2) ∧ W.cell? ⟨I, 2, none⟩ = some (.slice A3 i.pairs.length c3) ∧ W.cell? ⟨I, 3, none⟩ = some (.slice A4 i.travel.length c4) ∧ W.cell? ⟨gh, k * 7, none⟩ = some (.bool x0) ∧ W.cell? ⟨gh, k * 7 + 1, none⟩ = some (.int .i64 x1) ∧ W.cell? ⟨gh, k * 7 + 2, none⟩ = some (.int .i64 x2) ∧ W.cell? ⟨gh, k * 7 + 3, none⟩ = some (.int .i64 x3) ∧ W.cell? ⟨gh, k * 7 + 4, none⟩ = some (.int .u32 x4) ∧ W.cell? ⟨gh, k * 7 + 5, none⟩ = some (.int .u32 x5) ∧ W.cell? ⟨gh, k * 7 + 6, none⟩ = some (.int .i64 x6) ∧ W.cell? ⟨gh, (k + 1) * 7, none⟩ = some (.bool p0) ∧ W.cell? ⟨gh, (k + 1) * 7 + 1, none⟩ = some (.int .i64 p1) ∧ W.cell? ⟨gh, (k + 1) * 7 + 2, none⟩ = some (.int .i64 p2) ∧ W.cell? ⟨gh, (k + 1) * 7 + 3, none⟩ = some (.int .i64 p3) ∧ W.cell? ⟨gh, (k + 1) * 7 + 4, none⟩ = some (.int .u32 p4) ∧ W.cell? ⟨gh, (k + 1) * 7 + 5, none⟩ = some (.int .u32 p5) ∧ W.cell? ⟨gh, (k + 1) * 7 + 6, none⟩ = some (.int .i64 p6) ∧ W.cell? ⟨gt, k * 8, none⟩ = some (.bool y0) ∧ W.cell? ⟨gt, k * 8 + 1, none⟩ = some (.int .i64 y1) ∧ W.cell? ⟨gt, k * 8 + 2, none⟩ = some (.int .i64 y2) ∧ W.cell? ⟨gt, k * 8 + 3, none⟩ = some (.int .i64 y3) ∧ W.cell? ⟨gt, k * 8 + 4, none⟩ = some (.int .i64 y4) ∧ W.cell? ⟨gt, k * 8 + 5, none⟩ = some (.int .u32 y5) ∧ W.cell? ⟨gt, k * 8 + 6, none⟩ = some (.int .u32 y6) ∧ W.cell? ⟨gt, k * 8 + 7, none⟩ = some (.int .i64 y7) ∧ W.cell? ⟨gt, (k + 1) * 8, none⟩ = some (.bool q0) ∧ W.cell? ⟨gt, (k + 1) * 8 + 1, none⟩ = some (.int .i64 q1) ∧ W.cell? ⟨gt, (k + 1) * 8 + 2, none⟩ = some (.int .i64 q2) ∧ W.cell? ⟨gt, (k + 1) * 8 + 3, none⟩ = some (.int .i64 q3) ∧ W.cell? ⟨gt, (k + 1) * 8 + 4, none⟩ = some (.int .i64 q4) ∧ W.cell? ⟨gt, (k + 1) * 8 + 5, none⟩ = some (.int .u32 q5) ∧ W.cell? ⟨gt, (k + 1) * 8 + 6, none⟩ = some (.int .u32 q6) ∧ W.cell? ⟨gt, (k + 1) * 8 + 7, none⟩ = some (.int .i64 q7))) (z := 37) (by kernel_rfl) (SS.out _ (Below.refl wr.heap.size wr).drew) (fun hH => ?_)
              refine wpAnyZ_takeS (i := 0) (v := ?_) rfl (by kernel_rfl) (by kernel_rfl) (by kernel_rfl) (by kernel_rfl) (fun _ _ _ h => h) (gives_value (by rfl) ?_) (by assumption) ?_
              rotate_left
              · intro w hSw
                (try dsimp only at hSw)
                go_simp
                (try with_reducible rfl)
              (try simp only [Act.put, List.getElem_toArray, List.getElem_cons_succ, List.getElem_cons_zero, List.setIfInBounds_toArray, List.set_cons_zero, List.set_cons_succ])
              refine wpAnyZ_takeS (i := 1) (v := ?_) rfl (by kernel_rfl) (by kernel_rfl) (by kernel_rfl) (by kernel_rfl) (fun _ _ _ h => h) (gives_value (by rfl) ?_) (by assumption) ?_
              rotate_left
              · intro w hSw
                (try dsimp only at hSw)
                go_simp
                (try with_reducible rfl)
              (try simp only [Act.put, List.getElem_toArray, List.getElem_cons_succ, List.getElem_cons_zero, List.setIfInBounds_toArray, List.set_cons_zero, List.set_cons_succ])
              refine wpAnyZ_takeS (i := 2) (v := ?_) rfl (by kernel_rfl) (by kernel_rfl) (by kernel_rfl) (by kernel_rfl) (fun _ _ _ h => h) (gives_value (by rfl) ?_) (by assumption) ?_
              rotate_left
              · intro w hSw
                (try dsimp only at hSw)
                go_simp
                (try with_reducible rfl)
              (try simp only [Act.put, List.getElem_toArray, List.getElem_cons_succ, List.getElem_cons_zero, List.setIfInBounds_toArray, List.set_cons_zero, List.set_cons_succ])
              refine wpAnyZ_takeS (i := 3) (v := ?_) rfl (by kernel_rfl) (by kernel_rfl) (by kernel_rfl) (by kernel_rfl) (fun _ _ _ h => h) (gives_value (by rfl) ?_) (by assumption) ?_
              rotate_left
              · intro w hSw
                (try dsimp only at hSw)
                go_simp
                (try with_reducible rfl)
              (try simp only [Act.put, List.getElem_toArray, List.getElem_cons_succ, List.getElem_cons_zero, List.setIfInBounds_toArray, List.set_cons_zero, List.set_cons_succ])
              refine wpAnyZ_takeS (i := 4) (v := ?_) rfl (by kernel_rfl) (by kernel_rfl) (by kernel_rfl) (by kernel_rfl) (fun _ _ _ h => h) (gives_value (by rfl) ?_) (by assumption) ?_
              rotate_left
              · intro w hSw
                (try dsimp only at hSw)
                go_simp
                (try with_reducible rfl)
              (try simp only [Act.put, List.getElem_toArray, List.getElem_cons_succ, List.getElem_cons_zero, List.setIfInBounds_toArray, List.set_cons_zero, List.set_cons_succ])
              refine wpAnyZ_takeS (i := 5) (v := ?_) rfl (by kernel_rfl) (by kernel_rfl) (by kernel_rfl) (by kernel_rfl) (fun _ _ _ h => h) (gives_value (by rfl) ?_) (by assumption) ?_
              rotate_left
              · intro w hSw
                (try dsimp only at hSw)
                go_simp
                (try with_reducible rfl)
              (try simp only [Act.put, List.getElem_toArray, List.getElem_cons_succ, List.getElem_cons_zero, List.setIfInBounds_toArray, List.set_cons_zero, List.set_cons_succ])
              refine wpAnyZ_takeS (i := 6) (v := ?_) rfl (by kernel_rfl) (by kernel_rfl) (by kernel_rfl) (by kernel_rfl) (fun _ _ _ h => h) (gives_value (by rfl) ?_) (by assumption) ?_
              rotate_left
              · intro w hSw
                (try dsimp only at hSw)
                go_simp
                (try with_reducible rfl)
              (try simp only [Act.put, List.getElem_toArray, List.getElem_cons_succ, List.getElem_cons_zero, List.setIfInBounds_toArray, List.set_cons_zero, List.set_cons_succ])
              refine wpAnyZ_takeS (i := 7) (v := ?_) rfl (by kernel_rfl) (by kernel_rfl) (by kernel_rfl) (by kernel_rfl) (fun _ _ _ h => h) (gives_value (by rfl) ?_) (by assumption) ?_
              rotate_left
              · intro w hSw
                (try dsimp only at hSw)
                go_simp
                (try with_reducible rfl)
              (try simp only [Act.put, List.getElem_toArray, List.getElem_cons_succ, List.getElem_cons_zero, List.setIfInBounds_toArray, List.set_cons_zero, List.set_cons_succ])
              refine wpAnyZ_takeS (i := 8) (v := ?_) rfl (by kernel_rfl) (by kernel_rfl) (by kernel_rfl) (by kernel_rfl) (fun _ _ _ h => h) (gives_value (by rfl) ?_) (by assumption) ?_
              rotate_left
              · intro w hSw
                (try dsimp only at hSw)
                go_simp
                (try with_reducible rfl)
              (try simp only [Act.put, List.getElem_toArray, List.getElem_cons_succ, List.getElem_cons_zero, List.setIfInBounds_toArray, List.set_cons_zero, List.set_cons_succ])
              refine wpAnyZ_takeS (i := 9) (v := ?_) rfl (by kernel_rfl) (by kernel_rfl) (by kernel_rfl) (by kernel_rfl) (fun _ _ _ h => h) (gives_value (by rfl) ?_) (by assumption) ?_
              rotate_left
              · intro w hSw
                (try dsimp only at hSw)
                go_simp
                (try with_reducible rfl)
              (try simp only [Act.put, List.getElem_toArray, List.getElem_cons_succ, List.getElem_cons_zero, List.setIfInBounds_toArray, List.set_cons_zero, List.set_cons_succ])
              refine wpAnyZ_takeS (i := 10) (v := ?_) rfl (by kernel_rfl) (by kernel_rfl) (by kernel_rfl) (by kernel_rfl) (fun _ _ _ h => h) (gives_value (by rfl) ?_) (by assumption) ?_
              rotate_left
              · intro w hSw
                (try dsimp only at hSw)
                go_simp
                (try with_reducible rfl)
              (try simp only [Act.put, List.getElem_toArray, List.getElem_cons_succ, List.getElem_cons_zero, List.setIfInBounds_toArray, List.set_cons_zero, List.set_cons_succ])
              refine wpAnyZ_takeS (i := 11) (v := ?_) rfl (by kernel_rfl) (by kernel_rfl) (by kernel_rfl) (by kernel_rfl) (fun _ _ _ h => h) (gives_value (by rfl) ?_) (by assumption) ?_
              rotate_left
              · intro w hSw
                (try dsimp only at hSw)
                go_simp
                (try with_reducible rfl)
              (try simp only [Act.put, List.getElem_toArray, List.getElem_cons_succ, List.getElem_cons_zero, List.setIfInBounds_toArray, List.set_cons_zero, List.set_cons_succ])
              refine wpAnyZ_takeS (i := 12) (v := ?_) rfl (by kernel_rfl) (by kernel_rfl) (by kernel_rfl) (by kernel_rfl) (fun _ _ _ h => h) (gives_value (by rfl) ?_) (by assumption) ?_
              rotate_left
              · intro w hSw
                (try dsimp only at hSw)
                go_simp
                (try with_reducible rfl)
              (try simp only [Act.put, List.getElem_toArray, List.getElem_cons_succ, List.getElem_cons_zero, List.setIfInBounds_toArray, List.set_cons_zero, List.set_cons_succ])
              refine wpAnyZ_takeS (i := 14) (v := ?_) rfl (by kernel_rfl) (by kernel_rfl) (by kernel_rfl) (by kernel_rfl) (fun _ _ _ h => h) (gives_value (by rfl) ?_) (by assumption) ?_
              rotate_left
              · intro w hSw
                (try dsimp only at hSw)
                go_simp
                (try with_reducible rfl)
              (try simp only [Act.put, List.getElem_toArray, List.getElem_cons_succ, List.getElem_cons_zero, List.setIfInBounds_toArray, List.set_cons_zero, List.set_cons_succ])
              refine wpAnyZ_takeS (i := 15) (v := ?_) rfl (by kernel_rfl) (by kernel_rfl) (by kernel_rfl) (by kernel_rfl) (fun _ _ _ h => h) (gives_value (by rfl) ?_) (by assumption) ?_
              rotate_left
              · intro w hSw
                (try dsimp only at hSw)
                go_simp
                (try with_reducible rfl)
              (try simp only [Act.put, List.getElem_toArray, List.getElem_cons_succ, List.getElem_cons_zero, List.setIfInBounds_toArray, List.set_cons_zero, List.set_cons_succ])
              refine wpAnyZ_takeS (i := 16) (v := ?_) rfl (by kernel_rfl) (by kernel_rfl) (by kernel_rfl) (by kernel_rfl) (fun _ _ _ h => h) (gives_value (by rfl) ?_) (by assumption) ?_
              rotate_left
              · intro w hSw
                (try dsimp only at hSw)
                go_simp
                (try with_reducible rfl)
              (try simp only [Act.put, List.getElem_toArray, List.getElem_cons_succ, List.getElem_cons_zero, List.setIfInBounds_toArray, List.set_cons_zero, List.set_cons_succ])
              refine wpAnyZ_takeS (i := 17) (v := ?_) rfl (by kernel_rfl) (by kernel_rfl) (by kernel_rfl) (by kernel_rfl) (fun _ _ _ h => h) (gives_value (by rfl) ?_) (by assumption) ?_
              rotate_left
              · intro w hSw
                (try dsimp only at hSw)
                go_simp
                (try with_reducible rfl)
              (try simp only [Act.put, List.getElem_toArray, List.getElem_cons_succ, List.getElem_cons_zero, List.setIfInBounds_toArray, List.set_cons_zero, List.set_cons_succ])
              refine wpAnyZ_takeS (i := 18) (v := ?_) rfl (by kernel_rfl) (by kernel_rfl) (by kernel_rfl) (by kernel_rfl) (fun _ _ _ h => h) (gives_value (by rfl) ?_) (by assumption) ?_
              rotate_left
              · intro w hSw
                (try dsimp only at hSw)
                go_simp
                (try with_reducible rfl)
              (try simp only [Act.put, List.getElem_toArray, List.getElem_cons_succ, List.getElem_cons_zero, List.setIfInBounds_toArray, List.set_cons_zero, List.set_cons_succ])
              refine wpAnyZ_one (i := 13) (by kernel_rfl) ?_
              refine zstep rfl (fun K hK => ?_)
              go_simp
              (with_reducible refine (K1.out _ ((Below.refl wr.heap.size wr).drew)).mono ?_)
              rintro e u1 ⟨rfl, hb⟩
              have HBu1 := Lib.hid (((Below.refl wr.heap.size wr).drew).trans hb)
              clear hb
              refine hK.out _ _ (fun _ => SS.out _ HBu1.out) (fun hH => ?_)
              replace hH := hH (by decide)
              clear hK K
              (try simp only [Act.put, List.getElem_toArray, List.getElem_cons_succ, List.getElem_cons_zero, List.setIfInBounds_toArray, List.set_cons_zero, List.set_cons_succ])
              refine wpAnyZ_takeS (i := 19) (v := ?_) rfl (by kernel_rfl) (by kernel_rfl) (by kernel_rfl) (by kernel_rfl) (fun _ _ _ h => h) (gives_value (by rfl) ?_) (by assumption) ?_
              rotate_left
              · intro w hSw
                (try dsimp only at hSw)
                go_simp
                (try with_reducible rfl)
              (try simp only [Act.put, List.getElem_toArray, List.getElem_cons_succ, List.getElem_cons_zero, List.setIfInBounds_toArray, List.set_cons_zero, List.set_cons_succ])
              refine wpAnyZ_takeS (i := 20) (v := ?_) rfl (by kernel_rfl) (by kernel_rfl) (by kernel_rfl) (by kernel_rfl) (fun _ _ _ h => h) (gives_value (by rfl) ?_) (by assumption) ?_
              rotate_left
              · intro w hSw
                (try dsimp only at hSw)
                go_simp
                (try with_reducible rfl)
              (try simp only [Act.put, List.getElem_toArray, List.getElem_cons_succ, List.getElem_cons_zero, List.setIfInBounds_toArray, List.set_cons_zero, List.set_cons_succ])
              refine wpAnyZ_takeS (i := 21) (v := ?_) rfl (by kernel_rfl) (by kernel_rfl) (by kernel_rfl) (by kernel_rfl) (fun _ _ _ h => h) (gives_value (by rfl) ?_) (by assumption) ?_
              rotate_left
              · intro w hSw
                (try dsimp only at hSw)
                go_simp
                (try with_reducible rfl)
              (try simp only [Act.put, List.getElem_toArray, List.getElem_cons_succ, List.getElem_cons_zero, List.setIfInBounds_toArray, List.set_cons_zero, List.set_cons_succ])
              refine wpAnyZ_takeS (i := 22) (v := ?_) rfl (by kernel_rfl) (by kernel_rfl) (by kernel_rfl) (by kernel_rfl) (fun _ _ _ h => h) (gives_value (by rfl) ?_) (by assumption) ?_
              rotate_left
              · intro w hSw
                (try dsimp only at hSw)
                go_simp
                (try with_reducible rfl)
              (try simp only [Act.put, List.getElem_toArray, List.getElem_cons_succ, List.getElem_cons_zero, List.setIfInBounds_toArray, List.set_cons_zero, List.set_cons_succ])
              refine wpAnyZ_takeS (i := 23) (v := ?_) rfl (by kernel_rfl) (by kernel_rfl) (by kernel_rfl) (by kernel_rfl) (fun _ _ _ h => h) (gives_value (by rfl) ?_) (by assumption) ?_
              rotate_left
              · intro w hSw
                (try dsimp only at hSw)
                go_simp
                (try with_reducible rfl)
              (try simp only [Act.put, List.getElem_toArray, List.getElem_cons_succ, List.getElem_cons_zero, List.setIfInBounds_toArray, List.set_cons_zero, List.set_cons_succ])
              refine wpAnyZ_takeS (i := 24) (v := ?_) rfl (by kernel_rfl) (by kernel_rfl) (by kernel_rfl) (by kernel_rfl) (fun _ _ _ h => h) (gives_value (by rfl) ?_) (by assumption) ?_
              rotate_left
              · intro w hSw
                (try dsimp only at hSw)
                go_simp
                (try with_reducible rfl)
              (try simp only [Act.put, List.getElem_toArray, List.getElem_cons_succ, List.getElem_cons_zero, List.setIfInBounds_toArray, List.set_cons_zero, List.set_cons_succ])
              refine wpAnyZ_takeS (i := 25) (v := ?_) rfl (by kernel_rfl) (by kernel_rfl) (by kernel_rfl) (by kernel_rfl) (fun _ _ _ h => h) (gives_value (by rfl) ?_) (by assumption) ?_
              rotate_left
              · intro w hSw
                (try dsimp only at hSw)
                go_simp
                (try with_reducible rfl)
              (try simp only [Act.put, List.getElem_toArray, List.getElem_cons_succ, List.getElem_cons_zero, List.setIfInBounds_toArray, List.set_cons_zero, List.set_cons_succ])
              refine wpAnyZ_takeS (i := 26) (v := ?_) rfl (by kernel_rfl) (by kernel_rfl) (by kernel_rfl) (by kernel_rfl) (fun _ _ _ h => h) (gives_value (by rfl) ?_) (by assumption) ?_
              rotate_left
              · intro w hSw
                (try dsimp only at hSw)
                go_simp
                (try with_reducible rfl)
              (try simp only [Act.put, List.getElem_toArray, List.getElem_cons_succ, List.getElem_cons_zero, List.setIfInBounds_toArray, List.set_cons_zero, List.set_cons_succ])
              refine wpAnyZ_takeS (i := 27) (v := ?_) rfl (by kernel_rfl) (by kernel_rfl) (by kernel_rfl) (by kernel_rfl) (fun _ _ _ h => h) (gives_value (by rfl) ?_) (by assumption) ?_
              rotate_left
              · intro w hSw
                (try dsimp only at hSw)
                go_simp
                (try with_reducible rfl)
              (try simp only [Act.put, List.getElem_toArray, List.getElem_cons_succ, List.getElem_cons_zero, List.setIfInBounds_toArray, List.set_cons_zero, List.set_cons_succ])
              refine wpAnyZ_takeS (i := 28) (v := ?_) rfl (by kernel_rfl) (by kernel_rfl) (by kernel_rfl) (by kernel_rfl) (fun _ _ _ h => h) (gives_value (by rfl) ?_) (by assumption) ?_
              rotate_left
              · intro w hSw
                (try dsimp only at hSw)
                go_simp
                (try with_reducible rfl)
              (try simp only [Act.put, List.getElem_toArray, List.getElem_cons_succ, List.getElem_cons_zero, List.setIfInBounds_toArray, List.set_cons_zero, List.set_cons_succ])
              refine wpAnyZ_takeS (i := 30) (v := ?_) rfl (by kernel_rfl) (by kernel_rfl) (by kernel_rfl) (by kernel_rfl) (fun _ _ _ h => h) (gives_value (by rfl) ?_) (by assumption) ?_
              rotate_left
              · intro w hSw
                (try dsimp only at hSw)
                go_simp
                (try with_reducible rfl)
              (try simp only [Act.put, List.getElem_toArray, List.getElem_cons_succ, List.getElem_cons_zero, List.setIfInBounds_toArray, List.set_cons_zero, List.set_cons_succ])
              refine wpAnyZ_takeS (i := 31) (v := ?_) rfl (by kernel_rfl) (by kernel_rfl) (by kernel_rfl) (by kernel_rfl) (fun _ _ _ h => h) (gives_value (by rfl) ?_) (by assumption) ?_
              rotate_left
              · intro w hSw
                (try dsimp only at hSw)
                go_simp
                (try with_reducible rfl)
              (try simp only [Act.put, List.getElem_toArray, List.getElem_cons_succ, List.getElem_cons_zero, List.setIfInBounds_toArray, List.set_cons_zero, List.set_cons_succ])
              refine wpAnyZ_takeS (i := 32) (v := ?_) rfl (by kernel_rfl) (by kernel_rfl) (by kernel_rfl) (by kernel_rfl) (fun _ _ _ h => h) (gives_value (by rfl) ?_) (by assumption) ?_
              rotate_left
              · intro w hSw
                (try dsimp only at hSw)
                go_simp
                (try with_reducible rfl)
              (try simp only [Act.put, List.getElem_toArray, List.getElem_cons_succ, List.getElem_cons_zero, List.setIfInBounds_toArray, List.set_cons_zero, List.set_cons_succ])
              refine wpAnyZ_takeS (i := 33) (v := ?_) rfl (by kernel_rfl) (by kernel_rfl) (by kernel_rfl) (by kernel_rfl) (fun _ _ _ h => h) (gives_value (by rfl) ?_) (by assumption) ?_
              rotate_left
              · intro w hSw
                (try dsimp only at hSw)
                go_simp
                (try with_reducible rfl)
              (try simp only [Act.put, List.getElem_toArray, List.getElem_cons_succ, List.getElem_cons_zero, List.setIfInBounds_toArray, List.set_cons_zero, List.set_cons_succ])
              refine wpAnyZ_one (i := 29) (by kernel_rfl) ?_
              refine zstep rfl (fun K hK => ?_)
              go_simp
              (with_reducible refine (K2.out _ (HBu1.out)).mono ?_)
              rintro e u2 ⟨rfl, hb⟩
              have HBu2 := Lib.hid (HBu1.out.trans (hb.mono HBu1.out.size))
              clear hb
              refine hK.out _ _ (fun _ => SS.out _ HBu2.out) (fun hH => ?_)
              replace hH := hH (by decide)
              clear hK K
              (try simp only [Act.put, List.getElem_toArray, List.getElem_cons_succ, List.getElem_cons_zero, List.setIfInBounds_toArray, List.set_cons_zero, List.set_cons_succ])
              refine wpAnyZ_takeS (i := 34) (v := ?_) rfl (by kernel_rfl) (by kernel_rfl) (by kernel_rfl) (by kernel_rfl) (fun _ _ _ h => h) (gives_value (by rfl) ?_) (by assumption) ?_
              rotate_left
              · intro w hSw
                (try dsimp only at hSw)
                go_simp
                (try with_reducible rfl)
              (try simp only [Act.put, List.getElem_toArray, List.getElem_cons_succ, List.getElem_cons_zero, List.setIfInBounds_toArray, List.set_cons_zero, List.set_cons_succ])
              refine wpAnyZ_takeS (i := 35) (v := ?_) rfl (by kernel_rfl) (by kernel_rfl) (by kernel_rfl) (by kernel_rfl) (fun _ _ _ h => h) (gives_value (by rfl) ?_) (by assumption) ?_
              rotate_left
              · intro w hSw
                (try dsimp only at hSw)
                go_simp
                (try with_reducible rfl)
              (try simp only [Act.put, List.getElem_toArray, List.getElem_cons_succ, List.getElem_cons_zero, List.setIfInBounds_toArray, List.set_cons_zero, List.set_cons_succ])
              refine wpAnyZ_takeS (i := 36) (v := ?_) rfl (by kernel_rfl) (by kernel_rfl) (by kernel_rfl) (by kernel_rfl) (fun _ _ _ h => h) (gives_value (by rfl) ?_) (by assumption) ?_
              rotate_left
              · intro w hSw
                (try dsimp only at hSw)
                go_simp
                (try with_reducible rfl)
              (try simp only [Act.put, List.getElem_toArray, List.getElem_cons_succ, List.getElem_cons_zero, List.setIfInBounds_toArray, List.set_cons_zero, List.set_cons_succ])
              refine wpAnyZ_done (by kernel_rfl) ?_ _
              have HBf := Lib.hid (HBs.out.trans (HBu2.out.mono HBs.out.size))
              clear hH SS K1 K2 d0
              go_wp2
              go_roundw
              case rel => exact ⟨k + 1, by omega, by go_num, HBf.out⟩
              case measure => simp [intOf]; omega
            · obtain rfl : k = r.length := by omega
              have tt : decide ((r.length : Int) < (r.length : Int)) = false := by simp
              go_wp2_with (go_at_call 18; fail)
              (with_reducible refine (wakes5_any _).mono ?_)
              rintro e wz ⟨rfl, hb⟩
              have TZ := Lib.hid (T5s.out.on hb)
              clear hb
              go_wp2
              go_ret
              exact ⟨rfl, TZ.out.two.below⟩
    · have hc' : inB c 0 (i.cars.length - 1) = false := by simpa using hc
      have K1 : Hid (∀ W, Below w2.heap.size w2 W → Calls Try.prog 10 #[.agg #[.slice A1 i.cars.length c1, .slice A2 i.stops.length c2, .slice A3 i.pairs.length c3, .slice A4 i.travel.length c4], .int .i64 c, .slice A r.length cap] W fun e w' => e = .returned (.slice none 0 0) ∧ Below W.heap.size W w') := fun W hB => pheads_no _ _ i c W (TW.out.box.lies.below hB) HOK.out (by omega) hc'
      have K2 : Hid (∀ W, Below w2.heap.size w2 W → Calls Try.prog 11 #[.agg #[.slice A1 i.cars.length c1, .slice A2 i.stops.length c2, .slice A3 i.pairs.length c3, .slice A4 i.travel.length c4], .int .i64 c, .slice A r.length cap] W fun e w' => e = .returned (.slice none 0 0) ∧ Below W.heap.size W w') := fun W hB => ptails_no _ _ i c W (TW.out.box.lies.below hB) HOK.out (by omega) hc'
      have K3 : Hid (∀ W, Below w2.heap.size w2 W → Calls Try.prog 22 #[.agg #[.slice A1 i.cars.length c1, .slice A2 i.stops.length c2, .slice A3 i.pairs.length c3, .slice A4 i.travel.length c4], .int .i64 c, .slice A r.length cap] W fun e w' => e = .returned (.slice none 0 0) ∧ Below W.heap.size W w') := fun W hB => refHeads_no _ _ i c W (TW.out.box.lies.below hB) HOK.out hc'
      have K4 : Hid (∀ W, Below w2.heap.size w2 W → Calls Try.prog 23 #[.agg #[.slice A1 i.cars.length c1, .slice A2 i.stops.length c2, .slice A3 i.pairs.length c3, .slice A4 i.travel.length c4], .int .i64 c, .slice A r.length cap] W fun e w' => e = .returned (.slice none 0 0) ∧ Below W.heap.size W w') := fun W hB => refTails_no _ _ i c W (TW.out.box.lies.below hB) HOK.out hc'
      have HC := Lib.hid hc'
      clear hc hc'
      go_upto_region 5 with (fail)
      refine wp_region_z (S := (fun W => W.cell? ⟨I, 0, none⟩ = some (.slice A1 i.cars.length c1) ∧ W.cell? ⟨I, 1, none⟩ = some (.slice A2 i.stops.length c2) ∧ W.cell? ⟨I, 2, none⟩ = some (.slice A3 i.pairs.length c3) ∧ W.cell? ⟨I, 3, none⟩ = some (.slice A4 i.travel.length c4))) (z := 10) (by kernel_rfl) (SS.out _ (Below.refl w2.heap.size w2).drew) (fun hH => ?_)
      refine wpAnyZ_takeS (i := 0) (v := ?_) rfl (by kernel_rfl) (by kernel_rfl) (by kernel_rfl) (by kernel_rfl) (fun _ _ _ h => h) (gives_value (by rfl) ?_) (by assumption) ?_
      rotate_left
      · intro w hSw
        (try dsimp only at hSw)
        go_simp
        (try with_reducible rfl)
      (try simp only [Act.put, List.getElem_toArray, List.getElem_cons_succ, List.getElem_cons_zero, List.setIfInBounds_toArray, List.set_cons_zero, List.set_cons_succ])
      refine wpAnyZ_takeS (i := 1) (v := ?_) rfl (by kernel_rfl) (by kernel_rfl) (by kernel_rfl) (by kernel_rfl) (fun _ _ _ h => h) (gives_value (by rfl) ?_) (by assumption) ?_
      rotate_left
      · intro w hSw
        (try dsimp only at hSw)
        go_simp
        (try with_reducible rfl)
      (try simp only [Act.put, List.getElem_toArray, List.getElem_cons_succ, List.getElem_cons_zero, List.setIfInBounds_toArray, List.set_cons_zero, List.set_cons_succ])
      refine wpAnyZ_takeS (i := 2) (v := ?_) rfl (by kernel_rfl) (by kernel_rfl) (by kernel_rfl) (by kernel_rfl) (fun _ _ _ h => h) (gives_value (by rfl) ?_) (by assumption) ?_
      rotate_left
      · intro w hSw
        (try dsimp only at hSw)
        go_simp
        (try with_reducible rfl)
      (try simp only [Act.put, List.getElem_toArray, List.getElem_cons_succ, List.getElem_cons_zero, List.setIfInBounds_toArray, List.set_cons_zero, List.set_cons_succ])
      refine wpAnyZ_takeS (i := 4) (v := ?_) rfl (by kernel_rfl) (by kernel_rfl) (by kernel_rfl) (by kernel_rfl) (fun _ _ _ h => h) (gives_value (by rfl) ?_) (by assumption) ?_
      rotate_left
      · intro w hSw
        (try dsimp only at hSw)
        go_simp
        (try with_reducible rfl)
      (try simp only [Act.put, List.getElem_toArray, List.getElem_cons_succ, List.getElem_cons_zero, List.setIfInBounds_toArray, List.set_cons_zero, List.set_cons_succ])
      refine wpAnyZ_takeS (i := 5) (v := ?_) rfl (by kernel_rfl) (by kernel_rfl) (by kernel_rfl) (by kernel_rfl) (fun _ _ _ h => h) (gives_value (by rfl) ?_) (by assumption) ?_
      rotate_left
      · intro w hSw
        (try dsimp only at hSw)
        go_simp
        (try with_reducible rfl)
      (try simp only [Act.put, List.getElem_toArray, List.getElem_cons_succ, List.getElem_cons_zero, List.setIfInBounds_toArray, List.set_cons_zero, List.set_cons_succ])
      refine wpAnyZ_takeS (i := 6) (v := ?_) rfl (by kernel_rfl) (by kernel_rfl) (by kernel_rfl) (by kernel_rfl) (fun _ _ _ h => h) (gives_value (by rfl) ?_) (by assumption) ?_
      rotate_left
      · intro w hSw
        (try dsimp only at hSw)
        go_simp
        (try with_reducible rfl)
      (try simp only [Act.put, List.getElem_toArray, List.getElem_cons_succ, List.getElem_cons_zero, List.setIfInBounds_toArray, List.set_cons_zero, List.set_cons_succ])
      refine wpAnyZ_one (i := 3) (by kernel_rfl) ?_
      refine zstep rfl (fun K hK => ?_)
      go_simp
      (with_reducible refine (K1.out _ (Below.refl w2.heap.size w2).drew).mono ?_)
      rintro e w3 ⟨rfl, hb⟩
      have HBw3 := Lib.hid (((Below.refl w2.heap.size w2).drew).trans hb)
      clear hb
      refine hK.out _ _ (fun _ => SS.out _ HBw3.out) (fun hH => ?_)
      replace hH := hH (by decide)
      clear hK K
      (try simp only [Act.put, List.getElem_toArray, List.getElem_cons_succ, List.getElem_cons_zero, List.setIfInBounds_toArray, List.set_cons_zero, List.set_cons_succ])
      refine wpAnyZ_one (i := 7) (by kernel_rfl) ?_
      refine zstep rfl (fun K hK => ?_)
      go_simp
      (with_reducible refine (K2.out _ HBw3.out).mono ?_)
      rintro e w4 ⟨rfl, hb⟩
      have HBw4 := Lib.hid (HBw3.out.trans (hb.mono HBw3.out.size))
      clear hb
      refine hK.out _ _ (fun _ => SS.out _ HBw4.out) (fun hH => ?_)
      replace hH := hH (by decide)
      clear hK K
      (try simp only [Act.put, List.getElem_toArray, List.getElem_cons_succ, List.getElem_cons_zero, List.setIfInBounds_toArray, List.set_cons_zero, List.set_cons_succ])
      refine wpAnyZ_takeS (i := 8) (v := ?_) rfl (by kernel_rfl) (by kernel_rfl) (by kernel_rfl) (by kernel_rfl) (fun _ _ _ h => h) (gives_value (by rfl) ?_) (by assumption) ?_
      rotate_left
      · intro w hSw
        (try dsimp only at hSw)
        go_simp
        (try with_reducible rfl)
      (try simp only [Act.put, List.getElem_toArray, List.getElem_cons_succ, List.getElem_cons_zero, List.setIfInBounds_toArray, List.set_cons_zero, List.set_cons_succ])
      refine wpAnyZ_takeS (i := 9) (v := ?_) rfl (by kernel_rfl) (by kernel_rfl) (by kernel_rfl) (by kernel_rfl) (fun _ _ _ h => h) (gives_value (by rfl) ?_) (by assumption) ?_
      rotate_left
      · intro w hSw
        (try dsimp only at hSw)
        go_simp
        (try with_reducible rfl)
      (try simp only [Act.put, List.getElem_toArray, List.getElem_cons_succ, List.getElem_cons_zero, List.setIfInBounds_toArray, List.set_cons_zero, List.set_cons_succ])
      refine wpAnyZ_done (by kernel_rfl) ?_ _
      clear hH
      have SS4 : Hid (∀ W, Below w4.heap.size w4 W → W.cell? ⟨I, 0, none⟩ = some (.slice A1 i.cars.length c1) ∧ W.cell? ⟨I, 1, none⟩ = some (.slice A2 i.stops.length c2) ∧ W.cell? ⟨I, 2, none⟩ = some (.slice A3 i.pairs.length c3) ∧ W.cell? ⟨I, 3, none⟩ = some (.slice A4 i.travel.length c4)) := fun W hB => SS.out W (HBw4.out.trans (hB.mono HBw4.out.size))
      have K3' : Hid (∀ W, Below w4.heap.size w4 W → _) := fun W hB => K3.out W (HBw4.out.trans (hB.mono HBw4.out.size))
      have K4' : Hid (∀ W, Below w4.heap.size w4 W → _) := fun W hB => K4.out W (HBw4.out.trans (hB.mono HBw4.out.size))
      have TW4 := Lib.hid (TW.out.on HBw4.out)
      clear SS K1 K2 K3 K4 TW HBw3 HBw4
      have SS := SS4
      have K3 := K3'
      have K4 := K4'
      clear SS4 K3' K4'
      go_upto_region 6 with (fail)
      refine wp_region_z (S := (fun W => W.cell? ⟨I, 0, none⟩ = some (.slice A1 i.cars.length c1) ∧ W.cell? ⟨I, 1, none⟩ = some (.slice A2 i.stops.length c2) ∧ W.cell? ⟨I, 2, none⟩ = some (.slice A3 i.pairs.length c3) ∧ W.cell? ⟨I, 3, none⟩ = some (.slice A4 i.travel.length c4))) (z := 10) (by kernel_rfl) (SS.out _ (Below.refl w4.heap.size w4).drew) (fun hH => ?_)
      refine wpAnyZ_takeS (i := 0) (v := ?_) rfl (by kernel_rfl) (by kernel_rfl) (by kernel_rfl) (by kernel_rfl) (fun _ _ _ h => h) (gives_value (by rfl) ?_) (by assumption) ?_
      rotate_left
      · intro w hSw
        (try dsimp only at hSw)
        go_simp
        (try with_reducible rfl)
      (try simp only [Act.put, List.getElem_toArray, List.getElem_cons_succ, List.getElem_cons_zero, List.setIfInBounds_toArray, List.set_cons_zero, List.set_cons_succ])
      refine wpAnyZ_takeS (i := 1) (v := ?_) rfl (by kernel_rfl) (by kernel_rfl) (by kernel_rfl) (by kernel_rfl) (fun _ _ _ h => h) (gives_value (by rfl) ?_) (by assumption) ?_
      rotate_left
      · intro w hSw
        (try dsimp only at hSw)
        go_simp
        (try with_reducible rfl)
      (try simp only [Act.put, List.getElem_toArray, List.getElem_cons_succ, List.getElem_cons_zero, List.setIfInBounds_toArray, List.set_cons_zero, List.set_cons_succ])
      refine wpAnyZ_takeS (i := 2) (v := ?_) rfl (by kernel_rfl) (by kernel_rfl) (by kernel_rfl) (by kernel_rfl) (fun _ _ _ h => h) (gives_value (by rfl) ?_) (by assumption) ?_
      rotate_left
      · intro w hSw
        (try dsimp only at hSw)
        go_simp
        (try with_reducible rfl)
      (try simp only [Act.put, List.getElem_toArray, List.getElem_cons_succ, List.getElem_cons_zero, List.setIfInBounds_toArray, List.set_cons_zero, List.set_cons_succ])
      refine wpAnyZ_takeS (i := 4) (v := ?_) rfl (by kernel_rfl) (by kernel_rfl) (by kernel_rfl) (by kernel_rfl) (fun _ _ _ h => h) (gives_value (by rfl) ?_) (by assumption) ?_
      rotate_left
      · intro w hSw
        (try dsimp only at hSw)
        go_simp
        (try with_reducible rfl)
      (try simp only [Act.put, List.getElem_toArray, List.getElem_cons_succ, List.getElem_cons_zero, List.setIfInBounds_toArray, List.set_cons_zero, List.set_cons_succ])
      refine wpAnyZ_takeS (i := 5) (v := ?_) rfl (by kernel_rfl) (by kernel_rfl) (by kernel_rfl) (by kernel_rfl) (fun _ _ _ h => h) (gives_value (by rfl) ?_) (by assumption) ?_
      rotate_left
      · intro w hSw
        (try dsimp only at hSw)
        go_simp
        (try with_reducible rfl)
      (try simp only [Act.put, List.getElem_toArray, List.getElem_cons_succ, List.getElem_cons_zero, List.setIfInBounds_toArray, List.set_cons_zero, List.set_cons_succ])
      refine wpAnyZ_takeS (i := 6) (v := ?_) rfl (by kernel_rfl) (by kernel_rfl) (by kernel_rfl) (by kernel_rfl) (fun _ _ _ h => h) (gives_value (by rfl) ?_) (by assumption) ?_
      rotate_left
      · intro w hSw
        (try dsimp only at hSw)
        go_simp
        (try with_reducible rfl)
      (try simp only [Act.put, List.getElem_toArray, List.getElem_cons_succ, List.getElem_cons_zero, List.setIfInBounds_toArray, List.set_cons_zero, List.set_cons_succ])
      refine wpAnyZ_one (i := 3) (by kernel_rfl) ?_
      refine zstep rfl (fun K hK => ?_)
      go_simp
      (with_reducible refine (K3.out _ (Below.refl w4.heap.size w4).drew).mono ?_)
      rintro e w5 ⟨rfl, hb⟩
      have HBw5 := Lib.hid (((Below.refl w4.heap.size w4).drew).trans hb)
      clear hb
      refine hK.out _ _ (fun _ => SS.out _ HBw5.out) (fun hH => ?_)
      replace hH := hH (by decide)
      clear hK K
      (try simp only [Act.put, List.getElem_toArray, List.getElem_cons_succ, List.getElem_cons_zero, List.setIfInBounds_toArray, List.set_cons_zero, List.set_cons_succ])
      refine wpAnyZ_one (i := 7) (by kernel_rfl) ?_
      refine zstep rfl (fun K hK => ?_)
      go_simp
      (with_reducible refine (K4.out _ HBw5.out).mono ?_)
      rintro e w6 ⟨rfl, hb⟩
      have HBw6 := Lib.hid (HBw5.out.trans (hb.mono HBw5.out.size))
      clear hb
      refine hK.out _ _ (fun _ => SS.out _ HBw6.out) (fun hH => ?_)
      replace hH := hH (by decide)
      clear hK K
      (try simp only [Act.put, List.getElem_toArray, List.getElem_cons_succ, List.getElem_cons_zero, List.setIfInBounds_toArray, List.set_cons_zero, List.set_cons_succ])
      refine wpAnyZ_takeS (i := 8) (v := ?_) rfl (by kernel_rfl) (by kernel_rfl) (by kernel_rfl) (by kernel_rfl) (fun _ _ _ h => h) (gives_value (by rfl) ?_) (by assumption) ?_
      rotate_left
      · intro w hSw
        (try dsimp only at hSw)
        go_simp
        (try with_reducible rfl)
      (try simp only [Act.put, List.getElem_toArray, List.getElem_cons_succ, List.getElem_cons_zero, List.setIfInBounds_toArray, List.set_cons_zero, List.set_cons_succ])
      refine wpAnyZ_takeS (i := 9) (v := ?_) rfl (by kernel_rfl) (by kernel_rfl) (by kernel_rfl) (by kernel_rfl) (fun _ _ _ h => h) (gives_value (by rfl) ?_) (by assumption) ?_
      rotate_left
      · intro w hSw
        (try dsimp only at hSw)
        go_simp
        (try with_reducible rfl)
      (try simp only [Act.put, List.getElem_toArray, List.getElem_cons_succ, List.getElem_cons_zero, List.setIfInBounds_toArray, List.set_cons_zero, List.set_cons_succ])
      refine wpAnyZ_done (by kernel_rfl) ?_ _
      clear hH
      have TW6 := Lib.hid (TW4.out.on HBw6.out)
      clear SS K3 K4 TW4 HBw5 HBw6
      go_wp2
      go_loopw [60] (fun kv wr => kv = .int .i64 0 ∧ Below w6.heap.size w6 wr) (fun _ _ => 0)
      case atStart => exact ⟨rfl, Below.refl _ _⟩
      case round =>
        obtain ⟨rfl, hbr⟩ := hrel
        have TWr := Lib.hid (TW6.out.on hbr)
        clear hbr
        obtain ⟨x0, x1, x2, x3, x4, x5, x6, hxV, hxC⟩ := head_form none
        obtain ⟨y0, y1, y2, y3, y4, y5, y6, y7, hyV, hyC⟩ := tail_form none
        have K1 : Hid (∀ W, Below wr.heap.size wr W → Calls Try.prog 14 #[.agg #[.slice A1 i.cars.length c1, .slice A2 i.stops.length c2, .slice A3 i.pairs.length c3, .slice A4 i.travel.length c4], .int .i64 c] W fun e w' => e = .returned (.agg #[.bool x0, .int .i64 x1, .int .i64 x2, .int .i64 x3, .int .u32 x4, .int .u32 x5, .int .i64 x6]) ∧ Below W.heap.size W w') := fun W hB => by
          have := pbegin_any _ i c W (TWr.out.box.lies.below hB) HOK.out (by omega)
          rw [if_neg (by rw [HC.out]; simp), hxV] at this; exact this
        have K2 : Hid (∀ W, Below wr.heap.size wr W → Calls Try.prog 24 #[.agg #[.slice A1 i.cars.length c1, .slice A2 i.stops.length c2, .slice A3 i.pairs.length c3, .slice A4 i.travel.length c4], .int .i64 c] W fun e w' => e = .returned (.agg #[.bool x0, .int .i64 x1, .int .i64 x2, .int .i64 x3, .int .u32 x4, .int .u32 x5, .int .i64 x6]) ∧ Below W.heap.size W w') := fun W hB => by
          have := refBegin_any _ i c W (TWr.out.box.lies.below hB) HOK.out
          rw [if_neg (by rw [HC.out]; simp), hxV] at this; exact this
        have K3 : Hid (∀ W, Below wr.heap.size wr W → Calls Try.prog 15 #[.agg #[.slice A1 i.cars.length c1, .slice A2 i.stops.length c2, .slice A3 i.pairs.length c3, .slice A4 i.travel.length c4], .int .i64 c] W fun e w' => e = .returned (.agg #[.bool y0, .int .i64 y1, .int .i64 y2, .int .i64 y3, .int .i64 y4, .int .u32 y5, .int .u32 y6, .int .i64 y7]) ∧ Below W.heap.size W w') := fun W hB => by
          have := pend_any _ i c W (TWr.out.box.lies.below hB) HOK.out (by omega)
          rw [if_neg (by rw [HC.out]; simp), hyV] at this; exact this
        have K4 : Hid (∀ W, Below wr.heap.size wr W → Calls Try.prog 25 #[.agg #[.slice A1 i.cars.length c1, .slice A2 i.stops.length c2, .slice A3 i.pairs.length c3, .slice A4 i.travel.length c4], .int .i64 c] W fun e w' => e = .returned (.agg #[.bool y0, .int .i64 y1, .int .i64 y2, .int .i64 y3, .int .i64 y4, .int .u32 y5, .int .u32 y6, .int .i64 y7]) ∧ Below W.heap.size W w') := fun W hB => by
          have := refEnd_any _ i c W (TWr.out.box.lies.below hB) HOK.out
          rw [if_neg (by rw [HC.out]; simp), hyV] at this; exact this
        clear hxV hxC hyV hyC
        have SS : Hid (∀ W, Below wr.heap.size wr W → W.cell? ⟨I, 0, none⟩ = some (.slice A1 i.cars.length c1) ∧ W.cell? ⟨I, 1, none⟩ = some (.slice A2 i.stops.length c2) ∧ W.cell? ⟨I, 2, none⟩ = some (.slice A3 i.pairs.length c3) ∧ W.cell? ⟨I, 3, none⟩ = some (.slice A4 i.travel.length c4)) := fun W hB => ⟨(TWr.out.box.below hB).b0, (TWr.out.box.below hB).b1, (TWr.out.box.below hB).b2, (TWr.out.box.below hB).b3⟩
        go_upto_region 15 with (fail)
        refine wp_region_z (S := (fun W => W.cell? ⟨I, 0, none⟩ = some (.slice A1 i.cars.length c1) ∧ W.cell? ⟨I, 1, none⟩ = some (.slice A2 i.stops.length c2) ∧ W.cell? ⟨I, 2, none⟩ = some (.slice A3 i.pairs.length c3) ∧ W.cell? ⟨I, 3, none⟩ = some (.slice A4 i.travel.length c4))) (z := 16) (by kernel_rfl) (SS.out _ (Below.refl wr.heap.size wr).drew) (fun hH => ?_)
        refine wpAnyZ_takeS (i := 0) (v := ?_) rfl (by kernel_rfl) (by kernel_rfl) (by kernel_rfl) (by kernel_rfl) (fun _ _ _ h => h) (gives_value (by rfl) ?_) (by assumption) ?_
        rotate_left
        · intro w hSw
          (try dsimp only at hSw)
          go_simp
          (try with_reducible rfl)
        (try simp only [Act.put, List.getElem_toArray, List.getElem_cons_succ, List.getElem_cons_zero, List.setIfInBounds_toArray, List.set_cons_zero, List.set_cons_succ])
        refine wpAnyZ_takeS (i := 1) (v := ?_) rfl (by kernel_rfl) (by kernel_rfl) (by kernel_rfl) (by kernel_rfl) (fun _ _ _ h => h) (gives_value (by rfl) ?_) (by assumption) ?_
        rotate_left
        · intro w hSw
          (try dsimp only at hSw)
          go_simp
          (try with_reducible rfl)
        (try simp only [Act.put, List.getElem_toArray, List.getElem_cons_succ, List.getElem_cons_zero, List.setIfInBounds_toArray, List.set_cons_zero, List.set_cons_succ])
        refine wpAnyZ_takeS (i := 3) (v := ?_) rfl (by kernel_rfl) (by kernel_rfl) (by kernel_rfl) (by kernel_rfl) (fun _ _ _ h => h) (gives_value (by rfl) ?_) (by assumption) ?_
        rotate_left
        · intro w hSw
          (try dsimp only at hSw)
          go_simp
          (try with_reducible rfl)
        (try simp only [Act.put, List.getElem_toArray, List.getElem_cons_succ, List.getElem_cons_zero, List.setIfInBounds_toArray, List.set_cons_zero, List.set_cons_succ])
        refine wpAnyZ_takeS (i := 4) (v := ?_) rfl (by kernel_rfl) (by kernel_rfl) (by kernel_rfl) (by kernel_rfl) (fun _ _ _ h => h) (gives_value (by rfl) ?_) (by assumption) ?_
        rotate_left
        · intro w hSw
          (try dsimp only at hSw)
          go_simp
          (try with_reducible rfl)
        (try simp only [Act.put, List.getElem_toArray, List.getElem_cons_succ, List.getElem_cons_zero, List.setIfInBounds_toArray, List.set_cons_zero, List.set_cons_succ])
        refine wpAnyZ_one (i := 2) (by kernel_rfl) ?_
        refine zstep rfl (fun K hK => ?_)
        go_simp
        (with_reducible refine (K1.out _ ((Below.refl wr.heap.size wr).drew)).mono ?_)
        rintro e v1 ⟨rfl, hb⟩
        have HBv1 := Lib.hid (((Below.refl wr.heap.size wr).drew).trans hb)
        clear hb
        refine hK.out _ _ (fun _ => SS.out _ HBv1.out) (fun hH => ?_)
        replace hH := hH (by decide)
        clear hK K
        (try simp only [Act.put, List.getElem_toArray, List.getElem_cons_succ, List.getElem_cons_zero, List.setIfInBounds_toArray, List.set_cons_zero, List.set_cons_succ])
        refine wpAnyZ_one (i := 5) (by kernel_rfl) ?_
        refine zstep rfl (fun K hK => ?_)
        go_simp
        (with_reducible refine (K2.out _ (HBv1.out)).mono ?_)
        rintro e v2 ⟨rfl, hb⟩
        have HBv2 := Lib.hid (HBv1.out.trans (hb.mono HBv1.out.size))
        clear hb
        refine hK.out _ _ (fun _ => SS.out _ HBv2.out) (fun hH => ?_)
        replace hH := hH (by decide)
        clear hK K
        (try simp only [Act.put, List.getElem_toArray, List.getElem_cons_succ, List.getElem_cons_zero, List.setIfInBounds_toArray, List.set_cons_zero, List.set_cons_succ])
        refine wpAnyZ_takeS (i := 6) (v := ?_) rfl (by kernel_rfl) (by kernel_rfl) (by kernel_rfl) (by kernel_rfl) (fun _ _ _ h => h) (gives_value (by rfl) ?_) (by assumption) ?_
        rotate_left
        · intro w hSw
          (try dsimp only at hSw)
          go_simp
          (try with_reducible rfl)
        (try simp only [Act.put, List.getElem_toArray, List.getElem_cons_succ, List.getElem_cons_zero, List.setIfInBounds_toArray, List.set_cons_zero, List.set_cons_succ])
        refine wpAnyZ_takeS (i := 7) (v := ?_) rfl (by kernel_rfl) (by kernel_rfl) (by kernel_rfl) (by kernel_rfl) (fun _ _ _ h => h) (gives_value (by rfl) ?_) (by assumption) ?_
        rotate_left
        · intro w hSw
          (try dsimp only at hSw)
          go_simp
          (try with_reducible rfl)
        (try simp only [Act.put, List.getElem_toArray, List.getElem_cons_succ, List.getElem_cons_zero, List.setIfInBounds_toArray, List.set_cons_zero, List.set_cons_succ])
        refine wpAnyZ_takeS (i := 8) (v := ?_) rfl (by kernel_rfl) (by kernel_rfl) (by kernel_rfl) (by kernel_rfl) (fun _ _ _ h => h) (gives_value (by rfl) ?_) (by assumption) ?_
        rotate_left
        · intro w hSw
          (try dsimp only at hSw)
          go_simp
          (try with_reducible rfl)
        (try simp only [Act.put, List.getElem_toArray, List.getElem_cons_succ, List.getElem_cons_zero, List.setIfInBounds_toArray, List.set_cons_zero, List.set_cons_succ])
        refine wpAnyZ_takeS (i := 9) (v := ?_) rfl (by kernel_rfl) (by kernel_rfl) (by kernel_rfl) (by kernel_rfl) (fun _ _ _ h => h) (gives_value (by rfl) ?_) (by assumption) ?_
        rotate_left
        · intro w hSw
          (try dsimp only at hSw)
          go_simp
          (try with_reducible rfl)
        (try simp only [Act.put, List.getElem_toArray, List.getElem_cons_succ, List.getElem_cons_zero, List.setIfInBounds_toArray, List.set_cons_zero, List.set_cons_succ])
        refine wpAnyZ_takeS (i := 11) (v := ?_) rfl (by kernel_rfl) (by kernel_rfl) (by kernel_rfl) (by kernel_rfl) (fun _ _ _ h => h) (gives_value (by rfl) ?_) (by assumption) ?_
        rotate_left
        · intro w hSw
          (try dsimp only at hSw)
          go_simp
          (try with_reducible rfl)
        (try simp only [Act.put, List.getElem_toArray, List.getElem_cons_succ, List.getElem_cons_zero, List.setIfInBounds_toArray, List.set_cons_zero, List.set_cons_succ])
        refine wpAnyZ_takeS (i := 12) (v := ?_) rfl (by kernel_rfl) (by kernel_rfl) (by kernel_rfl) (by kernel_rfl) (fun _ _ _ h => h) (gives_value (by rfl) ?_) (by assumption) ?_
        rotate_left
        · intro w hSw
          (try dsimp only at hSw)
          go_simp
          (try with_reducible rfl)
        (try simp only [Act.put, List.getElem_toArray, List.getElem_cons_succ, List.getElem_cons_zero, List.setIfInBounds_toArray, List.set_cons_zero, List.set_cons_succ])
        refine wpAnyZ_one (i := 10) (by kernel_rfl) ?_
        refine zstep rfl (fun K hK => ?_)
        go_simp
        (with_reducible refine (K3.out _ (HBv2.out)).mono ?_)
        rintro e v3 ⟨rfl, hb⟩
        have HBv3 := Lib.hid (HBv2.out.trans (hb.mono HBv2.out.size))
        clear hb
        refine hK.out _ _ (fun _ => SS.out _ HBv3.out) (fun hH => ?_)
        replace hH := hH (by decide)
        clear hK K
        (try simp only [Act.put, List.getElem_toArray, List.getElem_cons_succ, List.getElem_cons_zero, List.setIfInBounds_toArray, List.set_cons_zero, List.set_cons_succ])
        refine wpAnyZ_one (i := 13) (by kernel_rfl) ?_
        refine zstep rfl (fun K hK => ?_)
        go_simp
        (with_reducible refine (K4.out _ (HBv3.out)).mono ?_)
        rintro e v4 ⟨rfl, hb⟩
        have HBv4 := Lib.hid (HBv3.out.trans (hb.mono HBv3.out.size))
        clear hb
        refine hK.out _ _ (fun _ => SS.out _ HBv4.out) (fun hH => ?_)
        replace hH := hH (by decide)
        clear hK K
        (try simp only [Act.put, List.getElem_toArray, List.getElem_cons_succ, List.getElem_cons_zero, List.setIfInBounds_toArray, List.set_cons_zero, List.set_cons_succ])
        refine wpAnyZ_takeS (i := 14) (v := ?_) rfl (by kernel_rfl) (by kernel_rfl) (by kernel_rfl) (by kernel_rfl) (fun _ _ _ h => h) (gives_value (by rfl) ?_) (by assumption) ?_
        rotate_left
        · intro w hSw
          (try dsimp only at hSw)
          go_simp
          (try with_reducible rfl)
        (try simp only [Act.put, List.getElem_toArray, List.getElem_cons_succ, List.getElem_cons_zero, List.setIfInBounds_toArray, List.set_cons_zero, List.set_cons_succ])
        refine wpAnyZ_takeS (i := 15) (v := ?_) rfl (by kernel_rfl) (by kernel_rfl) (by kernel_rfl) (by kernel_rfl) (fun _ _ _ h => h) (gives_value (by rfl) ?_) (by assumption) ?_
        rotate_left
        · intro w hSw
          (try dsimp only at hSw)
          go_simp
          (try with_reducible rfl)
        (try simp only [Act.put, List.getElem_toArray, List.getElem_cons_succ, List.getElem_cons_zero, List.setIfInBounds_toArray, List.set_cons_zero, List.set_cons_succ])
        refine wpAnyZ_done (by kernel_rfl) ?_ _
        clear hH
        have TWb := Lib.hid (TWr.out.on HBv4.out)
        clear SS K1 K2 K3 K4 HBv1 HBv2 HBv3 HBv4 TWr
        go_wp2
        go_loopw [102] (fun kv ws => ∃ k : Nat, k ≤ r.length ∧ kv = .int .i64 k ∧ Below v4.heap.size v4 ws) (fun kv _ => r.length - (intOf kv).toNat)
        case atStart => exact ⟨0, Nat.zero_le _, rfl, Below.refl _ _⟩
        case round =>
          obtain ⟨k, hk, rfl, hbs⟩ := hrel
          have TWs := Lib.hid (TWb.out.on hbs)
          have HBs := Lib.hid hbs
          clear hbs
          by_cases hlt : k < r.length
          · obtain ⟨A', cap', he, hcl⟩ := TWs.out.row.num
            obtain ⟨rfl, rfl⟩ : A = A' ∧ cap = cap' := by injection he with a _ b; exact ⟨a, b⟩
            obtain ⟨B, o, rfl, hB, d0⟩ := hcl k hlt
            clear he hcl
            have m0 : (k : Int) < (r.length : Int) := by omega
            have n0 : (0 : Int) ≤ (k : Int) := by omega
            have n2 : (k : Int).toNat = k := by omega
            have n6 : IntKind.i64.wrap ((k : Int) + 1) = (k : Int) + 1 := IntWalk.i64_in _ (by omega)
            have n7 : decide ((k : Int) + 1 < 0) = false := by simp; omega
            generalize r[k] = s at *
            go_upto_region 20 with (fail)
            go_quiet (fail)
            have HBf := Lib.hid (below_draws' HBs.out nq)
            clear d0
            go_wp2
            go_roundw
            case rel => exact ⟨k + 1, by omega, by go_num, HBf.out⟩
            case measure => simp [intOf]; omega
          · obtain rfl : k = r.length := by omega
            have tt : decide ((r.length : Int) < (r.length : Int)) = false := by simp
            go_wp2_with (go_at_call 18; fail)
            (with_reducible refine (wakes5_any _).mono ?_)
            rintro e wz ⟨rfl, hb⟩
            have TZ := Lib.hid (TWs.out.on hb)
            clear hb
            go_wp2
            go_ret
            exact ⟨rfl, TZ.out.below⟩
end Go.Proofs.Ytgkieelacjcopaa
