/- The walk of TripBegins: for any rows of numbers the law returns true; old memory stands. -/
import Derived.Test.YtcllnfhjbfmomaaBeginsMem
import Derived.Test.YtcllnfhjbfmomaaOrdersSkip
import Derived.StillTailTactics
import Derived.Deep.DeepCutAuto
namespace Go.Proofs.Ytcllnfhjbfmomaa
open Go.RowKit
set_option linter.unusedSimpArgs false

set_option maxRecDepth 100000 in
set_option maxHeartbeats 8000000 in
theorem begins_walk (v u : Value) (l row : List Int) (car more : Int) (w : World) (h : Recs w 1 num_ v l) (hl : l.length ≤ 9223372036854775807) (hr : Recs w 1 num_ u row) (hrl : row.length ≤ 9223372036854775807) :
    Calls Try.prog 4 #[v, u, .int .i64 car, .int .i64 more] w fun e w' => e = .returned (.bool true) ∧ Below w.heap.size w w' := by
  have HP : Hid (∀ W, Below w.heap.size w W → Calls Try.prog 15 #[v] W (PlayIs (playI l) W)) := fun W hb => play_is v l W (h.below hb) hl
  have HU := Lib.hid hr
  clear h hr
  generalize playI l = i at *
  clear hl l
  go_enter Try.func4, Try.ntmps4
  go_wp2_with (go_at_call 15; fail)
  (with_reducible refine (HP.out w (Below.refl _ _)).mono ?_)
  rintro e w1 ⟨vc, vs, vp, vt, us, I0, rfl, hh, hok, hs2, hs8, hp2, hb1⟩
  have hlies := hh.lies.no_pairs
  obtain ⟨A1, c1, rfl, _⟩ := own_get hh.cars
  obtain ⟨A2, c2, rfl, _⟩ := own_get hh.stops
  obtain ⟨A3, c3, rfl, _⟩ := own_get hh.pairs
  obtain ⟨A4, c4, rfl, _⟩ := own_get hh.travel
  have HOK := Lib.hid hok
  have HOI : Hid (probOk { i with pairs := [] } = true) := no_pairs_ok hok hs8
  have HF := Lib.hid (fine_of hok)
  have hcar := (fine_of hok).cars
  have BX1 := Lib.hid (blk_new w1 #[.slice A1 i.cars.length c1, .slice A2 i.stops.length c2, .slice none 0 0, .slice A4 i.travel.length c4] 34)
  have HL1 := Lib.hid (Lies.below hlies ((Below.refl _ _).alloc (Nat.le_refl _) (.cells #[.slice A1 i.cars.length c1, .slice A2 i.stops.length c2, .slice none 0 0, .slice A4 i.travel.length c4] 34)))
  have HB1 := Lib.hid (hb1.alloc hb1.size (.cells #[.slice A1 i.cars.length c1, .slice A2 i.stops.length c2, .slice none 0 0, .slice A4 i.travel.length c4] 34))
  clear hok hb1 hh hlies hp2
  go_upto_region 3 with (fail)
  generalize w1.alloc (.cells #[.slice A1 i.cars.length c1, .slice A2 i.stops.length c2, .slice none 0 0, .slice A4 i.travel.length c4] 34) = wa at *
  generalize w1.heap.size = I at *
  have k0 := BX1.out.cell (j := 0) rfl
  have k1 := BX1.out.cell (j := 1) rfl
  have k2 := BX1.out.cell (j := 2) rfl
  have k3 := BX1.out.cell (j := 3) rfl
  have hIz := BX1.out.1
  obtain ⟨cn, hcn, hcnl⟩ := within_nat car i.cars.length (by omega)
  have K0 := Lib.hid (fun W => within_q car i.cars.length W (by omega) (by omega) _ hcn)
  clear hcn
  go_wp2_with (go_at_call 12; fail)
  (with_reducible refine (K0.out _).mono ?_)
  rintro e w2 ⟨rfl, rfl⟩
  go_wp2_with (go_at_call 16; fail)
  (with_reducible refine (row_any _ _ { i with pairs := [] } row _ HL1.out HOI.out (by simp) hs2 (HU.out.below HB1.out) hrl).mono ?_)
  rintro e w3 ⟨r, A, cap, rfl, hr14, hrc, hrx, hrr, hrf, hb2⟩
  have BX3 := Lib.hid (BX1.out.below hb2)
  have HL3 := Lib.hid (Lies.below HL1.out hb2)
  have HB3 := Lib.hid (HB1.out.trans (hb2.mono HB1.out.size))
  have HR3 := Lib.hid hrr
  clear hb2 hrr hrf hrx k0 k1 k2 k3 hIz BX1 HL1 HB1 HU K0
  have k0 := BX3.out.cell (j := 0) rfl
  have k1 := BX3.out.cell (j := 1) rfl
  have k2 := BX3.out.cell (j := 2) rfl
  have k3 := BX3.out.cell (j := 3) rfl
  have hIz := BX3.out.1
  go_wp2_with (go_at_call 9; fail)
  (with_reducible refine (eval_any _ _ { i with pairs := [] } cn r _ HL3.out HOI.out (by simp) HR3.out (by omega)).mono ?_)
  rintro e w4 hti
  obtain ⟨hb4, D1, n1, d1, D2, n2, d2, cc, hh, ok, rfl, htv⟩ := hti.parts
  have HB4 := Lib.hid ((HB3.out.trans (hb4.mono HB3.out.size)).alloc (HB3.out.trans (hb4.mono HB3.out.size)).size (.cells #[.slice D1 n1 d1, .slice D2 n2 d2, .int .i64 cc, .int .i64 hh] 26))
  have HR4 := Lib.hid ((HR3.out.below hb4).below ((Below.refl _ _).alloc (Nat.le_refl _) (.cells #[.slice D1 n1 d1, .slice D2 n2 d2, .int .i64 cc, .int .i64 hh] 26)))
  clear hb4 hti k0 k1 k2 k3 hIz BX3 HL3 HB3 HR3
  cases ok
  · clear htv
    go_wp2_with (go_at_call 14; fail)
    (with_reducible refine (wakes_any _).mono ?_)
    rintro e w5 ⟨rfl, hb5⟩
    have HB5 := Lib.hid (HB4.out.trans (hb5.mono HB4.out.size))
    clear hb5
    go_wp2
    go_ret
    exact ⟨rfl, HB5.out⟩
  · obtain ⟨t, ht, rfl, rfl, hta⟩ := tr_new htv 26
    obtain ⟨hla, hll⟩ := eval_len ht
    have hn1 := hta.e1
    have hn2 := hta.e2
    subst hn1 hn2
    have TA := Lib.hid hta
    have HT := Lib.hid ht
    have HLA := Lib.hid hla
    have HLL := Lib.hid hll
    clear hta ht htv hla hll
    go_upto_region 8 with (fail)
    generalize w4.alloc (.cells #[.slice D1 t.arr.length d1, .slice D2 t.load.length d2, .int .i64 t.cost, .int .i64 t.home] 26) = wb at *
    generalize w4.heap.size = T at *
    go_wp2_with (go_at_call 15; fail)
    (with_reducible refine (HP.out _ HB4.out).mono ?_)
    rintro e w6 ⟨vc, vs, vp, vt, us, I1, rfl, hh, _, _, _, _, hb6⟩
    have hh' := hh
    obtain ⟨B1, e1, rfl, hg1⟩ := own_get hh.cars
    obtain ⟨B2, e2, rfl, hg2⟩ := own_get hh.stops
    obtain ⟨B3, e3, rfl, _⟩ := own_get hh.pairs
    obtain ⟨At, e4, rfl, _⟩ := own_get hh.travel
    obtain ⟨gc, rfl, hgc, _⟩ := hg1 (by omega)
    obtain ⟨gs, rfl, hgs, _⟩ := hg2 (by omega)
    have JS0 : Hid (JS wb I1 w6.heap.size gc e1 gs e2 (.slice B3 i.pairs.length e3) At e4 us i (w6.alloc (.cells #[.slice (some ⟨gc, 0, none⟩) i.cars.length e1, .slice (some ⟨gs, 0, none⟩) i.stops.length e2, .slice none 0 0, .slice At i.travel.length e4] 34)) i.cars i.stops) :=
      ⟨hh.below ((Below.refl _ _).alloc (Nat.le_refl _) _), blk_new w6 _ _, by omega, by omega, hb6.alloc hb6.size _, wider_refl HF.out, later_refl HF.out⟩
    clear hh hh' hg1 hg2 hgc hgs hb6 HP
    go_upto_region 10 with (fail)
    generalize w6.alloc (.cells #[.slice (some ⟨gc, 0, none⟩) i.cars.length e1, .slice (some ⟨gs, 0, none⟩) i.stops.length e2, .slice none 0 0, .slice At i.travel.length e4] 34) = wj at *
    generalize w6.heap.size = J at *
    obtain ⟨q9, hq9, hq9l⟩ := within_nat more 9 (by omega)
    have K9 := Lib.hid (fun W => within_call more 9 W (by omega) (by omega) _ hq9)
    obtain ⟨q99, hq99, hq99l⟩ := within_nat more 99 (by omega)
    have K99 := Lib.hid (fun W => within_call more 99 W (by omega) (by omega) _ hq99)
    obtain ⟨q50, hq50, hq50l⟩ := within_nat more 50 (by omega)
    have K50 := Lib.hid (fun W => within_call more 50 W (by omega) (by omega) _ hq50)
    clear hq9 hq99 hq50
    have n0 : (0 : Int) ≤ (cn : Int) := by omega
    have n1 : (cn : Int) < (i.cars.length : Int) := by omega
    have n2 : (cn : Int).toNat = cn := by omega
    go_cut [] from 44 to 58 (fun wx => ∃ cs, JS wb I1 J gc e1 gs e2 (.slice B3 i.pairs.length e3) At e4 us i wx cs i.stops)
    case first => as_aux_lemma =>
      have hb9 := HF.out.carF _ (List.getElem_mem hcnl)
      have sj := JS0.out.box.cell (j := 0) rfl
      have sx := (JS0.out.car hcnl).1
      have fx := JS0.out.thawC (cn * 3)
      have hgz := JS0.out.gcz.2
      have hJz := JS0.out.box.1
      have hM := min_grow (x := i.cars[cn].c) (a := (q9 : Int)) (m := 60) (by omega) (by omega)
      have JS1 := Lib.hid ((JS0.out.cap hcnl hM.1 hM.2).on ((Below.refl _ _).drew))
      generalize i.cars[cn].c = x at *
      have hw : IntKind.i64.wrap (x + (q9 : Int)) = x + (q9 : Int) := IntWalk.i64_in _ (by omega)
      refine wp_region_z (S := (fun w' => w'.cell? ⟨J, 0, none⟩ = some (.slice (some ⟨gc, 0, none⟩) i.cars.length e1) ∧ w'.cell? ⟨gc, cn * 3, none⟩ = some (.int .i64 x))) (z := 15) (by kernel_rfl) ⟨sj, sx⟩ (fun hH => ?_)
      refine wpAnyZ_take (i := 0) (v := ?_) rfl (by kernel_rfl) (by kernel_rfl) (by kernel_rfl) rfl (by kernel_rfl) (fun _ _ _ h => h) (gives_value (by rfl) ?_) (by assumption) ?_
      rotate_left
      · intro w hSw
        (try dsimp only at hSw)
        go_simp
        (try with_reducible rfl)
      (try simp only [Act.put, List.getElem_toArray, List.getElem_cons_succ, List.getElem_cons_zero, List.setIfInBounds_toArray, List.set_cons_zero, List.set_cons_succ])
      refine wpAnyZ_take (i := 1) (v := ?_) rfl (by kernel_rfl) (by kernel_rfl) (by kernel_rfl) rfl (by kernel_rfl) (fun _ _ _ h => h) (gives_value (by rfl) ?_) (by assumption) ?_
      rotate_left
      · intro w hSw
        (try dsimp only at hSw)
        go_simp
        (try with_reducible rfl)
      (try simp only [Act.put, List.getElem_toArray, List.getElem_cons_succ, List.getElem_cons_zero, List.setIfInBounds_toArray, List.set_cons_zero, List.set_cons_succ])
      refine wpAnyZ_take (i := 2) (v := ?_) rfl (by kernel_rfl) (by kernel_rfl) (by kernel_rfl) rfl (by kernel_rfl) (fun _ _ _ h => h) (gives_value (by rfl) ?_) (by assumption) ?_
      rotate_left
      · intro w hSw
        (try dsimp only at hSw)
        go_simp
        (try with_reducible rfl)
      (try simp only [Act.put, List.getElem_toArray, List.getElem_cons_succ, List.getElem_cons_zero, List.setIfInBounds_toArray, List.set_cons_zero, List.set_cons_succ])
      refine wpAnyZ_take (i := 3) (v := ?_) rfl (by kernel_rfl) (by kernel_rfl) (by kernel_rfl) rfl (by kernel_rfl) (fun _ _ _ h => h) (gives_value (by rfl) ?_) (by assumption) ?_
      rotate_left
      · intro w hSw
        (try dsimp only at hSw)
        go_simp
        (try with_reducible rfl)
      (try simp only [Act.put, List.getElem_toArray, List.getElem_cons_succ, List.getElem_cons_zero, List.setIfInBounds_toArray, List.set_cons_zero, List.set_cons_succ])
      refine wpAnyZ_take (i := 4) (v := ?_) rfl (by kernel_rfl) (by kernel_rfl) (by kernel_rfl) rfl (by kernel_rfl) (fun _ _ _ h => h) (gives_value (by rfl) ?_) (by assumption) ?_
      rotate_left
      · intro w hSw
        (try dsimp only at hSw)
        go_simp
        (try with_reducible rfl)
      (try simp only [Act.put, List.getElem_toArray, List.getElem_cons_succ, List.getElem_cons_zero, List.setIfInBounds_toArray, List.set_cons_zero, List.set_cons_succ])
      refine wpAnyZ_take (i := 5) (v := ?_) rfl (by kernel_rfl) (by kernel_rfl) (by kernel_rfl) rfl (by kernel_rfl) (fun _ _ _ h => h) (gives_value (by rfl) ?_) (by assumption) ?_
      rotate_left
      · intro w hSw
        (try dsimp only at hSw)
        go_simp
        (try with_reducible rfl)
      (try simp only [Act.put, List.getElem_toArray, List.getElem_cons_succ, List.getElem_cons_zero, List.setIfInBounds_toArray, List.set_cons_zero, List.set_cons_succ])
      refine wpAnyZ_take (i := 6) (v := ?_) rfl (by kernel_rfl) (by kernel_rfl) (by kernel_rfl) rfl (by kernel_rfl) (fun _ _ _ h => h) (gives_value (by rfl) ?_) (by assumption) ?_
      rotate_left
      · intro w hSw
        (try dsimp only at hSw)
        go_simp
        (try with_reducible rfl)
      (try simp only [Act.put, List.getElem_toArray, List.getElem_cons_succ, List.getElem_cons_zero, List.setIfInBounds_toArray, List.set_cons_zero, List.set_cons_succ])
      refine wpAnyZ_take (i := 7) (v := ?_) rfl (by kernel_rfl) (by kernel_rfl) (by kernel_rfl) rfl (by kernel_rfl) (fun _ _ _ h => h) (gives_value (by rfl) ?_) (by assumption) ?_
      rotate_left
      · intro w hSw
        (try dsimp only at hSw)
        go_simp
        (try with_reducible rfl)
      (try simp only [Act.put, List.getElem_toArray, List.getElem_cons_succ, List.getElem_cons_zero, List.setIfInBounds_toArray, List.set_cons_zero, List.set_cons_succ])
      refine wpAnyZ_take (i := 8) (v := ?_) rfl (by kernel_rfl) (by kernel_rfl) (by kernel_rfl) rfl (by kernel_rfl) (fun _ _ _ h => h) (gives_value (by rfl) ?_) (by assumption) ?_
      rotate_left
      · intro w hSw
        (try dsimp only at hSw)
        go_simp
        (try with_reducible rfl)
      (try simp only [Act.put, List.getElem_toArray, List.getElem_cons_succ, List.getElem_cons_zero, List.setIfInBounds_toArray, List.set_cons_zero, List.set_cons_succ])
      refine wpAnyZ_take (i := 9) (v := ?_) rfl (by kernel_rfl) (by kernel_rfl) (by kernel_rfl) rfl (by kernel_rfl) (fun _ _ _ h => h) (gives_value (by rfl) ?_) (by assumption) ?_
      rotate_left
      · intro w hSw
        (try dsimp only at hSw)
        go_simp
        (try with_reducible rfl)
      (try simp only [Act.put, List.getElem_toArray, List.getElem_cons_succ, List.getElem_cons_zero, List.setIfInBounds_toArray, List.set_cons_zero, List.set_cons_succ])
      refine wpAnyZ_take (i := 10) (v := .int .i64 (q9 : Nat)) rfl (by kernel_rfl) (by kernel_rfl) (by kernel_rfl) rfl (by kernel_rfl) (fun _ _ _ h => h) (gives_call (by rfl) ?_ (fun w _ => K9.out w)) (by assumption) ?_
      · intro w
        go_simp
        (try with_reducible rfl)
      (try simp only [Act.put, List.getElem_toArray, List.getElem_cons_succ, List.getElem_cons_zero, List.setIfInBounds_toArray, List.set_cons_zero, List.set_cons_succ])
      refine wpAnyZ_take (i := 11) (v := ?_) rfl (by kernel_rfl) (by kernel_rfl) (by kernel_rfl) rfl (by kernel_rfl) (fun _ _ _ h => h) (gives_value (by rfl) ?_) (by assumption) ?_
      rotate_left
      · intro w hSw
        (try dsimp only at hSw)
        go_simp
        (try with_reducible rfl)
      (try simp only [Act.put, List.getElem_toArray, List.getElem_cons_succ, List.getElem_cons_zero, List.setIfInBounds_toArray, List.set_cons_zero, List.set_cons_succ])
      refine wpAnyZ_one (i := 12) (by kernel_rfl) ?_
      refine zstep rfl (fun K hK => ?_)
      go_simp
      refine hK.out _ _ (fun _ => ⟨sj, sx⟩) (fun hH => ?_)
      replace hH := hH (by decide)
      clear hK K
      (try simp only [Act.put, List.getElem_toArray, List.getElem_cons_succ, List.getElem_cons_zero, List.setIfInBounds_toArray, List.set_cons_zero, List.set_cons_succ])
      refine wpAnyZ_one (i := 13) (by kernel_rfl) ?_
      refine zstep rfl (fun K hK => ?_)
      go_simp
      refine hK.out _ _ (fun _ => ⟨sj, sx⟩) (fun hH => ?_)
      replace hH := hH (by decide)
      clear hK K
      (try simp only [Act.put, List.getElem_toArray, List.getElem_cons_succ, List.getElem_cons_zero, List.setIfInBounds_toArray, List.set_cons_zero, List.set_cons_succ])
      refine wpAnyZ_one (i := 14) (by kernel_rfl) ?_
      refine zstep rfl (fun K hK => ?_)
      go_simp
      refine hK.out _ _ (fun _ => ⟨sj, sx⟩) (fun hH => ?_)
      replace hH := hH (by decide)
      clear hK K
      (try simp only [Act.put, List.getElem_toArray, List.getElem_cons_succ, List.getElem_cons_zero, List.setIfInBounds_toArray, List.set_cons_zero, List.set_cons_succ])
      refine wpAnyZ_one (i := 15) (by kernel_rfl) ?_
      refine zstep rfl (fun K hK => ?_)
      go_simp
      refine hK.out _ _ (fun h => absurd rfl h) (fun hH => ?_)
      clear hK K hH
      (try simp only [Act.put, List.getElem_toArray, List.getElem_cons_succ, List.getElem_cons_zero, List.setIfInBounds_toArray, List.set_cons_zero, List.set_cons_succ])
      refine wpAnyZ_done (by kernel_rfl) ?_ _
      generalize (if (60 : Int) < x + (q9 : Int) then (60 : Int) else x + (q9 : Int)) = u at *
      go_wp2_with fail
      go_meet
      exact ⟨_, JS1.out⟩
    case rest =>
    obtain ⟨cs1, hjs1⟩ := hcut
    have JS1 := Lib.hid hjs1
    clear hjs1 JS0 K9
    go_upto_region 11 with (fail)
    go_cut [] from 59 to 73 (fun wx => ∃ cs, JS wb I1 J gc e1 gs e2 (.slice B3 i.pairs.length e3) At e4 us i wx cs i.stops)
    case first => as_aux_lemma =>
      have hcn1 : cn < cs1.length := by rw [JS1.out.wider.1]; exact hcnl
      have hb9 := HF.out.carF _ (List.getElem_mem hcnl)
      have hb8 := JS1.out.wider.2 cn hcnl hcn1
      have sj := JS1.out.box.cell (j := 0) rfl
      have sx := (JS1.out.car hcn1).2
      have fx := JS1.out.thawC (cn * 3 + 2)
      have hgz := JS1.out.gcz.2
      have hJz := JS1.out.box.1
      have hM := min_grow (x := cs1[cn].e) (a := (q99 : Int)) (m := 1000) (by omega) (by omega)
      have JS2 := Lib.hid ((JS1.out.end_ hcn1 hM.1 hM.2).on ((Below.refl _ _).drew))
      have hx0 : 0 ≤ cs1[cn].e ∧ cs1[cn].e ≤ 1000 := by omega
      clear hb8 hb9
      generalize cs1[cn].e = x at *
      have hw : IntKind.i64.wrap (x + (q99 : Int)) = x + (q99 : Int) := IntWalk.i64_in _ (by omega)
      refine wp_region_z (S := (fun w' => w'.cell? ⟨J, 0, none⟩ = some (.slice (some ⟨gc, 0, none⟩) i.cars.length e1) ∧ w'.cell? ⟨gc, cn * 3 + 2, none⟩ = some (.int .i64 x))) (z := 15) (by kernel_rfl) ⟨sj, sx⟩ (fun hH => ?_)
      refine wpAnyZ_take (i := 0) (v := ?_) rfl (by kernel_rfl) (by kernel_rfl) (by kernel_rfl) rfl (by kernel_rfl) (fun _ _ _ h => h) (gives_value (by rfl) ?_) (by assumption) ?_
      rotate_left
      · intro w hSw
        (try dsimp only at hSw)
        go_simp
        (try with_reducible rfl)
      (try simp only [Act.put, List.getElem_toArray, List.getElem_cons_succ, List.getElem_cons_zero, List.setIfInBounds_toArray, List.set_cons_zero, List.set_cons_succ])
      refine wpAnyZ_take (i := 1) (v := ?_) rfl (by kernel_rfl) (by kernel_rfl) (by kernel_rfl) rfl (by kernel_rfl) (fun _ _ _ h => h) (gives_value (by rfl) ?_) (by assumption) ?_
      rotate_left
      · intro w hSw
        (try dsimp only at hSw)
        go_simp
        (try with_reducible rfl)
      (try simp only [Act.put, List.getElem_toArray, List.getElem_cons_succ, List.getElem_cons_zero, List.setIfInBounds_toArray, List.set_cons_zero, List.set_cons_succ])
      refine wpAnyZ_take (i := 2) (v := ?_) rfl (by kernel_rfl) (by kernel_rfl) (by kernel_rfl) rfl (by kernel_rfl) (fun _ _ _ h => h) (gives_value (by rfl) ?_) (by assumption) ?_
      rotate_left
      · intro w hSw
        (try dsimp only at hSw)
        go_simp
        (try with_reducible rfl)
      (try simp only [Act.put, List.getElem_toArray, List.getElem_cons_succ, List.getElem_cons_zero, List.setIfInBounds_toArray, List.set_cons_zero, List.set_cons_succ])
      refine wpAnyZ_take (i := 3) (v := ?_) rfl (by kernel_rfl) (by kernel_rfl) (by kernel_rfl) rfl (by kernel_rfl) (fun _ _ _ h => h) (gives_value (by rfl) ?_) (by assumption) ?_
      rotate_left
      · intro w hSw
        (try dsimp only at hSw)
        go_simp
        (try with_reducible rfl)
      (try simp only [Act.put, List.getElem_toArray, List.getElem_cons_succ, List.getElem_cons_zero, List.setIfInBounds_toArray, List.set_cons_zero, List.set_cons_succ])
      refine wpAnyZ_take (i := 4) (v := ?_) rfl (by kernel_rfl) (by kernel_rfl) (by kernel_rfl) rfl (by kernel_rfl) (fun _ _ _ h => h) (gives_value (by rfl) ?_) (by assumption) ?_
      rotate_left
      · intro w hSw
        (try dsimp only at hSw)
        go_simp
        (try with_reducible rfl)
      (try simp only [Act.put, List.getElem_toArray, List.getElem_cons_succ, List.getElem_cons_zero, List.setIfInBounds_toArray, List.set_cons_zero, List.set_cons_succ])
      refine wpAnyZ_take (i := 5) (v := ?_) rfl (by kernel_rfl) (by kernel_rfl) (by kernel_rfl) rfl (by kernel_rfl) (fun _ _ _ h => h) (gives_value (by rfl) ?_) (by assumption) ?_
      rotate_left
      · intro w hSw
        (try dsimp only at hSw)
        go_simp
        (try with_reducible rfl)
      (try simp only [Act.put, List.getElem_toArray, List.getElem_cons_succ, List.getElem_cons_zero, List.setIfInBounds_toArray, List.set_cons_zero, List.set_cons_succ])
      refine wpAnyZ_take (i := 6) (v := ?_) rfl (by kernel_rfl) (by kernel_rfl) (by kernel_rfl) rfl (by kernel_rfl) (fun _ _ _ h => h) (gives_value (by rfl) ?_) (by assumption) ?_
      rotate_left
      · intro w hSw
        (try dsimp only at hSw)
        go_simp
        (try with_reducible rfl)
      (try simp only [Act.put, List.getElem_toArray, List.getElem_cons_succ, List.getElem_cons_zero, List.setIfInBounds_toArray, List.set_cons_zero, List.set_cons_succ])
      refine wpAnyZ_take (i := 7) (v := ?_) rfl (by kernel_rfl) (by kernel_rfl) (by kernel_rfl) rfl (by kernel_rfl) (fun _ _ _ h => h) (gives_value (by rfl) ?_) (by assumption) ?_
      rotate_left
      · intro w hSw
        (try dsimp only at hSw)
        go_simp
        (try with_reducible rfl)
      (try simp only [Act.put, List.getElem_toArray, List.getElem_cons_succ, List.getElem_cons_zero, List.setIfInBounds_toArray, List.set_cons_zero, List.set_cons_succ])
      refine wpAnyZ_take (i := 8) (v := ?_) rfl (by kernel_rfl) (by kernel_rfl) (by kernel_rfl) rfl (by kernel_rfl) (fun _ _ _ h => h) (gives_value (by rfl) ?_) (by assumption) ?_
      rotate_left
      · intro w hSw
        (try dsimp only at hSw)
        go_simp
        (try with_reducible rfl)
      (try simp only [Act.put, List.getElem_toArray, List.getElem_cons_succ, List.getElem_cons_zero, List.setIfInBounds_toArray, List.set_cons_zero, List.set_cons_succ])
      refine wpAnyZ_take (i := 9) (v := ?_) rfl (by kernel_rfl) (by kernel_rfl) (by kernel_rfl) rfl (by kernel_rfl) (fun _ _ _ h => h) (gives_value (by rfl) ?_) (by assumption) ?_
      rotate_left
      · intro w hSw
        (try dsimp only at hSw)
        go_simp
        (try with_reducible rfl)
      (try simp only [Act.put, List.getElem_toArray, List.getElem_cons_succ, List.getElem_cons_zero, List.setIfInBounds_toArray, List.set_cons_zero, List.set_cons_succ])
      refine wpAnyZ_take (i := 10) (v := .int .i64 (q99 : Nat)) rfl (by kernel_rfl) (by kernel_rfl) (by kernel_rfl) rfl (by kernel_rfl) (fun _ _ _ h => h) (gives_call (by rfl) ?_ (fun w _ => K99.out w)) (by assumption) ?_
      · intro w
        go_simp
        (try with_reducible rfl)
      (try simp only [Act.put, List.getElem_toArray, List.getElem_cons_succ, List.getElem_cons_zero, List.setIfInBounds_toArray, List.set_cons_zero, List.set_cons_succ])
      refine wpAnyZ_take (i := 11) (v := ?_) rfl (by kernel_rfl) (by kernel_rfl) (by kernel_rfl) rfl (by kernel_rfl) (fun _ _ _ h => h) (gives_value (by rfl) ?_) (by assumption) ?_
      rotate_left
      · intro w hSw
        (try dsimp only at hSw)
        go_simp
        (try with_reducible rfl)
      (try simp only [Act.put, List.getElem_toArray, List.getElem_cons_succ, List.getElem_cons_zero, List.setIfInBounds_toArray, List.set_cons_zero, List.set_cons_succ])
      refine wpAnyZ_one (i := 12) (by kernel_rfl) ?_
      refine zstep rfl (fun K hK => ?_)
      go_simp
      refine hK.out _ _ (fun _ => ⟨sj, sx⟩) (fun hH => ?_)
      replace hH := hH (by decide)
      clear hK K
      (try simp only [Act.put, List.getElem_toArray, List.getElem_cons_succ, List.getElem_cons_zero, List.setIfInBounds_toArray, List.set_cons_zero, List.set_cons_succ])
      refine wpAnyZ_one (i := 13) (by kernel_rfl) ?_
      refine zstep rfl (fun K hK => ?_)
      go_simp
      refine hK.out _ _ (fun _ => ⟨sj, sx⟩) (fun hH => ?_)
      replace hH := hH (by decide)
      clear hK K
      (try simp only [Act.put, List.getElem_toArray, List.getElem_cons_succ, List.getElem_cons_zero, List.setIfInBounds_toArray, List.set_cons_zero, List.set_cons_succ])
      refine wpAnyZ_one (i := 14) (by kernel_rfl) ?_
      refine zstep rfl (fun K hK => ?_)
      go_simp
      refine hK.out _ _ (fun _ => ⟨sj, sx⟩) (fun hH => ?_)
      replace hH := hH (by decide)
      clear hK K
      (try simp only [Act.put, List.getElem_toArray, List.getElem_cons_succ, List.getElem_cons_zero, List.setIfInBounds_toArray, List.set_cons_zero, List.set_cons_succ])
      refine wpAnyZ_one (i := 15) (by kernel_rfl) ?_
      refine zstep rfl (fun K hK => ?_)
      go_simp
      refine hK.out _ _ (fun h => absurd rfl h) (fun hH => ?_)
      clear hK K hH
      (try simp only [Act.put, List.getElem_toArray, List.getElem_cons_succ, List.getElem_cons_zero, List.setIfInBounds_toArray, List.set_cons_zero, List.set_cons_succ])
      refine wpAnyZ_done (by kernel_rfl) ?_ _
      generalize (if (1000 : Int) < x + (q99 : Int) then (1000 : Int) else x + (q99 : Int)) = u at *
      go_wp2_with fail
      go_meet
      exact ⟨_, JS2.out⟩
    case rest =>
    obtain ⟨cs2, hjs2⟩ := hcut
    have JS2 := Lib.hid hjs2
    clear hjs2 JS1 K99
    have sj := JS2.out.box.cell (j := 1) rfl
    have hJz := JS2.out.box.1
    go_wp2
    go_loopw [77] (fun kv wr => ∃ (k : Nat) (st : List Stop), k ≤ i.stops.length ∧ kv = .int .i64 k ∧ JS wb I1 J gc e1 gs e2 (.slice B3 i.pairs.length e3) At e4 us i wr cs2 st) (fun kv _ => i.stops.length - (intOf kv).toNat)
    case atStart => exact ⟨0, i.stops, Nat.zero_le _, rfl, JS2.out⟩
    case round =>
    obtain ⟨k, st, hk, rfl, hjs⟩ := hrel
    have JR := Lib.hid hjs
    clear hjs JS2 sj hJz
    by_cases hlt : k < i.stops.length
    · have t1 : (k : Int) < (i.stops.length : Int) := by omega
      go_upto_region 15 with (fail)
      have hkt : k < st.length := by rw [JR.out.later.1]; exact hlt
      have hb9 := HF.out.stopF _ (List.getElem_mem hlt)
      have hb8 := JR.out.later.2 k hlt hkt
      have m0 : (0 : Int) ≤ (k : Int) := by omega
      have m2 : (k : Int).toNat = k := by omega
      have sj := JR.out.box.cell (j := 1) rfl
      have sx := JR.out.stop hkt
      have fx := JR.out.thawS (k * 4 + 2)
      have hgz := JR.out.gsz.2
      have hJz := JR.out.box.1
      have hM := min_grow (x := st[k].c) (a := (q50 : Int)) (m := 1000) (by omega) (by omega)
      have JN := Lib.hid ((JR.out.close hkt hM.1 hM.2).on ((Below.refl _ _).drew))
      have hx0 : 0 ≤ st[k].c ∧ st[k].c ≤ 1000 := by omega
      clear hb8 hb9
      generalize st[k].c = x at *
      have hw : IntKind.i64.wrap (x + (q50 : Int)) = x + (q50 : Int) := IntWalk.i64_in _ (by omega)
      refine wp_region_z (S := (fun w' => w'.cell? ⟨J, 1, none⟩ = some (.slice (some ⟨gs, 0, none⟩) i.stops.length e2) ∧ w'.cell? ⟨gs, k * 4 + 2, none⟩ = some (.int .i64 x))) (z := 15) (by kernel_rfl) ⟨sj, sx⟩ (fun hH => ?_)
      refine wpAnyZ_take (i := 0) (v := ?_) rfl (by kernel_rfl) (by kernel_rfl) (by kernel_rfl) rfl (by kernel_rfl) (fun _ _ _ h => h) (gives_value (by rfl) ?_) (by assumption) ?_
      rotate_left
      · intro w hSw
        (try dsimp only at hSw)
        go_simp
        (try with_reducible rfl)
      (try simp only [Act.put, List.getElem_toArray, List.getElem_cons_succ, List.getElem_cons_zero, List.setIfInBounds_toArray, List.set_cons_zero, List.set_cons_succ])
      refine wpAnyZ_take (i := 1) (v := ?_) rfl (by kernel_rfl) (by kernel_rfl) (by kernel_rfl) rfl (by kernel_rfl) (fun _ _ _ h => h) (gives_value (by rfl) ?_) (by assumption) ?_
      rotate_left
      · intro w hSw
        (try dsimp only at hSw)
        go_simp
        (try with_reducible rfl)
      (try simp only [Act.put, List.getElem_toArray, List.getElem_cons_succ, List.getElem_cons_zero, List.setIfInBounds_toArray, List.set_cons_zero, List.set_cons_succ])
      refine wpAnyZ_take (i := 2) (v := ?_) rfl (by kernel_rfl) (by kernel_rfl) (by kernel_rfl) rfl (by kernel_rfl) (fun _ _ _ h => h) (gives_value (by rfl) ?_) (by assumption) ?_
      rotate_left
      · intro w hSw
        (try dsimp only at hSw)
        go_simp
        (try with_reducible rfl)
      (try simp only [Act.put, List.getElem_toArray, List.getElem_cons_succ, List.getElem_cons_zero, List.setIfInBounds_toArray, List.set_cons_zero, List.set_cons_succ])
      refine wpAnyZ_take (i := 3) (v := ?_) rfl (by kernel_rfl) (by kernel_rfl) (by kernel_rfl) rfl (by kernel_rfl) (fun _ _ _ h => h) (gives_value (by rfl) ?_) (by assumption) ?_
      rotate_left
      · intro w hSw
        (try dsimp only at hSw)
        go_simp
        (try with_reducible rfl)
      (try simp only [Act.put, List.getElem_toArray, List.getElem_cons_succ, List.getElem_cons_zero, List.setIfInBounds_toArray, List.set_cons_zero, List.set_cons_succ])
      refine wpAnyZ_take (i := 4) (v := ?_) rfl (by kernel_rfl) (by kernel_rfl) (by kernel_rfl) rfl (by kernel_rfl) (fun _ _ _ h => h) (gives_value (by rfl) ?_) (by assumption) ?_
      rotate_left
      · intro w hSw
        (try dsimp only at hSw)
        go_simp
        (try with_reducible rfl)
      (try simp only [Act.put, List.getElem_toArray, List.getElem_cons_succ, List.getElem_cons_zero, List.setIfInBounds_toArray, List.set_cons_zero, List.set_cons_succ])
      refine wpAnyZ_take (i := 5) (v := ?_) rfl (by kernel_rfl) (by kernel_rfl) (by kernel_rfl) rfl (by kernel_rfl) (fun _ _ _ h => h) (gives_value (by rfl) ?_) (by assumption) ?_
      rotate_left
      · intro w hSw
        (try dsimp only at hSw)
        go_simp
        (try with_reducible rfl)
      (try simp only [Act.put, List.getElem_toArray, List.getElem_cons_succ, List.getElem_cons_zero, List.setIfInBounds_toArray, List.set_cons_zero, List.set_cons_succ])
      refine wpAnyZ_take (i := 6) (v := ?_) rfl (by kernel_rfl) (by kernel_rfl) (by kernel_rfl) rfl (by kernel_rfl) (fun _ _ _ h => h) (gives_value (by rfl) ?_) (by assumption) ?_
      rotate_left
      · intro w hSw
        (try dsimp only at hSw)
        go_simp
        (try with_reducible rfl)
      (try simp only [Act.put, List.getElem_toArray, List.getElem_cons_succ, List.getElem_cons_zero, List.setIfInBounds_toArray, List.set_cons_zero, List.set_cons_succ])
      refine wpAnyZ_take (i := 7) (v := ?_) rfl (by kernel_rfl) (by kernel_rfl) (by kernel_rfl) rfl (by kernel_rfl) (fun _ _ _ h => h) (gives_value (by rfl) ?_) (by assumption) ?_
      rotate_left
      · intro w hSw
        (try dsimp only at hSw)
        go_simp
        (try with_reducible rfl)
      (try simp only [Act.put, List.getElem_toArray, List.getElem_cons_succ, List.getElem_cons_zero, List.setIfInBounds_toArray, List.set_cons_zero, List.set_cons_succ])
      refine wpAnyZ_take (i := 8) (v := ?_) rfl (by kernel_rfl) (by kernel_rfl) (by kernel_rfl) rfl (by kernel_rfl) (fun _ _ _ h => h) (gives_value (by rfl) ?_) (by assumption) ?_
      rotate_left
      · intro w hSw
        (try dsimp only at hSw)
        go_simp
        (try with_reducible rfl)
      (try simp only [Act.put, List.getElem_toArray, List.getElem_cons_succ, List.getElem_cons_zero, List.setIfInBounds_toArray, List.set_cons_zero, List.set_cons_succ])
      refine wpAnyZ_take (i := 9) (v := ?_) rfl (by kernel_rfl) (by kernel_rfl) (by kernel_rfl) rfl (by kernel_rfl) (fun _ _ _ h => h) (gives_value (by rfl) ?_) (by assumption) ?_
      rotate_left
      · intro w hSw
        (try dsimp only at hSw)
        go_simp
        (try with_reducible rfl)
      (try simp only [Act.put, List.getElem_toArray, List.getElem_cons_succ, List.getElem_cons_zero, List.setIfInBounds_toArray, List.set_cons_zero, List.set_cons_succ])
      refine wpAnyZ_take (i := 10) (v := .int .i64 (q50 : Nat)) rfl (by kernel_rfl) (by kernel_rfl) (by kernel_rfl) rfl (by kernel_rfl) (fun _ _ _ h => h) (gives_call (by rfl) ?_ (fun w _ => K50.out w)) (by assumption) ?_
      · intro w
        go_simp
        (try with_reducible rfl)
      (try simp only [Act.put, List.getElem_toArray, List.getElem_cons_succ, List.getElem_cons_zero, List.setIfInBounds_toArray, List.set_cons_zero, List.set_cons_succ])
      refine wpAnyZ_take (i := 11) (v := ?_) rfl (by kernel_rfl) (by kernel_rfl) (by kernel_rfl) rfl (by kernel_rfl) (fun _ _ _ h => h) (gives_value (by rfl) ?_) (by assumption) ?_
      rotate_left
      · intro w hSw
        (try dsimp only at hSw)
        go_simp
        (try with_reducible rfl)
      (try simp only [Act.put, List.getElem_toArray, List.getElem_cons_succ, List.getElem_cons_zero, List.setIfInBounds_toArray, List.set_cons_zero, List.set_cons_succ])
      refine wpAnyZ_one (i := 12) (by kernel_rfl) ?_
      refine zstep rfl (fun K hK => ?_)
      go_simp
      refine hK.out _ _ (fun _ => ⟨sj, sx⟩) (fun hH => ?_)
      replace hH := hH (by decide)
      clear hK K
      (try simp only [Act.put, List.getElem_toArray, List.getElem_cons_succ, List.getElem_cons_zero, List.setIfInBounds_toArray, List.set_cons_zero, List.set_cons_succ])
      refine wpAnyZ_one (i := 13) (by kernel_rfl) ?_
      refine zstep rfl (fun K hK => ?_)
      go_simp
      refine hK.out _ _ (fun _ => ⟨sj, sx⟩) (fun hH => ?_)
      replace hH := hH (by decide)
      clear hK K
      (try simp only [Act.put, List.getElem_toArray, List.getElem_cons_succ, List.getElem_cons_zero, List.setIfInBounds_toArray, List.set_cons_zero, List.set_cons_succ])
      refine wpAnyZ_one (i := 14) (by kernel_rfl) ?_
      refine zstep rfl (fun K hK => ?_)
      go_simp
      refine hK.out _ _ (fun _ => ⟨sj, sx⟩) (fun hH => ?_)
      replace hH := hH (by decide)
      clear hK K
      (try simp only [Act.put, List.getElem_toArray, List.getElem_cons_succ, List.getElem_cons_zero, List.setIfInBounds_toArray, List.set_cons_zero, List.set_cons_succ])
      refine wpAnyZ_one (i := 15) (by kernel_rfl) ?_
      refine zstep rfl (fun K hK => ?_)
      go_simp
      refine hK.out _ _ (fun h => absurd rfl h) (fun hH => ?_)
      clear hK K hH
      (try simp only [Act.put, List.getElem_toArray, List.getElem_cons_succ, List.getElem_cons_zero, List.setIfInBounds_toArray, List.set_cons_zero, List.set_cons_succ])
      refine wpAnyZ_done (by kernel_rfl) ?_ _
      generalize (if (1000 : Int) < x + (q50 : Int) then (1000 : Int) else x + (q50 : Int)) = u at *
      clear sj sx fx hgz hJz
      go_wp2
      go_roundw
      case rel => exact ⟨k + 1, _, by omega, by go_num, JN.out⟩
      case measure => simp [intOf]; omega
    · have t1 : decide ((k : Int) < (i.stops.length : Int)) = false := by simp; omega
      clear K50
      have k0 := JR.out.box.cell (j := 0) rfl
      have k1 := JR.out.box.cell (j := 1) rfl
      have k2 := JR.out.box.cell (j := 2) rfl
      have k3 := JR.out.box.cell (j := 3) rfl
      have hJz := JR.out.box.1
      have HOJ := Lib.hid (roomy_ok HOK.out hs8 JR.out.wider JR.out.later)
      have HEJ := Lib.hid (roomy_eval JR.out.wider JR.out.later hcnl HT.out)
      go_wp2_with (go_at_call 9; fail)
      (with_reducible refine (eval_any _ _ ⟨cs2, st, [], i.travel⟩ cn r _ JR.out.lies HOJ.out (by simp) (HR4.out.below JR.out.below) (by omega)).mono ?_)
      rintro e w8 hti
      obtain ⟨hb8, E1, m1, f1, E2, m2, f2, cc, hh, ok, rfl, htv⟩ := hti.parts
      obtain ⟨rfl, rfl, rfl, rfl, rfl, hru, hrv⟩ := htv.some_ HEJ.out
      have hal := (Below.refl w8.heap.size w8).alloc (Nat.le_refl _) (.cells #[.slice E1 t.arr.length f1, .slice E2 t.load.length f2, .int .i64 t.cost, .int .i64 t.home] 26)
      have JE := Lib.hid ((JR.out.on hb8).on hal)
      have HU1 := Lib.hid (hru.below hal)
      have HU2 := Lib.hid (hrv.below hal)
      have BU := Lib.hid (blk_new w8 #[.slice E1 t.arr.length f1, .slice E2 t.load.length f2, .int .i64 t.cost, .int .i64 t.home] 26)
      clear hti htv hb8 hru hrv hal k0 k1 k2 k3 hJz HOJ HEJ JR
      go_upto_region 18 with (fail)
      generalize w8.alloc (.cells #[.slice E1 t.arr.length f1, .slice E2 t.load.length f2, .int .i64 t.cost, .int .i64 t.home] 26) = w9 at *
      generalize w8.heap.size = U at *
      have TA9 := Lib.hid (TA.out.below JE.out.below)
      have y0 := BU.out.cell (j := 0) rfl
      have y1 := BU.out.cell (j := 1) rfl
      have y2 := BU.out.cell (j := 2) rfl
      have y3 := BU.out.cell (j := 3) rfl
      have hUz := BU.out.1
      have t0 := TA9.out.b0
      have t1' := TA9.out.b1
      have t2 := TA9.out.b2
      have t3 := TA9.out.b3
      have hTz := TA9.out.lt
      go_wp2_with (go_at_call 17; fail)
      (with_reducible refine (same_trip E1 E2 D1 D2 f1 f2 d1 d2 t.arr t.load t.cost t.home _ HU1.out HU2.out TA9.out.r1 TA9.out.r2 (by rw [HLA.out]; omega) (by rw [HLL.out]; omega)).mono ?_)
      rintro e w10 ⟨rfl, hb10⟩
      have JG := Lib.hid (JE.out.on hb10)
      clear hb10 y0 y1 y2 y3 t0 t1' t2 t3 hUz hTz TA9 JE HU1 HU2 BU
      have TA10 := Lib.hid (TA.out.below JG.out.below)
      have t0 := TA10.out.b0
      have t1' := TA10.out.b1
      have hTz := TA10.out.lt
      have hla := HLA.out
      have hll := HLL.out
      obtain ⟨kk, hkk, hkl⟩ : ∃ q : Nat, withinI more ((r.length : Int) + 1) = (q : Int) ∧ q < r.length + 1 := by
        have := within_nat more (r.length + 1) (by omega)
        simpa using this
      have KK := Lib.hid (fun W => within_q more ((r.length : Int) + 1) W (by omega) (by omega) _ hkk)
      clear hkk
      go_wp2_with (go_at_call 12; fail)
      (with_reducible refine (KK.out _).mono ?_)
      rintro e w2 ⟨rfl, rfl⟩
      clear t0 t1' hTz hla hll KK TA10
      have hcn2 : cn < cs2.length := by rw [JG.out.wider.1]; exact hcnl
      have hb8 := (JG.out.wider.2 cn hcnl hcn2).2.2.2.2
      have sj := JG.out.box.cell (j := 0) rfl
      have sx := (JG.out.car hcn2).2
      have fx := JG.out.thawC (cn * 3 + 2)
      have hgz := JG.out.gcz.2
      have hJz := JG.out.box.1
      have J3 := Lib.hid (JG.out.end_ hcn2 hb8 (Int.le_refl _))
      go_upto_region 22 with (fail)
      clear sj sx fx hgz hJz JG hb8 hcn2
      generalize setEnd cs2 cn 1000 = cs3 at *
      generalize w2.setCell ⟨gc, cn * 3 + 2, none⟩ (.int .i64 1000) = wd at *
      have JB := Lib.hid J3.out.box
      have HO3 := Lib.hid (roomy_ok HOK.out hs8 J3.out.wider J3.out.later)
      have hk0 : (0 : Int) ≤ (kk : Int) := by omega
      have hk1 : (kk : Int) ≤ (cap : Int) := by omega
      have hk2 : (kk : Int).toNat = kk := by omega
      have hk3 : kk ≤ cap := by omega
      go_cut [18, 19] from 137 to 145 (fun pv fv wx => ∃ (Q : Nat) (E1 : Option Addr) (m1 f1 : Nat) (E2 : Option Addr) (m2 f2 : Nat) (cc hh : Int) (fine : Bool) (C : Nat), pv = .pointer (some ⟨Q, 0, none⟩) ∧ fv = .bool fine ∧ Below wd.heap.size wd wx ∧ Blk wx Q [.slice E1 m1 f1, .slice E2 m2 f2, .int .i64 cc, .int .i64 hh] ∧ TripV wx C (evalL ⟨cs3, st, [], i.travel⟩ cn (r.take kk)) E1 m1 f1 E2 m2 f2 cc hh fine)
      case first =>
        refine wp_region_z (S := (fun w' => w'.cell? ⟨J, 0, none⟩ = some (.slice (some ⟨gc, 0, none⟩) i.cars.length e1) ∧ w'.cell? ⟨J, 1, none⟩ = some (.slice (some ⟨gs, 0, none⟩) i.stops.length e2) ∧ w'.cell? ⟨J, 2, none⟩ = some (.slice none 0 0) ∧ w'.cell? ⟨J, 3, none⟩ = some (.slice At i.travel.length e4))) (z := 11) (by kernel_rfl) ⟨JB.out.cell (j := 0) rfl, JB.out.cell (j := 1) rfl, JB.out.cell (j := 2) rfl, JB.out.cell (j := 3) rfl⟩ (fun hH => ?_)
        refine wpAnyZ_take (i := 0) (v := ?_) rfl (by kernel_rfl) (by kernel_rfl) (by kernel_rfl) rfl (by kernel_rfl) (fun _ _ _ h => h) (gives_value (by rfl) ?_) (by assumption) ?_
        rotate_left
        · intro w hSw
          (try dsimp only at hSw)
          go_simp
          (try with_reducible rfl)
        (try simp only [Act.put, List.getElem_toArray, List.getElem_cons_succ, List.getElem_cons_zero, List.setIfInBounds_toArray, List.set_cons_zero, List.set_cons_succ])
        refine wpAnyZ_take (i := 1) (v := ?_) rfl (by kernel_rfl) (by kernel_rfl) (by kernel_rfl) rfl (by kernel_rfl) (fun _ _ _ h => h) (gives_value (by rfl) ?_) (by assumption) ?_
        rotate_left
        · intro w hSw
          (try dsimp only at hSw)
          go_simp
          (try with_reducible rfl)
        (try simp only [Act.put, List.getElem_toArray, List.getElem_cons_succ, List.getElem_cons_zero, List.setIfInBounds_toArray, List.set_cons_zero, List.set_cons_succ])
        refine wpAnyZ_take (i := 2) (v := ?_) rfl (by kernel_rfl) (by kernel_rfl) (by kernel_rfl) rfl (by kernel_rfl) (fun _ _ _ h => h) (gives_value (by rfl) ?_) (by assumption) ?_
        rotate_left
        · intro w hSw
          (try dsimp only at hSw)
          go_simp
          (try with_reducible rfl)
        (try simp only [Act.put, List.getElem_toArray, List.getElem_cons_succ, List.getElem_cons_zero, List.setIfInBounds_toArray, List.set_cons_zero, List.set_cons_succ])
        refine wpAnyZ_take (i := 3) (v := ?_) rfl (by kernel_rfl) (by kernel_rfl) (by kernel_rfl) rfl (by kernel_rfl) (fun _ _ _ h => h) (gives_value (by rfl) ?_) (by assumption) ?_
        rotate_left
        · intro w hSw
          (try dsimp only at hSw)
          go_simp
          (try with_reducible rfl)
        (try simp only [Act.put, List.getElem_toArray, List.getElem_cons_succ, List.getElem_cons_zero, List.setIfInBounds_toArray, List.set_cons_zero, List.set_cons_succ])
        refine wpAnyZ_take (i := 4) (v := ?_) rfl (by kernel_rfl) (by kernel_rfl) (by kernel_rfl) rfl (by kernel_rfl) (fun _ _ _ h => h) (gives_value (by rfl) ?_) (by assumption) ?_
        rotate_left
        · intro w hSw
          (try dsimp only at hSw)
          go_simp
          (try with_reducible rfl)
        (try simp only [Act.put, List.getElem_toArray, List.getElem_cons_succ, List.getElem_cons_zero, List.setIfInBounds_toArray, List.set_cons_zero, List.set_cons_succ])
        refine wpAnyZ_two (i := 5) (j := 9) (by kernel_rfl) ?_ ?_
        · refine zstep rfl (fun K hK => ?_)
          go_simp
          (with_reducible refine (eval_any _ _ ⟨cs3, st, [], i.travel⟩ cn (r.take kk) _ (Lies.below J3.out.lies ((Below.refl _ _).drew)) HO3.out (by simp) ((Recs.begin (HR4.out.below J3.out.below) (by omega) cap).below ((Below.refl _ _).drew)) (by rw [List.length_take]; omega)).mono ?_)
          rintro e w3 hti
          obtain ⟨hb3, E1, m1, f1, E2, m2, f2, cc, hh, fine, rfl, htv⟩ := hti.parts
          have HB3 : Hid (Below wd.heap.size wd w3) := ((Below.refl wd.heap.size wd).drew.trans (hb3.mono (Below.refl wd.heap.size wd).drew.size))
          have LB3 := Lib.hid (JB.out.below HB3.out)
          have HV := Lib.hid htv
          clear hti hb3 htv
          refine hK.out _ _ (fun _ => ⟨LB3.out.cell (j := 0) rfl, LB3.out.cell (j := 1) rfl, LB3.out.cell (j := 2) rfl, LB3.out.cell (j := 3) rfl⟩) (fun hH => ?_)
          replace hH := hH (by decide)
          clear hK K
          (try simp only [Act.put, List.getElem_toArray, List.getElem_cons_succ, List.getElem_cons_zero, List.setIfInBounds_toArray, List.set_cons_zero, List.set_cons_succ])
          refine wpAnyZ_take (i := 6) (v := ?_) rfl (by kernel_rfl) (by kernel_rfl) (by kernel_rfl) rfl (by kernel_rfl) (fun _ _ _ h => h) (gives_value (by rfl) ?_) (by assumption) ?_
          rotate_left
          · intro w hSw
            (try dsimp only at hSw)
            go_simp
            (try with_reducible rfl)
          (try simp only [Act.put, List.getElem_toArray, List.getElem_cons_succ, List.getElem_cons_zero, List.setIfInBounds_toArray, List.set_cons_zero, List.set_cons_succ])
          refine wpAnyZ_take (i := 7) (v := ?_) rfl (by kernel_rfl) (by kernel_rfl) (by kernel_rfl) rfl (by kernel_rfl) (fun _ _ _ h => h) (gives_value (by rfl) ?_) (by assumption) ?_
          rotate_left
          · intro w hSw
            (try dsimp only at hSw)
            go_simp
            (try with_reducible rfl)
          (try simp only [Act.put, List.getElem_toArray, List.getElem_cons_succ, List.getElem_cons_zero, List.setIfInBounds_toArray, List.set_cons_zero, List.set_cons_succ])
          refine wpAnyZ_take (i := 8) (v := ?_) rfl (by kernel_rfl) (by kernel_rfl) (by kernel_rfl) rfl (by kernel_rfl) (fun _ _ _ h => h) (gives_value (by rfl) ?_) (by assumption) ?_
          rotate_left
          · intro w hSw
            (try dsimp only at hSw)
            go_simp
            (try with_reducible rfl)
          (try simp only [Act.put, List.getElem_toArray, List.getElem_cons_succ, List.getElem_cons_zero, List.setIfInBounds_toArray, List.set_cons_zero, List.set_cons_succ])
          refine wpAnyZ_one (i := 9) (by kernel_rfl) ?_
          refine zstep rfl (fun K hK => ?_)
          go_simp
          have HB4 := Lib.hid (HB3.out.alloc HB3.out.size (.cells #[.slice none 0 0, .slice none 0 0, .int .i64 0, .int .i64 0] 26))
          have LB4 := Lib.hid (JB.out.below HB4.out)
          have LQ4 := Lib.hid (blk_new w3 #[.slice none 0 0, .slice none 0 0, .int .i64 0, .int .i64 0] 26)
          refine hK.out _ _ (fun _ => ⟨LB4.out.cell (j := 0) rfl, LB4.out.cell (j := 1) rfl, LB4.out.cell (j := 2) rfl, LB4.out.cell (j := 3) rfl⟩) (fun hH => ?_)
          replace hH := hH (by decide)
          clear hK K
          (try simp only [Act.put, List.getElem_toArray, List.getElem_cons_succ, List.getElem_cons_zero, List.setIfInBounds_toArray, List.set_cons_zero, List.set_cons_succ])
          have hQa : wd.heap.size ≤ w3.heap.size := HB3.out.size
          have HBh := Lib.hid ((Below.refl w3.heap.size w3).alloc (Nat.le_refl _) (.cells #[.slice none 0 0, .slice none 0 0, .int .i64 0, .int .i64 0] 26))
          generalize w3.alloc (.cells #[.slice none 0 0, .slice none 0 0, .int .i64 0, .int .i64 0] 26) = w4 at *
          refine wpAnyZ_one (i := 10) (by kernel_rfl) ?_
          refine zstep rfl (fun K hK => ?_)
          have q0 := LQ4.out.cell (j := 0) rfl
          have q1 := LQ4.out.cell (j := 1) rfl
          have q2 := LQ4.out.cell (j := 2) rfl
          have q3 := LQ4.out.cell (j := 3) rfl
          have p0 := (LQ4.out.2 0 (by simp)).2
          have p1 := (LQ4.out.2 1 (by simp)).2
          have p2 := (LQ4.out.2 2 (by simp)).2
          have p3 := (LQ4.out.2 3 (by simp)).2
          have hQl := LQ4.out.1
          go_simp
          clear q0 q1 q2 q3 p0 p1 p2 p3 hQl
          have HBz := Lib.hid ((((HB4.out.setCell (p := ⟨w3.heap.size, 0, none⟩) hQa (.slice E1 m1 f1)).setCell (p := ⟨w3.heap.size, 1, none⟩) hQa (.slice E2 m2 f2)).setCell (p := ⟨w3.heap.size, 2, none⟩) hQa (.int .i64 cc)).setCell (p := ⟨w3.heap.size, 3, none⟩) hQa (.int .i64 hh))
          have LBz := Lib.hid (JB.out.below HBz.out)
          have LQz := Lib.hid (box4' LQ4.out (.slice E1 m1 f1) (.slice E2 m2 f2) (.int .i64 cc) (.int .i64 hh))
          have HVz := Lib.hid (HV.out.below ((((HBh.out.setCell (p := ⟨w3.heap.size, 0, none⟩) (Nat.le_refl _) (.slice E1 m1 f1)).setCell (p := ⟨w3.heap.size, 1, none⟩) (Nat.le_refl _) (.slice E2 m2 f2)).setCell (p := ⟨w3.heap.size, 2, none⟩) (Nat.le_refl _) (.int .i64 cc)).setCell (p := ⟨w3.heap.size, 3, none⟩) (Nat.le_refl _) (.int .i64 hh)))
          refine hK.out _ _ (fun _ => ⟨LBz.out.cell (j := 0) rfl, LBz.out.cell (j := 1) rfl, LBz.out.cell (j := 2) rfl, LBz.out.cell (j := 3) rfl⟩) (fun hH => ?_)
          replace hH := hH (by decide)
          clear hK K
          (try simp only [Act.put, List.getElem_toArray, List.getElem_cons_succ, List.getElem_cons_zero, List.setIfInBounds_toArray, List.set_cons_zero, List.set_cons_succ])
          refine wpAnyZ_one (i := 11) (by kernel_rfl) ?_
          refine zstep rfl (fun K hK => ?_)
          go_simp
          refine hK.out _ _ (fun h => absurd rfl h) (fun hH => ?_)
          clear hK K hH
          (try simp only [Act.put, List.getElem_toArray, List.getElem_cons_succ, List.getElem_cons_zero, List.setIfInBounds_toArray, List.set_cons_zero, List.set_cons_succ])
          refine wpAnyZ_done (by kernel_rfl) ?_ _
          go_wp2_with fail
          go_meet
          exact ⟨_, E1, m1, f1, E2, m2, f2, cc, hh, fine, _, rfl, rfl, HBz.out, LQz.out, HVz.out⟩
        · refine zstep rfl (fun K hK => ?_)
          go_simp
          have HB4 := Lib.hid (((Below.refl wd.heap.size wd).alloc (Nat.le_refl _) (.cells #[.slice none 0 0, .slice none 0 0, .int .i64 0, .int .i64 0] 26)).drew)
          have LB4 := Lib.hid (JB.out.below HB4.out)
          have LQ4 := Lib.hid ((blk_new wd #[.slice none 0 0, .slice none 0 0, .int .i64 0, .int .i64 0] 26).drew)
          refine hK.out _ _ (fun _ => ⟨LB4.out.cell (j := 0) rfl, LB4.out.cell (j := 1) rfl, LB4.out.cell (j := 2) rfl, LB4.out.cell (j := 3) rfl⟩) (fun hH => ?_)
          replace hH := hH (by decide)
          clear hK K
          (try simp only [Act.put, List.getElem_toArray, List.getElem_cons_succ, List.getElem_cons_zero, List.setIfInBounds_toArray, List.set_cons_zero, List.set_cons_succ])
          generalize hw4 : (wd.alloc (.cells #[.slice none 0 0, .slice none 0 0, .int .i64 0, .int .i64 0] 26)).drew = w4 at *
          have hQa : wd.heap.size ≤ wd.heap.size := Nat.le_refl _
          have hQC : wd.heap.size < w4.heap.size := by rw [← hw4]; simp
          clear hw4
          refine wpAnyZ_one (i := 5) (by kernel_rfl) ?_
          refine zstep rfl (fun K hK => ?_)
          go_simp
          (with_reducible refine (eval_any _ _ ⟨cs3, st, [], i.travel⟩ cn (r.take kk) _ (Lies.below J3.out.lies HB4.out) HO3.out (by simp) ((Recs.begin (HR4.out.below J3.out.below) (by omega) cap).below HB4.out) (by rw [List.length_take]; omega)).mono ?_)
          rintro e w3 hti
          obtain ⟨hb3, E1, m1, f1, E2, m2, f2, cc, hh, fine, rfl, htv⟩ := hti.parts
          have HB3 : Hid (Below wd.heap.size wd w3) := (HB4.out.trans (hb3.mono HB4.out.size))
          have LB3 := Lib.hid (JB.out.below HB3.out)
          have HV := Lib.hid htv
          have LQ5 := Lib.hid (LQ4.out.below hb3)
          clear hti hb3 htv
          refine hK.out _ _ (fun _ => ⟨LB3.out.cell (j := 0) rfl, LB3.out.cell (j := 1) rfl, LB3.out.cell (j := 2) rfl, LB3.out.cell (j := 3) rfl⟩) (fun hH => ?_)
          replace hH := hH (by decide)
          clear hK K
          (try simp only [Act.put, List.getElem_toArray, List.getElem_cons_succ, List.getElem_cons_zero, List.setIfInBounds_toArray, List.set_cons_zero, List.set_cons_succ])
          refine wpAnyZ_take (i := 6) (v := ?_) rfl (by kernel_rfl) (by kernel_rfl) (by kernel_rfl) rfl (by kernel_rfl) (fun _ _ _ h => h) (gives_value (by rfl) ?_) (by assumption) ?_
          rotate_left
          · intro w hSw
            (try dsimp only at hSw)
            go_simp
            (try with_reducible rfl)
          (try simp only [Act.put, List.getElem_toArray, List.getElem_cons_succ, List.getElem_cons_zero, List.setIfInBounds_toArray, List.set_cons_zero, List.set_cons_succ])
          refine wpAnyZ_take (i := 7) (v := ?_) rfl (by kernel_rfl) (by kernel_rfl) (by kernel_rfl) rfl (by kernel_rfl) (fun _ _ _ h => h) (gives_value (by rfl) ?_) (by assumption) ?_
          rotate_left
          · intro w hSw
            (try dsimp only at hSw)
            go_simp
            (try with_reducible rfl)
          (try simp only [Act.put, List.getElem_toArray, List.getElem_cons_succ, List.getElem_cons_zero, List.setIfInBounds_toArray, List.set_cons_zero, List.set_cons_succ])
          refine wpAnyZ_take (i := 8) (v := ?_) rfl (by kernel_rfl) (by kernel_rfl) (by kernel_rfl) rfl (by kernel_rfl) (fun _ _ _ h => h) (gives_value (by rfl) ?_) (by assumption) ?_
          rotate_left
          · intro w hSw
            (try dsimp only at hSw)
            go_simp
            (try with_reducible rfl)
          (try simp only [Act.put, List.getElem_toArray, List.getElem_cons_succ, List.getElem_cons_zero, List.setIfInBounds_toArray, List.set_cons_zero, List.set_cons_succ])
          refine wpAnyZ_one (i := 10) (by kernel_rfl) ?_
          refine zstep rfl (fun K hK => ?_)
          have q0 := LQ5.out.cell (j := 0) rfl
          have q1 := LQ5.out.cell (j := 1) rfl
          have q2 := LQ5.out.cell (j := 2) rfl
          have q3 := LQ5.out.cell (j := 3) rfl
          have p0 := (LQ5.out.2 0 (by simp)).2
          have p1 := (LQ5.out.2 1 (by simp)).2
          have p2 := (LQ5.out.2 2 (by simp)).2
          have p3 := (LQ5.out.2 3 (by simp)).2
          have hQl := LQ5.out.1
          go_simp
          clear q0 q1 q2 q3 p0 p1 p2 p3 hQl
          have HBz := Lib.hid ((((HB3.out.setCell (p := ⟨wd.heap.size, 0, none⟩) hQa (.slice E1 m1 f1)).setCell (p := ⟨wd.heap.size, 1, none⟩) hQa (.slice E2 m2 f2)).setCell (p := ⟨wd.heap.size, 2, none⟩) hQa (.int .i64 cc)).setCell (p := ⟨wd.heap.size, 3, none⟩) hQa (.int .i64 hh))
          have LBz := Lib.hid (JB.out.below HBz.out)
          have LQz := Lib.hid (box4' LQ5.out (.slice E1 m1 f1) (.slice E2 m2 f2) (.int .i64 cc) (.int .i64 hh))
          have HVz := Lib.hid ((((HV.out.low hQC 0 (.slice E1 m1 f1)).low hQC 1 (.slice E2 m2 f2)).low hQC 2 (.int .i64 cc)).low hQC 3 (.int .i64 hh))
          refine hK.out _ _ (fun _ => ⟨LBz.out.cell (j := 0) rfl, LBz.out.cell (j := 1) rfl, LBz.out.cell (j := 2) rfl, LBz.out.cell (j := 3) rfl⟩) (fun hH => ?_)
          replace hH := hH (by decide)
          clear hK K
          (try simp only [Act.put, List.getElem_toArray, List.getElem_cons_succ, List.getElem_cons_zero, List.setIfInBounds_toArray, List.set_cons_zero, List.set_cons_succ])
          refine wpAnyZ_one (i := 11) (by kernel_rfl) ?_
          refine zstep rfl (fun K hK => ?_)
          go_simp
          refine hK.out _ _ (fun h => absurd rfl h) (fun hH => ?_)
          clear hK K hH
          (try simp only [Act.put, List.getElem_toArray, List.getElem_cons_succ, List.getElem_cons_zero, List.setIfInBounds_toArray, List.set_cons_zero, List.set_cons_succ])
          refine wpAnyZ_done (by kernel_rfl) ?_ _
          go_wp2_with fail
          go_meet
          exact ⟨_, E1, m1, f1, E2, m2, f2, cc, hh, fine, _, rfl, rfl, HBz.out, LQz.out, HVz.out⟩
      case rest =>
      obtain ⟨Q, E1, m1, f1, E2, m2, f2, cc, hh, fine, C, rfl, rfl, hbz, hq, hv⟩ := hcut
      have J4 := Lib.hid (J3.out.on hbz)
      have LQ := Lib.hid hq
      have HV := Lib.hid hv
      have TA4 := Lib.hid (TA.out.below J4.out.below)
      have HBw : Hid (Below w.heap.size w wc) := HB4.out.trans (J4.out.below.mono HB4.out.size)
      clear hbz hq hv J3 JB HO3
      go_upto_region 23 with (fail)
      cases fine
      · clear HV LQ TA4
        refine wp_region_z (S := (fun _ => True)) (z := 23) (by kernel_rfl) trivial (fun hH => ?_)
        refine wpAnyZ_take (i := 0) (v := ?_) rfl (by kernel_rfl) (by kernel_rfl) (by kernel_rfl) rfl (by kernel_rfl) (fun _ _ _ h => h) (gives_value (by rfl) ?_) (by assumption) ?_
        rotate_left
        · intro w hSw
          (try dsimp only at hSw)
          go_simp
          (try with_reducible rfl)
        (try simp only [Act.put, List.getElem_toArray, List.getElem_cons_succ, List.getElem_cons_zero, List.setIfInBounds_toArray, List.set_cons_zero, List.set_cons_succ])
        refine wpAnyZ_take (i := 1) (v := ?_) rfl (by kernel_rfl) (by kernel_rfl) (by kernel_rfl) rfl (by kernel_rfl) (fun _ _ _ h => h) (gives_value (by rfl) ?_) (by assumption) ?_
        rotate_left
        · intro w hSw
          (try dsimp only at hSw)
          go_simp
          (try with_reducible rfl)
        (try simp only [Act.put, List.getElem_toArray, List.getElem_cons_succ, List.getElem_cons_zero, List.setIfInBounds_toArray, List.set_cons_zero, List.set_cons_succ])
        refine wpAnyZ_take (i := 2) (v := ?_) rfl (by kernel_rfl) (by kernel_rfl) (by kernel_rfl) rfl (by kernel_rfl) (fun _ _ _ h => h) (gives_value (by rfl) ?_) (by assumption) ?_
        rotate_left
        · intro w hSw
          (try dsimp only at hSw)
          go_simp
          (try with_reducible rfl)
        (try simp only [Act.put, List.getElem_toArray, List.getElem_cons_succ, List.getElem_cons_zero, List.setIfInBounds_toArray, List.set_cons_zero, List.set_cons_succ])
        refine wpAnyZ_skip (i := 3) rfl (by kernel_rfl) (by kernel_rfl) (by kernel_rfl) rfl (by kernel_rfl) (fun _ _ _ h => h) (by rfl) (by assumption) ?_
        (try simp only [Act.put, List.getElem_toArray, List.getElem_cons_succ, List.getElem_cons_zero, List.setIfInBounds_toArray, List.set_cons_zero, List.set_cons_succ])
        refine wpAnyZ_skip (i := 4) rfl (by kernel_rfl) (by kernel_rfl) (by kernel_rfl) rfl (by kernel_rfl) (fun _ _ _ h => h) (by rfl) (by assumption) ?_
        (try simp only [Act.put, List.getElem_toArray, List.getElem_cons_succ, List.getElem_cons_zero, List.setIfInBounds_toArray, List.set_cons_zero, List.set_cons_succ])
        refine wpAnyZ_skip (i := 5) rfl (by kernel_rfl) (by kernel_rfl) (by kernel_rfl) rfl (by kernel_rfl) (fun _ _ _ h => h) (by rfl) (by assumption) ?_
        (try simp only [Act.put, List.getElem_toArray, List.getElem_cons_succ, List.getElem_cons_zero, List.setIfInBounds_toArray, List.set_cons_zero, List.set_cons_succ])
        refine wpAnyZ_skip (i := 6) rfl (by kernel_rfl) (by kernel_rfl) (by kernel_rfl) rfl (by kernel_rfl) (fun _ _ _ h => h) (by rfl) (by assumption) ?_
        (try simp only [Act.put, List.getElem_toArray, List.getElem_cons_succ, List.getElem_cons_zero, List.setIfInBounds_toArray, List.set_cons_zero, List.set_cons_succ])
        refine wpAnyZ_skip (i := 7) rfl (by kernel_rfl) (by kernel_rfl) (by kernel_rfl) rfl (by kernel_rfl) (fun _ _ _ h => h) (by rfl) (by assumption) ?_
        (try simp only [Act.put, List.getElem_toArray, List.getElem_cons_succ, List.getElem_cons_zero, List.setIfInBounds_toArray, List.set_cons_zero, List.set_cons_succ])
        refine wpAnyZ_skip (i := 8) rfl (by kernel_rfl) (by kernel_rfl) (by kernel_rfl) rfl (by kernel_rfl) (fun _ _ _ h => h) (by rfl) (by assumption) ?_
        (try simp only [Act.put, List.getElem_toArray, List.getElem_cons_succ, List.getElem_cons_zero, List.setIfInBounds_toArray, List.set_cons_zero, List.set_cons_succ])
        refine wpAnyZ_skip (i := 9) rfl (by kernel_rfl) (by kernel_rfl) (by kernel_rfl) rfl (by kernel_rfl) (fun _ _ _ h => h) (by rfl) (by assumption) ?_
        (try simp only [Act.put, List.getElem_toArray, List.getElem_cons_succ, List.getElem_cons_zero, List.setIfInBounds_toArray, List.set_cons_zero, List.set_cons_succ])
        refine wpAnyZ_skip (i := 10) rfl (by kernel_rfl) (by kernel_rfl) (by kernel_rfl) rfl (by kernel_rfl) (fun _ _ _ h => h) (by rfl) (by assumption) ?_
        (try simp only [Act.put, List.getElem_toArray, List.getElem_cons_succ, List.getElem_cons_zero, List.setIfInBounds_toArray, List.set_cons_zero, List.set_cons_succ])
        refine wpAnyZ_skip (i := 11) rfl (by kernel_rfl) (by kernel_rfl) (by kernel_rfl) rfl (by kernel_rfl) (fun _ _ _ h => h) (by rfl) (by assumption) ?_
        (try simp only [Act.put, List.getElem_toArray, List.getElem_cons_succ, List.getElem_cons_zero, List.setIfInBounds_toArray, List.set_cons_zero, List.set_cons_succ])
        refine wpAnyZ_skip (i := 12) rfl (by kernel_rfl) (by kernel_rfl) (by kernel_rfl) rfl (by kernel_rfl) (fun _ _ _ h => h) (by rfl) (by assumption) ?_
        (try simp only [Act.put, List.getElem_toArray, List.getElem_cons_succ, List.getElem_cons_zero, List.setIfInBounds_toArray, List.set_cons_zero, List.set_cons_succ])
        refine wpAnyZ_skip (i := 13) rfl (by kernel_rfl) (by kernel_rfl) (by kernel_rfl) rfl (by kernel_rfl) (fun _ _ _ h => h) (by rfl) (by assumption) ?_
        (try simp only [Act.put, List.getElem_toArray, List.getElem_cons_succ, List.getElem_cons_zero, List.setIfInBounds_toArray, List.set_cons_zero, List.set_cons_succ])
        refine wpAnyZ_skip (i := 14) rfl (by kernel_rfl) (by kernel_rfl) (by kernel_rfl) rfl (by kernel_rfl) (fun _ _ _ h => h) (by rfl) (by assumption) ?_
        (try simp only [Act.put, List.getElem_toArray, List.getElem_cons_succ, List.getElem_cons_zero, List.setIfInBounds_toArray, List.set_cons_zero, List.set_cons_succ])
        refine wpAnyZ_skip (i := 15) rfl (by kernel_rfl) (by kernel_rfl) (by kernel_rfl) rfl (by kernel_rfl) (fun _ _ _ h => h) (by rfl) (by assumption) ?_
        (try simp only [Act.put, List.getElem_toArray, List.getElem_cons_succ, List.getElem_cons_zero, List.setIfInBounds_toArray, List.set_cons_zero, List.set_cons_succ])
        refine wpAnyZ_skip (i := 16) rfl (by kernel_rfl) (by kernel_rfl) (by kernel_rfl) rfl (by kernel_rfl) (fun _ _ _ h => h) (by rfl) (by assumption) ?_
        (try simp only [Act.put, List.getElem_toArray, List.getElem_cons_succ, List.getElem_cons_zero, List.setIfInBounds_toArray, List.set_cons_zero, List.set_cons_succ])
        refine wpAnyZ_skip (i := 17) rfl (by kernel_rfl) (by kernel_rfl) (by kernel_rfl) rfl (by kernel_rfl) (fun _ _ _ h => h) (by rfl) (by assumption) ?_
        (try simp only [Act.put, List.getElem_toArray, List.getElem_cons_succ, List.getElem_cons_zero, List.setIfInBounds_toArray, List.set_cons_zero, List.set_cons_succ])
        refine wpAnyZ_skip (i := 18) rfl (by kernel_rfl) (by kernel_rfl) (by kernel_rfl) rfl (by kernel_rfl) (fun _ _ _ h => h) (by rfl) (by assumption) ?_
        (try simp only [Act.put, List.getElem_toArray, List.getElem_cons_succ, List.getElem_cons_zero, List.setIfInBounds_toArray, List.set_cons_zero, List.set_cons_succ])
        refine wpAnyZ_take (i := 19) (v := ?_) rfl (by kernel_rfl) (by kernel_rfl) (by kernel_rfl) rfl (by kernel_rfl) (fun _ _ _ h => h) (gives_value (by rfl) ?_) (by assumption) ?_
        rotate_left
        · intro w hSw
          (try dsimp only at hSw)
          go_simp
          (try with_reducible rfl)
        (try simp only [Act.put, List.getElem_toArray, List.getElem_cons_succ, List.getElem_cons_zero, List.setIfInBounds_toArray, List.set_cons_zero, List.set_cons_succ])
        refine wpAnyZ_take (i := 20) (v := ?_) rfl (by kernel_rfl) (by kernel_rfl) (by kernel_rfl) rfl (by kernel_rfl) (fun _ _ _ h => h) (gives_value (by rfl) ?_) (by assumption) ?_
        rotate_left
        · intro w hSw
          (try dsimp only at hSw)
          go_simp
          (try with_reducible rfl)
        (try simp only [Act.put, List.getElem_toArray, List.getElem_cons_succ, List.getElem_cons_zero, List.setIfInBounds_toArray, List.set_cons_zero, List.set_cons_succ])
        refine wpAnyZ_one (i := 21) (by kernel_rfl) ?_
        refine zstep rfl (fun K hK => ?_)
        go_simp
        (with_reducible refine (wakes_any _).mono ?_)
        rintro e wl ⟨rfl, hbl⟩
        have HBl : Hid (Below w.heap.size w wl) := HBw.out.drew.trans (hbl.mono HBw.out.drew.size)
        clear hbl
        refine hK.out _ _ (fun _ => trivial) (fun hH => ?_)
        replace hH := hH (by decide)
        clear hK K
        (try simp only [Act.put, List.getElem_toArray, List.getElem_cons_succ, List.getElem_cons_zero, List.setIfInBounds_toArray, List.set_cons_zero, List.set_cons_succ])
        refine wpAnyZ_take (i := 22) (v := ?_) rfl (by kernel_rfl) (by kernel_rfl) (by kernel_rfl) rfl (by kernel_rfl) (fun _ _ _ h => h) (gives_value (by rfl) ?_) (by assumption) ?_
        rotate_left
        · intro w hSw
          (try dsimp only at hSw)
          go_simp
          (try with_reducible rfl)
        (try simp only [Act.put, List.getElem_toArray, List.getElem_cons_succ, List.getElem_cons_zero, List.setIfInBounds_toArray, List.set_cons_zero, List.set_cons_succ])
        refine wpAnyZ_one (i := 23) (by kernel_rfl) ?_
        refine zstep rfl (fun K hK => ?_)
        go_simp
        refine hK.out _ _ (fun h => absurd rfl h) (fun hH => ?_)
        clear hK K hH
        (try simp only [Act.put, List.getElem_toArray, List.getElem_cons_succ, List.getElem_cons_zero, List.setIfInBounds_toArray, List.set_cons_zero, List.set_cons_succ])
        refine wpAnyZ_done (by kernel_rfl) ?_ _
        go_wp2
        go_ret
        exact ⟨rfl, HBl.out⟩
      · obtain ⟨t', ht', rfl, rfl, rfl, rfl, _, _, hr1, hr2⟩ := HV.out.yes rfl
        obtain ⟨ha, hb⟩ := begin_eval J4.out.wider J4.out.later hcnl HT.out ht'
        have hkr : kk ≤ r.length := by omega
        have hka : kk ≤ t.arr.length := by rw [HLA.out]; exact hkr
        have hkb : kk ≤ t.load.length := by rw [HLL.out]; exact hkr
        have hm1 : t'.arr.length = kk := by rw [ha, List.length_take]; omega
        have hm2 : t'.load.length = kk := by rw [hb, List.length_take]; omega
        rw [hm1, ha] at hr1
        rw [hm2, hb] at hr2
        rw [hm1, hm2] at LQ
        have K1 := Lib.hid (fun (W : World) (hB : Below wc.heap.size wc W) => same_ints (.slice E1 kk f1) (.slice D1 kk d1) (t.arr.take kk) W (hr1.below hB) ((Recs.begin TA4.out.r1 hka d1).below hB) (by rw [List.length_take]; omega))
        have K2 := Lib.hid (fun (W : World) (hB : Below wc.heap.size wc W) => same_ints (.slice E2 kk f2) (.slice D2 kk d2) (t.load.take kk) W (hr2.below hB) ((Recs.begin TA4.out.r2 hkb d2).below hB) (by rw [List.length_take]; omega))
        have hl1 := TA4.out.l1
        have hl2 := TA4.out.l2
        have S23 : Hid (∀ W, Below wc.heap.size wc W → W.cell? ⟨Q, 0, none⟩ = some (.slice E1 kk f1) ∧ W.cell? ⟨Q, 1, none⟩ = some (.slice E2 kk f2) ∧ W.cell? ⟨T, 0, none⟩ = some (.slice D1 t.arr.length d1) ∧ W.cell? ⟨T, 1, none⟩ = some (.slice D2 t.load.length d2)) :=
          fun W hB => ⟨(LQ.out.below hB).cell (j := 0) rfl, (LQ.out.below hB).cell (j := 1) rfl, (TA4.out.below hB).b0, (TA4.out.below hB).b1⟩
        have j1 : (kk : Int) ≤ (d1 : Int) := by omega
        have j2 : (kk : Int) ≤ (d2 : Int) := by omega
        have j3 : kk ≤ d1 := by omega
        have j4 : kk ≤ d2 := by omega
        clear HV hr1 hr2 ha hb ht' hm1 hm2 hkr hka hkb hl1 hl2
        refine wp_region_z (S := (fun W => W.cell? ⟨Q, 0, none⟩ = some (.slice E1 kk f1) ∧ W.cell? ⟨Q, 1, none⟩ = some (.slice E2 kk f2) ∧ W.cell? ⟨T, 0, none⟩ = some (.slice D1 t.arr.length d1) ∧ W.cell? ⟨T, 1, none⟩ = some (.slice D2 t.load.length d2))) (z := 23) (by kernel_rfl) (S23.out _ ((Below.refl _ _).drew)) (fun hH => ?_)
        refine wpAnyZ_take (i := 0) (v := ?_) rfl (by kernel_rfl) (by kernel_rfl) (by kernel_rfl) rfl (by kernel_rfl) (fun _ _ _ h => h) (gives_value (by rfl) ?_) (by assumption) ?_
        rotate_left
        · intro w hSw
          (try dsimp only at hSw)
          go_simp
          (try with_reducible rfl)
        (try simp only [Act.put, List.getElem_toArray, List.getElem_cons_succ, List.getElem_cons_zero, List.setIfInBounds_toArray, List.set_cons_zero, List.set_cons_succ])
        refine wpAnyZ_take (i := 1) (v := ?_) rfl (by kernel_rfl) (by kernel_rfl) (by kernel_rfl) rfl (by kernel_rfl) (fun _ _ _ h => h) (gives_value (by rfl) ?_) (by assumption) ?_
        rotate_left
        · intro w hSw
          (try dsimp only at hSw)
          go_simp
          (try with_reducible rfl)
        (try simp only [Act.put, List.getElem_toArray, List.getElem_cons_succ, List.getElem_cons_zero, List.setIfInBounds_toArray, List.set_cons_zero, List.set_cons_succ])
        refine wpAnyZ_take (i := 2) (v := ?_) rfl (by kernel_rfl) (by kernel_rfl) (by kernel_rfl) rfl (by kernel_rfl) (fun _ _ _ h => h) (gives_value (by rfl) ?_) (by assumption) ?_
        rotate_left
        · intro w hSw
          (try dsimp only at hSw)
          go_simp
          (try with_reducible rfl)
        (try simp only [Act.put, List.getElem_toArray, List.getElem_cons_succ, List.getElem_cons_zero, List.setIfInBounds_toArray, List.set_cons_zero, List.set_cons_succ])
        refine wpAnyZ_take (i := 3) (v := ?_) rfl (by kernel_rfl) (by kernel_rfl) (by kernel_rfl) rfl (by kernel_rfl) (fun _ _ _ h => h) (gives_value (by rfl) ?_) (by assumption) ?_
        rotate_left
        · intro w hSw
          (try dsimp only at hSw)
          go_simp
          (try with_reducible rfl)
        (try simp only [Act.put, List.getElem_toArray, List.getElem_cons_succ, List.getElem_cons_zero, List.setIfInBounds_toArray, List.set_cons_zero, List.set_cons_succ])
        refine wpAnyZ_take (i := 4) (v := ?_) rfl (by kernel_rfl) (by kernel_rfl) (by kernel_rfl) rfl (by kernel_rfl) (fun _ _ _ h => h) (gives_value (by rfl) ?_) (by assumption) ?_
        rotate_left
        · intro w hSw
          (try dsimp only at hSw)
          go_simp
          (try with_reducible rfl)
        (try simp only [Act.put, List.getElem_toArray, List.getElem_cons_succ, List.getElem_cons_zero, List.setIfInBounds_toArray, List.set_cons_zero, List.set_cons_succ])
        refine wpAnyZ_take (i := 5) (v := ?_) rfl (by kernel_rfl) (by kernel_rfl) (by kernel_rfl) rfl (by kernel_rfl) (fun _ _ _ h => h) (gives_value (by rfl) ?_) (by assumption) ?_
        rotate_left
        · intro w hSw
          (try dsimp only at hSw)
          go_simp
          (try with_reducible rfl)
        (try simp only [Act.put, List.getElem_toArray, List.getElem_cons_succ, List.getElem_cons_zero, List.setIfInBounds_toArray, List.set_cons_zero, List.set_cons_succ])
        refine wpAnyZ_take (i := 6) (v := ?_) rfl (by kernel_rfl) (by kernel_rfl) (by kernel_rfl) rfl (by kernel_rfl) (fun _ _ _ h => h) (gives_value (by rfl) ?_) (by assumption) ?_
        rotate_left
        · intro w hSw
          (try dsimp only at hSw)
          go_simp
          (try with_reducible rfl)
        (try simp only [Act.put, List.getElem_toArray, List.getElem_cons_succ, List.getElem_cons_zero, List.setIfInBounds_toArray, List.set_cons_zero, List.set_cons_succ])
        refine wpAnyZ_take (i := 7) (v := ?_) rfl (by kernel_rfl) (by kernel_rfl) (by kernel_rfl) rfl (by kernel_rfl) (fun _ _ _ h => h) (gives_value (by rfl) ?_) (by assumption) ?_
        rotate_left
        · intro w hSw
          (try dsimp only at hSw)
          go_simp
          (try with_reducible rfl)
        (try simp only [Act.put, List.getElem_toArray, List.getElem_cons_succ, List.getElem_cons_zero, List.setIfInBounds_toArray, List.set_cons_zero, List.set_cons_succ])
        refine wpAnyZ_take (i := 8) (v := ?_) rfl (by kernel_rfl) (by kernel_rfl) (by kernel_rfl) rfl (by kernel_rfl) (fun _ _ _ h => h) (gives_value (by rfl) ?_) (by assumption) ?_
        rotate_left
        · intro w hSw
          (try dsimp only at hSw)
          go_simp
          (try with_reducible rfl)
        (try simp only [Act.put, List.getElem_toArray, List.getElem_cons_succ, List.getElem_cons_zero, List.setIfInBounds_toArray, List.set_cons_zero, List.set_cons_succ])
        refine wpAnyZ_one (i := 9) (by kernel_rfl) ?_
        refine zstep rfl (fun K hK => ?_)
        go_simp
        (with_reducible refine (K1.out _ ((Below.refl wc.heap.size wc).drew)).mono ?_)
        rintro e w20 ⟨rfl, mm20, hw20⟩
        have HB20 : Hid (Below wc.heap.size wc w20) := by
          show Below _ _ _
          rw [hw20]
          exact below_draws' ((Below.refl wc.heap.size wc).drew) _
        have S20 := Lib.hid (S23.out w20 HB20.out)
        clear hw20
        refine hK.out _ _ (fun _ => S20.out) (fun hH => ?_)
        replace hH := hH (by decide)
        clear hK K
        (try simp only [Act.put, List.getElem_toArray, List.getElem_cons_succ, List.getElem_cons_zero, List.setIfInBounds_toArray, List.set_cons_zero, List.set_cons_succ])
        refine wpAnyZ_take (i := 10) (v := ?_) rfl (by kernel_rfl) (by kernel_rfl) (by kernel_rfl) rfl (by kernel_rfl) (fun _ _ _ h => h) (gives_value (by rfl) ?_) (by assumption) ?_
        rotate_left
        · intro w hSw
          (try dsimp only at hSw)
          go_simp
          (try with_reducible rfl)
        (try simp only [Act.put, List.getElem_toArray, List.getElem_cons_succ, List.getElem_cons_zero, List.setIfInBounds_toArray, List.set_cons_zero, List.set_cons_succ])
        refine wpAnyZ_take (i := 11) (v := ?_) rfl (by kernel_rfl) (by kernel_rfl) (by kernel_rfl) rfl (by kernel_rfl) (fun _ _ _ h => h) (gives_value (by rfl) ?_) (by assumption) ?_
        rotate_left
        · intro w hSw
          (try dsimp only at hSw)
          go_simp
          (try with_reducible rfl)
        (try simp only [Act.put, List.getElem_toArray, List.getElem_cons_succ, List.getElem_cons_zero, List.setIfInBounds_toArray, List.set_cons_zero, List.set_cons_succ])
        refine wpAnyZ_take (i := 12) (v := ?_) rfl (by kernel_rfl) (by kernel_rfl) (by kernel_rfl) rfl (by kernel_rfl) (fun _ _ _ h => h) (gives_value (by rfl) ?_) (by assumption) ?_
        rotate_left
        · intro w hSw
          (try dsimp only at hSw)
          go_simp
          (try with_reducible rfl)
        (try simp only [Act.put, List.getElem_toArray, List.getElem_cons_succ, List.getElem_cons_zero, List.setIfInBounds_toArray, List.set_cons_zero, List.set_cons_succ])
        refine wpAnyZ_take (i := 13) (v := ?_) rfl (by kernel_rfl) (by kernel_rfl) (by kernel_rfl) rfl (by kernel_rfl) (fun _ _ _ h => h) (gives_value (by rfl) ?_) (by assumption) ?_
        rotate_left
        · intro w hSw
          (try dsimp only at hSw)
          go_simp
          (try with_reducible rfl)
        (try simp only [Act.put, List.getElem_toArray, List.getElem_cons_succ, List.getElem_cons_zero, List.setIfInBounds_toArray, List.set_cons_zero, List.set_cons_succ])
        refine wpAnyZ_take (i := 14) (v := ?_) rfl (by kernel_rfl) (by kernel_rfl) (by kernel_rfl) rfl (by kernel_rfl) (fun _ _ _ h => h) (gives_value (by rfl) ?_) (by assumption) ?_
        rotate_left
        · intro w hSw
          (try dsimp only at hSw)
          go_simp
          (try with_reducible rfl)
        (try simp only [Act.put, List.getElem_toArray, List.getElem_cons_succ, List.getElem_cons_zero, List.setIfInBounds_toArray, List.set_cons_zero, List.set_cons_succ])
        refine wpAnyZ_take (i := 15) (v := ?_) rfl (by kernel_rfl) (by kernel_rfl) (by kernel_rfl) rfl (by kernel_rfl) (fun _ _ _ h => h) (gives_value (by rfl) ?_) (by assumption) ?_
        rotate_left
        · intro w hSw
          (try dsimp only at hSw)
          go_simp
          (try with_reducible rfl)
        (try simp only [Act.put, List.getElem_toArray, List.getElem_cons_succ, List.getElem_cons_zero, List.setIfInBounds_toArray, List.set_cons_zero, List.set_cons_succ])
        refine wpAnyZ_take (i := 16) (v := ?_) rfl (by kernel_rfl) (by kernel_rfl) (by kernel_rfl) rfl (by kernel_rfl) (fun _ _ _ h => h) (gives_value (by rfl) ?_) (by assumption) ?_
        rotate_left
        · intro w hSw
          (try dsimp only at hSw)
          go_simp
          (try with_reducible rfl)
        (try simp only [Act.put, List.getElem_toArray, List.getElem_cons_succ, List.getElem_cons_zero, List.setIfInBounds_toArray, List.set_cons_zero, List.set_cons_succ])
        refine wpAnyZ_one (i := 17) (by kernel_rfl) ?_
        refine zstep rfl (fun K hK => ?_)
        go_simp
        (with_reducible refine (K2.out _ HB20.out).mono ?_)
        rintro e w21 ⟨rfl, mm21, hw21⟩
        have HB21 : Hid (Below wc.heap.size wc w21) := by
          show Below _ _ _
          rw [hw21]
          exact below_draws' HB20.out _
        have S21 := Lib.hid (S23.out w21 HB21.out)
        clear hw21
        refine hK.out _ _ (fun _ => S21.out) (fun hH => ?_)
        replace hH := hH (by decide)
        clear hK K
        (try simp only [Act.put, List.getElem_toArray, List.getElem_cons_succ, List.getElem_cons_zero, List.setIfInBounds_toArray, List.set_cons_zero, List.set_cons_succ])
        refine wpAnyZ_take (i := 18) (v := ?_) rfl (by kernel_rfl) (by kernel_rfl) (by kernel_rfl) rfl (by kernel_rfl) (fun _ _ _ h => h) (gives_value (by rfl) ?_) (by assumption) ?_
        rotate_left
        · intro w hSw
          (try dsimp only at hSw)
          go_simp
          (try with_reducible rfl)
        (try simp only [Act.put, List.getElem_toArray, List.getElem_cons_succ, List.getElem_cons_zero, List.setIfInBounds_toArray, List.set_cons_zero, List.set_cons_succ])
        refine wpAnyZ_take (i := 19) (v := ?_) rfl (by kernel_rfl) (by kernel_rfl) (by kernel_rfl) rfl (by kernel_rfl) (fun _ _ _ h => h) (gives_value (by rfl) ?_) (by assumption) ?_
        rotate_left
        · intro w hSw
          (try dsimp only at hSw)
          go_simp
          (try with_reducible rfl)
        (try simp only [Act.put, List.getElem_toArray, List.getElem_cons_succ, List.getElem_cons_zero, List.setIfInBounds_toArray, List.set_cons_zero, List.set_cons_succ])
        refine wpAnyZ_take (i := 20) (v := ?_) rfl (by kernel_rfl) (by kernel_rfl) (by kernel_rfl) rfl (by kernel_rfl) (fun _ _ _ h => h) (gives_value (by rfl) ?_) (by assumption) ?_
        rotate_left
        · intro w hSw
          (try dsimp only at hSw)
          go_simp
          (try with_reducible rfl)
        (try simp only [Act.put, List.getElem_toArray, List.getElem_cons_succ, List.getElem_cons_zero, List.setIfInBounds_toArray, List.set_cons_zero, List.set_cons_succ])
        refine wpAnyZ_one (i := 21) (by kernel_rfl) ?_
        refine zstep rfl (fun K hK => ?_)
        go_simp
        (with_reducible refine (wakes_any _).mono ?_)
        rintro e wl ⟨rfl, hbl⟩
        have HBc : Hid (Below wc.heap.size wc wl) := HB21.out.trans (hbl.mono HB21.out.size)
        have SL := Lib.hid (S23.out wl HBc.out)
        have HBl : Hid (Below w.heap.size w wl) := HBw.out.trans (HBc.out.mono HBw.out.size)
        clear hbl
        refine hK.out _ _ (fun _ => SL.out) (fun hH => ?_)
        replace hH := hH (by decide)
        clear hK K
        (try simp only [Act.put, List.getElem_toArray, List.getElem_cons_succ, List.getElem_cons_zero, List.setIfInBounds_toArray, List.set_cons_zero, List.set_cons_succ])
        refine wpAnyZ_take (i := 22) (v := ?_) rfl (by kernel_rfl) (by kernel_rfl) (by kernel_rfl) rfl (by kernel_rfl) (fun _ _ _ h => h) (gives_value (by rfl) ?_) (by assumption) ?_
        rotate_left
        · intro w hSw
          (try dsimp only at hSw)
          go_simp
          (try with_reducible rfl)
        (try simp only [Act.put, List.getElem_toArray, List.getElem_cons_succ, List.getElem_cons_zero, List.setIfInBounds_toArray, List.set_cons_zero, List.set_cons_succ])
        refine wpAnyZ_one (i := 23) (by kernel_rfl) ?_
        refine zstep rfl (fun K hK => ?_)
        go_simp
        refine hK.out _ _ (fun h => absurd rfl h) (fun hH => ?_)
        clear hK K hH
        (try simp only [Act.put, List.getElem_toArray, List.getElem_cons_succ, List.getElem_cons_zero, List.setIfInBounds_toArray, List.set_cons_zero, List.set_cons_succ])
        refine wpAnyZ_done (by kernel_rfl) ?_ _
        go_wp2
        go_ret
        exact ⟨rfl, HBl.out⟩
end Go.Proofs.Ytcllnfhjbfmomaa
