/- The walk of FitsAsks: for any rows of numbers, any car, any places the law returns true; old memory stands. -/
import Derived.Test.YtkheepedjoimmaaZD
namespace Go.Proofs.Ytkheepedjoimmaa
open Go.RowKit
set_option linter.unusedSimpArgs false

set_option maxRecDepth 100000 in
set_option maxHeartbeats 16000000 in
theorem asks6_walk (v u u2 : Value) (l row row2 : List Int) (car kk ss : Int) (w : World) (h : Recs w 1 num_ v l) (hl : l.length ≤ 9223372036854775807) (hr : Recs w 1 num_ u row) (hrl : row.length ≤ 9223372036854775807) (hr2 : Recs w 1 num_ u2 row2) (hrl2 : row2.length ≤ 9223372036854775807) :
    Calls Try.prog 6 #[v, u, u2, .int .i64 car, .int .i64 kk, .int .i64 ss] w fun e w' => e = .returned (.bool true) ∧ Below w.heap.size w w' := by
  have HU2 := Lib.hid hr2
  clear hr2
  have HP := Lib.hid (play_said v l w h hl)
  have HU := Lib.hid hr
  clear h hr
  go_enter Try.func6, Try.ntmps6
  go_wp2_with (go_at_call 10; fail)
  (with_reducible refine (HP.out).mono ?_)
  rintro e w1 ⟨i, A1, A2, A3, A4, c1, c2, c3, c4, rfl, hs1, hok, hs2, hs8, hp2, hb1⟩
  have HOK := Lib.hid hok
  have HF := Lib.hid (fine_of hok)
  have HM := Lib.hid (mated_of hok)
  have BX1 := Lib.hid (box_new hs1 28)
  have HB1 := Lib.hid (hb1.alloc hb1.size (.cells #[.slice A1 i.cars.length c1, .slice A2 i.stops.length c2, .slice A3 i.pairs.length c3, .slice A4 i.travel.length c4] 28))
  have hcar := (fine_of hok).cars
  clear hok hs1 hb1 HP
  go_upto_region 2 with (fail)
  generalize w1.alloc (.cells #[.slice A1 i.cars.length c1, .slice A2 i.stops.length c2, .slice A3 i.pairs.length c3, .slice A4 i.travel.length c4] 28) = wa at *
  generalize w1.heap.size = I at *
  have k0 := BX1.out.b0
  have k1 := BX1.out.b1
  have k2 := BX1.out.b2
  have k3 := BX1.out.b3
  have hIz := BX1.out.lt
  obtain ⟨cn, hcn, hcnl⟩ := within_nat car (i.cars.length + 1) (by omega)
  rw [Int.natCast_add, Int.natCast_one] at hcn
  have K0 := Lib.hid (fun W => within_q car ((i.cars.length : Int) + 1) W (by omega) (by omega) _ hcn)
  clear hcn
  have nw : IntKind.i64.wrap ((i.cars.length : Int) + 1) = (i.cars.length : Int) + 1 := IntWalk.i64_in _ (by omega)
  go_wp2_with (go_at_call 11; fail)
  (with_reducible refine (K0.out _).mono ?_)
  rintro e w2 ⟨rfl, hww⟩
  replace hww := hww.symm
  subst hww
  clear K0 nw
  clear k0 k1 k2 k3 hIz
  have k0 := BX1.out.b0
  have k1 := BX1.out.b1
  have k2 := BX1.out.b2
  have k3 := BX1.out.b3
  have hIz := BX1.out.lt
  go_wp2_with (go_at_call 12; fail)
  (with_reducible refine (row_any _ _ i row2 wa BX1.out.lies HOK.out (by omega) hs2 (HU2.out.below HB1.out) hrl2).mono ?_)
  rintro e w2 ⟨r, A, cap, rfl, hr14, hrc, hrx, hrr, hrf, hb2⟩
  have TW := Lib.hid (⟨HB1.out.trans (hb2.mono HB1.out.size), BX1.out.below hb2, hrr⟩ : Two w w2 I A1 A2 A3 A4 c1 c2 c3 c4 i A cap r)
  have HRX := Lib.hid hrx
  have HU3 := Lib.hid (HU.out.below (HB1.out.trans (hb2.mono HB1.out.size)))
  clear hb2 hrr hrf hrx BX1 HB1 HU2 HRX HU
  clear k0 k1 k2 k3 hIz
  have SS : Hid (∀ W, Below w2.heap.size w2 W → W.cell? ⟨I, 0, none⟩ = some (.slice A1 i.cars.length c1) ∧ W.cell? ⟨I, 1, none⟩ = some (.slice A2 i.stops.length c2) ∧ W.cell? ⟨I, 2, none⟩ = some (.slice A3 i.pairs.length c3) ∧ W.cell? ⟨I, 3, none⟩ = some (.slice A4 i.travel.length c4)) := fun W hB => ⟨(TW.out.box.below hB).b0, (TW.out.box.below hB).b1, (TW.out.box.below hB).b2, (TW.out.box.below hB).b3⟩
  have K1 : Hid (∀ W, Below w2.heap.size w2 W → Calls Try.prog 12 #[.agg #[.slice A1 i.cars.length c1, .slice A2 i.stops.length c2, .slice A3 i.pairs.length c3, .slice A4 i.travel.length c4], u] W (RowEnd W)) := fun W hB => row_any _ _ i row W (TW.out.box.lies.below hB) HOK.out (by omega) hs2 (HU3.out.below hB) hrl
  have KN : Hid (∀ (W : World) (A : Option Addr) (q : List Int) (cap : Nat), Below w2.heap.size w2 W → q.length ≤ 900 → Recs W 1 num_ (.slice A q.length cap) q → Calls Try.prog 18 #[.agg #[.slice A1 i.cars.length c1, .slice A2 i.stops.length c2, .slice A3 i.pairs.length c3, .slice A4 i.travel.length c4], .int .i64 cn, .slice A q.length cap] W fun e w' => ∃ a, e = .returned (.pointer (some ⟨a, 0, none⟩)) ∧ Tbl W.heap.size a i cn q w' ∧ Below W.heap.size W w') := fun W A q cap hB hq hr => fnew_any _ i cn q A cap W (TW.out.box.lies.below hB) hr HOK.out (by omega) hq
  go_upto_region 4 with (fail)
  refine wp_region_z (S := (fun W => W.cell? ⟨I, 0, none⟩ = some (.slice A1 i.cars.length c1) ∧ W.cell? ⟨I, 1, none⟩ = some (.slice A2 i.stops.length c2) ∧ W.cell? ⟨I, 2, none⟩ = some (.slice A3 i.pairs.length c3) ∧ W.cell? ⟨I, 3, none⟩ = some (.slice A4 i.travel.length c4))) (z := 12) (by kernel_rfl) (SS.out _ (Below.refl w2.heap.size w2).drew) (fun hH => ?_)
  refine wpAnyZ_takeS (i := 0) (v := ?_) rfl (by kernel_rfl) (by kernel_rfl) (by kernel_rfl) (by kernel_rfl) (fun _ _ _ h => h) (gives_value (by rfl) ?_) (by assumption) ?_
  rotate_left
  · intro w hSw
    (try dsimp only at hSw)
    go_simp
    (try with_reducible rfl)
  (try simp only [Act.put, List.getElem_toArray, List.getElem_cons_succ, List.getElem_cons_zero, List.setIfInBounds_toArray, List.set_cons_zero, List.set_cons_succ])
  refine wpAnyZ_takeS (i := 1) (v := ?_) rfl (by kernel_rfl) (by kernel_rfl) (by kernel_rfl) (by kernel_rfl) (fun _ _ _ h => h) (gives_value (by rfl) ?_) (by assumption) ?_
  rotate_left
  · intro w hSw
    (try dsimp only at hSw)
    go_simp
    (try with_reducible rfl)
  (try simp only [Act.put, List.getElem_toArray, List.getElem_cons_succ, List.getElem_cons_zero, List.setIfInBounds_toArray, List.set_cons_zero, List.set_cons_succ])
  refine wpAnyZ_takeS (i := 2) (v := ?_) rfl (by kernel_rfl) (by kernel_rfl) (by kernel_rfl) (by kernel_rfl) (fun _ _ _ h => h) (gives_value (by rfl) ?_) (by assumption) ?_
  rotate_left
  · intro w hSw
    (try dsimp only at hSw)
    go_simp
    (try with_reducible rfl)
  (try simp only [Act.put, List.getElem_toArray, List.getElem_cons_succ, List.getElem_cons_zero, List.setIfInBounds_toArray, List.set_cons_zero, List.set_cons_succ])
  refine wpAnyZ_takeS (i := 3) (v := ?_) rfl (by kernel_rfl) (by kernel_rfl) (by kernel_rfl) (by kernel_rfl) (fun _ _ _ h => h) (gives_value (by rfl) ?_) (by assumption) ?_
  rotate_left
  · intro w hSw
    (try dsimp only at hSw)
    go_simp
    (try with_reducible rfl)
  (try simp only [Act.put, List.getElem_toArray, List.getElem_cons_succ, List.getElem_cons_zero, List.setIfInBounds_toArray, List.set_cons_zero, List.set_cons_succ])
  refine wpAnyZ_takeS (i := 6) (v := ?_) rfl (by kernel_rfl) (by kernel_rfl) (by kernel_rfl) (by kernel_rfl) (fun _ _ _ h => h) (gives_value (by rfl) ?_) (by assumption) ?_
  rotate_left
  · intro w hSw
    (try dsimp only at hSw)
    go_simp
    (try with_reducible rfl)
  (try simp only [Act.put, List.getElem_toArray, List.getElem_cons_succ, List.getElem_cons_zero, List.setIfInBounds_toArray, List.set_cons_zero, List.set_cons_succ])
  refine wpAnyZ_takeS (i := 7) (v := ?_) rfl (by kernel_rfl) (by kernel_rfl) (by kernel_rfl) (by kernel_rfl) (fun _ _ _ h => h) (gives_value (by rfl) ?_) (by assumption) ?_
  rotate_left
  · intro w hSw
    (try dsimp only at hSw)
    go_simp
    (try with_reducible rfl)
  (try simp only [Act.put, List.getElem_toArray, List.getElem_cons_succ, List.getElem_cons_zero, List.setIfInBounds_toArray, List.set_cons_zero, List.set_cons_succ])
  refine wpAnyZ_takeS (i := 8) (v := ?_) rfl (by kernel_rfl) (by kernel_rfl) (by kernel_rfl) (by kernel_rfl) (fun _ _ _ h => h) (gives_value (by rfl) ?_) (by assumption) ?_
  rotate_left
  · intro w hSw
    (try dsimp only at hSw)
    go_simp
    (try with_reducible rfl)
  (try simp only [Act.put, List.getElem_toArray, List.getElem_cons_succ, List.getElem_cons_zero, List.setIfInBounds_toArray, List.set_cons_zero, List.set_cons_succ])
  refine wpAnyZ_one (i := 4) (by kernel_rfl) ?_
  refine zstep rfl (fun K hK => ?_)
  go_simp
  (with_reducible refine (K1.out _ ((Below.refl w2.heap.size w2).drew)).mono ?_)
  rintro e w3 ⟨q, E, ecap, rfl, hq14, hqc, hqx, hqr, hqf, hb⟩
  have HBw3 := Lib.hid (((Below.refl w2.heap.size w2).drew).trans hb)
  have RQ := Lib.hid hqr
  clear hqx hqr hqf hqc
  clear hb
  refine hK.out _ _ (fun _ => SS.out _ HBw3.out) (fun hH => ?_)
  replace hH := hH (by decide)
  clear hK K
  (try simp only [Act.put, List.getElem_toArray, List.getElem_cons_succ, List.getElem_cons_zero, List.setIfInBounds_toArray, List.set_cons_zero, List.set_cons_succ])
  refine wpAnyZ_one (i := 5) (by kernel_rfl) ?_
  refine zstep rfl (fun K hK => ?_)
  go_simp
  (with_reducible refine (KN.out _ _ _ _ (HBw3.out) (by omega) RQ.out).mono ?_)
  rintro e w4 ⟨a, rfl, ht, hb⟩
  have HBw4 := Lib.hid (HBw3.out.trans (hb.mono HBw3.out.size))
  have TA4 := Lib.hid ht
  clear ht
  clear hb
  refine hK.out _ _ (fun _ => SS.out _ HBw4.out) (fun hH => ?_)
  replace hH := hH (by decide)
  clear hK K
  (try simp only [Act.put, List.getElem_toArray, List.getElem_cons_succ, List.getElem_cons_zero, List.setIfInBounds_toArray, List.set_cons_zero, List.set_cons_succ])
  refine wpAnyZ_one (i := 9) (by kernel_rfl) ?_
  refine zstep rfl (fun K hK => ?_)
  go_simp
  (with_reducible refine (KN.out _ _ _ _ (HBw4.out) (by omega) (TW.out.row.below (HBw4.out))).mono ?_)
  rintro e w5 ⟨b, rfl, ht, hb⟩
  have HBw5 := Lib.hid (HBw4.out.trans (hb.mono HBw4.out.size))
  have TB5 := Lib.hid ht
  have TA5 := Lib.hid (TA4.out.below hb)
  have hab := TA4.out.lt.1
  have hlo := TA4.out.lt.2
  clear ht TA4
  clear hb
  refine hK.out _ _ (fun _ => SS.out _ HBw5.out) (fun hH => ?_)
  replace hH := hH (by decide)
  clear hK K
  (try simp only [Act.put, List.getElem_toArray, List.getElem_cons_succ, List.getElem_cons_zero, List.setIfInBounds_toArray, List.set_cons_zero, List.set_cons_succ])
  refine wpAnyZ_takeS (i := 10) (v := ?_) rfl (by kernel_rfl) (by kernel_rfl) (by kernel_rfl) (by kernel_rfl) (fun _ _ _ h => h) (gives_value (by rfl) ?_) (by assumption) ?_
  rotate_left
  · intro w hSw
    (try dsimp only at hSw)
    go_simp
    (try with_reducible rfl)
  (try simp only [Act.put, List.getElem_toArray, List.getElem_cons_succ, List.getElem_cons_zero, List.setIfInBounds_toArray, List.set_cons_zero, List.set_cons_succ])
  refine wpAnyZ_takeS (i := 11) (v := ?_) rfl (by kernel_rfl) (by kernel_rfl) (by kernel_rfl) (by kernel_rfl) (fun _ _ _ h => h) (gives_value (by rfl) ?_) (by assumption) ?_
  rotate_left
  · intro w hSw
    (try dsimp only at hSw)
    go_simp
    (try with_reducible rfl)
  (try simp only [Act.put, List.getElem_toArray, List.getElem_cons_succ, List.getElem_cons_zero, List.setIfInBounds_toArray, List.set_cons_zero, List.set_cons_succ])
  refine wpAnyZ_done (by kernel_rfl) ?_ _
  have hw3 : w2.heap.size ≤ w3.heap.size := HBw3.out.size
  clear hH SS K1 KN RQ HU3 HBw3 HBw4
  obtain ⟨me, mf, hme⟩ := meetV_form (meetC i cn (headAt i cn q 0) (tailAt i cn q 0))
  have Hme := Lib.hid hme
  clear hme
  have HB5 := HBw5
  clear HBw5
  have K1 : Hid (Calls Try.prog 21 #[.pointer (some ⟨a, 0, none⟩)] w5 fun e w' => e = .returned (.tuple #[.int .i64 me, .bool mf]) ∧ Below w5.heap.size w5 w') := by
    have := Fwhole TA5.out.view HOK.out (by omega) (by omega)
    rw [Hme.out] at this
    exact this
  go_wp2_with (go_at_call 21; fail)
  (with_reducible refine (K1.out).mono ?_)
  rintro e w6 ⟨rfl, hb⟩
  have HB6 := Lib.hid (HB5.out.trans (hb.mono HB5.out.size))
  have TA6 := Lib.hid (TA5.out.below hb)
  have TB6 := Lib.hid (TB5.out.below hb)
  clear hb K1 HB5 TA5 TB5
  obtain ⟨xi1, yi1, hi1⟩ := meetV_form (meetC i cn (extC' i cn (headAt i cn q kk) ss) (tailAt i cn q kk))
  have Hi1 := Lib.hid hi1
  clear hi1
  have K1 : Hid (Calls Try.prog 23 #[.pointer (some ⟨a, 0, none⟩), .int .i64 kk, .int .i64 ss] w6 fun e w' => e = .returned (.tuple #[.int .i64 xi1, .bool yi1]) ∧ Below w6.heap.size w6 w') := by
    have := Fins kk ss TA6.out.view HOK.out (by omega) (by omega)
    rw [Hi1.out] at this
    exact this
  go_wp2_with (go_at_call 23; fail)
  (with_reducible refine (K1.out).mono ?_)
  rintro e w7 ⟨rfl, hb⟩
  have HB7 := Lib.hid (HB6.out.trans (hb.mono HB6.out.size))
  have TA7 := Lib.hid (TA6.out.below hb)
  have TB7 := Lib.hid (TB6.out.below hb)
  clear hb K1 HB6 TA6 TB6
  obtain ⟨xi2, yi2, hi2⟩ := meetV_form (meetC i cn (headAt i cn q kk) (tailAt i cn q (wrap64 (kk + 1))))
  have Hi2 := Lib.hid hi2
  clear hi2
  have K1 : Hid (Calls Try.prog 24 #[.pointer (some ⟨a, 0, none⟩), .int .i64 kk] w7 fun e w' => e = .returned (.tuple #[.int .i64 xi2, .bool yi2]) ∧ Below w7.heap.size w7 w') := by
    have := Frem kk TA7.out.view HOK.out (by omega) (by omega)
    rw [Hi2.out] at this
    exact this
  go_wp2_with (go_at_call 24; fail)
  (with_reducible refine (K1.out).mono ?_)
  rintro e w8 ⟨rfl, hb⟩
  have HB8 := Lib.hid (HB7.out.trans (hb.mono HB7.out.size))
  have TA8 := Lib.hid (TA7.out.below hb)
  have TB8 := Lib.hid (TB7.out.below hb)
  clear hb K1 HB7 TA7 TB7
  obtain ⟨xi3, yi3, hi3⟩ := meetV_form (meetC i cn (headAt i cn q kk) (tailAt i cn r ss))
  have Hi3 := Lib.hid hi3
  clear hi3
  have K1 : Hid (Calls Try.prog 19 #[.pointer (some ⟨a, 0, none⟩), .int .i64 kk, .pointer (some ⟨b, 0, none⟩), .int .i64 ss] w8 fun e w' => e = .returned (.tuple #[.int .i64 xi3, .bool yi3]) ∧ Below w8.heap.size w8 w') := by
    have := Fcross kk ss TA8.out.view TB8.out.view HOK.out (by omega) (by omega) (by omega)
    rw [Hi3.out] at this
    exact this
  go_wp2_with (go_at_call 19; fail)
  (with_reducible refine (K1.out).mono ?_)
  rintro e w9 ⟨rfl, hb⟩
  have HB9 := Lib.hid (HB8.out.trans (hb.mono HB8.out.size))
  have TA9 := Lib.hid (TA8.out.below hb)
  have TB9 := Lib.hid (TB8.out.below hb)
  clear hb K1 HB8 TA8 TB8
  have K1 : Hid (Calls Try.prog 21 #[.pointer (some ⟨a, 0, none⟩)] w9 fun e w' => e = .returned (.tuple #[.int .i64 me, .bool mf]) ∧ Below w9.heap.size w9 w') := by
    have := Fwhole TA9.out.view HOK.out (by omega) (by omega)
    rw [Hme.out] at this
    exact this
  go_wp2_with (go_at_call 21; fail)
  (with_reducible refine (K1.out).mono ?_)
  rintro e w10 ⟨rfl, hb⟩
  have HB10 := Lib.hid (HB9.out.trans (hb.mono HB9.out.size))
  have TA10 := Lib.hid (TA9.out.below hb)
  have TB10 := Lib.hid (TB9.out.below hb)
  clear hb K1 HB9 TA9 TB9
  have t1 : (me != me) = false := by simp
  have t2 : (mf != mf) = false := by simp
  have KS : Hid (Calls Try.prog 25 #[.pointer (some ⟨a, 0, none⟩), .slice A r.length cap] w10 fun e w' => e = .returned (.tuple #[]) ∧ Tbl w3.heap.size a i cn r w' ∧ w10.grownBy w' (some a)) :=
    fset_any w3.heap.size a i cn r A cap w10 TA10.out.pre (recs_ahead TW.out.row (Nat.le_trans hw3 hlo) HB10.out) HOK.out (by omega) (by omega)
  go_wp2_with (go_at_call 25; fail)
  (with_reducible refine (KS.out).mono ?_)
  rintro e v0 ⟨rfl, ht, hg⟩
  have HB11 := Lib.hid (HB10.out.grown hg HB10.out.size (fun k hk => by injection hk with hk; omega))
  have TAv := Lib.hid ht.view
  have TBv := Lib.hid (TB10.out.apart hab (Ex.of_grown hg (fun b hb => by injection hb with hb; exact .inr hb.symm))).view
  have TWv := Lib.hid (TW.out.on HB11.out)
  clear ht hg KS TA10 TB10 HB10 HB11 TW t1 t2 Hme Hi1 Hi2 Hi3
  obtain ⟨sn, hsn, hsnl⟩ := within_nat ss i.stops.length (by omega)
  have K0 := Lib.hid (fun W => within_q ss i.stops.length W (by omega) (by omega) _ hsn)
  clear hsn
  go_wp2
  go_loopw [21] (fun xv wr => ∃ x : Int, -1 ≤ x ∧ x ≤ (r.length : Int) + 2 ∧ xv = .int .i64 x ∧ Below v0.heap.size v0 wr) (fun xv _ => ((r.length : Int) + 2 - intOf xv).toNat)
  case atStart => exact ⟨-1, by omega, by omega, rfl, Below.refl _ _⟩
  case round =>
    obtain ⟨x, hx1, hx2, rfl, hbr⟩ := hrel
    have HBr := Lib.hid hbr
    have TAr := Lib.hid (TAv.out.below hbr)
    have TBr := Lib.hid (TBv.out.below hbr)
    have TWr := Lib.hid (TWv.out.on hbr)
    clear hbr
    have nl : IntKind.i64.wrap ((r.length : Int) + 1) = (r.length : Int) + 1 := IntWalk.i64_in _ (by omega)
    by_cases hx : x ≤ (r.length : Int) + 1
    · have tx : decide (x ≤ (r.length : Int) + 1) = true := by simpa using hx
      have nx : IntKind.i64.wrap (x + 1) = x + 1 := IntWalk.i64_in _ (by omega)
      have ns : IntKind.i64.wrap ((sn : Int) + 1) = (sn : Int) + 1 := IntWalk.i64_in _ (by omega)
      have k0 := TWr.out.box.b0
      have k1 := TWr.out.box.b1
      have k2 := TWr.out.box.b2
      have k3 := TWr.out.box.b3
      have hIz := TWr.out.box.lt
      go_wp2_with (go_at_call 11; fail)
      (with_reducible refine (K0.out _).mono ?_)
      rintro e wz ⟨rfl, hww⟩
      replace hww := hww.symm
      subst hww
      clear k0 k1 k2 k3 hIz
      obtain ⟨p, p', hp1⟩ := meetV_form (meetC i cn (extC' i cn (headAt i cn r x) ((sn : Int) + 1)) (tailAt i cn r x))
      have Hp := Lib.hid hp1
      obtain ⟨f, f', hf1⟩ := meetV_form (meetC i cn (headAt i cn r x) (tailAt i cn r (wrap64 (x + 1))))
      have Hf := Lib.hid hf1
      clear hp1 hf1
      have K1 : Hid (Calls Try.prog 23 #[.pointer (some ⟨a, 0, none⟩), .int .i64 x, .int .i64 ((sn : Int) + 1)] wr fun e w' => e = .returned (.tuple #[.int .i64 p, .bool p']) ∧ Below wr.heap.size wr w') := by
        have := Fins x ((sn : Int) + 1) TAr.out HOK.out (by omega) (by omega)
        rw [Hp.out] at this
        exact this
      go_wp2_with (go_at_call 23; fail)
      (with_reducible refine (K1.out).mono ?_)
      rintro e z1 ⟨rfl, hb⟩
      have HBz1 := Lib.hid (HBr.out.trans (hb.mono HBr.out.size))
      have TAz1 := Lib.hid (TAr.out.below hb)
      have TBz1 := Lib.hid (TBr.out.below hb)
      clear hb K1 HBr TAr TBr
      have K1 : Hid (Calls Try.prog 23 #[.pointer (some ⟨b, 0, none⟩), .int .i64 x, .int .i64 ((sn : Int) + 1)] z1 fun e w' => e = .returned (.tuple #[.int .i64 p, .bool p']) ∧ Below z1.heap.size z1 w') := by
        have := Fins x ((sn : Int) + 1) TBz1.out HOK.out (by omega) (by omega)
        rw [Hp.out] at this
        exact this
      go_wp2_with (go_at_call 23; fail)
      (with_reducible refine (K1.out).mono ?_)
      rintro e z2 ⟨rfl, hb⟩
      have HBz2 := Lib.hid (HBz1.out.trans (hb.mono HBz1.out.size))
      have TAz2 := Lib.hid (TAz1.out.below hb)
      have TBz2 := Lib.hid (TBz1.out.below hb)
      clear hb K1 HBz1 TAz1 TBz1
      have K1 : Hid (Calls Try.prog 24 #[.pointer (some ⟨a, 0, none⟩), .int .i64 x] z2 fun e w' => e = .returned (.tuple #[.int .i64 f, .bool f']) ∧ Below z2.heap.size z2 w') := by
        have := Frem x TAz2.out HOK.out (by omega) (by omega)
        rw [Hf.out] at this
        exact this
      go_wp2_with (go_at_call 24; fail)
      (with_reducible refine (K1.out).mono ?_)
      rintro e z3 ⟨rfl, hb⟩
      have HBz3 := Lib.hid (HBz2.out.trans (hb.mono HBz2.out.size))
      have TAz3 := Lib.hid (TAz2.out.below hb)
      have TBz3 := Lib.hid (TBz2.out.below hb)
      clear hb K1 HBz2 TAz2 TBz2
      have K1 : Hid (Calls Try.prog 24 #[.pointer (some ⟨b, 0, none⟩), .int .i64 x] z3 fun e w' => e = .returned (.tuple #[.int .i64 f, .bool f']) ∧ Below z3.heap.size z3 w') := by
        have := Frem x TBz3.out HOK.out (by omega) (by omega)
        rw [Hf.out] at this
        exact this
      go_wp2_with (go_at_call 24; fail)
      (with_reducible refine (K1.out).mono ?_)
      rintro e z4 ⟨rfl, hb⟩
      have HBz4 := Lib.hid (HBz3.out.trans (hb.mono HBz3.out.size))
      have TAz4 := Lib.hid (TAz3.out.below hb)
      have TBz4 := Lib.hid (TBz3.out.below hb)
      clear hb K1 HBz3 TAz3 TBz3
      have t1 : (p != p) = false := by simp
      have t2 : (p' != p') = false := by simp
      have t3 : (f != f) = false := by simp
      have t4 : (f' != f') = false := by simp
      go_wp2
      go_roundw
      case rel => exact ⟨x + 1, by omega, by omega, rfl, HBz4.out⟩
      case measure => simp [intOf]; omega
    · have tx : decide (x ≤ (r.length : Int) + 1) = false := by simpa using hx
      have tl : ((r.length : Int) == (r.length : Int)) = true := by simp
      have KL := Lib.hid (Flen TAr.out)
      have KW := Lib.hid (wakes6_any wr)
      go_wp2_with (go_at_call 26; fail)
      (with_reducible refine (KL.out).mono ?_)
      rintro e wz ⟨rfl, hww⟩
      replace hww := hww.symm
      subst hww
      go_wp2_with (go_at_call 22; fail)
      (with_reducible refine (KW.out).mono ?_)
      rintro e y5 ⟨rfl, hb⟩
      have TWy := Lib.hid (TWr.out.on hb)
      clear hb KW KL
      go_wp2
      go_ret
      exact ⟨rfl, TWy.out.below⟩
end Go.Proofs.Ytkheepedjoimmaa
