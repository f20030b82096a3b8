/- The walk of TripWaits: for any rows of numbers the law returns true; old memory stands. -/
import Derived.Test.YtcllnfhjbfmomaaTripTwo
import Derived.Test.YtcllnfhjbfmomaaOrders
namespace Go.Proofs.Ytcllnfhjbfmomaa
open Go.RowKit
set_option linter.unusedSimpArgs false

set_option maxRecDepth 100000 in
set_option maxHeartbeats 8000000 in
theorem waits_walk (v u : Value) (l row : List Int) (car : Int) (w : World) (h : Recs w 1 num_ v l) (hl : l.length ≤ 9223372036854775807) (hr : Recs w 1 num_ u row) (hrl : row.length ≤ 9223372036854775807) :
    Calls Try.prog 6 #[v, u, .int .i64 car] w fun e w' => e = .returned (.bool true) ∧ Below w.heap.size w w' := by
  have HP := Lib.hid (play_said v l w h hl)
  have HU := Lib.hid hr
  clear h hr
  go_enter Try.func6, Try.ntmps6
  go_wp2_with (go_at_call 15; fail)
  (with_reducible refine (HP.out).mono ?_)
  rintro e w1 ⟨i, A1, A2, A3, A4, c1, c2, c3, c4, rfl, hs1, hok, hs2, hs8, hp2, hb1⟩
  have HOK := Lib.hid hok
  have HF := Lib.hid (fine_of hok)
  have BX1 := Lib.hid (box_new hs1 34)
  have HB1 := Lib.hid (hb1.alloc hb1.size (.cells #[.slice A1 i.cars.length c1, .slice A2 i.stops.length c2, .slice A3 i.pairs.length c3, .slice A4 i.travel.length c4] 34))
  have hcar := (fine_of hok).cars
  have HTR := Lib.hid (fine_of hok).travel
  clear hok hs1 hb1 HP
  go_upto_region 2 with (fail)
  generalize w1.alloc (.cells #[.slice A1 i.cars.length c1, .slice A2 i.stops.length c2, .slice A3 i.pairs.length c3, .slice A4 i.travel.length c4] 34) = wa at *
  generalize w1.heap.size = I at *
  have k0 := BX1.out.b0
  have k1 := BX1.out.b1
  have k2 := BX1.out.b2
  have k3 := BX1.out.b3
  have hIz := BX1.out.lt
  obtain ⟨cn, hcn, hcnl⟩ := within_nat car i.cars.length (by omega)
  have K0 := Lib.hid (fun W => within_q car i.cars.length W (by omega) (by omega) _ hcn)
  clear hcn
  go_wp2_with (go_at_call 12; fail)
  (with_reducible refine (K0.out _).mono ?_)
  rintro e w2 ⟨rfl, rfl⟩
  go_wp2_with (go_at_call 16; fail)
  (with_reducible refine (row_any _ _ i row w2 BX1.out.lies HOK.out (by omega) hs2 (HU.out.below HB1.out) hrl).mono ?_)
  rintro e w2 ⟨r, A, cap, rfl, hr14, hrc, hrx, hrr, hrf, hb2⟩
  have TW := Lib.hid (⟨HB1.out.trans (hb2.mono HB1.out.size), BX1.out.below hb2, hrr⟩ : Two w w2 I A1 A2 A3 A4 c1 c2 c3 c4 i A cap r)
  clear hb2 hrr hrf hrx k0 k1 k2 k3 hIz BX1 HB1 HU K0
  have k0 := TW.out.box.b0
  have k1 := TW.out.box.b1
  have k2 := TW.out.box.b2
  have k3 := TW.out.box.b3
  have hIz := TW.out.box.lt
  go_wp2_with (go_at_call 9; fail)
  (with_reducible refine (eval_any _ _ i cn r w2 TW.out.box.lies HOK.out (by omega) TW.out.row (by omega)).mono ?_)
  rintro e w4 hti
  obtain ⟨hb4, D1, n1, d1, D2, n2, d2, cc, hh, ok, rfl, htv⟩ := hti.parts
  have TW4 := Lib.hid ((TW.out.on hb4).on ((Below.refl _ _).alloc (Nat.le_refl _) (.cells #[.slice D1 n1 d1, .slice D2 n2 d2, .int .i64 cc, .int .i64 hh] 26)))
  clear hb4 hti k0 k1 k2 k3 hIz TW
  cases ok
  · obtain ⟨_, rfl, rfl, rfl, rfl, rfl, rfl, rfl, rfl⟩ := htv.no rfl
    clear htv
    go_wp2_with (go_at_call 14; fail)
    (with_reducible refine (wakes_any _).mono ?_)
    rintro e w5 ⟨rfl, hb5⟩
    have TW5 := Lib.hid (TW4.out.on hb5)
    clear hb5
    go_wp2
    go_ret
    exact ⟨rfl, TW5.out.below⟩
  · obtain ⟨t, ht, rfl, rfl, hta⟩ := tr_new htv 26
    obtain ⟨hth, _, _, htc, htp, htd, hla, hll⟩ := eval_some ht
    have TA := Lib.hid hta
    have HTH := Lib.hid hth
    have HTC := Lib.hid htc
    have HTP := Lib.hid htp
    have HTD := Lib.hid htd
    have hn1 : n1 = r.length := by rw [hta.e1]; exact hla
    have hn2 : n2 = r.length := by rw [hta.e2]; exact hll
    have HLA := Lib.hid hla
    have HLL := Lib.hid hll
    subst hn1 hn2
    clear hta hth htc htp htd ht htv hla hll
    go_upto_region 7 with (fail)
    generalize w4.alloc (.cells #[.slice D1 r.length d1, .slice D2 r.length d2, .int .i64 t.cost, .int .i64 t.home] 26) = wb at *
    generalize w4.heap.size = T at *
    have t0 := TA.out.b0
    have t1 := TA.out.b1
    have hTz := TA.out.lt
    have k0 := TW4.out.box.b0
    have hIz := TW4.out.box.lt
    obtain ⟨BC, oc, rfl, hBC, q0, q1, q2⟩ := said_car TW4.out.box.lies hcnl
    go_wp2
    have hcb := carAt_bounds HF.out cn
    generalize hCE : carAt i cn = c at *
    have TAW := Lib.hid (And.intro TW4.out TA.out)
    clear t0 t1 k0 q0 q1 q2 hIz hTz TW4 TA hBC
    go_loopw [11, 12, 13, 14, 84] (fun av qv dv sv jv wr => ∃ (k q : Nat) (left ld sum : Int), k ≤ r.length ∧ q ≤ i.stops.length ∧ av = .int .i64 left ∧ qv = .int .i64 q ∧ dv = .int .i64 ld ∧ sv = .int .i64 sum ∧ jv = .int .i64 k ∧ 0 ≤ left ∧ left ≤ 2000 ∧ 0 ≤ ld ∧ ld ≤ 60 ∧ 0 ≤ sum ∧ sum ≤ 1000 * (k : Int) ∧
      driveL i c q left ld (r.drop k) = some ⟨t.arr.drop k, t.load.drop k, t.home⟩ ∧ costL i 0 r = sum + costL i q (r.drop k) ∧ Two w wr I (some ⟨BC, oc, none⟩) A2 A3 A4 c1 c2 c3 c4 i A cap r ∧ TrAt wr T D1 r.length d1 D2 r.length d2 t) (fun _ _ _ _ jv _ => r.length - (intOf jv).toNat)
    case atStart => exact ⟨0, 0, c.s, 0, 0, Nat.zero_le _, Nat.zero_le _, rfl, rfl, rfl, rfl, rfl, by omega, by omega, by omega, by omega, by omega, by omega, HTD.out, by simp, TAW.out.1, TAW.out.2⟩
    case round =>
      obtain ⟨k, q, left, ld, sum, hk, hq, rfl, rfl, rfl, rfl, rfl, hl0, hl1, hd0, hd1, hm0, hm1, hdr, hcs, htw, hta⟩ := hrel
      have TW := Lib.hid htw
      have TA := Lib.hid hta
      clear TAW htw hta
      have t0 := TA.out.b0
      have t1 := TA.out.b1
      have hTz := TA.out.lt
      have k0 := TW.out.box.b0
      have k1 := TW.out.box.b1
      have k3 := TW.out.box.b3
      have hIz := TW.out.box.lt
      rw [HTR.out] at k3
      obtain ⟨BC', oc', e', hBC, q0, q1, q2⟩ := said_car TW.out.box.lies hcnl
      obtain ⟨rfl, rfl⟩ : BC = BC' ∧ oc = oc' := by simpa using e'
      rw [hCE] at q0 q1 q2
      by_cases hlt : k < r.length
      · obtain ⟨h1, h2, h3, h4, h5, h6⟩ := drive_step hlt (by rw [HLA.out]; exact hlt) (by rw [HLL.out]; exact hlt) hdr
        rw [costL_drop hlt] at hcs
        obtain ⟨A', cap', he, hc⟩ := TW.out.row.num
        obtain ⟨rfl, rfl⟩ : A = A' ∧ cap = cap' := by injection he with a _ b; exact ⟨a, b⟩
        obtain ⟨B, o, rfl, hB, c0⟩ := hc k hlt
        obtain ⟨A5, cap5, he5, hc5⟩ := TA.out.r1.num
        obtain ⟨rfl, rfl⟩ : D1 = A5 ∧ d1 = cap5 := by injection he5 with a _ b; exact ⟨a, b⟩
        obtain ⟨B5, o5, rfl, hB5, f5⟩ := hc5 k (by rw [HLA.out]; exact hlt)
        obtain ⟨A6, cap6, he6, hc6⟩ := TA.out.r2.num
        obtain ⟨rfl, rfl⟩ : D2 = A6 ∧ d2 = cap6 := by injection he6 with a _ b; exact ⟨a, b⟩
        obtain ⟨B6, o6, rfl, hB6, f6⟩ := hc6 k (by rw [HLL.out]; exact hlt)
        obtain ⟨p, hp, hpe⟩ := thereB_at HTH.out hlt
        rw [h1] at f5
        rw [h2] at f6
        rw [hpe] at c0 f5 f6 h3 h4 h5 h6 hcs
        have hwb := way_bounds HF.out (q : Int) ((p : Int) + 1)
        obtain ⟨B1, o1, x1, B2, o2, rfl, hB1, g1, hB2, g2⟩ := said_way TW.out.box.lies HF.out (a := q) (b := p + 1) hq (by omega)
        rw [show ((p + 1 : Nat) : Int) = (p : Int) + 1 by omega] at g2
        obtain ⟨B4, o4, rfl, hB4, s0, s1, s2, s3⟩ := said_stop TW.out.box.lies hp
        have hsb := stopAt_bounds HF.out ((p : Int) + 1)
        have HDR := Lib.hid h6
        have HCS := Lib.hid hcs
        clear h1 h2 hc hc5 hc6 he he5 he6 hpe hdr hcs h6
        unfold begun at f5 h3 HDR
        generalize stopAt i ((p : Int) + 1) = st at *
        obtain ⟨sd, so, sc, ss⟩ := st
        simp only at s0 s1 s2 s3 hsb f5 f6 h3 h4 h5 HDR
        generalize way i (q : Int) ((p : Int) + 1) = y at *
        generalize hbe : max so (left + y) = b at *
        have hb1 : so ≤ b ∧ left + y ≤ b ∧ (b = left + y ∨ b = so) := by omega
        clear hbe
        go_upto_region 14 with (fail)
        have BQ := Lib.hid (lb_new wr #[.int .i64 sd, .int .i64 so, .int .i64 sc, .int .i64 ss] 46)
        have HBa := Lib.hid ((Below.refl _ _).alloc (Nat.le_refl _) (.cells #[.int .i64 sd, .int .i64 so, .int .i64 sc, .int .i64 ss] 46) : Below wr.heap.size wr _)
        have TWa := Lib.hid (TW.out.on HBa.out)
        have TAa := Lib.hid (TA.out.below HBa.out)
        generalize wr.alloc (.cells #[.int .i64 sd, .int .i64 so, .int .i64 sc, .int .i64 ss] 46) = wa at *
        have hzQ := BQ.out.1.1
        have b0 := BQ.out.1.c0
        have b1 := BQ.out.1.c1
        have b2 := BQ.out.1.c2
        have b3 := BQ.out.1.c3
        replace t0 := cell_up HBa.out (by omega) t0
        replace t1 := cell_up HBa.out (by omega) t1
        replace k0 := cell_up HBa.out (by omega) k0
        replace k1 := cell_up HBa.out (by omega) k1
        replace k3 := cell_up HBa.out (by omega) k3
        replace q0 := cell_up HBa.out (by omega) q0
        replace f5 := cell_up HBa.out (by omega) f5
        replace f6 := cell_up HBa.out (by omega) f6
        replace g1 := cell_up HBa.out (by omega) g1
        replace g2 := cell_up HBa.out (by omega) g2
        clear s0 s1 s2 s3 c0 q1 q2
        go_upto_region 17 with (fail)
        have y1 : decide (b < so) = false := by simp; omega
        have y2 : decide (sc < b) = false := by simp; omega
        have y3 : decide (b < left + y) = false := by simp; omega
        have y4 : decide (ld + sd < 0) = false := by simp; omega
        have y5 : decide (c.c < ld + sd) = false := by simp; omega
        have y6 : decide (b > sc) = false := by simp; omega
        have y7 : decide (ld + sd > c.c) = false := by simp; omega
        have z1 : (k : Int) < (r.length : Int) := by omega
        have z2 : (0 : Int) ≤ (k : Int) := by omega
        have z3 : ((k : Int)).toNat = k := by omega
        have z4 : (cn : Int) < (i.cars.length : Int) := by omega
        have z5 : (0 : Int) ≤ (cn : Int) := by omega
        have z6 : ((cn : Int)).toNat = cn := by omega
        go_cut [84, 187] from 84 to 197 (fun jv cv wx => jv = .int .i64 k ∧ cv = .bool false ∧ ∃ n, wx = wa.drewN n)
        case first =>
          rcases (show b = left + y ∨ ((b == left + y) = false ∧ (b != left + y) = true ∧ b = so) by
            by_cases e : b = left + y
            · exact .inl e
            · exact .inr ⟨by simpa using e, by simpa using e, by omega⟩) with e | ⟨e1, e2, e3⟩
          · subst e
            simp only [List.append_eq, List.cons_append, List.nil_append]
            go_big_quiet (fail)
            go_wp2_with fail
            go_meet
            exact ⟨rfl, rfl, _, rfl⟩
          · subst e3
            simp only [List.append_eq, List.cons_append, List.nil_append]
            go_big_quiet (fail)
            go_wp2_with fail
            go_meet
            exact ⟨rfl, rfl, _, rfl⟩
        case rest =>
          obtain ⟨rfl, rfl, nn, rfl⟩ := hcut
          have q12 : IntKind.i64.wrap (b + ss) = b + ss := IntWalk.i64_in _ (by omega)
          go_upto_region 19 with (fail)
          go_quiet (fail)
          go_wp2
          go_roundw
          case rel => exact ⟨k + 1, p + 1, b + ss, ld + sd, sum + y, by omega, by omega, by go_num, by go_num, by go_num, by go_num, by go_num, by omega, by omega, by omega, by omega, by omega, by omega, HDR.out, by rw [HCS.out]; simp only [Int.natCast_add, Int.natCast_one]; omega, TWa.out.on (below_draws' (Below.refl _ _) _), TAa.out.below (below_draws' (Below.refl _ _) _)⟩
          case measure => simp [intOf]; omega
      · have hkr : k = r.length := by omega
        subst hkr
        rw [List.drop_length] at hdr hcs
        obtain ⟨hhome, hend⟩ := drive_end hdr
        simp only [costL] at hcs
        have hwb := way_bounds HF.out (q : Int) 0
        obtain ⟨B1, o1, x1, B2, o2, rfl, hB1, g1, hB2, g2⟩ := said_way TW.out.box.lies HF.out (a := q) (b := 0) hq (by omega)
        simp only [Int.natCast_zero, Nat.add_zero] at g2
        have hcost : t.cost = sum + way i q 0 := by rw [HTC.out, hcs]
        have hcp : costP i r = sum + way i q 0 := by rw [HTP.out, hcs]
        have t2 := TA.out.b2
        have t3 := TA.out.b3
        have k2 := TW.out.box.b2
        rw [hcost] at t2
        rw [hhome] at t3 hend
        have HCP := Lib.hid hcp
        clear hdr hcs hcost hhome hcp q0 q1 t0 t1
        generalize way i (q : Int) 0 = y at *
        go_upto_region 22 with (fail)
        have f1 : IntKind.i64.wrap (sum + y) = sum + y := IntWalk.i64_in _ (by omega)
        have f2 : decide (left + y ≤ c.e) = true := by simpa using hend
        have z3 : (cn : Int) < (i.cars.length : Int) := by omega
        have z4 : (q : Int) < (i.stops.length : Int) + 1 := by omega
        have z5 : (0 : Int) < (i.stops.length : Int) + 1 := by omega
        have hSize : I < wr.drew.heap.size ∧ T < wr.drew.heap.size ∧ BC < wr.drew.heap.size ∧ B1 < wr.drew.heap.size ∧ B2 < wr.drew.heap.size := ⟨hIz, hTz, hBC, hB1, hB2⟩
        have TWd := Lib.hid (TW.out.on ((Below.refl _ _).drew))
        refine wp_region_z (S := (fun w' => w'.cell? ⟨T, 2, none⟩ = some (.int .i64 (sum + y)) ∧ w'.cell? ⟨T, 3, none⟩ = some (.int .i64 (left + y)) ∧ w'.cell? ⟨I, 0, none⟩ = some (.slice (some ⟨BC, oc, none⟩) i.cars.length c1) ∧ w'.cell? ⟨I, 1, none⟩ = some (.slice A2 i.stops.length c2) ∧ w'.cell? ⟨I, 2, none⟩ = some (.slice A3 i.pairs.length c3) ∧ w'.cell? ⟨I, 3, none⟩ = some (.slice (some ⟨B1, o1, none⟩) (i.stops.length + 1) c4) ∧
          w'.cell? ⟨BC, oc + cn * 3 + 2, none⟩ = some (.int .i64 c.e) ∧ w'.cell? ⟨B1, o1 + q, none⟩ = some (.slice (some ⟨B2, o2, none⟩) (i.stops.length + 1) x1) ∧ w'.cell? ⟨B2, o2, none⟩ = some (.int .i64 y))) (z := 39) (by kernel_rfl) ⟨t2, t3, k0, k1, k2, k3, q2, g1, g2⟩ (fun hH => ?_)
        have S0 := hH
        clear t2 t3 k0 k1 k2 k3 q2 g1 g2
        generalize wr.drew = wd at *
        refine wpAnyZ_take (i := 0) (v := ?_) rfl (by kernel_rfl) (by kernel_rfl) (by kernel_rfl) rfl (by kernel_rfl) (fun _ _ _ h => h) (gives_value (by rfl) ?_) (by assumption) ?_
        rotate_left
        · intro w hSw
          (try dsimp only at hSw)
          go_simp
          (try with_reducible rfl)
        (try simp only [Act.put, List.getElem_toArray, List.getElem_cons_succ, List.getElem_cons_zero, List.setIfInBounds_toArray, List.set_cons_zero, List.set_cons_succ])
        refine wpAnyZ_take (i := 1) (v := ?_) rfl (by kernel_rfl) (by kernel_rfl) (by kernel_rfl) rfl (by kernel_rfl) (fun _ _ _ h => h) (gives_value (by rfl) ?_) (by assumption) ?_
        rotate_left
        · intro w hSw
          (try dsimp only at hSw)
          go_simp
          (try with_reducible rfl)
        (try simp only [Act.put, List.getElem_toArray, List.getElem_cons_succ, List.getElem_cons_zero, List.setIfInBounds_toArray, List.set_cons_zero, List.set_cons_succ])
        refine wpAnyZ_take (i := 2) (v := ?_) rfl (by kernel_rfl) (by kernel_rfl) (by kernel_rfl) rfl (by kernel_rfl) (fun _ _ _ h => h) (gives_value (by rfl) ?_) (by assumption) ?_
        rotate_left
        · intro w hSw
          (try dsimp only at hSw)
          go_simp
          (try with_reducible rfl)
        (try simp only [Act.put, List.getElem_toArray, List.getElem_cons_succ, List.getElem_cons_zero, List.setIfInBounds_toArray, List.set_cons_zero, List.set_cons_succ])
        refine wpAnyZ_take (i := 3) (v := ?_) rfl (by kernel_rfl) (by kernel_rfl) (by kernel_rfl) rfl (by kernel_rfl) (fun _ _ _ h => h) (gives_value (by rfl) ?_) (by assumption) ?_
        rotate_left
        · intro w hSw
          (try dsimp only at hSw)
          go_simp
          (try with_reducible rfl)
        (try simp only [Act.put, List.getElem_toArray, List.getElem_cons_succ, List.getElem_cons_zero, List.setIfInBounds_toArray, List.set_cons_zero, List.set_cons_succ])
        refine wpAnyZ_take (i := 4) (v := ?_) rfl (by kernel_rfl) (by kernel_rfl) (by kernel_rfl) rfl (by kernel_rfl) (fun _ _ _ h => h) (gives_value (by rfl) ?_) (by assumption) ?_
        rotate_left
        · intro w hSw
          (try dsimp only at hSw)
          go_simp
          (try with_reducible rfl)
        (try simp only [Act.put, List.getElem_toArray, List.getElem_cons_succ, List.getElem_cons_zero, List.setIfInBounds_toArray, List.set_cons_zero, List.set_cons_succ])
        refine wpAnyZ_take (i := 5) (v := ?_) rfl (by kernel_rfl) (by kernel_rfl) (by kernel_rfl) rfl (by kernel_rfl) (fun _ _ _ h => h) (gives_value (by rfl) ?_) (by assumption) ?_
        rotate_left
        · intro w hSw
          (try dsimp only at hSw)
          go_simp
          (try with_reducible rfl)
        (try simp only [Act.put, List.getElem_toArray, List.getElem_cons_succ, List.getElem_cons_zero, List.setIfInBounds_toArray, List.set_cons_zero, List.set_cons_succ])
        refine wpAnyZ_take (i := 6) (v := ?_) rfl (by kernel_rfl) (by kernel_rfl) (by kernel_rfl) rfl (by kernel_rfl) (fun _ _ _ h => h) (gives_value (by rfl) ?_) (by assumption) ?_
        rotate_left
        · intro w hSw
          (try dsimp only at hSw)
          go_simp
          (try with_reducible rfl)
        (try simp only [Act.put, List.getElem_toArray, List.getElem_cons_succ, List.getElem_cons_zero, List.setIfInBounds_toArray, List.set_cons_zero, List.set_cons_succ])
        refine wpAnyZ_take (i := 7) (v := ?_) rfl (by kernel_rfl) (by kernel_rfl) (by kernel_rfl) rfl (by kernel_rfl) (fun _ _ _ h => h) (gives_value (by rfl) ?_) (by assumption) ?_
        rotate_left
        · intro w hSw
          (try dsimp only at hSw)
          go_simp
          (try with_reducible rfl)
        (try simp only [Act.put, List.getElem_toArray, List.getElem_cons_succ, List.getElem_cons_zero, List.setIfInBounds_toArray, List.set_cons_zero, List.set_cons_succ])
        refine wpAnyZ_take (i := 8) (v := ?_) rfl (by kernel_rfl) (by kernel_rfl) (by kernel_rfl) rfl (by kernel_rfl) (fun _ _ _ h => h) (gives_value (by rfl) ?_) (by assumption) ?_
        rotate_left
        · intro w hSw
          (try dsimp only at hSw)
          go_simp
          (try with_reducible rfl)
        (try simp only [Act.put, List.getElem_toArray, List.getElem_cons_succ, List.getElem_cons_zero, List.setIfInBounds_toArray, List.set_cons_zero, List.set_cons_succ])
        refine wpAnyZ_take (i := 9) (v := ?_) rfl (by kernel_rfl) (by kernel_rfl) (by kernel_rfl) rfl (by kernel_rfl) (fun _ _ _ h => h) (gives_value (by rfl) ?_) (by assumption) ?_
        rotate_left
        · intro w hSw
          (try dsimp only at hSw)
          go_simp
          (try with_reducible rfl)
        (try simp only [Act.put, List.getElem_toArray, List.getElem_cons_succ, List.getElem_cons_zero, List.setIfInBounds_toArray, List.set_cons_zero, List.set_cons_succ])
        refine wpAnyZ_take (i := 10) (v := ?_) rfl (by kernel_rfl) (by kernel_rfl) (by kernel_rfl) rfl (by kernel_rfl) (fun _ _ _ h => h) (gives_value (by rfl) ?_) (by assumption) ?_
        rotate_left
        · intro w hSw
          (try dsimp only at hSw)
          go_simp
          (try with_reducible rfl)
        (try simp only [Act.put, List.getElem_toArray, List.getElem_cons_succ, List.getElem_cons_zero, List.setIfInBounds_toArray, List.set_cons_zero, List.set_cons_succ])
        refine wpAnyZ_take (i := 11) (v := ?_) rfl (by kernel_rfl) (by kernel_rfl) (by kernel_rfl) rfl (by kernel_rfl) (fun _ _ _ h => h) (gives_value (by rfl) ?_) (by assumption) ?_
        rotate_left
        · intro w hSw
          (try dsimp only at hSw)
          go_simp
          (try with_reducible rfl)
        (try simp only [Act.put, List.getElem_toArray, List.getElem_cons_succ, List.getElem_cons_zero, List.setIfInBounds_toArray, List.set_cons_zero, List.set_cons_succ])
        refine wpAnyZ_take (i := 12) (v := ?_) rfl (by kernel_rfl) (by kernel_rfl) (by kernel_rfl) rfl (by kernel_rfl) (fun _ _ _ h => h) (gives_value (by rfl) ?_) (by assumption) ?_
        rotate_left
        · intro w hSw
          (try dsimp only at hSw)
          go_simp
          (try with_reducible rfl)
        (try simp only [Act.put, List.getElem_toArray, List.getElem_cons_succ, List.getElem_cons_zero, List.setIfInBounds_toArray, List.set_cons_zero, List.set_cons_succ])
        refine wpAnyZ_take (i := 13) (v := ?_) rfl (by kernel_rfl) (by kernel_rfl) (by kernel_rfl) rfl (by kernel_rfl) (fun _ _ _ h => h) (gives_value (by rfl) ?_) (by assumption) ?_
        rotate_left
        · intro w hSw
          (try dsimp only at hSw)
          go_simp
          (try with_reducible rfl)
        (try simp only [Act.put, List.getElem_toArray, List.getElem_cons_succ, List.getElem_cons_zero, List.setIfInBounds_toArray, List.set_cons_zero, List.set_cons_succ])
        refine wpAnyZ_take (i := 14) (v := ?_) rfl (by kernel_rfl) (by kernel_rfl) (by kernel_rfl) rfl (by kernel_rfl) (fun _ _ _ h => h) (gives_value (by rfl) ?_) (by assumption) ?_
        rotate_left
        · intro w hSw
          (try dsimp only at hSw)
          go_simp
          (try with_reducible rfl)
        (try simp only [Act.put, List.getElem_toArray, List.getElem_cons_succ, List.getElem_cons_zero, List.setIfInBounds_toArray, List.set_cons_zero, List.set_cons_succ])
        refine wpAnyZ_take (i := 15) (v := ?_) rfl (by kernel_rfl) (by kernel_rfl) (by kernel_rfl) rfl (by kernel_rfl) (fun _ _ _ h => h) (gives_value (by rfl) ?_) (by assumption) ?_
        rotate_left
        · intro w hSw
          (try dsimp only at hSw)
          go_simp
          (try with_reducible rfl)
        (try simp only [Act.put, List.getElem_toArray, List.getElem_cons_succ, List.getElem_cons_zero, List.setIfInBounds_toArray, List.set_cons_zero, List.set_cons_succ])
        refine wpAnyZ_take (i := 16) (v := ?_) rfl (by kernel_rfl) (by kernel_rfl) (by kernel_rfl) rfl (by kernel_rfl) (fun _ _ _ h => h) (gives_value (by rfl) ?_) (by assumption) ?_
        rotate_left
        · intro w hSw
          (try dsimp only at hSw)
          go_simp
          (try with_reducible rfl)
        (try simp only [Act.put, List.getElem_toArray, List.getElem_cons_succ, List.getElem_cons_zero, List.setIfInBounds_toArray, List.set_cons_zero, List.set_cons_succ])
        refine wpAnyZ_take (i := 17) (v := ?_) rfl (by kernel_rfl) (by kernel_rfl) (by kernel_rfl) rfl (by kernel_rfl) (fun _ _ _ h => h) (gives_value (by rfl) ?_) (by assumption) ?_
        rotate_left
        · intro w hSw
          (try dsimp only at hSw)
          go_simp
          (try with_reducible rfl)
        (try simp only [Act.put, List.getElem_toArray, List.getElem_cons_succ, List.getElem_cons_zero, List.setIfInBounds_toArray, List.set_cons_zero, List.set_cons_succ])
        refine wpAnyZ_take (i := 18) (v := ?_) rfl (by kernel_rfl) (by kernel_rfl) (by kernel_rfl) rfl (by kernel_rfl) (fun _ _ _ h => h) (gives_value (by rfl) ?_) (by assumption) ?_
        rotate_left
        · intro w hSw
          (try dsimp only at hSw)
          go_simp
          (try with_reducible rfl)
        (try simp only [Act.put, List.getElem_toArray, List.getElem_cons_succ, List.getElem_cons_zero, List.setIfInBounds_toArray, List.set_cons_zero, List.set_cons_succ])
        refine wpAnyZ_take (i := 19) (v := ?_) rfl (by kernel_rfl) (by kernel_rfl) (by kernel_rfl) rfl (by kernel_rfl) (fun _ _ _ h => h) (gives_value (by rfl) ?_) (by assumption) ?_
        rotate_left
        · intro w hSw
          (try dsimp only at hSw)
          go_simp
          (try with_reducible rfl)
        (try simp only [Act.put, List.getElem_toArray, List.getElem_cons_succ, List.getElem_cons_zero, List.setIfInBounds_toArray, List.set_cons_zero, List.set_cons_succ])
        refine wpAnyZ_take (i := 20) (v := ?_) rfl (by kernel_rfl) (by kernel_rfl) (by kernel_rfl) rfl (by kernel_rfl) (fun _ _ _ h => h) (gives_value (by rfl) ?_) (by assumption) ?_
        rotate_left
        · intro w hSw
          (try dsimp only at hSw)
          go_simp
          (try with_reducible rfl)
        (try simp only [Act.put, List.getElem_toArray, List.getElem_cons_succ, List.getElem_cons_zero, List.setIfInBounds_toArray, List.set_cons_zero, List.set_cons_succ])
        refine wpAnyZ_take (i := 21) (v := ?_) rfl (by kernel_rfl) (by kernel_rfl) (by kernel_rfl) rfl (by kernel_rfl) (fun _ _ _ h => h) (gives_value (by rfl) ?_) (by assumption) ?_
        rotate_left
        · intro w hSw
          (try dsimp only at hSw)
          go_simp
          (try with_reducible rfl)
        (try simp only [Act.put, List.getElem_toArray, List.getElem_cons_succ, List.getElem_cons_zero, List.setIfInBounds_toArray, List.set_cons_zero, List.set_cons_succ])
        refine wpAnyZ_take (i := 22) (v := ?_) rfl (by kernel_rfl) (by kernel_rfl) (by kernel_rfl) rfl (by kernel_rfl) (fun _ _ _ h => h) (gives_value (by rfl) ?_) (by assumption) ?_
        rotate_left
        · intro w hSw
          (try dsimp only at hSw)
          go_simp
          (try with_reducible rfl)
        (try simp only [Act.put, List.getElem_toArray, List.getElem_cons_succ, List.getElem_cons_zero, List.setIfInBounds_toArray, List.set_cons_zero, List.set_cons_succ])
        refine wpAnyZ_take (i := 23) (v := ?_) rfl (by kernel_rfl) (by kernel_rfl) (by kernel_rfl) rfl (by kernel_rfl) (fun _ _ _ h => h) (gives_value (by rfl) ?_) (by assumption) ?_
        rotate_left
        · intro w hSw
          (try dsimp only at hSw)
          go_simp
          (try with_reducible rfl)
        (try simp only [Act.put, List.getElem_toArray, List.getElem_cons_succ, List.getElem_cons_zero, List.setIfInBounds_toArray, List.set_cons_zero, List.set_cons_succ])
        refine wpAnyZ_take (i := 24) (v := ?_) rfl (by kernel_rfl) (by kernel_rfl) (by kernel_rfl) rfl (by kernel_rfl) (fun _ _ _ h => h) (gives_value (by rfl) ?_) (by assumption) ?_
        rotate_left
        · intro w hSw
          (try dsimp only at hSw)
          go_simp
          (try with_reducible rfl)
        (try simp only [Act.put, List.getElem_toArray, List.getElem_cons_succ, List.getElem_cons_zero, List.setIfInBounds_toArray, List.set_cons_zero, List.set_cons_succ])
        refine wpAnyZ_take (i := 25) (v := ?_) rfl (by kernel_rfl) (by kernel_rfl) (by kernel_rfl) rfl (by kernel_rfl) (fun _ _ _ h => h) (gives_value (by rfl) ?_) (by assumption) ?_
        rotate_left
        · intro w hSw
          (try dsimp only at hSw)
          go_simp
          (try with_reducible rfl)
        (try simp only [Act.put, List.getElem_toArray, List.getElem_cons_succ, List.getElem_cons_zero, List.setIfInBounds_toArray, List.set_cons_zero, List.set_cons_succ])
        refine wpAnyZ_take (i := 26) (v := ?_) rfl (by kernel_rfl) (by kernel_rfl) (by kernel_rfl) rfl (by kernel_rfl) (fun _ _ _ h => h) (gives_value (by rfl) ?_) (by assumption) ?_
        rotate_left
        · intro w hSw
          (try dsimp only at hSw)
          go_simp
          (try with_reducible rfl)
        (try simp only [Act.put, List.getElem_toArray, List.getElem_cons_succ, List.getElem_cons_zero, List.setIfInBounds_toArray, List.set_cons_zero, List.set_cons_succ])
        refine wpAnyZ_take (i := 27) (v := ?_) rfl (by kernel_rfl) (by kernel_rfl) (by kernel_rfl) rfl (by kernel_rfl) (fun _ _ _ h => h) (gives_value (by rfl) ?_) (by assumption) ?_
        rotate_left
        · intro w hSw
          (try dsimp only at hSw)
          go_simp
          (try with_reducible rfl)
        (try simp only [Act.put, List.getElem_toArray, List.getElem_cons_succ, List.getElem_cons_zero, List.setIfInBounds_toArray, List.set_cons_zero, List.set_cons_succ])
        refine wpAnyZ_take (i := 28) (v := ?_) rfl (by kernel_rfl) (by kernel_rfl) (by kernel_rfl) rfl (by kernel_rfl) (fun _ _ _ h => h) (gives_value (by rfl) ?_) (by assumption) ?_
        rotate_left
        · intro w hSw
          (try dsimp only at hSw)
          go_simp
          (try with_reducible rfl)
        (try simp only [Act.put, List.getElem_toArray, List.getElem_cons_succ, List.getElem_cons_zero, List.setIfInBounds_toArray, List.set_cons_zero, List.set_cons_succ])
        refine wpAnyZ_take (i := 29) (v := ?_) rfl (by kernel_rfl) (by kernel_rfl) (by kernel_rfl) rfl (by kernel_rfl) (fun _ _ _ h => h) (gives_value (by rfl) ?_) (by assumption) ?_
        rotate_left
        · intro w hSw
          (try dsimp only at hSw)
          go_simp
          (try with_reducible rfl)
        (try simp only [Act.put, List.getElem_toArray, List.getElem_cons_succ, List.getElem_cons_zero, List.setIfInBounds_toArray, List.set_cons_zero, List.set_cons_succ])
        refine wpAnyZ_take (i := 30) (v := ?_) rfl (by kernel_rfl) (by kernel_rfl) (by kernel_rfl) rfl (by kernel_rfl) (fun _ _ _ h => h) (gives_value (by rfl) ?_) (by assumption) ?_
        rotate_left
        · intro w hSw
          (try dsimp only at hSw)
          go_simp
          (try with_reducible rfl)
        (try simp only [Act.put, List.getElem_toArray, List.getElem_cons_succ, List.getElem_cons_zero, List.setIfInBounds_toArray, List.set_cons_zero, List.set_cons_succ])
        refine wpAnyZ_take (i := 32) (v := ?_) rfl (by kernel_rfl) (by kernel_rfl) (by kernel_rfl) rfl (by kernel_rfl) (fun _ _ _ h => h) (gives_value (by rfl) ?_) (by assumption) ?_
        rotate_left
        · intro w hSw
          (try dsimp only at hSw)
          go_simp
          (try with_reducible rfl)
        (try simp only [Act.put, List.getElem_toArray, List.getElem_cons_succ, List.getElem_cons_zero, List.setIfInBounds_toArray, List.set_cons_zero, List.set_cons_succ])
        refine wpAnyZ_take (i := 33) (v := ?_) rfl (by kernel_rfl) (by kernel_rfl) (by kernel_rfl) rfl (by kernel_rfl) (fun _ _ _ h => h) (gives_value (by rfl) ?_) (by assumption) ?_
        rotate_left
        · intro w hSw
          (try dsimp only at hSw)
          go_simp
          (try with_reducible rfl)
        (try simp only [Act.put, List.getElem_toArray, List.getElem_cons_succ, List.getElem_cons_zero, List.setIfInBounds_toArray, List.set_cons_zero, List.set_cons_succ])
        refine wpAnyZ_one (i := 31) (by kernel_rfl) ?_
        refine zstep rfl (fun K hK => ?_)
        go_simp
        (with_reducible refine (cost_any _ _ i r wd (by have := TWd.out.box.lies; rw [Said, HTR.out] at this; exact this) HOK.out (by omega) TWd.out.row (by omega)).mono ?_)
        rw [HCP.out]
        rintro e w5 ⟨rfl, hb5⟩
        have TW5 := Lib.hid (TWd.out.on hb5)
        have S5 := (by obtain ⟨a0, a1, a2, a3, a4, a5, a6, a7, a8⟩ := S0; exact ⟨cell_up hb5 (by omega) a0, cell_up hb5 (by omega) a1, cell_up hb5 (by omega) a2, cell_up hb5 (by omega) a3, cell_up hb5 (by omega) a4, cell_up hb5 (by omega) a5, cell_up hb5 (by omega) a6, cell_up hb5 (by omega) a7, cell_up hb5 (by omega) a8⟩ : (fun w' => w'.cell? ⟨T, 2, none⟩ = some (.int .i64 (sum + y)) ∧ w'.cell? ⟨T, 3, none⟩ = some (.int .i64 (left + y)) ∧ w'.cell? ⟨I, 0, none⟩ = some (.slice (some ⟨BC, oc, none⟩) i.cars.length c1) ∧ w'.cell? ⟨I, 1, none⟩ = some (.slice A2 i.stops.length c2) ∧ w'.cell? ⟨I, 2, none⟩ = some (.slice A3 i.pairs.length c3) ∧ w'.cell? ⟨I, 3, none⟩ = some (.slice (some ⟨B1, o1, none⟩) (i.stops.length + 1) c4) ∧
          w'.cell? ⟨BC, oc + cn * 3 + 2, none⟩ = some (.int .i64 c.e) ∧ w'.cell? ⟨B1, o1 + q, none⟩ = some (.slice (some ⟨B2, o2, none⟩) (i.stops.length + 1) x1) ∧ w'.cell? ⟨B2, o2, none⟩ = some (.int .i64 y)) w5)
        have hSz5 : I < w5.heap.size ∧ T < w5.heap.size ∧ BC < w5.heap.size ∧ B1 < w5.heap.size ∧ B2 < w5.heap.size := by have := hb5.size; omega
        clear hb5
        refine hK.out _ _ (fun _ => S5) (fun hH => ?_)
        replace hH := hH (by decide)
        clear hK K
        (try simp only [Act.put, List.getElem_toArray, List.getElem_cons_succ, List.getElem_cons_zero, List.setIfInBounds_toArray, List.set_cons_zero, List.set_cons_succ])
        refine wpAnyZ_take (i := 34) (v := ?_) rfl (by kernel_rfl) (by kernel_rfl) (by kernel_rfl) rfl (by kernel_rfl) (fun _ _ _ h => h) (gives_value (by rfl) ?_) (by assumption) ?_
        rotate_left
        · intro w hSw
          (try dsimp only at hSw)
          go_simp
          (try with_reducible rfl)
        (try simp only [Act.put, List.getElem_toArray, List.getElem_cons_succ, List.getElem_cons_zero, List.setIfInBounds_toArray, List.set_cons_zero, List.set_cons_succ])
        refine wpAnyZ_take (i := 35) (v := ?_) rfl (by kernel_rfl) (by kernel_rfl) (by kernel_rfl) rfl (by kernel_rfl) (fun _ _ _ h => h) (gives_value (by rfl) ?_) (by assumption) ?_
        rotate_left
        · intro w hSw
          (try dsimp only at hSw)
          go_simp
          (try with_reducible rfl)
        (try simp only [Act.put, List.getElem_toArray, List.getElem_cons_succ, List.getElem_cons_zero, List.setIfInBounds_toArray, List.set_cons_zero, List.set_cons_succ])
        refine wpAnyZ_take (i := 36) (v := ?_) rfl (by kernel_rfl) (by kernel_rfl) (by kernel_rfl) rfl (by kernel_rfl) (fun _ _ _ h => h) (gives_value (by rfl) ?_) (by assumption) ?_
        rotate_left
        · intro w hSw
          (try dsimp only at hSw)
          go_simp
          (try with_reducible rfl)
        (try simp only [Act.put, List.getElem_toArray, List.getElem_cons_succ, List.getElem_cons_zero, List.setIfInBounds_toArray, List.set_cons_zero, List.set_cons_succ])
        refine wpAnyZ_one (i := 37) (by kernel_rfl) ?_
        refine zstep rfl (fun K hK => ?_)
        go_simp
        (with_reducible refine (wakes_any w5).mono ?_)
        rintro e w6 ⟨rfl, hb6⟩
        have TW6 := Lib.hid (TW5.out.on hb6)
        have S6 := (by obtain ⟨a0, a1, a2, a3, a4, a5, a6, a7, a8⟩ := S5; exact ⟨cell_up hb6 (by omega) a0, cell_up hb6 (by omega) a1, cell_up hb6 (by omega) a2, cell_up hb6 (by omega) a3, cell_up hb6 (by omega) a4, cell_up hb6 (by omega) a5, cell_up hb6 (by omega) a6, cell_up hb6 (by omega) a7, cell_up hb6 (by omega) a8⟩ : (fun w' => w'.cell? ⟨T, 2, none⟩ = some (.int .i64 (sum + y)) ∧ w'.cell? ⟨T, 3, none⟩ = some (.int .i64 (left + y)) ∧ w'.cell? ⟨I, 0, none⟩ = some (.slice (some ⟨BC, oc, none⟩) i.cars.length c1) ∧ w'.cell? ⟨I, 1, none⟩ = some (.slice A2 i.stops.length c2) ∧ w'.cell? ⟨I, 2, none⟩ = some (.slice A3 i.pairs.length c3) ∧ w'.cell? ⟨I, 3, none⟩ = some (.slice (some ⟨B1, o1, none⟩) (i.stops.length + 1) c4) ∧
          w'.cell? ⟨BC, oc + cn * 3 + 2, none⟩ = some (.int .i64 c.e) ∧ w'.cell? ⟨B1, o1 + q, none⟩ = some (.slice (some ⟨B2, o2, none⟩) (i.stops.length + 1) x1) ∧ w'.cell? ⟨B2, o2, none⟩ = some (.int .i64 y)) w6)
        clear hb6
        refine hK.out _ _ (fun _ => S6) (fun hH => ?_)
        replace hH := hH (by decide)
        clear hK K
        (try simp only [Act.put, List.getElem_toArray, List.getElem_cons_succ, List.getElem_cons_zero, List.setIfInBounds_toArray, List.set_cons_zero, List.set_cons_succ])
        refine wpAnyZ_take (i := 38) (v := ?_) rfl (by kernel_rfl) (by kernel_rfl) (by kernel_rfl) rfl (by kernel_rfl) (fun _ _ _ h => h) (gives_value (by rfl) ?_) (by assumption) ?_
        rotate_left
        · intro w hSw
          (try dsimp only at hSw)
          go_simp
          (try with_reducible rfl)
        (try simp only [Act.put, List.getElem_toArray, List.getElem_cons_succ, List.getElem_cons_zero, List.setIfInBounds_toArray, List.set_cons_zero, List.set_cons_succ])
        refine wpAnyZ_one (i := 39) (by kernel_rfl) ?_
        refine zstep rfl (fun K hK => ?_)
        go_simp
        refine hK.out _ _ (fun h => absurd rfl h) (fun _ => ?_)
        clear hK K
        (try simp only [Act.put, List.getElem_toArray, List.getElem_cons_succ, List.getElem_cons_zero, List.setIfInBounds_toArray, List.set_cons_zero, List.set_cons_succ])
        refine wpAnyZ_done (by kernel_rfl) ?_ _
        go_wp2
        go_ret
        exact ⟨rfl, TW6.out.below⟩
end Go.Proofs.Ytcllnfhjbfmomaa
