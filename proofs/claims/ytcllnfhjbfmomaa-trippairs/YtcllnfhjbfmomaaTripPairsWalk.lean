/- The walk of TripPairs: for any rows of numbers the law returns true; old memory stands. -/
import Derived.Test.YtcllnfhjbfmomaaTripMap
namespace Go.Proofs.Ytcllnfhjbfmomaa
open Go.RowKit Go.Maps
set_option linter.unusedSimpArgs false

theorem notin_take {r : List Int} (h : r.Nodup) {k : Nat} (hk : k < r.length) : r[k] ∉ r.take k := by
  have h2 : (r.take k ++ r.drop k).Nodup := by rw [List.take_append_drop]; exact h
  have h3 : r[k] ∈ r.drop k := by rw [drop_at hk]; exact List.mem_cons_self
  rw [List.nodup_append] at h2
  intro hm
  exact h2.2.2 _ hm _ h3 rfl
theorem take_snoc {r : List Int} {k : Nat} (hk : k < r.length) : r.take (k + 1) = r.take k ++ [r[k]] := List.take_succ_eq_append_getElem hk

set_option maxRecDepth 100000 in
set_option maxHeartbeats 8000000 in
theorem pairs_walk (v u : Value) (l row : List Int) (car : Int) (w : World) (h : Recs w 1 num_ v l) (hl : l.length ≤ 9223372036854775807) (hr : Recs w 1 num_ u row) (hrl : row.length ≤ 9223372036854775807) :
    Calls Try.prog 7 #[v, u, .int .i64 car] w fun e w' => e = .returned (.bool true) ∧ Below w.heap.size w w' := by
  have HP := Lib.hid (play_said v l w h hl)
  have HU := Lib.hid hr
  clear h hr
  go_enter Try.func7, Try.ntmps7
  go_wp2_with (go_at_call 15; fail)
  (with_reducible refine (HP.out).mono ?_)
  rintro e w1 ⟨i, A1, A2, A3, A4, c1, c2, c3, c4, rfl, hs1, hok, hs2, hs8, hp2, hb1⟩
  have HOK := Lib.hid hok
  have HF := Lib.hid (fine_of hok)
  have BX1 := Lib.hid (box_new hs1 34)
  have HB1 := Lib.hid (hb1.alloc hb1.size (.cells #[.slice A1 i.cars.length c1, .slice A2 i.stops.length c2, .slice A3 i.pairs.length c3, .slice A4 i.travel.length c4] 34))
  have hcar := (fine_of hok).cars
  have HTR := Lib.hid (fine_of hok).travel
  clear hok hs1 hb1 HP
  go_upto_region 2 with (fail)
  generalize w1.alloc (.cells #[.slice A1 i.cars.length c1, .slice A2 i.stops.length c2, .slice A3 i.pairs.length c3, .slice A4 i.travel.length c4] 34) = wa at *
  generalize w1.heap.size = I at *
  have k0 := BX1.out.b0
  have k1 := BX1.out.b1
  have k2 := BX1.out.b2
  have k3 := BX1.out.b3
  have hIz := BX1.out.lt
  obtain ⟨cn, hcn, hcnl⟩ := within_nat car i.cars.length (by omega)
  have K0 := Lib.hid (fun W => within_q car i.cars.length W (by omega) (by omega) _ hcn)
  clear hcn
  go_wp2_with (go_at_call 12; fail)
  (with_reducible refine (K0.out _).mono ?_)
  rintro e w2 ⟨rfl, rfl⟩
  go_wp2_with (go_at_call 16; fail)
  (with_reducible refine (row_any _ _ i row w2 BX1.out.lies HOK.out (by omega) hs2 (HU.out.below HB1.out) hrl).mono ?_)
  rintro e w2 ⟨r, A, cap, rfl, hr14, hrc, hrx, hrr, hrf, hb2⟩
  have TW := Lib.hid (⟨HB1.out.trans (hb2.mono HB1.out.size), BX1.out.below hb2, hrr⟩ : Two w w2 I A1 A2 A3 A4 c1 c2 c3 c4 i A cap r)
  clear hb2 hrr hrf hrx k0 k1 k2 k3 hIz BX1 HB1 HU K0
  have k0 := TW.out.box.b0
  have k1 := TW.out.box.b1
  have k2 := TW.out.box.b2
  have k3 := TW.out.box.b3
  have hIz := TW.out.box.lt
  go_wp2_with (go_at_call 9; fail)
  (with_reducible refine (eval_any _ _ i cn r w2 TW.out.box.lies HOK.out (by omega) TW.out.row (by omega)).mono ?_)
  rintro e w4 hti
  obtain ⟨hb4, D1, n1, d1, D2, n2, d2, cc, hh, ok, rfl, htv⟩ := hti.parts
  have TW4 := Lib.hid ((TW.out.on hb4).on ((Below.refl _ _).alloc (Nat.le_refl _) (.cells #[.slice D1 n1 d1, .slice D2 n2 d2, .int .i64 cc, .int .i64 hh] 26)))
  clear hb4 hti k0 k1 k2 k3 hIz TW
  cases ok
  · clear htv
    go_wp2_with (go_at_call 14; fail)
    (with_reducible refine (wakes_any _).mono ?_)
    rintro e w5 ⟨rfl, hb5⟩
    have TW5 := Lib.hid (TW4.out.on hb5)
    clear hb5
    go_wp2
    go_ret
    exact ⟨rfl, TW5.out.below⟩
  · obtain ⟨t, ht, rfl, rfl, hta⟩ := tr_new htv 26
    obtain ⟨hth, hx1, hx2, hx3, hx4, htd, hla, hll⟩ := eval_some ht
    obtain ⟨hnd, hpon⟩ := eval_on HOK.out ht
    have TA := Lib.hid hta
    have HTH := Lib.hid hth
    have HND := Lib.hid hnd
    have HPO := Lib.hid hpon
    have HLS := Lib.hid (drive_last htd)
    have hn2 : n2 = r.length := by rw [hta.e2]; exact hll
    have HLL := Lib.hid hll
    subst hn2
    clear hta hth htd ht htv hla hll hnd hpon hx1 hx2 hx3 hx4
    go_upto_region 7 with (fail)
    generalize w4.alloc (.cells #[.slice D1 n1 d1, .slice D2 r.length d2, .int .i64 t.cost, .int .i64 t.home] 26) = wb at *
    generalize w4.heap.size = T at *
    have HMP := Lib.hid (World.ownsMap_made (H := Unit) wb Try.prog 3 (plainElem Try.prog 3))
    have HBM := Lib.hid ((Below.refl _ _).alloc (Nat.le_refl _) (.map #[] 0) : Below wb.heap.size wb _)
    have hmm := @run_makeMap Try.prog
    go_wp2
    clear hmm
    generalize wb.alloc (.map #[] 0) = wm at *
    go_loopw [45] (fun jv wr => ∃ (k m : Nat) (D : DataW Unit), k ≤ r.length ∧ jv = .int .i64 k ∧ m ≤ k ∧ wr.ownsMap Try.prog 3 (plainElem Try.prog 3) wb.heap.size m D ∧ Places D (r.take k) 1 ∧ Below wb.heap.size wb wr) (fun jv _ => r.length - (intOf jv).toNat)
    case atStart => exact ⟨0, 0, _, Nat.zero_le _, rfl, Nat.le_refl _, HMP.out, places_start 1, HBM.out⟩
    case round =>
      obtain ⟨k, m, D, hk, rfl, hm, hown, hpl, hb⟩ := hrel
      have TWr := Lib.hid (TW4.out.on hb)
      have TAr := Lib.hid (TA.out.below hb)
      have HOW := Lib.hid hown
      have HPL := Lib.hid hpl
      have HB := Lib.hid hb
      clear hown hpl hb
      by_cases hlt : k < r.length
      · obtain ⟨A', cap', he, hc⟩ := TWr.out.row.num
        obtain ⟨rfl, rfl⟩ : A = A' ∧ cap = cap' := by injection he with a _ b; exact ⟨a, b⟩
        obtain ⟨B, o, rfl, hB, c0⟩ := hc k hlt
        obtain ⟨p, hp, hpe⟩ := thereB_at HTH.out hlt
        have hni := notin_take HND.out hlt
        have hts := take_snoc hlt
        have hst := (HF.out).stops
        have hwf : (Lit.int .i64 r[k]).wf = true := wf_in (by omega) (by omega)
        have hlook := look_pos HOW.out HPL.out hwf
        have hkey := keyOf_int_mk Try.underlying3 hwf
        have HPUT := Lib.hid (HPL.out.put HOW.out.isMap hni)
        rw [show pos (r.take k) 1 r[k] = 0 by unfold pos; rw [if_neg hni]] at hlook
        rw [← hts, show ((r.take k).length : Int) + ((1 : Nat) : Int) = (k : Int) + 1 by rw [List.length_take]; omega] at HPUT
        clear hni hts hwf hc he hpe
        generalize r[k] = s at *
        have hwv : (Lit.int .i64 ((k : Int) + 1)).wf = true := wf_in (by omega) (by omega)
        have HV := Lib.hid (plainElem_int (H := Unit) (P := Try.prog) Try.underlying3 hwv)
        clear hwv
        go_upto_region 13 with (fail)
        go_wp2_with (at_mapUpdate; refine wpList_mapUpdate_in _ rfl _ _ _ 54 rfl 3 3 key_int Try.underlying54 _ wb.heap.size m D rfl HOW.out (by unfold maxLen; omega) _ _ _ rfl rfl hkey _ [] HV.out ?_; intro w6 hown6 hturn6)
        have HB6 := Lib.hid (HB.out.grown hturn6.grown HB.out.size (fun k hk => by cases hk; exact Nat.le_refl _))
        have HO6 := Lib.hid hown6
        clear hown6 hturn6 hlook
        go_wp2
        go_roundw
        case rel => exact ⟨k + 1, m + 1, _, by omega, by go_num, by omega, HO6.out, HPUT.out, HB6.out⟩
        case measure => simp [intOf]; omega
      · have hkr : k = r.length := by omega
        subst hkr
        rw [List.take_length] at HPL
        go_wp2
        go_loopw [14, 61] (fun sv jv wr' => ∃ (j : Nat) (rest : Int), j ≤ r.length ∧ sv = .int .i64 rest ∧ jv = .int .i64 j ∧ sumD i r = rest + sumD i (r.drop j) ∧ -(20 * (j : Int)) ≤ rest ∧ rest ≤ 20 * (j : Int) ∧ wr = wr') (fun _ jv _ => r.length - (intOf jv).toNat)
        case atStart => exact ⟨0, 0, Nat.zero_le _, rfl, rfl, by simp, by omega, by omega, rfl⟩
        case round =>
          obtain ⟨j, rest, hj, rfl, rfl, hsum, hb0, hb1, rfl⟩ := hrel
          have k1 := TWr.out.box.b1
          have k2 := TWr.out.box.b2
          have hIz := TWr.out.box.lt
          by_cases hjl : j < r.length
          · obtain ⟨A', cap', he, hc⟩ := TWr.out.row.num
            obtain ⟨rfl, rfl⟩ : A = A' ∧ cap = cap' := by injection he with a _ b; exact ⟨a, b⟩
            obtain ⟨B, o, rfl, hB, c0⟩ := hc j hjl
            obtain ⟨p, hp, hpe⟩ := thereB_at HTH.out hjl
            rw [sumD_drop hjl] at hsum
            obtain ⟨B4, o4, rfl, hB4, s0, _, _, _⟩ := said_stop TWr.out.box.lies hp
            have hsb := stopAt_bounds HF.out ((p : Int) + 1)
            rw [hpe] at c0 hsum
            have HS := Lib.hid hsum
            clear hsum hc he hpe
            generalize (stopAt i ((p : Int) + 1)).d = sd at *
            go_wp2
            go_roundw
            case rel => exact ⟨j + 1, rest + sd, by omega, by go_num, by go_num, by rw [HS.out]; omega, by omega, by omega, (by first | trivial | rfl)⟩
            case measure => simp [intOf]; omega
          · have hjr : j = r.length := by omega
            subst hjr
            rw [List.drop_length] at hsum
            simp only [sumD, Int.add_zero] at hsum
            have HS := Lib.hid hsum
            clear hsum
            go_wp2
            have HPZ : Hid (∀ p ∈ i.pairs, demand i.stops p.b = - demand i.stops p.a) := by
              have := HOK.out
              simp only [probOk, Bool.and_eq_true] at this
              exact pair_zero this.1.2
            have HPF := Lib.hid HF.out.pairF
            have hst := HF.out.stops
            have HST := Lib.hid (And.intro TWr.out (And.intro TAr.out HOW.out))
            clear k1 k2 TWr TAr HOW HB hIz
            go_loopw [14, 78] (fun sv jv wr' => ∃ (j : Nat), j ≤ i.pairs.length ∧ sv = .int .i64 rest ∧ jv = .int .i64 j ∧ Two w wr' I A1 A2 A3 A4 c1 c2 c3 c4 i A cap r ∧ TrAt wr' T D1 n1 d1 D2 r.length d2 t ∧ wr'.ownsMap Try.prog 3 (plainElem Try.prog 3) wb.heap.size m D) (fun _ jv _ => i.pairs.length - (intOf jv).toNat)
            case atStart => exact ⟨0, Nat.zero_le _, rfl, rfl, HST.out.1, HST.out.2.1, HST.out.2.2⟩
            case round =>
              clear HST
              obtain ⟨j, hj, rfl, rfl, htw, hta, hom⟩ := hrel
              have TWr := Lib.hid htw
              have TAr := Lib.hid hta
              have HOM := Lib.hid hom
              clear htw hta hom
              have k1 := TWr.out.box.b1
              have k2 := TWr.out.box.b2
              have hIz := TWr.out.box.lt
              by_cases hjl : j < i.pairs.length
              · have hpf := HPF.out i.pairs[j] (List.getElem_mem _)
                have hpz := HPZ.out i.pairs[j] (List.getElem_mem _)
                have hpp := pos_pair (HPO.out i.pairs[j] (List.getElem_mem _))
                obtain ⟨B, o, rfl, hB, c0, c1'⟩ := said_pair TWr.out.box.lies hjl
                rw [demand_stop, demand_stop] at hpz
                generalize i.pairs[j] = pr at *
                obtain ⟨pa, pb⟩ := pr
                simp only at hpf hpz hpp c0 c1'
                obtain ⟨na, rfl⟩ : ∃ na : Nat, pa = (na : Int) + 1 := ⟨(pa - 1).toNat, by omega⟩
                obtain ⟨nb, rfl⟩ : ∃ nb : Nat, pb = (nb : Int) + 1 := ⟨(pb - 1).toNat, by omega⟩
                have hla := pos_le r 1 ((na : Int) + 1)
                have hlb := pos_le r 1 ((nb : Int) + 1)
                have BQ := Lib.hid (lb_new wr #[.int .i64 ((na : Int) + 1), .int .i64 ((nb : Int) + 1)] 55)
                have HBa := Lib.hid ((Below.refl _ _).alloc (Nat.le_refl _) (.cells #[.int .i64 ((na : Int) + 1), .int .i64 ((nb : Int) + 1)] 55) : Below wr.heap.size wr _)
                have TWa := Lib.hid (TWr.out.on HBa.out)
                have TAa := Lib.hid (TAr.out.below HBa.out)
                have HOMa := Lib.hid (HOM.out.alloc (.cells #[.int .i64 ((na : Int) + 1), .int .i64 ((nb : Int) + 1)] 55))
                go_upto_region 24 with (fail)
                generalize wr.alloc (.cells #[.int .i64 ((na : Int) + 1), .int .i64 ((nb : Int) + 1)] 55) = wa at *
                have hzQ := BQ.out.1.1
                have b0 := BQ.out.1.c0
                have b1 := BQ.out.1.c1
                have q1 : ∀ n, (Instr.lookup 54 (.map (some wb.heap.size)) (.int .i64 ((na : Int) + 1)) false).run Try.prog (wa.drewN n) = .ok (.int .i64 (pos r 1 ((na : Int) + 1))) (wa.drewN n) := fun n => look_pos (show (wa.drewN n).ownsMap _ _ _ _ _ _ from HOMa.out) HPL.out (wf_in (by omega) (by omega))
                have q2 : ∀ n, (Instr.lookup 54 (.map (some wb.heap.size)) (.int .i64 ((nb : Int) + 1)) false).run Try.prog (wa.drewN n) = .ok (.int .i64 (pos r 1 ((nb : Int) + 1))) (wa.drewN n) := fun n => look_pos (show (wa.drewN n).ownsMap _ _ _ _ _ _ from HOMa.out) HPL.out (wf_in (by omega) (by omega))
                clear c0 c1' k1 k2 hIz hB
                generalize pos r 1 ((na : Int) + 1) = xa at *
                generalize pos r 1 ((nb : Int) + 1) = xb at *
                go_quiet (fail)
                clear q1 q2
                have TWq := Lib.hid (TWa.out.on (below_draws' (Below.refl _ _) nq))
                have TAq := Lib.hid (TAa.out.below (below_draws' (Below.refl _ _) nq))
                have HOMq : Hid ((wa.drewN nq).ownsMap Try.prog 3 (plainElem Try.prog 3) wb.heap.size m D) := HOMa.out
                rcases hpp with ⟨h1, h2⟩ | ⟨h1, h2, h3⟩
                · subst h1 h2
                  go_wp2
                  go_roundw
                  case rel => exact ⟨j + 1, by omega, rfl, by go_num, TWq.out, TAq.out, HOMq.out⟩
                  case measure => simp [intOf]; omega
                · have t1 : decide (xa > 0) = true := by simp; omega
                  have t2 : decide (xb > 0) = true := by simp; omega
                  have t3 : decide (xa > xb) = false := by simp; omega
                  obtain ⟨B4, o4, rfl, hB4, s0, _, _, _⟩ := said_stop TWa.out.box.lies (show na < i.stops.length by omega)
                  obtain ⟨B5, o5, e5, hB5, s5, _, _, _⟩ := said_stop TWa.out.box.lies (show nb < i.stops.length by omega)
                  obtain ⟨rfl, rfl⟩ : B4 = B5 ∧ o4 = o5 := by simpa using e5
                  have k1 := TWa.out.box.b1
                  have hIz := TWa.out.box.lt
                  have hsb := stopAt_bounds HF.out ((na : Int) + 1)
                  rw [hpz] at s5
                  generalize (stopAt i ((na : Int) + 1)).d = sd at *
                  clear hpz e5
                  go_upto_region 28 with (fail)
                  have f1 : IntKind.i64.wrap (sd + -sd) = 0 := by rw [Int.add_right_neg]; rfl
                  have f2 : IntKind.i64.wrap (rest - 0) = rest := by rw [Int.sub_zero]; exact IntWalk.i64_in _ (by omega)
                  have f3 : IntKind.i64.wrap rest = rest := IntWalk.i64_in _ (by omega)
                  have f4 : IntKind.i64.wrap ((na : Int) + 1 - 1) = (na : Int) := by rw [Int.add_sub_cancel]; exact IntWalk.i64_in _ (by omega)
                  have f5 : IntKind.i64.wrap ((nb : Int) + 1 - 1) = (nb : Int) := by rw [Int.add_sub_cancel]; exact IntWalk.i64_in _ (by omega)
                  have f6 : IntKind.i64.wrap (na : Int) = (na : Int) := IntWalk.i64_in _ (by omega)
                  have f7 : IntKind.i64.wrap (nb : Int) = (nb : Int) := IntWalk.i64_in _ (by omega)
                  have z1 : (na : Int) < (i.stops.length : Int) := by omega
                  have z2 : (nb : Int) < (i.stops.length : Int) := by omega
                  go_quiet (fail)
                  go_wp2
                  go_roundw
                  case rel => exact ⟨j + 1, by omega, by go_num, by go_num, TWa.out.on (below_draws' (Below.refl _ _) _), TAa.out.below (below_draws' (Below.refl _ _) _), HOMa.out⟩
                  case measure => simp [intOf]; omega
              · have t1 := TAr.out.b1
                have hTz := TAr.out.lt
                by_cases hr0 : 0 < r.length
                · obtain ⟨A6, cap6, he6, hc6⟩ := TAr.out.r2.num
                  obtain ⟨rfl, rfl⟩ : D2 = A6 ∧ d2 = cap6 := by injection he6 with a _ b; exact ⟨a, b⟩
                  obtain ⟨B6, o6, rfl, hB6, f6⟩ := hc6 (r.length - 1) (by rw [HLL.out]; omega)
                  have hlen : r.length - 1 < t.load.length := by rw [HLL.out]; omega
                  have hlast : t.load[r.length - 1] = rest := by
                    have h1 := HLS.out
                    have h2 : t.load.length - 1 = r.length - 1 := by rw [HLL.out]
                    rw [Int.zero_add, HS.out, List.getLastD_eq_getLast?, List.getLast?_eq_getElem?, h2, List.getElem?_eq_getElem hlen] at h1
                    exact h1
                  rw [hlast] at f6
                  clear hlast hc6 he6 hlen
                  obtain ⟨m1, hm1⟩ : ∃ m1, r.length = m1 + 1 := ⟨r.length - 1, by omega⟩
                  rw [hm1, Nat.add_sub_cancel] at f6
                  have z0 : (r.length : Int) = (m1 : Int) + 1 := by omega
                  have z1 : (0 : Int) < (r.length : Int) := by omega
                  have z2 : ((r.length : Int) - 1).toNat = m1 := by omega
                  clear hm1 z0
                  go_wp2_with (go_at_call 14; fail)
                  (with_reducible refine (wakes_any _).mono ?_)
                  rintro e w9 ⟨rfl, hb9⟩
                  have TW9 := Lib.hid (TWr.out.on hb9)
                  clear hb9
                  go_wp2
                  go_ret
                  exact ⟨rfl, TW9.out.below⟩
                · have hrn : r = [] := List.eq_nil_of_length_eq_zero (by omega)
                  have z1 : decide ((0 : Int) < (r.length : Int)) = false := by simp; omega
                  have z2 : decide ((r.length : Int) > 0) = false := by simp; omega
                  have hrest : rest = 0 := by
                    have h1 := HS.out
                    rw [hrn] at h1
                    rw [← h1]; rfl
                  subst hrest
                  clear hrn
                  go_wp2_with (go_at_call 14; fail)
                  (with_reducible refine (wakes_any _).mono ?_)
                  rintro e w9 ⟨rfl, hb9⟩
                  have TW9 := Lib.hid (TWr.out.on hb9)
                  clear hb9
                  go_wp2
                  go_ret
                  exact ⟨rfl, TW9.out.below⟩
end Go.Proofs.Ytcllnfhjbfmomaa
