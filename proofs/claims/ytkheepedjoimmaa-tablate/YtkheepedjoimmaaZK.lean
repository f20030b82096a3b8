/- The walk of TabLate: for any rows of numbers the law returns true; old memory stands. -/
import Derived.Test.YtkheepedjoimmaaZKb
import Derived.Test.YtkheepedjoimmaaZB
namespace Go.Proofs.Ytkheepedjoimmaa
open Go.RowKit
set_option linter.unusedSimpArgs false

theorem trip_is {W : World} {C : Nat} {ev : Option TripR} {A1 A2 : Option Addr} {n1 c1 n2 c2 : Nat} {cc hh : Int} {ok : Bool} (h : TripV W C ev A1 n1 c1 A2 n2 c2 cc hh ok) : ok = ev.isSome := by
  cases ok with
  | false => rw [(h.no rfl).1]; rfl
  | true => obtain ⟨t, e, _⟩ := h.yes rfl; rw [e]; rfl
theorem tail_ok0 (o : Option TailP) : (tailC o)[0]? = some (.bool o.isSome) := by cases o <;> rfl
theorem num_at {W : World} {A : Option Addr} {cap : Nat} {r : List Int} (h : Recs W 1 num_ (.slice A r.length cap) r) {k : Nat} (hk : k < r.length) : ∃ B o, A = some ⟨B, o, none⟩ ∧ B < W.heap.size ∧ W.cell? ⟨B, o + k, none⟩ = some (.int .i64 r[k]) := by
  obtain ⟨A', cap', he, hcl⟩ := h.num
  obtain ⟨rfl, rfl⟩ : A = A' ∧ cap = cap' := by injection he with a _ b; exact ⟨a, b⟩
  exact hcl k hk
theorem lies_trav {W : World} {a b c d : Value} {i : Prob} (h : Lies W (.agg #[a, b, c, d]) i) : Trav W d i.travel := by
  obtain ⟨_, _, _, _, e, _, _, _, h4⟩ := h
  injection e with e
  simp only [Array.mk.injEq, List.cons.injEq, and_true] at e
  obtain ⟨_, _, _, rfl⟩ := e
  exact h4
set_option maxRecDepth 100000 in
set_option maxHeartbeats 16000000 in
theorem late5_walk (v u : Value) (l row : List Int) (car later : Int) (w : World) (h : Recs w 1 num_ v l) (hl : l.length ≤ 9223372036854775807) (hr : Recs w 1 num_ u row) (hrl : row.length ≤ 9223372036854775807) :
    Calls Try.prog 4 #[v, u, .int .i64 car, .int .i64 later] w fun e w' => e = .returned (.bool true) ∧ Below w.heap.size w w' := by
  have HP : Hid (∀ W, Below w.heap.size w W → Calls Try.prog 10 #[v] W (PlayIs (playI l) W)) := fun W hb => play_is v l W (h.below hb) hl
  have HU := Lib.hid hr
  clear h hr
  generalize playI l = i at *
  clear hl l
  go_enter Try.func4, Try.ntmps4
  go_wp2_with (go_at_call 10; fail)
  (with_reducible refine (HP.out w (Below.refl _ _)).mono ?_)
  rintro e w1 ⟨vc, vs, vp, vt, us0, I0, rfl, hh, hok, hs2, hs8, hp2, hb1⟩
  have hlies := hh.lies.no_pairs
  obtain ⟨A1, c1, rfl, _⟩ := own_get hh.cars
  obtain ⟨A2, c2, rfl, _⟩ := own_get hh.stops
  obtain ⟨A3, c3, rfl, _⟩ := own_get hh.pairs
  obtain ⟨A4, c4, rfl, _⟩ := own_get hh.travel
  have HOK := Lib.hid hok
  have HOI : Hid (probOk { i with pairs := [] } = true) := no_pairs_ok hok hs8
  have HF := Lib.hid (fine_of hok)
  have hcar := (fine_of hok).cars
  have BX1 := Lib.hid (blk_new w1 #[.slice A1 i.cars.length c1, .slice A2 i.stops.length c2, .slice none 0 0, .slice A4 i.travel.length c4] 28)
  have HL1 := Lib.hid (Lies.below hlies ((Below.refl _ _).alloc (Nat.le_refl _) (.cells #[.slice A1 i.cars.length c1, .slice A2 i.stops.length c2, .slice none 0 0, .slice A4 i.travel.length c4] 28)))
  have HB1 := Lib.hid (hb1.alloc hb1.size (.cells #[.slice A1 i.cars.length c1, .slice A2 i.stops.length c2, .slice none 0 0, .slice A4 i.travel.length c4] 28))
  clear hok hb1 hh hlies hp2
  go_upto_region 3 with (fail)
  generalize w1.alloc (.cells #[.slice A1 i.cars.length c1, .slice A2 i.stops.length c2, .slice none 0 0, .slice A4 i.travel.length c4] 28) = wa at *
  generalize w1.heap.size = I at *
  have k0 := BX1.out.cell (j := 0) rfl
  have k1 := BX1.out.cell (j := 1) rfl
  have k2 := BX1.out.cell (j := 2) rfl
  have k3 := BX1.out.cell (j := 3) rfl
  have hIz := BX1.out.1
  obtain ⟨cn, hcn, hcnl⟩ := within_nat car i.cars.length (by omega)
  have K0 := Lib.hid (fun W => within_q car i.cars.length W (by omega) (by omega) _ hcn)
  clear hcn
  go_wp2_with (go_at_call 11; fail)
  (with_reducible refine (K0.out _).mono ?_)
  rintro e w2 ⟨rfl, hww⟩
  replace hww := hww.symm
  subst hww
  go_wp2_with (go_at_call 12; fail)
  (with_reducible refine (row_any _ _ { i with pairs := [] } row _ HL1.out HOI.out (by simp) hs2 (HU.out.below HB1.out) hrl).mono ?_)
  rintro e w3 ⟨r, A, cap, rfl, hr14, hrc, hrx, hrr, hrf, hb2⟩
  have BX3 := Lib.hid (BX1.out.below hb2)
  have HL3 := Lib.hid (Lies.below HL1.out hb2)
  have HB3 := Lib.hid (HB1.out.trans (hb2.mono HB1.out.size))
  have HR3 := Lib.hid hrr
  have HRX : Hid (∀ x ∈ r, -1000000 ≤ x ∧ x ≤ 1000000) := fun x hx => by have := hrx x hx; omega
  clear hb2 hrr hrf hrx k0 k1 k2 k3 hIz BX1 HL1 HB1 HU K0
  have k0 := BX3.out.cell (j := 0) rfl
  have k1 := BX3.out.cell (j := 1) rfl
  have k2 := BX3.out.cell (j := 2) rfl
  have k3 := BX3.out.cell (j := 3) rfl
  have hIz := BX3.out.1
  have hci : inB (cn : Int) 0 (({ i with pairs := [] } : Prob).cars.length - 1) = true := inB_iff.2 ⟨by omega, by show (cn : Int) ≤ (i.cars.length : Int) - 1; omega⟩
  have HCI := Lib.hid hci
  clear hci
  go_wp2_with (go_at_call 15; fail)
  (with_reducible refine (ptails_in _ _ { i with pairs := [] } cn r _ HL3.out HOI.out (by simp) HR3.out (by omega) HCI.out).mono ?_)
  rintro e w5 ⟨gt, rfl, hgt, hrt, hb⟩
  have HB5 := Lib.hid (HB3.out.trans (hb.mono HB3.out.size))
  have RT5 := Lib.hid hrt
  have HR5 := Lib.hid (HR3.out.below hb)
  clear hb hrt hgt k0 k1 k2 k3 hIz BX3 HL3 HB3 HR3
  have tl : (((r.length + 1 : Nat) : Int) != (r.length : Int) + 1) = false := by simp
  have twl : IntKind.i64.wrap ((r.length : Int) + 1) = (r.length : Int) + 1 := IntWalk.i64_in _ (by omega)
  go_wp2
  clear tl twl
  go_loopw [43] (fun kv wr => ∃ k : Nat, k ≤ r.length ∧ kv = .int .i64 k ∧ Below w5.heap.size w5 wr) (fun kv _ => r.length - (intOf kv).toNat)
  case atStart => exact ⟨0, Nat.zero_le _, rfl, Below.refl _ _⟩
  case round =>
    obtain ⟨k, hk, rfl, hbr⟩ := hrel
    have HBr := Lib.hid hbr
    clear hbr
    by_cases hlt : k < r.length
    · have n1 : (k : Int) < ((r.length + 1 : Nat) : Int) := by omega
      have n1' : (k : Int) < (r.length : Int) + 1 := by omega
      have n3 : (k : Int) < (r.length : Int) := by omega
      have n0 : (0 : Int) ≤ (k : Int) := by omega
      have n2 : (k : Int).toNat = k := by omega
      have zt := (RT5.out.below HBr.out).1
      cases ht : tailL { i with pairs := [] } cn (r.drop k) with
      | none =>
        as_aux_lemma =>
          obtain ⟨q0, q1, q2, q3, q4, q5, q6, q7⟩ := (RT5.out.below HBr.out).at8 (k := k) (by omega) (show tailC (tailL { i with pairs := [] } cn (r.drop k)) = _ by rw [ht]; rfl)
          clear ht q1 q2 q3 q4 q5 q6 q7
          go_wp2
          go_roundw
          case rel => exact ⟨k + 1, by omega, by go_num, HBr.out⟩
          case measure => simp [intOf]; omega
      | some tt =>
        as_aux_lemma =>
          obtain ⟨w0, hw0⟩ : ∃ w0, w0 = wr := ⟨_, rfl⟩
          subst hw0
          have HBr0 := HBr
          clear HBr
          have htb := (tail_bd' (fine_of HOI.out) (mated_of HOI.out) HCI.out (show r.length ≤ 1000 by omega) (k := k)) _ ht
          obtain ⟨q0, q1, q2, q3, q4, q5, q6, q7⟩ := (RT5.out.below HBr0.out).at8 (k := k) (by omega) (show tailC (tailL { i with pairs := [] } cn (r.drop k)) = _ by rw [ht]; rfl)
          have hlt0 := htb.2.1
          have hlt1 := htb.2.2.1
          have ht' := ht
          rw [List.drop_eq_getElem_cons hlt] at ht'
          obtain ⟨hth, hnd⟩ := tail_there (mated_of HOI.out) ht'
          have hs1 : inB r[k] 1 i.stops.length = true := by
            unfold thereB at hth
            exact List.all_eq_true.1 hth r[k] (List.mem_cons_self ..)
          have hs1' := inB_iff.1 hs1
          obtain ⟨p, hpe⟩ : ∃ p : Nat, r[k] = (p : Int) + 1 := ⟨(r[k] - 1).toNat, by omega⟩
          have hps : p < i.stops.length := by omega
          obtain ⟨B, o, rfl, hB, d0⟩ := num_at (HR5.out.below HBr0.out) hlt
          rw [hpe] at d0 ht'
          have HT := Lib.hid ht'
          have HDR : Hid (r.drop k = ((p : Int) + 1) :: r.drop (k + 1)) := by show _ = _; rw [List.drop_eq_getElem_cons hlt, hpe]
          clear ht ht' htb hth hnd hs1 hs1' hpe q1 q3 q4 q5 q6 q7
          have D0 : Hid (∀ W, Below w0.heap.size w0 W → W.cell? ⟨B, o + k, none⟩ = some (.int .i64 ((p : Int) + 1))) := fun W hW => cell_up hW hB d0
          obtain ⟨late, hle⟩ : ∃ late, tt.late = late := ⟨_, rfl⟩
          rw [hle] at q2 hlt0 hlt1
          have HLE := Lib.hid hle
          clear hle
          have hww : Hid (Below w.heap.size w w0) := HB5.out.trans (HBr0.out.mono HB5.out.size)
          have HPr := Lib.hid (HP.out w0 hww.out)
          go_wp2_with (go_at_call 10; fail)
          (with_reducible refine (HPr.out).mono ?_)
          rintro e w6 ⟨vc, vs, vp, vt, us, I1, rfl, hh, _, _, _, _, hb6⟩
          clear HPr q0 q2 zt
          obtain ⟨B1, e1, rfl, hg1⟩ := own_get hh.cars
          obtain ⟨B2, e2, rfl, hg2⟩ := own_get hh.stops
          obtain ⟨B3, e3, rfl, _⟩ := own_get hh.pairs
          obtain ⟨At, e4, rfl, _⟩ := own_get hh.travel
          obtain ⟨gc, rfl, hgc, _⟩ := hg1 (by omega)
          obtain ⟨gs, rfl, hgs, _⟩ := hg2 (by omega)
          have JL0 : Hid (JL w0 I1 w6.heap.size gc e1 gs e2 (.slice B3 i.pairs.length e3) At e4 us i (w6.alloc (.cells #[.slice (some ⟨gc, 0, none⟩) i.cars.length e1, .slice (some ⟨gs, 0, none⟩) i.stops.length e2, .slice none 0 0, .slice At i.travel.length e4] 28)) i.cars i.stops) :=
            ⟨hh.below ((Below.refl _ _).alloc (Nat.le_refl _) _), blk_new w6 _ _, by omega, by omega, hb6.alloc hb6.size _, rfl, rfl⟩
          clear hh hg1 hg2 hgc hgs hb6
          go_upto_region 15 with (fail)
          generalize w6.alloc (.cells #[.slice (some ⟨gc, 0, none⟩) i.cars.length e1, .slice (some ⟨gs, 0, none⟩) i.stops.length e2, .slice none 0 0, .slice At i.travel.length e4] 28) = wj at *
          generalize w6.heap.size = J at *
          have c0 : (0 : Int) ≤ (cn : Int) := by omega
          have c1' : (cn : Int) < (i.cars.length : Int) := by omega
          have c2' : (cn : Int).toNat = cn := by omega
          have sj0 := JL0.out.box.cell (j := 0) rfl
          have sj1 := JL0.out.box.cell (j := 1) rfl
          have hJz := JL0.out.box.1
          have sx := (JL0.out.car hcnl).1
          have fx := JL0.out.thawC (cn * 3)
          have hgz := JL0.out.gcz.2
          have JL1 := Lib.hid (JL0.out.cap hcnl 60)
          go_upto_region 16 with (fail)
          clear sj0 sj1 hJz sx fx hgz JL0
          generalize wj.setCell ⟨gc, cn * 3, none⟩ (.int .i64 60) = wk at *
          have sj1 := JL1.out.box.cell (j := 1) rfl
          have hJz := JL1.out.box.1
          go_wp2
          clear sj1 hJz
          go_loopw [68] (fun mv ws => ∃ (m : Nat) (st : List Stop), m ≤ i.stops.length ∧ mv = .int .i64 m ∧ DemTo i st m ∧ JL w0 I1 J gc e1 gs e2 (.slice B3 i.pairs.length e3) At e4 us i ws (setCap i.cars cn 60) st) (fun mv _ => i.stops.length - (intOf mv).toNat)
          case atStart => exact ⟨0, i.stops, Nat.zero_le _, rfl, DemTo.zero i, JL1.out⟩
          case round =>
            obtain ⟨m, st, hm, rfl, hdm, hjl⟩ := hrel
            have DM := Lib.hid hdm
            have JM := Lib.hid hjl
            clear hdm hjl
            by_cases hml : m < i.stops.length
            · have hms : m < st.length := by rw [DM.out.1]; exact hml
              have sj1 := JM.out.box.cell (j := 1) rfl
              have hJz := JM.out.box.1
              have sx := (JM.out.stop hms).1
              have fx := JM.out.thawS (m * 4)
              have hgz := JM.out.gsz.2
              have m0 : (0 : Int) ≤ (m : Int) := by omega
              have m1 : (m : Int) < (i.stops.length : Int) := by omega
              have m2 : (m : Int).toNat = m := by omega
              have JN := Lib.hid (JM.out.dem hms 0)
              have DN := Lib.hid DM.out.step
              go_wp2
              go_roundw
              case rel => exact ⟨m + 1, _, by omega, by go_num, DN.out, JN.out⟩
              case measure => simp [intOf]; omega
            · obtain rfl : m = i.stops.length := by omega
              have tm : decide ((i.stops.length : Int) < (i.stops.length : Int)) = false := by simp
              have p0 : (0 : Int) ≤ (p : Int) := by omega
              have p1 : (p : Int) < (i.stops.length : Int) := by omega
              have p2 : (p : Int).toNat = p := by omega
              have p3 : IntKind.i64.wrap ((p : Int) + 1 - 1) = (p : Int) := by rw [IntWalk.i64_in _ (by omega)]; omega
              have p3' : IntKind.i64.wrap (p : Int) = (p : Int) := IntWalk.i64_in _ (by omega)
              have p4 : (p : Int) + 1 - 1 = (p : Int) := by omega
              have hpl : p < st.length := by rw [DM.out.1]; exact hps
              have sx := (JM.out.stop hpl).2
              have fx := JM.out.thawS (p * 4 + 1)
              have hgz := JM.out.gsz.2
              have hJz := JM.out.box.1
              have JD := Lib.hid (JM.out.on ((Below.refl wr.heap.size wr).drew))
              have JO := Lib.hid ((JM.out.opn hpl (late)).on ((Below.refl _ _).drew))
              go_upto_region 21 with (fail)
              refine wp_region_z (S := (fun W => W.cell? ⟨J, 0, none⟩ = some (.slice (some ⟨gc, 0, none⟩) i.cars.length e1) ∧ W.cell? ⟨J, 1, none⟩ = some (.slice (some ⟨gs, 0, none⟩) i.stops.length e2) ∧ W.cell? ⟨J, 2, none⟩ = some (.slice none 0 0) ∧ W.cell? ⟨J, 3, none⟩ = some (.slice At i.travel.length e4) ∧ W.cell? ⟨B, o + k, none⟩ = some (.int .i64 ((p : Int) + 1)))) (z := 11) (by kernel_rfl) ⟨JD.out.box.cell (j := 0) rfl, JD.out.box.cell (j := 1) rfl, JD.out.box.cell (j := 2) rfl, JD.out.box.cell (j := 3) rfl, D0.out _ JD.out.below⟩ (fun hH => ?_)
              refine wpAnyZ_takeS (i := 0) (v := ?_) rfl (by kernel_rfl) (by kernel_rfl) (by kernel_rfl) (by kernel_rfl) (fun _ _ _ h => h) (gives_value (by rfl) ?_) (by assumption) ?_
              rotate_left
              · intro w hSw
                (try dsimp only at hSw)
                go_simp
                (try with_reducible rfl)
              (try simp only [Act.put, List.getElem_toArray, List.getElem_cons_succ, List.getElem_cons_zero, List.setIfInBounds_toArray, List.set_cons_zero, List.set_cons_succ])
              refine wpAnyZ_takeS (i := 1) (v := ?_) rfl (by kernel_rfl) (by kernel_rfl) (by kernel_rfl) (by kernel_rfl) (fun _ _ _ h => h) (gives_value (by rfl) ?_) (by assumption) ?_
              rotate_left
              · intro w hSw
                (try dsimp only at hSw)
                go_simp
                (try with_reducible rfl)
              (try simp only [Act.put, List.getElem_toArray, List.getElem_cons_succ, List.getElem_cons_zero, List.setIfInBounds_toArray, List.set_cons_zero, List.set_cons_succ])
              refine wpAnyZ_takeS (i := 2) (v := ?_) rfl (by kernel_rfl) (by kernel_rfl) (by kernel_rfl) (by kernel_rfl) (fun _ _ _ h => h) (gives_value (by rfl) ?_) (by assumption) ?_
              rotate_left
              · intro w hSw
                (try dsimp only at hSw)
                go_simp
                (try with_reducible rfl)
              (try simp only [Act.put, List.getElem_toArray, List.getElem_cons_succ, List.getElem_cons_zero, List.setIfInBounds_toArray, List.set_cons_zero, List.set_cons_succ])
              refine wpAnyZ_takeS (i := 3) (v := ?_) rfl (by kernel_rfl) (by kernel_rfl) (by kernel_rfl) (by kernel_rfl) (fun _ _ _ h => h) (gives_value (by rfl) ?_) (by assumption) ?_
              rotate_left
              · intro w hSw
                (try dsimp only at hSw)
                go_simp
                (try with_reducible rfl)
              (try simp only [Act.put, List.getElem_toArray, List.getElem_cons_succ, List.getElem_cons_zero, List.setIfInBounds_toArray, List.set_cons_zero, List.set_cons_succ])
              refine wpAnyZ_takeS (i := 4) (v := ?_) rfl (by kernel_rfl) (by kernel_rfl) (by kernel_rfl) (by kernel_rfl) (fun _ _ _ h => h) (gives_value (by rfl) ?_) (by assumption) ?_
              rotate_left
              · intro w hSw
                (try dsimp only at hSw)
                go_simp
                (try with_reducible rfl)
              (try simp only [Act.put, List.getElem_toArray, List.getElem_cons_succ, List.getElem_cons_zero, List.setIfInBounds_toArray, List.set_cons_zero, List.set_cons_succ])
              refine wpAnyZ_takeS (i := 5) (v := ?_) rfl (by kernel_rfl) (by kernel_rfl) (by kernel_rfl) (by kernel_rfl) (fun _ _ _ h => h) (gives_value (by rfl) ?_) (by assumption) ?_
              rotate_left
              · intro w hSw
                (try dsimp only at hSw)
                go_simp
                (try with_reducible rfl)
              (try simp only [Act.put, List.getElem_toArray, List.getElem_cons_succ, List.getElem_cons_zero, List.setIfInBounds_toArray, List.set_cons_zero, List.set_cons_succ])
              refine wpAnyZ_takeS (i := 6) (v := ?_) rfl (by kernel_rfl) (by kernel_rfl) (by kernel_rfl) (by kernel_rfl) (fun _ _ _ h => h) (gives_value (by rfl) ?_) (by assumption) ?_
              rotate_left
              · intro w hSw
                (try dsimp only at hSw)
                go_simp
                (try with_reducible rfl)
              (try simp only [Act.put, List.getElem_toArray, List.getElem_cons_succ, List.getElem_cons_zero, List.setIfInBounds_toArray, List.set_cons_zero, List.set_cons_succ])
              refine wpAnyZ_takeS (i := 7) (v := ?_) rfl (by kernel_rfl) (by kernel_rfl) (by kernel_rfl) (by kernel_rfl) (fun _ _ _ h => h) (gives_value (by rfl) ?_) (by assumption) ?_
              rotate_left
              · intro w hSw
                (try dsimp only at hSw)
                go_simp
                (try with_reducible rfl)
              (try simp only [Act.put, List.getElem_toArray, List.getElem_cons_succ, List.getElem_cons_zero, List.setIfInBounds_toArray, List.set_cons_zero, List.set_cons_succ])
              refine wpAnyZ_takeS (i := 8) (v := ?_) rfl (by kernel_rfl) (by kernel_rfl) (by kernel_rfl) (by kernel_rfl) (fun _ _ _ h => h) (gives_value (by rfl) ?_) (by assumption) ?_
              rotate_left
              · intro w hSw
                (try dsimp only at hSw)
                go_simp
                (try with_reducible rfl)
              (try simp only [Act.put, List.getElem_toArray, List.getElem_cons_succ, List.getElem_cons_zero, List.setIfInBounds_toArray, List.set_cons_zero, List.set_cons_succ])
              refine wpAnyZ_takeS (i := 9) (v := ?_) rfl (by kernel_rfl) (by kernel_rfl) (by kernel_rfl) (by kernel_rfl) (fun _ _ _ h => h) (gives_value (by rfl) ?_) (by assumption) ?_
              rotate_left
              · intro w hSw
                (try dsimp only at hSw)
                go_simp
                (try with_reducible rfl)
              (try simp only [Act.put, List.getElem_toArray, List.getElem_cons_succ, List.getElem_cons_zero, List.setIfInBounds_toArray, List.set_cons_zero, List.set_cons_succ])
              refine wpAnyZ_one (i := 10) (by kernel_rfl) ?_
              refine zstep rfl (fun K hK => ?_)
              have sxd : wr.drew.cell? ⟨gs, p * 4 + 1, none⟩ = _ := sx
              have fxd : wr.drew.frozen? ⟨gs, p * 4 + 1, none⟩ = false := fx
              go_simp
              refine hK.out _ _ (fun _ => ⟨JO.out.box.cell (j := 0) rfl, JO.out.box.cell (j := 1) rfl, JO.out.box.cell (j := 2) rfl, JO.out.box.cell (j := 3) rfl, D0.out _ JO.out.below⟩) (fun hH => ?_)
              replace hH := hH (by decide)
              clear hK K
              (try simp only [Act.put, List.getElem_toArray, List.getElem_cons_succ, List.getElem_cons_zero, List.setIfInBounds_toArray, List.set_cons_zero, List.set_cons_succ])
              refine wpAnyZ_done (by kernel_rfl) ?_ _
              clear hH sx fx sxd fxd hgz hJz JD
              have OX1 := Lib.hid (OpenAt.of DM.out p late)
              clear hpl
              generalize hwo : (wr.setCell ⟨gs, p * 4 + 1, none⟩ (.int .i64 late)).drew = wo at *
              clear hwo
              generalize setOpen st p late = st1 at *
              obtain ⟨A5, cap5, hsl, hre⟩ := slice_l (some ⟨B, o, none⟩) cap r (show k ≤ r.length by omega) hrc
              have SL1 := Lib.hid hsl
              have RE1 := Lib.hid hre
              clear hsl hre
              have hxl : (r.drop k).length ≤ 14 := by rw [List.length_drop]; omega
              have HXX : Hid (∀ x ∈ r.drop k, -1000000 ≤ x ∧ x ≤ 1000000) := fun x hx => HRX.out x (List.mem_of_mem_drop hx)
              have RX1 : Hid (∀ W, Below w0.heap.size w0 W → Recs W 1 num_ (.slice A5 (r.drop k).length cap5) (r.drop k)) := fun W hB => RE1.out W ((HR5.out.below HBr0.out).below hB)
              clear RE1
              obtain ⟨X, hX⟩ : ∃ X, r.drop k = X := ⟨_, rfl⟩
              rw [hX] at SL1 hxl HXX RX1
              have HX := Lib.hid hX
              clear hX
              have SS : Hid (∀ W, Below wo.heap.size wo W → W.cell? ⟨J, 0, none⟩ = some (.slice (some ⟨gc, 0, none⟩) i.cars.length e1) ∧ W.cell? ⟨J, 1, none⟩ = some (.slice (some ⟨gs, 0, none⟩) i.stops.length e2) ∧ W.cell? ⟨J, 2, none⟩ = some (.slice none 0 0) ∧ W.cell? ⟨J, 3, none⟩ = some (.slice At i.travel.length e4)) := fun W hB => ⟨(JO.out.on hB).box.cell (j := 0) rfl, (JO.out.on hB).box.cell (j := 1) rfl, (JO.out.on hB).box.cell (j := 2) rfl, (JO.out.on hB).box.cell (j := 3) rfl⟩
              have KE : Hid (∀ W, Below wo.heap.size wo W → Calls Try.prog 13 #[.agg #[.slice (some ⟨gc, 0, none⟩) i.cars.length e1, .slice (some ⟨gs, 0, none⟩) i.stops.length e2, .slice none 0 0, .slice At i.travel.length e4], .int .i64 cn, .slice A5 X.length cap5] W (TripIs W (evalL ⟨setCap i.cars cn 60, st1, [], i.travel⟩ cn X))) := fun W hB => refEvalW_any _ _ ⟨setCap i.cars cn 60, st1, [], i.travel⟩ cn X W (JO.out.on hB).lies (late_fine HF.out OX1.out (by omega) (by omega) cn) (by simp) (RX1.out W (JO.out.on hB).below) (by omega) HXX.out
              go_upto_region 22 with (fail)
              go_cut [16, 17] from 87 to 95 (fun tv iv wx => ∃ is : Bool, iv = .bool is ∧ is = (evalL ⟨setCap i.cars cn 60, st1, [], i.travel⟩ cn X).isSome ∧ Below wo.heap.size wo wx)
              case first =>
                as_aux_lemma =>
                  refine wp_region_z (S := (fun W => W.cell? ⟨J, 0, none⟩ = some (.slice (some ⟨gc, 0, none⟩) i.cars.length e1) ∧ W.cell? ⟨J, 1, none⟩ = some (.slice (some ⟨gs, 0, none⟩) i.stops.length e2) ∧ W.cell? ⟨J, 2, none⟩ = some (.slice none 0 0) ∧ W.cell? ⟨J, 3, none⟩ = some (.slice At i.travel.length e4))) (z := 12) (by kernel_rfl) (SS.out _ (Below.refl wo.heap.size wo).drew) (fun hH => ?_)
                  refine wpAnyZ_takeS (i := 0) (v := ?_) rfl (by kernel_rfl) (by kernel_rfl) (by kernel_rfl) (by kernel_rfl) (fun _ _ _ h => h) (gives_value (by rfl) ?_) (by assumption) ?_
                  rotate_left
                  · intro w hSw
                    (try dsimp only at hSw)
                    go_simp
                    (try with_reducible rfl)
                  (try simp only [Act.put, List.getElem_toArray, List.getElem_cons_succ, List.getElem_cons_zero, List.setIfInBounds_toArray, List.set_cons_zero, List.set_cons_succ])
                  refine wpAnyZ_takeS (i := 1) (v := ?_) rfl (by kernel_rfl) (by kernel_rfl) (by kernel_rfl) (by kernel_rfl) (fun _ _ _ h => h) (gives_value (by rfl) ?_) (by assumption) ?_
                  rotate_left
                  · intro w hSw
                    (try dsimp only at hSw)
                    go_simp
                    (try with_reducible rfl)
                  (try simp only [Act.put, List.getElem_toArray, List.getElem_cons_succ, List.getElem_cons_zero, List.setIfInBounds_toArray, List.set_cons_zero, List.set_cons_succ])
                  refine wpAnyZ_takeS (i := 2) (v := ?_) rfl (by kernel_rfl) (by kernel_rfl) (by kernel_rfl) (by kernel_rfl) (fun _ _ _ h => h) (gives_value (by rfl) ?_) (by assumption) ?_
                  rotate_left
                  · intro w hSw
                    (try dsimp only at hSw)
                    go_simp
                    (try with_reducible rfl)
                  (try simp only [Act.put, List.getElem_toArray, List.getElem_cons_succ, List.getElem_cons_zero, List.setIfInBounds_toArray, List.set_cons_zero, List.set_cons_succ])
                  refine wpAnyZ_takeS (i := 3) (v := ?_) rfl (by kernel_rfl) (by kernel_rfl) (by kernel_rfl) (by kernel_rfl) (fun _ _ _ h => h) (gives_value (by rfl) ?_) (by assumption) ?_
                  rotate_left
                  · intro w hSw
                    (try dsimp only at hSw)
                    go_simp
                    (try with_reducible rfl)
                  (try simp only [Act.put, List.getElem_toArray, List.getElem_cons_succ, List.getElem_cons_zero, List.setIfInBounds_toArray, List.set_cons_zero, List.set_cons_succ])
                  refine wpAnyZ_takeS (i := 4) (v := .slice A5 X.length cap5) rfl (by kernel_rfl) (by kernel_rfl) (by kernel_rfl) (by kernel_rfl) (fun _ _ _ h => h) (gives_value (by rfl) ?_) (by assumption) ?_
                  · intro w hSw
                    have q := SL1.out w
                    clear hSw
                    go_simp
                  (try simp only [Act.put, List.getElem_toArray, List.getElem_cons_succ, List.getElem_cons_zero, List.setIfInBounds_toArray, List.set_cons_zero, List.set_cons_succ])
                  refine wpAnyZ_two (i := 5) (j := 9) (by kernel_rfl) ?_ ?_
                  · refine zstep rfl (fun K hK => ?_)
                    go_simp
                    (with_reducible refine (KE.out _ ((Below.refl wo.heap.size wo).drew)).mono ?_)
                    rintro e p1 hti
                    obtain ⟨hb, D1, n1, d1, D2, n2, d2, cc, hh, ok, rfl, htv⟩ := hti.parts
                    have HQ := Lib.hid (trip_is htv)
                    have HBp1 := Lib.hid (((Below.refl wo.heap.size wo).drew).trans (hb.mono ((Below.refl wo.heap.size wo).drew).size))
                    clear hti htv hb
                    refine hK.out _ _ (fun _ => SS.out _ HBp1.out) (fun hH => ?_)
                    replace hH := hH (by decide)
                    clear hK K
                    (try simp only [Act.put, List.getElem_toArray, List.getElem_cons_succ, List.getElem_cons_zero, List.setIfInBounds_toArray, List.set_cons_zero, List.set_cons_succ])
                    refine wpAnyZ_takeS (i := 6) (v := ?_) rfl (by kernel_rfl) (by kernel_rfl) (by kernel_rfl) (by kernel_rfl) (fun _ _ _ h => h) (gives_value (by rfl) ?_) (by assumption) ?_
                    rotate_left
                    · intro w hSw
                      (try dsimp only at hSw)
                      go_simp
                      (try with_reducible rfl)
                    (try simp only [Act.put, List.getElem_toArray, List.getElem_cons_succ, List.getElem_cons_zero, List.setIfInBounds_toArray, List.set_cons_zero, List.set_cons_succ])
                    refine wpAnyZ_takeS (i := 7) (v := ?_) rfl (by kernel_rfl) (by kernel_rfl) (by kernel_rfl) (by kernel_rfl) (fun _ _ _ h => h) (gives_value (by rfl) ?_) (by assumption) ?_
                    rotate_left
                    · intro w hSw
                      (try dsimp only at hSw)
                      go_simp
                      (try with_reducible rfl)
                    (try simp only [Act.put, List.getElem_toArray, List.getElem_cons_succ, List.getElem_cons_zero, List.setIfInBounds_toArray, List.set_cons_zero, List.set_cons_succ])
                    refine wpAnyZ_takeS (i := 8) (v := ?_) rfl (by kernel_rfl) (by kernel_rfl) (by kernel_rfl) (by kernel_rfl) (fun _ _ _ h => h) (gives_value (by rfl) ?_) (by assumption) ?_
                    rotate_left
                    · intro w hSw
                      (try dsimp only at hSw)
                      go_simp
                      (try with_reducible rfl)
                    (try simp only [Act.put, List.getElem_toArray, List.getElem_cons_succ, List.getElem_cons_zero, List.setIfInBounds_toArray, List.set_cons_zero, List.set_cons_succ])
                    refine wpAnyZ_one (i := 9) (by kernel_rfl) ?_
                    refine zstep rfl (fun K hK => ?_)
                    go_simp
                    have HBp2 : Hid (Below wo.heap.size wo (p1.alloc (.cells #[.slice none 0 0, .slice none 0 0, .int .i64 0, .int .i64 0] 33))) := (HBp1.out.alloc HBp1.out.size (.cells #[.slice none 0 0, .slice none 0 0, .int .i64 0, .int .i64 0] 33))
                    have BTp2 : Hid (Blk (p1.alloc (.cells #[.slice none 0 0, .slice none 0 0, .int .i64 0, .int .i64 0] 33)) p1.heap.size #[.slice none 0 0, .slice none 0 0, .int .i64 0, .int .i64 0].toList) := (blk_new p1 #[.slice none 0 0, .slice none 0 0, .int .i64 0, .int .i64 0] 33)
                    refine hK.out _ _ (fun _ => SS.out _ HBp2.out) (fun hH => ?_)
                    replace hH := hH (by decide)
                    clear hK K
                    (try simp only [Act.put, List.getElem_toArray, List.getElem_cons_succ, List.getElem_cons_zero, List.setIfInBounds_toArray, List.set_cons_zero, List.set_cons_succ])
                    generalize (p1.alloc (.cells #[.slice none 0 0, .slice none 0 0, .int .i64 0, .int .i64 0] 33)) = p2 at *
                    refine wpAnyZ_one (i := 10) (by kernel_rfl) ?_
                    refine zstep rfl (fun K hK => ?_)
                    have hTl : wo.heap.size ≤ p1.heap.size := HBp1.out.size
                    have g0 := BTp2.out.cell (j := 0) rfl
                    have f0 := (BTp2.out.2 0 (by simp)).2
                    have g1 := BTp2.out.cell (j := 1) rfl
                    have f1 := (BTp2.out.2 1 (by simp)).2
                    have g2 := BTp2.out.cell (j := 2) rfl
                    have f2 := (BTp2.out.2 2 (by simp)).2
                    have g3 := BTp2.out.cell (j := 3) rfl
                    have f3 := (BTp2.out.2 3 (by simp)).2
                    have hGl := BTp2.out.1
                    go_simp
                    clear g0 g1 g2 g3 f0 f1 f2 f3 hGl
                    have HBz := Lib.hid (below4 HBp2.out hTl (.slice D1 n1 d1) (.slice D2 n2 d2) (.int .i64 cc) (.int .i64 hh))
                    refine hK.out _ _ (fun _ => SS.out _ HBz.out) (fun hH => ?_)
                    replace hH := hH (by decide)
                    clear hK K
                    (try simp only [Act.put, List.getElem_toArray, List.getElem_cons_succ, List.getElem_cons_zero, List.setIfInBounds_toArray, List.set_cons_zero, List.set_cons_succ])
                    refine wpAnyZ_takeS (i := 11) (v := ?_) rfl (by kernel_rfl) (by kernel_rfl) (by kernel_rfl) (by kernel_rfl) (fun _ _ _ h => h) (gives_value (by rfl) ?_) (by assumption) ?_
                    rotate_left
                    · intro w hSw
                      (try dsimp only at hSw)
                      go_simp
                      (try with_reducible rfl)
                    (try simp only [Act.put, List.getElem_toArray, List.getElem_cons_succ, List.getElem_cons_zero, List.setIfInBounds_toArray, List.set_cons_zero, List.set_cons_succ])
                    refine wpAnyZ_done (by kernel_rfl) ?_ _
                    clear hH
                    go_wp2_with fail
                    go_meet
                    exact ⟨ok, rfl, HQ.out, HBz.out⟩
                  · refine zstep rfl (fun K hK => ?_)
                    go_simp
                    have HBp1 : Hid (Below wo.heap.size wo (wo.alloc (.cells #[.slice none 0 0, .slice none 0 0, .int .i64 0, .int .i64 0] 33)).drew) := ((Below.refl wo.heap.size wo).alloc (Nat.le_refl _) (.cells #[.slice none 0 0, .slice none 0 0, .int .i64 0, .int .i64 0] 33)).drew
                    have BTp1 : Hid (Blk (wo.alloc (.cells #[.slice none 0 0, .slice none 0 0, .int .i64 0, .int .i64 0] 33)).drew wo.heap.size #[.slice none 0 0, .slice none 0 0, .int .i64 0, .int .i64 0].toList) := (blk_new wo #[.slice none 0 0, .slice none 0 0, .int .i64 0, .int .i64 0] 33).drew
                    refine hK.out _ _ (fun _ => SS.out _ HBp1.out) (fun hH => ?_)
                    replace hH := hH (by decide)
                    clear hK K
                    (try simp only [Act.put, List.getElem_toArray, List.getElem_cons_succ, List.getElem_cons_zero, List.setIfInBounds_toArray, List.set_cons_zero, List.set_cons_succ])
                    generalize (wo.alloc (.cells #[.slice none 0 0, .slice none 0 0, .int .i64 0, .int .i64 0] 33)).drew = p1 at *
                    refine wpAnyZ_one (i := 5) (by kernel_rfl) ?_
                    refine zstep rfl (fun K hK => ?_)
                    go_simp
                    (with_reducible refine (KE.out _ (HBp1.out)).mono ?_)
                    rintro e p2 hti
                    obtain ⟨hb, D1, n1, d1, D2, n2, d2, cc, hh, ok, rfl, htv⟩ := hti.parts
                    have HQ := Lib.hid (trip_is htv)
                    have HBp2 := Lib.hid ((HBp1.out).trans (hb.mono (HBp1.out).size))
                    have BTp2 := Lib.hid (BTp1.out.below hb)
                    clear hti htv hb
                    refine hK.out _ _ (fun _ => SS.out _ HBp2.out) (fun hH => ?_)
                    replace hH := hH (by decide)
                    clear hK K
                    (try simp only [Act.put, List.getElem_toArray, List.getElem_cons_succ, List.getElem_cons_zero, List.setIfInBounds_toArray, List.set_cons_zero, List.set_cons_succ])
                    refine wpAnyZ_takeS (i := 6) (v := ?_) rfl (by kernel_rfl) (by kernel_rfl) (by kernel_rfl) (by kernel_rfl) (fun _ _ _ h => h) (gives_value (by rfl) ?_) (by assumption) ?_
                    rotate_left
                    · intro w hSw
                      (try dsimp only at hSw)
                      go_simp
                      (try with_reducible rfl)
                    (try simp only [Act.put, List.getElem_toArray, List.getElem_cons_succ, List.getElem_cons_zero, List.setIfInBounds_toArray, List.set_cons_zero, List.set_cons_succ])
                    refine wpAnyZ_takeS (i := 7) (v := ?_) rfl (by kernel_rfl) (by kernel_rfl) (by kernel_rfl) (by kernel_rfl) (fun _ _ _ h => h) (gives_value (by rfl) ?_) (by assumption) ?_
                    rotate_left
                    · intro w hSw
                      (try dsimp only at hSw)
                      go_simp
                      (try with_reducible rfl)
                    (try simp only [Act.put, List.getElem_toArray, List.getElem_cons_succ, List.getElem_cons_zero, List.setIfInBounds_toArray, List.set_cons_zero, List.set_cons_succ])
                    refine wpAnyZ_takeS (i := 8) (v := ?_) rfl (by kernel_rfl) (by kernel_rfl) (by kernel_rfl) (by kernel_rfl) (fun _ _ _ h => h) (gives_value (by rfl) ?_) (by assumption) ?_
                    rotate_left
                    · intro w hSw
                      (try dsimp only at hSw)
                      go_simp
                      (try with_reducible rfl)
                    (try simp only [Act.put, List.getElem_toArray, List.getElem_cons_succ, List.getElem_cons_zero, List.setIfInBounds_toArray, List.set_cons_zero, List.set_cons_succ])
                    refine wpAnyZ_one (i := 10) (by kernel_rfl) ?_
                    refine zstep rfl (fun K hK => ?_)
                    have hTl : wo.heap.size ≤ wo.heap.size := Nat.le_refl _
                    have g0 := BTp2.out.cell (j := 0) rfl
                    have f0 := (BTp2.out.2 0 (by simp)).2
                    have g1 := BTp2.out.cell (j := 1) rfl
                    have f1 := (BTp2.out.2 1 (by simp)).2
                    have g2 := BTp2.out.cell (j := 2) rfl
                    have f2 := (BTp2.out.2 2 (by simp)).2
                    have g3 := BTp2.out.cell (j := 3) rfl
                    have f3 := (BTp2.out.2 3 (by simp)).2
                    have hGl := BTp2.out.1
                    go_simp
                    clear g0 g1 g2 g3 f0 f1 f2 f3 hGl
                    have HBz := Lib.hid (below4 HBp2.out hTl (.slice D1 n1 d1) (.slice D2 n2 d2) (.int .i64 cc) (.int .i64 hh))
                    refine hK.out _ _ (fun _ => SS.out _ HBz.out) (fun hH => ?_)
                    replace hH := hH (by decide)
                    clear hK K
                    (try simp only [Act.put, List.getElem_toArray, List.getElem_cons_succ, List.getElem_cons_zero, List.setIfInBounds_toArray, List.set_cons_zero, List.set_cons_succ])
                    refine wpAnyZ_takeS (i := 11) (v := ?_) rfl (by kernel_rfl) (by kernel_rfl) (by kernel_rfl) (by kernel_rfl) (fun _ _ _ h => h) (gives_value (by rfl) ?_) (by assumption) ?_
                    rotate_left
                    · intro w hSw
                      (try dsimp only at hSw)
                      go_simp
                      (try with_reducible rfl)
                    (try simp only [Act.put, List.getElem_toArray, List.getElem_cons_succ, List.getElem_cons_zero, List.setIfInBounds_toArray, List.set_cons_zero, List.set_cons_succ])
                    refine wpAnyZ_done (by kernel_rfl) ?_ _
                    clear hH
                    go_wp2_with fail
                    go_meet
                    exact ⟨ok, rfl, HQ.out, HBz.out⟩
              case rest =>
                obtain ⟨is, rfl, his, hbx⟩ := hcut
                have JP := Lib.hid (JO.out.on hbx)
                have hle : Hid (is = true ↔ max late ((i.cars[cn]).s + way i 0 ((p : Int) + 1)) ≤ late) := by
                  have q := late_is HOI.out OX1.out hcnl hps HT.out
                  rw [← HDR.out, HX.out, ← his, HLE.out] at q
                  exact q
                clear SS KE his hbx JO
                have hcf := HF.out.carF _ (List.getElem_mem hcnl)
                have hwb := way_bounds HF.out 0 ((p : Int) + 1)
                go_upto_region 23 with (fail)
                go_cut [118] from 96 to 118 (fun bv wx => bv = .bool false ∧ Below wc.heap.size wc wx)
                case first =>
                  cases is
                  · as_aux_lemma =>
                      have htr := HF.out.travel
                      have htv := lies_trav JP.out.lies
                      have ht0 : 0 < i.travel.length := by omega
                      obtain ⟨Bt, ot, Ar, cu, rfl, hBt, hc1, hrr⟩ := trav_row htv ht0
                      have hrl0 := HF.out.rowL _ (List.getElem_mem ht0)
                      have hwy : way i 0 ((p : Int) + 1) = (i.travel[0])[p + 1]'(by omega) := by
                        have := way_nat i (a := 0) (b := p + 1) ht0 (by omega)
                        exact this
                      obtain ⟨Bu, ou, rfl, hBu, hc2⟩ := num_at hrr (show p + 1 < (i.travel[0]).length by omega)
                      have hpr : (p : Int) + 1 < ((i.travel[0]).length : Int) := by omega
                      rw [← hwy] at hc2
                      have hno : ¬ max late ((i.cars[cn]).s + way i 0 ((p : Int) + 1)) ≤ late := fun h => by have := hle.out.2 h; cases this
                      have hno2 : decide ((i.cars[cn]).s + way i 0 ((p : Int) + 1) ≤ late) = false := by simp; omega
                      have hcar2 := (JP.out.car (k := cn) (by rw [JP.out.lc]; exact hcnl)).2
                      rw [show ((setCap i.cars cn 60)[cn]'(by rw [JP.out.lc]; exact hcnl)).s = (i.cars[cn]).s by simp [setCap]] at hcar2
                      rw [Nat.add_zero] at hc1
                      have t0 : (0 : Int) < (i.travel.length : Int) := by omega
                      clear htr hrl0 hwy hno hrr htv hle
                      generalize (i.cars[cn]).s = cs_ at *
                      generalize way i 0 ((p : Int) + 1) = wy at *
                      generalize i.travel[0] = rw0 at *
                      replace hpr : (p : Int) + (1 : Int) < (rw0.length : Int) := by omega
                      have nw : IntKind.i64.wrap (cs_ + wy) = cs_ + wy := IntWalk.i64_in _ (by omega)
                      have q0 : (0 : Int) ≤ (p : Int) + 1 := by omega
                      have q2 : ((p : Int) + 1).toNat = p + 1 := by omega
                      have sj0 := JP.out.box.cell (j := 0) rfl
                      have sj3 := JP.out.box.cell (j := 3) rfl
                      have sd := D0.out _ JP.out.below
                      refine wp_region_z (S := (fun W => W.cell? ⟨J, 0, none⟩ = some (.slice (some ⟨gc, 0, none⟩) i.cars.length e1) ∧ W.cell? ⟨gc, cn * 3 + 1, none⟩ = some (.int .i64 cs_) ∧ W.cell? ⟨J, 3, none⟩ = some (.slice (some ⟨Bt, ot, none⟩) i.travel.length e4) ∧ W.cell? ⟨Bt, ot, none⟩ = some (.slice (some ⟨Bu, ou, none⟩) rw0.length cu) ∧ W.cell? ⟨Bu, ou + (p + 1), none⟩ = some (.int .i64 wy) ∧ W.cell? ⟨B, o + k, none⟩ = some (.int .i64 ((p : Int) + 1)))) (z := 23) (by kernel_rfl) ⟨sj0, hcar2, sj3, hc1, hc2, sd⟩ (fun hH => ?_)
                      refine wpAnyZ_takeS (i := 0) (v := ?_) rfl (by kernel_rfl) (by kernel_rfl) (by kernel_rfl) (by kernel_rfl) (fun _ _ _ h => h) (gives_value (by rfl) ?_) (by assumption) ?_
                      rotate_left
                      · intro w hSw
                        (try dsimp only at hSw)
                        go_simp
                        (try with_reducible rfl)
                      (try simp only [Act.put, List.getElem_toArray, List.getElem_cons_succ, List.getElem_cons_zero, List.setIfInBounds_toArray, List.set_cons_zero, List.set_cons_succ])
                      refine wpAnyZ_takeS (i := 1) (v := ?_) rfl (by kernel_rfl) (by kernel_rfl) (by kernel_rfl) (by kernel_rfl) (fun _ _ _ h => h) (gives_value (by rfl) ?_) (by assumption) ?_
                      rotate_left
                      · intro w hSw
                        (try dsimp only at hSw)
                        go_simp
                        (try with_reducible rfl)
                      (try simp only [Act.put, List.getElem_toArray, List.getElem_cons_succ, List.getElem_cons_zero, List.setIfInBounds_toArray, List.set_cons_zero, List.set_cons_succ])
                      refine wpAnyZ_takeS (i := 2) (v := ?_) rfl (by kernel_rfl) (by kernel_rfl) (by kernel_rfl) (by kernel_rfl) (fun _ _ _ h => h) (gives_value (by rfl) ?_) (by assumption) ?_
                      rotate_left
                      · intro w hSw
                        (try dsimp only at hSw)
                        go_simp
                        (try with_reducible rfl)
                      (try simp only [Act.put, List.getElem_toArray, List.getElem_cons_succ, List.getElem_cons_zero, List.setIfInBounds_toArray, List.set_cons_zero, List.set_cons_succ])
                      refine wpAnyZ_takeS (i := 3) (v := ?_) rfl (by kernel_rfl) (by kernel_rfl) (by kernel_rfl) (by kernel_rfl) (fun _ _ _ h => h) (gives_value (by rfl) ?_) (by assumption) ?_
                      rotate_left
                      · intro w hSw
                        (try dsimp only at hSw)
                        go_simp
                        (try with_reducible rfl)
                      (try simp only [Act.put, List.getElem_toArray, List.getElem_cons_succ, List.getElem_cons_zero, List.setIfInBounds_toArray, List.set_cons_zero, List.set_cons_succ])
                      refine wpAnyZ_takeS (i := 4) (v := ?_) rfl (by kernel_rfl) (by kernel_rfl) (by kernel_rfl) (by kernel_rfl) (fun _ _ _ h => h) (gives_value (by rfl) ?_) (by assumption) ?_
                      rotate_left
                      · intro w hSw
                        (try dsimp only at hSw)
                        go_simp
                        (try with_reducible rfl)
                      (try simp only [Act.put, List.getElem_toArray, List.getElem_cons_succ, List.getElem_cons_zero, List.setIfInBounds_toArray, List.set_cons_zero, List.set_cons_succ])
                      refine wpAnyZ_takeS (i := 5) (v := ?_) rfl (by kernel_rfl) (by kernel_rfl) (by kernel_rfl) (by kernel_rfl) (fun _ _ _ h => h) (gives_value (by rfl) ?_) (by assumption) ?_
                      rotate_left
                      · intro w hSw
                        (try dsimp only at hSw)
                        go_simp
                        (try with_reducible rfl)
                      (try simp only [Act.put, List.getElem_toArray, List.getElem_cons_succ, List.getElem_cons_zero, List.setIfInBounds_toArray, List.set_cons_zero, List.set_cons_succ])
                      refine wpAnyZ_takeS (i := 6) (v := ?_) rfl (by kernel_rfl) (by kernel_rfl) (by kernel_rfl) (by kernel_rfl) (fun _ _ _ h => h) (gives_value (by rfl) ?_) (by assumption) ?_
                      rotate_left
                      · intro w hSw
                        (try dsimp only at hSw)
                        go_simp
                        (try with_reducible rfl)
                      (try simp only [Act.put, List.getElem_toArray, List.getElem_cons_succ, List.getElem_cons_zero, List.setIfInBounds_toArray, List.set_cons_zero, List.set_cons_succ])
                      refine wpAnyZ_takeS (i := 7) (v := ?_) rfl (by kernel_rfl) (by kernel_rfl) (by kernel_rfl) (by kernel_rfl) (fun _ _ _ h => h) (gives_value (by rfl) ?_) (by assumption) ?_
                      rotate_left
                      · intro w hSw
                        (try dsimp only at hSw)
                        go_simp
                        (try with_reducible rfl)
                      (try simp only [Act.put, List.getElem_toArray, List.getElem_cons_succ, List.getElem_cons_zero, List.setIfInBounds_toArray, List.set_cons_zero, List.set_cons_succ])
                      refine wpAnyZ_takeS (i := 8) (v := ?_) rfl (by kernel_rfl) (by kernel_rfl) (by kernel_rfl) (by kernel_rfl) (fun _ _ _ h => h) (gives_value (by rfl) ?_) (by assumption) ?_
                      rotate_left
                      · intro w hSw
                        (try dsimp only at hSw)
                        go_simp
                        (try with_reducible rfl)
                      (try simp only [Act.put, List.getElem_toArray, List.getElem_cons_succ, List.getElem_cons_zero, List.setIfInBounds_toArray, List.set_cons_zero, List.set_cons_succ])
                      refine wpAnyZ_takeS (i := 9) (v := ?_) rfl (by kernel_rfl) (by kernel_rfl) (by kernel_rfl) (by kernel_rfl) (fun _ _ _ h => h) (gives_value (by rfl) ?_) (by assumption) ?_
                      rotate_left
                      · intro w hSw
                        (try dsimp only at hSw)
                        go_simp
                        (try with_reducible rfl)
                      (try simp only [Act.put, List.getElem_toArray, List.getElem_cons_succ, List.getElem_cons_zero, List.setIfInBounds_toArray, List.set_cons_zero, List.set_cons_succ])
                      refine wpAnyZ_takeS (i := 10) (v := ?_) rfl (by kernel_rfl) (by kernel_rfl) (by kernel_rfl) (by kernel_rfl) (fun _ _ _ h => h) (gives_value (by rfl) ?_) (by assumption) ?_
                      rotate_left
                      · intro w hSw
                        (try dsimp only at hSw)
                        go_simp
                        (try with_reducible rfl)
                      (try simp only [Act.put, List.getElem_toArray, List.getElem_cons_succ, List.getElem_cons_zero, List.setIfInBounds_toArray, List.set_cons_zero, List.set_cons_succ])
                      refine wpAnyZ_takeS (i := 11) (v := ?_) rfl (by kernel_rfl) (by kernel_rfl) (by kernel_rfl) (by kernel_rfl) (fun _ _ _ h => h) (gives_value (by rfl) ?_) (by assumption) ?_
                      rotate_left
                      · intro w hSw
                        (try dsimp only at hSw)
                        go_simp
                        (try with_reducible rfl)
                      (try simp only [Act.put, List.getElem_toArray, List.getElem_cons_succ, List.getElem_cons_zero, List.setIfInBounds_toArray, List.set_cons_zero, List.set_cons_succ])
                      refine wpAnyZ_takeS (i := 12) (v := ?_) rfl (by kernel_rfl) (by kernel_rfl) (by kernel_rfl) (by kernel_rfl) (fun _ _ _ h => h) (gives_value (by rfl) ?_) (by assumption) ?_
                      rotate_left
                      · intro w hSw
                        (try dsimp only at hSw)
                        go_simp
                        (try with_reducible rfl)
                      (try simp only [Act.put, List.getElem_toArray, List.getElem_cons_succ, List.getElem_cons_zero, List.setIfInBounds_toArray, List.set_cons_zero, List.set_cons_succ])
                      refine wpAnyZ_takeS (i := 13) (v := ?_) rfl (by kernel_rfl) (by kernel_rfl) (by kernel_rfl) (by kernel_rfl) (fun _ _ _ h => h) (gives_value (by rfl) ?_) (by assumption) ?_
                      rotate_left
                      · intro w hSw
                        (try dsimp only at hSw)
                        go_simp
                        (try with_reducible rfl)
                      (try simp only [Act.put, List.getElem_toArray, List.getElem_cons_succ, List.getElem_cons_zero, List.setIfInBounds_toArray, List.set_cons_zero, List.set_cons_succ])
                      refine wpAnyZ_takeS (i := 14) (v := ?_) rfl (by kernel_rfl) (by kernel_rfl) (by kernel_rfl) (by kernel_rfl) (fun _ _ _ h => h) (gives_value (by rfl) ?_) (by assumption) ?_
                      rotate_left
                      · intro w hSw
                        (try dsimp only at hSw)
                        go_simp
                        (try with_reducible rfl)
                      (try simp only [Act.put, List.getElem_toArray, List.getElem_cons_succ, List.getElem_cons_zero, List.setIfInBounds_toArray, List.set_cons_zero, List.set_cons_succ])
                      refine wpAnyZ_takeS (i := 15) (v := ?_) rfl (by kernel_rfl) (by kernel_rfl) (by kernel_rfl) (by kernel_rfl) (fun _ _ _ h => h) (gives_value (by rfl) ?_) (by assumption) ?_
                      rotate_left
                      · intro w hSw
                        (try dsimp only at hSw)
                        go_simp
                        (try with_reducible rfl)
                      (try simp only [Act.put, List.getElem_toArray, List.getElem_cons_succ, List.getElem_cons_zero, List.setIfInBounds_toArray, List.set_cons_zero, List.set_cons_succ])
                      refine wpAnyZ_takeS (i := 16) (v := ?_) rfl (by kernel_rfl) (by kernel_rfl) (by kernel_rfl) (by kernel_rfl) (fun _ _ _ h => h) (gives_value (by rfl) ?_) (by assumption) ?_
                      rotate_left
                      · intro w hSw
                        (try dsimp only at hSw)
                        go_simp
                        (try with_reducible rfl)
                      (try simp only [Act.put, List.getElem_toArray, List.getElem_cons_succ, List.getElem_cons_zero, List.setIfInBounds_toArray, List.set_cons_zero, List.set_cons_succ])
                      refine wpAnyZ_takeS (i := 17) (v := ?_) rfl (by kernel_rfl) (by kernel_rfl) (by kernel_rfl) (by kernel_rfl) (fun _ _ _ h => h) (gives_value (by rfl) ?_) (by assumption) ?_
                      rotate_left
                      · intro w hSw
                        (try dsimp only at hSw)
                        go_simp
                        (try with_reducible rfl)
                      (try simp only [Act.put, List.getElem_toArray, List.getElem_cons_succ, List.getElem_cons_zero, List.setIfInBounds_toArray, List.set_cons_zero, List.set_cons_succ])
                      refine wpAnyZ_takeS (i := 18) (v := ?_) rfl (by kernel_rfl) (by kernel_rfl) (by kernel_rfl) (by kernel_rfl) (fun _ _ _ h => h) (gives_value (by rfl) ?_) (by assumption) ?_
                      rotate_left
                      · intro w hSw
                        (try dsimp only at hSw)
                        go_simp
                        (try with_reducible rfl)
                      (try simp only [Act.put, List.getElem_toArray, List.getElem_cons_succ, List.getElem_cons_zero, List.setIfInBounds_toArray, List.set_cons_zero, List.set_cons_succ])
                      refine wpAnyZ_takeS (i := 19) (v := ?_) rfl (by kernel_rfl) (by kernel_rfl) (by kernel_rfl) (by kernel_rfl) (fun _ _ _ h => h) (gives_value (by rfl) ?_) (by assumption) ?_
                      rotate_left
                      · intro w hSw
                        (try dsimp only at hSw)
                        go_simp
                        (try with_reducible rfl)
                      (try simp only [Act.put, List.getElem_toArray, List.getElem_cons_succ, List.getElem_cons_zero, List.setIfInBounds_toArray, List.set_cons_zero, List.set_cons_succ])
                      refine wpAnyZ_takeS (i := 20) (v := ?_) rfl (by kernel_rfl) (by kernel_rfl) (by kernel_rfl) (by kernel_rfl) (fun _ _ _ h => h) (gives_value (by rfl) ?_) (by assumption) ?_
                      rotate_left
                      · intro w hSw
                        (try dsimp only at hSw)
                        go_simp
                        (try with_reducible rfl)
                      (try simp only [Act.put, List.getElem_toArray, List.getElem_cons_succ, List.getElem_cons_zero, List.setIfInBounds_toArray, List.set_cons_zero, List.set_cons_succ])
                      refine wpAnyZ_takeS (i := 21) (v := ?_) rfl (by kernel_rfl) (by kernel_rfl) (by kernel_rfl) (by kernel_rfl) (fun _ _ _ h => h) (gives_value (by rfl) ?_) (by assumption) ?_
                      rotate_left
                      · intro w hSw
                        (try dsimp only at hSw)
                        go_simp
                        (try with_reducible rfl)
                      (try simp only [Act.put, List.getElem_toArray, List.getElem_cons_succ, List.getElem_cons_zero, List.setIfInBounds_toArray, List.set_cons_zero, List.set_cons_succ])
                      refine wpAnyZ_takeS (i := 22) (v := ?_) rfl (by kernel_rfl) (by kernel_rfl) (by kernel_rfl) (by kernel_rfl) (fun _ _ _ h => h) (gives_value (by rfl) ?_) (by assumption) ?_
                      rotate_left
                      · intro w hSw
                        (try dsimp only at hSw)
                        go_simp
                        (try with_reducible rfl)
                      (try simp only [Act.put, List.getElem_toArray, List.getElem_cons_succ, List.getElem_cons_zero, List.setIfInBounds_toArray, List.set_cons_zero, List.set_cons_succ])
                      refine wpAnyZ_done (by kernel_rfl) ?_ _
                      clear hH
                      go_wp2_with fail
                      go_meet
                      exact ⟨rfl, (Below.refl _ _).drew⟩
                  · as_aux_lemma =>
                      clear hle
                      refine wp_region_z (S := (fun _ => True)) (z := 23) (by kernel_rfl) trivial (fun hH => ?_)
                      refine wpAnyZ_takeS (i := 0) (v := ?_) rfl (by kernel_rfl) (by kernel_rfl) (by kernel_rfl) (by kernel_rfl) (fun _ _ _ h => h) (gives_value (by rfl) ?_) (by assumption) ?_
                      rotate_left
                      · intro w hSw
                        (try dsimp only at hSw)
                        go_simp
                        (try with_reducible rfl)
                      (try simp only [Act.put, List.getElem_toArray, List.getElem_cons_succ, List.getElem_cons_zero, List.setIfInBounds_toArray, List.set_cons_zero, List.set_cons_succ])
                      refine wpAnyZ_takeS (i := 1) (v := ?_) rfl (by kernel_rfl) (by kernel_rfl) (by kernel_rfl) (by kernel_rfl) (fun _ _ _ h => h) (gives_value (by rfl) ?_) (by assumption) ?_
                      rotate_left
                      · intro w hSw
                        (try dsimp only at hSw)
                        go_simp
                        (try with_reducible rfl)
                      (try simp only [Act.put, List.getElem_toArray, List.getElem_cons_succ, List.getElem_cons_zero, List.setIfInBounds_toArray, List.set_cons_zero, List.set_cons_succ])
                      refine wpAnyZ_takeS (i := 2) (v := ?_) rfl (by kernel_rfl) (by kernel_rfl) (by kernel_rfl) (by kernel_rfl) (fun _ _ _ h => h) (gives_value (by rfl) ?_) (by assumption) ?_
                      rotate_left
                      · intro w hSw
                        (try dsimp only at hSw)
                        go_simp
                        (try with_reducible rfl)
                      (try simp only [Act.put, List.getElem_toArray, List.getElem_cons_succ, List.getElem_cons_zero, List.setIfInBounds_toArray, List.set_cons_zero, List.set_cons_succ])
                      refine wpAnyZ_skipS (i := 3) rfl (by kernel_rfl) (by kernel_rfl) (by kernel_rfl) (by kernel_rfl) (fun _ _ _ h => h) (by rfl) (by assumption) ?_
                      (try simp only [Act.put, List.getElem_toArray, List.getElem_cons_succ, List.getElem_cons_zero, List.setIfInBounds_toArray, List.set_cons_zero, List.set_cons_succ])
                      refine wpAnyZ_skipS (i := 4) rfl (by kernel_rfl) (by kernel_rfl) (by kernel_rfl) (by kernel_rfl) (fun _ _ _ h => h) (by rfl) (by assumption) ?_
                      (try simp only [Act.put, List.getElem_toArray, List.getElem_cons_succ, List.getElem_cons_zero, List.setIfInBounds_toArray, List.set_cons_zero, List.set_cons_succ])
                      refine wpAnyZ_skipS (i := 5) rfl (by kernel_rfl) (by kernel_rfl) (by kernel_rfl) (by kernel_rfl) (fun _ _ _ h => h) (by rfl) (by assumption) ?_
                      (try simp only [Act.put, List.getElem_toArray, List.getElem_cons_succ, List.getElem_cons_zero, List.setIfInBounds_toArray, List.set_cons_zero, List.set_cons_succ])
                      refine wpAnyZ_skipS (i := 6) rfl (by kernel_rfl) (by kernel_rfl) (by kernel_rfl) (by kernel_rfl) (fun _ _ _ h => h) (by rfl) (by assumption) ?_
                      (try simp only [Act.put, List.getElem_toArray, List.getElem_cons_succ, List.getElem_cons_zero, List.setIfInBounds_toArray, List.set_cons_zero, List.set_cons_succ])
                      refine wpAnyZ_skipS (i := 7) rfl (by kernel_rfl) (by kernel_rfl) (by kernel_rfl) (by kernel_rfl) (fun _ _ _ h => h) (by rfl) (by assumption) ?_
                      (try simp only [Act.put, List.getElem_toArray, List.getElem_cons_succ, List.getElem_cons_zero, List.setIfInBounds_toArray, List.set_cons_zero, List.set_cons_succ])
                      refine wpAnyZ_skipS (i := 8) rfl (by kernel_rfl) (by kernel_rfl) (by kernel_rfl) (by kernel_rfl) (fun _ _ _ h => h) (by rfl) (by assumption) ?_
                      (try simp only [Act.put, List.getElem_toArray, List.getElem_cons_succ, List.getElem_cons_zero, List.setIfInBounds_toArray, List.set_cons_zero, List.set_cons_succ])
                      refine wpAnyZ_skipS (i := 9) rfl (by kernel_rfl) (by kernel_rfl) (by kernel_rfl) (by kernel_rfl) (fun _ _ _ h => h) (by rfl) (by assumption) ?_
                      (try simp only [Act.put, List.getElem_toArray, List.getElem_cons_succ, List.getElem_cons_zero, List.setIfInBounds_toArray, List.set_cons_zero, List.set_cons_succ])
                      refine wpAnyZ_skipS (i := 10) rfl (by kernel_rfl) (by kernel_rfl) (by kernel_rfl) (by kernel_rfl) (fun _ _ _ h => h) (by rfl) (by assumption) ?_
                      (try simp only [Act.put, List.getElem_toArray, List.getElem_cons_succ, List.getElem_cons_zero, List.setIfInBounds_toArray, List.set_cons_zero, List.set_cons_succ])
                      refine wpAnyZ_skipS (i := 11) rfl (by kernel_rfl) (by kernel_rfl) (by kernel_rfl) (by kernel_rfl) (fun _ _ _ h => h) (by rfl) (by assumption) ?_
                      (try simp only [Act.put, List.getElem_toArray, List.getElem_cons_succ, List.getElem_cons_zero, List.setIfInBounds_toArray, List.set_cons_zero, List.set_cons_succ])
                      refine wpAnyZ_skipS (i := 12) rfl (by kernel_rfl) (by kernel_rfl) (by kernel_rfl) (by kernel_rfl) (fun _ _ _ h => h) (by rfl) (by assumption) ?_
                      (try simp only [Act.put, List.getElem_toArray, List.getElem_cons_succ, List.getElem_cons_zero, List.setIfInBounds_toArray, List.set_cons_zero, List.set_cons_succ])
                      refine wpAnyZ_skipS (i := 13) rfl (by kernel_rfl) (by kernel_rfl) (by kernel_rfl) (by kernel_rfl) (fun _ _ _ h => h) (by rfl) (by assumption) ?_
                      (try simp only [Act.put, List.getElem_toArray, List.getElem_cons_succ, List.getElem_cons_zero, List.setIfInBounds_toArray, List.set_cons_zero, List.set_cons_succ])
                      refine wpAnyZ_skipS (i := 14) rfl (by kernel_rfl) (by kernel_rfl) (by kernel_rfl) (by kernel_rfl) (fun _ _ _ h => h) (by rfl) (by assumption) ?_
                      (try simp only [Act.put, List.getElem_toArray, List.getElem_cons_succ, List.getElem_cons_zero, List.setIfInBounds_toArray, List.set_cons_zero, List.set_cons_succ])
                      refine wpAnyZ_skipS (i := 15) rfl (by kernel_rfl) (by kernel_rfl) (by kernel_rfl) (by kernel_rfl) (fun _ _ _ h => h) (by rfl) (by assumption) ?_
                      (try simp only [Act.put, List.getElem_toArray, List.getElem_cons_succ, List.getElem_cons_zero, List.setIfInBounds_toArray, List.set_cons_zero, List.set_cons_succ])
                      refine wpAnyZ_skipS (i := 16) rfl (by kernel_rfl) (by kernel_rfl) (by kernel_rfl) (by kernel_rfl) (fun _ _ _ h => h) (by rfl) (by assumption) ?_
                      (try simp only [Act.put, List.getElem_toArray, List.getElem_cons_succ, List.getElem_cons_zero, List.setIfInBounds_toArray, List.set_cons_zero, List.set_cons_succ])
                      refine wpAnyZ_skipS (i := 17) rfl (by kernel_rfl) (by kernel_rfl) (by kernel_rfl) (by kernel_rfl) (fun _ _ _ h => h) (by rfl) (by assumption) ?_
                      (try simp only [Act.put, List.getElem_toArray, List.getElem_cons_succ, List.getElem_cons_zero, List.setIfInBounds_toArray, List.set_cons_zero, List.set_cons_succ])
                      refine wpAnyZ_skipS (i := 18) rfl (by kernel_rfl) (by kernel_rfl) (by kernel_rfl) (by kernel_rfl) (fun _ _ _ h => h) (by rfl) (by assumption) ?_
                      (try simp only [Act.put, List.getElem_toArray, List.getElem_cons_succ, List.getElem_cons_zero, List.setIfInBounds_toArray, List.set_cons_zero, List.set_cons_succ])
                      refine wpAnyZ_skipS (i := 19) rfl (by kernel_rfl) (by kernel_rfl) (by kernel_rfl) (by kernel_rfl) (fun _ _ _ h => h) (by rfl) (by assumption) ?_
                      (try simp only [Act.put, List.getElem_toArray, List.getElem_cons_succ, List.getElem_cons_zero, List.setIfInBounds_toArray, List.set_cons_zero, List.set_cons_succ])
                      refine wpAnyZ_skipS (i := 20) rfl (by kernel_rfl) (by kernel_rfl) (by kernel_rfl) (by kernel_rfl) (fun _ _ _ h => h) (by rfl) (by assumption) ?_
                      (try simp only [Act.put, List.getElem_toArray, List.getElem_cons_succ, List.getElem_cons_zero, List.setIfInBounds_toArray, List.set_cons_zero, List.set_cons_succ])
                      refine wpAnyZ_skipS (i := 21) rfl (by kernel_rfl) (by kernel_rfl) (by kernel_rfl) (by kernel_rfl) (fun _ _ _ h => h) (by rfl) (by assumption) ?_
                      (try simp only [Act.put, List.getElem_toArray, List.getElem_cons_succ, List.getElem_cons_zero, List.setIfInBounds_toArray, List.set_cons_zero, List.set_cons_succ])
                      refine wpAnyZ_takeS (i := 22) (v := ?_) rfl (by kernel_rfl) (by kernel_rfl) (by kernel_rfl) (by kernel_rfl) (fun _ _ _ h => h) (gives_value (by rfl) ?_) (by assumption) ?_
                      rotate_left
                      · intro w hSw
                        (try dsimp only at hSw)
                        go_simp
                        (try with_reducible rfl)
                      (try simp only [Act.put, List.getElem_toArray, List.getElem_cons_succ, List.getElem_cons_zero, List.setIfInBounds_toArray, List.set_cons_zero, List.set_cons_succ])
                      refine wpAnyZ_done (by kernel_rfl) ?_ _
                      clear hH
                      go_wp2_with fail
                      go_meet
                      exact ⟨rfl, (Below.refl _ _).drew⟩
                case rest =>
                  obtain ⟨rfl, hbx⟩ := hcut
                  have JQ := Lib.hid (JP.out.on hbx)
                  clear hbx JP hle hcf hwb
                  obtain ⟨q5, hq5, hq5l⟩ := within_nat later 5 (by omega)
                  have K5 := Lib.hid (fun W => (within_q later 5 W (by omega) (by omega) _ hq5).mono fun e w' h => (⟨h.1, h.2.symm⟩ : e = .returned (.int .i64 (q5 : Int)) ∧ W = w'))
                  clear hq5
                  have w1_ : IntKind.i64.wrap (late + 1) = late + 1 := IntWalk.i64_in _ (by omega)
                  have w2_ : IntKind.i64.wrap (late + 1 + (q5 : Int)) = late + 1 + (q5 : Int) := IntWalk.i64_in _ (by omega)
                  have hpl : p < st1.length := by rw [OX1.out.1]; exact hps
                  have sx := (JQ.out.stop hpl).2
                  have fx := JQ.out.thawS (p * 4 + 1)
                  have hgz := JQ.out.gsz.2
                  have hJz := JQ.out.box.1
                  have JD := Lib.hid (JQ.out.on ((Below.refl wc.heap.size wc).drew))
                  have JO := Lib.hid ((JQ.out.opn hpl (late + 1 + (q5 : Int))).on ((Below.refl _ _).drew))
                  go_upto_region 25 with (fail)
                  refine wp_region_z (S := (fun W => W.cell? ⟨J, 0, none⟩ = some (.slice (some ⟨gc, 0, none⟩) i.cars.length e1) ∧ W.cell? ⟨J, 1, none⟩ = some (.slice (some ⟨gs, 0, none⟩) i.stops.length e2) ∧ W.cell? ⟨J, 2, none⟩ = some (.slice none 0 0) ∧ W.cell? ⟨J, 3, none⟩ = some (.slice At i.travel.length e4) ∧ W.cell? ⟨B, o + k, none⟩ = some (.int .i64 ((p : Int) + 1)))) (z := 15) (by kernel_rfl) ⟨JD.out.box.cell (j := 0) rfl, JD.out.box.cell (j := 1) rfl, JD.out.box.cell (j := 2) rfl, JD.out.box.cell (j := 3) rfl, D0.out _ JD.out.below⟩ (fun hH => ?_)
                  refine wpAnyZ_takeS (i := 0) (v := ?_) rfl (by kernel_rfl) (by kernel_rfl) (by kernel_rfl) (by kernel_rfl) (fun _ _ _ h => h) (gives_value (by rfl) ?_) (by assumption) ?_
                  rotate_left
                  · intro w hSw
                    (try dsimp only at hSw)
                    go_simp
                    (try with_reducible rfl)
                  (try simp only [Act.put, List.getElem_toArray, List.getElem_cons_succ, List.getElem_cons_zero, List.setIfInBounds_toArray, List.set_cons_zero, List.set_cons_succ])
                  refine wpAnyZ_takeS (i := 1) (v := ?_) rfl (by kernel_rfl) (by kernel_rfl) (by kernel_rfl) (by kernel_rfl) (fun _ _ _ h => h) (gives_value (by rfl) ?_) (by assumption) ?_
                  rotate_left
                  · intro w hSw
                    (try dsimp only at hSw)
                    go_simp
                    (try with_reducible rfl)
                  (try simp only [Act.put, List.getElem_toArray, List.getElem_cons_succ, List.getElem_cons_zero, List.setIfInBounds_toArray, List.set_cons_zero, List.set_cons_succ])
                  refine wpAnyZ_takeS (i := 2) (v := ?_) rfl (by kernel_rfl) (by kernel_rfl) (by kernel_rfl) (by kernel_rfl) (fun _ _ _ h => h) (gives_value (by rfl) ?_) (by assumption) ?_
                  rotate_left
                  · intro w hSw
                    (try dsimp only at hSw)
                    go_simp
                    (try with_reducible rfl)
                  (try simp only [Act.put, List.getElem_toArray, List.getElem_cons_succ, List.getElem_cons_zero, List.setIfInBounds_toArray, List.set_cons_zero, List.set_cons_succ])
                  refine wpAnyZ_takeS (i := 3) (v := ?_) rfl (by kernel_rfl) (by kernel_rfl) (by kernel_rfl) (by kernel_rfl) (fun _ _ _ h => h) (gives_value (by rfl) ?_) (by assumption) ?_
                  rotate_left
                  · intro w hSw
                    (try dsimp only at hSw)
                    go_simp
                    (try with_reducible rfl)
                  (try simp only [Act.put, List.getElem_toArray, List.getElem_cons_succ, List.getElem_cons_zero, List.setIfInBounds_toArray, List.set_cons_zero, List.set_cons_succ])
                  refine wpAnyZ_takeS (i := 4) (v := ?_) rfl (by kernel_rfl) (by kernel_rfl) (by kernel_rfl) (by kernel_rfl) (fun _ _ _ h => h) (gives_value (by rfl) ?_) (by assumption) ?_
                  rotate_left
                  · intro w hSw
                    (try dsimp only at hSw)
                    go_simp
                    (try with_reducible rfl)
                  (try simp only [Act.put, List.getElem_toArray, List.getElem_cons_succ, List.getElem_cons_zero, List.setIfInBounds_toArray, List.set_cons_zero, List.set_cons_succ])
                  refine wpAnyZ_takeS (i := 5) (v := ?_) rfl (by kernel_rfl) (by kernel_rfl) (by kernel_rfl) (by kernel_rfl) (fun _ _ _ h => h) (gives_value (by rfl) ?_) (by assumption) ?_
                  rotate_left
                  · intro w hSw
                    (try dsimp only at hSw)
                    go_simp
                    (try with_reducible rfl)
                  (try simp only [Act.put, List.getElem_toArray, List.getElem_cons_succ, List.getElem_cons_zero, List.setIfInBounds_toArray, List.set_cons_zero, List.set_cons_succ])
                  refine wpAnyZ_takeS (i := 6) (v := ?_) rfl (by kernel_rfl) (by kernel_rfl) (by kernel_rfl) (by kernel_rfl) (fun _ _ _ h => h) (gives_value (by rfl) ?_) (by assumption) ?_
                  rotate_left
                  · intro w hSw
                    (try dsimp only at hSw)
                    go_simp
                    (try with_reducible rfl)
                  (try simp only [Act.put, List.getElem_toArray, List.getElem_cons_succ, List.getElem_cons_zero, List.setIfInBounds_toArray, List.set_cons_zero, List.set_cons_succ])
                  refine wpAnyZ_takeS (i := 7) (v := ?_) rfl (by kernel_rfl) (by kernel_rfl) (by kernel_rfl) (by kernel_rfl) (fun _ _ _ h => h) (gives_value (by rfl) ?_) (by assumption) ?_
                  rotate_left
                  · intro w hSw
                    (try dsimp only at hSw)
                    go_simp
                    (try with_reducible rfl)
                  (try simp only [Act.put, List.getElem_toArray, List.getElem_cons_succ, List.getElem_cons_zero, List.setIfInBounds_toArray, List.set_cons_zero, List.set_cons_succ])
                  refine wpAnyZ_takeS (i := 8) (v := ?_) rfl (by kernel_rfl) (by kernel_rfl) (by kernel_rfl) (by kernel_rfl) (fun _ _ _ h => h) (gives_value (by rfl) ?_) (by assumption) ?_
                  rotate_left
                  · intro w hSw
                    (try dsimp only at hSw)
                    go_simp
                    (try with_reducible rfl)
                  (try simp only [Act.put, List.getElem_toArray, List.getElem_cons_succ, List.getElem_cons_zero, List.setIfInBounds_toArray, List.set_cons_zero, List.set_cons_succ])
                  refine wpAnyZ_takeS (i := 9) (v := ?_) rfl (by kernel_rfl) (by kernel_rfl) (by kernel_rfl) (by kernel_rfl) (fun _ _ _ h => h) (gives_value (by rfl) ?_) (by assumption) ?_
                  rotate_left
                  · intro w hSw
                    (try dsimp only at hSw)
                    go_simp
                    (try with_reducible rfl)
                  (try simp only [Act.put, List.getElem_toArray, List.getElem_cons_succ, List.getElem_cons_zero, List.setIfInBounds_toArray, List.set_cons_zero, List.set_cons_succ])
                  refine wpAnyZ_takeS (i := 10) (v := .int .i64 (q5 : Int)) rfl (by kernel_rfl) (by kernel_rfl) (by kernel_rfl) (by kernel_rfl) (fun _ _ _ h => h) (gives_call (by rfl) ?_ (fun w _ => K5.out w)) (by assumption) ?_
                  · intro w
                    go_simp
                    (try with_reducible rfl)
                  (try simp only [Act.put, List.getElem_toArray, List.getElem_cons_succ, List.getElem_cons_zero, List.setIfInBounds_toArray, List.set_cons_zero, List.set_cons_succ])
                  refine wpAnyZ_takeS (i := 11) (v := ?_) rfl (by kernel_rfl) (by kernel_rfl) (by kernel_rfl) (by kernel_rfl) (fun _ _ _ h => h) (gives_value (by rfl) ?_) (by assumption) ?_
                  rotate_left
                  · intro w hSw
                    (try dsimp only at hSw)
                    go_simp
                    (try with_reducible rfl)
                  (try simp only [Act.put, List.getElem_toArray, List.getElem_cons_succ, List.getElem_cons_zero, List.setIfInBounds_toArray, List.set_cons_zero, List.set_cons_succ])
                  refine wpAnyZ_takeS (i := 12) (v := ?_) rfl (by kernel_rfl) (by kernel_rfl) (by kernel_rfl) (by kernel_rfl) (fun _ _ _ h => h) (gives_value (by rfl) ?_) (by assumption) ?_
                  rotate_left
                  · intro w hSw
                    (try dsimp only at hSw)
                    go_simp
                    (try with_reducible rfl)
                  (try simp only [Act.put, List.getElem_toArray, List.getElem_cons_succ, List.getElem_cons_zero, List.setIfInBounds_toArray, List.set_cons_zero, List.set_cons_succ])
                  refine wpAnyZ_takeS (i := 13) (v := ?_) rfl (by kernel_rfl) (by kernel_rfl) (by kernel_rfl) (by kernel_rfl) (fun _ _ _ h => h) (gives_value (by rfl) ?_) (by assumption) ?_
                  rotate_left
                  · intro w hSw
                    (try dsimp only at hSw)
                    go_simp
                    (try with_reducible rfl)
                  (try simp only [Act.put, List.getElem_toArray, List.getElem_cons_succ, List.getElem_cons_zero, List.setIfInBounds_toArray, List.set_cons_zero, List.set_cons_succ])
                  refine wpAnyZ_one (i := 14) (by kernel_rfl) ?_
                  refine zstep rfl (fun K hK => ?_)
                  have sxd : wc.drew.cell? ⟨gs, p * 4 + 1, none⟩ = _ := sx
                  have fxd : wc.drew.frozen? ⟨gs, p * 4 + 1, none⟩ = false := fx
                  go_simp
                  refine hK.out _ _ (fun _ => ⟨JO.out.box.cell (j := 0) rfl, JO.out.box.cell (j := 1) rfl, JO.out.box.cell (j := 2) rfl, JO.out.box.cell (j := 3) rfl, D0.out _ JO.out.below⟩) (fun hH => ?_)
                  replace hH := hH (by decide)
                  clear hK K
                  (try simp only [Act.put, List.getElem_toArray, List.getElem_cons_succ, List.getElem_cons_zero, List.setIfInBounds_toArray, List.set_cons_zero, List.set_cons_succ])
                  refine wpAnyZ_done (by kernel_rfl) ?_ _
                  clear hH sx fx sxd fxd hgz hJz JD
                  have OX2 := Lib.hid (OX1.out.again (late + 1 + (q5 : Int)))
                  clear hpl
                  generalize hwo : (wc.setCell ⟨gs, p * 4 + 1, none⟩ (.int .i64 (late + 1 + (q5 : Int)))).drew = wo at *
                  clear hwo
                  generalize setOpen st1 p (late + 1 + (q5 : Int)) = st2 at *
                  have SS : Hid (∀ W, Below wo.heap.size wo W → W.cell? ⟨J, 0, none⟩ = some (.slice (some ⟨gc, 0, none⟩) i.cars.length e1) ∧ W.cell? ⟨J, 1, none⟩ = some (.slice (some ⟨gs, 0, none⟩) i.stops.length e2) ∧ W.cell? ⟨J, 2, none⟩ = some (.slice none 0 0) ∧ W.cell? ⟨J, 3, none⟩ = some (.slice At i.travel.length e4)) := fun W hB => ⟨(JO.out.on hB).box.cell (j := 0) rfl, (JO.out.on hB).box.cell (j := 1) rfl, (JO.out.on hB).box.cell (j := 2) rfl, (JO.out.on hB).box.cell (j := 3) rfl⟩
                  have KE : Hid (∀ W, Below wo.heap.size wo W → Calls Try.prog 13 #[.agg #[.slice (some ⟨gc, 0, none⟩) i.cars.length e1, .slice (some ⟨gs, 0, none⟩) i.stops.length e2, .slice none 0 0, .slice At i.travel.length e4], .int .i64 cn, .slice A5 X.length cap5] W (TripIs W (evalL ⟨setCap i.cars cn 60, st2, [], i.travel⟩ cn X))) := fun W hB => refEvalW_any _ _ ⟨setCap i.cars cn 60, st2, [], i.travel⟩ cn X W (JO.out.on hB).lies (late_fine HF.out OX2.out (by omega) (by omega) cn) (by simp) (RX1.out W (JO.out.on hB).below) (by omega) HXX.out
                  go_upto_region 26 with (fail)
                  go_cut [18, 19] from 133 to 141 (fun tv iv wx => ∃ is : Bool, iv = .bool is ∧ is = (evalL ⟨setCap i.cars cn 60, st2, [], i.travel⟩ cn X).isSome ∧ Below wo.heap.size wo wx)
                  case first =>
                    as_aux_lemma =>
                      refine wp_region_z (S := (fun W => W.cell? ⟨J, 0, none⟩ = some (.slice (some ⟨gc, 0, none⟩) i.cars.length e1) ∧ W.cell? ⟨J, 1, none⟩ = some (.slice (some ⟨gs, 0, none⟩) i.stops.length e2) ∧ W.cell? ⟨J, 2, none⟩ = some (.slice none 0 0) ∧ W.cell? ⟨J, 3, none⟩ = some (.slice At i.travel.length e4))) (z := 12) (by kernel_rfl) (SS.out _ (Below.refl wo.heap.size wo).drew) (fun hH => ?_)
                      refine wpAnyZ_takeS (i := 0) (v := ?_) rfl (by kernel_rfl) (by kernel_rfl) (by kernel_rfl) (by kernel_rfl) (fun _ _ _ h => h) (gives_value (by rfl) ?_) (by assumption) ?_
                      rotate_left
                      · intro w hSw
                        (try dsimp only at hSw)
                        go_simp
                        (try with_reducible rfl)
                      (try simp only [Act.put, List.getElem_toArray, List.getElem_cons_succ, List.getElem_cons_zero, List.setIfInBounds_toArray, List.set_cons_zero, List.set_cons_succ])
                      refine wpAnyZ_takeS (i := 1) (v := ?_) rfl (by kernel_rfl) (by kernel_rfl) (by kernel_rfl) (by kernel_rfl) (fun _ _ _ h => h) (gives_value (by rfl) ?_) (by assumption) ?_
                      rotate_left
                      · intro w hSw
                        (try dsimp only at hSw)
                        go_simp
                        (try with_reducible rfl)
                      (try simp only [Act.put, List.getElem_toArray, List.getElem_cons_succ, List.getElem_cons_zero, List.setIfInBounds_toArray, List.set_cons_zero, List.set_cons_succ])
                      refine wpAnyZ_takeS (i := 2) (v := ?_) rfl (by kernel_rfl) (by kernel_rfl) (by kernel_rfl) (by kernel_rfl) (fun _ _ _ h => h) (gives_value (by rfl) ?_) (by assumption) ?_
                      rotate_left
                      · intro w hSw
                        (try dsimp only at hSw)
                        go_simp
                        (try with_reducible rfl)
                      (try simp only [Act.put, List.getElem_toArray, List.getElem_cons_succ, List.getElem_cons_zero, List.setIfInBounds_toArray, List.set_cons_zero, List.set_cons_succ])
                      refine wpAnyZ_takeS (i := 3) (v := ?_) rfl (by kernel_rfl) (by kernel_rfl) (by kernel_rfl) (by kernel_rfl) (fun _ _ _ h => h) (gives_value (by rfl) ?_) (by assumption) ?_
                      rotate_left
                      · intro w hSw
                        (try dsimp only at hSw)
                        go_simp
                        (try with_reducible rfl)
                      (try simp only [Act.put, List.getElem_toArray, List.getElem_cons_succ, List.getElem_cons_zero, List.setIfInBounds_toArray, List.set_cons_zero, List.set_cons_succ])
                      refine wpAnyZ_takeS (i := 4) (v := .slice A5 X.length cap5) rfl (by kernel_rfl) (by kernel_rfl) (by kernel_rfl) (by kernel_rfl) (fun _ _ _ h => h) (gives_value (by rfl) ?_) (by assumption) ?_
                      · intro w hSw
                        have q := SL1.out w
                        clear hSw
                        go_simp
                      (try simp only [Act.put, List.getElem_toArray, List.getElem_cons_succ, List.getElem_cons_zero, List.setIfInBounds_toArray, List.set_cons_zero, List.set_cons_succ])
                      refine wpAnyZ_two (i := 5) (j := 9) (by kernel_rfl) ?_ ?_
                      · refine zstep rfl (fun K hK => ?_)
                        go_simp
                        (with_reducible refine (KE.out _ ((Below.refl wo.heap.size wo).drew)).mono ?_)
                        rintro e p1 hti
                        obtain ⟨hb, D1, n1, d1, D2, n2, d2, cc, hh, ok, rfl, htv⟩ := hti.parts
                        have HQ := Lib.hid (trip_is htv)
                        have HBp1 := Lib.hid (((Below.refl wo.heap.size wo).drew).trans (hb.mono ((Below.refl wo.heap.size wo).drew).size))
                        clear hti htv hb
                        refine hK.out _ _ (fun _ => SS.out _ HBp1.out) (fun hH => ?_)
                        replace hH := hH (by decide)
                        clear hK K
                        (try simp only [Act.put, List.getElem_toArray, List.getElem_cons_succ, List.getElem_cons_zero, List.setIfInBounds_toArray, List.set_cons_zero, List.set_cons_succ])
                        refine wpAnyZ_takeS (i := 6) (v := ?_) rfl (by kernel_rfl) (by kernel_rfl) (by kernel_rfl) (by kernel_rfl) (fun _ _ _ h => h) (gives_value (by rfl) ?_) (by assumption) ?_
                        rotate_left
                        · intro w hSw
                          (try dsimp only at hSw)
                          go_simp
                          (try with_reducible rfl)
                        (try simp only [Act.put, List.getElem_toArray, List.getElem_cons_succ, List.getElem_cons_zero, List.setIfInBounds_toArray, List.set_cons_zero, List.set_cons_succ])
                        refine wpAnyZ_takeS (i := 7) (v := ?_) rfl (by kernel_rfl) (by kernel_rfl) (by kernel_rfl) (by kernel_rfl) (fun _ _ _ h => h) (gives_value (by rfl) ?_) (by assumption) ?_
                        rotate_left
                        · intro w hSw
                          (try dsimp only at hSw)
                          go_simp
                          (try with_reducible rfl)
                        (try simp only [Act.put, List.getElem_toArray, List.getElem_cons_succ, List.getElem_cons_zero, List.setIfInBounds_toArray, List.set_cons_zero, List.set_cons_succ])
                        refine wpAnyZ_takeS (i := 8) (v := ?_) rfl (by kernel_rfl) (by kernel_rfl) (by kernel_rfl) (by kernel_rfl) (fun _ _ _ h => h) (gives_value (by rfl) ?_) (by assumption) ?_
                        rotate_left
                        · intro w hSw
                          (try dsimp only at hSw)
                          go_simp
                          (try with_reducible rfl)
                        (try simp only [Act.put, List.getElem_toArray, List.getElem_cons_succ, List.getElem_cons_zero, List.setIfInBounds_toArray, List.set_cons_zero, List.set_cons_succ])
                        refine wpAnyZ_one (i := 9) (by kernel_rfl) ?_
                        refine zstep rfl (fun K hK => ?_)
                        go_simp
                        have HBp2 : Hid (Below wo.heap.size wo (p1.alloc (.cells #[.slice none 0 0, .slice none 0 0, .int .i64 0, .int .i64 0] 33))) := (HBp1.out.alloc HBp1.out.size (.cells #[.slice none 0 0, .slice none 0 0, .int .i64 0, .int .i64 0] 33))
                        have BTp2 : Hid (Blk (p1.alloc (.cells #[.slice none 0 0, .slice none 0 0, .int .i64 0, .int .i64 0] 33)) p1.heap.size #[.slice none 0 0, .slice none 0 0, .int .i64 0, .int .i64 0].toList) := (blk_new p1 #[.slice none 0 0, .slice none 0 0, .int .i64 0, .int .i64 0] 33)
                        refine hK.out _ _ (fun _ => SS.out _ HBp2.out) (fun hH => ?_)
                        replace hH := hH (by decide)
                        clear hK K
                        (try simp only [Act.put, List.getElem_toArray, List.getElem_cons_succ, List.getElem_cons_zero, List.setIfInBounds_toArray, List.set_cons_zero, List.set_cons_succ])
                        generalize (p1.alloc (.cells #[.slice none 0 0, .slice none 0 0, .int .i64 0, .int .i64 0] 33)) = p2 at *
                        refine wpAnyZ_one (i := 10) (by kernel_rfl) ?_
                        refine zstep rfl (fun K hK => ?_)
                        have hTl : wo.heap.size ≤ p1.heap.size := HBp1.out.size
                        have g0 := BTp2.out.cell (j := 0) rfl
                        have f0 := (BTp2.out.2 0 (by simp)).2
                        have g1 := BTp2.out.cell (j := 1) rfl
                        have f1 := (BTp2.out.2 1 (by simp)).2
                        have g2 := BTp2.out.cell (j := 2) rfl
                        have f2 := (BTp2.out.2 2 (by simp)).2
                        have g3 := BTp2.out.cell (j := 3) rfl
                        have f3 := (BTp2.out.2 3 (by simp)).2
                        have hGl := BTp2.out.1
                        go_simp
                        clear g0 g1 g2 g3 f0 f1 f2 f3 hGl
                        have HBz := Lib.hid (below4 HBp2.out hTl (.slice D1 n1 d1) (.slice D2 n2 d2) (.int .i64 cc) (.int .i64 hh))
                        refine hK.out _ _ (fun _ => SS.out _ HBz.out) (fun hH => ?_)
                        replace hH := hH (by decide)
                        clear hK K
                        (try simp only [Act.put, List.getElem_toArray, List.getElem_cons_succ, List.getElem_cons_zero, List.setIfInBounds_toArray, List.set_cons_zero, List.set_cons_succ])
                        refine wpAnyZ_takeS (i := 11) (v := ?_) rfl (by kernel_rfl) (by kernel_rfl) (by kernel_rfl) (by kernel_rfl) (fun _ _ _ h => h) (gives_value (by rfl) ?_) (by assumption) ?_
                        rotate_left
                        · intro w hSw
                          (try dsimp only at hSw)
                          go_simp
                          (try with_reducible rfl)
                        (try simp only [Act.put, List.getElem_toArray, List.getElem_cons_succ, List.getElem_cons_zero, List.setIfInBounds_toArray, List.set_cons_zero, List.set_cons_succ])
                        refine wpAnyZ_done (by kernel_rfl) ?_ _
                        clear hH
                        go_wp2_with fail
                        go_meet
                        exact ⟨ok, rfl, HQ.out, HBz.out⟩
                      · refine zstep rfl (fun K hK => ?_)
                        go_simp
                        have HBp1 : Hid (Below wo.heap.size wo (wo.alloc (.cells #[.slice none 0 0, .slice none 0 0, .int .i64 0, .int .i64 0] 33)).drew) := ((Below.refl wo.heap.size wo).alloc (Nat.le_refl _) (.cells #[.slice none 0 0, .slice none 0 0, .int .i64 0, .int .i64 0] 33)).drew
                        have BTp1 : Hid (Blk (wo.alloc (.cells #[.slice none 0 0, .slice none 0 0, .int .i64 0, .int .i64 0] 33)).drew wo.heap.size #[.slice none 0 0, .slice none 0 0, .int .i64 0, .int .i64 0].toList) := (blk_new wo #[.slice none 0 0, .slice none 0 0, .int .i64 0, .int .i64 0] 33).drew
                        refine hK.out _ _ (fun _ => SS.out _ HBp1.out) (fun hH => ?_)
                        replace hH := hH (by decide)
                        clear hK K
                        (try simp only [Act.put, List.getElem_toArray, List.getElem_cons_succ, List.getElem_cons_zero, List.setIfInBounds_toArray, List.set_cons_zero, List.set_cons_succ])
                        generalize (wo.alloc (.cells #[.slice none 0 0, .slice none 0 0, .int .i64 0, .int .i64 0] 33)).drew = p1 at *
                        refine wpAnyZ_one (i := 5) (by kernel_rfl) ?_
                        refine zstep rfl (fun K hK => ?_)
                        go_simp
                        (with_reducible refine (KE.out _ (HBp1.out)).mono ?_)
                        rintro e p2 hti
                        obtain ⟨hb, D1, n1, d1, D2, n2, d2, cc, hh, ok, rfl, htv⟩ := hti.parts
                        have HQ := Lib.hid (trip_is htv)
                        have HBp2 := Lib.hid ((HBp1.out).trans (hb.mono (HBp1.out).size))
                        have BTp2 := Lib.hid (BTp1.out.below hb)
                        clear hti htv hb
                        refine hK.out _ _ (fun _ => SS.out _ HBp2.out) (fun hH => ?_)
                        replace hH := hH (by decide)
                        clear hK K
                        (try simp only [Act.put, List.getElem_toArray, List.getElem_cons_succ, List.getElem_cons_zero, List.setIfInBounds_toArray, List.set_cons_zero, List.set_cons_succ])
                        refine wpAnyZ_takeS (i := 6) (v := ?_) rfl (by kernel_rfl) (by kernel_rfl) (by kernel_rfl) (by kernel_rfl) (fun _ _ _ h => h) (gives_value (by rfl) ?_) (by assumption) ?_
                        rotate_left
                        · intro w hSw
                          (try dsimp only at hSw)
                          go_simp
                          (try with_reducible rfl)
                        (try simp only [Act.put, List.getElem_toArray, List.getElem_cons_succ, List.getElem_cons_zero, List.setIfInBounds_toArray, List.set_cons_zero, List.set_cons_succ])
                        refine wpAnyZ_takeS (i := 7) (v := ?_) rfl (by kernel_rfl) (by kernel_rfl) (by kernel_rfl) (by kernel_rfl) (fun _ _ _ h => h) (gives_value (by rfl) ?_) (by assumption) ?_
                        rotate_left
                        · intro w hSw
                          (try dsimp only at hSw)
                          go_simp
                          (try with_reducible rfl)
                        (try simp only [Act.put, List.getElem_toArray, List.getElem_cons_succ, List.getElem_cons_zero, List.setIfInBounds_toArray, List.set_cons_zero, List.set_cons_succ])
                        refine wpAnyZ_takeS (i := 8) (v := ?_) rfl (by kernel_rfl) (by kernel_rfl) (by kernel_rfl) (by kernel_rfl) (fun _ _ _ h => h) (gives_value (by rfl) ?_) (by assumption) ?_
                        rotate_left
                        · intro w hSw
                          (try dsimp only at hSw)
                          go_simp
                          (try with_reducible rfl)
                        (try simp only [Act.put, List.getElem_toArray, List.getElem_cons_succ, List.getElem_cons_zero, List.setIfInBounds_toArray, List.set_cons_zero, List.set_cons_succ])
                        refine wpAnyZ_one (i := 10) (by kernel_rfl) ?_
                        refine zstep rfl (fun K hK => ?_)
                        have hTl : wo.heap.size ≤ wo.heap.size := Nat.le_refl _
                        have g0 := BTp2.out.cell (j := 0) rfl
                        have f0 := (BTp2.out.2 0 (by simp)).2
                        have g1 := BTp2.out.cell (j := 1) rfl
                        have f1 := (BTp2.out.2 1 (by simp)).2
                        have g2 := BTp2.out.cell (j := 2) rfl
                        have f2 := (BTp2.out.2 2 (by simp)).2
                        have g3 := BTp2.out.cell (j := 3) rfl
                        have f3 := (BTp2.out.2 3 (by simp)).2
                        have hGl := BTp2.out.1
                        go_simp
                        clear g0 g1 g2 g3 f0 f1 f2 f3 hGl
                        have HBz := Lib.hid (below4 HBp2.out hTl (.slice D1 n1 d1) (.slice D2 n2 d2) (.int .i64 cc) (.int .i64 hh))
                        refine hK.out _ _ (fun _ => SS.out _ HBz.out) (fun hH => ?_)
                        replace hH := hH (by decide)
                        clear hK K
                        (try simp only [Act.put, List.getElem_toArray, List.getElem_cons_succ, List.getElem_cons_zero, List.setIfInBounds_toArray, List.set_cons_zero, List.set_cons_succ])
                        refine wpAnyZ_takeS (i := 11) (v := ?_) rfl (by kernel_rfl) (by kernel_rfl) (by kernel_rfl) (by kernel_rfl) (fun _ _ _ h => h) (gives_value (by rfl) ?_) (by assumption) ?_
                        rotate_left
                        · intro w hSw
                          (try dsimp only at hSw)
                          go_simp
                          (try with_reducible rfl)
                        (try simp only [Act.put, List.getElem_toArray, List.getElem_cons_succ, List.getElem_cons_zero, List.setIfInBounds_toArray, List.set_cons_zero, List.set_cons_succ])
                        refine wpAnyZ_done (by kernel_rfl) ?_ _
                        clear hH
                        go_wp2_with fail
                        go_meet
                        exact ⟨ok, rfl, HQ.out, HBz.out⟩
                  case rest =>
                    obtain ⟨is, rfl, his, hbx⟩ := hcut
                    have JP := Lib.hid (JO.out.on hbx)
                    have hno : is = false := by
                      have q := late_is HOI.out OX2.out hcnl hps HT.out
                      rw [← HDR.out, HX.out, ← his, HLE.out] at q
                      cases is with
                      | false => rfl
                      | true => have := q.1 rfl; omega
                    subst hno
                    clear SS KE his hbx JO
                    go_upto_region 27 with (fail)
                    refine wp_region_z (S := (fun _ => True)) (z := 24) (by kernel_rfl) trivial (fun hH => ?_)
                    refine wpAnyZ_takeS (i := 0) (v := ?_) rfl (by kernel_rfl) (by kernel_rfl) (by kernel_rfl) (by kernel_rfl) (fun _ _ _ h => h) (gives_value (by rfl) ?_) (by assumption) ?_
                    rotate_left
                    · intro w hSw
                      (try dsimp only at hSw)
                      go_simp
                      (try with_reducible rfl)
                    (try simp only [Act.put, List.getElem_toArray, List.getElem_cons_succ, List.getElem_cons_zero, List.setIfInBounds_toArray, List.set_cons_zero, List.set_cons_succ])
                    refine wpAnyZ_takeS (i := 1) (v := ?_) rfl (by kernel_rfl) (by kernel_rfl) (by kernel_rfl) (by kernel_rfl) (fun _ _ _ h => h) (gives_value (by rfl) ?_) (by assumption) ?_
                    rotate_left
                    · intro w hSw
                      (try dsimp only at hSw)
                      go_simp
                      (try with_reducible rfl)
                    (try simp only [Act.put, List.getElem_toArray, List.getElem_cons_succ, List.getElem_cons_zero, List.setIfInBounds_toArray, List.set_cons_zero, List.set_cons_succ])
                    refine wpAnyZ_skipS (i := 2) rfl (by kernel_rfl) (by kernel_rfl) (by kernel_rfl) (by kernel_rfl) (fun _ _ _ h => h) (by rfl) (by assumption) ?_
                    (try simp only [Act.put, List.getElem_toArray, List.getElem_cons_succ, List.getElem_cons_zero, List.setIfInBounds_toArray, List.set_cons_zero, List.set_cons_succ])
                    refine wpAnyZ_skipS (i := 3) rfl (by kernel_rfl) (by kernel_rfl) (by kernel_rfl) (by kernel_rfl) (fun _ _ _ h => h) (by rfl) (by assumption) ?_
                    (try simp only [Act.put, List.getElem_toArray, List.getElem_cons_succ, List.getElem_cons_zero, List.setIfInBounds_toArray, List.set_cons_zero, List.set_cons_succ])
                    refine wpAnyZ_skipS (i := 4) rfl (by kernel_rfl) (by kernel_rfl) (by kernel_rfl) (by kernel_rfl) (fun _ _ _ h => h) (by rfl) (by assumption) ?_
                    (try simp only [Act.put, List.getElem_toArray, List.getElem_cons_succ, List.getElem_cons_zero, List.setIfInBounds_toArray, List.set_cons_zero, List.set_cons_succ])
                    refine wpAnyZ_skipS (i := 5) rfl (by kernel_rfl) (by kernel_rfl) (by kernel_rfl) (by kernel_rfl) (fun _ _ _ h => h) (by rfl) (by assumption) ?_
                    (try simp only [Act.put, List.getElem_toArray, List.getElem_cons_succ, List.getElem_cons_zero, List.setIfInBounds_toArray, List.set_cons_zero, List.set_cons_succ])
                    refine wpAnyZ_skipS (i := 6) rfl (by kernel_rfl) (by kernel_rfl) (by kernel_rfl) (by kernel_rfl) (fun _ _ _ h => h) (by rfl) (by assumption) ?_
                    (try simp only [Act.put, List.getElem_toArray, List.getElem_cons_succ, List.getElem_cons_zero, List.setIfInBounds_toArray, List.set_cons_zero, List.set_cons_succ])
                    refine wpAnyZ_skipS (i := 7) rfl (by kernel_rfl) (by kernel_rfl) (by kernel_rfl) (by kernel_rfl) (fun _ _ _ h => h) (by rfl) (by assumption) ?_
                    (try simp only [Act.put, List.getElem_toArray, List.getElem_cons_succ, List.getElem_cons_zero, List.setIfInBounds_toArray, List.set_cons_zero, List.set_cons_succ])
                    refine wpAnyZ_skipS (i := 8) rfl (by kernel_rfl) (by kernel_rfl) (by kernel_rfl) (by kernel_rfl) (fun _ _ _ h => h) (by rfl) (by assumption) ?_
                    (try simp only [Act.put, List.getElem_toArray, List.getElem_cons_succ, List.getElem_cons_zero, List.setIfInBounds_toArray, List.set_cons_zero, List.set_cons_succ])
                    refine wpAnyZ_skipS (i := 9) rfl (by kernel_rfl) (by kernel_rfl) (by kernel_rfl) (by kernel_rfl) (fun _ _ _ h => h) (by rfl) (by assumption) ?_
                    (try simp only [Act.put, List.getElem_toArray, List.getElem_cons_succ, List.getElem_cons_zero, List.setIfInBounds_toArray, List.set_cons_zero, List.set_cons_succ])
                    refine wpAnyZ_skipS (i := 10) rfl (by kernel_rfl) (by kernel_rfl) (by kernel_rfl) (by kernel_rfl) (fun _ _ _ h => h) (by rfl) (by assumption) ?_
                    (try simp only [Act.put, List.getElem_toArray, List.getElem_cons_succ, List.getElem_cons_zero, List.setIfInBounds_toArray, List.set_cons_zero, List.set_cons_succ])
                    refine wpAnyZ_skipS (i := 11) rfl (by kernel_rfl) (by kernel_rfl) (by kernel_rfl) (by kernel_rfl) (fun _ _ _ h => h) (by rfl) (by assumption) ?_
                    (try simp only [Act.put, List.getElem_toArray, List.getElem_cons_succ, List.getElem_cons_zero, List.setIfInBounds_toArray, List.set_cons_zero, List.set_cons_succ])
                    refine wpAnyZ_skipS (i := 12) rfl (by kernel_rfl) (by kernel_rfl) (by kernel_rfl) (by kernel_rfl) (fun _ _ _ h => h) (by rfl) (by assumption) ?_
                    (try simp only [Act.put, List.getElem_toArray, List.getElem_cons_succ, List.getElem_cons_zero, List.setIfInBounds_toArray, List.set_cons_zero, List.set_cons_succ])
                    refine wpAnyZ_skipS (i := 13) rfl (by kernel_rfl) (by kernel_rfl) (by kernel_rfl) (by kernel_rfl) (fun _ _ _ h => h) (by rfl) (by assumption) ?_
                    (try simp only [Act.put, List.getElem_toArray, List.getElem_cons_succ, List.getElem_cons_zero, List.setIfInBounds_toArray, List.set_cons_zero, List.set_cons_succ])
                    refine wpAnyZ_skipS (i := 14) rfl (by kernel_rfl) (by kernel_rfl) (by kernel_rfl) (by kernel_rfl) (fun _ _ _ h => h) (by rfl) (by assumption) ?_
                    (try simp only [Act.put, List.getElem_toArray, List.getElem_cons_succ, List.getElem_cons_zero, List.setIfInBounds_toArray, List.set_cons_zero, List.set_cons_succ])
                    refine wpAnyZ_skipS (i := 15) rfl (by kernel_rfl) (by kernel_rfl) (by kernel_rfl) (by kernel_rfl) (fun _ _ _ h => h) (by rfl) (by assumption) ?_
                    (try simp only [Act.put, List.getElem_toArray, List.getElem_cons_succ, List.getElem_cons_zero, List.setIfInBounds_toArray, List.set_cons_zero, List.set_cons_succ])
                    refine wpAnyZ_skipS (i := 16) rfl (by kernel_rfl) (by kernel_rfl) (by kernel_rfl) (by kernel_rfl) (fun _ _ _ h => h) (by rfl) (by assumption) ?_
                    (try simp only [Act.put, List.getElem_toArray, List.getElem_cons_succ, List.getElem_cons_zero, List.setIfInBounds_toArray, List.set_cons_zero, List.set_cons_succ])
                    refine wpAnyZ_skipS (i := 17) rfl (by kernel_rfl) (by kernel_rfl) (by kernel_rfl) (by kernel_rfl) (fun _ _ _ h => h) (by rfl) (by assumption) ?_
                    (try simp only [Act.put, List.getElem_toArray, List.getElem_cons_succ, List.getElem_cons_zero, List.setIfInBounds_toArray, List.set_cons_zero, List.set_cons_succ])
                    refine wpAnyZ_skipS (i := 18) rfl (by kernel_rfl) (by kernel_rfl) (by kernel_rfl) (by kernel_rfl) (fun _ _ _ h => h) (by rfl) (by assumption) ?_
                    (try simp only [Act.put, List.getElem_toArray, List.getElem_cons_succ, List.getElem_cons_zero, List.setIfInBounds_toArray, List.set_cons_zero, List.set_cons_succ])
                    refine wpAnyZ_skipS (i := 19) rfl (by kernel_rfl) (by kernel_rfl) (by kernel_rfl) (by kernel_rfl) (fun _ _ _ h => h) (by rfl) (by assumption) ?_
                    (try simp only [Act.put, List.getElem_toArray, List.getElem_cons_succ, List.getElem_cons_zero, List.setIfInBounds_toArray, List.set_cons_zero, List.set_cons_succ])
                    refine wpAnyZ_skipS (i := 20) rfl (by kernel_rfl) (by kernel_rfl) (by kernel_rfl) (by kernel_rfl) (fun _ _ _ h => h) (by rfl) (by assumption) ?_
                    (try simp only [Act.put, List.getElem_toArray, List.getElem_cons_succ, List.getElem_cons_zero, List.setIfInBounds_toArray, List.set_cons_zero, List.set_cons_succ])
                    refine wpAnyZ_skipS (i := 21) rfl (by kernel_rfl) (by kernel_rfl) (by kernel_rfl) (by kernel_rfl) (fun _ _ _ h => h) (by rfl) (by assumption) ?_
                    (try simp only [Act.put, List.getElem_toArray, List.getElem_cons_succ, List.getElem_cons_zero, List.setIfInBounds_toArray, List.set_cons_zero, List.set_cons_succ])
                    refine wpAnyZ_skipS (i := 22) rfl (by kernel_rfl) (by kernel_rfl) (by kernel_rfl) (by kernel_rfl) (fun _ _ _ h => h) (by rfl) (by assumption) ?_
                    (try simp only [Act.put, List.getElem_toArray, List.getElem_cons_succ, List.getElem_cons_zero, List.setIfInBounds_toArray, List.set_cons_zero, List.set_cons_succ])
                    refine wpAnyZ_takeS (i := 23) (v := ?_) rfl (by kernel_rfl) (by kernel_rfl) (by kernel_rfl) (by kernel_rfl) (fun _ _ _ h => h) (gives_value (by rfl) ?_) (by assumption) ?_
                    rotate_left
                    · intro w hSw
                      (try dsimp only at hSw)
                      go_simp
                      (try with_reducible rfl)
                    (try simp only [Act.put, List.getElem_toArray, List.getElem_cons_succ, List.getElem_cons_zero, List.setIfInBounds_toArray, List.set_cons_zero, List.set_cons_succ])
                    refine wpAnyZ_done (by kernel_rfl) ?_ _
                    clear hH
                    have HBF := Lib.hid (HBr0.out.trans ((JP.out.below.drew).mono HBr0.out.size))
                    go_wp2
                    go_roundw
                    case rel => exact ⟨k + 1, by omega, by go_num, HBF.out⟩
                    case measure => simp [intOf]; omega
    · obtain rfl : k = r.length := by omega
      have tt : decide ((r.length : Int) < (r.length : Int)) = false := by simp
      have KW := Lib.hid (wakes5_any wr)
      go_wp2_with (go_at_call 17; fail)
      (with_reducible refine (KW.out).mono ?_)
      rintro e wz ⟨rfl, hb⟩
      have HBz := Lib.hid (HB5.out.trans ((HBr.out.trans (hb.mono HBr.out.size)).mono HB5.out.size))
      clear hb
      go_wp2
      go_ret
      exact ⟨rfl, HBz.out⟩
end Go.Proofs.Ytkheepedjoimmaa
