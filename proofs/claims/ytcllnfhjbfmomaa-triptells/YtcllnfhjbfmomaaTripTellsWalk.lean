/- The walk of TripTells: for any rows of numbers the law returns true; old memory stands. -/
import Derived.Test.YtcllnfhjbfmomaaRefEval
import Derived.Deep.DeepCutAuto
namespace Go.Proofs.Ytcllnfhjbfmomaa
open Go.RowKit
set_option linter.unusedSimpArgs false

def tArr : Option TripR → List Int | none => [] | some r => r.arr
def tLoad : Option TripR → List Int | none => [] | some r => r.load
def tCost : Option TripR → Int | none => 0 | some r => r.cost
def tHome : Option TripR → Int | none => 0 | some r => r.home
theorem TripV.lists {W : World} {C : Nat} {t : Option TripR} {A1 A2 : Option Addr} {n1 c1 n2 c2 : Nat} {c h : Int} {ok : Bool} (H : TripV W C t A1 n1 c1 A2 n2 c2 c h ok) :
    n1 = (tArr t).length ∧ n2 = (tLoad t).length ∧ c = tCost t ∧ h = tHome t ∧ ok = t.isSome ∧ Recs W 1 num_ (.slice A1 (tArr t).length c1) (tArr t) ∧ Recs W 1 num_ (.slice A2 (tLoad t).length c2) (tLoad t) := by
  cases ok with
  | false =>
    obtain ⟨rfl, rfl, rfl, rfl, rfl, rfl, rfl, rfl, rfl⟩ := H.no rfl
    exact ⟨rfl, rfl, rfl, rfl, rfl, Recs.nil, Recs.nil⟩
  | true =>
    obtain ⟨r, rfl, rfl, rfl, rfl, rfl, _, _, h8, h9⟩ := H.yes rfl
    exact ⟨rfl, rfl, rfl, rfl, rfl, h8, h9⟩
theorem tLen {i : Prob} {c : Int} {l : List Int} : (tArr (evalL i c l)).length ≤ l.length ∧ (tLoad (evalL i c l)).length ≤ l.length := by
  cases h : evalL i c l with
  | none => simp [tArr, tLoad]
  | some t =>
    obtain ⟨_, _, _, _, _, _, h1, h2⟩ := eval_some h
    simp only [tArr, tLoad]
    omega

set_option maxRecDepth 100000 in
set_option maxHeartbeats 8000000 in
theorem tells_walk (v u : Value) (l row : List Int) (car : Int) (w : World) (h : Recs w 1 num_ v l) (hl : l.length ≤ 9223372036854775807) (hr : Recs w 1 num_ u row) (hrl : row.length ≤ 9223372036854775807) :
    Calls Try.prog 5 #[v, u, .int .i64 car] w fun e w' => e = .returned (.bool true) ∧ Below w.heap.size w w' := by
  have HP := Lib.hid (play_said v l w h hl)
  have HU := Lib.hid hr
  clear h hr
  go_enter Try.func5, Try.ntmps5
  go_wp2_with (go_at_call 15; fail)
  (with_reducible refine (HP.out).mono ?_)
  rintro e w1 ⟨i, A1, A2, A3, A4, c1, c2, c3, c4, rfl, hs1, hok, hs2, hs8, hp2, hb1⟩
  have HOK := Lib.hid hok
  have HF := Lib.hid (fine_of hok)
  have BX1 := Lib.hid (box_new hs1 34)
  have HB1 := Lib.hid (hb1.alloc hb1.size (.cells #[.slice A1 i.cars.length c1, .slice A2 i.stops.length c2, .slice A3 i.pairs.length c3, .slice A4 i.travel.length c4] 34))
  have hcar := (fine_of hok).cars
  have HTR := Lib.hid (fine_of hok).travel
  clear hok hs1 hb1 HP
  go_upto_region 2 with (fail)
  generalize w1.alloc (.cells #[.slice A1 i.cars.length c1, .slice A2 i.stops.length c2, .slice A3 i.pairs.length c3, .slice A4 i.travel.length c4] 34) = wa at *
  generalize w1.heap.size = I at *
  have k0 := BX1.out.b0
  have k1 := BX1.out.b1
  have k2 := BX1.out.b2
  have k3 := BX1.out.b3
  have hIz := BX1.out.lt
  have k0' := k0
  go_upto_if 17 with (fail)
  go_cut [2] (fun cv wx => ∃ c : Int, cv = .int .i64 c ∧ wa = wx)
  case first =>
    by_cases h6 : car.tmod 7 = 6
    · have t1 : (car.tmod 7 != 6) = false := by simpa using h6
      have t2 : (car.tmod 7 == 6) = true := by simpa using h6
      go_wp2_with fail
      go_meet
      exact ⟨car, rfl, rfl⟩
    · have t1 : (car.tmod 7 != 6) = true := by simpa using h6
      have t2 : (car.tmod 7 == 6) = false := by simpa using h6
      obtain ⟨cn, hcn, hcnl⟩ := within_nat car (i.cars.length + 1) (by omega)
      rw [Int.natCast_add, Int.natCast_one] at hcn
      have K0 := Lib.hid (fun W => within_q car ((i.cars.length : Int) + 1) W (by omega) (by omega) _ hcn)
      clear hcn
      go_wp2_with (go_at_call 12; fail)
      (with_reducible refine (K0.out _).mono ?_)
      rintro e w2 ⟨rfl, rfl⟩
      go_wp2_with fail
      go_meet
      exact ⟨_, rfl, rfl⟩
  case rest =>
  obtain ⟨c, rfl, rfl⟩ := hcut
  clear k0'
  go_wp2_with (go_at_call 16; fail)
  (with_reducible refine (row_any _ _ i row wa BX1.out.lies HOK.out (by omega) hs2 (HU.out.below HB1.out) hrl).mono ?_)
  rintro e w2 ⟨r, A, cap, rfl, hr14, hrc, hrx, hrr, hrf, hb2⟩
  have TW := Lib.hid (⟨HB1.out.trans (hb2.mono HB1.out.size), BX1.out.below hb2, hrr⟩ : Two w w2 I A1 A2 A3 A4 c1 c2 c3 c4 i A cap r)
  have HRX : Hid (∀ x ∈ r, -1000000 ≤ x ∧ x ≤ 1000000) := fun x hx => by have := hrx x hx; omega
  clear hb2 hrr hrf hrx k0 k1 k2 k3 hIz BX1 HB1 HU
  have k0 := TW.out.box.b0
  have k1 := TW.out.box.b1
  have k2 := TW.out.box.b2
  have k3 := TW.out.box.b3
  have hIz := TW.out.box.lt
  go_wp2_with (go_at_call 9; fail)
  (with_reducible refine (eval_any _ _ i c r w2 TW.out.box.lies HOK.out (by omega) TW.out.row (by omega)).mono ?_)
  rintro e w4 hti
  obtain ⟨hb4, D1, n1, d1, D2, n2, d2, cc, hh, ok, rfl, htv⟩ := hti.parts
  obtain ⟨rfl, rfl, rfl, rfl, rfl, hra, hrb⟩ := htv.lists
  have hlen := tLen (i := i) (c := c) (l := r)
  have BA := Lib.hid (blk_new w4 #[.slice D1 (tArr (evalL i c r)).length d1, .slice D2 (tLoad (evalL i c r)).length d2, .int .i64 (tCost (evalL i c r)), .int .i64 (tHome (evalL i c r))] 26)
  have HA4 := Lib.hid ((Below.refl _ _).alloc (Nat.le_refl _) (.cells #[.slice D1 (tArr (evalL i c r)).length d1, .slice D2 (tLoad (evalL i c r)).length d2, .int .i64 (tCost (evalL i c r)), .int .i64 (tHome (evalL i c r))] 26) : Below w4.heap.size w4 _)
  have TW4 := Lib.hid ((TW.out.on hb4).on HA4.out)
  have RA := Lib.hid (And.intro (hra.below HA4.out) (hrb.below HA4.out))
  clear hb4 hti k0 k1 k2 k3 hIz TW htv hra hrb HA4
  generalize hEV : evalL i c r = ev at *
  go_upto_region 6 with (fail)
  generalize w4.alloc (.cells #[.slice D1 (tArr ev).length d1, .slice D2 (tLoad ev).length d2, .int .i64 (tCost ev), .int .i64 (tHome ev)] 26) = wb at *
  generalize w4.heap.size = Ta at *
  have k0 := TW4.out.box.b0
  have k1 := TW4.out.box.b1
  have k2 := TW4.out.box.b2
  have k3 := TW4.out.box.b3
  have hIz := TW4.out.box.lt
  go_wp2_with (go_at_call 18; fail)
  (with_reducible refine (refEval_any _ _ i c r wb TW4.out.box.lies HOK.out (by omega) TW4.out.row (by omega) HRX.out).mono ?_)
  rw [hEV]
  rintro e w5 hti
  obtain ⟨hb5, E1, n1, g1, E2, n2, g2, cc, hh, ok, rfl, htv⟩ := hti.parts
  obtain ⟨rfl, rfl, rfl, rfl, rfl, hra, hrb⟩ := htv.lists
  clear hEV
  have HA5 := Lib.hid ((Below.refl _ _).alloc (Nat.le_refl _) (.cells #[.slice E1 (tArr ev).length g1, .slice E2 (tLoad ev).length g2, .int .i64 (tCost ev), .int .i64 (tHome ev)] 48) : Below w5.heap.size w5 _)
  have HB5 := Lib.hid (hb5.trans (HA5.out.mono hb5.size))
  have BB := Lib.hid (blk_new w5 #[.slice E1 (tArr ev).length g1, .slice E2 (tLoad ev).length g2, .int .i64 (tCost ev), .int .i64 (tHome ev)] 48)
  have TW5 := Lib.hid (TW4.out.on HB5.out)
  have BA5 := Lib.hid (BA.out.below HB5.out)
  have RA5 := Lib.hid (And.intro (RA.out.1.below HB5.out) (RA.out.2.below HB5.out))
  have RB5 := Lib.hid (And.intro (hra.below HA5.out) (hrb.below HA5.out))
  clear hb5 hti k0 k1 k2 k3 hIz TW4 htv hra hrb HA5 HB5 BA RA
  go_upto_region 7 with (fail)
  generalize w5.alloc (.cells #[.slice E1 (tArr ev).length g1, .slice E2 (tLoad ev).length g2, .int .i64 (tCost ev), .int .i64 (tHome ev)] 48) = wc at *
  generalize w5.heap.size = Tb at *
  generalize tArr ev = arr at *
  generalize tLoad ev = load at *
  generalize tCost ev = cc at *
  generalize tHome ev = hh at *
  generalize ev.isSome = ok at *
  have TW0 := Lib.hid (TW5.out.on ((Below.refl _ _).drew))
  have hz0 : I < wc.drew.heap.size ∧ Ta < wc.drew.heap.size ∧ Tb < wc.drew.heap.size := ⟨TW5.out.box.lt, BA5.out.1, BB.out.1⟩
  have RAd : Hid (Recs wc.drew 1 num_ (.slice D1 arr.length d1) arr ∧ Recs wc.drew 1 num_ (.slice D2 load.length d2) load) := ⟨RA5.out.1.below ((Below.refl _ _).drew), RA5.out.2.below ((Below.refl _ _).drew)⟩
  have RBd : Hid (Recs wc.drew 1 num_ (.slice E1 arr.length g1) arr ∧ Recs wc.drew 1 num_ (.slice E2 load.length g2) load) := ⟨RB5.out.1.below ((Below.refl _ _).drew), RB5.out.2.below ((Below.refl _ _).drew)⟩
  refine wp_region_z (S := (fun w' => w'.cell? ⟨Ta, 0, none⟩ = some (.slice D1 arr.length d1) ∧ w'.cell? ⟨Ta, 1, none⟩ = some (.slice D2 load.length d2) ∧ w'.cell? ⟨Ta, 2, none⟩ = some (.int .i64 cc) ∧ w'.cell? ⟨Ta, 3, none⟩ = some (.int .i64 hh) ∧
    w'.cell? ⟨Tb, 0, none⟩ = some (.slice E1 arr.length g1) ∧ w'.cell? ⟨Tb, 1, none⟩ = some (.slice E2 load.length g2) ∧ w'.cell? ⟨Tb, 2, none⟩ = some (.int .i64 cc) ∧ w'.cell? ⟨Tb, 3, none⟩ = some (.int .i64 hh) ∧
    w'.cell? ⟨I, 0, none⟩ = some (.slice A1 i.cars.length c1) ∧ w'.cell? ⟨I, 1, none⟩ = some (.slice A2 i.stops.length c2) ∧ w'.cell? ⟨I, 2, none⟩ = some (.slice A3 i.pairs.length c3) ∧ w'.cell? ⟨I, 3, none⟩ = some (.slice A4 i.travel.length c4))) (z := 20) (by kernel_rfl) ⟨BA5.out.c0, BA5.out.c1, BA5.out.c2, BA5.out.c3, BB.out.c0, BB.out.c1, BB.out.c2, BB.out.c3, TW5.out.box.b0, TW5.out.box.b1, TW5.out.box.b2, TW5.out.box.b3⟩ (fun hH => ?_)
  have S0 := hH
  generalize wc.drew = wd at *
  refine wpAnyZ_take (i := 0) (v := ?_) rfl (by kernel_rfl) (by kernel_rfl) (by kernel_rfl) rfl (by kernel_rfl) (fun _ _ _ h => h) (gives_value (by rfl) ?_) (by assumption) ?_
  rotate_left
  · intro w hSw
    (try dsimp only at hSw)
    go_simp
    (try with_reducible rfl)
  (try simp only [Act.put, List.getElem_toArray, List.getElem_cons_succ, List.getElem_cons_zero, List.setIfInBounds_toArray, List.set_cons_zero, List.set_cons_succ])
  refine wpAnyZ_take (i := 1) (v := ?_) rfl (by kernel_rfl) (by kernel_rfl) (by kernel_rfl) rfl (by kernel_rfl) (fun _ _ _ h => h) (gives_value (by rfl) ?_) (by assumption) ?_
  rotate_left
  · intro w hSw
    (try dsimp only at hSw)
    go_simp
    (try with_reducible rfl)
  (try simp only [Act.put, List.getElem_toArray, List.getElem_cons_succ, List.getElem_cons_zero, List.setIfInBounds_toArray, List.set_cons_zero, List.set_cons_succ])
  refine wpAnyZ_take (i := 2) (v := ?_) rfl (by kernel_rfl) (by kernel_rfl) (by kernel_rfl) rfl (by kernel_rfl) (fun _ _ _ h => h) (gives_value (by rfl) ?_) (by assumption) ?_
  rotate_left
  · intro w hSw
    (try dsimp only at hSw)
    go_simp
    (try with_reducible rfl)
  (try simp only [Act.put, List.getElem_toArray, List.getElem_cons_succ, List.getElem_cons_zero, List.setIfInBounds_toArray, List.set_cons_zero, List.set_cons_succ])
  refine wpAnyZ_take (i := 3) (v := ?_) rfl (by kernel_rfl) (by kernel_rfl) (by kernel_rfl) rfl (by kernel_rfl) (fun _ _ _ h => h) (gives_value (by rfl) ?_) (by assumption) ?_
  rotate_left
  · intro w hSw
    (try dsimp only at hSw)
    go_simp
    (try with_reducible rfl)
  (try simp only [Act.put, List.getElem_toArray, List.getElem_cons_succ, List.getElem_cons_zero, List.setIfInBounds_toArray, List.set_cons_zero, List.set_cons_succ])
  refine wpAnyZ_take (i := 4) (v := ?_) rfl (by kernel_rfl) (by kernel_rfl) (by kernel_rfl) rfl (by kernel_rfl) (fun _ _ _ h => h) (gives_value (by rfl) ?_) (by assumption) ?_
  rotate_left
  · intro w hSw
    (try dsimp only at hSw)
    go_simp
    (try with_reducible rfl)
  (try simp only [Act.put, List.getElem_toArray, List.getElem_cons_succ, List.getElem_cons_zero, List.setIfInBounds_toArray, List.set_cons_zero, List.set_cons_succ])
  refine wpAnyZ_take (i := 5) (v := ?_) rfl (by kernel_rfl) (by kernel_rfl) (by kernel_rfl) rfl (by kernel_rfl) (fun _ _ _ h => h) (gives_value (by rfl) ?_) (by assumption) ?_
  rotate_left
  · intro w hSw
    (try dsimp only at hSw)
    go_simp
    (try with_reducible rfl)
  (try simp only [Act.put, List.getElem_toArray, List.getElem_cons_succ, List.getElem_cons_zero, List.setIfInBounds_toArray, List.set_cons_zero, List.set_cons_succ])
  refine wpAnyZ_one (i := 6) (by kernel_rfl) ?_
  refine zstep rfl (fun K hK => ?_)
  go_simp
  (with_reducible refine (same_trip D1 D2 E1 E2 d1 d2 g1 g2 arr load cc hh wd RAd.out.1 RAd.out.2 RBd.out.1 RBd.out.2 (by omega) (by omega)).mono ?_)
  rintro e w11 ⟨rfl, hb11⟩
  have TW11 := Lib.hid (TW0.out.on hb11)
  have S11 := (by obtain ⟨a0, a1, a2, a3, b0, b1, b2, b3, k0, k1, k2, k3⟩ := S0; exact ⟨cell_up hb11 (by omega) a0, cell_up hb11 (by omega) a1, cell_up hb11 (by omega) a2, cell_up hb11 (by omega) a3, cell_up hb11 (by omega) b0, cell_up hb11 (by omega) b1, cell_up hb11 (by omega) b2, cell_up hb11 (by omega) b3, cell_up hb11 (by omega) k0, cell_up hb11 (by omega) k1, cell_up hb11 (by omega) k2, cell_up hb11 (by omega) k3⟩ : (fun w' => w'.cell? ⟨Ta, 0, none⟩ = some (.slice D1 arr.length d1) ∧ w'.cell? ⟨Ta, 1, none⟩ = some (.slice D2 load.length d2) ∧ w'.cell? ⟨Ta, 2, none⟩ = some (.int .i64 cc) ∧ w'.cell? ⟨Ta, 3, none⟩ = some (.int .i64 hh) ∧
    w'.cell? ⟨Tb, 0, none⟩ = some (.slice E1 arr.length g1) ∧ w'.cell? ⟨Tb, 1, none⟩ = some (.slice E2 load.length g2) ∧ w'.cell? ⟨Tb, 2, none⟩ = some (.int .i64 cc) ∧ w'.cell? ⟨Tb, 3, none⟩ = some (.int .i64 hh) ∧
    w'.cell? ⟨I, 0, none⟩ = some (.slice A1 i.cars.length c1) ∧ w'.cell? ⟨I, 1, none⟩ = some (.slice A2 i.stops.length c2) ∧ w'.cell? ⟨I, 2, none⟩ = some (.slice A3 i.pairs.length c3) ∧ w'.cell? ⟨I, 3, none⟩ = some (.slice A4 i.travel.length c4)) w11)
  have hz11 : I < w11.heap.size ∧ Ta < w11.heap.size ∧ Tb < w11.heap.size := by have := hb11.size; omega
  clear hb11
  refine hK.out _ _ (fun _ => S11) (fun hH => ?_)
  replace hH := hH (by decide)
  clear hK K
  (try simp only [Act.put, List.getElem_toArray, List.getElem_cons_succ, List.getElem_cons_zero, List.setIfInBounds_toArray, List.set_cons_zero, List.set_cons_succ])
  refine wpAnyZ_take (i := 7) (v := ?_) rfl (by kernel_rfl) (by kernel_rfl) (by kernel_rfl) rfl (by kernel_rfl) (fun _ _ _ h => h) (gives_value (by rfl) ?_) (by assumption) ?_
  rotate_left
  · intro w hSw
    (try dsimp only at hSw)
    go_simp
    (try with_reducible rfl)
  (try simp only [Act.put, List.getElem_toArray, List.getElem_cons_succ, List.getElem_cons_zero, List.setIfInBounds_toArray, List.set_cons_zero, List.set_cons_succ])
  refine wpAnyZ_take (i := 8) (v := ?_) rfl (by kernel_rfl) (by kernel_rfl) (by kernel_rfl) rfl (by kernel_rfl) (fun _ _ _ h => h) (gives_value (by rfl) ?_) (by assumption) ?_
  rotate_left
  · intro w hSw
    (try dsimp only at hSw)
    go_simp
    (try with_reducible rfl)
  (try simp only [Act.put, List.getElem_toArray, List.getElem_cons_succ, List.getElem_cons_zero, List.setIfInBounds_toArray, List.set_cons_zero, List.set_cons_succ])
  refine wpAnyZ_take (i := 9) (v := ?_) rfl (by kernel_rfl) (by kernel_rfl) (by kernel_rfl) rfl (by kernel_rfl) (fun _ _ _ h => h) (gives_value (by rfl) ?_) (by assumption) ?_
  rotate_left
  · intro w hSw
    (try dsimp only at hSw)
    go_simp
    (try with_reducible rfl)
  (try simp only [Act.put, List.getElem_toArray, List.getElem_cons_succ, List.getElem_cons_zero, List.setIfInBounds_toArray, List.set_cons_zero, List.set_cons_succ])
  refine wpAnyZ_take (i := 10) (v := ?_) rfl (by kernel_rfl) (by kernel_rfl) (by kernel_rfl) rfl (by kernel_rfl) (fun _ _ _ h => h) (gives_value (by rfl) ?_) (by assumption) ?_
  rotate_left
  · intro w hSw
    (try dsimp only at hSw)
    go_simp
    (try with_reducible rfl)
  (try simp only [Act.put, List.getElem_toArray, List.getElem_cons_succ, List.getElem_cons_zero, List.setIfInBounds_toArray, List.set_cons_zero, List.set_cons_succ])
  refine wpAnyZ_take (i := 12) (v := ?_) rfl (by kernel_rfl) (by kernel_rfl) (by kernel_rfl) rfl (by kernel_rfl) (fun _ _ _ h => h) (gives_value (by rfl) ?_) (by assumption) ?_
  rotate_left
  · intro w hSw
    (try dsimp only at hSw)
    go_simp
    (try with_reducible rfl)
  (try simp only [Act.put, List.getElem_toArray, List.getElem_cons_succ, List.getElem_cons_zero, List.setIfInBounds_toArray, List.set_cons_zero, List.set_cons_succ])
  refine wpAnyZ_take (i := 13) (v := ?_) rfl (by kernel_rfl) (by kernel_rfl) (by kernel_rfl) rfl (by kernel_rfl) (fun _ _ _ h => h) (gives_value (by rfl) ?_) (by assumption) ?_
  rotate_left
  · intro w hSw
    (try dsimp only at hSw)
    go_simp
    (try with_reducible rfl)
  (try simp only [Act.put, List.getElem_toArray, List.getElem_cons_succ, List.getElem_cons_zero, List.setIfInBounds_toArray, List.set_cons_zero, List.set_cons_succ])
  refine wpAnyZ_one (i := 11) (by kernel_rfl) ?_
  refine zstep rfl (fun K hK => ?_)
  go_simp
  (with_reducible refine (cost_any _ _ i r w11 TW11.out.box.lies HOK.out (by omega) TW11.out.row (by omega)).mono ?_)
  rintro e w12 ⟨rfl, hb12⟩
  have TW12 := Lib.hid (TW11.out.on hb12)
  have S12 := (by obtain ⟨a0, a1, a2, a3, b0, b1, b2, b3, k0, k1, k2, k3⟩ := S11; exact ⟨cell_up hb12 (by omega) a0, cell_up hb12 (by omega) a1, cell_up hb12 (by omega) a2, cell_up hb12 (by omega) a3, cell_up hb12 (by omega) b0, cell_up hb12 (by omega) b1, cell_up hb12 (by omega) b2, cell_up hb12 (by omega) b3, cell_up hb12 (by omega) k0, cell_up hb12 (by omega) k1, cell_up hb12 (by omega) k2, cell_up hb12 (by omega) k3⟩ : (fun w' => w'.cell? ⟨Ta, 0, none⟩ = some (.slice D1 arr.length d1) ∧ w'.cell? ⟨Ta, 1, none⟩ = some (.slice D2 load.length d2) ∧ w'.cell? ⟨Ta, 2, none⟩ = some (.int .i64 cc) ∧ w'.cell? ⟨Ta, 3, none⟩ = some (.int .i64 hh) ∧
    w'.cell? ⟨Tb, 0, none⟩ = some (.slice E1 arr.length g1) ∧ w'.cell? ⟨Tb, 1, none⟩ = some (.slice E2 load.length g2) ∧ w'.cell? ⟨Tb, 2, none⟩ = some (.int .i64 cc) ∧ w'.cell? ⟨Tb, 3, none⟩ = some (.int .i64 hh) ∧
    w'.cell? ⟨I, 0, none⟩ = some (.slice A1 i.cars.length c1) ∧ w'.cell? ⟨I, 1, none⟩ = some (.slice A2 i.stops.length c2) ∧ w'.cell? ⟨I, 2, none⟩ = some (.slice A3 i.pairs.length c3) ∧ w'.cell? ⟨I, 3, none⟩ = some (.slice A4 i.travel.length c4)) w12)
  have hz12 : I < w12.heap.size ∧ Ta < w12.heap.size ∧ Tb < w12.heap.size := by have := hb12.size; omega
  clear hb12
  refine hK.out _ _ (fun _ => S12) (fun hH => ?_)
  replace hH := hH (by decide)
  clear hK K
  (try simp only [Act.put, List.getElem_toArray, List.getElem_cons_succ, List.getElem_cons_zero, List.setIfInBounds_toArray, List.set_cons_zero, List.set_cons_succ])
  refine wpAnyZ_one (i := 14) (by kernel_rfl) ?_
  refine zstep rfl (fun K hK => ?_)
  go_simp
  (with_reducible refine (refCost_any _ _ i r w12 TW12.out.box.lies HOK.out TW12.out.row (by omega)).mono ?_)
  rintro e w13 ⟨rfl, hb13⟩
  have TW13 := Lib.hid (TW12.out.on hb13)
  have S13 := (by obtain ⟨a0, a1, a2, a3, b0, b1, b2, b3, k0, k1, k2, k3⟩ := S12; exact ⟨cell_up hb13 (by omega) a0, cell_up hb13 (by omega) a1, cell_up hb13 (by omega) a2, cell_up hb13 (by omega) a3, cell_up hb13 (by omega) b0, cell_up hb13 (by omega) b1, cell_up hb13 (by omega) b2, cell_up hb13 (by omega) b3, cell_up hb13 (by omega) k0, cell_up hb13 (by omega) k1, cell_up hb13 (by omega) k2, cell_up hb13 (by omega) k3⟩ : (fun w' => w'.cell? ⟨Ta, 0, none⟩ = some (.slice D1 arr.length d1) ∧ w'.cell? ⟨Ta, 1, none⟩ = some (.slice D2 load.length d2) ∧ w'.cell? ⟨Ta, 2, none⟩ = some (.int .i64 cc) ∧ w'.cell? ⟨Ta, 3, none⟩ = some (.int .i64 hh) ∧
    w'.cell? ⟨Tb, 0, none⟩ = some (.slice E1 arr.length g1) ∧ w'.cell? ⟨Tb, 1, none⟩ = some (.slice E2 load.length g2) ∧ w'.cell? ⟨Tb, 2, none⟩ = some (.int .i64 cc) ∧ w'.cell? ⟨Tb, 3, none⟩ = some (.int .i64 hh) ∧
    w'.cell? ⟨I, 0, none⟩ = some (.slice A1 i.cars.length c1) ∧ w'.cell? ⟨I, 1, none⟩ = some (.slice A2 i.stops.length c2) ∧ w'.cell? ⟨I, 2, none⟩ = some (.slice A3 i.pairs.length c3) ∧ w'.cell? ⟨I, 3, none⟩ = some (.slice A4 i.travel.length c4)) w13)
  have hz13 : I < w13.heap.size ∧ Ta < w13.heap.size ∧ Tb < w13.heap.size := by have := hb13.size; omega
  clear hb13
  refine hK.out _ _ (fun _ => S13) (fun hH => ?_)
  replace hH := hH (by decide)
  clear hK K
  (try simp only [Act.put, List.getElem_toArray, List.getElem_cons_succ, List.getElem_cons_zero, List.setIfInBounds_toArray, List.set_cons_zero, List.set_cons_succ])
  refine wpAnyZ_take (i := 15) (v := ?_) rfl (by kernel_rfl) (by kernel_rfl) (by kernel_rfl) rfl (by kernel_rfl) (fun _ _ _ h => h) (gives_value (by rfl) ?_) (by assumption) ?_
  rotate_left
  · intro w hSw
    (try dsimp only at hSw)
    go_simp
    (try with_reducible rfl)
  (try simp only [Act.put, List.getElem_toArray, List.getElem_cons_succ, List.getElem_cons_zero, List.setIfInBounds_toArray, List.set_cons_zero, List.set_cons_succ])
  refine wpAnyZ_take (i := 16) (v := ?_) rfl (by kernel_rfl) (by kernel_rfl) (by kernel_rfl) rfl (by kernel_rfl) (fun _ _ _ h => h) (gives_value (by rfl) ?_) (by assumption) ?_
  rotate_left
  · intro w hSw
    (try dsimp only at hSw)
    go_simp
    (try with_reducible rfl)
  (try simp only [Act.put, List.getElem_toArray, List.getElem_cons_succ, List.getElem_cons_zero, List.setIfInBounds_toArray, List.set_cons_zero, List.set_cons_succ])
  refine wpAnyZ_take (i := 17) (v := ?_) rfl (by kernel_rfl) (by kernel_rfl) (by kernel_rfl) rfl (by kernel_rfl) (fun _ _ _ h => h) (gives_value (by rfl) ?_) (by assumption) ?_
  rotate_left
  · intro w hSw
    (try dsimp only at hSw)
    go_simp
    (try with_reducible rfl)
  (try simp only [Act.put, List.getElem_toArray, List.getElem_cons_succ, List.getElem_cons_zero, List.setIfInBounds_toArray, List.set_cons_zero, List.set_cons_succ])
  refine wpAnyZ_one (i := 18) (by kernel_rfl) ?_
  refine zstep rfl (fun K hK => ?_)
  go_simp
  (with_reducible refine (wakes_any w13).mono ?_)
  rintro e w14 ⟨rfl, hb14⟩
  have TW14 := Lib.hid (TW13.out.on hb14)
  have S14 := (by obtain ⟨a0, a1, a2, a3, b0, b1, b2, b3, k0, k1, k2, k3⟩ := S13; exact ⟨cell_up hb14 (by omega) a0, cell_up hb14 (by omega) a1, cell_up hb14 (by omega) a2, cell_up hb14 (by omega) a3, cell_up hb14 (by omega) b0, cell_up hb14 (by omega) b1, cell_up hb14 (by omega) b2, cell_up hb14 (by omega) b3, cell_up hb14 (by omega) k0, cell_up hb14 (by omega) k1, cell_up hb14 (by omega) k2, cell_up hb14 (by omega) k3⟩ : (fun w' => w'.cell? ⟨Ta, 0, none⟩ = some (.slice D1 arr.length d1) ∧ w'.cell? ⟨Ta, 1, none⟩ = some (.slice D2 load.length d2) ∧ w'.cell? ⟨Ta, 2, none⟩ = some (.int .i64 cc) ∧ w'.cell? ⟨Ta, 3, none⟩ = some (.int .i64 hh) ∧
    w'.cell? ⟨Tb, 0, none⟩ = some (.slice E1 arr.length g1) ∧ w'.cell? ⟨Tb, 1, none⟩ = some (.slice E2 load.length g2) ∧ w'.cell? ⟨Tb, 2, none⟩ = some (.int .i64 cc) ∧ w'.cell? ⟨Tb, 3, none⟩ = some (.int .i64 hh) ∧
    w'.cell? ⟨I, 0, none⟩ = some (.slice A1 i.cars.length c1) ∧ w'.cell? ⟨I, 1, none⟩ = some (.slice A2 i.stops.length c2) ∧ w'.cell? ⟨I, 2, none⟩ = some (.slice A3 i.pairs.length c3) ∧ w'.cell? ⟨I, 3, none⟩ = some (.slice A4 i.travel.length c4)) w14)
  have hz14 : I < w14.heap.size ∧ Ta < w14.heap.size ∧ Tb < w14.heap.size := by have := hb14.size; omega
  clear hb14
  refine hK.out _ _ (fun _ => S14) (fun hH => ?_)
  replace hH := hH (by decide)
  clear hK K
  (try simp only [Act.put, List.getElem_toArray, List.getElem_cons_succ, List.getElem_cons_zero, List.setIfInBounds_toArray, List.set_cons_zero, List.set_cons_succ])
  refine wpAnyZ_take (i := 19) (v := ?_) rfl (by kernel_rfl) (by kernel_rfl) (by kernel_rfl) rfl (by kernel_rfl) (fun _ _ _ h => h) (gives_value (by rfl) ?_) (by assumption) ?_
  rotate_left
  · intro w hSw
    (try dsimp only at hSw)
    go_simp
    (try with_reducible rfl)
  (try simp only [Act.put, List.getElem_toArray, List.getElem_cons_succ, List.getElem_cons_zero, List.setIfInBounds_toArray, List.set_cons_zero, List.set_cons_succ])
  refine wpAnyZ_one (i := 20) (by kernel_rfl) ?_
  refine zstep rfl (fun K hK => ?_)
  go_simp
  refine hK.out _ _ (fun h => absurd rfl h) (fun _ => ?_)
  clear hK K
  (try simp only [Act.put, List.getElem_toArray, List.getElem_cons_succ, List.getElem_cons_zero, List.setIfInBounds_toArray, List.set_cons_zero, List.set_cons_succ])
  refine wpAnyZ_done (by kernel_rfl) ?_ _
  go_wp2
  go_ret
  exact ⟨rfl, TW14.out.below⟩
end Go.Proofs.Ytcllnfhjbfmomaa
