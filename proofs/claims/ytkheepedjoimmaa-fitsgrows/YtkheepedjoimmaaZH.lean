/- The walk of FitsGrows: for any rows of numbers and any car the law returns true; old memory stands. -/
import Derived.Test.YtkheepedjoimmaaZD
namespace Go.Proofs.Ytkheepedjoimmaa
open Go.RowKit
set_option linter.unusedSimpArgs false

/-- the problem without its pairs -/
def noP (i : Prob) : Prob := ⟨i.cars, i.stops, [], i.travel⟩
theorem noP_ok {i : Prob} (h : probOk i = true) : probOk (noP i) = true := by
  simp only [probOk, Bool.and_eq_true] at h ⊢
  exact ⟨⟨⟨h.1.1.1, h.1.1.2⟩, rfl⟩, h.2⟩
theorem noP_lies {W : World} {A1 A2 A3 A4 : Option Addr} {c1 c2 c3 c4 : Nat} {i : Prob} (h : Said W A1 A2 A3 A4 c1 c2 c3 c4 i) : Lies W (.agg #[.slice A1 i.cars.length c1, .slice A2 i.stops.length c2, .slice none 0 0, .slice A4 i.travel.length c4]) (noP i) := by
  obtain ⟨h1, h2, _, h4⟩ := said_parts h
  exact ⟨_, _, _, _, rfl, h1, h2, Recs.nil, h4⟩
theorem mem_ins {r : List Int} {k : Nat} {s lo hi : Int} (h : ∀ x ∈ r, lo ≤ x ∧ x ≤ hi) (hs : lo ≤ s ∧ s ≤ hi) : ∀ x ∈ r.take k ++ s :: r.drop k, lo ≤ x ∧ x ≤ hi := fun x hx => by
  rcases List.mem_append.1 hx with hx | hx
  · exact h x (List.mem_of_mem_take hx)
  · rcases List.mem_cons.1 hx with rfl | hx
    · exact hs
    · exact h x (List.mem_of_mem_drop hx)
theorem len_ins {r : List Int} {k : Nat} (s : Int) (hk : k ≤ r.length) : (r.take k ++ s :: r.drop k).length = r.length + 1 := by
  rw [List.length_append, List.length_cons, List.length_take, List.length_drop]; omega
set_option maxRecDepth 100000 in
set_option maxHeartbeats 16000000 in
theorem grows6_walk (v u : Value) (l row : List Int) (car : Int) (w : World) (h : Recs w 1 num_ v l) (hl : l.length ≤ 9223372036854775807) (hr : Recs w 1 num_ u row) :
    Calls Try.prog 7 #[v, u, .int .i64 car] w fun e w' => e = .returned (.bool true) ∧ Below w.heap.size w w' := by
  have HP := Lib.hid (play_said v l w h hl)
  obtain ⟨Am, cm, rfl, hcm⟩ := hr.num
  have HM0 := Lib.hid hcm
  clear h hr hcm
  go_enter Try.func7, Try.ntmps7
  go_wp2_with (go_at_call 10; fail)
  (with_reducible refine (HP.out).mono ?_)
  rintro e w1 ⟨i, A1, A2, A3, A4, c1, c2, c3, c4, rfl, hs1, hok, hs2, hs8, hp2, hb1⟩
  have HOK := Lib.hid (noP_ok hok)
  have HF := Lib.hid (fine_of (noP_ok hok))
  have HM := Lib.hid (mated_of (noP_ok hok))
  have hcar := (fine_of hok).cars
  have hpn : (noP i).pairs.length ≤ 1000000 := by show 0 ≤ 1000000; omega
  have BI := Lib.hid (blk_new w1 #[.slice A1 i.cars.length c1, .slice A2 i.stops.length c2, .slice none 0 0, .slice A4 i.travel.length c4] 28)
  have LI := Lib.hid (Lies.below (noP_lies hs1) ((Below.refl w1.heap.size w1).alloc (Nat.le_refl _) (.cells #[.slice A1 i.cars.length c1, .slice A2 i.stops.length c2, .slice none 0 0, .slice A4 i.travel.length c4] 28)))
  have HB1 := Lib.hid (hb1.alloc hb1.size (.cells #[.slice A1 i.cars.length c1, .slice A2 i.stops.length c2, .slice none 0 0, .slice A4 i.travel.length c4] 28))
  clear hok hs1 hb1 HP
  go_upto_region 3 with (fail)
  generalize w1.alloc (.cells #[.slice A1 i.cars.length c1, .slice A2 i.stops.length c2, .slice none 0 0, .slice A4 i.travel.length c4] 28) = wa at *
  generalize w1.heap.size = I at *
  have SS : Hid (∀ W, Below wa.heap.size wa W → W.cell? ⟨I, 0, none⟩ = some (.slice A1 i.cars.length c1) ∧ W.cell? ⟨I, 1, none⟩ = some (.slice A2 i.stops.length c2) ∧ W.cell? ⟨I, 2, none⟩ = some (.slice none 0 0) ∧ W.cell? ⟨I, 3, none⟩ = some (.slice A4 i.travel.length c4)) := fun W hB => ⟨(BI.out.below hB).cell (j := 0) rfl, (BI.out.below hB).cell (j := 1) rfl, (BI.out.below hB).cell (j := 2) rfl, (BI.out.below hB).cell (j := 3) rfl⟩
  obtain ⟨k0, k1, k2, k3⟩ := SS.out _ (Below.refl wa.heap.size wa)
  have hIz := (BI.out.below (Below.refl wa.heap.size wa)).1
  obtain ⟨cn, hcn, hcnl⟩ := within_nat car i.cars.length (by omega)
  have K0 := Lib.hid (fun W => within_q car i.cars.length W (by omega) (by omega) _ hcn)
  clear hcn
  go_wp2_with (go_at_call 11; fail)
  (with_reducible refine (K0.out _).mono ?_)
  rintro e w2 ⟨rfl, hww⟩
  replace hww := hww.symm
  subst hww
  clear K0
  have hc : inB (cn : Int) 0 ((noP i).cars.length - 1) = true := inB_iff.2 ⟨by omega, by show (cn : Int) ≤ (i.cars.length : Int) - 1; omega⟩
  have HC := Lib.hid hc
  clear hc
  have KN : Hid (Calls Try.prog 18 #[.agg #[.slice A1 i.cars.length c1, .slice A2 i.stops.length c2, .slice none 0 0, .slice A4 i.travel.length c4], .int .i64 cn, .slice none 0 0] wa fun e w' => ∃ a, e = .returned (.pointer (some ⟨a, 0, none⟩)) ∧ Tbl wa.heap.size a (noP i) cn [] w' ∧ Below wa.heap.size wa w') := fnew_any _ (noP i) cn [] none 0 wa LI.out Recs.nil HOK.out hpn (by decide)
  go_wp2_with (go_at_call 18; fail)
  (with_reducible refine (KN.out).mono ?_)
  rintro e w4 ⟨a, rfl, ht, hb⟩
  have HT := Lib.hid ht
  have HB4 := Lib.hid hb
  have hal := ht.lt.2
  clear ht hb KN k0 k1 k2 k3 hIz
  go_wp2
  go_loopw [9, 10] (fun rv kv wr => ∃ (kk : Nat) (r : List Int) (A : Option Addr) (cap : Nat), kk ≤ 31 ∧ 2 * r.length ≤ kk ∧ r.length ≤ cap ∧ (∀ x ∈ r, 1 ≤ x ∧ x ≤ 10) ∧ rv = .slice A r.length cap ∧ kv = .int .i64 kk ∧ Recs wr 1 num_ (.slice A r.length cap) r ∧ Tbl wa.heap.size a (noP i) cn r wr ∧ Below wa.heap.size wa wr) (fun _ kv _ => 32 - (intOf kv).toNat)
  case atStart => exact ⟨0, [], none, 0, by omega, by simp, by simp, fun x hx => by simp at hx, rfl, rfl, Recs.nil, HT.out, HB4.out⟩
  case round =>
    obtain ⟨kk, r, A, cap, hkk, hrl2, hrc, hrx, rfl, rfl, hrr, htr, hbr⟩ := hrel
    have HBr := Lib.hid hbr
    have RR := Lib.hid hrr
    have TR := Lib.hid htr
    have RX := Lib.hid hrx
    clear hbr hrr htr hrx HT HB4
    have nk : IntKind.i64.wrap ((kk : Int) + 1) = (kk : Int) + 1 := IntWalk.i64_in _ (by omega)
    have nk2 : IntKind.i64.wrap ((kk : Int) + 2) = (kk : Int) + 2 := IntWalk.i64_in _ (by omega)
    by_cases hgo : kk + 1 < row.length ∧ kk < 30
    · obtain ⟨hg1, hg2⟩ := hgo
      have t1 : decide ((kk : Int) + 1 < (row.length : Int)) = true := by simp; omega
      have t2 : decide ((kk : Int) < 30) = true := by simp; omega
      obtain ⟨Bm, om, rfl, hBm, dm0⟩ := HM0.out kk (by omega)
      obtain ⟨Bm', om', eqm, _, dm1⟩ := HM0.out (kk + 1) (by omega)
      obtain ⟨rfl, rfl⟩ : Bm = Bm' ∧ om = om' := by injection eqm with e; injection e with a b; exact ⟨a, b⟩
      clear eqm
      have hww : Hid (Below w.heap.size w wr) := HB1.out.trans (HBr.out.mono HB1.out.size)
      have hmz : Bm < wr.heap.size := Nat.lt_of_lt_of_le hBm hww.out.size
      have S2 : Hid (∀ W, Below wr.heap.size wr W → (W.cell? ⟨I, 0, none⟩ = some (.slice A1 i.cars.length c1) ∧ W.cell? ⟨I, 1, none⟩ = some (.slice A2 i.stops.length c2) ∧ W.cell? ⟨I, 2, none⟩ = some (.slice none 0 0) ∧ W.cell? ⟨I, 3, none⟩ = some (.slice A4 i.travel.length c4)) ∧ W.cell? ⟨Bm, om + kk, none⟩ = some (.int .i64 row[kk]) ∧ W.cell? ⟨Bm, om + (kk + 1), none⟩ = some (.int .i64 row[kk + 1])) := fun W hB => ⟨SS.out W (HBr.out.trans (hB.mono HBr.out.size)), cell_up (hww.out.trans (hB.mono hww.out.size)) hBm dm0, cell_up (hww.out.trans (hB.mono hww.out.size)) hBm dm1⟩
      clear dm0 dm1
      generalize row[kk] = m1 at *
      generalize row[kk + 1] = m2 at *
      obtain ⟨sn, hsn, hsnl⟩ := within_nat m1 i.stops.length (by omega)
      have K0 := Lib.hid (fun W => (within_q m1 i.stops.length W (by omega) (by omega) _ hsn).mono fun e w' h => (⟨h.1, h.2.symm⟩ : e = .returned (.int .i64 (sn : Int)) ∧ W = w'))
      obtain ⟨p, hpn', hpl⟩ := within_nat m2 (r.length + 1) (by omega)
      rw [Int.natCast_add, Int.natCast_one] at hpn'
      have K1 := Lib.hid (fun W => (within_q m2 ((r.length : Int) + 1) W (by omega) (by omega) _ hpn').mono fun e w' h => (⟨h.1, h.2.symm⟩ : e = .returned (.int .i64 (p : Int)) ∧ W = w'))
      clear hsn hpn'
      have hpr : p ≤ r.length := by omega
      have nl : IntKind.i64.wrap ((r.length : Int) + 1) = (r.length : Int) + 1 := IntWalk.i64_in _ (by omega)
      have nsn : IntKind.i64.wrap (1 + (sn : Int)) = 1 + (sn : Int) := IntWalk.i64_in _ (by omega)
      have n0 : (0 : Int) ≤ (kk : Int) := by omega
      have n1 : (kk : Int) < (row.length : Int) := by omega
      have n2 : (kk : Int).toNat = kk := by omega
      have n3 : (0 : Int) ≤ (kk : Int) + 1 := by omega
      have n4 : (kk : Int) + 1 < (row.length : Int) := by omega
      have n5 : ((kk : Int) + 1).toNat = kk + 1 := by omega
      go_upto_region 11 with (fail)
      refine wp_region_z (S := (fun W => (W.cell? ⟨I, 0, none⟩ = some (.slice A1 i.cars.length c1) ∧ W.cell? ⟨I, 1, none⟩ = some (.slice A2 i.stops.length c2) ∧ W.cell? ⟨I, 2, none⟩ = some (.slice none 0 0) ∧ W.cell? ⟨I, 3, none⟩ = some (.slice A4 i.travel.length c4)) ∧ W.cell? ⟨Bm, om + kk, none⟩ = some (.int .i64 m1) ∧ W.cell? ⟨Bm, om + (kk + 1), none⟩ = some (.int .i64 m2))) (z := 20) (by kernel_rfl) (S2.out _ (Below.refl wr.heap.size wr).drew) (fun hH => ?_)
      refine wpAnyZ_takeS (i := 0) (v := ?_) rfl (by kernel_rfl) (by kernel_rfl) (by kernel_rfl) (by kernel_rfl) (fun _ _ _ h => h) (gives_value (by rfl) ?_) (by assumption) ?_
      rotate_left
      · intro w hSw
        (try dsimp only at hSw)
        go_simp
        (try with_reducible rfl)
      (try simp only [Act.put, List.getElem_toArray, List.getElem_cons_succ, List.getElem_cons_zero, List.setIfInBounds_toArray, List.set_cons_zero, List.set_cons_succ])
      refine wpAnyZ_takeS (i := 1) (v := ?_) rfl (by kernel_rfl) (by kernel_rfl) (by kernel_rfl) (by kernel_rfl) (fun _ _ _ h => h) (gives_value (by rfl) ?_) (by assumption) ?_
      rotate_left
      · intro w hSw
        (try dsimp only at hSw)
        go_simp
        (try with_reducible rfl)
      (try simp only [Act.put, List.getElem_toArray, List.getElem_cons_succ, List.getElem_cons_zero, List.setIfInBounds_toArray, List.set_cons_zero, List.set_cons_succ])
      refine wpAnyZ_takeS (i := 2) (v := ?_) rfl (by kernel_rfl) (by kernel_rfl) (by kernel_rfl) (by kernel_rfl) (fun _ _ _ h => h) (gives_value (by rfl) ?_) (by assumption) ?_
      rotate_left
      · intro w hSw
        (try dsimp only at hSw)
        go_simp
        (try with_reducible rfl)
      (try simp only [Act.put, List.getElem_toArray, List.getElem_cons_succ, List.getElem_cons_zero, List.setIfInBounds_toArray, List.set_cons_zero, List.set_cons_succ])
      refine wpAnyZ_takeS (i := 3) (v := ?_) rfl (by kernel_rfl) (by kernel_rfl) (by kernel_rfl) (by kernel_rfl) (fun _ _ _ h => h) (gives_value (by rfl) ?_) (by assumption) ?_
      rotate_left
      · intro w hSw
        (try dsimp only at hSw)
        go_simp
        (try with_reducible rfl)
      (try simp only [Act.put, List.getElem_toArray, List.getElem_cons_succ, List.getElem_cons_zero, List.setIfInBounds_toArray, List.set_cons_zero, List.set_cons_succ])
      refine wpAnyZ_takeS (i := 4) (v := ?_) rfl (by kernel_rfl) (by kernel_rfl) (by kernel_rfl) (by kernel_rfl) (fun _ _ _ h => h) (gives_value (by rfl) ?_) (by assumption) ?_
      rotate_left
      · intro w hSw
        (try dsimp only at hSw)
        go_simp
        (try with_reducible rfl)
      (try simp only [Act.put, List.getElem_toArray, List.getElem_cons_succ, List.getElem_cons_zero, List.setIfInBounds_toArray, List.set_cons_zero, List.set_cons_succ])
      refine wpAnyZ_takeS (i := 5) (v := ?_) rfl (by kernel_rfl) (by kernel_rfl) (by kernel_rfl) (by kernel_rfl) (fun _ _ _ h => h) (gives_value (by rfl) ?_) (by assumption) ?_
      rotate_left
      · intro w hSw
        (try dsimp only at hSw)
        go_simp
        (try with_reducible rfl)
      (try simp only [Act.put, List.getElem_toArray, List.getElem_cons_succ, List.getElem_cons_zero, List.setIfInBounds_toArray, List.set_cons_zero, List.set_cons_succ])
      refine wpAnyZ_takeS (i := 6) (v := ?_) rfl (by kernel_rfl) (by kernel_rfl) (by kernel_rfl) (by kernel_rfl) (fun _ _ _ h => h) (gives_value (by rfl) ?_) (by assumption) ?_
      rotate_left
      · intro w hSw
        (try dsimp only at hSw)
        go_simp
        (try with_reducible rfl)
      (try simp only [Act.put, List.getElem_toArray, List.getElem_cons_succ, List.getElem_cons_zero, List.setIfInBounds_toArray, List.set_cons_zero, List.set_cons_succ])
      refine wpAnyZ_takeS (i := 7) (v := .int .i64 (sn : Int)) rfl (by kernel_rfl) (by kernel_rfl) (by kernel_rfl) (by kernel_rfl) (fun _ _ _ h => h) (gives_call (by rfl) ?_ (fun w _ => K0.out w)) (by assumption) ?_
      · intro w
        go_simp
        (try with_reducible rfl)
      (try simp only [Act.put, List.getElem_toArray, List.getElem_cons_succ, List.getElem_cons_zero, List.setIfInBounds_toArray, List.set_cons_zero, List.set_cons_succ])
      refine wpAnyZ_takeS (i := 8) (v := ?_) rfl (by kernel_rfl) (by kernel_rfl) (by kernel_rfl) (by kernel_rfl) (fun _ _ _ h => h) (gives_value (by rfl) ?_) (by assumption) ?_
      rotate_left
      · intro w hSw
        (try dsimp only at hSw)
        go_simp
        (try with_reducible rfl)
      (try simp only [Act.put, List.getElem_toArray, List.getElem_cons_succ, List.getElem_cons_zero, List.setIfInBounds_toArray, List.set_cons_zero, List.set_cons_succ])
      refine wpAnyZ_takeS (i := 9) (v := ?_) rfl (by kernel_rfl) (by kernel_rfl) (by kernel_rfl) (by kernel_rfl) (fun _ _ _ h => h) (gives_value (by rfl) ?_) (by assumption) ?_
      rotate_left
      · intro w hSw
        (try dsimp only at hSw)
        go_simp
        (try with_reducible rfl)
      (try simp only [Act.put, List.getElem_toArray, List.getElem_cons_succ, List.getElem_cons_zero, List.setIfInBounds_toArray, List.set_cons_zero, List.set_cons_succ])
      refine wpAnyZ_takeS (i := 10) (v := ?_) rfl (by kernel_rfl) (by kernel_rfl) (by kernel_rfl) (by kernel_rfl) (fun _ _ _ h => h) (gives_value (by rfl) ?_) (by assumption) ?_
      rotate_left
      · intro w hSw
        (try dsimp only at hSw)
        go_simp
        (try with_reducible rfl)
      (try simp only [Act.put, List.getElem_toArray, List.getElem_cons_succ, List.getElem_cons_zero, List.setIfInBounds_toArray, List.set_cons_zero, List.set_cons_succ])
      refine wpAnyZ_takeS (i := 11) (v := ?_) rfl (by kernel_rfl) (by kernel_rfl) (by kernel_rfl) (by kernel_rfl) (fun _ _ _ h => h) (gives_value (by rfl) ?_) (by assumption) ?_
      rotate_left
      · intro w hSw
        (try dsimp only at hSw)
        go_simp
        (try with_reducible rfl)
      (try simp only [Act.put, List.getElem_toArray, List.getElem_cons_succ, List.getElem_cons_zero, List.setIfInBounds_toArray, List.set_cons_zero, List.set_cons_succ])
      refine wpAnyZ_takeS (i := 12) (v := ?_) rfl (by kernel_rfl) (by kernel_rfl) (by kernel_rfl) (by kernel_rfl) (fun _ _ _ h => h) (gives_value (by rfl) ?_) (by assumption) ?_
      rotate_left
      · intro w hSw
        (try dsimp only at hSw)
        go_simp
        (try with_reducible rfl)
      (try simp only [Act.put, List.getElem_toArray, List.getElem_cons_succ, List.getElem_cons_zero, List.setIfInBounds_toArray, List.set_cons_zero, List.set_cons_succ])
      refine wpAnyZ_takeS (i := 13) (v := ?_) rfl (by kernel_rfl) (by kernel_rfl) (by kernel_rfl) (by kernel_rfl) (fun _ _ _ h => h) (gives_value (by rfl) ?_) (by assumption) ?_
      rotate_left
      · intro w hSw
        (try dsimp only at hSw)
        go_simp
        (try with_reducible rfl)
      (try simp only [Act.put, List.getElem_toArray, List.getElem_cons_succ, List.getElem_cons_zero, List.setIfInBounds_toArray, List.set_cons_zero, List.set_cons_succ])
      refine wpAnyZ_takeS (i := 14) (v := ?_) rfl (by kernel_rfl) (by kernel_rfl) (by kernel_rfl) (by kernel_rfl) (fun _ _ _ h => h) (gives_value (by rfl) ?_) (by assumption) ?_
      rotate_left
      · intro w hSw
        (try dsimp only at hSw)
        go_simp
        (try with_reducible rfl)
      (try simp only [Act.put, List.getElem_toArray, List.getElem_cons_succ, List.getElem_cons_zero, List.setIfInBounds_toArray, List.set_cons_zero, List.set_cons_succ])
      refine wpAnyZ_takeS (i := 15) (v := ?_) rfl (by kernel_rfl) (by kernel_rfl) (by kernel_rfl) (by kernel_rfl) (fun _ _ _ h => h) (gives_value (by rfl) ?_) (by assumption) ?_
      rotate_left
      · intro w hSw
        (try dsimp only at hSw)
        go_simp
        (try with_reducible rfl)
      (try simp only [Act.put, List.getElem_toArray, List.getElem_cons_succ, List.getElem_cons_zero, List.setIfInBounds_toArray, List.set_cons_zero, List.set_cons_succ])
      refine wpAnyZ_takeS (i := 16) (v := ?_) rfl (by kernel_rfl) (by kernel_rfl) (by kernel_rfl) (by kernel_rfl) (fun _ _ _ h => h) (gives_value (by rfl) ?_) (by assumption) ?_
      rotate_left
      · intro w hSw
        (try dsimp only at hSw)
        go_simp
        (try with_reducible rfl)
      (try simp only [Act.put, List.getElem_toArray, List.getElem_cons_succ, List.getElem_cons_zero, List.setIfInBounds_toArray, List.set_cons_zero, List.set_cons_succ])
      refine wpAnyZ_takeS (i := 17) (v := .int .i64 (p : Int)) rfl (by kernel_rfl) (by kernel_rfl) (by kernel_rfl) (by kernel_rfl) (fun _ _ _ h => h) (gives_call (by rfl) ?_ (fun w _ => K1.out w)) (by assumption) ?_
      · intro w
        go_simp
        (try with_reducible rfl)
      (try simp only [Act.put, List.getElem_toArray, List.getElem_cons_succ, List.getElem_cons_zero, List.setIfInBounds_toArray, List.set_cons_zero, List.set_cons_succ])
      refine wpAnyZ_takeS (i := 18) (v := ?_) rfl (by kernel_rfl) (by kernel_rfl) (by kernel_rfl) (by kernel_rfl) (fun _ _ _ h => h) (gives_value (by rfl) ?_) (by assumption) ?_
      rotate_left
      · intro w hSw
        (try dsimp only at hSw)
        go_simp
        (try with_reducible rfl)
      (try simp only [Act.put, List.getElem_toArray, List.getElem_cons_succ, List.getElem_cons_zero, List.setIfInBounds_toArray, List.set_cons_zero, List.set_cons_succ])
      refine wpAnyZ_takeS (i := 19) (v := ?_) rfl (by kernel_rfl) (by kernel_rfl) (by kernel_rfl) (by kernel_rfl) (fun _ _ _ h => h) (gives_value (by rfl) ?_) (by assumption) ?_
      rotate_left
      · intro w hSw
        (try dsimp only at hSw)
        go_simp
        (try with_reducible rfl)
      (try simp only [Act.put, List.getElem_toArray, List.getElem_cons_succ, List.getElem_cons_zero, List.setIfInBounds_toArray, List.set_cons_zero, List.set_cons_succ])
      refine wpAnyZ_done (by kernel_rfl) ?_ _
      clear hH K0 K1 S2 n0 n1 n2 n3 n4 n5 nl
      have hsb : 1 ≤ 1 + (sn : Int) ∧ 1 + (sn : Int) ≤ 10 := by omega
      generalize 1 + (sn : Int) = s at *
      obtain ⟨mc, mo, hmc⟩ := meetV_form ((evalL (noP i) cn (r.take p ++ s :: r.drop p)).map (fun t : TripR => t.cost))
      have Hmc := Lib.hid hmc
      clear hmc
      have hdr : Hid (Below wr.heap.size wr wr.drew) := (Below.refl _ _).drew
      have KI : Hid (Calls Try.prog 23 #[.pointer (some ⟨a, 0, none⟩), .int .i64 (p : Int), .int .i64 s] wr.drew fun e w' => e = .returned (.tuple #[.int .i64 mc, .bool mo]) ∧ Below wr.drew.heap.size wr.drew w') := by
        have := Fins p s (TR.out.below hdr.out).view HOK.out hpn (by omega)
        rw [ins_val HM.out (carAt_bounds HF.out cn).1 HC.out hpr s, Hmc.out] at this
        exact this
      go_wp2_with (go_at_call 23; fail)
      (with_reducible refine (KI.out).mono ?_)
      rintro e w12 ⟨rfl, hb⟩
      have HB12 := Lib.hid (hdr.out.trans (hb.mono hdr.out.size))
      clear hb KI hdr
      have HBa := Lib.hid (HBr.out.trans (HB12.out.mono HBr.out.size))
      have TR2 := Lib.hid (TR.out.below HB12.out)
      have RR2 := Lib.hid (RR.out.below HB12.out)
      clear TR RR
      cases mo
      · go_wp2
        go_roundw
        case rel => exact ⟨kk + 2, r, A, cap, by omega, by omega, hrc, RX.out, rfl, by go_num, RR2.out, TR2.out, HBa.out⟩
        case measure => simp [intOf]; omega
      · have KWi : Hid (Calls Try.prog 27 #[.slice A r.length cap, .int .i64 (p : Int), .int .i64 s] w12 (NewRow w12 (r.take p ++ s :: r.drop p))) := with_any A cap r p s w12 RR2.out (by omega) hrc hpr
        have hqa : (r.take p ++ s :: r.drop p).length ≤ r.length + 1 := Nat.le_of_eq (len_ins (r := r) s hpr)
        have hqb : r.length + 1 ≤ (r.take p ++ s :: r.drop p).length := Nat.le_of_eq (len_ins (r := r) s hpr).symm
        have HQX := Lib.hid (mem_ins (k := p) RX.out hsb)
        generalize hq : r.take p ++ s :: r.drop p = q at *
        clear hq
        have haz := TR2.out.lt.1
        go_wp2_with (go_at_call 27; fail)
        (with_reducible refine (KWi.out).mono ?_)
        rintro e w13 ⟨A', cap', rfl, hqc, hy, hb⟩
        have HB13 := Lib.hid hb
        have YQ := Lib.hid (hy.both (a := a) (.inl haz) (Below.refl _ _))
        have TR3 := Lib.hid (TR2.out.below hb)
        have HBb := Lib.hid (HBa.out.trans (hb.mono HBa.out.size))
        clear hb hy KWi TR2 RR2
        have KS : Hid (Calls Try.prog 25 #[.pointer (some ⟨a, 0, none⟩), .slice A' q.length cap'] w13 fun e w' => e = .returned (.tuple #[]) ∧ Tbl wa.heap.size a (noP i) cn q w' ∧ w13.grownBy w' (some a)) :=
          fset_any wa.heap.size a (noP i) cn q A' cap' w13 TR3.out.pre (YQ.out.low (Nat.zero_le _)) HOK.out hpn (by omega)
        go_wp2_with (go_at_call 25; fail)
        (with_reducible refine (KS.out).mono ?_)
        rintro e w14 ⟨rfl, ht, hg⟩
        have TQ := Lib.hid ht
        have RQ := Lib.hid ((YQ.out.on (Ex.of_grown hg (fun b hb => by injection hb with hb; exact .inr hb.symm))).now)
        have HBc := Lib.hid (HBb.out.grown hg HBb.out.size (fun k hk => by injection hk with hk; omega))
        clear ht hg KS TR3 YQ HBb HB13
        have KE : Hid (Calls Try.prog 13 #[.agg #[.slice A1 i.cars.length c1, .slice A2 i.stops.length c2, .slice none 0 0, .slice A4 i.travel.length c4], .int .i64 cn, .slice A' q.length cap'] w14 (TripIs w14 (evalL (noP i) cn q))) := refEval_any _ _ (noP i) cn q w14 (LI.out.below HBc.out) HOK.out hpn RQ.out (by omega) (fun x hx => by have := HQX.out x hx; omega)
        obtain ⟨k0, k1, k2, k3⟩ := SS.out _ HBc.out
        have hIz := (BI.out.below HBc.out).1
        go_wp2_with (go_at_call 13; fail)
        (with_reducible refine (KE.out).mono ?_)
        rintro e w15 hti
        obtain ⟨hb, D1, n1, d1, D2, n2, d2, cc, hh, ok, rfl, htv⟩ := hti.parts
        obtain ⟨q1, q2, q3⟩ := trip_cost htv Hmc.out
        subst q1 q2
        clear htv hti KE q3 k0 k1 k2 k3 hIz
        have TQ5 := Lib.hid (TQ.out.below hb)
        have RQ5 := Lib.hid (RQ.out.below hb)
        have HBd := Lib.hid (HBc.out.trans (hb.mono HBc.out.size))
        clear hb TQ RQ HBc
        have BT := Lib.hid (blk_new w15 #[.slice D1 n1 d1, .slice D2 n2 d2, .int .i64 cc, .int .i64 hh] 33)
        have hb6 : Hid (Below w15.heap.size w15 (w15.alloc (.cells #[.slice D1 n1 d1, .slice D2 n2 d2, .int .i64 cc, .int .i64 hh] 33))) := (Below.refl _ _).alloc (Nat.le_refl _) _
        go_upto_region 17 with (fail)
        generalize w15.alloc (.cells #[.slice D1 n1 d1, .slice D2 n2 d2, .int .i64 cc, .int .i64 hh] 33) = w16 at *
        have KWh : Hid (Calls Try.prog 21 #[.pointer (some ⟨a, 0, none⟩)] w16 fun e w' => e = .returned (.tuple #[.int .i64 cc, .bool true]) ∧ Below w16.heap.size w16 w') := by
          have := Fwhole (TQ5.out.below hb6.out).view HOK.out hpn (by omega)
          rw [show meetC (noP i) cn (headAt (noP i) cn q 0) (tailAt (noP i) cn q 0) = (evalL (noP i) cn q).map (fun t : TripR => t.cost) by have := cross_val (r := q) (q := q) (k := 0) (m := 0) HM.out (carAt_bounds HF.out cn).1 HC.out (Nat.zero_le _) (Nat.zero_le _); simpa using this, Hmc.out] at this
          exact this
        go_wp2_with (go_at_call 21; fail)
        (with_reducible refine (KWh.out).mono ?_)
        rintro e w17 ⟨rfl, hb⟩
        have HBt := Lib.hid (hb6.out.trans (hb.mono hb6.out.size))
        have b2 := (BT.out.below hb).cell (j := 2) rfl
        have hTz := (BT.out.below hb).1
        have TQ7 := Lib.hid (TQ5.out.below HBt.out)
        have RQ7 := Lib.hid (RQ5.out.below HBt.out)
        have HBe := Lib.hid (HBd.out.trans (HBt.out.mono HBd.out.size))
        have KL := Lib.hid (Flen TQ7.out.view)
        clear hb KWh BT hb6 TQ5 RQ5 HBd HBt
        have tcc : (cc != cc) = false := by simp
        have tll : ((q.length : Int) != (q.length : Int)) = false := by simp
        go_wp2_with (go_at_call 26; fail)
        (with_reducible refine (KL.out).mono ?_)
        rintro e wz ⟨rfl, hww⟩
        replace hww := hww.symm
        subst hww
        go_wp2
        go_roundw
        case rel => exact ⟨kk + 2, q, A', cap', by omega, by omega, hqc, HQX.out, rfl, by go_num, RQ7.out, TQ7.out, HBe.out⟩
        case measure => simp [intOf]; omega
    · have KW := Lib.hid (wakes6_any wr)
      by_cases hg1 : kk + 1 < row.length
      · have t1 : decide ((kk : Int) + 1 < (row.length : Int)) = true := by simp; omega
        have t2 : decide ((kk : Int) < 30) = false := by simp; omega
        go_wp2_with (go_at_call 22; fail)
        (with_reducible refine (KW.out).mono ?_)
        rintro e y5 ⟨rfl, hb⟩
        have HBy := Lib.hid (HB1.out.trans ((HBr.out.trans (hb.mono HBr.out.size)).mono HB1.out.size))
        clear hb KW
        go_wp2
        go_ret
        exact ⟨rfl, HBy.out⟩
      · have t1 : decide ((kk : Int) + 1 < (row.length : Int)) = false := by simp; omega
        go_wp2_with (go_at_call 22; fail)
        (with_reducible refine (KW.out).mono ?_)
        rintro e y5 ⟨rfl, hb⟩
        have HBy := Lib.hid (HB1.out.trans ((HBr.out.trans (hb.mono HBr.out.size)).mono HB1.out.size))
        clear hb KW
        go_wp2
        go_ret
        exact ⟨rfl, HBy.out⟩
end Go.Proofs.Ytkheepedjoimmaa
