/- The walk of TripForms: for any number the law returns true; old memory stands. -/
import Derived.Test.YtcllnfhjbfmomaaFormsLay
import Derived.Test.YtcllnfhjbfmomaaKeep
import Derived.Test.YtcllnfhjbfmomaaOrders
import Derived.StillTailTactics
import Derived.Deep.DeepCutAuto
namespace Go.Proofs.Ytcllnfhjbfmomaa
open Go.RowKit
set_option linter.unusedSimpArgs false

theorem row_cases {car : Int} {rl : List Int} {okx : Bool} {al bl : List Int} {cx hx : Int} (h : rowGood ⟨car, rl, okx, al, bl, cx, hx⟩ = true) :
    (bl.length = 3 ∧ bl[2]?.getD 0 < 0 ∧ evalL handProb car rl = none) ∨ (okx = false ∧ evalL handProb car rl = none ∧ al = [] ∧ bl = [] ∧ cx = 0 ∧ hx = 0) ∨
    (okx = true ∧ evalL handProb car rl = some ⟨al, bl, cx, hx⟩ ∧ bl.length ≠ 3) ∨ (okx = true ∧ evalL handProb car rl = some ⟨al, bl, cx, hx⟩ ∧ bl.length = 3 ∧ ¬ bl[2]?.getD 0 < 0) := by
  unfold rowGood at h
  simp only at h
  split at h
  · next hc => exact .inl ⟨hc.1, hc.2, by simpa using h⟩
  · next hc =>
    split at h
    · next ho =>
      have he : evalL handProb car rl = some ⟨al, bl, cx, hx⟩ := by simpa using h
      by_cases h3 : bl.length = 3
      · exact .inr (.inr (.inr ⟨ho, he, h3, fun h => hc ⟨h3, h⟩⟩))
      · exact .inr (.inr (.inl ⟨ho, he, h3⟩))
    · next ho =>
      simp only [Bool.and_eq_true, decide_eq_true_eq] at h
      exact .inr (.inl ⟨by simpa using ho, h.1.1.1.1, h.1.1.1.2, h.1.1.2, h.1.2, h.2⟩)
theorem TripV.none' {W : World} {C : Nat} {t : Option TripR} {A1 A2 : Option Addr} {n1 c1 n2 c2 : Nat} {c h : Int} {ok : Bool} (H : TripV W C t A1 n1 c1 A2 n2 c2 c h ok) (ht : t = none) : ok = false ∧ A1 = none ∧ n1 = 0 ∧ c1 = 0 ∧ A2 = none ∧ n2 = 0 ∧ c2 = 0 ∧ c = 0 ∧ h = 0 := by
  cases ok
  · exact ⟨rfl, (H.no rfl).2⟩
  · obtain ⟨r, h1, _⟩ := H.yes rfl
    rw [ht] at h1; cases h1
theorem TripV.some' {W : World} {C : Nat} {t : Option TripR} {A1 A2 : Option Addr} {n1 c1 n2 c2 : Nat} {c h : Int} {ok : Bool} (H : TripV W C t A1 n1 c1 A2 n2 c2 c h ok) {r : TripR} (ht : t = some r) : ok = true ∧ n1 = r.arr.length ∧ n2 = r.load.length ∧ c = r.cost ∧ h = r.home ∧ Recs W 1 num_ (.slice A1 r.arr.length c1) r.arr ∧ Recs W 1 num_ (.slice A2 r.load.length c2) r.load := by
  cases ok
  · have := (H.no rfl).1
    rw [ht] at this; cases this
  · obtain ⟨r', h1, h2, h3, h4, h5, _, _, h8, h9⟩ := H.yes rfl
    rw [ht] at h1; cases h1
    exact ⟨rfl, h2, h3, h4, h5, h8, h9⟩
theorem cost_hand (v u : Value) (l : List Int) (c : Int) (w : World) (h : Lies w v handProb) (hr : Recs w 1 num_ u l) (hl : l.length ≤ 1000000) (hc : costP handProb l = c) :
    Calls Try.prog 13 #[v, u] w fun e w' => e = .returned (.int .i64 c) ∧ Below w.heap.size w w' := by
  subst hc
  exact cost_any v u handProb l w h hand_ok (by decide) hr hl
theorem cost_far (q : Nat) : costP handProb [1, 5 + (q : Int)] = 0 := by
  unfold costP
  rw [if_neg]
  simp [thereB, handProb, inB]
  omega
theorem box4 {W : World} {Q : Nat} {a b c d : Value} (h : Blk W Q [a, b, c, d]) (a' b' c' d' : Value) : Blk ((((W.setCell ⟨Q, 0, none⟩ a').setCell ⟨Q, 1, none⟩ b').setCell ⟨Q, 2, none⟩ c').setCell ⟨Q, 3, none⟩ d') Q [a', b', c', d'] :=
  (((h.set (k := 0) (by simp) a').set (k := 1) (by simp) b').set (k := 2) (by simp) c').set (k := 3) (by simp) d'

set_option maxRecDepth 100000 in
set_option maxHeartbeats 8000000 in
theorem forms_walk (n : Int) (w : World) : Calls Try.prog 3 #[.int .i64 n] w fun e w' => e = .returned (.bool true) ∧ Below w.heap.size w w' := by
  go_enter Try.func3, Try.ntmps3
  go_upto_region 1 with (fail)
  go_cut [56, 57, 58] from 7 to 151 (fun tv lv kv wx => ∃ T : Nat, tv = .slice (some ⟨T, 0, none⟩) 20 20 ∧ lv = .int .i64 20 ∧ kv = .int .i64 0 ∧ FTab wx T ∧ Below w.heap.size w wx)
  case first =>
    go_wp2_with fail
    go_meet
    exact ⟨_, rfl, rfl, rfl, forms_lay w, lays_below (flay w) (Below.refl _ _) (Nat.le_refl _)⟩
  case rest =>
    obtain ⟨T, rfl, rfl, rfl, htab, hbt⟩ := hcut
    have HT0 := Lib.hid htab
    have HB0 := Lib.hid hbt
    clear htab hbt
    (try go_wp2)
    go_loopw [58] (fun kv wr => ∃ k : Nat, k ≤ 20 ∧ kv = .int .i64 k ∧ FTab wr T ∧ Below w.heap.size w wr) (fun kv _ => 20 - (intOf kv).toNat)
    case atStart => exact ⟨0, by omega, rfl, HT0.out, HB0.out⟩
    case round =>
      obtain ⟨k, hk, rfl, htab, hbt⟩ := hrel
      have HT := Lib.hid htab
      have HB := Lib.hid hbt
      have hTz := htab.1
      clear htab hbt HT0 HB0
      by_cases hlt : k < 20
      · obtain ⟨A1, A2, A3, d1, d2, d3, hat⟩ := HT.out.2 k hlt
        have hgood : rowGood ftab[k] = true := List.all_eq_true.1 ftab_good _ (List.getElem_mem _)
        have hsm := List.all_eq_true.1 ftab_small _ (List.getElem_mem hlt)
        generalize ftab[k] = x at *
        obtain ⟨car, rl, okx, al, bl, cx, hx⟩ := x
        simp only [Bool.and_eq_true, decide_eq_true_eq] at hsm
        obtain ⟨⟨⟨⟨hs1, hs2⟩, hs3⟩, hs4⟩, hs5⟩ := hsm
        have HG := Lib.hid hgood
        have R1 : Hid (Recs wr 1 num_ (.slice A1 rl.length d1) rl) := hat.r1
        have R2 : Hid (Recs wr 1 num_ (.slice A2 al.length d2) al) := hat.r2
        have R3 : Hid (Recs wr 1 num_ (.slice A3 bl.length d3) bl) := hat.r3
        have c0 := hat.c0
        have c1 := hat.c1
        have c2 := hat.c2
        have c3 := hat.c3
        have c4 := hat.c4
        have c5 := hat.c5
        have c6 := hat.c6
        clear hat hgood
        have t1 : ((k : Int) < 20) := by omega
        go_upto_region 4 with (fail)
        have HLB := Lib.hid (blk_new wr #[.int .i64 car, .slice A1 rl.length d1, .bool okx, .slice A2 al.length d2, .slice A3 bl.length d3, .int .i64 cx, .int .i64 hx] 23)
        have HTa := Lib.hid (HT.out.below ((Below.refl _ _).alloc (Nat.le_refl _) (.cells #[.int .i64 car, .slice A1 rl.length d1, .bool okx, .slice A2 al.length d2, .slice A3 bl.length d3, .int .i64 cx, .int .i64 hx] 23)))
        have HBa := Lib.hid (HB.out.alloc HB.out.size (.cells #[.int .i64 car, .slice A1 rl.length d1, .bool okx, .slice A2 al.length d2, .slice A3 bl.length d3, .int .i64 cx, .int .i64 hx] 23))
        replace R1 := Lib.hid (R1.out.below ((Below.refl _ _).alloc (Nat.le_refl _) (.cells #[.int .i64 car, .slice A1 rl.length d1, .bool okx, .slice A2 al.length d2, .slice A3 bl.length d3, .int .i64 cx, .int .i64 hx] 23)))
        replace R2 := Lib.hid (R2.out.below ((Below.refl _ _).alloc (Nat.le_refl _) (.cells #[.int .i64 car, .slice A1 rl.length d1, .bool okx, .slice A2 al.length d2, .slice A3 bl.length d3, .int .i64 cx, .int .i64 hx] 23)))
        replace R3 := Lib.hid (R3.out.below ((Below.refl _ _).alloc (Nat.le_refl _) (.cells #[.int .i64 car, .slice A1 rl.length d1, .bool okx, .slice A2 al.length d2, .slice A3 bl.length d3, .int .i64 cx, .int .i64 hx] 23)))
        clear c0 c1 c2 c3 c4 c5 c6 HT HB
        generalize wr.alloc (.cells #[.int .i64 car, .slice A1 rl.length d1, .bool okx, .slice A2 al.length d2, .slice A3 bl.length d3, .int .i64 cx, .int .i64 hx] 23) = wa at *
        generalize wr.heap.size = P at *
        have hPz := HLB.out.1
        have e0 := HLB.out.get (j := 0) rfl
        have e1 := HLB.out.get (j := 1) rfl
        go_cut [5, 6] from 62 to 70 (fun pv ov wz => ∃ (Q : Nat) (D1 : Option Addr) (n1 e1 : Nat) (D2 : Option Addr) (n2 e2 : Nat) (cc hh : Int) (ok : Bool) (C : Nat), pv = .pointer (some ⟨Q, 0, none⟩) ∧ ov = .bool ok ∧ Below wa.heap.size wa wz ∧ Blk wz Q [.slice D1 n1 e1, .slice D2 n2 e2, .int .i64 cc, .int .i64 hh] ∧ TripV wz C (evalL handProb car rl) D1 n1 e1 D2 n2 e2 cc hh ok)
        case first => as_aux_lemma =>
          refine wp_region_z (S := (fun w' => w'.cell? ⟨P, 0, none⟩ = some (.int .i64 car) ∧ w'.cell? ⟨P, 1, none⟩ = some (.slice A1 rl.length d1))) (z := 11) (by kernel_rfl) ⟨e0, e1⟩ (fun hH => ?_)
          refine wpAnyZ_take (i := 1) (v := ?_) rfl (by kernel_rfl) (by kernel_rfl) (by kernel_rfl) rfl (by kernel_rfl) (fun _ _ _ h => h) (gives_value (by rfl) ?_) (by assumption) ?_
          rotate_left
          · intro w hSw
            (try dsimp only at hSw)
            go_simp
            (try with_reducible rfl)
          (try simp only [Act.put, List.getElem_toArray, List.getElem_cons_succ, List.getElem_cons_zero, List.setIfInBounds_toArray, List.set_cons_zero, List.set_cons_succ])
          refine wpAnyZ_take (i := 2) (v := ?_) rfl (by kernel_rfl) (by kernel_rfl) (by kernel_rfl) rfl (by kernel_rfl) (fun _ _ _ h => h) (gives_value (by rfl) ?_) (by assumption) ?_
          rotate_left
          · intro w hSw
            (try dsimp only at hSw)
            go_simp
            (try with_reducible rfl)
          (try simp only [Act.put, List.getElem_toArray, List.getElem_cons_succ, List.getElem_cons_zero, List.setIfInBounds_toArray, List.set_cons_zero, List.set_cons_succ])
          refine wpAnyZ_take (i := 3) (v := ?_) rfl (by kernel_rfl) (by kernel_rfl) (by kernel_rfl) rfl (by kernel_rfl) (fun _ _ _ h => h) (gives_value (by rfl) ?_) (by assumption) ?_
          rotate_left
          · intro w hSw
            (try dsimp only at hSw)
            go_simp
            (try with_reducible rfl)
          (try simp only [Act.put, List.getElem_toArray, List.getElem_cons_succ, List.getElem_cons_zero, List.setIfInBounds_toArray, List.set_cons_zero, List.set_cons_succ])
          refine wpAnyZ_take (i := 4) (v := ?_) rfl (by kernel_rfl) (by kernel_rfl) (by kernel_rfl) rfl (by kernel_rfl) (fun _ _ _ h => h) (gives_value (by rfl) ?_) (by assumption) ?_
          rotate_left
          · intro w hSw
            (try dsimp only at hSw)
            go_simp
            (try with_reducible rfl)
          (try simp only [Act.put, List.getElem_toArray, List.getElem_cons_succ, List.getElem_cons_zero, List.setIfInBounds_toArray, List.set_cons_zero, List.set_cons_succ])
          refine wpAnyZ_two (i := 0) (j := 9) (by kernel_rfl) ?_ ?_
          · refine zstep rfl (fun K hK => ?_)
            go_simp
            (with_reducible refine (hand_any _).mono ?_)
            rintro e w2 ⟨B1, B2, B3, B4, rfl, hl2, hb2⟩
            have HB2 : Hid (Below wa.heap.size wa w2) := ((Below.refl wa.heap.size wa).drew.trans (hb2.mono (Below.refl wa.heap.size wa).drew.size))
            have LB2 := Lib.hid (HLB.out.below HB2.out)
            have HL2 := Lib.hid hl2
            clear hl2 hb2
            refine hK.out _ _ (fun _ => ⟨LB2.out.get (j := 0) rfl, LB2.out.get (j := 1) rfl⟩) (fun hH => ?_)
            replace hH := hH (by decide)
            clear hK K
            (try simp only [Act.put, List.getElem_toArray, List.getElem_cons_succ, List.getElem_cons_zero, List.setIfInBounds_toArray, List.set_cons_zero, List.set_cons_succ])
            refine wpAnyZ_two (i := 5) (j := 9) (by kernel_rfl) ?_ ?_
            · refine zstep rfl (fun K hK => ?_)
              go_simp
              (with_reducible refine (eval_any _ _ handProb car rl _ HL2.out hand_ok (by decide) (R1.out.below HB2.out) (by omega)).mono ?_)
              rintro e w3 hti
              obtain ⟨hb3, D1, n1, e1', D2, n2, e2', cc, hh, ok, rfl, htv⟩ := hti.parts
              have HB3 : Hid (Below wa.heap.size wa w3) := (HB2.out.trans (hb3.mono HB2.out.size))
              have LB3 := Lib.hid (HLB.out.below HB3.out)
              have HV := Lib.hid htv
              clear hti hb3 htv
              refine hK.out _ _ (fun _ => ⟨LB3.out.get (j := 0) rfl, LB3.out.get (j := 1) rfl⟩) (fun hH => ?_)
              replace hH := hH (by decide)
              clear hK K
              (try simp only [Act.put, List.getElem_toArray, List.getElem_cons_succ, List.getElem_cons_zero, List.setIfInBounds_toArray, List.set_cons_zero, List.set_cons_succ])
              refine wpAnyZ_take (i := 6) (v := ?_) rfl (by kernel_rfl) (by kernel_rfl) (by kernel_rfl) rfl (by kernel_rfl) (fun _ _ _ h => h) (gives_value (by rfl) ?_) (by assumption) ?_
              rotate_left
              · intro w hSw
                (try dsimp only at hSw)
                go_simp
                (try with_reducible rfl)
              (try simp only [Act.put, List.getElem_toArray, List.getElem_cons_succ, List.getElem_cons_zero, List.setIfInBounds_toArray, List.set_cons_zero, List.set_cons_succ])
              refine wpAnyZ_take (i := 7) (v := ?_) rfl (by kernel_rfl) (by kernel_rfl) (by kernel_rfl) rfl (by kernel_rfl) (fun _ _ _ h => h) (gives_value (by rfl) ?_) (by assumption) ?_
              rotate_left
              · intro w hSw
                (try dsimp only at hSw)
                go_simp
                (try with_reducible rfl)
              (try simp only [Act.put, List.getElem_toArray, List.getElem_cons_succ, List.getElem_cons_zero, List.setIfInBounds_toArray, List.set_cons_zero, List.set_cons_succ])
              refine wpAnyZ_take (i := 8) (v := ?_) rfl (by kernel_rfl) (by kernel_rfl) (by kernel_rfl) rfl (by kernel_rfl) (fun _ _ _ h => h) (gives_value (by rfl) ?_) (by assumption) ?_
              rotate_left
              · intro w hSw
                (try dsimp only at hSw)
                go_simp
                (try with_reducible rfl)
              (try simp only [Act.put, List.getElem_toArray, List.getElem_cons_succ, List.getElem_cons_zero, List.setIfInBounds_toArray, List.set_cons_zero, List.set_cons_succ])
              refine wpAnyZ_one (i := 9) (by kernel_rfl) ?_
              refine zstep rfl (fun K hK => ?_)
              go_simp
              have HB4 := Lib.hid (HB3.out.alloc HB3.out.size (.cells #[.slice none 0 0, .slice none 0 0, .int .i64 0, .int .i64 0] 26))
              have LB4 := Lib.hid (HLB.out.below HB4.out)
              have LQ4 := Lib.hid (blk_new w3 #[.slice none 0 0, .slice none 0 0, .int .i64 0, .int .i64 0] 26)
              refine hK.out _ _ (fun _ => ⟨LB4.out.get (j := 0) rfl, LB4.out.get (j := 1) rfl⟩) (fun hH => ?_)
              replace hH := hH (by decide)
              clear hK K
              (try simp only [Act.put, List.getElem_toArray, List.getElem_cons_succ, List.getElem_cons_zero, List.setIfInBounds_toArray, List.set_cons_zero, List.set_cons_succ])
              have hQa : wa.heap.size ≤ w3.heap.size := HB3.out.size
              have HBh := Lib.hid ((Below.refl w3.heap.size w3).alloc (Nat.le_refl _) (.cells #[.slice none 0 0, .slice none 0 0, .int .i64 0, .int .i64 0] 26))
              generalize w3.alloc (.cells #[.slice none 0 0, .slice none 0 0, .int .i64 0, .int .i64 0] 26) = w4 at *
              refine wpAnyZ_one (i := 10) (by kernel_rfl) ?_
              refine zstep rfl (fun K hK => ?_)
              have q0 := LQ4.out.get (j := 0) rfl
              have q1 := LQ4.out.get (j := 1) rfl
              have q2 := LQ4.out.get (j := 2) rfl
              have q3 := LQ4.out.get (j := 3) rfl
              have p0 := (LQ4.out.2 0 (by simp)).2
              have p1 := (LQ4.out.2 1 (by simp)).2
              have p2 := (LQ4.out.2 2 (by simp)).2
              have p3 := (LQ4.out.2 3 (by simp)).2
              have hQl := LQ4.out.1
              go_simp
              clear q0 q1 q2 q3 p0 p1 p2 p3 hQl
              have HBz := Lib.hid ((((HB4.out.setCell (p := ⟨w3.heap.size, 0, none⟩) hQa (.slice D1 n1 e1')).setCell (p := ⟨w3.heap.size, 1, none⟩) hQa (.slice D2 n2 e2')).setCell (p := ⟨w3.heap.size, 2, none⟩) hQa (.int .i64 cc)).setCell (p := ⟨w3.heap.size, 3, none⟩) hQa (.int .i64 hh))
              have LBz := Lib.hid (HLB.out.below HBz.out)
              have LQz := Lib.hid (box4 LQ4.out (.slice D1 n1 e1') (.slice D2 n2 e2') (.int .i64 cc) (.int .i64 hh))
              have HVz := Lib.hid (HV.out.below ((((HBh.out.setCell (p := ⟨w3.heap.size, 0, none⟩) (Nat.le_refl _) (.slice D1 n1 e1')).setCell (p := ⟨w3.heap.size, 1, none⟩) (Nat.le_refl _) (.slice D2 n2 e2')).setCell (p := ⟨w3.heap.size, 2, none⟩) (Nat.le_refl _) (.int .i64 cc)).setCell (p := ⟨w3.heap.size, 3, none⟩) (Nat.le_refl _) (.int .i64 hh)))
              refine hK.out _ _ (fun _ => ⟨LBz.out.get (j := 0) rfl, LBz.out.get (j := 1) rfl⟩) (fun hH => ?_)
              replace hH := hH (by decide)
              clear hK K
              (try simp only [Act.put, List.getElem_toArray, List.getElem_cons_succ, List.getElem_cons_zero, List.setIfInBounds_toArray, List.set_cons_zero, List.set_cons_succ])
              refine wpAnyZ_one (i := 11) (by kernel_rfl) ?_
              refine zstep rfl (fun K hK => ?_)
              go_simp
              refine hK.out _ _ (fun h => absurd rfl h) (fun hH => ?_)
              clear hK K hH
              (try simp only [Act.put, List.getElem_toArray, List.getElem_cons_succ, List.getElem_cons_zero, List.setIfInBounds_toArray, List.set_cons_zero, List.set_cons_succ])
              refine wpAnyZ_done (by kernel_rfl) ?_ _
              go_wp2_with fail
              go_meet
              exact ⟨_, D1, n1, e1', D2, n2, e2', cc, hh, ok, _, rfl, rfl, HBz.out, LQz.out, HVz.out⟩
            · refine zstep rfl (fun K hK => ?_)
              go_simp
              have HB4 := Lib.hid (HB2.out.alloc HB2.out.size (.cells #[.slice none 0 0, .slice none 0 0, .int .i64 0, .int .i64 0] 26))
              have LB4 := Lib.hid (HLB.out.below HB4.out)
              have HL4 := Lib.hid (Lies.below HL2.out ((Below.refl _ _).alloc (Nat.le_refl _) (.cells #[.slice none 0 0, .slice none 0 0, .int .i64 0, .int .i64 0] 26)))
              have LQ4 := Lib.hid (blk_new w2 #[.slice none 0 0, .slice none 0 0, .int .i64 0, .int .i64 0] 26)
              refine hK.out _ _ (fun _ => ⟨LB4.out.get (j := 0) rfl, LB4.out.get (j := 1) rfl⟩) (fun hH => ?_)
              replace hH := hH (by decide)
              clear hK K
              (try simp only [Act.put, List.getElem_toArray, List.getElem_cons_succ, List.getElem_cons_zero, List.setIfInBounds_toArray, List.set_cons_zero, List.set_cons_succ])
              generalize hw4 : w2.alloc (.cells #[.slice none 0 0, .slice none 0 0, .int .i64 0, .int .i64 0] 26) = w4 at *
              have hQa : wa.heap.size ≤ w2.heap.size := HB2.out.size
              have hQC : w2.heap.size < w4.heap.size := by rw [← hw4]; simp
              clear hw4
              refine wpAnyZ_one (i := 5) (by kernel_rfl) ?_
              refine zstep rfl (fun K hK => ?_)
              go_simp
              (with_reducible refine (eval_any _ _ handProb car rl _ HL4.out hand_ok (by decide) (R1.out.below HB4.out) (by omega)).mono ?_)
              rintro e w3 hti
              obtain ⟨hb3, D1, n1, e1', D2, n2, e2', cc, hh, ok, rfl, htv⟩ := hti.parts
              have HB3 : Hid (Below wa.heap.size wa w3) := (HB4.out.trans (hb3.mono HB4.out.size))
              have LB3 := Lib.hid (HLB.out.below HB3.out)
              have HV := Lib.hid htv
              have LQ5 := Lib.hid (LQ4.out.below hb3)
              clear hti hb3 htv
              refine hK.out _ _ (fun _ => ⟨LB3.out.get (j := 0) rfl, LB3.out.get (j := 1) rfl⟩) (fun hH => ?_)
              replace hH := hH (by decide)
              clear hK K
              (try simp only [Act.put, List.getElem_toArray, List.getElem_cons_succ, List.getElem_cons_zero, List.setIfInBounds_toArray, List.set_cons_zero, List.set_cons_succ])
              refine wpAnyZ_take (i := 6) (v := ?_) rfl (by kernel_rfl) (by kernel_rfl) (by kernel_rfl) rfl (by kernel_rfl) (fun _ _ _ h => h) (gives_value (by rfl) ?_) (by assumption) ?_
              rotate_left
              · intro w hSw
                (try dsimp only at hSw)
                go_simp
                (try with_reducible rfl)
              (try simp only [Act.put, List.getElem_toArray, List.getElem_cons_succ, List.getElem_cons_zero, List.setIfInBounds_toArray, List.set_cons_zero, List.set_cons_succ])
              refine wpAnyZ_take (i := 7) (v := ?_) rfl (by kernel_rfl) (by kernel_rfl) (by kernel_rfl) rfl (by kernel_rfl) (fun _ _ _ h => h) (gives_value (by rfl) ?_) (by assumption) ?_
              rotate_left
              · intro w hSw
                (try dsimp only at hSw)
                go_simp
                (try with_reducible rfl)
              (try simp only [Act.put, List.getElem_toArray, List.getElem_cons_succ, List.getElem_cons_zero, List.setIfInBounds_toArray, List.set_cons_zero, List.set_cons_succ])
              refine wpAnyZ_take (i := 8) (v := ?_) rfl (by kernel_rfl) (by kernel_rfl) (by kernel_rfl) rfl (by kernel_rfl) (fun _ _ _ h => h) (gives_value (by rfl) ?_) (by assumption) ?_
              rotate_left
              · intro w hSw
                (try dsimp only at hSw)
                go_simp
                (try with_reducible rfl)
              (try simp only [Act.put, List.getElem_toArray, List.getElem_cons_succ, List.getElem_cons_zero, List.setIfInBounds_toArray, List.set_cons_zero, List.set_cons_succ])
              refine wpAnyZ_one (i := 10) (by kernel_rfl) ?_
              refine zstep rfl (fun K hK => ?_)
              have q0 := LQ5.out.get (j := 0) rfl
              have q1 := LQ5.out.get (j := 1) rfl
              have q2 := LQ5.out.get (j := 2) rfl
              have q3 := LQ5.out.get (j := 3) rfl
              have p0 := (LQ5.out.2 0 (by simp)).2
              have p1 := (LQ5.out.2 1 (by simp)).2
              have p2 := (LQ5.out.2 2 (by simp)).2
              have p3 := (LQ5.out.2 3 (by simp)).2
              have hQl := LQ5.out.1
              go_simp
              clear q0 q1 q2 q3 p0 p1 p2 p3 hQl
              have HBz := Lib.hid ((((HB3.out.setCell (p := ⟨w2.heap.size, 0, none⟩) hQa (.slice D1 n1 e1')).setCell (p := ⟨w2.heap.size, 1, none⟩) hQa (.slice D2 n2 e2')).setCell (p := ⟨w2.heap.size, 2, none⟩) hQa (.int .i64 cc)).setCell (p := ⟨w2.heap.size, 3, none⟩) hQa (.int .i64 hh))
              have LBz := Lib.hid (HLB.out.below HBz.out)
              have LQz := Lib.hid (box4 LQ5.out (.slice D1 n1 e1') (.slice D2 n2 e2') (.int .i64 cc) (.int .i64 hh))
              have HVz := Lib.hid ((((HV.out.low hQC 0 (.slice D1 n1 e1')).low hQC 1 (.slice D2 n2 e2')).low hQC 2 (.int .i64 cc)).low hQC 3 (.int .i64 hh))
              refine hK.out _ _ (fun _ => ⟨LBz.out.get (j := 0) rfl, LBz.out.get (j := 1) rfl⟩) (fun hH => ?_)
              replace hH := hH (by decide)
              clear hK K
              (try simp only [Act.put, List.getElem_toArray, List.getElem_cons_succ, List.getElem_cons_zero, List.setIfInBounds_toArray, List.set_cons_zero, List.set_cons_succ])
              refine wpAnyZ_one (i := 11) (by kernel_rfl) ?_
              refine zstep rfl (fun K hK => ?_)
              go_simp
              refine hK.out _ _ (fun h => absurd rfl h) (fun hH => ?_)
              clear hK K hH
              (try simp only [Act.put, List.getElem_toArray, List.getElem_cons_succ, List.getElem_cons_zero, List.setIfInBounds_toArray, List.set_cons_zero, List.set_cons_succ])
              refine wpAnyZ_done (by kernel_rfl) ?_ _
              go_wp2_with fail
              go_meet
              exact ⟨_, D1, n1, e1', D2, n2, e2', cc, hh, ok, _, rfl, rfl, HBz.out, LQz.out, HVz.out⟩
          · refine zstep rfl (fun K hK => ?_)
            go_simp
            have HB4 := Lib.hid (((Below.refl wa.heap.size wa).alloc (Nat.le_refl _) (.cells #[.slice none 0 0, .slice none 0 0, .int .i64 0, .int .i64 0] 26)).drew)
            have LB4 := Lib.hid (HLB.out.below HB4.out)
            have LQ4 := Lib.hid ((blk_new wa #[.slice none 0 0, .slice none 0 0, .int .i64 0, .int .i64 0] 26).drew)
            refine hK.out _ _ (fun _ => ⟨LB4.out.get (j := 0) rfl, LB4.out.get (j := 1) rfl⟩) (fun hH => ?_)
            replace hH := hH (by decide)
            clear hK K
            (try simp only [Act.put, List.getElem_toArray, List.getElem_cons_succ, List.getElem_cons_zero, List.setIfInBounds_toArray, List.set_cons_zero, List.set_cons_succ])
            generalize hw4 : (wa.alloc (.cells #[.slice none 0 0, .slice none 0 0, .int .i64 0, .int .i64 0] 26)).drew = w4 at *
            have hQa : wa.heap.size ≤ wa.heap.size := Nat.le_refl _
            have hQ4 : wa.heap.size < w4.heap.size := by rw [← hw4]; simp
            clear hw4
            refine wpAnyZ_one (i := 0) (by kernel_rfl) ?_
            refine zstep rfl (fun K hK => ?_)
            go_simp
            (with_reducible refine (hand_any _).mono ?_)
            rintro e w2 ⟨B1, B2, B3, B4, rfl, hl2, hb2⟩
            have HB2 : Hid (Below wa.heap.size wa w2) := (HB4.out.trans (hb2.mono HB4.out.size))
            have LB2 := Lib.hid (HLB.out.below HB2.out)
            have HL2 := Lib.hid hl2
            have LQ2 := Lib.hid (LQ4.out.below hb2)
            have hQC : wa.heap.size < w2.heap.size := Nat.lt_of_lt_of_le hQ4 hb2.size
            clear hl2 hb2
            refine hK.out _ _ (fun _ => ⟨LB2.out.get (j := 0) rfl, LB2.out.get (j := 1) rfl⟩) (fun hH => ?_)
            replace hH := hH (by decide)
            clear hK K
            (try simp only [Act.put, List.getElem_toArray, List.getElem_cons_succ, List.getElem_cons_zero, List.setIfInBounds_toArray, List.set_cons_zero, List.set_cons_succ])
            refine wpAnyZ_one (i := 5) (by kernel_rfl) ?_
            refine zstep rfl (fun K hK => ?_)
            go_simp
            (with_reducible refine (eval_any _ _ handProb car rl _ HL2.out hand_ok (by decide) (R1.out.below HB2.out) (by omega)).mono ?_)
            rintro e w3 hti
            obtain ⟨hb3, D1, n1, e1', D2, n2, e2', cc, hh, ok, rfl, htv⟩ := hti.parts
            have HB3 : Hid (Below wa.heap.size wa w3) := (HB2.out.trans (hb3.mono HB2.out.size))
            have LB3 := Lib.hid (HLB.out.below HB3.out)
            have HV := Lib.hid htv
            have LQ5 := Lib.hid (LQ2.out.below hb3)
            clear hti hb3 htv
            refine hK.out _ _ (fun _ => ⟨LB3.out.get (j := 0) rfl, LB3.out.get (j := 1) rfl⟩) (fun hH => ?_)
            replace hH := hH (by decide)
            clear hK K
            (try simp only [Act.put, List.getElem_toArray, List.getElem_cons_succ, List.getElem_cons_zero, List.setIfInBounds_toArray, List.set_cons_zero, List.set_cons_succ])
            refine wpAnyZ_take (i := 6) (v := ?_) rfl (by kernel_rfl) (by kernel_rfl) (by kernel_rfl) rfl (by kernel_rfl) (fun _ _ _ h => h) (gives_value (by rfl) ?_) (by assumption) ?_
            rotate_left
            · intro w hSw
              (try dsimp only at hSw)
              go_simp
              (try with_reducible rfl)
            (try simp only [Act.put, List.getElem_toArray, List.getElem_cons_succ, List.getElem_cons_zero, List.setIfInBounds_toArray, List.set_cons_zero, List.set_cons_succ])
            refine wpAnyZ_take (i := 7) (v := ?_) rfl (by kernel_rfl) (by kernel_rfl) (by kernel_rfl) rfl (by kernel_rfl) (fun _ _ _ h => h) (gives_value (by rfl) ?_) (by assumption) ?_
            rotate_left
            · intro w hSw
              (try dsimp only at hSw)
              go_simp
              (try with_reducible rfl)
            (try simp only [Act.put, List.getElem_toArray, List.getElem_cons_succ, List.getElem_cons_zero, List.setIfInBounds_toArray, List.set_cons_zero, List.set_cons_succ])
            refine wpAnyZ_take (i := 8) (v := ?_) rfl (by kernel_rfl) (by kernel_rfl) (by kernel_rfl) rfl (by kernel_rfl) (fun _ _ _ h => h) (gives_value (by rfl) ?_) (by assumption) ?_
            rotate_left
            · intro w hSw
              (try dsimp only at hSw)
              go_simp
              (try with_reducible rfl)
            (try simp only [Act.put, List.getElem_toArray, List.getElem_cons_succ, List.getElem_cons_zero, List.setIfInBounds_toArray, List.set_cons_zero, List.set_cons_succ])
            refine wpAnyZ_one (i := 10) (by kernel_rfl) ?_
            refine zstep rfl (fun K hK => ?_)
            have q0 := LQ5.out.get (j := 0) rfl
            have q1 := LQ5.out.get (j := 1) rfl
            have q2 := LQ5.out.get (j := 2) rfl
            have q3 := LQ5.out.get (j := 3) rfl
            have p0 := (LQ5.out.2 0 (by simp)).2
            have p1 := (LQ5.out.2 1 (by simp)).2
            have p2 := (LQ5.out.2 2 (by simp)).2
            have p3 := (LQ5.out.2 3 (by simp)).2
            have hQl := LQ5.out.1
            go_simp
            clear q0 q1 q2 q3 p0 p1 p2 p3 hQl
            have HBz := Lib.hid ((((HB3.out.setCell (p := ⟨wa.heap.size, 0, none⟩) hQa (.slice D1 n1 e1')).setCell (p := ⟨wa.heap.size, 1, none⟩) hQa (.slice D2 n2 e2')).setCell (p := ⟨wa.heap.size, 2, none⟩) hQa (.int .i64 cc)).setCell (p := ⟨wa.heap.size, 3, none⟩) hQa (.int .i64 hh))
            have LBz := Lib.hid (HLB.out.below HBz.out)
            have LQz := Lib.hid (box4 LQ5.out (.slice D1 n1 e1') (.slice D2 n2 e2') (.int .i64 cc) (.int .i64 hh))
            have HVz := Lib.hid ((((HV.out.low hQC 0 (.slice D1 n1 e1')).low hQC 1 (.slice D2 n2 e2')).low hQC 2 (.int .i64 cc)).low hQC 3 (.int .i64 hh))
            refine hK.out _ _ (fun _ => ⟨LBz.out.get (j := 0) rfl, LBz.out.get (j := 1) rfl⟩) (fun hH => ?_)
            replace hH := hH (by decide)
            clear hK K
            (try simp only [Act.put, List.getElem_toArray, List.getElem_cons_succ, List.getElem_cons_zero, List.setIfInBounds_toArray, List.set_cons_zero, List.set_cons_succ])
            refine wpAnyZ_one (i := 11) (by kernel_rfl) ?_
            refine zstep rfl (fun K hK => ?_)
            go_simp
            refine hK.out _ _ (fun h => absurd rfl h) (fun hH => ?_)
            clear hK K hH
            (try simp only [Act.put, List.getElem_toArray, List.getElem_cons_succ, List.getElem_cons_zero, List.setIfInBounds_toArray, List.set_cons_zero, List.set_cons_succ])
            refine wpAnyZ_done (by kernel_rfl) ?_ _
            go_wp2_with fail
            go_meet
            exact ⟨_, D1, n1, e1', D2, n2, e2', cc, hh, ok, _, rfl, rfl, HBz.out, LQz.out, HVz.out⟩
        case rest =>
          obtain ⟨Q, D1, n1, f1, D2, n2, f2, cc, hh, ok, C, rfl, rfl, hbz, hq, hv⟩ := hcut
          have LBz := Lib.hid (HLB.out.below hbz)
          have LQz := Lib.hid hq
          have HTz := Lib.hid (HTa.out.below hbz)
          have HBz := Lib.hid (HBa.out.trans (hbz.mono HBa.out.size))
          have S2 := Lib.hid (R2.out.below hbz)
          have S3 := Lib.hid (R3.out.below hbz)
          have HV := Lib.hid hv
          clear hbz hq hv e0 e1 HLB HTa HBa R1 R2 R3 hPz
          have x2 := LBz.out.get (j := 2) rfl
          have x3 := LBz.out.get (j := 3) rfl
          have x4 := LBz.out.get (j := 4) rfl
          have x5 := LBz.out.get (j := 5) rfl
          have x6 := LBz.out.get (j := 6) rfl
          have y0 := LQz.out.get (j := 0) rfl
          have y1 := LQz.out.get (j := 1) rfl
          have y2 := LQz.out.get (j := 2) rfl
          have y3 := LQz.out.get (j := 3) rfl
          have hPz := LBz.out.1
          have hQz := LQz.out.1
          rcases row_cases HG.out with ⟨h3, hlt2, hev⟩ | ⟨rfl, hev, rfl, rfl, rfl, rfl⟩ | ⟨rfl, hev, h3⟩ | ⟨rfl, hev, h3, hge⟩
          · obtain ⟨rfl, _⟩ := HV.out.none' hev
            obtain ⟨A', cap', he, hc⟩ := S3.out.num
            injection he with he1 _ he3
            subst he1 he3
            obtain ⟨B, o, rfl, hB, d0⟩ := hc 2 (by omega)
            rw [List.getElem?_eq_getElem (by omega), Option.getD_some] at hlt2
            clear hc hev
            generalize bl[2] = y at *
            generalize bl.length = m3 at *
            subst h3
            go_wp2
            go_roundw
            case rel => exact ⟨k + 1, by omega, by go_num, HTz.out, HBz.out⟩
            case measure => simp [intOf]; omega
          · obtain ⟨rfl, rfl, rfl, rfl, rfl, rfl, rfl, rfl, rfl⟩ := HV.out.none' hev
            clear hev
            have K1 := Lib.hid (fun (W : World) (hb : Below wc.heap.size wc W) => same_ints (.slice none 0 0) (.slice A2 0 d2) [] W Recs.nil (show Recs W 1 num_ (.slice A2 0 d2) [] from S2.out.below hb) (by simp))
            have K2 := Lib.hid (fun (W : World) (hb : Below wc.heap.size wc W) => same_ints (.slice none 0 0) (.slice A3 0 d3) [] W Recs.nil (show Recs W 1 num_ (.slice A3 0 d3) [] from S3.out.below hb) (by simp))
            go_wp2_with (go_at_call 11; fail)
            (with_reducible refine (K1.out _ (Below.refl _ _)).mono ?_)
            rintro e w4 ⟨rfl, m4, hw4⟩
            have HB4 : Hid (Below wc.heap.size wc w4) := by show Below _ _ _; rw [hw4]; exact below_draws' (Below.refl _ _) _
            clear hw4 x2 x3 y0
            replace x4 := cell_up HB4.out hPz x4
            replace x5 := cell_up HB4.out hPz x5
            replace x6 := cell_up HB4.out hPz x6
            replace y1 := cell_up HB4.out hQz y1
            replace y2 := cell_up HB4.out hQz y2
            replace y3 := cell_up HB4.out hQz y3
            have hPw := Nat.lt_of_lt_of_le hPz HB4.out.size
            have hQw := Nat.lt_of_lt_of_le hQz HB4.out.size
            go_wp2_with (go_at_call 11; fail)
            (with_reducible refine (K2.out _ HB4.out).mono ?_)
            rintro e w5 ⟨rfl, m5, hw5⟩
            have HB5 : Hid (Below w4.heap.size w4 w5) := by show Below _ _ _; rw [hw5]; exact below_draws' (Below.refl _ _) _
            clear hw5 x4 y1
            replace x5 := cell_up HB5.out hPw x5
            replace x6 := cell_up HB5.out hPw x6
            replace y2 := cell_up HB5.out hQw y2
            replace y3 := cell_up HB5.out hQw y3
            have HBx : Hid (Below wc.heap.size wc w5) := HB4.out.trans (HB5.out.mono HB4.out.size)
            go_wp2
            go_roundw
            case rel => exact ⟨k + 1, by omega, by go_num, HTz.out.below HBx.out, HBz.out.trans (HBx.out.mono HBz.out.size)⟩
            case measure => simp [intOf]; omega
          · obtain ⟨rfl, rfl, rfl, rfl, rfl, ha, hl⟩ := HV.out.some' hev
            clear hev
            have K1 := Lib.hid (fun (W : World) (hb : Below wc.heap.size wc W) => same_ints (.slice D1 al.length f1) (.slice A2 al.length d2) al W (ha.below hb) (S2.out.below hb) (by omega))
            have K2 := Lib.hid (fun (W : World) (hb : Below wc.heap.size wc W) => same_ints (.slice D2 bl.length f2) (.slice A3 bl.length d3) bl W (hl.below hb) (S3.out.below hb) (by omega))
            clear ha hl
            have t3 : ((bl.length : Int) == 3) = false := by rw [beq_eq_false_iff_ne]; omega
            have t4 : (bl.length == 3) = false := by rw [beq_eq_false_iff_ne]; exact h3
            go_wp2_with (go_at_call 11; fail)
            (with_reducible refine (K1.out _ (Below.refl _ _)).mono ?_)
            rintro e w4 ⟨rfl, m4, hw4⟩
            have HB4 : Hid (Below wc.heap.size wc w4) := by show Below _ _ _; rw [hw4]; exact below_draws' (Below.refl _ _) _
            clear hw4 x2 x3 y0
            replace x4 := cell_up HB4.out hPz x4
            replace x5 := cell_up HB4.out hPz x5
            replace x6 := cell_up HB4.out hPz x6
            replace y1 := cell_up HB4.out hQz y1
            replace y2 := cell_up HB4.out hQz y2
            replace y3 := cell_up HB4.out hQz y3
            have hPw := Nat.lt_of_lt_of_le hPz HB4.out.size
            have hQw := Nat.lt_of_lt_of_le hQz HB4.out.size
            go_wp2_with (go_at_call 11; fail)
            (with_reducible refine (K2.out _ HB4.out).mono ?_)
            rintro e w5 ⟨rfl, m5, hw5⟩
            have HB5 : Hid (Below w4.heap.size w4 w5) := by show Below _ _ _; rw [hw5]; exact below_draws' (Below.refl _ _) _
            clear hw5 x4 y1
            replace x5 := cell_up HB5.out hPw x5
            replace x6 := cell_up HB5.out hPw x6
            replace y2 := cell_up HB5.out hQw y2
            replace y3 := cell_up HB5.out hQw y3
            have HBx : Hid (Below wc.heap.size wc w5) := HB4.out.trans (HB5.out.mono HB4.out.size)
            go_wp2
            go_roundw
            case rel => exact ⟨k + 1, by omega, by go_num, HTz.out.below HBx.out, HBz.out.trans (HBx.out.mono HBz.out.size)⟩
            case measure => simp [intOf]; omega
          · obtain ⟨rfl, rfl, rfl, rfl, rfl, ha, hl⟩ := HV.out.some' hev
            clear hev
            obtain ⟨A', cap', he, hc⟩ := S3.out.num
            injection he with he1 _ he3
            subst he1 he3
            obtain ⟨B, o, rfl, hB, d0⟩ := hc 2 (by omega)
            rw [List.getElem?_eq_getElem (by omega), Option.getD_some] at hge
            have K1 := Lib.hid (fun (W : World) (hb : Below wc.heap.size wc W) => same_ints (.slice D1 al.length f1) (.slice A2 al.length d2) al W (ha.below hb) (S2.out.below hb) (by omega))
            have K2 := Lib.hid (fun (W : World) (hb : Below wc.heap.size wc W) => same_ints (.slice D2 bl.length f2) (.slice (some ⟨B, o, none⟩) bl.length d3) bl W (hl.below hb) (S3.out.below hb) (by omega))
            clear ha hl hc
            have hge2 : decide (bl[2] < 0) = false := by simpa using hge
            generalize bl[2] = y at *
            simp only [h3] at *
            go_wp2_with (go_at_call 11; fail)
            (with_reducible refine (K1.out _ (Below.refl _ _)).mono ?_)
            rintro e w4 ⟨rfl, m4, hw4⟩
            have HB4 : Hid (Below wc.heap.size wc w4) := by show Below _ _ _; rw [hw4]; exact below_draws' (Below.refl _ _) _
            clear hw4 x2 x3 y0
            replace x4 := cell_up HB4.out hPz x4
            replace x5 := cell_up HB4.out hPz x5
            replace x6 := cell_up HB4.out hPz x6
            replace y1 := cell_up HB4.out hQz y1
            replace y2 := cell_up HB4.out hQz y2
            replace y3 := cell_up HB4.out hQz y3
            have hPw := Nat.lt_of_lt_of_le hPz HB4.out.size
            have hQw := Nat.lt_of_lt_of_le hQz HB4.out.size
            go_wp2_with (go_at_call 11; fail)
            (with_reducible refine (K2.out _ HB4.out).mono ?_)
            rintro e w5 ⟨rfl, m5, hw5⟩
            have HB5 : Hid (Below w4.heap.size w4 w5) := by show Below _ _ _; rw [hw5]; exact below_draws' (Below.refl _ _) _
            clear hw5 x4 y1
            replace x5 := cell_up HB5.out hPw x5
            replace x6 := cell_up HB5.out hPw x6
            replace y2 := cell_up HB5.out hQw y2
            replace y3 := cell_up HB5.out hQw y3
            have HBx : Hid (Below wc.heap.size wc w5) := HB4.out.trans (HB5.out.mono HB4.out.size)
            go_wp2
            go_roundw
            case rel => exact ⟨k + 1, by omega, by go_num, HTz.out.below HBx.out, HBz.out.trans (HBx.out.mono HBz.out.size)⟩
            case measure => simp [intOf]; omega
      · have t1 : decide ((k : Int) < 20) = false := by simp; omega
        obtain ⟨q, hq, hq1⟩ : ∃ q : Nat, withinI n 100 = (q : Int) ∧ q < 100 := by
          have := withinI_bounds (v := n) (n := 100) (by omega)
          exact ⟨(withinI n 100).toNat, by omega, by omega⟩
        have K0 : Hid (∀ W : World, Calls Try.prog 12 #[.int .i64 n, .int .i64 100] W fun e w' => e = .returned (.int .i64 (q : Int)) ∧ W = w') := fun W => by have := within_any n 100 W (by omega) (by omega); rw [hq] at this; exact this
        clear hq HT
        go_wp2_with (go_at_call 12; fail)
        (with_reducible refine (K0.out _).mono ?_)
        rintro e w2 ⟨rfl, rfl⟩
        go_wp2_with (go_at_call 10; fail)
        (with_reducible refine (hand_any _).mono ?_)
        rintro e wa0 ⟨B1, B2, B3, B4, rfl, hl1, hb1⟩
        have HA0 : Hid (Below w.heap.size w wa0) := HB.out.trans (hb1.mono HB.out.size)
        have HL0 := Lib.hid hl1
        clear hl1 hb1
        go_wp2_with (go_at_call 13; fail)
        (with_reducible refine (cost_hand _ _ [1, 2] 13 _ (Lies.below HL0.out ((Below.refl _ _).alloc (Nat.le_refl _) _)) (show Recs _ 1 num_ (.slice (some ⟨wa0.heap.size, 0, none⟩) 2 2) [1, 2] from Blk.nums (show Blk _ _ (ints [1, 2]) from blk_new wa0 #[.int .i64 1, .int .i64 2] 3) 2) (by simp) (by decide)).mono ?_)
        rintro e wb0 ⟨rfl, hb1⟩
        have HB0 : Hid (Below w.heap.size w wb0) := (HA0.out.alloc HA0.out.size (.cells #[.int .i64 1, .int .i64 2] 3)).trans (hb1.mono (HA0.out.alloc HA0.out.size (.cells #[.int .i64 1, .int .i64 2] 3)).size)
        clear hb1 HA0 HL0 HB
        go_wp2_with (go_at_call 10; fail)
        (with_reducible refine (hand_any _).mono ?_)
        rintro e wa1 ⟨B1, B2, B3, B4, rfl, hl1, hb1⟩
        have HA1 : Hid (Below w.heap.size w wa1) := HB0.out.trans (hb1.mono HB0.out.size)
        have HL1 := Lib.hid hl1
        clear hl1 hb1
        go_wp2_with (go_at_call 13; fail)
        (with_reducible refine (cost_hand _ _ [2, 1] 14 _ (Lies.below HL1.out ((Below.refl _ _).alloc (Nat.le_refl _) _)) (show Recs _ 1 num_ (.slice (some ⟨wa1.heap.size, 0, none⟩) 2 2) [2, 1] from Blk.nums (show Blk _ _ (ints [2, 1]) from blk_new wa1 #[.int .i64 2, .int .i64 1] 3) 2) (by simp) (by decide)).mono ?_)
        rintro e wb1 ⟨rfl, hb1⟩
        have HB1 : Hid (Below w.heap.size w wb1) := (HA1.out.alloc HA1.out.size (.cells #[.int .i64 2, .int .i64 1] 3)).trans (hb1.mono (HA1.out.alloc HA1.out.size (.cells #[.int .i64 2, .int .i64 1] 3)).size)
        clear hb1 HA1 HL1 HB0
        go_wp2_with (go_at_call 10; fail)
        (with_reducible refine (hand_any _).mono ?_)
        rintro e wa2 ⟨B1, B2, B3, B4, rfl, hl1, hb1⟩
        have HA2 : Hid (Below w.heap.size w wa2) := HB1.out.trans (hb1.mono HB1.out.size)
        have HL2 := Lib.hid hl1
        clear hl1 hb1
        go_wp2_with (go_at_call 13; fail)
        (with_reducible refine (cost_hand _ _ [] 0 _ HL2.out Recs.nil (by simp) (by decide)).mono ?_)
        rintro e wb2 ⟨rfl, hb1⟩
        have HB2 : Hid (Below w.heap.size w wb2) := HA2.out.trans (hb1.mono HA2.out.size)
        clear hb1 HA2 HL2 HB1
        go_wp2_with (go_at_call 10; fail)
        (with_reducible refine (hand_any _).mono ?_)
        rintro e wa3 ⟨B1, B2, B3, B4, rfl, hl1, hb1⟩
        have HA3 : Hid (Below w.heap.size w wa3) := HB2.out.trans (hb1.mono HB2.out.size)
        have HL3 := Lib.hid hl1
        clear hl1 hb1
        go_wp2_with (go_at_call 13; fail)
        (with_reducible refine (cost_hand _ _ [1, 5 + (q : Int)] 0 _ (Lies.below HL3.out ((Below.refl _ _).alloc (Nat.le_refl _) _)) (show Recs _ 1 num_ (.slice (some ⟨wa3.heap.size, 0, none⟩) 2 2) [1, 5 + (q : Int)] from Blk.nums (show Blk _ _ (ints [1, 5 + (q : Int)]) from blk_new wa3 #[.int .i64 1, .int .i64 (5 + (q : Int))] 3) 2) (by simp) (cost_far q)).mono ?_)
        rintro e wb3 ⟨rfl, hb1⟩
        have HB3 : Hid (Below w.heap.size w wb3) := (HA3.out.alloc HA3.out.size (.cells #[.int .i64 1, .int .i64 (5 + (q : Int))] 3)).trans (hb1.mono (HA3.out.alloc HA3.out.size (.cells #[.int .i64 1, .int .i64 (5 + (q : Int))] 3)).size)
        clear hb1 HA3 HL3 HB2
        go_wp2_with (go_at_call 10; fail)
        (with_reducible refine (hand_any _).mono ?_)
        rintro e wa4 ⟨B1, B2, B3, B4, rfl, hl1, hb1⟩
        have HA4 : Hid (Below w.heap.size w wa4) := HB3.out.trans (hb1.mono HB3.out.size)
        have HL4 := Lib.hid hl1
        clear hl1 hb1
        go_wp2_with (go_at_call 13; fail)
        (with_reducible refine (cost_hand _ _ [4] 5 _ (Lies.below HL4.out ((Below.refl _ _).alloc (Nat.le_refl _) _)) (show Recs _ 1 num_ (.slice (some ⟨wa4.heap.size, 0, none⟩) 1 1) [4] from Blk.nums (show Blk _ _ (ints [4]) from blk_new wa4 #[.int .i64 4] 3) 1) (by simp) (by decide)).mono ?_)
        rintro e wb4 ⟨rfl, hb1⟩
        have HB4 : Hid (Below w.heap.size w wb4) := (HA4.out.alloc HA4.out.size (.cells #[.int .i64 4] 3)).trans (hb1.mono (HA4.out.alloc HA4.out.size (.cells #[.int .i64 4] 3)).size)
        clear hb1 HA4 HL4 HB3
        go_wp2_with (go_at_call 14; fail)
        (with_reducible refine (wakes_any _).mono ?_)
        rintro e wl ⟨rfl, hb1⟩
        have HBL : Hid (Below w.heap.size w wl) := HB4.out.trans (hb1.mono HB4.out.size)
        clear hb1
        go_wp2
        go_ret
        exact ⟨rfl, HBL.out⟩
end Go.Proofs.Ytcllnfhjbfmomaa
