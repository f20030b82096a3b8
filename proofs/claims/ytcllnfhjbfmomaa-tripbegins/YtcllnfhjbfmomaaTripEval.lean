/- trip.Eval, trip.Cost: what they answer of a problem that may be. -/
import Derived.Test.YtcllnfhjbfmomaaTripDrive
import Derived.Test.YtcllnfhjbfmomaaOrders
namespace Go.Proofs.Ytcllnfhjbfmomaa
open Go.RowKit
set_option linter.unusedSimpArgs false

/-- a trip's answer, part by part, its rows in memory from block C on -/
structure TripV (W : World) (C : Nat) (t : Option TripR) (A1 : Option Addr) (n1 c1 : Nat) (A2 : Option Addr) (n2 c2 : Nat) (c h : Int) (ok : Bool) : Prop where
  no : ok = false → t = none ∧ A1 = none ∧ n1 = 0 ∧ c1 = 0 ∧ A2 = none ∧ n2 = 0 ∧ c2 = 0 ∧ c = 0 ∧ h = 0
  yes : ok = true → ∃ r, t = some r ∧ n1 = r.arr.length ∧ n2 = r.load.length ∧ c = r.cost ∧ h = r.home ∧ n1 ≤ c1 ∧ n2 ≤ c2 ∧ Recs W 1 num_ (.slice A1 r.arr.length c1) r.arr ∧ Recs W 1 num_ (.slice A2 r.load.length c2) r.load
  f1 : Fresh C A1
  f2 : Fresh C A2
theorem TripV.below {W W' : World} {C : Nat} {t : Option TripR} {A1 A2 : Option Addr} {n1 c1 n2 c2 : Nat} {c h : Int} {ok : Bool} (H : TripV W C t A1 n1 c1 A2 n2 c2 c h ok) (hb : Below W.heap.size W W') : TripV W' C t A1 n1 c1 A2 n2 c2 c h ok :=
  ⟨H.no, fun e => by
    obtain ⟨r, h1, h2, h3, h4, h5, h6, h7, h8, h9⟩ := H.yes e
    exact ⟨r, h1, h2, h3, h4, h5, h6, h7, h8.below hb, h9.below hb⟩, H.f1, H.f2⟩
theorem TripIs.parts {w w' : World} {t : Option TripR} {e : Ending} (H : TripIs w t e w') : Below w.heap.size w w' ∧ ∃ A1 n1 c1 A2 n2 c2 c h ok, e = .returned (.tuple #[.agg #[.slice A1 n1 c1, .slice A2 n2 c2, .int .i64 c, .int .i64 h], .bool ok]) ∧ TripV w' w.heap.size t A1 n1 c1 A2 n2 c2 c h ok := by
  obtain ⟨hb, ⟨rfl, rfl⟩ | ⟨r, A1, c1, A2, c2, rfl, rfl, h1, h2, h3, h4, h5, h6⟩⟩ := H
  · exact ⟨hb, none, 0, 0, none, 0, 0, 0, 0, false, rfl, fun _ => ⟨rfl, rfl, rfl, rfl, rfl, rfl, rfl, rfl, rfl⟩, fun h => (by cases h), fun _ h => (by cases h), fun _ h => (by cases h)⟩
  · exact ⟨hb, A1, _, c1, A2, _, c2, _, _, true, rfl, fun h => (by cases h), fun _ => ⟨r, rfl, rfl, rfl, rfl, rfl, h1, h2, h3, h4⟩, h5, h6⟩
theorem TripV.is {w w' : World} {C : Nat} {t : Option TripR} {A1 A2 : Option Addr} {n1 c1 n2 c2 : Nat} {c h : Int} {ok : Bool} (H : TripV w' C t A1 n1 c1 A2 n2 c2 c h ok) (hC : w.heap.size ≤ C) (hb : Below w.heap.size w w') : TripIs w t (.returned (.tuple #[.agg #[.slice A1 n1 c1, .slice A2 n2 c2, .int .i64 c, .int .i64 h], .bool ok])) w' := by
  have g1 := H.f1
  have g2 := H.f2
  cases ok with
  | false =>
    obtain ⟨rfl, rfl, rfl, rfl, rfl, rfl, rfl, rfl, rfl⟩ := H.no rfl
    exact ⟨hb, .inl ⟨rfl, rfl⟩⟩
  | true =>
    obtain ⟨r, rfl, rfl, rfl, rfl, rfl, h6, h7, h8, h9⟩ := H.yes rfl
    exact ⟨hb, .inr ⟨r, A1, c1, A2, c2, rfl, rfl, h6, h7, h8, h9, g1.mono hC, g2.mono hC⟩⟩
theorem Recs.low {α : Type} {W : World} {c C : Nat} {g : α → Nat → Int} {A : Option Addr} {n cap : Nat} {l : List α} {R : Nat} (h : Recs W c g (.slice A n cap) l) (hf : Fresh C A) (hR : R < C) (j : Nat) (u : Value) : Recs (W.setCell ⟨R, j, none⟩ u) c g (.slice A n cap) l := by
  obtain ⟨A', cap', e, h⟩ := h
  injection e with e1 e2 e3
  subst e1 e2 e3
  refine ⟨A, cap, rfl, fun k hk => ?_⟩
  obtain ⟨B, o, rfl, hB, hc⟩ := h k hk
  have := hf _ rfl
  simp only at this
  exact ⟨B, o, rfl, by simpa using hB, fun m hm => by rw [World.cell?_setCell_other _ _ _ _ (by intro hh; injection hh with h1 _ _; omega)]; exact hc m hm⟩
theorem TripV.low {W : World} {C : Nat} {t : Option TripR} {A1 A2 : Option Addr} {n1 c1 n2 c2 : Nat} {c h : Int} {ok : Bool} (H : TripV W C t A1 n1 c1 A2 n2 c2 c h ok) {R : Nat} (hR : R < C) (j : Nat) (u : Value) : TripV (W.setCell ⟨R, j, none⟩ u) C t A1 n1 c1 A2 n2 c2 c h ok :=
  ⟨H.no, fun e => by
    obtain ⟨r, h1, h2, h3, h4, h5, h6, h7, h8, h9⟩ := H.yes e
    exact ⟨r, h1, h2, h3, h4, h5, h6, h7, h8.low H.f1 hR j u, h9.low H.f2 hR j u⟩, H.f1, H.f2⟩
theorem there_in {i : Prob} (hf : Fine i) {l : List Int} (h : thereB i l = true) : ∀ x ∈ l, 1 ≤ x ∧ x ≤ 10 := by
  intro x hx
  unfold thereB at h
  rw [List.all_eq_true] at h
  have := inB_iff.1 (h x hx)
  have := hf.stops
  omega
theorem mate_bound {i : Prob} (hf : Fine i) (x : Int) : 0 ≤ mateL x i.pairs ∧ mateL x i.pairs ≤ 10 := by
  have hs := hf.stops
  have key : ∀ (ps : List Pair), (∀ p ∈ ps, 1 ≤ p.a ∧ p.a ≤ i.stops.length ∧ 1 ≤ p.b ∧ p.b ≤ i.stops.length) → 0 ≤ mateL x ps ∧ mateL x ps ≤ 10 := by
    intro ps
    induction ps with
    | nil => intro _; simp [mateL]
    | cons p l ih =>
      intro h
      have h1 := h p (by simp)
      have h2 := ih (fun q hq => h q (by simp [hq]))
      simp only [mateL]
      split
      · omega
      · split
        · omega
        · exact h2
  exact key i.pairs hf.pairF
theorem Lies.car {W : World} {vc vs vp vt : Value} {i : Prob} (h : Lies W (.agg #[vc, vs, vp, vt]) i) {q : Nat} (hq : q < i.cars.length) : ∃ A cap B o, vc = .slice A i.cars.length cap ∧ A = some ⟨B, o, none⟩ ∧ B < W.heap.size ∧
    W.cell? ⟨B, o + q * 3, none⟩ = some (.int .i64 (carAt i (q : Int)).c) ∧ W.cell? ⟨B, o + q * 3 + 1, none⟩ = some (.int .i64 (carAt i (q : Int)).s) ∧
    W.cell? ⟨B, o + q * 3 + 2, none⟩ = some (.int .i64 (carAt i (q : Int)).e) := by
  obtain ⟨_, _, _, _, e, ⟨A, cap, hv, hc⟩, _, _, _⟩ := h
  injection e with e
  injection e with e
  injection e with e _
  subst e
  obtain ⟨B, o, hA, hB, hcell⟩ := hc q hq
  rw [carAt_nat i hq]
  exact ⟨A, cap, B, o, hv, hA, hB, hcell 0 (by omega), hcell 1 (by omega), hcell 2 (by omega)⟩
theorem carAt_bounds {i : Prob} (h : Fine i) (c : Int) : 0 ≤ (carAt i c).c ∧ (carAt i c).c ≤ 60 ∧ 0 ≤ (carAt i c).s ∧ (carAt i c).s ≤ 1000 ∧ (carAt i c).e ≤ 1000 := by
  unfold carAt
  cases hk : i.cars[c.toNat]? with
  | none => simp
  | some r =>
    have := h.carF r (List.mem_of_getElem? hk)
    simp only [Option.getD_some]
    omega

set_option maxRecDepth 100000 in
set_option maxHeartbeats 4000000 in
theorem cost_any (v u : Value) (i : Prob) (l : List Int) (w : World) (h : Lies w v i) (hok : probOk i = true) (hp : i.pairs.length ≤ 1000000) (hr : Recs w 1 num_ u l) (hl : l.length ≤ 1000000) :
    Calls Try.prog 13 #[v, u] w fun e w' => e = .returned (.int .i64 (costP i l)) ∧ Below w.heap.size w w' := by
  have h' := h
  obtain ⟨vc, vs, vp, vt, rfl, _, _, _, _⟩ := h'
  obtain ⟨A, cap, rfl, _⟩ := hr.num
  have hf := fine_of hok
  have hst := hf.stops
  have hcs := hf.cars.2
  have HL := Lib.hid h
  have HF := Lib.hid hf
  have HOK := Lib.hid hok
  have HR := Lib.hid hr
  clear h hf hok hr
  have BX := Lib.hid (blk_new w #[vc, vs, vp, vt] 34)
  have HB0 := Lib.hid ((Below.refl _ _).alloc (Nat.le_refl _) (.cells #[vc, vs, vp, vt] 34) : Below w.heap.size w _)
  go_enter Try.func13, Try.ntmps13
  go_upto_region 1 with (fail)
  generalize w.alloc (.cells #[vc, vs, vp, vt] 34) = w0 at *
  have k0 := BX.out.c0
  have k1 := BX.out.c1
  have k2 := BX.out.c2
  have k3 := BX.out.c3
  have hz0 := BX.out.1
  go_wp2_with (go_at_call 21; fail)
  (with_reducible refine (check_ok (HL.out.below HB0.out) (by unfold Short; omega) HOK.out).mono ?_)
  rintro e w1 ⟨rfl, hb1⟩
  have HB1 := Lib.hid (HB0.out.trans (hb1.mono HB0.out.size))
  have BX1 := Lib.hid (BX.out.below hb1)
  clear hb1 k0 k1 k2 k3 hz0
  have k0 := BX1.out.c0
  have k1 := BX1.out.c1
  have k2 := BX1.out.c2
  have k3 := BX1.out.c3
  have hz0 := BX1.out.1
  go_wp2_with (go_at_call 22; fail)
  (with_reducible refine (there_any _ _ i l w1 (HL.out.below HB1.out) (HR.out.below HB1.out) (by omega) (by omega)).mono ?_)
  rintro e w2 ⟨rfl, hb2⟩
  have HB2 := Lib.hid (HB1.out.trans (hb2.mono HB1.out.size))
  have BX2 := Lib.hid (BX1.out.below hb2)
  clear hb2 k0 k1 k2 k3 hz0
  have k0 := BX2.out.c0
  have k1 := BX2.out.c1
  have k2 := BX2.out.c2
  have k3 := BX2.out.c3
  have hz0 := BX2.out.1
  cases hth : thereB i l
  · have HC : Hid (costP i l = 0) := by show _ = _; unfold costP; rw [hth]; rfl
    clear hth
    go_wp2
    go_ret
    exact ⟨ret_i HC.out.symm, HB2.out⟩
  · have HC : Hid (costP i l = costL i 0 l) := by show _ = _; unfold costP; rw [hth]; rfl
    have HT := Lib.hid hth
    clear hth
    go_wp2_with (go_at_call 26; fail)
    (with_reducible refine (travel_sum _ _ i l w2 (HL.out.below HB2.out) HF.out (HR.out.below HB2.out) hl HT.out).mono ?_)
    rintro e w3 ⟨rfl, hb3⟩
    have HB3 := Lib.hid (HB2.out.trans (hb3.mono HB2.out.size))
    clear hb3 k0 k1 k2 k3
    go_wp2
    go_ret
    exact ⟨ret_i HC.out.symm, HB3.out⟩

set_option maxRecDepth 100000 in
set_option maxHeartbeats 8000000 in
theorem eval_any (v u : Value) (i : Prob) (c : Int) (l : List Int) (w : World) (h : Lies w v i) (hok : probOk i = true) (hp : i.pairs.length ≤ 1000000) (hr : Recs w 1 num_ u l) (hl : l.length ≤ 1000000) :
    Calls Try.prog 9 #[v, .int .i64 c, u] w (TripIs w (evalL i c l)) := by
  have h' := h
  obtain ⟨vc, vs, vp, vt, rfl, hvc, _, _, _⟩ := h'
  obtain ⟨A, cap, rfl, _⟩ := hr.num
  have hf := fine_of hok
  have hst := hf.stops
  have hcs := hf.cars.2
  have HL := Lib.hid h
  have HF := Lib.hid hf
  have HOK := Lib.hid hok
  have HR := Lib.hid hr
  obtain ⟨Ac, capc, rfl, _⟩ := hvc
  clear h hf hok hr
  have BX := Lib.hid ((blk_new w #[.slice Ac i.cars.length capc, vs, vp, vt] 34).alloc (.cells #[.slice none 0 0, .slice none 0 0, .int .i64 0, .int .i64 0] 26))
  have HB0 := Lib.hid (((Below.refl _ _).alloc (Nat.le_refl _) (.cells #[.slice Ac i.cars.length capc, vs, vp, vt] 34)).alloc (by simp) (.cells #[.slice none 0 0, .slice none 0 0, .int .i64 0, .int .i64 0] 26) : Below w.heap.size w _)
  have BR := Lib.hid (blk_at (w := w.alloc (.cells #[.slice Ac i.cars.length capc, vs, vp, vt] 34)) #[.slice none 0 0, .slice none 0 0, .int .i64 0, .int .i64 0] 26 (show w.heap.size + 1 = _ by simp))
  go_enter Try.func9, Try.ntmps9
  go_upto_region 1 with (fail)
  generalize (w.alloc (.cells #[.slice Ac i.cars.length capc, vs, vp, vt] 34)).alloc (.cells #[.slice none 0 0, .slice none 0 0, .int .i64 0, .int .i64 0] 26) = w0 at *
  generalize hRR : w.heap.size + 1 = R at *
  have hRw : w.heap.size ≤ R := by omega
  have hRw2 : w.heap.size < R := by omega
  clear hRR
  have k0 := BX.out.c0
  have k1 := BX.out.c1
  have k2 := BX.out.c2
  have k3 := BX.out.c3
  have hz0 := BX.out.1
  go_wp2_with (go_at_call 21; fail)
  (with_reducible refine (check_ok (HL.out.below HB0.out) (by unfold Short; omega) HOK.out).mono ?_)
  rintro e w1 ⟨rfl, hb1⟩
  have HB1 := Lib.hid (HB0.out.trans (hb1.mono HB0.out.size))
  have BX1 := Lib.hid (BX.out.below hb1)
  have BR1 := Lib.hid (BR.out.below hb1)
  clear hb1 k0 k1 k2 k3 hz0
  have k0 := BX1.out.c0
  have k1 := BX1.out.c1
  have k2 := BX1.out.c2
  have k3 := BX1.out.c3
  have hz0 := BX1.out.1
  by_cases hcar : 0 ≤ c ∧ c < i.cars.length
  · obtain ⟨q, rfl⟩ : ∃ q : Nat, c = (q : Int) := ⟨c.toNat, by omega⟩
    have hq : q < i.cars.length := by omega
    have HI : Hid (inB (q : Int) 0 (i.cars.length - 1) = true) := inB_iff.2 ⟨by omega, by omega⟩
    clear hcar
    go_upto_region 3 with (fail)
    go_wp2_with (go_at_call 22; fail)
    (with_reducible refine (there_any _ _ i l w1 (HL.out.below HB1.out) (HR.out.below HB1.out) (by omega) (by omega)).mono ?_)
    rintro e w2 ⟨rfl, hb2⟩
    have HB2 := Lib.hid (HB1.out.trans (hb2.mono HB1.out.size))
    have BX2 := Lib.hid (BX1.out.below hb2)
    have BR2 := Lib.hid (BR1.out.below hb2)
    clear hb2 k0 k1 k2 k3 hz0
    cases hth : thereB i l
    · have HN : Hid (evalL i q l = none) := by show _ = _; unfold evalL; rw [hth]; simp
      clear hth
      obtain ⟨r0, r1, r2, r3, f0, f1, f2, f3⟩ := nil4 BR2.out
      have hRz := BR2.out.1
      go_wp2
      refine bodyPost_ret (v := .tuple #[.agg #[.slice none 0 0, .slice none 0 0, .int .i64 0, .int .i64 0], .bool false]) (by simp [results, Try.results9, go_sem, r0, r1, r2, r3]) rfl ⟨?_, .inl ⟨HN.out, rfl⟩⟩
      exact (((HB2.out.setCell (p := ⟨R, 0, none⟩) hRw _).setCell (p := ⟨R, 1, none⟩) hRw _).setCell (p := ⟨R, 2, none⟩) hRw _).setCell (p := ⟨R, 3, none⟩) hRw _
    · have HT := Lib.hid hth
      clear hth
      go_wp2_with (go_at_call 23; fail)
      (with_reducible refine (twice_any _ l w2 (HR.out.below HB2.out) (by omega) (there_in HF.out HT.out)).mono ?_)
      rintro e w3 ⟨rfl, hb3⟩
      have HB3 := Lib.hid (HB2.out.trans (hb3.mono HB2.out.size))
      have BX3 := Lib.hid (BX2.out.below hb3)
      have BR3 := Lib.hid (BR2.out.below hb3)
      clear hb3
      cases htw : nodupL [] l
      · have HN : Hid (evalL i q l = none) := by show _ = _; unfold evalL; rw [htw]; simp
        clear htw
        obtain ⟨r0, r1, r2, r3, f0, f1, f2, f3⟩ := nil4 BR3.out
        have hRz := BR3.out.1
        go_wp2
        refine bodyPost_ret (v := .tuple #[.agg #[.slice none 0 0, .slice none 0 0, .int .i64 0, .int .i64 0], .bool false]) (by simp [results, Try.results9, go_sem, r0, r1, r2, r3]) rfl ⟨?_, .inl ⟨HN.out, rfl⟩⟩
        exact (((HB3.out.setCell (p := ⟨R, 0, none⟩) hRw _).setCell (p := ⟨R, 1, none⟩) hRw _).setCell (p := ⟨R, 2, none⟩) hRw _).setCell (p := ⟨R, 3, none⟩) hRw _
      · have HT2 := Lib.hid htw
        clear htw
        have k0 := BX3.out.c0
        have k1 := BX3.out.c1
        have k2 := BX3.out.c2
        have k3 := BX3.out.c3
        have hz0 := BX3.out.1
        go_wp2_with (go_at_call 24; fail)
        (with_reducible refine (whole_any _ _ i l w3 (HL.out.below HB3.out) (HR.out.below HB3.out) (by omega) (by omega) (there_in HF.out HT.out) (mate_bound HF.out)).mono ?_)
        rintro e w4 ⟨rfl, hb4⟩
        have HB4 := Lib.hid (HB3.out.trans (hb4.mono HB3.out.size))
        have BX4 := Lib.hid (BX3.out.below hb4)
        have BR4 := Lib.hid (BR3.out.below hb4)
        clear hb4 k0 k1 k2 k3 hz0
        cases hpw : pairsL i.pairs [] 0 l
        · have HN : Hid (evalL i q l = none) := by show _ = _; unfold evalL; rw [hpw]; simp
          clear hpw
          obtain ⟨r0, r1, r2, r3, f0, f1, f2, f3⟩ := nil4 BR4.out
          have hRz := BR4.out.1
          go_wp2
          refine bodyPost_ret (v := .tuple #[.agg #[.slice none 0 0, .slice none 0 0, .int .i64 0, .int .i64 0], .bool false]) (by simp [results, Try.results9, go_sem, r0, r1, r2, r3]) rfl ⟨?_, .inl ⟨HN.out, rfl⟩⟩
          exact (((HB4.out.setCell (p := ⟨R, 0, none⟩) hRw _).setCell (p := ⟨R, 1, none⟩) hRw _).setCell (p := ⟨R, 2, none⟩) hRw _).setCell (p := ⟨R, 3, none⟩) hRw _
        · have HN : Hid (evalL i q l = tripOf i (carAt i q) l) := by show _ = _; unfold evalL; rw [HI.out, HT.out, HT2.out, hpw]; rfl
          clear hpw
          obtain ⟨Ac', capc', B, o, hv, hA, hB, c0', c1', c2'⟩ := HL.out.car hq
          injection hv with h1 _ h3
          subst h1 h3
          subst hA
          have c0 := cell_up HB4.out hB c0'
          have c1 := cell_up HB4.out hB c1'
          have c2 := cell_up HB4.out hB c2'
          clear c0' c1' c2'
          have hB4 : B < w4.heap.size := Nat.lt_of_lt_of_le hB HB4.out.size
          have k0 := BX4.out.c0
          have k1 := BX4.out.c1
          have k2 := BX4.out.c2
          have k3 := BX4.out.c3
          have hz0 := BX4.out.1
          go_upto_region 5 with (fail)
          refine wp_region_z (S := (fun w' => w'.cell? ⟨w.heap.size, 0, none⟩ = some (.slice (some ⟨B, o, none⟩) i.cars.length capc) ∧ w'.cell? ⟨w.heap.size, 1, none⟩ = some vs ∧ w'.cell? ⟨w.heap.size, 2, none⟩ = some vp ∧ w'.cell? ⟨w.heap.size, 3, none⟩ = some vt ∧ w'.cell? ⟨B, o + q * 3, none⟩ = some (.int .i64 (carAt i q).c) ∧ w'.cell? ⟨B, o + q * 3 + 1, none⟩ = some (.int .i64 (carAt i q).s) ∧ w'.cell? ⟨B, o + q * 3 + 2, none⟩ = some (.int .i64 (carAt i q).e))) (z := 11) (by kernel_rfl) ⟨k0, k1, k2, k3, c0, c1, c2⟩ (fun hH => ?_)
          refine wpAnyZ_take (i := 0) (v := ?_) rfl (by kernel_rfl) (by kernel_rfl) (by kernel_rfl) rfl (by kernel_rfl) (fun _ _ _ h => h) (gives_value (by rfl) ?_) (by assumption) ?_
          rotate_left
          · intro w hSw
            (try dsimp only at hSw)
            go_simp
            (try with_reducible rfl)
          (try simp only [Act.put, List.getElem_toArray, List.getElem_cons_succ, List.getElem_cons_zero, List.setIfInBounds_toArray, List.set_cons_zero, List.set_cons_succ])
          refine wpAnyZ_take (i := 1) (v := ?_) rfl (by kernel_rfl) (by kernel_rfl) (by kernel_rfl) rfl (by kernel_rfl) (fun _ _ _ h => h) (gives_value (by rfl) ?_) (by assumption) ?_
          rotate_left
          · intro w hSw
            (try dsimp only at hSw)
            go_simp
            (try with_reducible rfl)
          (try simp only [Act.put, List.getElem_toArray, List.getElem_cons_succ, List.getElem_cons_zero, List.setIfInBounds_toArray, List.set_cons_zero, List.set_cons_succ])
          refine wpAnyZ_take (i := 2) (v := ?_) rfl (by kernel_rfl) (by kernel_rfl) (by kernel_rfl) rfl (by kernel_rfl) (fun _ _ _ h => h) (gives_value (by rfl) ?_) (by assumption) ?_
          rotate_left
          · intro w hSw
            (try dsimp only at hSw)
            go_simp
            (try with_reducible rfl)
          (try simp only [Act.put, List.getElem_toArray, List.getElem_cons_succ, List.getElem_cons_zero, List.setIfInBounds_toArray, List.set_cons_zero, List.set_cons_succ])
          refine wpAnyZ_take (i := 3) (v := ?_) rfl (by kernel_rfl) (by kernel_rfl) (by kernel_rfl) rfl (by kernel_rfl) (fun _ _ _ h => h) (gives_value (by rfl) ?_) (by assumption) ?_
          rotate_left
          · intro w hSw
            (try dsimp only at hSw)
            go_simp
            (try with_reducible rfl)
          (try simp only [Act.put, List.getElem_toArray, List.getElem_cons_succ, List.getElem_cons_zero, List.setIfInBounds_toArray, List.set_cons_zero, List.set_cons_succ])
          refine wpAnyZ_take (i := 4) (v := ?_) rfl (by kernel_rfl) (by kernel_rfl) (by kernel_rfl) rfl (by kernel_rfl) (fun _ _ _ h => h) (gives_value (by rfl) ?_) (by assumption) ?_
          rotate_left
          · intro w hSw
            (try dsimp only at hSw)
            go_simp
            (try with_reducible rfl)
          (try simp only [Act.put, List.getElem_toArray, List.getElem_cons_succ, List.getElem_cons_zero, List.setIfInBounds_toArray, List.set_cons_zero, List.set_cons_succ])
          refine wpAnyZ_take (i := 5) (v := ?_) rfl (by kernel_rfl) (by kernel_rfl) (by kernel_rfl) rfl (by kernel_rfl) (fun _ _ _ h => h) (gives_value (by rfl) ?_) (by assumption) ?_
          rotate_left
          · intro w hSw
            (try dsimp only at hSw)
            go_simp
            (try with_reducible rfl)
          (try simp only [Act.put, List.getElem_toArray, List.getElem_cons_succ, List.getElem_cons_zero, List.setIfInBounds_toArray, List.set_cons_zero, List.set_cons_succ])
          refine wpAnyZ_take (i := 6) (v := ?_) rfl (by kernel_rfl) (by kernel_rfl) (by kernel_rfl) rfl (by kernel_rfl) (fun _ _ _ h => h) (gives_value (by rfl) ?_) (by assumption) ?_
          rotate_left
          · intro w hSw
            (try dsimp only at hSw)
            go_simp
            (try with_reducible rfl)
          (try simp only [Act.put, List.getElem_toArray, List.getElem_cons_succ, List.getElem_cons_zero, List.setIfInBounds_toArray, List.set_cons_zero, List.set_cons_succ])
          refine wpAnyZ_one (i := 7) (by kernel_rfl) ?_
          refine zstep rfl (fun K hK => ?_)
          go_simp
          (with_reducible refine (drive_any _ _ i (carAt i q) l w4.drew (HL.out.below (HB4.out.drew)) HF.out (HR.out.below (HB4.out.drew)) hl HT.out (carAt_bounds HF.out _)).mono ?_)
          rintro e w5 hti
          obtain ⟨hb5, D1, n1, d1, D2, n2, d2, cc, hh, ok, rfl, htv⟩ := hti.parts
          replace hb5 : Below w4.heap.size w4 w5 := ((Below.refl w4.heap.size w4).drew).trans hb5
          have TV := Lib.hid htv
          have HB5 := Lib.hid (HB4.out.trans (hb5.mono HB4.out.size))
          have hRT : R < w4.heap.size := BR4.out.1
          have BR5 := Lib.hid (BR4.out.below hb5)
          have BX5 := Lib.hid (BX4.out.below hb5)
          refine hK.out _ _ (fun _ => ⟨BX5.out.c0, BX5.out.c1, BX5.out.c2, BX5.out.c3, cell_up hb5 hB4 c0, cell_up hb5 hB4 c1, cell_up hb5 hB4 c2⟩) (fun hH => ?_)
          replace hH := hH (by decide)
          clear hK K hti htv hb5
          (try simp only [Act.put, List.getElem_toArray, List.getElem_cons_succ, List.getElem_cons_zero, List.setIfInBounds_toArray, List.set_cons_zero, List.set_cons_succ])
          refine wpAnyZ_take (i := 8) (v := ?_) rfl (by kernel_rfl) (by kernel_rfl) (by kernel_rfl) rfl (by kernel_rfl) (fun _ _ _ h => h) (gives_value (by rfl) ?_) (by assumption) ?_
          rotate_left
          · intro w hSw
            (try dsimp only at hSw)
            go_simp
            (try with_reducible rfl)
          (try simp only [Act.put, List.getElem_toArray, List.getElem_cons_succ, List.getElem_cons_zero, List.setIfInBounds_toArray, List.set_cons_zero, List.set_cons_succ])
          refine wpAnyZ_take (i := 9) (v := ?_) rfl (by kernel_rfl) (by kernel_rfl) (by kernel_rfl) rfl (by kernel_rfl) (fun _ _ _ h => h) (gives_value (by rfl) ?_) (by assumption) ?_
          rotate_left
          · intro w hSw
            (try dsimp only at hSw)
            go_simp
            (try with_reducible rfl)
          (try simp only [Act.put, List.getElem_toArray, List.getElem_cons_succ, List.getElem_cons_zero, List.setIfInBounds_toArray, List.set_cons_zero, List.set_cons_succ])
          obtain ⟨r0, r1, r2, r3, f0, f1, f2, f3⟩ := nil4 BR5.out
          have hRz := BR5.out.1
          have TV2 := Lib.hid ((((TV.out.low hRT 0 (.slice D1 n1 d1)).low hRT 1 (.slice D2 n2 d2)).low hRT 2 (.int .i64 cc)).low hRT 3 (.int .i64 hh))
          have HB6 := Lib.hid ((((HB5.out.setCell (p := ⟨R, 0, none⟩) hRw (.slice D1 n1 d1)).setCell (p := ⟨R, 1, none⟩) hRw (.slice D2 n2 d2)).setCell (p := ⟨R, 2, none⟩) hRw (.int .i64 cc)).setCell (p := ⟨R, 3, none⟩) hRw (.int .i64 hh))
          have HBR := Lib.hid (((((Below.refl R w5).setCell (p := ⟨R, 0, none⟩) (Nat.le_refl _) (.slice D1 n1 d1)).setCell (p := ⟨R, 1, none⟩) (Nat.le_refl _) (.slice D2 n2 d2)).setCell (p := ⟨R, 2, none⟩) (Nat.le_refl _) (.int .i64 cc)).setCell (p := ⟨R, 3, none⟩) (Nat.le_refl _) (.int .i64 hh))
          have hS5 := hH
          refine wpAnyZ_one (i := 10) (by kernel_rfl) ?_
          refine zstep rfl (fun K hK => ?_)
          go_simp
          refine hK.out _ _ (fun _ => (by obtain ⟨a0, a1, a2, a3, a4, a5, a6⟩ := hS5; exact ⟨cell_up HBR.out (by omega) a0, cell_up HBR.out (by omega) a1, cell_up HBR.out (by omega) a2, cell_up HBR.out (by omega) a3, cell_up HBR.out (by omega) a4, cell_up HBR.out (by omega) a5, cell_up HBR.out (by omega) a6⟩)) (fun hH => ?_)
          clear hK K
          (try simp only [Act.put, List.getElem_toArray, List.getElem_cons_succ, List.getElem_cons_zero, List.setIfInBounds_toArray, List.set_cons_zero, List.set_cons_succ])
          refine wpAnyZ_one (i := 11) (by kernel_rfl) ?_
          refine zstep rfl (fun K hK => ?_)
          go_simp
          refine hK.out _ _ (fun h => absurd rfl h) (fun _ => ?_)
          clear hK K
          (try simp only [Act.put, List.getElem_toArray, List.getElem_cons_succ, List.getElem_cons_zero, List.setIfInBounds_toArray, List.set_cons_zero, List.set_cons_succ])
          refine wpAnyZ_done (by kernel_rfl) ?_ _
          go_wp2
          refine bodyPost_ret (v := .tuple #[.agg #[.slice D1 n1 d1, .slice D2 n2 d2, .int .i64 cc, .int .i64 hh], .bool ok]) (by simp [results, Try.results9, go_sem, r0, r1, r2, r3]) rfl ?_
          rw [HN.out]
          exact TV2.out.is (by have := HB4.out.size; exact this) HB6.out
  · have HN : Hid (evalL i c l = none) := by
      show _ = _
      unfold evalL
      rw [show inB c 0 (i.cars.length - 1) = false from inB_no.2 (by omega)]
      simp
    obtain ⟨r0, r1, r2, r3, f0, f1, f2, f3⟩ := nil4 BR1.out
    have hRz := BR1.out.1
    rcases (show c < 0 ∨ (0 ≤ c ∧ (i.cars.length : Int) ≤ c) by omega) with hx | ⟨hx, hy⟩
    all_goals
      clear hcar
      go_wp2
      refine bodyPost_ret (v := .tuple #[.agg #[.slice none 0 0, .slice none 0 0, .int .i64 0, .int .i64 0], .bool false]) (by simp [results, Try.results9, go_sem, r0, r1, r2, r3]) rfl ⟨?_, .inl ⟨HN.out, rfl⟩⟩
      exact (((HB1.out.setCell (p := ⟨R, 0, none⟩) hRw _).setCell (p := ⟨R, 1, none⟩) hRw _).setCell (p := ⟨R, 2, none⟩) hRw _).setCell (p := ⟨R, 3, none⟩) hRw _
end Go.Proofs.Ytcllnfhjbfmomaa
