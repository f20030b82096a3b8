/- trip.Eval, trip.Cost: what they answer of a problem that may be. -/
import Derived.Test.YtpccoflebfblbaaTripDrive
import Derived.Test.YtpccoflebfblbaaOrders
namespace Go.Proofs.Ytpccoflebfblbaa
open Go.RowKit
set_option linter.unusedSimpArgs false

/-- a trip's answer, part by part, its rows in memory from block C on -/
structure TripV (W : World) (C : Nat) (t : Option TripR) (A1 : Option Addr) (n1 c1 : Nat) (A2 : Option Addr) (n2 c2 : Nat) (c h : Int) (ok : Bool) : Prop where
  no : ok = false → t = none ∧ A1 = none ∧ n1 = 0 ∧ c1 = 0 ∧ A2 = none ∧ n2 = 0 ∧ c2 = 0 ∧ c = 0 ∧ h = 0
  yes : ok = true → ∃ r, t = some r ∧ n1 = r.arr.length ∧ n2 = r.load.length ∧ c = r.cost ∧ h = r.home ∧ n1 ≤ c1 ∧ n2 ≤ c2 ∧ Recs W 1 num_ (.slice A1 r.arr.length c1) r.arr ∧ Recs W 1 num_ (.slice A2 r.load.length c2) r.load
  f1 : Fresh C A1
  f2 : Fresh C A2
theorem TripV.below {W W' : World} {C : Nat} {t : Option TripR} {A1 A2 : Option Addr} {n1 c1 n2 c2 : Nat} {c h : Int} {ok : Bool} (H : TripV W C t A1 n1 c1 A2 n2 c2 c h ok) (hb : Below W.heap.size W W') : TripV W' C t A1 n1 c1 A2 n2 c2 c h ok :=
  ⟨H.no, fun e => by
    obtain ⟨r, h1, h2, h3, h4, h5, h6, h7, h8, h9⟩ := H.yes e
    exact ⟨r, h1, h2, h3, h4, h5, h6, h7, h8.below hb, h9.below hb⟩, H.f1, H.f2⟩
theorem TripIs.parts {w w' : World} {t : Option TripR} {e : Ending} (H : TripIs w t e w') : Below w.heap.size w w' ∧ ∃ A1 n1 c1 A2 n2 c2 c h ok, e = .returned (.tuple #[.agg #[.slice A1 n1 c1, .slice A2 n2 c2, .int .i64 c, .int .i64 h], .bool ok]) ∧ TripV w' w.heap.size t A1 n1 c1 A2 n2 c2 c h ok := by
  obtain ⟨hb, ⟨rfl, rfl⟩ | ⟨r, A1, c1, A2, c2, rfl, rfl, h1, h2, h3, h4, h5, h6⟩⟩ := H
  · exact ⟨hb, none, 0, 0, none, 0, 0, 0, 0, false, rfl, fun _ => ⟨rfl, rfl, rfl, rfl, rfl, rfl, rfl, rfl, rfl⟩, fun h => (by cases h), fun _ h => (by cases h), fun _ h => (by cases h)⟩
  · exact ⟨hb, A1, _, c1, A2, _, c2, _, _, true, rfl, fun h => (by cases h), fun _ => ⟨r, rfl, rfl, rfl, rfl, rfl, h1, h2, h3, h4⟩, h5, h6⟩
theorem TripV.is {w w' : World} {C : Nat} {t : Option TripR} {A1 A2 : Option Addr} {n1 c1 n2 c2 : Nat} {c h : Int} {ok : Bool} (H : TripV w' C t A1 n1 c1 A2 n2 c2 c h ok) (hC : w.heap.size ≤ C) (hb : Below w.heap.size w w') : TripIs w t (.returned (.tuple #[.agg #[.slice A1 n1 c1, .slice A2 n2 c2, .int .i64 c, .int .i64 h], .bool ok])) w' := by
  have g1 := H.f1
  have g2 := H.f2
  cases ok with
  | false =>
    obtain ⟨rfl, rfl, rfl, rfl, rfl, rfl, rfl, rfl, rfl⟩ := H.no rfl
    exact ⟨hb, .inl ⟨rfl, rfl⟩⟩
  | true =>
    obtain ⟨r, rfl, rfl, rfl, rfl, rfl, h6, h7, h8, h9⟩ := H.yes rfl
    exact ⟨hb, .inr ⟨r, A1, c1, A2, c2, rfl, rfl, h6, h7, h8, h9, g1.mono hC, g2.mono hC⟩⟩
theorem Recs.low {α : Type} {W : World} {c C : Nat} {g : α → Nat → Int} {A : Option Addr} {n cap : Nat} {l : List α} {R : Nat} (h : Recs W c g (.slice A n cap) l) (hf : Fresh C A) (hR : R < C) (j : Nat) (u : Value) : Recs (W.setCell ⟨R, j, none⟩ u) c g (.slice A n cap) l := by
  obtain ⟨A', cap', e, h⟩ := h
  injection e with e1 e2 e3
  subst e1 e2 e3
  refine ⟨A, cap, rfl, fun k hk => ?_⟩
  obtain ⟨B, o, rfl, hB, hc⟩ := h k hk
  have := hf _ rfl
  simp only at this
  exact ⟨B, o, rfl, by simpa using hB, fun m hm => by rw [World.cell?_setCell_other _ _ _ _ (by intro hh; injection hh with h1 _ _; omega)]; exact hc m hm⟩
theorem TripV.low {W : World} {C : Nat} {t : Option TripR} {A1 A2 : Option Addr} {n1 c1 n2 c2 : Nat} {c h : Int} {ok : Bool} (H : TripV W C t A1 n1 c1 A2 n2 c2 c h ok) {R : Nat} (hR : R < C) (j : Nat) (u : Value) : TripV (W.setCell ⟨R, j, none⟩ u) C t A1 n1 c1 A2 n2 c2 c h ok :=
  ⟨H.no, fun e => by
    obtain ⟨r, h1, h2, h3, h4, h5, h6, h7, h8, h9⟩ := H.yes e
    exact ⟨r, h1, h2, h3, h4, h5, h6, h7, h8.low H.f1 hR j u, h9.low H.f2 hR j u⟩, H.f1, H.f2⟩
theorem there_in {i : Prob} (hf : Fine i) {l : List Int} (h : thereB i l = true) : ∀ x ∈ l, 1 ≤ x ∧ x ≤ 10 := by
  intro x hx
  unfold thereB at h
  rw [List.all_eq_true] at h
  have := inB_iff.1 (h x hx)
  have := hf.stops
  omega
theorem mate_bound {i : Prob} (hf : Fine i) (x : Int) : 0 ≤ mateL x i.pairs ∧ mateL x i.pairs ≤ 10 := by
  have hs := hf.stops
  have key : ∀ (ps : List Pair), (∀ p ∈ ps, 1 ≤ p.a ∧ p.a ≤ i.stops.length ∧ 1 ≤ p.b ∧ p.b ≤ i.stops.length) → 0 ≤ mateL x ps ∧ mateL x ps ≤ 10 := by
    intro ps
    induction ps with
    | nil => intro _; simp [mateL]
    | cons p l ih =>
      intro h
      have h1 := h p (by simp)
      have h2 := ih (fun q hq => h q (by simp [hq]))
      simp only [mateL]
      split
      · omega
      · split
        · omega
        · exact h2
  exact key i.pairs hf.pairF
theorem Lies.car {W : World} {vc vs vp vt : Value} {i : Prob} (h : Lies W (.agg #[vc, vs, vp, vt]) i) {q : Nat} (hq : q < i.cars.length) : ∃ A cap B o, vc = .slice A i.cars.length cap ∧ A = some ⟨B, o, none⟩ ∧ B < W.heap.size ∧
    W.cell? ⟨B, o + q * 3, none⟩ = some (.int .i64 (carAt i (q : Int)).c) ∧ W.cell? ⟨B, o + q * 3 + 1, none⟩ = some (.int .i64 (carAt i (q : Int)).s) ∧
    W.cell? ⟨B, o + q * 3 + 2, none⟩ = some (.int .i64 (carAt i (q : Int)).e) := by
  obtain ⟨_, _, _, _, e, ⟨A, cap, hv, hc⟩, _, _, _⟩ := h
  injection e with e
  injection e with e
  injection e with e _
  subst e
  obtain ⟨B, o, hA, hB, hcell⟩ := hc q hq
  rw [carAt_nat i hq]
  exact ⟨A, cap, B, o, hv, hA, hB, hcell 0 (by omega), hcell 1 (by omega), hcell 2 (by omega)⟩
theorem carAt_bounds {i : Prob} (h : Fine i) (c : Int) : 0 ≤ (carAt i c).c ∧ (carAt i c).c ≤ 60 ∧ 0 ≤ (carAt i c).s ∧ (carAt i c).s ≤ 1000 ∧ (carAt i c).e ≤ 1000 := by
  unfold carAt
  cases hk : i.cars[c.toNat]? with
  | none => simp
  | some r =>
    have := h.carF r (List.mem_of_getElem? hk)
    simp only [Option.getD_some]
    omega

set_option maxRecDepth 100000 in
set_option maxHeartbeats 4000000 in
theorem cost_any (v u : Value) (i : Prob) (l : List Int) (w : World) (h : Lies w v i) (hok : probOk i = true) (hp : i.pairs.length ≤ 1000000) (hr : Recs w 1 num_ u l) (hl : l.length ≤ 1000000) :
    Calls Try.prog 32 #[v, u] w fun e w' => e = .returned (.int .i64 (costP i l)) ∧ Below w.heap.size w w' := by
  have h' := h
  obtain ⟨vc, vs, vp, vt, rfl, _, _, _, _⟩ := h'
  obtain ⟨A, cap, rfl, _⟩ := hr.num
  have hf := fine_of hok
  have hst := hf.stops
  have hcs := hf.cars.2
  have HL := Lib.hid h
  have HF := Lib.hid hf
  have HOK := Lib.hid hok
  have HR := Lib.hid hr
  clear h hf hok hr
  have BX := Lib.hid (blk_new w #[vc, vs, vp, vt] 32)
  have HB0 := Lib.hid ((Below.refl _ _).alloc (Nat.le_refl _) (.cells #[vc, vs, vp, vt] 32) : Below w.heap.size w _)
  go_enter Try.func32, Try.ntmps32
  go_upto_region 1 with (fail)
  generalize w.alloc (.cells #[vc, vs, vp, vt] 32) = w0 at *
  have k0 := BX.out.c0
  have k1 := BX.out.c1
  have k2 := BX.out.c2
  have k3 := BX.out.c3
  have hz0 := BX.out.1
  go_wp2_with (go_at_call 19; fail)
  (with_reducible refine (check_ok (HL.out.below HB0.out) (by unfold Short; omega) HOK.out).mono ?_)
  rintro e w1 ⟨rfl, hb1⟩
  have HB1 := Lib.hid (HB0.out.trans (hb1.mono HB0.out.size))
  have BX1 := Lib.hid (BX.out.below hb1)
  clear hb1 k0 k1 k2 k3 hz0
  have k0 := BX1.out.c0
  have k1 := BX1.out.c1
  have k2 := BX1.out.c2
  have k3 := BX1.out.c3
  have hz0 := BX1.out.1
  go_wp2_with (go_at_call 57; fail)
  (with_reducible refine (there_any _ _ i l w1 (HL.out.below HB1.out) (HR.out.below HB1.out) (by omega) (by omega)).mono ?_)
  rintro e w2 ⟨rfl, hb2⟩
  have HB2 := Lib.hid (HB1.out.trans (hb2.mono HB1.out.size))
  have BX2 := Lib.hid (BX1.out.below hb2)
  clear hb2 k0 k1 k2 k3 hz0
  have k0 := BX2.out.c0
  have k1 := BX2.out.c1
  have k2 := BX2.out.c2
  have k3 := BX2.out.c3
  have hz0 := BX2.out.1
  cases hth : thereB i l
  · have HC : Hid (costP i l = 0) := by show _ = _; unfold costP; rw [hth]; rfl
    clear hth
    go_wp2
    go_ret
    exact ⟨ret_i HC.out.symm, HB2.out⟩
  · have HC : Hid (costP i l = costL i 0 l) := by show _ = _; unfold costP; rw [hth]; rfl
    have HT := Lib.hid hth
    clear hth
    go_wp2_with (go_at_call 58; fail)
    (with_reducible refine (travel_sum _ _ i l w2 (HL.out.below HB2.out) HF.out (HR.out.below HB2.out) hl HT.out).mono ?_)
    rintro e w3 ⟨rfl, hb3⟩
    have HB3 := Lib.hid (HB2.out.trans (hb3.mono HB2.out.size))
    clear hb3 k0 k1 k2 k3
    go_wp2
    go_ret
    exact ⟨ret_i HC.out.symm, HB3.out⟩

end Go.Proofs.Ytpccoflebfblbaa
