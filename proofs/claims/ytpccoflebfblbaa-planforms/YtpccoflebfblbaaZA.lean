/- A plan that is handed in by its rows: they fit each other. · Package plan's allThere, asItIs (laid by gen_pbig.py). · Package plan's asItIs (laid by gen_pasit.py). · Package plan's change: the edit's routes and holders are put into a plan in a variable (laid by gen_pchange.py). -/
import Derived.Test.YtpccoflebfblbaaPLow
import Derived.Test.YtpccoflebfblbaaPlanPut
import Derived.Test.YtpccoflebfblbaaDMoved2
import Derived.Test.YtpccoflebfblbaaSteps
namespace Go.Proofs.Ytpccoflebfblbaa
open Go.RowKit
set_option linter.unusedSimpArgs false
set_option linter.unusedVariables false

structure PIn (W : World) (A1 A2 A3 A4 A5 A6 : Option Addr) (c1 c2 c3 c4 c5 c6 : Nat) (p : PlanP) : Prop where
  r : Trav W (.slice A1 p.routes.length c1) p.routes
  l : Recs W 1 num_ (.slice A2 p.lock.length c2) p.lock
  i : Recs W 1 num_ (.slice A3 p.ice.length c3) p.ice
  rv : Recs W 1 num_ (.slice A4 p.rv.length c4) p.rv
  sv : Recs W 1 num_ (.slice A5 p.sv.length c5) p.sv
  iv : Recs W 1 num_ (.slice A6 p.iv.length c6) p.iv
  fit : PlanFit p
theorem PIn.below {W W' : World} {A1 A2 A3 A4 A5 A6 : Option Addr} {c1 c2 c3 c4 c5 c6 : Nat} {p : PlanP} (h : PIn W A1 A2 A3 A4 A5 A6 c1 c2 c3 c4 c5 c6 p) (hb : Below W.heap.size W W') : PIn W' A1 A2 A3 A4 A5 A6 c1 c2 c3 c4 c5 c6 p :=
  ⟨h.r.below hb, h.l.below hb, h.i.below hb, h.rv.below hb, h.sv.below hb, h.iv.below hb, h.fit⟩
theorem PlanAt.pin {W : World} {v : Value} {p : PlanP} (h : PlanAt W v p) (hf : PlanFit p) : ∃ A1 A2 A3 A4 A5 A6 c1 c2 c3 c4 c5 c6, v = .agg #[.slice A1 p.routes.length c1, .slice A2 p.sv.length c2, .slice A3 p.routes.length c3, .slice A4 p.routes.length c4, .slice A5 p.sv.length c5, .slice A6 p.routes.length c6, .int .i64 p.pv] ∧ PIn W A1 A2 A3 A4 A5 A6 c1 c2 c3 c4 c5 c6 p := by
  obtain ⟨A1, c1, A2, c2, A3, c3, A4, c4, A5, c5, A6, c6, rfl, h1, h2, h3, h4, h5, h6⟩ := h
  exact ⟨A1, A2, A3, A4, A5, A6, c1, c2, c3, c4, c5, c6, by rw [hf.lock, hf.ice, hf.rv, hf.iv], h1, h2, h3, h4, h5, h6, hf⟩
theorem PIn.at_ {W : World} {A1 A2 A3 A4 A5 A6 : Option Addr} {c1 c2 c3 c4 c5 c6 : Nat} {p : PlanP} (h : PIn W A1 A2 A3 A4 A5 A6 c1 c2 c3 c4 c5 c6 p) : PlanAt W (.agg #[.slice A1 p.routes.length c1, .slice A2 p.sv.length c2, .slice A3 p.routes.length c3, .slice A4 p.routes.length c4, .slice A5 p.sv.length c5, .slice A6 p.routes.length c6, .int .i64 p.pv]) p :=
  ⟨A1, c1, A2, c2, A3, c3, A4, c4, A5, c5, A6, c6, by rw [h.fit.lock, h.fit.ice, h.fit.rv, h.fit.iv], h.r, h.l, h.i, h.rv, h.sv, h.iv⟩
theorem PIn.lock_at {W : World} {A1 A2 A3 A4 A5 A6 : Option Addr} {c1 c2 c3 c4 c5 c6 : Nat} {p : PlanP} (h : PIn W A1 A2 A3 A4 A5 A6 c1 c2 c3 c4 c5 c6 p) {k : Nat} (hk : k < p.sv.length) : ∃ B o, A2 = some ⟨B, o, none⟩ ∧ B < W.heap.size ∧ W.cell? ⟨B, o + k, none⟩ = some (.int .i64 (p.lock.getD k 0)) := by
  have hk' : k < p.lock.length := by rw [h.fit.lock]; exact hk
  obtain ⟨B, o, e, hB, hc⟩ := recs_num h.l hk'
  exact ⟨B, o, e, hB, by rw [hc]; simp [List.getD, hk']⟩
theorem PIn.ice_at {W : World} {A1 A2 A3 A4 A5 A6 : Option Addr} {c1 c2 c3 c4 c5 c6 : Nat} {p : PlanP} (h : PIn W A1 A2 A3 A4 A5 A6 c1 c2 c3 c4 c5 c6 p) {k : Nat} (hk : k < p.routes.length) : ∃ B o, A3 = some ⟨B, o, none⟩ ∧ B < W.heap.size ∧ W.cell? ⟨B, o + k, none⟩ = some (.int .i64 (p.ice.getD k 0)) := by
  have hk' : k < p.ice.length := by rw [h.fit.ice]; exact hk
  obtain ⟨B, o, e, hB, hc⟩ := recs_num h.i hk'
  exact ⟨B, o, e, hB, by rw [hc]; simp [List.getD, hk']⟩
theorem all_snoc {α : Type} {l : List α} {f : α → Bool} {k : Nat} (h : k < l.length) : (l.take (k + 1)).all f = ((l.take k).all f && f l[k]) := by
  rw [take_snoc h, List.all_append, List.all_cons, List.all_nil, Bool.and_true]
theorem all_no {α : Type} {l : List α} {f : α → Bool} {k : Nat} (h : k < l.length) (hf : f l[k] = false) : l.all f = false := by
  rw [List.all_eq_false]
  exact ⟨l[k], List.getElem_mem h, by rw [hf]; simp⟩
/-- is there all that the edit names? -/
def carB (p : PlanP) (c : Int) : Bool := decide (0 ≤ c ∧ c < (p.routes.length : Int))
def stopsB (p : PlanP) (l : List Int) : Bool := l.all fun k => decide (1 ≤ k ∧ k < (p.sv.length : Int))
def turnThere (p : PlanP) (t : Turn) : Bool := carB p t.c && (stopsB p t.b && stopsB p t.a)
def thereP (p : PlanP) (d : Edit) : Bool := d.turns.all (turnThere p) && (d.locks.all (holdIn p.sv.length 1) && d.ices.all (holdIn p.routes.length 0))
end Go.Proofs.Ytpccoflebfblbaa
namespace Go.Proofs.Ytpccoflebfblbaa
open Go.RowKit
set_option linter.unusedSimpArgs false
set_option linter.unusedVariables false

set_option maxRecDepth 100000 in
set_option maxHeartbeats 8000000 in
theorem pthere_any (A1 A2 A3 A4 A5 A6 : Option Addr) (c1 c2 c3 c4 c5 c6 : Nat) (p : PlanP) (At Al Ai : Option Addr) (ct cl ci : Nat) (d : Edit) (w : World) (hp : PIn w A1 A2 A3 A4 A5 A6 c1 c2 c3 c4 c5 c6 p) (hd : EditIn w At Al Ai ct cl ci d) :
    Calls Try.prog 22 #[.agg #[.slice A1 p.routes.length c1, .slice A2 p.sv.length c2, .slice A3 p.routes.length c3, .slice A4 p.routes.length c4, .slice A5 p.sv.length c5, .slice A6 p.routes.length c6, .int .i64 p.pv], .agg #[.slice At d.turns.length ct, .slice Al d.locks.length cl, .slice Ai d.ices.length ci]] w fun e w' => e = .returned (.bool (thereP p d)) ∧ Below w.heap.size w w' := by
  have W0B : Hid (Below w.heap.size w ((w.alloc (.cells #[.slice A1 p.routes.length c1, .slice A2 p.sv.length c2, .slice A3 p.routes.length c3, .slice A4 p.routes.length c4, .slice A5 p.sv.length c5, .slice A6 p.routes.length c6, .int .i64 p.pv] 34)).alloc (.cells #[.slice At d.turns.length ct, .slice Al d.locks.length cl, .slice Ai d.ices.length ci] 46))) := Lib.hid (((Below.refl _ _).alloc (Nat.le_refl _) _).alloc (by simp) _)
  have BP : Hid (Blk ((w.alloc (.cells #[.slice A1 p.routes.length c1, .slice A2 p.sv.length c2, .slice A3 p.routes.length c3, .slice A4 p.routes.length c4, .slice A5 p.sv.length c5, .slice A6 p.routes.length c6, .int .i64 p.pv] 34)).alloc (.cells #[.slice At d.turns.length ct, .slice Al d.locks.length cl, .slice Ai d.ices.length ci] 46)) w.heap.size #[.slice A1 p.routes.length c1, .slice A2 p.sv.length c2, .slice A3 p.routes.length c3, .slice A4 p.routes.length c4, .slice A5 p.sv.length c5, .slice A6 p.routes.length c6, .int .i64 p.pv].toList) := Lib.hid ((blk_new w _ _).alloc _)
  have BD : Hid (Blk ((w.alloc (.cells #[.slice A1 p.routes.length c1, .slice A2 p.sv.length c2, .slice A3 p.routes.length c3, .slice A4 p.routes.length c4, .slice A5 p.sv.length c5, .slice A6 p.routes.length c6, .int .i64 p.pv] 34)).alloc (.cells #[.slice At d.turns.length ct, .slice Al d.locks.length cl, .slice Ai d.ices.length ci] 46)) (w.heap.size + 1) #[.slice At d.turns.length ct, .slice Al d.locks.length cl, .slice Ai d.ices.length ci].toList) := Lib.hid (blk_at (w := w.alloc _) #[.slice At d.turns.length ct, .slice Al d.locks.length cl, .slice Ai d.ices.length ci] 46 (by simp))
  have HP := Lib.hid (hp.below W0B.out)
  have HD := Lib.hid (hd.below W0B.out)
  have hnr := hp.fit.routes
  have hns := hp.fit.sv
  have hnt := hd.nt
  have hnl := hd.nl
  have hni := hd.ni
  clear hp hd
  go_enter Try.func22, Try.ntmps22
  go_upto_region 1 with (fail)
  generalize ((w.alloc (.cells #[.slice A1 p.routes.length c1, .slice A2 p.sv.length c2, .slice A3 p.routes.length c3, .slice A4 p.routes.length c4, .slice A5 p.sv.length c5, .slice A6 p.routes.length c6, .int .i64 p.pv] 34)).alloc (.cells #[.slice At d.turns.length ct, .slice Al d.locks.length cl, .slice Ai d.ices.length ci] 46)) = W0 at *
  have hW0 : w.heap.size + 1 < W0.heap.size := BD.out.1
  have CP : Hid (∀ W, Below W0.heap.size W0 W → W.cell? ⟨w.heap.size, 0, none⟩ = some (.slice A1 p.routes.length c1) ∧ W.cell? ⟨w.heap.size, 1, none⟩ = some (.slice A2 p.sv.length c2) ∧ W.cell? ⟨w.heap.size, 2, none⟩ = some (.slice A3 p.routes.length c3) ∧ W.cell? ⟨w.heap.size, 3, none⟩ = some (.slice A4 p.routes.length c4) ∧ W.cell? ⟨w.heap.size, 4, none⟩ = some (.slice A5 p.sv.length c5) ∧ W.cell? ⟨w.heap.size, 5, none⟩ = some (.slice A6 p.routes.length c6) ∧ W.cell? ⟨w.heap.size, 6, none⟩ = some (.int .i64 p.pv)) := Lib.hid (fun W hb => by
    have B := BP.out.below hb
    exact ⟨(B.2 0 (by simp)).1, (B.2 1 (by simp)).1, (B.2 2 (by simp)).1, (B.2 3 (by simp)).1, (B.2 4 (by simp)).1, (B.2 5 (by simp)).1, (B.2 6 (by simp)).1⟩)
  have CD : Hid (∀ W, Below W0.heap.size W0 W → W.cell? ⟨w.heap.size + 1, 0, none⟩ = some (.slice At d.turns.length ct) ∧ W.cell? ⟨w.heap.size + 1, 1, none⟩ = some (.slice Al d.locks.length cl) ∧ W.cell? ⟨w.heap.size + 1, 2, none⟩ = some (.slice Ai d.ices.length ci)) := Lib.hid (fun W hb => by
    have B := BD.out.below hb
    exact ⟨(B.2 0 (by simp)).1, (B.2 1 (by simp)).1, (B.2 2 (by simp)).1⟩)
  have HBr := Lib.hid (Below.refl W0.heap.size W0)
  clear BP BD
  generalize hs : w.heap.size = s at *
  have KC := Lib.hid (fun W (k : Int) => pcar_any A1 A2 A3 A4 A5 A6 p.routes.length p.sv.length c1 c2 c3 c4 c5 c6 p.pv k W)
  have KS := Lib.hid (fun W (k : Int) => pstop_any A1 A2 A3 A4 A5 A6 p.routes.length p.sv.length c1 c2 c3 c4 c5 c6 p.pv k W)
  have KL := Lib.hid (fun W A cap l h hl => pstops_any A1 A2 A3 A4 A5 A6 p.routes.length p.sv.length c1 c2 c3 c4 c5 c6 p.pv A cap l W h hl)
  obtain ⟨e0, e1, e2⟩ := CD.out W0 HBr.out
  go_wp2_with (fail)
  go_loopw [14] (fun kv wr => ∃ k : Nat, k ≤ d.turns.length ∧ kv = .int .i64 k ∧ Hid ((d.turns.take k).all (turnThere p) = true) ∧ Hid (Below W0.heap.size W0 wr)) (fun kv _ => d.turns.length - (intOf kv).toNat)
  case atStart => exact ⟨0, Nat.zero_le _, rfl, Lib.hid (by simp), HBr⟩
  case round =>
    obtain ⟨k, hk, rfl, ha, hb⟩ := hrel
    clear e0 e1 e2
    by_cases hlt : k < d.turns.length
    · obtain ⟨BT0, o, eT, hBT, d0, d1, d2⟩ := HD.out.t.1.turn hlt
      obtain ⟨⟨Ax, cx, ex, hq1⟩, Ay, cy, ey, hq2⟩ := HD.out.t.2 _ (List.getElem_mem hlt)
      rw [ex] at d1
      rw [ey] at d2
      subst eT
      have HQ1 : Hid (Recs W0 1 num_ (.slice Ax d.turns[k].b.length cx) d.turns[k].b) := Lib.hid ⟨Ax, cx, rfl, hq1⟩
      have HQ2 : Hid (Recs W0 1 num_ (.slice Ay d.turns[k].a.length cy) d.turns[k].a) := Lib.hid ⟨Ay, cy, rfl, hq2⟩
      have hlb : d.turns[k].b.length ≤ 1000000 := (HD.out.nm _ (List.getElem_mem hlt)).1
      have hla : d.turns[k].a.length ≤ 1000000 := (HD.out.nm _ (List.getElem_mem hlt)).2
      have HT1 := Lib.hid (all_snoc (f := turnThere p) hlt)
      have HT2 : Hid (turnThere p d.turns[k] = false → thereP p d = false) := Lib.hid (fun h => by unfold thereP; rw [all_no hlt h]; rfl)
      have x0 : wr.cell? ⟨BT0, o + k * 3, none⟩ = some (.int .i64 d.turns[k].c) := by rw [hb.out.cell hBT]; exact d0
      have x1 : wr.cell? ⟨BT0, o + k * 3 + 1, none⟩ = some (.slice Ax d.turns[k].b.length cx) := by rw [hb.out.cell hBT]; exact d1
      have x2 : wr.cell? ⟨BT0, o + k * 3 + 2, none⟩ = some (.slice Ay d.turns[k].a.length cy) := by rw [hb.out.cell hBT]; exact d2
      clear d0 d1 d2 ex ey hq1 hq2
      generalize d.turns[k] = t at *
      have BT := Lib.hid (blk_new wr #[.int .i64 t.c, .slice Ax t.b.length cx, .slice Ay t.a.length cy] 40)
      have HBT := Lib.hid (hb.out.alloc hb.out.size (.cells #[.int .i64 t.c, .slice Ax t.b.length cx, .slice Ay t.a.length cy] 40))
      have HTT : Hid (turnThere p t = (carB p t.c && (stopsB p t.b && stopsB p t.a))) := Lib.hid rfl
      have KCt : Hid (∀ W, Calls Try.prog 49 #[.agg #[.slice A1 p.routes.length c1, .slice A2 p.sv.length c2, .slice A3 p.routes.length c3, .slice A4 p.routes.length c4, .slice A5 p.sv.length c5, .slice A6 p.routes.length c6, .int .i64 p.pv], .int .i64 t.c] W fun e w' => e = .returned (.bool (carB p t.c)) ∧ Below W.heap.size W w') := Lib.hid (fun W => KC.out W t.c)
      have KB : Hid (∀ W, Below W0.heap.size W0 W → Calls Try.prog 50 #[.agg #[.slice A1 p.routes.length c1, .slice A2 p.sv.length c2, .slice A3 p.routes.length c3, .slice A4 p.routes.length c4, .slice A5 p.sv.length c5, .slice A6 p.routes.length c6, .int .i64 p.pv], .slice Ax t.b.length cx] W fun e w' => e = .returned (.bool (stopsB p t.b)) ∧ Below W.heap.size W w') := Lib.hid (fun W hb => KL.out W Ax cx t.b (HQ1.out.below hb) hlb)
      have KA : Hid (∀ W, Below W0.heap.size W0 W → Calls Try.prog 50 #[.agg #[.slice A1 p.routes.length c1, .slice A2 p.sv.length c2, .slice A3 p.routes.length c3, .slice A4 p.routes.length c4, .slice A5 p.sv.length c5, .slice A6 p.routes.length c6, .int .i64 p.pv], .slice Ay t.a.length cy] W fun e w' => e = .returned (.bool (stopsB p t.a)) ∧ Below W.heap.size W w') := Lib.hid (fun W hb => KL.out W Ay cy t.a (HQ2.out.below hb) hla)
      generalize carB p t.c = r1 at *
      generalize stopsB p t.b = r2 at *
      generalize stopsB p t.a = r3 at *
      clear hb
      go_upto_region 4 with (fail)
      generalize wr.alloc (.cells #[.int .i64 t.c, .slice Ax t.b.length cx, .slice Ay t.a.length cy] 40) = wt at *
      generalize wr.heap.size = T at *
      clear x0 x1 x2
      obtain ⟨b0, b1, b2, b3, b4, b5, b6⟩ := CP.out _ HBT.out
      have t0 := BT.out.at0.1
      have t1 := BT.out.at1.1
      have t2 := BT.out.at2.1
      cases r1
      · go_wp2_with (go_at_call 49; fail)
        go_at_call 49
        refine (KCt.out wt).mono ?_
        rintro e w1 ⟨rfl, hbx⟩
        have HB1 : Hid (Below W0.heap.size W0 w1) := Lib.hid (HBT.out.trans (hbx.mono HBT.out.size))
        have Bw1 := Lib.hid (BT.out.below hbx)
        clear hbx b0 b1 b2 b3 b4 b5 b6 t0 t1 t2
        obtain ⟨b0, b1, b2, b3, b4, b5, b6⟩ := CP.out _ HB1.out
        have t0 := Bw1.out.at0.1
        have t1 := Bw1.out.at1.1
        have t2 := Bw1.out.at2.1
        have HF := Lib.hid (HT2.out (by rw [HTT.out]; rfl))
        have HBF : Hid (Below s w w1) := Lib.hid (W0B.out.trans (HB1.out.mono (by omega)))
        go_wp2_with (fail)
        go_ret
        exact ⟨by rw [HF.out]; rfl, by first | (rw [hs]; exact HBF.out) | exact HBF.out⟩
      · go_wp2_with (go_at_call 49; fail)
        go_at_call 49
        refine (KCt.out wt).mono ?_
        rintro e w1 ⟨rfl, hbx⟩
        have HB1 : Hid (Below W0.heap.size W0 w1) := Lib.hid (HBT.out.trans (hbx.mono HBT.out.size))
        have Bw1 := Lib.hid (BT.out.below hbx)
        clear hbx b0 b1 b2 b3 b4 b5 b6 t0 t1 t2
        obtain ⟨b0, b1, b2, b3, b4, b5, b6⟩ := CP.out _ HB1.out
        have t0 := Bw1.out.at0.1
        have t1 := Bw1.out.at1.1
        have t2 := Bw1.out.at2.1
        cases r2
        · go_wp2_with (go_at_call 50; fail)
          go_at_call 50
          refine (KB.out w1 HB1.out).mono ?_
          rintro e w2 ⟨rfl, hbx⟩
          have HB2 : Hid (Below W0.heap.size W0 w2) := Lib.hid (HB1.out.trans (hbx.mono HB1.out.size))
          have Bw2 := Lib.hid (Bw1.out.below hbx)
          clear hbx b0 b1 b2 b3 b4 b5 b6 t0 t1 t2
          obtain ⟨b0, b1, b2, b3, b4, b5, b6⟩ := CP.out _ HB2.out
          have t0 := Bw2.out.at0.1
          have t1 := Bw2.out.at1.1
          have t2 := Bw2.out.at2.1
          have HF := Lib.hid (HT2.out (by rw [HTT.out]; rfl))
          have HBF : Hid (Below s w w2) := Lib.hid (W0B.out.trans (HB2.out.mono (by omega)))
          go_wp2_with (fail)
          go_ret
          exact ⟨by rw [HF.out]; rfl, by first | (rw [hs]; exact HBF.out) | exact HBF.out⟩
        · go_wp2_with (go_at_call 50; fail)
          go_at_call 50
          refine (KB.out w1 HB1.out).mono ?_
          rintro e w2 ⟨rfl, hbx⟩
          have HB2 : Hid (Below W0.heap.size W0 w2) := Lib.hid (HB1.out.trans (hbx.mono HB1.out.size))
          have Bw2 := Lib.hid (Bw1.out.below hbx)
          clear hbx b0 b1 b2 b3 b4 b5 b6 t0 t1 t2
          obtain ⟨b0, b1, b2, b3, b4, b5, b6⟩ := CP.out _ HB2.out
          have t0 := Bw2.out.at0.1
          have t1 := Bw2.out.at1.1
          have t2 := Bw2.out.at2.1
          cases r3
          · go_wp2_with (go_at_call 50; fail)
            go_at_call 50
            refine (KA.out w2 HB2.out).mono ?_
            rintro e w3 ⟨rfl, hbx⟩
            have HB3 : Hid (Below W0.heap.size W0 w3) := Lib.hid (HB2.out.trans (hbx.mono HB2.out.size))
            have Bw3 := Lib.hid (Bw2.out.below hbx)
            clear hbx b0 b1 b2 b3 b4 b5 b6 t0 t1 t2
            obtain ⟨b0, b1, b2, b3, b4, b5, b6⟩ := CP.out _ HB3.out
            have t0 := Bw3.out.at0.1
            have t1 := Bw3.out.at1.1
            have t2 := Bw3.out.at2.1
            have HF := Lib.hid (HT2.out (by rw [HTT.out]; rfl))
            have HBF : Hid (Below s w w3) := Lib.hid (W0B.out.trans (HB3.out.mono (by omega)))
            go_wp2_with (fail)
            go_ret
            exact ⟨by rw [HF.out]; rfl, by first | (rw [hs]; exact HBF.out) | exact HBF.out⟩
          · go_wp2_with (go_at_call 50; fail)
            go_at_call 50
            refine (KA.out w2 HB2.out).mono ?_
            rintro e w3 ⟨rfl, hbx⟩
            have HB3 : Hid (Below W0.heap.size W0 w3) := Lib.hid (HB2.out.trans (hbx.mono HB2.out.size))
            have Bw3 := Lib.hid (Bw2.out.below hbx)
            clear hbx b0 b1 b2 b3 b4 b5 b6 t0 t1 t2
            obtain ⟨b0, b1, b2, b3, b4, b5, b6⟩ := CP.out _ HB3.out
            have t0 := Bw3.out.at0.1
            have t1 := Bw3.out.at1.1
            have t2 := Bw3.out.at2.1
            go_wp2_with (fail)
            go_roundw
            case rel => exact ⟨k + 1, by omega, by go_num, Lib.hid (by rw [HT1.out, ha.out, HTT.out]; rfl), HB3⟩
            case measure => simp [intOf]; omega
    · have HA : Hid (d.turns.all (turnThere p) = true) := Lib.hid (by have := ha.out; rwa [List.take_of_length_le (by omega)] at this)
      clear ha
      obtain ⟨e0, e1, e2⟩ := CD.out _ hb.out
      go_wp2_with (fail)
      go_loopw [41] (fun kv wr => ∃ k : Nat, k ≤ d.locks.length ∧ kv = .int .i64 k ∧ Hid ((d.locks.take k).all (holdIn p.sv.length 1) = true) ∧ Hid (Below W0.heap.size W0 wr)) (fun kv _ => d.locks.length - (intOf kv).toNat)
      case atStart => exact ⟨0, Nat.zero_le _, rfl, Lib.hid (by simp), hb⟩
      case round =>
        obtain ⟨k, hk, rfl, ha, hb⟩ := hrel
        clear e0 e1 e2
        by_cases hlt : k < d.locks.length
        · obtain ⟨BT0, o, eT, hBT, d0, d1, d2⟩ := HD.out.l.hold hlt
          subst eT
          have HT1 := Lib.hid (all_snoc (f := holdIn p.sv.length 1) hlt)
          have HT2 : Hid (holdIn p.sv.length 1 d.locks[k] = false → thereP p d = false) := Lib.hid (fun h => by unfold thereP; rw [all_no hlt h]; simp)
          have x0 : wr.cell? ⟨BT0, o + k * 3, none⟩ = some (.int .i64 d.locks[k].n) := by rw [hb.out.cell hBT]; exact d0
          have x1 : wr.cell? ⟨BT0, o + k * 3 + 1, none⟩ = some (.int .i64 d.locks[k].b) := by rw [hb.out.cell hBT]; exact d1
          have x2 : wr.cell? ⟨BT0, o + k * 3 + 2, none⟩ = some (.int .i64 d.locks[k].a) := by rw [hb.out.cell hBT]; exact d2
          clear d0 d1 d2
          generalize d.locks[k] = h at *
          have BT := Lib.hid (blk_new wr #[.int .i64 h.n, .int .i64 h.b, .int .i64 h.a] 43)
          have HBT := Lib.hid (hb.out.alloc hb.out.size (.cells #[.int .i64 h.n, .int .i64 h.b, .int .i64 h.a] 43))
          have KX : Hid (Calls Try.prog 30 #[.agg #[.slice A1 p.routes.length c1, .slice A2 p.sv.length c2, .slice A3 p.routes.length c3, .slice A4 p.routes.length c4, .slice A5 p.sv.length c5, .slice A6 p.routes.length c6, .int .i64 p.pv], .int .i64 h.n] (wr.alloc (.cells #[.int .i64 h.n, .int .i64 h.b, .int .i64 h.a] 43)) fun e w' => e = .returned (.bool (holdIn p.sv.length 1 h)) ∧ Below (wr.alloc (.cells #[.int .i64 h.n, .int .i64 h.b, .int .i64 h.a] 43)).heap.size (wr.alloc (.cells #[.int .i64 h.n, .int .i64 h.b, .int .i64 h.a] 43)) w') := Lib.hid (KS.out _ h.n)
          generalize holdIn p.sv.length 1 h = r1 at *
          clear hb
          go_upto_region 10 with (fail)
          generalize wr.alloc (.cells #[.int .i64 h.n, .int .i64 h.b, .int .i64 h.a] 43) = wt at *
          generalize wr.heap.size = T at *
          clear x0 x1 x2
          obtain ⟨b0, b1, b2, b3, b4, b5, b6⟩ := CP.out _ HBT.out
          have t0 := BT.out.at0.1
          have t1 := BT.out.at1.1
          have t2 := BT.out.at2.1
          cases r1
          · go_wp2_with (go_at_call 30; fail)
            go_at_call 30
            refine KX.out.mono ?_
            rintro e w1 ⟨rfl, hbx⟩
            have HB1 : Hid (Below W0.heap.size W0 w1) := Lib.hid (HBT.out.trans (hbx.mono HBT.out.size))
            clear hbx
            have HF := Lib.hid (HT2.out (by simp))
            have HBF : Hid (Below s w w1) := Lib.hid (W0B.out.trans (HB1.out.mono (by omega)))
            go_wp2_with (fail)
            go_ret
            exact ⟨by rw [HF.out]; rfl, by first | (rw [hs]; exact HBF.out) | exact HBF.out⟩
          · go_wp2_with (go_at_call 30; fail)
            go_at_call 30
            refine KX.out.mono ?_
            rintro e w1 ⟨rfl, hbx⟩
            have HB1 : Hid (Below W0.heap.size W0 w1) := Lib.hid (HBT.out.trans (hbx.mono HBT.out.size))
            clear hbx
            go_wp2_with (fail)
            go_roundw
            case rel => exact ⟨k + 1, by omega, by go_num, Lib.hid (by rw [HT1.out, ha.out]; rfl), HB1⟩
            case measure => simp [intOf]; omega
        · have HA2 : Hid (d.locks.all (holdIn p.sv.length 1) = true) := Lib.hid (by have := ha.out; rwa [List.take_of_length_le (by omega)] at this)
          clear ha
          obtain ⟨e0, e1, e2⟩ := CD.out _ hb.out
          go_wp2_with (fail)
          go_loopw [54] (fun kv wr => ∃ k : Nat, k ≤ d.ices.length ∧ kv = .int .i64 k ∧ Hid ((d.ices.take k).all (holdIn p.routes.length 0) = true) ∧ Hid (Below W0.heap.size W0 wr)) (fun kv _ => d.ices.length - (intOf kv).toNat)
          case atStart => exact ⟨0, Nat.zero_le _, rfl, Lib.hid (by simp), hb⟩
          case round =>
            obtain ⟨k, hk, rfl, ha, hb⟩ := hrel
            clear e0 e1 e2
            by_cases hlt : k < d.ices.length
            · obtain ⟨BT0, o, eT, hBT, d0, d1, d2⟩ := HD.out.i.hold hlt
              subst eT
              have HT1 := Lib.hid (all_snoc (f := holdIn p.routes.length 0) hlt)
              have HT2 : Hid (holdIn p.routes.length 0 d.ices[k] = false → thereP p d = false) := Lib.hid (fun h => by unfold thereP; rw [all_no hlt h]; simp)
              have x0 : wr.cell? ⟨BT0, o + k * 3, none⟩ = some (.int .i64 d.ices[k].n) := by rw [hb.out.cell hBT]; exact d0
              have x1 : wr.cell? ⟨BT0, o + k * 3 + 1, none⟩ = some (.int .i64 d.ices[k].b) := by rw [hb.out.cell hBT]; exact d1
              have x2 : wr.cell? ⟨BT0, o + k * 3 + 2, none⟩ = some (.int .i64 d.ices[k].a) := by rw [hb.out.cell hBT]; exact d2
              clear d0 d1 d2
              generalize d.ices[k] = h at *
              have BT := Lib.hid (blk_new wr #[.int .i64 h.n, .int .i64 h.b, .int .i64 h.a] 43)
              have HBT := Lib.hid (hb.out.alloc hb.out.size (.cells #[.int .i64 h.n, .int .i64 h.b, .int .i64 h.a] 43))
              have KX : Hid (Calls Try.prog 49 #[.agg #[.slice A1 p.routes.length c1, .slice A2 p.sv.length c2, .slice A3 p.routes.length c3, .slice A4 p.routes.length c4, .slice A5 p.sv.length c5, .slice A6 p.routes.length c6, .int .i64 p.pv], .int .i64 h.n] (wr.alloc (.cells #[.int .i64 h.n, .int .i64 h.b, .int .i64 h.a] 43)) fun e w' => e = .returned (.bool (holdIn p.routes.length 0 h)) ∧ Below (wr.alloc (.cells #[.int .i64 h.n, .int .i64 h.b, .int .i64 h.a] 43)).heap.size (wr.alloc (.cells #[.int .i64 h.n, .int .i64 h.b, .int .i64 h.a] 43)) w') := Lib.hid (KC.out _ h.n)
              generalize holdIn p.routes.length 0 h = r1 at *
              clear hb
              go_upto_region 16 with (fail)
              generalize wr.alloc (.cells #[.int .i64 h.n, .int .i64 h.b, .int .i64 h.a] 43) = wt at *
              generalize wr.heap.size = T at *
              clear x0 x1 x2
              obtain ⟨b0, b1, b2, b3, b4, b5, b6⟩ := CP.out _ HBT.out
              have t0 := BT.out.at0.1
              have t1 := BT.out.at1.1
              have t2 := BT.out.at2.1
              cases r1
              · go_wp2_with (go_at_call 49; fail)
                go_at_call 49
                refine KX.out.mono ?_
                rintro e w1 ⟨rfl, hbx⟩
                have HB1 : Hid (Below W0.heap.size W0 w1) := Lib.hid (HBT.out.trans (hbx.mono HBT.out.size))
                clear hbx
                have HF := Lib.hid (HT2.out (by simp))
                have HBF : Hid (Below s w w1) := Lib.hid (W0B.out.trans (HB1.out.mono (by omega)))
                go_wp2_with (fail)
                go_ret
                exact ⟨by rw [HF.out]; rfl, by first | (rw [hs]; exact HBF.out) | exact HBF.out⟩
              · go_wp2_with (go_at_call 49; fail)
                go_at_call 49
                refine KX.out.mono ?_
                rintro e w1 ⟨rfl, hbx⟩
                have HB1 : Hid (Below W0.heap.size W0 w1) := Lib.hid (HBT.out.trans (hbx.mono HBT.out.size))
                clear hbx
                go_wp2_with (fail)
                go_roundw
                case rel => exact ⟨k + 1, by omega, by go_num, Lib.hid (by rw [HT1.out, ha.out]; rfl), HB1⟩
                case measure => simp [intOf]; omega
            · have HF : Hid (thereP p d = true) := Lib.hid (by unfold thereP; have := ha.out; rw [List.take_of_length_le (by omega)] at this; rw [HA.out, HA2.out, this]; rfl)
              clear ha
              have HBF : Hid (Below s w wr) := Lib.hid (W0B.out.trans (hb.out.mono (by omega)))
              go_wp2_with (fail)
              go_ret
              exact ⟨by rw [HF.out]; rfl, by first | (rw [hs]; exact HBF.out) | exact HBF.out⟩
end Go.Proofs.Ytpccoflebfblbaa
namespace Go.Proofs.Ytpccoflebfblbaa
open Go.RowKit
set_option linter.unusedSimpArgs false
set_option linter.unusedVariables false

set_option maxRecDepth 100000 in
set_option maxHeartbeats 8000000 in
theorem pasit_any (A1 A2 A3 A4 A5 A6 : Option Addr) (c1 c2 c3 c4 c5 c6 : Nat) (p : PlanP) (At Al Ai : Option Addr) (ct cl ci : Nat) (d : Edit) (w : World) (hp : PIn w A1 A2 A3 A4 A5 A6 c1 c2 c3 c4 c5 c6 p) (hd : EditIn w At Al Ai ct cl ci d) (hth : thereP p d = true) :
    Calls Try.prog 25 #[.agg #[.slice A1 p.routes.length c1, .slice A2 p.sv.length c2, .slice A3 p.routes.length c3, .slice A4 p.routes.length c4, .slice A5 p.sv.length c5, .slice A6 p.routes.length c6, .int .i64 p.pv], .agg #[.slice At d.turns.length ct, .slice Al d.locks.length cl, .slice Ai d.ices.length ci]] w fun e w' => e = .returned (.bool (applySame p d)) ∧ Below w.heap.size w w' := by
  have TH : Hid (d.turns.all (turnThere p) = true ∧ d.locks.all (holdIn p.sv.length 1) = true ∧ d.ices.all (holdIn p.routes.length 0) = true) := Lib.hid (by
    unfold thereP at hth
    simpa only [Bool.and_eq_true] using hth)
  clear hth
  have W0B : Hid (Below w.heap.size w ((w.alloc (.cells #[.slice A1 p.routes.length c1, .slice A2 p.sv.length c2, .slice A3 p.routes.length c3, .slice A4 p.routes.length c4, .slice A5 p.sv.length c5, .slice A6 p.routes.length c6, .int .i64 p.pv] 34)).alloc (.cells #[.slice At d.turns.length ct, .slice Al d.locks.length cl, .slice Ai d.ices.length ci] 46))) := Lib.hid (((Below.refl _ _).alloc (Nat.le_refl _) _).alloc (by simp) _)
  have BP : Hid (Blk ((w.alloc (.cells #[.slice A1 p.routes.length c1, .slice A2 p.sv.length c2, .slice A3 p.routes.length c3, .slice A4 p.routes.length c4, .slice A5 p.sv.length c5, .slice A6 p.routes.length c6, .int .i64 p.pv] 34)).alloc (.cells #[.slice At d.turns.length ct, .slice Al d.locks.length cl, .slice Ai d.ices.length ci] 46)) w.heap.size #[.slice A1 p.routes.length c1, .slice A2 p.sv.length c2, .slice A3 p.routes.length c3, .slice A4 p.routes.length c4, .slice A5 p.sv.length c5, .slice A6 p.routes.length c6, .int .i64 p.pv].toList) := Lib.hid ((blk_new w _ _).alloc _)
  have BD : Hid (Blk ((w.alloc (.cells #[.slice A1 p.routes.length c1, .slice A2 p.sv.length c2, .slice A3 p.routes.length c3, .slice A4 p.routes.length c4, .slice A5 p.sv.length c5, .slice A6 p.routes.length c6, .int .i64 p.pv] 34)).alloc (.cells #[.slice At d.turns.length ct, .slice Al d.locks.length cl, .slice Ai d.ices.length ci] 46)) (w.heap.size + 1) #[.slice At d.turns.length ct, .slice Al d.locks.length cl, .slice Ai d.ices.length ci].toList) := Lib.hid (blk_at (w := w.alloc _) #[.slice At d.turns.length ct, .slice Al d.locks.length cl, .slice Ai d.ices.length ci] 46 (by simp))
  have HP := Lib.hid (hp.below W0B.out)
  have HD := Lib.hid (hd.below W0B.out)
  have hnr := hp.fit.routes
  have hns := hp.fit.sv
  have hnt := hd.nt
  have hnl := hd.nl
  have hni := hd.ni
  clear hp hd
  go_enter Try.func25, Try.ntmps25
  go_upto_region 1 with (fail)
  generalize ((w.alloc (.cells #[.slice A1 p.routes.length c1, .slice A2 p.sv.length c2, .slice A3 p.routes.length c3, .slice A4 p.routes.length c4, .slice A5 p.sv.length c5, .slice A6 p.routes.length c6, .int .i64 p.pv] 34)).alloc (.cells #[.slice At d.turns.length ct, .slice Al d.locks.length cl, .slice Ai d.ices.length ci] 46)) = W0 at *
  have hW0 : w.heap.size + 1 < W0.heap.size := BD.out.1
  have CP : Hid (∀ W, Below W0.heap.size W0 W → W.cell? ⟨w.heap.size, 0, none⟩ = some (.slice A1 p.routes.length c1) ∧ W.cell? ⟨w.heap.size, 1, none⟩ = some (.slice A2 p.sv.length c2) ∧ W.cell? ⟨w.heap.size, 2, none⟩ = some (.slice A3 p.routes.length c3) ∧ W.cell? ⟨w.heap.size, 3, none⟩ = some (.slice A4 p.routes.length c4) ∧ W.cell? ⟨w.heap.size, 4, none⟩ = some (.slice A5 p.sv.length c5) ∧ W.cell? ⟨w.heap.size, 5, none⟩ = some (.slice A6 p.routes.length c6) ∧ W.cell? ⟨w.heap.size, 6, none⟩ = some (.int .i64 p.pv)) := Lib.hid (fun W hb => by
    have B := BP.out.below hb
    exact ⟨(B.2 0 (by simp)).1, (B.2 1 (by simp)).1, (B.2 2 (by simp)).1, (B.2 3 (by simp)).1, (B.2 4 (by simp)).1, (B.2 5 (by simp)).1, (B.2 6 (by simp)).1⟩)
  have CD : Hid (∀ W, Below W0.heap.size W0 W → W.cell? ⟨w.heap.size + 1, 0, none⟩ = some (.slice At d.turns.length ct) ∧ W.cell? ⟨w.heap.size + 1, 1, none⟩ = some (.slice Al d.locks.length cl) ∧ W.cell? ⟨w.heap.size + 1, 2, none⟩ = some (.slice Ai d.ices.length ci)) := Lib.hid (fun W hb => by
    have B := BD.out.below hb
    exact ⟨(B.2 0 (by simp)).1, (B.2 1 (by simp)).1, (B.2 2 (by simp)).1⟩)
  have HBr := Lib.hid (Below.refl W0.heap.size W0)
  clear BP BD
  generalize hs : w.heap.size = s at *
  have KE := Lib.hid (fun (W : World) (A1 A2 : Option Addr) (c1 c2 : Nat) (a b : List Int) (h1 : Recs W 1 num_ (.slice A1 a.length c1) a) (h2 : Recs W 1 num_ (.slice A2 b.length c2) b) (hl : a.length ≤ 1099511627776) (hm : b.length ≤ 1099511627776) => equal_own A1 A2 c1 c2 a b W h1 h2 hl hm)
  obtain ⟨e0, e1, e2⟩ := CD.out W0 HBr.out
  go_wp2_with (fail)
  go_loopw [14] (fun kv wr => ∃ k : Nat, k ≤ d.turns.length ∧ kv = .int .i64 k ∧ Hid ((d.turns.take k).all (turnSame p) = true) ∧ Hid (Below W0.heap.size W0 wr)) (fun kv _ => d.turns.length - (intOf kv).toNat)
  case atStart => exact ⟨0, Nat.zero_le _, rfl, Lib.hid (by simp), HBr⟩
  case round =>
    obtain ⟨k, hk, rfl, ha, hb⟩ := hrel
    clear e0 e1 e2
    by_cases hlt : k < d.turns.length
    · obtain ⟨BT0, o, eT, hBT, d0, d1, d2⟩ := HD.out.t.1.turn hlt
      obtain ⟨⟨Ax, cx, ex, hq1⟩, Ay, cy, ey, hq2⟩ := HD.out.t.2 _ (List.getElem_mem hlt)
      rw [ex] at d1
      rw [ey] at d2
      subst eT
      have HQ1 : Hid (Recs W0 1 num_ (.slice Ax d.turns[k].b.length cx) d.turns[k].b) := Lib.hid ⟨Ax, cx, rfl, hq1⟩
      have HQ2 : Hid (Recs W0 1 num_ (.slice Ay d.turns[k].a.length cy) d.turns[k].a) := Lib.hid ⟨Ay, cy, rfl, hq2⟩
      have hlb : d.turns[k].b.length ≤ 1000000 := (HD.out.nm _ (List.getElem_mem hlt)).1
      have hla : d.turns[k].a.length ≤ 1000000 := (HD.out.nm _ (List.getElem_mem hlt)).2
      have HT1 := Lib.hid (all_snoc (f := turnSame p) hlt)
      have HT2 : Hid (turnSame p d.turns[k] = false → applySame p d = false) := Lib.hid (fun h => by unfold applySame; rw [all_no hlt h]; rfl)
      have HT3 : Hid (turnThere p d.turns[k] = true) := Lib.hid (List.all_eq_true.1 TH.out.1 _ (List.getElem_mem hlt))
      have x0 : wr.cell? ⟨BT0, o + k * 3, none⟩ = some (.int .i64 d.turns[k].c) := by rw [hb.out.cell hBT]; exact d0
      have x1 : wr.cell? ⟨BT0, o + k * 3 + 1, none⟩ = some (.slice Ax d.turns[k].b.length cx) := by rw [hb.out.cell hBT]; exact d1
      have x2 : wr.cell? ⟨BT0, o + k * 3 + 2, none⟩ = some (.slice Ay d.turns[k].a.length cy) := by rw [hb.out.cell hBT]; exact d2
      clear d0 d1 d2 ex ey hq1 hq2
      generalize d.turns[k] = t at *
      have BT := Lib.hid (blk_new wr #[.int .i64 t.c, .slice Ax t.b.length cx, .slice Ay t.a.length cy] 40)
      have HBT := Lib.hid (hb.out.alloc hb.out.size (.cells #[.int .i64 t.c, .slice Ax t.b.length cx, .slice Ay t.a.length cy] 40))
      clear hb
      go_upto_region 4 with (fail)
      generalize wr.alloc (.cells #[.int .i64 t.c, .slice Ax t.b.length cx, .slice Ay t.a.length cy] 40) = wt at *
      generalize wr.heap.size = T at *
      clear x0 x1 x2
      have hcar : 0 ≤ t.c ∧ t.c < (p.routes.length : Int) := by
        have := HT3.out
        simp only [turnThere, Bool.and_eq_true, carB, decide_eq_true_eq] at this
        exact this.1
      obtain ⟨cn, hcn⟩ : ∃ cn : Nat, t.c = (cn : Int) := ⟨t.c.toNat, by omega⟩
      have hcl : cn < p.routes.length := by omega
      have hcl2 : (cn : Int) < (p.routes.length : Int) := by omega
      have HCN := Lib.hid hcn
      obtain ⟨b0, b1, b2, b3, b4, b5, b6⟩ := CP.out _ HBT.out
      have t0 := BT.out.at0.1
      have t1 := BT.out.at1.1
      rw [hcn] at t0
      clear hcar hcn
      obtain ⟨B1, o1, Ar, cr, rfl, hB1, d0, hrr⟩ := trav_at HP.out.r hcl
      have HSM : Hid (turnSame p t = decide (p.routes[cn] = t.b)) := Lib.hid (by unfold turnSame; rw [HCN.out]; simp [hcl])
      have HRL : p.routes[cn].length ≤ 1000 := (HP.out.fit.route _ (List.getElem_mem hcl)).1
      have HRR := Lib.hid hrr
      have q3 : wt.cell? ⟨B1, o1 + cn, none⟩ = some (.slice Ar p.routes[cn].length cr) := by rw [HBT.out.cell hB1]; exact d0
      clear d0 hrr
      generalize p.routes[cn] = r at *
      refine wp_region_z (S := (fun W => W.cell? ⟨s, 0, none⟩ = some (.slice (some ⟨B1, o1, none⟩) p.routes.length c1) ∧ W.cell? ⟨T, 0, none⟩ = some (.int .i64 (cn : Int)) ∧ W.cell? ⟨T, 1, none⟩ = some (.slice Ax t.b.length cx) ∧ W.cell? ⟨B1, o1 + cn, none⟩ = some (.slice Ar r.length cr))) (z := 10) (by kernel_rfl) ⟨b0, t0, t1, q3⟩ (fun hH => ?_)
      refine wpAnyZ_takeS (i := 0) (v := ?_) rfl (by kernel_rfl) (by kernel_rfl) (by kernel_rfl) (by kernel_rfl) (fun _ _ _ h => h) (gives_value (by rfl) ?_) (by assumption) ?_
      rotate_left
      · intro w hSw
        obtain ⟨q0, q1, q2, q3⟩ := hSw
        go_simp
        (try with_reducible rfl)
      (try simp only [putAll, Act.put, List.getElem_toArray, List.getElem_cons_succ, List.getElem_cons_zero, List.setIfInBounds_toArray, List.set_cons_zero, List.set_cons_succ])
      refine wpAnyZ_takeS (i := 1) (v := ?_) rfl (by kernel_rfl) (by kernel_rfl) (by kernel_rfl) (by kernel_rfl) (fun _ _ _ h => h) (gives_value (by rfl) ?_) (by assumption) ?_
      rotate_left
      · intro w hSw
        obtain ⟨q0, q1, q2, q3⟩ := hSw
        go_simp
        (try with_reducible rfl)
      (try simp only [putAll, Act.put, List.getElem_toArray, List.getElem_cons_succ, List.getElem_cons_zero, List.setIfInBounds_toArray, List.set_cons_zero, List.set_cons_succ])
      refine wpAnyZ_takeS (i := 2) (v := ?_) rfl (by kernel_rfl) (by kernel_rfl) (by kernel_rfl) (by kernel_rfl) (fun _ _ _ h => h) (gives_value (by rfl) ?_) (by assumption) ?_
      rotate_left
      · intro w hSw
        obtain ⟨q0, q1, q2, q3⟩ := hSw
        go_simp
        (try with_reducible rfl)
      (try simp only [putAll, Act.put, List.getElem_toArray, List.getElem_cons_succ, List.getElem_cons_zero, List.setIfInBounds_toArray, List.set_cons_zero, List.set_cons_succ])
      refine wpAnyZ_takeS (i := 3) (v := ?_) rfl (by kernel_rfl) (by kernel_rfl) (by kernel_rfl) (by kernel_rfl) (fun _ _ _ h => h) (gives_value (by rfl) ?_) (by assumption) ?_
      rotate_left
      · intro w hSw
        obtain ⟨q0, q1, q2, q3⟩ := hSw
        go_simp
        (try with_reducible rfl)
      (try simp only [putAll, Act.put, List.getElem_toArray, List.getElem_cons_succ, List.getElem_cons_zero, List.setIfInBounds_toArray, List.set_cons_zero, List.set_cons_succ])
      refine wpAnyZ_takeS (i := 4) (v := ?_) rfl (by kernel_rfl) (by kernel_rfl) (by kernel_rfl) (by kernel_rfl) (fun _ _ _ h => h) (gives_value (by rfl) ?_) (by assumption) ?_
      rotate_left
      · intro w hSw
        obtain ⟨q0, q1, q2, q3⟩ := hSw
        go_simp
        (try with_reducible rfl)
      (try simp only [putAll, Act.put, List.getElem_toArray, List.getElem_cons_succ, List.getElem_cons_zero, List.setIfInBounds_toArray, List.set_cons_zero, List.set_cons_succ])
      refine wpAnyZ_takeS (i := 5) (v := ?_) rfl (by kernel_rfl) (by kernel_rfl) (by kernel_rfl) (by kernel_rfl) (fun _ _ _ h => h) (gives_value (by rfl) ?_) (by assumption) ?_
      rotate_left
      · intro w hSw
        obtain ⟨q0, q1, q2, q3⟩ := hSw
        go_simp
        (try with_reducible rfl)
      (try simp only [putAll, Act.put, List.getElem_toArray, List.getElem_cons_succ, List.getElem_cons_zero, List.setIfInBounds_toArray, List.set_cons_zero, List.set_cons_succ])
      refine wpAnyZ_takeS (i := 6) (v := ?_) rfl (by kernel_rfl) (by kernel_rfl) (by kernel_rfl) (by kernel_rfl) (fun _ _ _ h => h) (gives_value (by rfl) ?_) (by assumption) ?_
      rotate_left
      · intro w hSw
        obtain ⟨q0, q1, q2, q3⟩ := hSw
        go_simp
        (try with_reducible rfl)
      (try simp only [putAll, Act.put, List.getElem_toArray, List.getElem_cons_succ, List.getElem_cons_zero, List.setIfInBounds_toArray, List.set_cons_zero, List.set_cons_succ])
      refine wpAnyZ_takeS (i := 7) (v := ?_) rfl (by kernel_rfl) (by kernel_rfl) (by kernel_rfl) (by kernel_rfl) (fun _ _ _ h => h) (gives_value (by rfl) ?_) (by assumption) ?_
      rotate_left
      · intro w hSw
        obtain ⟨q0, q1, q2, q3⟩ := hSw
        go_simp
        (try with_reducible rfl)
      (try simp only [putAll, Act.put, List.getElem_toArray, List.getElem_cons_succ, List.getElem_cons_zero, List.setIfInBounds_toArray, List.set_cons_zero, List.set_cons_succ])
      refine wpAnyZ_one (i := 8) (by kernel_rfl) ?_
      refine zstep rfl (fun K hK => ?_)
      refine step_call (by rfl) (by go_simp) ((KE.out wt.drew Ar Ax cr cx r t.b (HRR.out.below HBT.out.drew) (HQ1.out.below HBT.out.drew) (by omega) (by omega)).mono ?_)
      rintro e wq ⟨rfl, n, rfl⟩
      refine ⟨_, rfl, ?_⟩
      refine hK.out _ _ (fun _ => hH) (fun hH2 => ?_)
      replace hH2 := hH2 (by decide)
      clear hK K
      (try simp only [putAll, Act.put, List.getElem_toArray, List.getElem_cons_succ, List.getElem_cons_zero, List.setIfInBounds_toArray, List.set_cons_zero, List.set_cons_succ])
      refine wpAnyZ_takeS (i := 9) (v := ?_) rfl (by kernel_rfl) (by kernel_rfl) (by kernel_rfl) (by kernel_rfl) (fun _ _ _ h => h) (gives_value (by rfl) ?_) (by assumption) ?_
      rotate_left
      · intro w hSw
        skip
        go_simp
        (try with_reducible rfl)
      (try simp only [putAll, Act.put, List.getElem_toArray, List.getElem_cons_succ, List.getElem_cons_zero, List.setIfInBounds_toArray, List.set_cons_zero, List.set_cons_succ])
      refine wpAnyZ_done (by kernel_rfl) ?_ _
      clear hH hH2
      have HBQ : Hid (Below W0.heap.size W0 (wt.drew.drewN n)) := Lib.hid (below_draws HBT.out.drew n)
      rw [← HSM.out]
      generalize wt.drew.drewN n = wq at *
      cases hsm : turnSame p t
      · have HF := Lib.hid (HT2.out hsm)
        have HBF : Hid (Below s w wq) := Lib.hid (W0B.out.trans (HBQ.out.mono (by omega)))
        go_wp2_with (fail)
        go_ret
        exact ⟨by rw [HF.out]; rfl, by first | (rw [hs]; exact HBF.out) | exact HBF.out⟩
      · have HSS := Lib.hid hsm
        clear hsm
        go_wp2_with (fail)
        go_roundw
        case rel => exact ⟨k + 1, by omega, by go_num, Lib.hid (by rw [HT1.out, ha.out, HSS.out]; rfl), HBQ⟩
        case measure => simp [intOf]; omega
    · have HA : Hid (d.turns.all (turnSame p) = true) := Lib.hid (by have := ha.out; rwa [List.take_of_length_le (by omega)] at this)
      clear ha
      obtain ⟨e0, e1, e2⟩ := CD.out _ hb.out
      go_wp2_with (fail)
      go_loopw [32] (fun kv wr => ∃ k : Nat, k ≤ d.locks.length ∧ kv = .int .i64 k ∧ Hid ((d.locks.take k).all (holdSame p.lock) = true) ∧ Hid (Below W0.heap.size W0 wr)) (fun kv _ => d.locks.length - (intOf kv).toNat)
      case atStart => exact ⟨0, Nat.zero_le _, rfl, Lib.hid (by simp), hb⟩
      case round =>
        obtain ⟨k, hk, rfl, ha, hb⟩ := hrel
        clear e0 e1 e2
        by_cases hlt : k < d.locks.length
        · obtain ⟨BT0, o, eT, hBT, d0, d1, d2⟩ := HD.out.l.hold hlt
          subst eT
          have HT1 := Lib.hid (all_snoc (f := holdSame p.lock) hlt)
          have HT2 : Hid (holdSame p.lock d.locks[k] = false → applySame p d = false) := Lib.hid (fun h => by unfold applySame; rw [all_no hlt h]; simp)
          have HT3 : Hid (holdIn p.sv.length 1 d.locks[k] = true) := Lib.hid (List.all_eq_true.1 TH.out.2.1 _ (List.getElem_mem hlt))
          have x0 : wr.cell? ⟨BT0, o + k * 3, none⟩ = some (.int .i64 d.locks[k].n) := by rw [hb.out.cell hBT]; exact d0
          have x1 : wr.cell? ⟨BT0, o + k * 3 + 1, none⟩ = some (.int .i64 d.locks[k].b) := by rw [hb.out.cell hBT]; exact d1
          have x2 : wr.cell? ⟨BT0, o + k * 3 + 2, none⟩ = some (.int .i64 d.locks[k].a) := by rw [hb.out.cell hBT]; exact d2
          clear d0 d1 d2
          generalize d.locks[k] = h at *
          have BT := Lib.hid (blk_new wr #[.int .i64 h.n, .int .i64 h.b, .int .i64 h.a] 43)
          have HBT := Lib.hid (hb.out.alloc hb.out.size (.cells #[.int .i64 h.n, .int .i64 h.b, .int .i64 h.a] 43))
          clear hb
          go_upto_region 10 with (fail)
          generalize wr.alloc (.cells #[.int .i64 h.n, .int .i64 h.b, .int .i64 h.a] 43) = wt at *
          generalize wr.heap.size = T at *
          clear x0 x1 x2
          have hin : 1 ≤ h.n ∧ h.n < (p.sv.length : Int) := by
            have := HT3.out
            simpa only [holdIn, decide_eq_true_eq] using this
          obtain ⟨cn, hcn⟩ : ∃ cn : Nat, h.n = (cn : Int) := ⟨h.n.toNat, by omega⟩
          have hcl : cn < p.sv.length := by omega
          have hcl2 : (cn : Int) < (p.sv.length : Int) := by omega
          have HCN := Lib.hid hcn
          obtain ⟨b0, b1, b2, b3, b4, b5, b6⟩ := CP.out _ HBT.out
          have t0 := BT.out.at0.1
          have t1 := BT.out.at1.1
          rw [hcn] at t0
          clear hin hcn
          obtain ⟨B1, o1, rfl, hB1, d0⟩ := HP.out.lock_at hcl
          have HSM : Hid (holdSame p.lock h = decide (p.lock.getD cn 0 = h.b)) := Lib.hid (by unfold holdSame; rw [HCN.out]; simp)
          have q3 : wt.cell? ⟨B1, o1 + cn, none⟩ = some (.int .i64 (p.lock.getD cn 0)) := by rw [HBT.out.cell hB1]; exact d0
          clear d0
          generalize p.lock.getD cn 0 = x at *
          refine wp_region_z (S := (fun W => W.cell? ⟨s, 1, none⟩ = some (.slice (some ⟨B1, o1, none⟩) p.sv.length c2) ∧ W.cell? ⟨T, 0, none⟩ = some (.int .i64 (cn : Int)) ∧ W.cell? ⟨T, 1, none⟩ = some (.int .i64 h.b) ∧ W.cell? ⟨B1, o1 + cn, none⟩ = some (.int .i64 x))) (z := 9) (by kernel_rfl) ⟨b1, t0, t1, q3⟩ (fun hH => ?_)
          refine wpAnyZ_takeS (i := 0) (v := ?_) rfl (by kernel_rfl) (by kernel_rfl) (by kernel_rfl) (by kernel_rfl) (fun _ _ _ h => h) (gives_value (by rfl) ?_) (by assumption) ?_
          rotate_left
          · intro w hSw
            obtain ⟨q0, q1, q2, q3⟩ := hSw
            go_simp
            (try with_reducible rfl)
          (try simp only [putAll, Act.put, List.getElem_toArray, List.getElem_cons_succ, List.getElem_cons_zero, List.setIfInBounds_toArray, List.set_cons_zero, List.set_cons_succ])
          refine wpAnyZ_takeS (i := 1) (v := ?_) rfl (by kernel_rfl) (by kernel_rfl) (by kernel_rfl) (by kernel_rfl) (fun _ _ _ h => h) (gives_value (by rfl) ?_) (by assumption) ?_
          rotate_left
          · intro w hSw
            obtain ⟨q0, q1, q2, q3⟩ := hSw
            go_simp
            (try with_reducible rfl)
          (try simp only [putAll, Act.put, List.getElem_toArray, List.getElem_cons_succ, List.getElem_cons_zero, List.setIfInBounds_toArray, List.set_cons_zero, List.set_cons_succ])
          refine wpAnyZ_takeS (i := 2) (v := ?_) rfl (by kernel_rfl) (by kernel_rfl) (by kernel_rfl) (by kernel_rfl) (fun _ _ _ h => h) (gives_value (by rfl) ?_) (by assumption) ?_
          rotate_left
          · intro w hSw
            obtain ⟨q0, q1, q2, q3⟩ := hSw
            go_simp
            (try with_reducible rfl)
          (try simp only [putAll, Act.put, List.getElem_toArray, List.getElem_cons_succ, List.getElem_cons_zero, List.setIfInBounds_toArray, List.set_cons_zero, List.set_cons_succ])
          refine wpAnyZ_takeS (i := 3) (v := ?_) rfl (by kernel_rfl) (by kernel_rfl) (by kernel_rfl) (by kernel_rfl) (fun _ _ _ h => h) (gives_value (by rfl) ?_) (by assumption) ?_
          rotate_left
          · intro w hSw
            obtain ⟨q0, q1, q2, q3⟩ := hSw
            go_simp
            (try with_reducible rfl)
          (try simp only [putAll, Act.put, List.getElem_toArray, List.getElem_cons_succ, List.getElem_cons_zero, List.setIfInBounds_toArray, List.set_cons_zero, List.set_cons_succ])
          refine wpAnyZ_takeS (i := 4) (v := ?_) rfl (by kernel_rfl) (by kernel_rfl) (by kernel_rfl) (by kernel_rfl) (fun _ _ _ h => h) (gives_value (by rfl) ?_) (by assumption) ?_
          rotate_left
          · intro w hSw
            obtain ⟨q0, q1, q2, q3⟩ := hSw
            go_simp
            (try with_reducible rfl)
          (try simp only [putAll, Act.put, List.getElem_toArray, List.getElem_cons_succ, List.getElem_cons_zero, List.setIfInBounds_toArray, List.set_cons_zero, List.set_cons_succ])
          refine wpAnyZ_takeS (i := 5) (v := ?_) rfl (by kernel_rfl) (by kernel_rfl) (by kernel_rfl) (by kernel_rfl) (fun _ _ _ h => h) (gives_value (by rfl) ?_) (by assumption) ?_
          rotate_left
          · intro w hSw
            obtain ⟨q0, q1, q2, q3⟩ := hSw
            go_simp
            (try with_reducible rfl)
          (try simp only [putAll, Act.put, List.getElem_toArray, List.getElem_cons_succ, List.getElem_cons_zero, List.setIfInBounds_toArray, List.set_cons_zero, List.set_cons_succ])
          refine wpAnyZ_takeS (i := 6) (v := ?_) rfl (by kernel_rfl) (by kernel_rfl) (by kernel_rfl) (by kernel_rfl) (fun _ _ _ h => h) (gives_value (by rfl) ?_) (by assumption) ?_
          rotate_left
          · intro w hSw
            obtain ⟨q0, q1, q2, q3⟩ := hSw
            go_simp
            (try with_reducible rfl)
          (try simp only [putAll, Act.put, List.getElem_toArray, List.getElem_cons_succ, List.getElem_cons_zero, List.setIfInBounds_toArray, List.set_cons_zero, List.set_cons_succ])
          refine wpAnyZ_takeS (i := 7) (v := ?_) rfl (by kernel_rfl) (by kernel_rfl) (by kernel_rfl) (by kernel_rfl) (fun _ _ _ h => h) (gives_value (by rfl) ?_) (by assumption) ?_
          rotate_left
          · intro w hSw
            obtain ⟨q0, q1, q2, q3⟩ := hSw
            go_simp
            (try with_reducible rfl)
          (try simp only [putAll, Act.put, List.getElem_toArray, List.getElem_cons_succ, List.getElem_cons_zero, List.setIfInBounds_toArray, List.set_cons_zero, List.set_cons_succ])
          refine wpAnyZ_takeS (i := 8) (v := ?_) rfl (by kernel_rfl) (by kernel_rfl) (by kernel_rfl) (by kernel_rfl) (fun _ _ _ h => h) (gives_value (by rfl) ?_) (by assumption) ?_
          rotate_left
          · intro w hSw
            obtain ⟨q0, q1, q2, q3⟩ := hSw
            go_simp
            (try with_reducible rfl)
          (try simp only [putAll, Act.put, List.getElem_toArray, List.getElem_cons_succ, List.getElem_cons_zero, List.setIfInBounds_toArray, List.set_cons_zero, List.set_cons_succ])
          refine wpAnyZ_done (by kernel_rfl) ?_ _
          clear hH
          have HBQ : Hid (Below W0.heap.size W0 wt.drew) := Lib.hid HBT.out.drew
          generalize wt.drew = wq at *
          by_cases hxb : x = h.b
          · have q1 : (x == h.b) = true := by simpa using hxb
            have q2 : (x != h.b) = false := by simpa using hxb
            have HSS := Lib.hid (HSM.out.trans (decide_eq_true hxb))
            clear hxb
            go_wp2_with (fail)
            go_roundw
            case rel => exact ⟨k + 1, by omega, by go_num, Lib.hid (by rw [HT1.out, ha.out, HSS.out]; rfl), HBQ⟩
            case measure => simp [intOf]; omega
          · have q1 : (x == h.b) = false := by simpa using hxb
            have q2 : (x != h.b) = true := by simpa using hxb
            have HF := Lib.hid (HT2.out (HSM.out.trans (decide_eq_false hxb)))
            clear hxb
            have HBF : Hid (Below s w wq) := Lib.hid (W0B.out.trans (HBQ.out.mono (by omega)))
            go_wp2_with (fail)
            go_ret
            exact ⟨by rw [HF.out]; rfl, by first | (rw [hs]; exact HBF.out) | exact HBF.out⟩
        · have HA2 : Hid (d.locks.all (holdSame p.lock) = true) := Lib.hid (by have := ha.out; rwa [List.take_of_length_le (by omega)] at this)
          clear ha
          obtain ⟨e0, e1, e2⟩ := CD.out _ hb.out
          go_wp2_with (fail)
          go_loopw [49] (fun kv wr => ∃ k : Nat, k ≤ d.ices.length ∧ kv = .int .i64 k ∧ Hid ((d.ices.take k).all (holdSame p.ice) = true) ∧ Hid (Below W0.heap.size W0 wr)) (fun kv _ => d.ices.length - (intOf kv).toNat)
          case atStart => exact ⟨0, Nat.zero_le _, rfl, Lib.hid (by simp), hb⟩
          case round =>
            obtain ⟨k, hk, rfl, ha, hb⟩ := hrel
            clear e0 e1 e2
            by_cases hlt : k < d.ices.length
            · obtain ⟨BT0, o, eT, hBT, d0, d1, d2⟩ := HD.out.i.hold hlt
              subst eT
              have HT1 := Lib.hid (all_snoc (f := holdSame p.ice) hlt)
              have HT2 : Hid (holdSame p.ice d.ices[k] = false → applySame p d = false) := Lib.hid (fun h => by unfold applySame; rw [all_no hlt h]; simp)
              have HT3 : Hid (holdIn p.routes.length 0 d.ices[k] = true) := Lib.hid (List.all_eq_true.1 TH.out.2.2 _ (List.getElem_mem hlt))
              have x0 : wr.cell? ⟨BT0, o + k * 3, none⟩ = some (.int .i64 d.ices[k].n) := by rw [hb.out.cell hBT]; exact d0
              have x1 : wr.cell? ⟨BT0, o + k * 3 + 1, none⟩ = some (.int .i64 d.ices[k].b) := by rw [hb.out.cell hBT]; exact d1
              have x2 : wr.cell? ⟨BT0, o + k * 3 + 2, none⟩ = some (.int .i64 d.ices[k].a) := by rw [hb.out.cell hBT]; exact d2
              clear d0 d1 d2
              generalize d.ices[k] = h at *
              have BT := Lib.hid (blk_new wr #[.int .i64 h.n, .int .i64 h.b, .int .i64 h.a] 43)
              have HBT := Lib.hid (hb.out.alloc hb.out.size (.cells #[.int .i64 h.n, .int .i64 h.b, .int .i64 h.a] 43))
              clear hb
              go_upto_region 16 with (fail)
              generalize wr.alloc (.cells #[.int .i64 h.n, .int .i64 h.b, .int .i64 h.a] 43) = wt at *
              generalize wr.heap.size = T at *
              clear x0 x1 x2
              have hin : 0 ≤ h.n ∧ h.n < (p.routes.length : Int) := by
                have := HT3.out
                simpa only [holdIn, decide_eq_true_eq] using this
              obtain ⟨cn, hcn⟩ : ∃ cn : Nat, h.n = (cn : Int) := ⟨h.n.toNat, by omega⟩
              have hcl : cn < p.routes.length := by omega
              have hcl2 : (cn : Int) < (p.routes.length : Int) := by omega
              have HCN := Lib.hid hcn
              obtain ⟨b0, b1, b2, b3, b4, b5, b6⟩ := CP.out _ HBT.out
              have t0 := BT.out.at0.1
              have t1 := BT.out.at1.1
              rw [hcn] at t0
              clear hin hcn
              obtain ⟨B1, o1, rfl, hB1, d0⟩ := HP.out.ice_at hcl
              have HSM : Hid (holdSame p.ice h = decide (p.ice.getD cn 0 = h.b)) := Lib.hid (by unfold holdSame; rw [HCN.out]; simp)
              have q3 : wt.cell? ⟨B1, o1 + cn, none⟩ = some (.int .i64 (p.ice.getD cn 0)) := by rw [HBT.out.cell hB1]; exact d0
              clear d0
              generalize p.ice.getD cn 0 = x at *
              refine wp_region_z (S := (fun W => W.cell? ⟨s, 2, none⟩ = some (.slice (some ⟨B1, o1, none⟩) p.routes.length c3) ∧ W.cell? ⟨T, 0, none⟩ = some (.int .i64 (cn : Int)) ∧ W.cell? ⟨T, 1, none⟩ = some (.int .i64 h.b) ∧ W.cell? ⟨B1, o1 + cn, none⟩ = some (.int .i64 x))) (z := 9) (by kernel_rfl) ⟨b2, t0, t1, q3⟩ (fun hH => ?_)
              refine wpAnyZ_takeS (i := 0) (v := ?_) rfl (by kernel_rfl) (by kernel_rfl) (by kernel_rfl) (by kernel_rfl) (fun _ _ _ h => h) (gives_value (by rfl) ?_) (by assumption) ?_
              rotate_left
              · intro w hSw
                obtain ⟨q0, q1, q2, q3⟩ := hSw
                go_simp
                (try with_reducible rfl)
              (try simp only [putAll, Act.put, List.getElem_toArray, List.getElem_cons_succ, List.getElem_cons_zero, List.setIfInBounds_toArray, List.set_cons_zero, List.set_cons_succ])
              refine wpAnyZ_takeS (i := 1) (v := ?_) rfl (by kernel_rfl) (by kernel_rfl) (by kernel_rfl) (by kernel_rfl) (fun _ _ _ h => h) (gives_value (by rfl) ?_) (by assumption) ?_
              rotate_left
              · intro w hSw
                obtain ⟨q0, q1, q2, q3⟩ := hSw
                go_simp
                (try with_reducible rfl)
              (try simp only [putAll, Act.put, List.getElem_toArray, List.getElem_cons_succ, List.getElem_cons_zero, List.setIfInBounds_toArray, List.set_cons_zero, List.set_cons_succ])
              refine wpAnyZ_takeS (i := 2) (v := ?_) rfl (by kernel_rfl) (by kernel_rfl) (by kernel_rfl) (by kernel_rfl) (fun _ _ _ h => h) (gives_value (by rfl) ?_) (by assumption) ?_
              rotate_left
              · intro w hSw
                obtain ⟨q0, q1, q2, q3⟩ := hSw
                go_simp
                (try with_reducible rfl)
              (try simp only [putAll, Act.put, List.getElem_toArray, List.getElem_cons_succ, List.getElem_cons_zero, List.setIfInBounds_toArray, List.set_cons_zero, List.set_cons_succ])
              refine wpAnyZ_takeS (i := 3) (v := ?_) rfl (by kernel_rfl) (by kernel_rfl) (by kernel_rfl) (by kernel_rfl) (fun _ _ _ h => h) (gives_value (by rfl) ?_) (by assumption) ?_
              rotate_left
              · intro w hSw
                obtain ⟨q0, q1, q2, q3⟩ := hSw
                go_simp
                (try with_reducible rfl)
              (try simp only [putAll, Act.put, List.getElem_toArray, List.getElem_cons_succ, List.getElem_cons_zero, List.setIfInBounds_toArray, List.set_cons_zero, List.set_cons_succ])
              refine wpAnyZ_takeS (i := 4) (v := ?_) rfl (by kernel_rfl) (by kernel_rfl) (by kernel_rfl) (by kernel_rfl) (fun _ _ _ h => h) (gives_value (by rfl) ?_) (by assumption) ?_
              rotate_left
              · intro w hSw
                obtain ⟨q0, q1, q2, q3⟩ := hSw
                go_simp
                (try with_reducible rfl)
              (try simp only [putAll, Act.put, List.getElem_toArray, List.getElem_cons_succ, List.getElem_cons_zero, List.setIfInBounds_toArray, List.set_cons_zero, List.set_cons_succ])
              refine wpAnyZ_takeS (i := 5) (v := ?_) rfl (by kernel_rfl) (by kernel_rfl) (by kernel_rfl) (by kernel_rfl) (fun _ _ _ h => h) (gives_value (by rfl) ?_) (by assumption) ?_
              rotate_left
              · intro w hSw
                obtain ⟨q0, q1, q2, q3⟩ := hSw
                go_simp
                (try with_reducible rfl)
              (try simp only [putAll, Act.put, List.getElem_toArray, List.getElem_cons_succ, List.getElem_cons_zero, List.setIfInBounds_toArray, List.set_cons_zero, List.set_cons_succ])
              refine wpAnyZ_takeS (i := 6) (v := ?_) rfl (by kernel_rfl) (by kernel_rfl) (by kernel_rfl) (by kernel_rfl) (fun _ _ _ h => h) (gives_value (by rfl) ?_) (by assumption) ?_
              rotate_left
              · intro w hSw
                obtain ⟨q0, q1, q2, q3⟩ := hSw
                go_simp
                (try with_reducible rfl)
              (try simp only [putAll, Act.put, List.getElem_toArray, List.getElem_cons_succ, List.getElem_cons_zero, List.setIfInBounds_toArray, List.set_cons_zero, List.set_cons_succ])
              refine wpAnyZ_takeS (i := 7) (v := ?_) rfl (by kernel_rfl) (by kernel_rfl) (by kernel_rfl) (by kernel_rfl) (fun _ _ _ h => h) (gives_value (by rfl) ?_) (by assumption) ?_
              rotate_left
              · intro w hSw
                obtain ⟨q0, q1, q2, q3⟩ := hSw
                go_simp
                (try with_reducible rfl)
              (try simp only [putAll, Act.put, List.getElem_toArray, List.getElem_cons_succ, List.getElem_cons_zero, List.setIfInBounds_toArray, List.set_cons_zero, List.set_cons_succ])
              refine wpAnyZ_takeS (i := 8) (v := ?_) rfl (by kernel_rfl) (by kernel_rfl) (by kernel_rfl) (by kernel_rfl) (fun _ _ _ h => h) (gives_value (by rfl) ?_) (by assumption) ?_
              rotate_left
              · intro w hSw
                obtain ⟨q0, q1, q2, q3⟩ := hSw
                go_simp
                (try with_reducible rfl)
              (try simp only [putAll, Act.put, List.getElem_toArray, List.getElem_cons_succ, List.getElem_cons_zero, List.setIfInBounds_toArray, List.set_cons_zero, List.set_cons_succ])
              refine wpAnyZ_done (by kernel_rfl) ?_ _
              clear hH
              have HBQ : Hid (Below W0.heap.size W0 wt.drew) := Lib.hid HBT.out.drew
              generalize wt.drew = wq at *
              by_cases hxb : x = h.b
              · have q1 : (x == h.b) = true := by simpa using hxb
                have q2 : (x != h.b) = false := by simpa using hxb
                have HSS := Lib.hid (HSM.out.trans (decide_eq_true hxb))
                clear hxb
                go_wp2_with (fail)
                go_roundw
                case rel => exact ⟨k + 1, by omega, by go_num, Lib.hid (by rw [HT1.out, ha.out, HSS.out]; rfl), HBQ⟩
                case measure => simp [intOf]; omega
              · have q1 : (x == h.b) = false := by simpa using hxb
                have q2 : (x != h.b) = true := by simpa using hxb
                have HF := Lib.hid (HT2.out (HSM.out.trans (decide_eq_false hxb)))
                clear hxb
                have HBF : Hid (Below s w wq) := Lib.hid (W0B.out.trans (HBQ.out.mono (by omega)))
                go_wp2_with (fail)
                go_ret
                exact ⟨by rw [HF.out]; rfl, by first | (rw [hs]; exact HBF.out) | exact HBF.out⟩
            · have HF : Hid (applySame p d = true) := Lib.hid (by unfold applySame; have := ha.out; rw [List.take_of_length_le (by omega)] at this; rw [HA.out, HA2.out, this]; rfl)
              clear ha
              have HBF : Hid (Below s w wr) := Lib.hid (W0B.out.trans (hb.out.mono (by omega)))
              go_wp2_with (fail)
              go_ret
              exact ⟨by rw [HF.out]; rfl, by first | (rw [hs]; exact HBF.out) | exact HBF.out⟩
end Go.Proofs.Ytpccoflebfblbaa
namespace Go.Proofs.Ytpccoflebfblbaa
open Go.RowKit
set_option linter.unusedSimpArgs false
set_option linter.unusedVariables false

theorem RoutesO.blk_lt {B : Nat} {W : World} {v : Value} {rs : List (List Int)} {ws : List Value} (h : RoutesO B W v rs ws) : ∀ b, v.ownBlock = some b → b < W.heap.size := by
  obtain ⟨us, h1, _⟩ := h
  exact fun b hb => (h1.lt b hb).2
/-- all that the edit names is on the plan's lists -/
structure Names (q : PlanP) (d : Edit) : Prop where
  t : ∀ x ∈ d.turns, 0 ≤ x.c ∧ x.c < (q.routes.length : Int)
  l : ∀ x ∈ d.locks, 0 ≤ x.n ∧ x.n < (q.lock.length : Int)
  i : ∀ x ∈ d.ices, 0 ≤ x.n ∧ x.n < (q.ice.length : Int)
def changeP (q : PlanP) (d : Edit) : PlanP := { q with routes := putR q.routes d.turns, lock := putH q.lock d.locks, ice := putH q.ice d.ices }
set_option maxRecDepth 100000 in
set_option maxHeartbeats 8000000 in
theorem pchange_any (B g : Nat) (V1 V2 V3 V4 V5 V6 : Value) (q : PlanP) (At Al Ai : Option Addr) (ct cl ci : Nat) (d : Edit) (w0 w : World) (hq : QAt B g w V1 V2 V3 V4 V5 V6 q) (hB : B ≤ w.heap.size) (hd : EditIn w0 At Al Ai ct cl ci d) (hb0 : Below w0.heap.size w0 w) (hB0 : w0.heap.size ≤ B) (hin : Names q d) :
    Calls Try.prog 23 #[.pointer (some ⟨g, 0, none⟩), .agg #[.slice At d.turns.length ct, .slice Al d.locks.length cl, .slice Ai d.ices.length ci]] w fun e w' => e = .returned (.tuple #[]) ∧ QAt B g w' V1 V2 V3 V4 V5 V6 (changeP q d) ∧ Below B w w' := by
  have BD : Hid (Blk (w.alloc (.cells #[.slice At d.turns.length ct, .slice Al d.locks.length cl, .slice Ai d.ices.length ci] 46)) w.heap.size #[.slice At d.turns.length ct, .slice Al d.locks.length cl, .slice Ai d.ices.length ci].toList) := Lib.hid (blk_new w #[.slice At d.turns.length ct, .slice Al d.locks.length cl, .slice Ai d.ices.length ci] 46)
  have HB0 : Hid (Below B w (w.alloc (.cells #[.slice At d.turns.length ct, .slice Al d.locks.length cl, .slice Ai d.ices.length ci] 46))) := Lib.hid ((Below.refl _ _).alloc hB _)
  have HQ0 := Lib.hid (hq.below ((Below.refl _ _).alloc (Nat.le_refl _) (.cells #[.slice At d.turns.length ct, .slice Al d.locks.length cl, .slice Ai d.ices.length ci] 46)))
  have HE := Lib.hid hd
  have HW : Hid (∀ W, Below B w W → Below w0.heap.size w0 W) := Lib.hid (fun W hb => hb0.trans (hb.mono hB0))
  have HI := Lib.hid hin
  have hnt := hd.nt
  have hnl := hd.nl
  have hni := hd.ni
  have HL0 : Hid (∀ b, V1.ownBlock = some b → b < w.heap.size) := Lib.hid hq.routes.blk_lt
  have HL1 : Hid (∀ b, V2.ownBlock = some b → b < w.heap.size) := Lib.hid (fun b hb => (hq.five.lock.lt b hb).2)
  have HL2 : Hid (∀ b, V3.ownBlock = some b → b < w.heap.size) := Lib.hid (fun b hb => (hq.five.ice.lt b hb).2)
  have KC := Lib.hid (fun (W : World) (hb : Below B w W) (A : Option Addr) (cap : Nat) (l : List Int) (h : Recs w0 1 num_ (.slice A l.length cap) l) (hl : l.length ≤ 1000000) => clone_own A cap l W (h.below (HW.out W hb)) hl)
  clear hq hd hin
  go_enter Try.func23, Try.ntmps23
  go_upto_region 1 with (fail)
  generalize (w.alloc (.cells #[.slice At d.turns.length ct, .slice Al d.locks.length cl, .slice Ai d.ices.length ci] 46)) = W0 at *
  have hsz0 : w.heap.size ≤ W0.heap.size := by have := BD.out.1; omega
  generalize hs : w.heap.size = s at *
  obtain ⟨e0, e1, e2⟩ : W0.cell? ⟨s, 0, none⟩ = some (.slice At d.turns.length ct) ∧ W0.cell? ⟨s, 1, none⟩ = some (.slice Al d.locks.length cl) ∧ W0.cell? ⟨s, 2, none⟩ = some (.slice Ai d.ices.length ci) := ⟨(BD.out.2 0 (by simp)).1, (BD.out.2 1 (by simp)).1, (BD.out.2 2 (by simp)).1⟩
  go_wp2_with (fail)
  go_loopw [13] (fun kv wr => ∃ k : Nat, k ≤ d.turns.length ∧ kv = .int .i64 k ∧ Hid (QAt B g wr V1 V2 V3 V4 V5 V6 { q with routes := putR q.routes (d.turns.take k) }) ∧ s ≤ wr.heap.size ∧ Hid (Blk wr s #[.slice At d.turns.length ct, .slice Al d.locks.length cl, .slice Ai d.ices.length ci].toList) ∧ Hid (Below B w wr)) (fun kv _ => d.turns.length - (intOf kv).toNat)
  case atStart => exact ⟨0, Nat.zero_le _, rfl, HQ0, hsz0, BD, HB0⟩
  case round =>
    obtain ⟨k, hk, rfl, hq, hsz, hbd, hb⟩ := hrel
    clear e0 e1 e2
    by_cases hlt : k < d.turns.length
    · obtain ⟨BT0, o, eT, hBT, d0, d1, d2⟩ := HE.out.t.1.turn hlt
      obtain ⟨⟨Ax, cx, ex, hq1⟩, Ay, cy, ey, hq2⟩ := HE.out.t.2 _ (List.getElem_mem hlt)
      rw [ex] at d1
      rw [ey] at d2
      subst eT
      have HQ2 : Hid (Recs w0 1 num_ (.slice Ay d.turns[k].a.length cy) d.turns[k].a) := Lib.hid ⟨Ay, cy, rfl, hq2⟩
      have hla : d.turns[k].a.length ≤ 1000000 := (HE.out.nm _ (List.getElem_mem hlt)).2
      have HT1 := Lib.hid (putR_snoc (rs := q.routes) hlt)
      have hin := HI.out.t _ (List.getElem_mem hlt)
      have x0 : wr.cell? ⟨BT0, o + k * 3, none⟩ = some (.int .i64 d.turns[k].c) := by rw [(HW.out _ hb.out).cell hBT]; exact d0
      have x1 : wr.cell? ⟨BT0, o + k * 3 + 1, none⟩ = some (.slice Ax d.turns[k].b.length cx) := by rw [(HW.out _ hb.out).cell hBT]; exact d1
      have x2 : wr.cell? ⟨BT0, o + k * 3 + 2, none⟩ = some (.slice Ay d.turns[k].a.length cy) := by rw [(HW.out _ hb.out).cell hBT]; exact d2
      clear d0 d1 d2 ex ey hq1 hq2
      generalize d.turns[k] = t at *
      have BT := Lib.hid (blk_new wr #[.int .i64 t.c, .slice Ax t.b.length cx, .slice Ay t.a.length cy] 40)
      have HBT := Lib.hid (hb.out.alloc (Nat.le_trans hB hsz) (.cells #[.int .i64 t.c, .slice Ax t.b.length cx, .slice Ay t.a.length cy] 40))
      have HQT := Lib.hid (hq.out.below ((Below.refl _ _).alloc (Nat.le_refl _) (.cells #[.int .i64 t.c, .slice Ax t.b.length cx, .slice Ay t.a.length cy] 40)))
      have BDT := Lib.hid (hbd.out.alloc (.cells #[.int .i64 t.c, .slice Ax t.b.length cx, .slice Ay t.a.length cy] 40))
      clear hb hq hbd
      go_upto_region 4 with (fail)
      generalize wr.alloc (.cells #[.int .i64 t.c, .slice Ax t.b.length cx, .slice Ay t.a.length cy] 40) = wt at *
      have hszt : s ≤ wt.heap.size := by have := BT.out.1; omega
      have hTs : s ≤ wr.heap.size := hsz
      generalize wr.heap.size = T at *
      clear x0 x1 x2
      obtain ⟨cn, hcn⟩ : ∃ cn : Nat, t.c = (cn : Int) := ⟨t.c.toNat, by omega⟩
      have hcl : cn < q.routes.length := by omega
      have hcl2 : (cn : Int) < (q.routes.length : Int) := by omega
      have HCN := Lib.hid hcn
      have t0 := BT.out.at0.1
      have t2 := BT.out.at2.1
      rw [hcn] at t0
      clear hin hcn
      obtain ⟨b1, f1x, u0, ev1, eb1, hb1g, hb1l, ht1, hx1, hf1, _⟩ := HQT.out.routes.at_ (k := cn) (show cn < (putR q.routes (d.turns.take k)).length by rw [putR_length]; exact hcl)
      have ev2 : V1 = .slice (some ⟨b1, 0, none⟩) q.routes.length f1x := by rw [ev1]; show Value.slice _ (putR q.routes _).length _ = _; rw [putR_length]
      have y0 : wt.cell? ⟨g, 0, none⟩ = some (.slice (some ⟨b1, 0, none⟩) q.routes.length f1x) := by rw [← ev2]; exact HQT.out.cells.1
      have EB1 := Lib.hid eb1
      have hb1s : b1 < s := HL0.out b1 eb1
      clear ev1 ev2 eb1
      refine wp_region_z (S := (fun W => W.cell? ⟨g, 0, none⟩ = some (.slice (some ⟨b1, 0, none⟩) q.routes.length f1x) ∧ W.cell? ⟨T, 0, none⟩ = some (.int .i64 (cn : Int)) ∧ W.cell? ⟨T, 2, none⟩ = some (.slice Ay t.a.length cy))) (z := 10) (by kernel_rfl) ⟨y0, t0, t2⟩ (fun hH => ?_)
      refine wpAnyZ_take (i := 0) (v := ?_) rfl (by kernel_rfl) (by kernel_rfl) (by kernel_rfl) rfl (by kernel_rfl) (fun _ _ _ h => h) (gives_value (by rfl) ?_) (by assumption) ?_
      rotate_left
      · intro w hSw
        obtain ⟨q0, q1, q2⟩ := hSw
        go_simp
        (try with_reducible rfl)
      (try simp only [putAll, Act.put, List.getElem_toArray, List.getElem_cons_succ, List.getElem_cons_zero, List.setIfInBounds_toArray, List.set_cons_zero, List.set_cons_succ])
      refine wpAnyZ_take (i := 1) (v := ?_) rfl (by kernel_rfl) (by kernel_rfl) (by kernel_rfl) rfl (by kernel_rfl) (fun _ _ _ h => h) (gives_value (by rfl) ?_) (by assumption) ?_
      rotate_left
      · intro w hSw
        obtain ⟨q0, q1, q2⟩ := hSw
        go_simp
        (try with_reducible rfl)
      (try simp only [putAll, Act.put, List.getElem_toArray, List.getElem_cons_succ, List.getElem_cons_zero, List.setIfInBounds_toArray, List.set_cons_zero, List.set_cons_succ])
      refine wpAnyZ_take (i := 2) (v := ?_) rfl (by kernel_rfl) (by kernel_rfl) (by kernel_rfl) rfl (by kernel_rfl) (fun _ _ _ h => h) (gives_value (by rfl) ?_) (by assumption) ?_
      rotate_left
      · intro w hSw
        obtain ⟨q0, q1, q2⟩ := hSw
        go_simp
        (try with_reducible rfl)
      (try simp only [putAll, Act.put, List.getElem_toArray, List.getElem_cons_succ, List.getElem_cons_zero, List.setIfInBounds_toArray, List.set_cons_zero, List.set_cons_succ])
      refine wpAnyZ_take (i := 3) (v := ?_) rfl (by kernel_rfl) (by kernel_rfl) (by kernel_rfl) rfl (by kernel_rfl) (fun _ _ _ h => h) (gives_value (by rfl) ?_) (by assumption) ?_
      rotate_left
      · intro w hSw
        obtain ⟨q0, q1, q2⟩ := hSw
        go_simp
        (try with_reducible rfl)
      (try simp only [putAll, Act.put, List.getElem_toArray, List.getElem_cons_succ, List.getElem_cons_zero, List.setIfInBounds_toArray, List.set_cons_zero, List.set_cons_succ])
      refine wpAnyZ_take (i := 4) (v := ?_) rfl (by kernel_rfl) (by kernel_rfl) (by kernel_rfl) rfl (by kernel_rfl) (fun _ _ _ h => h) (gives_value (by rfl) ?_) (by assumption) ?_
      rotate_left
      · intro w hSw
        obtain ⟨q0, q1, q2⟩ := hSw
        go_simp
        (try with_reducible rfl)
      (try simp only [putAll, Act.put, List.getElem_toArray, List.getElem_cons_succ, List.getElem_cons_zero, List.setIfInBounds_toArray, List.set_cons_zero, List.set_cons_succ])
      refine wpAnyZ_take (i := 5) (v := ?_) rfl (by kernel_rfl) (by kernel_rfl) (by kernel_rfl) rfl (by kernel_rfl) (fun _ _ _ h => h) (gives_value (by rfl) ?_) (by assumption) ?_
      rotate_left
      · intro w hSw
        obtain ⟨q0, q1, q2⟩ := hSw
        go_simp
        (try with_reducible rfl)
      (try simp only [putAll, Act.put, List.getElem_toArray, List.getElem_cons_succ, List.getElem_cons_zero, List.setIfInBounds_toArray, List.set_cons_zero, List.set_cons_succ])
      refine wpAnyZ_take (i := 6) (v := ?_) rfl (by kernel_rfl) (by kernel_rfl) (by kernel_rfl) rfl (by kernel_rfl) (fun _ _ _ h => h) (gives_value (by rfl) ?_) (by assumption) ?_
      rotate_left
      · intro w hSw
        obtain ⟨q0, q1, q2⟩ := hSw
        go_simp
        (try with_reducible rfl)
      (try simp only [putAll, Act.put, List.getElem_toArray, List.getElem_cons_succ, List.getElem_cons_zero, List.setIfInBounds_toArray, List.set_cons_zero, List.set_cons_succ])
      refine wpAnyZ_take (i := 7) (v := ?_) rfl (by kernel_rfl) (by kernel_rfl) (by kernel_rfl) rfl (by kernel_rfl) (fun _ _ _ h => h) (gives_value (by rfl) ?_) (by assumption) ?_
      rotate_left
      · intro w hSw
        obtain ⟨q0, q1, q2⟩ := hSw
        go_simp
        (try with_reducible rfl)
      (try simp only [putAll, Act.put, List.getElem_toArray, List.getElem_cons_succ, List.getElem_cons_zero, List.setIfInBounds_toArray, List.set_cons_zero, List.set_cons_succ])
      refine wpAnyZ_one (i := 8) (by kernel_rfl) ?_
      refine zstep rfl (fun K hK => ?_)
      refine step_call (by rfl) (by go_simp) ((KC.out wt.drew HBT.out.drew Ay cy t.a HQ2.out hla).mono ?_)
      rintro e w6 ⟨vq, rfl, hown, hbx⟩
      refine ⟨_, rfl, ?_⟩
      have HS6 : Hid (Below wt.heap.size wt w6) := Lib.hid ((Below.refl _ _).drew.trans hbx)
      obtain ⟨X6, Y6, rfl, _⟩ := own_slice_n hown
      have O6 : Hid (OutI wt.heap.size w6 (.slice X6 t.a.length Y6) t.a) := Lib.hid hown
      have HQ6 := Lib.hid (HQT.out.below HS6.out)
      have HB6 : Hid (Below B w w6) := Lib.hid (HBT.out.trans (HS6.out.mono (by omega)))
      have BT6 := Lib.hid (BT.out.below HS6.out)
      have BD6 := Lib.hid (BDT.out.below HS6.out)
      have hs6 : wt.heap.size ≤ w6.heap.size := HS6.out.size
      have LT6 := Lib.hid (HQT.out.five.lt)
      have hb16 : b1 < wt.heap.size := hb1l
      obtain ⟨s0, s1, s2⟩ : w6.cell? ⟨g, 0, none⟩ = some (.slice (some ⟨b1, 0, none⟩) q.routes.length f1x) ∧ w6.cell? ⟨T, 0, none⟩ = some (.int .i64 (cn : Int)) ∧ w6.cell? ⟨T, 2, none⟩ = some (.slice Ay t.a.length cy) := ⟨by rw [HS6.out.cell (show g < wt.heap.size from HQT.out.cells.2.2.2.2.2.2.2.2)]; exact y0, by rw [HS6.out.cell BT.out.1]; exact t0, by rw [HS6.out.cell BT.out.1]; exact t2⟩
      have z1 : w6.frozen? ⟨b1, cn, none⟩ = false := by rw [HS6.out.frozen hb16]; exact hf1
      have z2 : w6.cell? ⟨b1, cn, none⟩ = some u0 := by rw [HS6.out.cell hb16]; exact hx1
      refine hK.out _ _ (fun _ => ⟨s0, s1, s2⟩) (fun hH2 => ?_)
      replace hH2 := hH2 (by decide)
      clear hK K hown hbx
      (try simp only [putAll, Act.put, List.getElem_toArray, List.getElem_cons_succ, List.getElem_cons_zero, List.setIfInBounds_toArray, List.set_cons_zero, List.set_cons_succ])
      refine wpAnyZ_take (i := 9) (v := ?_) rfl (by kernel_rfl) (by kernel_rfl) (by kernel_rfl) rfl (by kernel_rfl) (fun _ _ _ h => h) (gives_value (by rfl) ?_) (by assumption) ?_
      rotate_left
      · intro w hSw
        obtain ⟨q0, q1, q2⟩ := hSw
        go_simp
        (try with_reducible rfl)
      (try simp only [putAll, Act.put, List.getElem_toArray, List.getElem_cons_succ, List.getElem_cons_zero, List.setIfInBounds_toArray, List.set_cons_zero, List.set_cons_succ])
      refine wpAnyZ_one (i := 10) (by kernel_rfl) ?_
      refine zstep rfl (fun K hK => ?_)
      go_simp
      have HQ7 : Hid (QAt B g (w6.setCell ⟨b1, cn, none⟩ (.slice X6 t.a.length Y6)) V1 V2 V3 V4 V5 V6 _) := Lib.hid (HQ6.out.putRoute EB1.out (k := cn) (show cn < (putR q.routes (d.turns.take k)).length by rw [putR_length]; exact hcl) (own_lower O6.out (Nat.le_trans hB hszt)) (fun x hx gg hg1 hg2 => by
        have h1 := (own_typed O6.out hg1).2
        have h2 := LT6.out x hx gg hg2
        omega))
      have HB7 : Hid (Below B w (w6.setCell ⟨b1, cn, none⟩ (.slice X6 t.a.length Y6))) := Lib.hid (HB6.out.setCell hb1g _)
      have BD7 : Hid (Blk (w6.setCell ⟨b1, cn, none⟩ (.slice X6 t.a.length Y6)) s _) := Lib.hid (BD6.out.other (a := ⟨b1, cn, none⟩) (by show b1 ≠ s; omega) _)
      have hsz7 : s ≤ (w6.setCell ⟨b1, cn, none⟩ (.slice X6 t.a.length Y6)).heap.size := by rw [World.size_setCell]; omega
      refine hK.out _ _ (fun h => absurd rfl h) (fun _ => ?_)
      clear hK K
      refine wpAnyZ_done (by kernel_rfl) ?_ _
      clear hH hH2 z1 z2 s0 s1 s2 hf1 hx1 y0 t0 t2
      generalize w6.setCell ⟨b1, cn, none⟩ (.slice X6 t.a.length Y6) = w7 at *
      go_wp2_with (fail)
      go_roundw
      case rel => exact ⟨k + 1, by omega, by go_num, Lib.hid (by have := HQ7.out; rw [HT1.out, HCN.out]; exact this), hsz7, BD7, HB7⟩
      case measure => simp [intOf]; omega
    · obtain ⟨e0, e1, e2⟩ : wr.cell? ⟨s, 0, none⟩ = some (.slice At d.turns.length ct) ∧ wr.cell? ⟨s, 1, none⟩ = some (.slice Al d.locks.length cl) ∧ wr.cell? ⟨s, 2, none⟩ = some (.slice Ai d.ices.length ci) := ⟨(hbd.out.2 0 (by simp)).1, (hbd.out.2 1 (by simp)).1, (hbd.out.2 2 (by simp)).1⟩
      have HQ1 : Hid (QAt B g wr V1 V2 V3 V4 V5 V6 { q with routes := putR q.routes d.turns }) := Lib.hid (by have := hq.out; rwa [List.take_of_length_le (by omega)] at this)
      clear hq
      go_wp2_with (fail)
      go_loopw [31] (fun kv wr => ∃ k : Nat, k ≤ d.locks.length ∧ kv = .int .i64 k ∧ Hid (QAt B g wr V1 V2 V3 V4 V5 V6 { q with routes := putR q.routes d.turns, lock := putH q.lock (d.locks.take k) }) ∧ s ≤ wr.heap.size ∧ Hid (Blk wr s #[.slice At d.turns.length ct, .slice Al d.locks.length cl, .slice Ai d.ices.length ci].toList) ∧ Hid (Below B w wr)) (fun kv _ => d.locks.length - (intOf kv).toNat)
      case atStart => exact ⟨0, Nat.zero_le _, rfl, HQ1, hsz, hbd, hb⟩
      case round =>
        obtain ⟨k, hk, rfl, hq, hsz, hbd, hb⟩ := hrel
        clear e0 e1 e2 HQ1
        by_cases hlt : k < d.locks.length
        · obtain ⟨BT0, o, eT, hBT, d0, d1, d2⟩ := HE.out.l.hold hlt
          subst eT
          have HT1 := Lib.hid (putH_snoc (l := q.lock) hlt)
          have hin := HI.out.l _ (List.getElem_mem hlt)
          have x0 : wr.cell? ⟨BT0, o + k * 3, none⟩ = some (.int .i64 d.locks[k].n) := by rw [(HW.out _ hb.out).cell hBT]; exact d0
          have x1 : wr.cell? ⟨BT0, o + k * 3 + 1, none⟩ = some (.int .i64 d.locks[k].b) := by rw [(HW.out _ hb.out).cell hBT]; exact d1
          have x2 : wr.cell? ⟨BT0, o + k * 3 + 2, none⟩ = some (.int .i64 d.locks[k].a) := by rw [(HW.out _ hb.out).cell hBT]; exact d2
          clear d0 d1 d2
          generalize d.locks[k] = h at *
          have BT := Lib.hid (blk_new wr #[.int .i64 h.n, .int .i64 h.b, .int .i64 h.a] 43)
          have HBT := Lib.hid (hb.out.alloc (Nat.le_trans hB hsz) (.cells #[.int .i64 h.n, .int .i64 h.b, .int .i64 h.a] 43))
          have HQT := Lib.hid (hq.out.below ((Below.refl _ _).alloc (Nat.le_refl _) (.cells #[.int .i64 h.n, .int .i64 h.b, .int .i64 h.a] 43)))
          have BDT := Lib.hid (hbd.out.alloc (.cells #[.int .i64 h.n, .int .i64 h.b, .int .i64 h.a] 43))
          clear hb hq hbd
          go_upto_region 9 with (fail)
          generalize wr.alloc (.cells #[.int .i64 h.n, .int .i64 h.b, .int .i64 h.a] 43) = wt at *
          have hszt : s ≤ wt.heap.size := by have := BT.out.1; omega
          have hTs : s ≤ wr.heap.size := hsz
          generalize wr.heap.size = T at *
          clear x0 x1 x2
          obtain ⟨cn, hcn⟩ : ∃ cn : Nat, h.n = (cn : Int) := ⟨h.n.toNat, by omega⟩
          have hcl : cn < q.lock.length := by omega
          have hcl2 : (cn : Int) < (q.lock.length : Int) := by omega
          have HCN := Lib.hid hcn
          have t0 := BT.out.at0.1
          have t2 := BT.out.at2.1
          rw [hcn] at t0
          clear hin hcn
          obtain ⟨b1, f1x, ev1, eb1, hb1g, hb1l, ht1, hx1, hf1⟩ := HQT.out.five.lock.at_ (k := cn) (show cn < (putH q.lock (d.locks.take k)).length by rw [putH_length]; exact hcl)
          have ev2 : V2 = .slice (some ⟨b1, 0, none⟩) q.lock.length f1x := by rw [ev1]; show Value.slice _ (putH q.lock _).length _ = _; rw [putH_length]
          have y0 : wt.cell? ⟨g, 1, none⟩ = some (.slice (some ⟨b1, 0, none⟩) q.lock.length f1x) := by rw [← ev2]; exact HQT.out.cells.2.1
          have EB1 := Lib.hid eb1
          have hb1s : b1 < s := HL1.out b1 eb1
          clear ev1 ev2 eb1
          refine wp_region_z (S := (fun W => W.cell? ⟨g, 1, none⟩ = some (.slice (some ⟨b1, 0, none⟩) q.lock.length f1x) ∧ W.cell? ⟨T, 0, none⟩ = some (.int .i64 (cn : Int)) ∧ W.cell? ⟨T, 2, none⟩ = some (.int .i64 h.a))) (z := 9) (by kernel_rfl) ⟨y0, t0, t2⟩ (fun hH => ?_)
          refine wpAnyZ_take (i := 0) (v := ?_) rfl (by kernel_rfl) (by kernel_rfl) (by kernel_rfl) rfl (by kernel_rfl) (fun _ _ _ h => h) (gives_value (by rfl) ?_) (by assumption) ?_
          rotate_left
          · intro w hSw
            obtain ⟨q0, q1, q2⟩ := hSw
            go_simp
            (try with_reducible rfl)
          (try simp only [putAll, Act.put, List.getElem_toArray, List.getElem_cons_succ, List.getElem_cons_zero, List.setIfInBounds_toArray, List.set_cons_zero, List.set_cons_succ])
          refine wpAnyZ_take (i := 1) (v := ?_) rfl (by kernel_rfl) (by kernel_rfl) (by kernel_rfl) rfl (by kernel_rfl) (fun _ _ _ h => h) (gives_value (by rfl) ?_) (by assumption) ?_
          rotate_left
          · intro w hSw
            obtain ⟨q0, q1, q2⟩ := hSw
            go_simp
            (try with_reducible rfl)
          (try simp only [putAll, Act.put, List.getElem_toArray, List.getElem_cons_succ, List.getElem_cons_zero, List.setIfInBounds_toArray, List.set_cons_zero, List.set_cons_succ])
          refine wpAnyZ_take (i := 2) (v := ?_) rfl (by kernel_rfl) (by kernel_rfl) (by kernel_rfl) rfl (by kernel_rfl) (fun _ _ _ h => h) (gives_value (by rfl) ?_) (by assumption) ?_
          rotate_left
          · intro w hSw
            obtain ⟨q0, q1, q2⟩ := hSw
            go_simp
            (try with_reducible rfl)
          (try simp only [putAll, Act.put, List.getElem_toArray, List.getElem_cons_succ, List.getElem_cons_zero, List.setIfInBounds_toArray, List.set_cons_zero, List.set_cons_succ])
          refine wpAnyZ_take (i := 3) (v := ?_) rfl (by kernel_rfl) (by kernel_rfl) (by kernel_rfl) rfl (by kernel_rfl) (fun _ _ _ h => h) (gives_value (by rfl) ?_) (by assumption) ?_
          rotate_left
          · intro w hSw
            obtain ⟨q0, q1, q2⟩ := hSw
            go_simp
            (try with_reducible rfl)
          (try simp only [putAll, Act.put, List.getElem_toArray, List.getElem_cons_succ, List.getElem_cons_zero, List.setIfInBounds_toArray, List.set_cons_zero, List.set_cons_succ])
          refine wpAnyZ_take (i := 4) (v := ?_) rfl (by kernel_rfl) (by kernel_rfl) (by kernel_rfl) rfl (by kernel_rfl) (fun _ _ _ h => h) (gives_value (by rfl) ?_) (by assumption) ?_
          rotate_left
          · intro w hSw
            obtain ⟨q0, q1, q2⟩ := hSw
            go_simp
            (try with_reducible rfl)
          (try simp only [putAll, Act.put, List.getElem_toArray, List.getElem_cons_succ, List.getElem_cons_zero, List.setIfInBounds_toArray, List.set_cons_zero, List.set_cons_succ])
          refine wpAnyZ_take (i := 5) (v := ?_) rfl (by kernel_rfl) (by kernel_rfl) (by kernel_rfl) rfl (by kernel_rfl) (fun _ _ _ h => h) (gives_value (by rfl) ?_) (by assumption) ?_
          rotate_left
          · intro w hSw
            obtain ⟨q0, q1, q2⟩ := hSw
            go_simp
            (try with_reducible rfl)
          (try simp only [putAll, Act.put, List.getElem_toArray, List.getElem_cons_succ, List.getElem_cons_zero, List.setIfInBounds_toArray, List.set_cons_zero, List.set_cons_succ])
          refine wpAnyZ_take (i := 6) (v := ?_) rfl (by kernel_rfl) (by kernel_rfl) (by kernel_rfl) rfl (by kernel_rfl) (fun _ _ _ h => h) (gives_value (by rfl) ?_) (by assumption) ?_
          rotate_left
          · intro w hSw
            obtain ⟨q0, q1, q2⟩ := hSw
            go_simp
            (try with_reducible rfl)
          (try simp only [putAll, Act.put, List.getElem_toArray, List.getElem_cons_succ, List.getElem_cons_zero, List.setIfInBounds_toArray, List.set_cons_zero, List.set_cons_succ])
          refine wpAnyZ_take (i := 7) (v := ?_) rfl (by kernel_rfl) (by kernel_rfl) (by kernel_rfl) rfl (by kernel_rfl) (fun _ _ _ h => h) (gives_value (by rfl) ?_) (by assumption) ?_
          rotate_left
          · intro w hSw
            obtain ⟨q0, q1, q2⟩ := hSw
            go_simp
            (try with_reducible rfl)
          (try simp only [putAll, Act.put, List.getElem_toArray, List.getElem_cons_succ, List.getElem_cons_zero, List.setIfInBounds_toArray, List.set_cons_zero, List.set_cons_succ])
          refine wpAnyZ_take (i := 8) (v := ?_) rfl (by kernel_rfl) (by kernel_rfl) (by kernel_rfl) rfl (by kernel_rfl) (fun _ _ _ h => h) (gives_value (by rfl) ?_) (by assumption) ?_
          rotate_left
          · intro w hSw
            obtain ⟨q0, q1, q2⟩ := hSw
            go_simp
            (try with_reducible rfl)
          (try simp only [putAll, Act.put, List.getElem_toArray, List.getElem_cons_succ, List.getElem_cons_zero, List.setIfInBounds_toArray, List.set_cons_zero, List.set_cons_succ])
          have z1 : wt.drew.frozen? ⟨b1, cn, none⟩ = false := hf1
          have z2 : wt.drew.cell? ⟨b1, cn, none⟩ = _ := hx1
          refine wpAnyZ_one (i := 9) (by kernel_rfl) ?_
          refine zstep rfl (fun K hK => ?_)
          go_simp
          have HQ7 : Hid (QAt B g (wt.drew.setCell ⟨b1, cn, none⟩ (.int .i64 h.a)) V1 V2 V3 V4 V5 V6 _) := Lib.hid ((HQT.out.below (Below.refl _ _).drew).put_lock EB1.out (k := cn) (show cn < (putH q.lock (d.locks.take k)).length by rw [putH_length]; exact hcl) h.a)
          have HB7 : Hid (Below B w (wt.drew.setCell ⟨b1, cn, none⟩ (.int .i64 h.a))) := Lib.hid (HBT.out.drew.setCell hb1g _)
          have BD7 : Hid (Blk (wt.drew.setCell ⟨b1, cn, none⟩ (.int .i64 h.a)) s _) := Lib.hid (BDT.out.drew.other (a := ⟨b1, cn, none⟩) (by show b1 ≠ s; omega) _)
          have hsz7 : s ≤ (wt.drew.setCell ⟨b1, cn, none⟩ (.int .i64 h.a)).heap.size := by rw [World.size_setCell]; exact hszt
          refine hK.out _ _ (fun h => absurd rfl h) (fun _ => ?_)
          clear hK K
          refine wpAnyZ_done (by kernel_rfl) ?_ _
          clear hH z1 z2 hf1 hx1 y0 t0 t2
          rw [show (wt.setCell ⟨b1, cn, none⟩ (.int .i64 h.a)).drew = wt.drew.setCell ⟨b1, cn, none⟩ (.int .i64 h.a) from rfl]
          generalize wt.drew.setCell ⟨b1, cn, none⟩ (.int .i64 h.a) = w7 at *
          go_wp2_with (fail)
          go_roundw
          case rel => exact ⟨k + 1, by omega, by go_num, Lib.hid (by have := HQ7.out; rw [HT1.out, HCN.out]; exact this), hsz7, BD7, HB7⟩
          case measure => simp [intOf]; omega
        · obtain ⟨e0, e1, e2⟩ : wr.cell? ⟨s, 0, none⟩ = some (.slice At d.turns.length ct) ∧ wr.cell? ⟨s, 1, none⟩ = some (.slice Al d.locks.length cl) ∧ wr.cell? ⟨s, 2, none⟩ = some (.slice Ai d.ices.length ci) := ⟨(hbd.out.2 0 (by simp)).1, (hbd.out.2 1 (by simp)).1, (hbd.out.2 2 (by simp)).1⟩
          have HQ1 : Hid (QAt B g wr V1 V2 V3 V4 V5 V6 { q with routes := putR q.routes d.turns, lock := putH q.lock d.locks }) := Lib.hid (by have := hq.out; rwa [List.take_of_length_le (by omega)] at this)
          clear hq
          go_wp2_with (fail)
          go_loopw [48] (fun kv wr => ∃ k : Nat, k ≤ d.ices.length ∧ kv = .int .i64 k ∧ Hid (QAt B g wr V1 V2 V3 V4 V5 V6 { q with routes := putR q.routes d.turns, lock := putH q.lock d.locks, ice := putH q.ice (d.ices.take k) }) ∧ s ≤ wr.heap.size ∧ Hid (Blk wr s #[.slice At d.turns.length ct, .slice Al d.locks.length cl, .slice Ai d.ices.length ci].toList) ∧ Hid (Below B w wr)) (fun kv _ => d.ices.length - (intOf kv).toNat)
          case atStart => exact ⟨0, Nat.zero_le _, rfl, HQ1, hsz, hbd, hb⟩
          case round =>
            obtain ⟨k, hk, rfl, hq, hsz, hbd, hb⟩ := hrel
            clear e0 e1 e2 HQ1
            by_cases hlt : k < d.ices.length
            · obtain ⟨BT0, o, eT, hBT, d0, d1, d2⟩ := HE.out.i.hold hlt
              subst eT
              have HT1 := Lib.hid (putH_snoc (l := q.ice) hlt)
              have hin := HI.out.i _ (List.getElem_mem hlt)
              have x0 : wr.cell? ⟨BT0, o + k * 3, none⟩ = some (.int .i64 d.ices[k].n) := by rw [(HW.out _ hb.out).cell hBT]; exact d0
              have x1 : wr.cell? ⟨BT0, o + k * 3 + 1, none⟩ = some (.int .i64 d.ices[k].b) := by rw [(HW.out _ hb.out).cell hBT]; exact d1
              have x2 : wr.cell? ⟨BT0, o + k * 3 + 2, none⟩ = some (.int .i64 d.ices[k].a) := by rw [(HW.out _ hb.out).cell hBT]; exact d2
              clear d0 d1 d2
              generalize d.ices[k] = h at *
              have BT := Lib.hid (blk_new wr #[.int .i64 h.n, .int .i64 h.b, .int .i64 h.a] 43)
              have HBT := Lib.hid (hb.out.alloc (Nat.le_trans hB hsz) (.cells #[.int .i64 h.n, .int .i64 h.b, .int .i64 h.a] 43))
              have HQT := Lib.hid (hq.out.below ((Below.refl _ _).alloc (Nat.le_refl _) (.cells #[.int .i64 h.n, .int .i64 h.b, .int .i64 h.a] 43)))
              have BDT := Lib.hid (hbd.out.alloc (.cells #[.int .i64 h.n, .int .i64 h.b, .int .i64 h.a] 43))
              clear hb hq hbd
              go_upto_region 14 with (fail)
              generalize wr.alloc (.cells #[.int .i64 h.n, .int .i64 h.b, .int .i64 h.a] 43) = wt at *
              have hszt : s ≤ wt.heap.size := by have := BT.out.1; omega
              have hTs : s ≤ wr.heap.size := hsz
              generalize wr.heap.size = T at *
              clear x0 x1 x2
              obtain ⟨cn, hcn⟩ : ∃ cn : Nat, h.n = (cn : Int) := ⟨h.n.toNat, by omega⟩
              have hcl : cn < q.ice.length := by omega
              have hcl2 : (cn : Int) < (q.ice.length : Int) := by omega
              have HCN := Lib.hid hcn
              have t0 := BT.out.at0.1
              have t2 := BT.out.at2.1
              rw [hcn] at t0
              clear hin hcn
              obtain ⟨b1, f1x, ev1, eb1, hb1g, hb1l, ht1, hx1, hf1⟩ := HQT.out.five.ice.at_ (k := cn) (show cn < (putH q.ice (d.ices.take k)).length by rw [putH_length]; exact hcl)
              have ev2 : V3 = .slice (some ⟨b1, 0, none⟩) q.ice.length f1x := by rw [ev1]; show Value.slice _ (putH q.ice _).length _ = _; rw [putH_length]
              have y0 : wt.cell? ⟨g, 2, none⟩ = some (.slice (some ⟨b1, 0, none⟩) q.ice.length f1x) := by rw [← ev2]; exact HQT.out.cells.2.2.1
              have EB1 := Lib.hid eb1
              have hb1s : b1 < s := HL2.out b1 eb1
              clear ev1 ev2 eb1
              refine wp_region_z (S := (fun W => W.cell? ⟨g, 2, none⟩ = some (.slice (some ⟨b1, 0, none⟩) q.ice.length f1x) ∧ W.cell? ⟨T, 0, none⟩ = some (.int .i64 (cn : Int)) ∧ W.cell? ⟨T, 2, none⟩ = some (.int .i64 h.a))) (z := 9) (by kernel_rfl) ⟨y0, t0, t2⟩ (fun hH => ?_)
              refine wpAnyZ_take (i := 0) (v := ?_) rfl (by kernel_rfl) (by kernel_rfl) (by kernel_rfl) rfl (by kernel_rfl) (fun _ _ _ h => h) (gives_value (by rfl) ?_) (by assumption) ?_
              rotate_left
              · intro w hSw
                obtain ⟨q0, q1, q2⟩ := hSw
                go_simp
                (try with_reducible rfl)
              (try simp only [putAll, Act.put, List.getElem_toArray, List.getElem_cons_succ, List.getElem_cons_zero, List.setIfInBounds_toArray, List.set_cons_zero, List.set_cons_succ])
              refine wpAnyZ_take (i := 1) (v := ?_) rfl (by kernel_rfl) (by kernel_rfl) (by kernel_rfl) rfl (by kernel_rfl) (fun _ _ _ h => h) (gives_value (by rfl) ?_) (by assumption) ?_
              rotate_left
              · intro w hSw
                obtain ⟨q0, q1, q2⟩ := hSw
                go_simp
                (try with_reducible rfl)
              (try simp only [putAll, Act.put, List.getElem_toArray, List.getElem_cons_succ, List.getElem_cons_zero, List.setIfInBounds_toArray, List.set_cons_zero, List.set_cons_succ])
              refine wpAnyZ_take (i := 2) (v := ?_) rfl (by kernel_rfl) (by kernel_rfl) (by kernel_rfl) rfl (by kernel_rfl) (fun _ _ _ h => h) (gives_value (by rfl) ?_) (by assumption) ?_
              rotate_left
              · intro w hSw
                obtain ⟨q0, q1, q2⟩ := hSw
                go_simp
                (try with_reducible rfl)
              (try simp only [putAll, Act.put, List.getElem_toArray, List.getElem_cons_succ, List.getElem_cons_zero, List.setIfInBounds_toArray, List.set_cons_zero, List.set_cons_succ])
              refine wpAnyZ_take (i := 3) (v := ?_) rfl (by kernel_rfl) (by kernel_rfl) (by kernel_rfl) rfl (by kernel_rfl) (fun _ _ _ h => h) (gives_value (by rfl) ?_) (by assumption) ?_
              rotate_left
              · intro w hSw
                obtain ⟨q0, q1, q2⟩ := hSw
                go_simp
                (try with_reducible rfl)
              (try simp only [putAll, Act.put, List.getElem_toArray, List.getElem_cons_succ, List.getElem_cons_zero, List.setIfInBounds_toArray, List.set_cons_zero, List.set_cons_succ])
              refine wpAnyZ_take (i := 4) (v := ?_) rfl (by kernel_rfl) (by kernel_rfl) (by kernel_rfl) rfl (by kernel_rfl) (fun _ _ _ h => h) (gives_value (by rfl) ?_) (by assumption) ?_
              rotate_left
              · intro w hSw
                obtain ⟨q0, q1, q2⟩ := hSw
                go_simp
                (try with_reducible rfl)
              (try simp only [putAll, Act.put, List.getElem_toArray, List.getElem_cons_succ, List.getElem_cons_zero, List.setIfInBounds_toArray, List.set_cons_zero, List.set_cons_succ])
              refine wpAnyZ_take (i := 5) (v := ?_) rfl (by kernel_rfl) (by kernel_rfl) (by kernel_rfl) rfl (by kernel_rfl) (fun _ _ _ h => h) (gives_value (by rfl) ?_) (by assumption) ?_
              rotate_left
              · intro w hSw
                obtain ⟨q0, q1, q2⟩ := hSw
                go_simp
                (try with_reducible rfl)
              (try simp only [putAll, Act.put, List.getElem_toArray, List.getElem_cons_succ, List.getElem_cons_zero, List.setIfInBounds_toArray, List.set_cons_zero, List.set_cons_succ])
              refine wpAnyZ_take (i := 6) (v := ?_) rfl (by kernel_rfl) (by kernel_rfl) (by kernel_rfl) rfl (by kernel_rfl) (fun _ _ _ h => h) (gives_value (by rfl) ?_) (by assumption) ?_
              rotate_left
              · intro w hSw
                obtain ⟨q0, q1, q2⟩ := hSw
                go_simp
                (try with_reducible rfl)
              (try simp only [putAll, Act.put, List.getElem_toArray, List.getElem_cons_succ, List.getElem_cons_zero, List.setIfInBounds_toArray, List.set_cons_zero, List.set_cons_succ])
              refine wpAnyZ_take (i := 7) (v := ?_) rfl (by kernel_rfl) (by kernel_rfl) (by kernel_rfl) rfl (by kernel_rfl) (fun _ _ _ h => h) (gives_value (by rfl) ?_) (by assumption) ?_
              rotate_left
              · intro w hSw
                obtain ⟨q0, q1, q2⟩ := hSw
                go_simp
                (try with_reducible rfl)
              (try simp only [putAll, Act.put, List.getElem_toArray, List.getElem_cons_succ, List.getElem_cons_zero, List.setIfInBounds_toArray, List.set_cons_zero, List.set_cons_succ])
              refine wpAnyZ_take (i := 8) (v := ?_) rfl (by kernel_rfl) (by kernel_rfl) (by kernel_rfl) rfl (by kernel_rfl) (fun _ _ _ h => h) (gives_value (by rfl) ?_) (by assumption) ?_
              rotate_left
              · intro w hSw
                obtain ⟨q0, q1, q2⟩ := hSw
                go_simp
                (try with_reducible rfl)
              (try simp only [putAll, Act.put, List.getElem_toArray, List.getElem_cons_succ, List.getElem_cons_zero, List.setIfInBounds_toArray, List.set_cons_zero, List.set_cons_succ])
              have z1 : wt.drew.frozen? ⟨b1, cn, none⟩ = false := hf1
              have z2 : wt.drew.cell? ⟨b1, cn, none⟩ = _ := hx1
              refine wpAnyZ_one (i := 9) (by kernel_rfl) ?_
              refine zstep rfl (fun K hK => ?_)
              go_simp
              have HQ7 : Hid (QAt B g (wt.drew.setCell ⟨b1, cn, none⟩ (.int .i64 h.a)) V1 V2 V3 V4 V5 V6 _) := Lib.hid ((HQT.out.below (Below.refl _ _).drew).put_ice EB1.out (k := cn) (show cn < (putH q.ice (d.ices.take k)).length by rw [putH_length]; exact hcl) h.a)
              have HB7 : Hid (Below B w (wt.drew.setCell ⟨b1, cn, none⟩ (.int .i64 h.a))) := Lib.hid (HBT.out.drew.setCell hb1g _)
              have BD7 : Hid (Blk (wt.drew.setCell ⟨b1, cn, none⟩ (.int .i64 h.a)) s _) := Lib.hid (BDT.out.drew.other (a := ⟨b1, cn, none⟩) (by show b1 ≠ s; omega) _)
              have hsz7 : s ≤ (wt.drew.setCell ⟨b1, cn, none⟩ (.int .i64 h.a)).heap.size := by rw [World.size_setCell]; exact hszt
              refine hK.out _ _ (fun h => absurd rfl h) (fun _ => ?_)
              clear hK K
              refine wpAnyZ_done (by kernel_rfl) ?_ _
              clear hH z1 z2 hf1 hx1 y0 t0 t2
              rw [show (wt.setCell ⟨b1, cn, none⟩ (.int .i64 h.a)).drew = wt.drew.setCell ⟨b1, cn, none⟩ (.int .i64 h.a) from rfl]
              generalize wt.drew.setCell ⟨b1, cn, none⟩ (.int .i64 h.a) = w7 at *
              go_wp2_with (fail)
              go_roundw
              case rel => exact ⟨k + 1, by omega, by go_num, Lib.hid (by have := HQ7.out; rw [HT1.out, HCN.out]; exact this), hsz7, BD7, HB7⟩
              case measure => simp [intOf]; omega
            · have HQ1 : Hid (QAt B g wr V1 V2 V3 V4 V5 V6 (changeP q d)) := Lib.hid (by have := hq.out; rwa [List.take_of_length_le (by omega)] at this)
              clear hq
              go_wp2_with (fail)
              go_end0
              exact ⟨rfl, HQ1.out, hb.out⟩
end Go.Proofs.Ytpccoflebfblbaa
