/- tab.Begin, End, Extend, Before: what they answer of heads and tails that are the problem's. -/
import Derived.Test.YtkheepedjoimmaaCodeExt
import Derived.Test.YtkheepedjoimmaaCodeBef
import Derived.Test.YtkheepedjoimmaaCodeAgreeT
namespace Go.Proofs.Ytkheepedjoimmaa
open Go.RowKit
set_option linter.unusedSimpArgs false

/-- a car as a value -/
def carV (i : Prob) (c : Int) : Value := .agg #[.int .i64 (carAt i c).c, .int .i64 (carAt i c).s, .int .i64 (carAt i c).e]
theorem HBn.dec {i : Prob} {h : HeadP} (H : HB i h) : ∃ la : Nat, h.last = (la : Int) := ⟨h.last.toNat, by have := H.last.1; omega⟩
theorem hagree_any (v : Value) (i : Prob) (c : Int) (ho : Option HeadP) (w : World) (hv : Lies w v i) (hf : Fine i) (hp : i.pairs.length ≤ 1000000) (hb : ∀ h, ho = some h → HB i h ∧ HdA i c h) :
    Calls Try.prog 38 #[v, carV i c, headV ho] w fun e w' => e = .returned (.bool ho.isSome) ∧ Below w.heap.size w w' := by
  obtain ⟨A1, A2, A3, A4, c1, c2, c3, c4, rfl, hs⟩ := hv.said
  have hcb := carAt_bounds hf c
  cases ho with
  | none => exact hagree_none i _ _ _ w A1 A2 A3 A4 c1 c2 c3 c4 hs
  | some h =>
    obtain ⟨HB, HA⟩ := hb h rfl
    rcases head_zero HA with ⟨_, rfl⟩ | ⟨hz, B⟩
    · exact hagree_begin i _ _ _ w A1 A2 A3 A4 c1 c2 c3 c4 hs
    · obtain ⟨last, leave, load, opn, set, cost⟩ := h
      have h1 := inB_iff.1 B.last
      simp only at h1
      obtain ⟨q, rfl⟩ : ∃ q : Nat, last = (q : Int) + 1 := ⟨(last - 1).toNat, by omega⟩
      exact hagree_in i q _ _ _ leave load cost opn set w A1 A2 A3 A4 c1 c2 c3 c4 hs hf hp (by omega) HB.leave HB.set (by omega) hz HA.opn HA.need HA.bit0 HA.top B.has B.fst HA.load HA.cap B.lo B.hi HA.cost
theorem tagree_any (v : Value) (i : Prob) (c : Int) (tl : Option TailP) (w : World) (hv : Lies w v i) (hf : Fine i) (hp : i.pairs.length ≤ 1000000) (hc : inB c 0 (i.cars.length - 1) = true) (hb : ∀ t, tl = some t → TBd i t ∧ 0 ≤ t.late ∧ t.late ≤ 1000 ∧ TlA i c t) :
    Calls Try.prog 39 #[v, carV i c, tailV tl] w fun e w' => e = .returned (.bool tl.isSome) ∧ Below w.heap.size w w' := by
  obtain ⟨A1, A2, A3, A4, c1, c2, c3, c4, rfl, hs⟩ := hv.said
  have hcb : 0 ≤ (carAt i c).e ∧ (carAt i c).e ≤ 1000 := (end_tbn hf hc).late
  cases tl with
  | none => exact tagree_none i _ _ _ w A1 A2 A3 A4 c1 c2 c3 c4 hs
  | some t =>
    obtain ⟨HB, hl0, hl1, HA⟩ := hb t rfl
    rcases tail_zero HA with ⟨_, rfl⟩ | ⟨hz, B⟩
    · exact tagree_end i _ _ _ w A1 A2 A3 A4 c1 c2 c3 c4 hs
    · obtain ⟨first, late, low, high, need, set, cost⟩ := t
      have h1 := inB_iff.1 B.first
      simp only at h1
      obtain ⟨q, rfl⟩ : ∃ q : Nat, first = (q : Int) + 1 := ⟨(first - 1).toNat, by omega⟩
      exact tagree_in i q _ _ _ late low high cost need set w A1 A2 A3 A4 c1 c2 c3 c4 hs hf hp (by omega) ⟨hl0, hl1⟩ HB.set hcb hz HA.need HA.opn HA.bit0 HA.top B.has B.snd HA.low HA.high B.lo B.hi HA.cost

set_option maxRecDepth 100000 in
set_option maxHeartbeats 4000000 in
theorem pbegin_any (v : Value) (i : Prob) (c : Int) (w : World) (hv : Lies w v i) (hok : probOk i = true) (hp : i.pairs.length ≤ 1000000) :
    Calls Try.prog 40 #[v, .int .i64 c] w fun e w' => e = .returned (headV (if inB c 0 (i.cars.length - 1) = true then some (beginH i c) else none)) ∧ Below w.heap.size w w' := by
  obtain ⟨A1, A2, A3, A4, c1, c2, c3, c4, rfl, hs⟩ := hv.said
  have BI0 : Hid (Box ((w.alloc (.cells #[.slice A1 i.cars.length c1, .slice A2 i.stops.length c2, .slice A3 i.pairs.length c3, .slice A4 i.travel.length c4] 28)).alloc (.cells #[.bool false, .int .i64 0, .int .i64 0, .int .i64 0, .int .u32 0, .int .u32 0, .int .i64 0] 44)) w.heap.size A1 A2 A3 A4 c1 c2 c3 c4 i) := (box_new hs 28).below ((Below.refl _ _).alloc (Nat.le_refl _) _)
  have RB0 : Hid (Blk ((w.alloc (.cells #[.slice A1 i.cars.length c1, .slice A2 i.stops.length c2, .slice A3 i.pairs.length c3, .slice A4 i.travel.length c4] 28)).alloc (.cells #[.bool false, .int .i64 0, .int .i64 0, .int .i64 0, .int .u32 0, .int .u32 0, .int .i64 0] 44)) (w.heap.size + 1) #[.bool false, .int .i64 0, .int .i64 0, .int .i64 0, .int .u32 0, .int .u32 0, .int .i64 0].toList) := blk_at _ _ (by simp)
  have HB0 : Hid (Below w.heap.size w ((w.alloc (.cells #[.slice A1 i.cars.length c1, .slice A2 i.stops.length c2, .slice A3 i.pairs.length c3, .slice A4 i.travel.length c4] 28)).alloc (.cells #[.bool false, .int .i64 0, .int .i64 0, .int .i64 0, .int .u32 0, .int .u32 0, .int .i64 0] 44))) := ((Below.refl _ _).alloc (Nat.le_refl _) _).alloc (by simp) _
  have KC := Lib.hid (fun W (hB : Below w.heap.size w W) => carThere_any _ i c W (Lies.below hs hB) hok hp)
  have KB := Lib.hid (fun W => cbegin_any (carAt i c).c (carAt i c).s (carAt i c).e W)
  obtain ⟨b, hb⟩ : ∃ b, inB c 0 (i.cars.length - 1) = b := ⟨_, rfl⟩
  have HC := Lib.hid hb
  rw [hb] at KC
  obtain ⟨res, hres⟩ : ∃ res, (if inB c 0 (i.cars.length - 1) = true then some (beginH i c) else none) = res := ⟨_, rfl⟩
  rw [hres]
  have HRS := Lib.hid hres
  clear hs hv hok hb hres
  go_enter Try.func40, Try.ntmps40
  go_upto_region 1 with (fail)
  generalize (w.alloc (.cells #[.slice A1 i.cars.length c1, .slice A2 i.stops.length c2, .slice A3 i.pairs.length c3, .slice A4 i.travel.length c4] 28)).alloc (.cells #[.bool false, .int .i64 0, .int .i64 0, .int .i64 0, .int .u32 0, .int .u32 0, .int .i64 0] 44) = wa at *
  have hRw : w.heap.size ≤ w.heap.size + 1 := by omega
  generalize w.heap.size + 1 = R at *
  have k0 := BI0.out.b0
  have k1 := BI0.out.b1
  have k2 := BI0.out.b2
  have k3 := BI0.out.b3
  have hIz := BI0.out.lt
  go_wp2_with (go_at_call 33; fail)
  (with_reducible refine (KC.out _ HB0.out).mono ?_)
  rintro e w1 ⟨rfl, hb1⟩
  have HB1 := Lib.hid (HB0.out.trans (hb1.mono HB0.out.size))
  have BI := Lib.hid (BI0.out.below hb1)
  have RB := Lib.hid (RB0.out.below hb1)
  clear hb1 k0 k1 k2 k3 hIz BI0 RB0 HB0 KC
  cases b
  · have HN : Hid (res = none) := by show _ = _; rw [← HRS.out, HC.out]; rfl
    have r0 := RB.out.cell (j := 0) rfl
    have z0 := (RB.out.2 0 (by simp)).2
    have r1 := RB.out.cell (j := 1) rfl
    have z1 := (RB.out.2 1 (by simp)).2
    have r2 := RB.out.cell (j := 2) rfl
    have z2 := (RB.out.2 2 (by simp)).2
    have r3 := RB.out.cell (j := 3) rfl
    have z3 := (RB.out.2 3 (by simp)).2
    have r4 := RB.out.cell (j := 4) rfl
    have z4 := (RB.out.2 4 (by simp)).2
    have r5 := RB.out.cell (j := 5) rfl
    have z5 := (RB.out.2 5 (by simp)).2
    have r6 := RB.out.cell (j := 6) rfl
    have z6 := (RB.out.2 6 (by simp)).2
    have hRz := RB.out.1
    have HBf := Lib.hid (below7 HB1.out hRw (.bool false) (.int .i64 0) (.int .i64 0) (.int .i64 0) (.int .u32 0) (.int .u32 0) (.int .i64 0))
    go_wp2
    exact bodyPost_ret (v := .agg #[.bool false, .int .i64 0, .int .i64 0, .int .i64 0, .int .u32 0, .int .u32 0, .int .i64 0]) (by simp [results, Try.results40, go_sem, r0, r1, r2, r3, r4, r5, r6, z0, z1, z2, z3, z4, z5, z6]) rfl ⟨by rw [HN.out]; rfl, HBf.out⟩
  · obtain ⟨cn, rfl⟩ : ∃ cn : Nat, c = (cn : Int) := ⟨c.toNat, by have := inB_iff.1 HC.out; omega⟩
    have hcn : cn < i.cars.length := by have := inB_iff.1 HC.out; omega
    have HN : Hid (res = some (beginH i cn)) := by show _ = _; rw [← HRS.out, HC.out]; rfl
    obtain ⟨B, o, rfl, hB, q0, q1, q2⟩ := said_car BI.out.lies hcn
    have k0 := BI.out.b0
    have hIz := BI.out.lt
    have n0 : (0 : Int) ≤ (cn : Int) := by omega
    have n1 : (cn : Int) < (i.cars.length : Int) := by omega
    have n2 : (cn : Int).toNat = cn := by omega
    go_wp2_with (go_at_call 34; fail)
    (with_reducible refine (KB.out _).mono ?_)
    rintro e w2 ⟨rfl, hb2⟩
    have HB2 := Lib.hid (HB1.out.trans (hb2.mono HB1.out.size))
    have RB2 := Lib.hid (RB.out.below hb2)
    clear hb2 q0 q1 q2 k0 hIz n0 n1 n2 BI RB HB1
    have r0 := RB2.out.cell (j := 0) rfl
    have z0 := (RB2.out.2 0 (by simp)).2
    have r1 := RB2.out.cell (j := 1) rfl
    have z1 := (RB2.out.2 1 (by simp)).2
    have r2 := RB2.out.cell (j := 2) rfl
    have z2 := (RB2.out.2 2 (by simp)).2
    have r3 := RB2.out.cell (j := 3) rfl
    have z3 := (RB2.out.2 3 (by simp)).2
    have r4 := RB2.out.cell (j := 4) rfl
    have z4 := (RB2.out.2 4 (by simp)).2
    have r5 := RB2.out.cell (j := 5) rfl
    have z5 := (RB2.out.2 5 (by simp)).2
    have r6 := RB2.out.cell (j := 6) rfl
    have z6 := (RB2.out.2 6 (by simp)).2
    have hRz := RB2.out.1
    have HBf := Lib.hid (below7 HB2.out hRw (.bool true) (.int .i64 0) (.int .i64 (carAt i cn).s) (.int .i64 0) (.int .u32 0) (.int .u32 0) (.int .i64 0))
    go_wp2
    exact bodyPost_ret (v := .agg #[.bool true, .int .i64 0, .int .i64 (carAt i cn).s, .int .i64 0, .int .u32 0, .int .u32 0, .int .i64 0]) (by simp [results, Try.results40, go_sem, r0, r1, r2, r3, r4, r5, r6, z0, z1, z2, z3, z4, z5, z6]) rfl ⟨by rw [HN.out]; rfl, HBf.out⟩
set_option maxRecDepth 100000 in
set_option maxHeartbeats 4000000 in
theorem pend_any (v : Value) (i : Prob) (c : Int) (w : World) (hv : Lies w v i) (hok : probOk i = true) (hp : i.pairs.length ≤ 1000000) :
    Calls Try.prog 41 #[v, .int .i64 c] w fun e w' => e = .returned (tailV (if inB c 0 (i.cars.length - 1) = true then some (endT i c) else none)) ∧ Below w.heap.size w w' := by
  obtain ⟨A1, A2, A3, A4, c1, c2, c3, c4, rfl, hs⟩ := hv.said
  have BI0 : Hid (Box ((w.alloc (.cells #[.slice A1 i.cars.length c1, .slice A2 i.stops.length c2, .slice A3 i.pairs.length c3, .slice A4 i.travel.length c4] 28)).alloc (.cells #[.bool false, .int .i64 0, .int .i64 0, .int .i64 0, .int .i64 0, .int .u32 0, .int .u32 0, .int .i64 0] 46)) w.heap.size A1 A2 A3 A4 c1 c2 c3 c4 i) := (box_new hs 28).below ((Below.refl _ _).alloc (Nat.le_refl _) _)
  have RB0 : Hid (Blk ((w.alloc (.cells #[.slice A1 i.cars.length c1, .slice A2 i.stops.length c2, .slice A3 i.pairs.length c3, .slice A4 i.travel.length c4] 28)).alloc (.cells #[.bool false, .int .i64 0, .int .i64 0, .int .i64 0, .int .i64 0, .int .u32 0, .int .u32 0, .int .i64 0] 46)) (w.heap.size + 1) #[.bool false, .int .i64 0, .int .i64 0, .int .i64 0, .int .i64 0, .int .u32 0, .int .u32 0, .int .i64 0].toList) := blk_at _ _ (by simp)
  have HB0 : Hid (Below w.heap.size w ((w.alloc (.cells #[.slice A1 i.cars.length c1, .slice A2 i.stops.length c2, .slice A3 i.pairs.length c3, .slice A4 i.travel.length c4] 28)).alloc (.cells #[.bool false, .int .i64 0, .int .i64 0, .int .i64 0, .int .i64 0, .int .u32 0, .int .u32 0, .int .i64 0] 46))) := ((Below.refl _ _).alloc (Nat.le_refl _) _).alloc (by simp) _
  have KC := Lib.hid (fun W (hB : Below w.heap.size w W) => carThere_any _ i c W (Lies.below hs hB) hok hp)
  have KB := Lib.hid (fun W => cend_any (carAt i c).c (carAt i c).s (carAt i c).e W)
  obtain ⟨b, hb⟩ : ∃ b, inB c 0 (i.cars.length - 1) = b := ⟨_, rfl⟩
  have HC := Lib.hid hb
  rw [hb] at KC
  obtain ⟨res, hres⟩ : ∃ res, (if inB c 0 (i.cars.length - 1) = true then some (endT i c) else none) = res := ⟨_, rfl⟩
  rw [hres]
  have HRS := Lib.hid hres
  clear hs hv hok hb hres
  go_enter Try.func41, Try.ntmps41
  go_upto_region 1 with (fail)
  generalize (w.alloc (.cells #[.slice A1 i.cars.length c1, .slice A2 i.stops.length c2, .slice A3 i.pairs.length c3, .slice A4 i.travel.length c4] 28)).alloc (.cells #[.bool false, .int .i64 0, .int .i64 0, .int .i64 0, .int .i64 0, .int .u32 0, .int .u32 0, .int .i64 0] 46) = wa at *
  have hRw : w.heap.size ≤ w.heap.size + 1 := by omega
  generalize w.heap.size + 1 = R at *
  have k0 := BI0.out.b0
  have k1 := BI0.out.b1
  have k2 := BI0.out.b2
  have k3 := BI0.out.b3
  have hIz := BI0.out.lt
  go_wp2_with (go_at_call 33; fail)
  (with_reducible refine (KC.out _ HB0.out).mono ?_)
  rintro e w1 ⟨rfl, hb1⟩
  have HB1 := Lib.hid (HB0.out.trans (hb1.mono HB0.out.size))
  have BI := Lib.hid (BI0.out.below hb1)
  have RB := Lib.hid (RB0.out.below hb1)
  clear hb1 k0 k1 k2 k3 hIz BI0 RB0 HB0 KC
  cases b
  · have HN : Hid (res = none) := by show _ = _; rw [← HRS.out, HC.out]; rfl
    have r0 := RB.out.cell (j := 0) rfl
    have z0 := (RB.out.2 0 (by simp)).2
    have r1 := RB.out.cell (j := 1) rfl
    have z1 := (RB.out.2 1 (by simp)).2
    have r2 := RB.out.cell (j := 2) rfl
    have z2 := (RB.out.2 2 (by simp)).2
    have r3 := RB.out.cell (j := 3) rfl
    have z3 := (RB.out.2 3 (by simp)).2
    have r4 := RB.out.cell (j := 4) rfl
    have z4 := (RB.out.2 4 (by simp)).2
    have r5 := RB.out.cell (j := 5) rfl
    have z5 := (RB.out.2 5 (by simp)).2
    have r6 := RB.out.cell (j := 6) rfl
    have z6 := (RB.out.2 6 (by simp)).2
    have r7 := RB.out.cell (j := 7) rfl
    have z7 := (RB.out.2 7 (by simp)).2
    have hRz := RB.out.1
    have HBf := Lib.hid (below8 HB1.out hRw (.bool false) (.int .i64 0) (.int .i64 0) (.int .i64 0) (.int .i64 0) (.int .u32 0) (.int .u32 0) (.int .i64 0))
    go_wp2
    exact bodyPost_ret (v := .agg #[.bool false, .int .i64 0, .int .i64 0, .int .i64 0, .int .i64 0, .int .u32 0, .int .u32 0, .int .i64 0]) (by simp [results, Try.results41, go_sem, r0, r1, r2, r3, r4, r5, r6, r7, z0, z1, z2, z3, z4, z5, z6, z7]) rfl ⟨by rw [HN.out]; rfl, HBf.out⟩
  · obtain ⟨cn, rfl⟩ : ∃ cn : Nat, c = (cn : Int) := ⟨c.toNat, by have := inB_iff.1 HC.out; omega⟩
    have hcn : cn < i.cars.length := by have := inB_iff.1 HC.out; omega
    have HN : Hid (res = some (endT i cn)) := by show _ = _; rw [← HRS.out, HC.out]; rfl
    obtain ⟨B, o, rfl, hB, q0, q1, q2⟩ := said_car BI.out.lies hcn
    have k0 := BI.out.b0
    have hIz := BI.out.lt
    have n0 : (0 : Int) ≤ (cn : Int) := by omega
    have n1 : (cn : Int) < (i.cars.length : Int) := by omega
    have n2 : (cn : Int).toNat = cn := by omega
    go_wp2_with (go_at_call 36; fail)
    (with_reducible refine (KB.out _).mono ?_)
    rintro e w2 ⟨rfl, hb2⟩
    have HB2 := Lib.hid (HB1.out.trans (hb2.mono HB1.out.size))
    have RB2 := Lib.hid (RB.out.below hb2)
    clear hb2 q0 q1 q2 k0 hIz n0 n1 n2 BI RB HB1
    have r0 := RB2.out.cell (j := 0) rfl
    have z0 := (RB2.out.2 0 (by simp)).2
    have r1 := RB2.out.cell (j := 1) rfl
    have z1 := (RB2.out.2 1 (by simp)).2
    have r2 := RB2.out.cell (j := 2) rfl
    have z2 := (RB2.out.2 2 (by simp)).2
    have r3 := RB2.out.cell (j := 3) rfl
    have z3 := (RB2.out.2 3 (by simp)).2
    have r4 := RB2.out.cell (j := 4) rfl
    have z4 := (RB2.out.2 4 (by simp)).2
    have r5 := RB2.out.cell (j := 5) rfl
    have z5 := (RB2.out.2 5 (by simp)).2
    have r6 := RB2.out.cell (j := 6) rfl
    have z6 := (RB2.out.2 6 (by simp)).2
    have r7 := RB2.out.cell (j := 7) rfl
    have z7 := (RB2.out.2 7 (by simp)).2
    have hRz := RB2.out.1
    have HBf := Lib.hid (below8 HB2.out hRw (.bool true) (.int .i64 0) (.int .i64 (carAt i cn).e) (.int .i64 0) (.int .i64 0) (.int .u32 0) (.int .u32 0) (.int .i64 0))
    go_wp2
    exact bodyPost_ret (v := .agg #[.bool true, .int .i64 0, .int .i64 (carAt i cn).e, .int .i64 0, .int .i64 0, .int .u32 0, .int .u32 0, .int .i64 0]) (by simp [results, Try.results41, go_sem, r0, r1, r2, r3, r4, r5, r6, r7, z0, z1, z2, z3, z4, z5, z6, z7]) rfl ⟨by rw [HN.out]; rfl, HBf.out⟩
set_option maxRecDepth 100000 in
set_option maxHeartbeats 8000000 in
theorem pextend_out (i : Prob) (c : Int) (ok : Bool) (x1 x2 x3 x4 x5 x6 : Int) (s : Int) (w : World) (A1 A2 A3 A4 : Option Addr) (c1 c2 c3 c4 : Nat) (hs : Said w A1 A2 A3 A4 c1 c2 c3 c4 i) (KC : ∀ W, Below w.heap.size w W → Calls Try.prog 33 #[.agg #[.slice A1 i.cars.length c1, .slice A2 i.stops.length c2, .slice A3 i.pairs.length c3, .slice A4 i.travel.length c4], .int .i64 c] W fun e w' => e = .returned (.bool false) ∧ Below W.heap.size W w') :
    Calls Try.prog 47 #[.agg #[.slice A1 i.cars.length c1, .slice A2 i.stops.length c2, .slice A3 i.pairs.length c3, .slice A4 i.travel.length c4], .int .i64 c, .agg #[.bool ok, .int .i64 x1, .int .i64 x2, .int .i64 x3, .int .u32 x4, .int .u32 x5, .int .i64 x6], .int .i64 s] w fun e w' => e = .returned (headV none) ∧ Below w.heap.size w w' := by
  have ES0 := Lib.hid (bef_es0 hs #[.bool ok, .int .i64 x1, .int .i64 x2, .int .i64 x3, .int .u32 x4, .int .u32 x5, .int .i64 x6] #[.bool false, .int .i64 0, .int .i64 0, .int .i64 0, .int .u32 0, .int .u32 0, .int .i64 0] 28 44 44)
  have KC := Lib.hid KC
  clear hs
  go_enter Try.func47, Try.ntmps47
  go_upto_region 1 with (fail)
  generalize ((w.alloc (.cells #[.slice A1 i.cars.length c1, .slice A2 i.stops.length c2, .slice A3 i.pairs.length c3, .slice A4 i.travel.length c4] 28)).alloc (.cells #[.bool ok, .int .i64 x1, .int .i64 x2, .int .i64 x3, .int .u32 x4, .int .u32 x5, .int .i64 x6] 44)).alloc (.cells #[.bool false, .int .i64 0, .int .i64 0, .int .i64 0, .int .u32 0, .int .u32 0, .int .i64 0] 44) = wa at *
  have hRw : w.heap.size ≤ w.heap.size + 1 + 1 := by omega
  generalize w.heap.size + 1 + 1 = R at *
  generalize w.heap.size + 1 = H at *
  have SS : Hid (∀ W, Below wa.heap.size wa W → W.cell? ⟨w.heap.size, 0, none⟩ = some (.slice A1 i.cars.length c1) ∧ W.cell? ⟨w.heap.size, 1, none⟩ = some (.slice A2 i.stops.length c2) ∧ W.cell? ⟨w.heap.size, 2, none⟩ = some (.slice A3 i.pairs.length c3) ∧ W.cell? ⟨w.heap.size, 3, none⟩ = some (.slice A4 i.travel.length c4)) := fun W hB => ⟨(ES0.out.box.below hB).b0, (ES0.out.box.below hB).b1, (ES0.out.box.below hB).b2, (ES0.out.box.below hB).b3⟩
  refine wp_region_z (S := (fun W => W.cell? ⟨w.heap.size, 0, none⟩ = some (.slice A1 i.cars.length c1) ∧ W.cell? ⟨w.heap.size, 1, none⟩ = some (.slice A2 i.stops.length c2) ∧ W.cell? ⟨w.heap.size, 2, none⟩ = some (.slice A3 i.pairs.length c3) ∧ W.cell? ⟨w.heap.size, 3, none⟩ = some (.slice A4 i.travel.length c4))) (z := 15) (by kernel_rfl) (SS.out _ (Below.refl wa.heap.size wa).drew) (fun hH => ?_)
  refine wpAnyZ_takeS (i := 0) (v := ?_) rfl (by kernel_rfl) (by kernel_rfl) (by kernel_rfl) (by kernel_rfl) (fun _ _ _ h => h) (gives_value (by rfl) ?_) (by assumption) ?_
  rotate_left
  · intro w hSw
    (try dsimp only at hSw)
    go_simp
    (try with_reducible rfl)
  (try simp only [Act.put, List.getElem_toArray, List.getElem_cons_succ, List.getElem_cons_zero, List.setIfInBounds_toArray, List.set_cons_zero, List.set_cons_succ])
  refine wpAnyZ_takeS (i := 1) (v := ?_) rfl (by kernel_rfl) (by kernel_rfl) (by kernel_rfl) (by kernel_rfl) (fun _ _ _ h => h) (gives_value (by rfl) ?_) (by assumption) ?_
  rotate_left
  · intro w hSw
    (try dsimp only at hSw)
    go_simp
    (try with_reducible rfl)
  (try simp only [Act.put, List.getElem_toArray, List.getElem_cons_succ, List.getElem_cons_zero, List.setIfInBounds_toArray, List.set_cons_zero, List.set_cons_succ])
  refine wpAnyZ_one (i := 2) (by kernel_rfl) ?_
  refine zstep rfl (fun K hK => ?_)
  go_simp
  (with_reducible refine (KC.out _ ES0.out.below.drew).mono ?_)
  rintro e w1 ⟨rfl, hb⟩
  have HB1 := Lib.hid (((Below.refl wa.heap.size wa).drew).trans hb)
  clear hb
  refine hK.out _ _ (fun _ => SS.out _ HB1.out) (fun hH => ?_)
  replace hH := hH (by decide)
  clear hK K
  (try simp only [Act.put, List.getElem_toArray, List.getElem_cons_succ, List.getElem_cons_zero, List.setIfInBounds_toArray, List.set_cons_zero, List.set_cons_succ])
  refine wpAnyZ_takeS (i := 3) (v := ?_) rfl (by kernel_rfl) (by kernel_rfl) (by kernel_rfl) (by kernel_rfl) (fun _ _ _ h => h) (gives_value (by rfl) ?_) (by assumption) ?_
  rotate_left
  · intro w hSw
    (try dsimp only at hSw)
    go_simp
    (try with_reducible rfl)
  (try simp only [Act.put, List.getElem_toArray, List.getElem_cons_succ, List.getElem_cons_zero, List.setIfInBounds_toArray, List.set_cons_zero, List.set_cons_succ])
  refine wpAnyZ_takeS (i := 4) (v := ?_) rfl (by kernel_rfl) (by kernel_rfl) (by kernel_rfl) (by kernel_rfl) (fun _ _ _ h => h) (gives_value (by rfl) ?_) (by assumption) ?_
  rotate_left
  · intro w hSw
    (try dsimp only at hSw)
    go_simp
    (try with_reducible rfl)
  (try simp only [Act.put, List.getElem_toArray, List.getElem_cons_succ, List.getElem_cons_zero, List.setIfInBounds_toArray, List.set_cons_zero, List.set_cons_succ])
  refine wpAnyZ_skipS (i := 5) rfl (by kernel_rfl) (by kernel_rfl) (by kernel_rfl) (by kernel_rfl) (fun _ _ _ h => h) (by rfl) (by assumption) ?_
  (try simp only [Act.put, List.getElem_toArray, List.getElem_cons_succ, List.getElem_cons_zero, List.setIfInBounds_toArray, List.set_cons_zero, List.set_cons_succ])
  refine wpAnyZ_skipS (i := 6) rfl (by kernel_rfl) (by kernel_rfl) (by kernel_rfl) (by kernel_rfl) (fun _ _ _ h => h) (by rfl) (by assumption) ?_
  (try simp only [Act.put, List.getElem_toArray, List.getElem_cons_succ, List.getElem_cons_zero, List.setIfInBounds_toArray, List.set_cons_zero, List.set_cons_succ])
  refine wpAnyZ_skipS (i := 7) rfl (by kernel_rfl) (by kernel_rfl) (by kernel_rfl) (by kernel_rfl) (fun _ _ _ h => h) (by rfl) (by assumption) ?_
  (try simp only [Act.put, List.getElem_toArray, List.getElem_cons_succ, List.getElem_cons_zero, List.setIfInBounds_toArray, List.set_cons_zero, List.set_cons_succ])
  refine wpAnyZ_skipS (i := 8) rfl (by kernel_rfl) (by kernel_rfl) (by kernel_rfl) (by kernel_rfl) (fun _ _ _ h => h) (by rfl) (by assumption) ?_
  (try simp only [Act.put, List.getElem_toArray, List.getElem_cons_succ, List.getElem_cons_zero, List.setIfInBounds_toArray, List.set_cons_zero, List.set_cons_succ])
  refine wpAnyZ_skipS (i := 9) rfl (by kernel_rfl) (by kernel_rfl) (by kernel_rfl) (by kernel_rfl) (fun _ _ _ h => h) (by rfl) (by assumption) ?_
  (try simp only [Act.put, List.getElem_toArray, List.getElem_cons_succ, List.getElem_cons_zero, List.setIfInBounds_toArray, List.set_cons_zero, List.set_cons_succ])
  refine wpAnyZ_skipS (i := 10) rfl (by kernel_rfl) (by kernel_rfl) (by kernel_rfl) (by kernel_rfl) (fun _ _ _ h => h) (by rfl) (by assumption) ?_
  (try simp only [Act.put, List.getElem_toArray, List.getElem_cons_succ, List.getElem_cons_zero, List.setIfInBounds_toArray, List.set_cons_zero, List.set_cons_succ])
  refine wpAnyZ_skipS (i := 11) rfl (by kernel_rfl) (by kernel_rfl) (by kernel_rfl) (by kernel_rfl) (fun _ _ _ h => h) (by rfl) (by assumption) ?_
  (try simp only [Act.put, List.getElem_toArray, List.getElem_cons_succ, List.getElem_cons_zero, List.setIfInBounds_toArray, List.set_cons_zero, List.set_cons_succ])
  refine wpAnyZ_skipS (i := 12) rfl (by kernel_rfl) (by kernel_rfl) (by kernel_rfl) (by kernel_rfl) (fun _ _ _ h => h) (by rfl) (by assumption) ?_
  (try simp only [Act.put, List.getElem_toArray, List.getElem_cons_succ, List.getElem_cons_zero, List.setIfInBounds_toArray, List.set_cons_zero, List.set_cons_succ])
  refine wpAnyZ_skipS (i := 13) rfl (by kernel_rfl) (by kernel_rfl) (by kernel_rfl) (by kernel_rfl) (fun _ _ _ h => h) (by rfl) (by assumption) ?_
  (try simp only [Act.put, List.getElem_toArray, List.getElem_cons_succ, List.getElem_cons_zero, List.setIfInBounds_toArray, List.set_cons_zero, List.set_cons_succ])
  refine wpAnyZ_takeS (i := 14) (v := ?_) rfl (by kernel_rfl) (by kernel_rfl) (by kernel_rfl) (by kernel_rfl) (fun _ _ _ h => h) (gives_value (by rfl) ?_) (by assumption) ?_
  rotate_left
  · intro w hSw
    (try dsimp only at hSw)
    go_simp
    (try with_reducible rfl)
  (try simp only [Act.put, List.getElem_toArray, List.getElem_cons_succ, List.getElem_cons_zero, List.setIfInBounds_toArray, List.set_cons_zero, List.set_cons_succ])
  refine wpAnyZ_done (by kernel_rfl) ?_ _
  have ES2 := Lib.hid (ES0.out.on HB1.out)
  clear hH
  clear SS ES0
  have r0 := ES2.out.rb.cell (j := 0) rfl
  have z0 := (ES2.out.rb.2 0 (by simp)).2
  have r1 := ES2.out.rb.cell (j := 1) rfl
  have z1 := (ES2.out.rb.2 1 (by simp)).2
  have r2 := ES2.out.rb.cell (j := 2) rfl
  have z2 := (ES2.out.rb.2 2 (by simp)).2
  have r3 := ES2.out.rb.cell (j := 3) rfl
  have z3 := (ES2.out.rb.2 3 (by simp)).2
  have r4 := ES2.out.rb.cell (j := 4) rfl
  have z4 := (ES2.out.rb.2 4 (by simp)).2
  have r5 := ES2.out.rb.cell (j := 5) rfl
  have z5 := (ES2.out.rb.2 5 (by simp)).2
  have r6 := ES2.out.rb.cell (j := 6) rfl
  have z6 := (ES2.out.rb.2 6 (by simp)).2
  have hRz := ES2.out.rb.1
  have HBf := Lib.hid (below7 ES2.out.below hRw (.bool false) (.int .i64 0) (.int .i64 0) (.int .i64 0) (.int .u32 0) (.int .u32 0) (.int .i64 0))
  go_wp2
  exact bodyPost_ret (v := .agg #[.bool false, .int .i64 0, .int .i64 0, .int .i64 0, .int .u32 0, .int .u32 0, .int .i64 0]) (by simp [results, Try.results47, go_sem, r0, r1, r2, r3, r4, r5, r6, z0, z1, z2, z3, z4, z5, z6]) rfl ⟨rfl, HBf.out⟩
set_option maxRecDepth 100000 in
set_option maxHeartbeats 8000000 in
theorem pextend_no (i : Prob) (cn : Nat) (cap st en : Int) (ok : Bool) (x1 x2 x3 x4 x5 x6 : Int) (s : Int) (w : World) (B3 o3 : Nat) (A2 A3 A4 : Option Addr) (c1 c2 c3 c4 : Nat) (hs : Said w (some ⟨B3, o3, none⟩) A2 A3 A4 c1 c2 c3 c4 i) (KC : ∀ W, Below w.heap.size w W → Calls Try.prog 33 #[.agg #[.slice (some ⟨B3, o3, none⟩) i.cars.length c1, .slice A2 i.stops.length c2, .slice A3 i.pairs.length c3, .slice A4 i.travel.length c4], .int .i64 cn] W fun e w' => e = .returned (.bool true) ∧ Below W.heap.size W w') (hcn : cn < i.cars.length) (hB3 : B3 < w.heap.size) (e0 : w.cell? ⟨B3, o3 + cn * 3, none⟩ = some (.int .i64 cap)) (e1 : w.cell? ⟨B3, o3 + cn * 3 + 1, none⟩ = some (.int .i64 st)) (e2 : w.cell? ⟨B3, o3 + cn * 3 + 2, none⟩ = some (.int .i64 en))
    (KA : ∀ W, Below w.heap.size w W → Calls Try.prog 38 #[.agg #[.slice (some ⟨B3, o3, none⟩) i.cars.length c1, .slice A2 i.stops.length c2, .slice A3 i.pairs.length c3, .slice A4 i.travel.length c4], .agg #[.int .i64 cap, .int .i64 st, .int .i64 en], .agg #[.bool ok, .int .i64 x1, .int .i64 x2, .int .i64 x3, .int .u32 x4, .int .u32 x5, .int .i64 x6]] W fun e w' => e = .returned (.bool false) ∧ Below W.heap.size W w') :
    Calls Try.prog 47 #[.agg #[.slice (some ⟨B3, o3, none⟩) i.cars.length c1, .slice A2 i.stops.length c2, .slice A3 i.pairs.length c3, .slice A4 i.travel.length c4], .int .i64 cn, .agg #[.bool ok, .int .i64 x1, .int .i64 x2, .int .i64 x3, .int .u32 x4, .int .u32 x5, .int .i64 x6], .int .i64 s] w fun e w' => e = .returned (headV none) ∧ Below w.heap.size w w' := by
  have ES0 := Lib.hid (bef_es0 hs #[.bool ok, .int .i64 x1, .int .i64 x2, .int .i64 x3, .int .u32 x4, .int .u32 x5, .int .i64 x6] #[.bool false, .int .i64 0, .int .i64 0, .int .i64 0, .int .u32 0, .int .u32 0, .int .i64 0] 28 44 44)
  have KC := Lib.hid KC
  have KA := Lib.hid KA
  have e0' := Lib.hid e0
  have e1' := Lib.hid e1
  have e2' := Lib.hid e2
  clear hs e0 e1 e2
  go_enter Try.func47, Try.ntmps47
  go_upto_region 1 with (fail)
  generalize ((w.alloc (.cells #[.slice (some ⟨B3, o3, none⟩) i.cars.length c1, .slice A2 i.stops.length c2, .slice A3 i.pairs.length c3, .slice A4 i.travel.length c4] 28)).alloc (.cells #[.bool ok, .int .i64 x1, .int .i64 x2, .int .i64 x3, .int .u32 x4, .int .u32 x5, .int .i64 x6] 44)).alloc (.cells #[.bool false, .int .i64 0, .int .i64 0, .int .i64 0, .int .u32 0, .int .u32 0, .int .i64 0] 44) = wa at *
  have hRw : w.heap.size ≤ w.heap.size + 1 + 1 := by omega
  generalize w.heap.size + 1 + 1 = R at *
  generalize w.heap.size + 1 = H at *
  have SS : Hid (∀ W, Below wa.heap.size wa W → W.cell? ⟨w.heap.size, 0, none⟩ = some (.slice (some ⟨B3, o3, none⟩) i.cars.length c1) ∧ W.cell? ⟨w.heap.size, 1, none⟩ = some (.slice A2 i.stops.length c2) ∧ W.cell? ⟨w.heap.size, 2, none⟩ = some (.slice A3 i.pairs.length c3) ∧ W.cell? ⟨w.heap.size, 3, none⟩ = some (.slice A4 i.travel.length c4) ∧ W.cell? ⟨H, 0, none⟩ = some (.bool ok) ∧ W.cell? ⟨H, 1, none⟩ = some (.int .i64 x1) ∧ W.cell? ⟨H, 2, none⟩ = some (.int .i64 x2) ∧ W.cell? ⟨H, 3, none⟩ = some (.int .i64 x3) ∧ W.cell? ⟨H, 4, none⟩ = some (.int .u32 x4) ∧ W.cell? ⟨H, 5, none⟩ = some (.int .u32 x5) ∧ W.cell? ⟨H, 6, none⟩ = some (.int .i64 x6) ∧ W.cell? ⟨B3, o3 + cn * 3, none⟩ = some (.int .i64 cap) ∧ W.cell? ⟨B3, o3 + cn * 3 + 1, none⟩ = some (.int .i64 st) ∧ W.cell? ⟨B3, o3 + cn * 3 + 2, none⟩ = some (.int .i64 en)) := fun W hB =>
    have hB' : Below w.heap.size w W := ES0.out.below.trans (hB.mono ES0.out.below.size)
    ⟨(ES0.out.box.below hB).b0, (ES0.out.box.below hB).b1, (ES0.out.box.below hB).b2, (ES0.out.box.below hB).b3, (ES0.out.hb.below hB).cell (j := 0) rfl, (ES0.out.hb.below hB).cell (j := 1) rfl, (ES0.out.hb.below hB).cell (j := 2) rfl, (ES0.out.hb.below hB).cell (j := 3) rfl, (ES0.out.hb.below hB).cell (j := 4) rfl, (ES0.out.hb.below hB).cell (j := 5) rfl, (ES0.out.hb.below hB).cell (j := 6) rfl, cell_up hB' hB3 e0'.out, cell_up hB' hB3 e1'.out, cell_up hB' hB3 e2'.out⟩
  have n0 : (0 : Int) ≤ (cn : Int) := by omega
  have n1 : (cn : Int) < (i.cars.length : Int) := by omega
  have n2 : (cn : Int).toNat = cn := by omega
  refine wp_region_z (S := (fun W => W.cell? ⟨w.heap.size, 0, none⟩ = some (.slice (some ⟨B3, o3, none⟩) i.cars.length c1) ∧ W.cell? ⟨w.heap.size, 1, none⟩ = some (.slice A2 i.stops.length c2) ∧ W.cell? ⟨w.heap.size, 2, none⟩ = some (.slice A3 i.pairs.length c3) ∧ W.cell? ⟨w.heap.size, 3, none⟩ = some (.slice A4 i.travel.length c4) ∧ W.cell? ⟨H, 0, none⟩ = some (.bool ok) ∧ W.cell? ⟨H, 1, none⟩ = some (.int .i64 x1) ∧ W.cell? ⟨H, 2, none⟩ = some (.int .i64 x2) ∧ W.cell? ⟨H, 3, none⟩ = some (.int .i64 x3) ∧ W.cell? ⟨H, 4, none⟩ = some (.int .u32 x4) ∧ W.cell? ⟨H, 5, none⟩ = some (.int .u32 x5) ∧ W.cell? ⟨H, 6, none⟩ = some (.int .i64 x6) ∧ W.cell? ⟨B3, o3 + cn * 3, none⟩ = some (.int .i64 cap) ∧ W.cell? ⟨B3, o3 + cn * 3 + 1, none⟩ = some (.int .i64 st) ∧ W.cell? ⟨B3, o3 + cn * 3 + 2, none⟩ = some (.int .i64 en))) (z := 15) (by kernel_rfl) (SS.out _ (Below.refl wa.heap.size wa).drew) (fun hH => ?_)
  refine wpAnyZ_takeS (i := 0) (v := ?_) rfl (by kernel_rfl) (by kernel_rfl) (by kernel_rfl) (by kernel_rfl) (fun _ _ _ h => h) (gives_value (by rfl) ?_) (by assumption) ?_
  rotate_left
  · intro w hSw
    (try dsimp only at hSw)
    go_simp
    (try with_reducible rfl)
  (try simp only [Act.put, List.getElem_toArray, List.getElem_cons_succ, List.getElem_cons_zero, List.setIfInBounds_toArray, List.set_cons_zero, List.set_cons_succ])
  refine wpAnyZ_takeS (i := 1) (v := ?_) rfl (by kernel_rfl) (by kernel_rfl) (by kernel_rfl) (by kernel_rfl) (fun _ _ _ h => h) (gives_value (by rfl) ?_) (by assumption) ?_
  rotate_left
  · intro w hSw
    (try dsimp only at hSw)
    go_simp
    (try with_reducible rfl)
  (try simp only [Act.put, List.getElem_toArray, List.getElem_cons_succ, List.getElem_cons_zero, List.setIfInBounds_toArray, List.set_cons_zero, List.set_cons_succ])
  refine wpAnyZ_one (i := 2) (by kernel_rfl) ?_
  refine zstep rfl (fun K hK => ?_)
  go_simp
  (with_reducible refine (KC.out _ ES0.out.below.drew).mono ?_)
  rintro e w1 ⟨rfl, hb⟩
  have HB1 := Lib.hid (((Below.refl wa.heap.size wa).drew).trans hb)
  clear hb
  refine hK.out _ _ (fun _ => SS.out _ HB1.out) (fun hH => ?_)
  replace hH := hH (by decide)
  clear hK K
  (try simp only [Act.put, List.getElem_toArray, List.getElem_cons_succ, List.getElem_cons_zero, List.setIfInBounds_toArray, List.set_cons_zero, List.set_cons_succ])
  refine wpAnyZ_takeS (i := 3) (v := ?_) rfl (by kernel_rfl) (by kernel_rfl) (by kernel_rfl) (by kernel_rfl) (fun _ _ _ h => h) (gives_value (by rfl) ?_) (by assumption) ?_
  rotate_left
  · intro w hSw
    (try dsimp only at hSw)
    go_simp
    (try with_reducible rfl)
  (try simp only [Act.put, List.getElem_toArray, List.getElem_cons_succ, List.getElem_cons_zero, List.setIfInBounds_toArray, List.set_cons_zero, List.set_cons_succ])
  refine wpAnyZ_takeS (i := 4) (v := ?_) rfl (by kernel_rfl) (by kernel_rfl) (by kernel_rfl) (by kernel_rfl) (fun _ _ _ h => h) (gives_value (by rfl) ?_) (by assumption) ?_
  rotate_left
  · intro w hSw
    (try dsimp only at hSw)
    go_simp
    (try with_reducible rfl)
  (try simp only [Act.put, List.getElem_toArray, List.getElem_cons_succ, List.getElem_cons_zero, List.setIfInBounds_toArray, List.set_cons_zero, List.set_cons_succ])
  refine wpAnyZ_takeS (i := 5) (v := ?_) rfl (by kernel_rfl) (by kernel_rfl) (by kernel_rfl) (by kernel_rfl) (fun _ _ _ h => h) (gives_value (by rfl) ?_) (by assumption) ?_
  rotate_left
  · intro w hSw
    (try dsimp only at hSw)
    go_simp
    (try with_reducible rfl)
  (try simp only [Act.put, List.getElem_toArray, List.getElem_cons_succ, List.getElem_cons_zero, List.setIfInBounds_toArray, List.set_cons_zero, List.set_cons_succ])
  refine wpAnyZ_takeS (i := 6) (v := ?_) rfl (by kernel_rfl) (by kernel_rfl) (by kernel_rfl) (by kernel_rfl) (fun _ _ _ h => h) (gives_value (by rfl) ?_) (by assumption) ?_
  rotate_left
  · intro w hSw
    (try dsimp only at hSw)
    go_simp
    (try with_reducible rfl)
  (try simp only [Act.put, List.getElem_toArray, List.getElem_cons_succ, List.getElem_cons_zero, List.setIfInBounds_toArray, List.set_cons_zero, List.set_cons_succ])
  refine wpAnyZ_takeS (i := 7) (v := ?_) rfl (by kernel_rfl) (by kernel_rfl) (by kernel_rfl) (by kernel_rfl) (fun _ _ _ h => h) (gives_value (by rfl) ?_) (by assumption) ?_
  rotate_left
  · intro w hSw
    (try dsimp only at hSw)
    go_simp
    (try with_reducible rfl)
  (try simp only [Act.put, List.getElem_toArray, List.getElem_cons_succ, List.getElem_cons_zero, List.setIfInBounds_toArray, List.set_cons_zero, List.set_cons_succ])
  refine wpAnyZ_takeS (i := 8) (v := ?_) rfl (by kernel_rfl) (by kernel_rfl) (by kernel_rfl) (by kernel_rfl) (fun _ _ _ h => h) (gives_value (by rfl) ?_) (by assumption) ?_
  rotate_left
  · intro w hSw
    (try dsimp only at hSw)
    go_simp
    (try with_reducible rfl)
  (try simp only [Act.put, List.getElem_toArray, List.getElem_cons_succ, List.getElem_cons_zero, List.setIfInBounds_toArray, List.set_cons_zero, List.set_cons_succ])
  refine wpAnyZ_takeS (i := 9) (v := ?_) rfl (by kernel_rfl) (by kernel_rfl) (by kernel_rfl) (by kernel_rfl) (fun _ _ _ h => h) (gives_value (by rfl) ?_) (by assumption) ?_
  rotate_left
  · intro w hSw
    (try dsimp only at hSw)
    go_simp
    (try with_reducible rfl)
  (try simp only [Act.put, List.getElem_toArray, List.getElem_cons_succ, List.getElem_cons_zero, List.setIfInBounds_toArray, List.set_cons_zero, List.set_cons_succ])
  refine wpAnyZ_takeS (i := 10) (v := ?_) rfl (by kernel_rfl) (by kernel_rfl) (by kernel_rfl) (by kernel_rfl) (fun _ _ _ h => h) (gives_value (by rfl) ?_) (by assumption) ?_
  rotate_left
  · intro w hSw
    (try dsimp only at hSw)
    go_simp
    (try with_reducible rfl)
  (try simp only [Act.put, List.getElem_toArray, List.getElem_cons_succ, List.getElem_cons_zero, List.setIfInBounds_toArray, List.set_cons_zero, List.set_cons_succ])
  refine wpAnyZ_takeS (i := 11) (v := ?_) rfl (by kernel_rfl) (by kernel_rfl) (by kernel_rfl) (by kernel_rfl) (fun _ _ _ h => h) (gives_value (by rfl) ?_) (by assumption) ?_
  rotate_left
  · intro w hSw
    (try dsimp only at hSw)
    go_simp
    (try with_reducible rfl)
  (try simp only [Act.put, List.getElem_toArray, List.getElem_cons_succ, List.getElem_cons_zero, List.setIfInBounds_toArray, List.set_cons_zero, List.set_cons_succ])
  refine wpAnyZ_one (i := 12) (by kernel_rfl) ?_
  refine zstep rfl (fun K hK => ?_)
  go_simp
  (with_reducible refine (KA.out _ (ES0.out.below.trans (HB1.out.mono ES0.out.below.size))).mono ?_)
  rintro e w2 ⟨rfl, hb⟩
  have HB2 := Lib.hid (HB1.out.trans (hb.mono HB1.out.size))
  clear hb HB1
  refine hK.out _ _ (fun _ => SS.out _ HB2.out) (fun hH => ?_)
  replace hH := hH (by decide)
  clear hK K
  (try simp only [Act.put, List.getElem_toArray, List.getElem_cons_succ, List.getElem_cons_zero, List.setIfInBounds_toArray, List.set_cons_zero, List.set_cons_succ])
  refine wpAnyZ_takeS (i := 13) (v := ?_) rfl (by kernel_rfl) (by kernel_rfl) (by kernel_rfl) (by kernel_rfl) (fun _ _ _ h => h) (gives_value (by rfl) ?_) (by assumption) ?_
  rotate_left
  · intro w hSw
    (try dsimp only at hSw)
    go_simp
    (try with_reducible rfl)
  (try simp only [Act.put, List.getElem_toArray, List.getElem_cons_succ, List.getElem_cons_zero, List.setIfInBounds_toArray, List.set_cons_zero, List.set_cons_succ])
  refine wpAnyZ_takeS (i := 14) (v := ?_) rfl (by kernel_rfl) (by kernel_rfl) (by kernel_rfl) (by kernel_rfl) (fun _ _ _ h => h) (gives_value (by rfl) ?_) (by assumption) ?_
  rotate_left
  · intro w hSw
    (try dsimp only at hSw)
    go_simp
    (try with_reducible rfl)
  (try simp only [Act.put, List.getElem_toArray, List.getElem_cons_succ, List.getElem_cons_zero, List.setIfInBounds_toArray, List.set_cons_zero, List.set_cons_succ])
  refine wpAnyZ_done (by kernel_rfl) ?_ _
  have ES2 := Lib.hid (ES0.out.on HB2.out)
  clear hH
  clear SS ES0
  have r0 := ES2.out.rb.cell (j := 0) rfl
  have z0 := (ES2.out.rb.2 0 (by simp)).2
  have r1 := ES2.out.rb.cell (j := 1) rfl
  have z1 := (ES2.out.rb.2 1 (by simp)).2
  have r2 := ES2.out.rb.cell (j := 2) rfl
  have z2 := (ES2.out.rb.2 2 (by simp)).2
  have r3 := ES2.out.rb.cell (j := 3) rfl
  have z3 := (ES2.out.rb.2 3 (by simp)).2
  have r4 := ES2.out.rb.cell (j := 4) rfl
  have z4 := (ES2.out.rb.2 4 (by simp)).2
  have r5 := ES2.out.rb.cell (j := 5) rfl
  have z5 := (ES2.out.rb.2 5 (by simp)).2
  have r6 := ES2.out.rb.cell (j := 6) rfl
  have z6 := (ES2.out.rb.2 6 (by simp)).2
  have hRz := ES2.out.rb.1
  have HBf := Lib.hid (below7 ES2.out.below hRw (.bool false) (.int .i64 0) (.int .i64 0) (.int .i64 0) (.int .u32 0) (.int .u32 0) (.int .i64 0))
  go_wp2
  exact bodyPost_ret (v := .agg #[.bool false, .int .i64 0, .int .i64 0, .int .i64 0, .int .u32 0, .int .u32 0, .int .i64 0]) (by simp [results, Try.results47, go_sem, r0, r1, r2, r3, r4, r5, r6, z0, z1, z2, z3, z4, z5, z6]) rfl ⟨rfl, HBf.out⟩
set_option maxRecDepth 100000 in
set_option maxHeartbeats 8000000 in
theorem pextend_yes (i : Prob) (cn : Nat) (cap st en : Int) (ok : Bool) (x1 x2 x3 x4 x5 x6 : Int) (s : Int) (o : Option HeadP) (w : World) (B3 o3 : Nat) (A2 A3 A4 : Option Addr) (c1 c2 c3 c4 : Nat) (hs : Said w (some ⟨B3, o3, none⟩) A2 A3 A4 c1 c2 c3 c4 i) (KC : ∀ W, Below w.heap.size w W → Calls Try.prog 33 #[.agg #[.slice (some ⟨B3, o3, none⟩) i.cars.length c1, .slice A2 i.stops.length c2, .slice A3 i.pairs.length c3, .slice A4 i.travel.length c4], .int .i64 cn] W fun e w' => e = .returned (.bool true) ∧ Below W.heap.size W w') (hcn : cn < i.cars.length) (hB3 : B3 < w.heap.size) (e0 : w.cell? ⟨B3, o3 + cn * 3, none⟩ = some (.int .i64 cap)) (e1 : w.cell? ⟨B3, o3 + cn * 3 + 1, none⟩ = some (.int .i64 st)) (e2 : w.cell? ⟨B3, o3 + cn * 3 + 2, none⟩ = some (.int .i64 en))
    (KA : ∀ W, Below w.heap.size w W → Calls Try.prog 38 #[.agg #[.slice (some ⟨B3, o3, none⟩) i.cars.length c1, .slice A2 i.stops.length c2, .slice A3 i.pairs.length c3, .slice A4 i.travel.length c4], .agg #[.int .i64 cap, .int .i64 st, .int .i64 en], .agg #[.bool ok, .int .i64 x1, .int .i64 x2, .int .i64 x3, .int .u32 x4, .int .u32 x5, .int .i64 x6]] W fun e w' => e = .returned (.bool true) ∧ Below W.heap.size W w')
    (KX : ∀ W, Below w.heap.size w W → Calls Try.prog 35 #[.agg #[.slice (some ⟨B3, o3, none⟩) i.cars.length c1, .slice A2 i.stops.length c2, .slice A3 i.pairs.length c3, .slice A4 i.travel.length c4], .agg #[.int .i64 cap, .int .i64 st, .int .i64 en], .agg #[.bool ok, .int .i64 x1, .int .i64 x2, .int .i64 x3, .int .u32 x4, .int .u32 x5, .int .i64 x6], .int .i64 s] W fun e w' => e = .returned (headV o) ∧ Below W.heap.size W w') :
    Calls Try.prog 47 #[.agg #[.slice (some ⟨B3, o3, none⟩) i.cars.length c1, .slice A2 i.stops.length c2, .slice A3 i.pairs.length c3, .slice A4 i.travel.length c4], .int .i64 cn, .agg #[.bool ok, .int .i64 x1, .int .i64 x2, .int .i64 x3, .int .u32 x4, .int .u32 x5, .int .i64 x6], .int .i64 s] w fun e w' => e = .returned (headV o) ∧ Below w.heap.size w w' := by
  have ES0 := Lib.hid (bef_es0 hs #[.bool ok, .int .i64 x1, .int .i64 x2, .int .i64 x3, .int .u32 x4, .int .u32 x5, .int .i64 x6] #[.bool false, .int .i64 0, .int .i64 0, .int .i64 0, .int .u32 0, .int .u32 0, .int .i64 0] 28 44 44)
  have KC := Lib.hid KC
  have KA := Lib.hid KA
  have e0' := Lib.hid e0
  have e1' := Lib.hid e1
  have e2' := Lib.hid e2
  have KX := Lib.hid KX
  clear hs e0 e1 e2
  go_enter Try.func47, Try.ntmps47
  go_upto_region 1 with (fail)
  generalize ((w.alloc (.cells #[.slice (some ⟨B3, o3, none⟩) i.cars.length c1, .slice A2 i.stops.length c2, .slice A3 i.pairs.length c3, .slice A4 i.travel.length c4] 28)).alloc (.cells #[.bool ok, .int .i64 x1, .int .i64 x2, .int .i64 x3, .int .u32 x4, .int .u32 x5, .int .i64 x6] 44)).alloc (.cells #[.bool false, .int .i64 0, .int .i64 0, .int .i64 0, .int .u32 0, .int .u32 0, .int .i64 0] 44) = wa at *
  have hRw : w.heap.size ≤ w.heap.size + 1 + 1 := by omega
  generalize w.heap.size + 1 + 1 = R at *
  generalize w.heap.size + 1 = H at *
  have SS : Hid (∀ W, Below wa.heap.size wa W → W.cell? ⟨w.heap.size, 0, none⟩ = some (.slice (some ⟨B3, o3, none⟩) i.cars.length c1) ∧ W.cell? ⟨w.heap.size, 1, none⟩ = some (.slice A2 i.stops.length c2) ∧ W.cell? ⟨w.heap.size, 2, none⟩ = some (.slice A3 i.pairs.length c3) ∧ W.cell? ⟨w.heap.size, 3, none⟩ = some (.slice A4 i.travel.length c4) ∧ W.cell? ⟨H, 0, none⟩ = some (.bool ok) ∧ W.cell? ⟨H, 1, none⟩ = some (.int .i64 x1) ∧ W.cell? ⟨H, 2, none⟩ = some (.int .i64 x2) ∧ W.cell? ⟨H, 3, none⟩ = some (.int .i64 x3) ∧ W.cell? ⟨H, 4, none⟩ = some (.int .u32 x4) ∧ W.cell? ⟨H, 5, none⟩ = some (.int .u32 x5) ∧ W.cell? ⟨H, 6, none⟩ = some (.int .i64 x6) ∧ W.cell? ⟨B3, o3 + cn * 3, none⟩ = some (.int .i64 cap) ∧ W.cell? ⟨B3, o3 + cn * 3 + 1, none⟩ = some (.int .i64 st) ∧ W.cell? ⟨B3, o3 + cn * 3 + 2, none⟩ = some (.int .i64 en)) := fun W hB =>
    have hB' : Below w.heap.size w W := ES0.out.below.trans (hB.mono ES0.out.below.size)
    ⟨(ES0.out.box.below hB).b0, (ES0.out.box.below hB).b1, (ES0.out.box.below hB).b2, (ES0.out.box.below hB).b3, (ES0.out.hb.below hB).cell (j := 0) rfl, (ES0.out.hb.below hB).cell (j := 1) rfl, (ES0.out.hb.below hB).cell (j := 2) rfl, (ES0.out.hb.below hB).cell (j := 3) rfl, (ES0.out.hb.below hB).cell (j := 4) rfl, (ES0.out.hb.below hB).cell (j := 5) rfl, (ES0.out.hb.below hB).cell (j := 6) rfl, cell_up hB' hB3 e0'.out, cell_up hB' hB3 e1'.out, cell_up hB' hB3 e2'.out⟩
  have n0 : (0 : Int) ≤ (cn : Int) := by omega
  have n1 : (cn : Int) < (i.cars.length : Int) := by omega
  have n2 : (cn : Int).toNat = cn := by omega
  refine wp_region_z (S := (fun W => W.cell? ⟨w.heap.size, 0, none⟩ = some (.slice (some ⟨B3, o3, none⟩) i.cars.length c1) ∧ W.cell? ⟨w.heap.size, 1, none⟩ = some (.slice A2 i.stops.length c2) ∧ W.cell? ⟨w.heap.size, 2, none⟩ = some (.slice A3 i.pairs.length c3) ∧ W.cell? ⟨w.heap.size, 3, none⟩ = some (.slice A4 i.travel.length c4) ∧ W.cell? ⟨H, 0, none⟩ = some (.bool ok) ∧ W.cell? ⟨H, 1, none⟩ = some (.int .i64 x1) ∧ W.cell? ⟨H, 2, none⟩ = some (.int .i64 x2) ∧ W.cell? ⟨H, 3, none⟩ = some (.int .i64 x3) ∧ W.cell? ⟨H, 4, none⟩ = some (.int .u32 x4) ∧ W.cell? ⟨H, 5, none⟩ = some (.int .u32 x5) ∧ W.cell? ⟨H, 6, none⟩ = some (.int .i64 x6) ∧ W.cell? ⟨B3, o3 + cn * 3, none⟩ = some (.int .i64 cap) ∧ W.cell? ⟨B3, o3 + cn * 3 + 1, none⟩ = some (.int .i64 st) ∧ W.cell? ⟨B3, o3 + cn * 3 + 2, none⟩ = some (.int .i64 en))) (z := 15) (by kernel_rfl) (SS.out _ (Below.refl wa.heap.size wa).drew) (fun hH => ?_)
  refine wpAnyZ_takeS (i := 0) (v := ?_) rfl (by kernel_rfl) (by kernel_rfl) (by kernel_rfl) (by kernel_rfl) (fun _ _ _ h => h) (gives_value (by rfl) ?_) (by assumption) ?_
  rotate_left
  · intro w hSw
    (try dsimp only at hSw)
    go_simp
    (try with_reducible rfl)
  (try simp only [Act.put, List.getElem_toArray, List.getElem_cons_succ, List.getElem_cons_zero, List.setIfInBounds_toArray, List.set_cons_zero, List.set_cons_succ])
  refine wpAnyZ_takeS (i := 1) (v := ?_) rfl (by kernel_rfl) (by kernel_rfl) (by kernel_rfl) (by kernel_rfl) (fun _ _ _ h => h) (gives_value (by rfl) ?_) (by assumption) ?_
  rotate_left
  · intro w hSw
    (try dsimp only at hSw)
    go_simp
    (try with_reducible rfl)
  (try simp only [Act.put, List.getElem_toArray, List.getElem_cons_succ, List.getElem_cons_zero, List.setIfInBounds_toArray, List.set_cons_zero, List.set_cons_succ])
  refine wpAnyZ_one (i := 2) (by kernel_rfl) ?_
  refine zstep rfl (fun K hK => ?_)
  go_simp
  (with_reducible refine (KC.out _ ES0.out.below.drew).mono ?_)
  rintro e w1 ⟨rfl, hb⟩
  have HB1 := Lib.hid (((Below.refl wa.heap.size wa).drew).trans hb)
  clear hb
  refine hK.out _ _ (fun _ => SS.out _ HB1.out) (fun hH => ?_)
  replace hH := hH (by decide)
  clear hK K
  (try simp only [Act.put, List.getElem_toArray, List.getElem_cons_succ, List.getElem_cons_zero, List.setIfInBounds_toArray, List.set_cons_zero, List.set_cons_succ])
  refine wpAnyZ_takeS (i := 3) (v := ?_) rfl (by kernel_rfl) (by kernel_rfl) (by kernel_rfl) (by kernel_rfl) (fun _ _ _ h => h) (gives_value (by rfl) ?_) (by assumption) ?_
  rotate_left
  · intro w hSw
    (try dsimp only at hSw)
    go_simp
    (try with_reducible rfl)
  (try simp only [Act.put, List.getElem_toArray, List.getElem_cons_succ, List.getElem_cons_zero, List.setIfInBounds_toArray, List.set_cons_zero, List.set_cons_succ])
  refine wpAnyZ_takeS (i := 4) (v := ?_) rfl (by kernel_rfl) (by kernel_rfl) (by kernel_rfl) (by kernel_rfl) (fun _ _ _ h => h) (gives_value (by rfl) ?_) (by assumption) ?_
  rotate_left
  · intro w hSw
    (try dsimp only at hSw)
    go_simp
    (try with_reducible rfl)
  (try simp only [Act.put, List.getElem_toArray, List.getElem_cons_succ, List.getElem_cons_zero, List.setIfInBounds_toArray, List.set_cons_zero, List.set_cons_succ])
  refine wpAnyZ_takeS (i := 5) (v := ?_) rfl (by kernel_rfl) (by kernel_rfl) (by kernel_rfl) (by kernel_rfl) (fun _ _ _ h => h) (gives_value (by rfl) ?_) (by assumption) ?_
  rotate_left
  · intro w hSw
    (try dsimp only at hSw)
    go_simp
    (try with_reducible rfl)
  (try simp only [Act.put, List.getElem_toArray, List.getElem_cons_succ, List.getElem_cons_zero, List.setIfInBounds_toArray, List.set_cons_zero, List.set_cons_succ])
  refine wpAnyZ_takeS (i := 6) (v := ?_) rfl (by kernel_rfl) (by kernel_rfl) (by kernel_rfl) (by kernel_rfl) (fun _ _ _ h => h) (gives_value (by rfl) ?_) (by assumption) ?_
  rotate_left
  · intro w hSw
    (try dsimp only at hSw)
    go_simp
    (try with_reducible rfl)
  (try simp only [Act.put, List.getElem_toArray, List.getElem_cons_succ, List.getElem_cons_zero, List.setIfInBounds_toArray, List.set_cons_zero, List.set_cons_succ])
  refine wpAnyZ_takeS (i := 7) (v := ?_) rfl (by kernel_rfl) (by kernel_rfl) (by kernel_rfl) (by kernel_rfl) (fun _ _ _ h => h) (gives_value (by rfl) ?_) (by assumption) ?_
  rotate_left
  · intro w hSw
    (try dsimp only at hSw)
    go_simp
    (try with_reducible rfl)
  (try simp only [Act.put, List.getElem_toArray, List.getElem_cons_succ, List.getElem_cons_zero, List.setIfInBounds_toArray, List.set_cons_zero, List.set_cons_succ])
  refine wpAnyZ_takeS (i := 8) (v := ?_) rfl (by kernel_rfl) (by kernel_rfl) (by kernel_rfl) (by kernel_rfl) (fun _ _ _ h => h) (gives_value (by rfl) ?_) (by assumption) ?_
  rotate_left
  · intro w hSw
    (try dsimp only at hSw)
    go_simp
    (try with_reducible rfl)
  (try simp only [Act.put, List.getElem_toArray, List.getElem_cons_succ, List.getElem_cons_zero, List.setIfInBounds_toArray, List.set_cons_zero, List.set_cons_succ])
  refine wpAnyZ_takeS (i := 9) (v := ?_) rfl (by kernel_rfl) (by kernel_rfl) (by kernel_rfl) (by kernel_rfl) (fun _ _ _ h => h) (gives_value (by rfl) ?_) (by assumption) ?_
  rotate_left
  · intro w hSw
    (try dsimp only at hSw)
    go_simp
    (try with_reducible rfl)
  (try simp only [Act.put, List.getElem_toArray, List.getElem_cons_succ, List.getElem_cons_zero, List.setIfInBounds_toArray, List.set_cons_zero, List.set_cons_succ])
  refine wpAnyZ_takeS (i := 10) (v := ?_) rfl (by kernel_rfl) (by kernel_rfl) (by kernel_rfl) (by kernel_rfl) (fun _ _ _ h => h) (gives_value (by rfl) ?_) (by assumption) ?_
  rotate_left
  · intro w hSw
    (try dsimp only at hSw)
    go_simp
    (try with_reducible rfl)
  (try simp only [Act.put, List.getElem_toArray, List.getElem_cons_succ, List.getElem_cons_zero, List.setIfInBounds_toArray, List.set_cons_zero, List.set_cons_succ])
  refine wpAnyZ_takeS (i := 11) (v := ?_) rfl (by kernel_rfl) (by kernel_rfl) (by kernel_rfl) (by kernel_rfl) (fun _ _ _ h => h) (gives_value (by rfl) ?_) (by assumption) ?_
  rotate_left
  · intro w hSw
    (try dsimp only at hSw)
    go_simp
    (try with_reducible rfl)
  (try simp only [Act.put, List.getElem_toArray, List.getElem_cons_succ, List.getElem_cons_zero, List.setIfInBounds_toArray, List.set_cons_zero, List.set_cons_succ])
  refine wpAnyZ_one (i := 12) (by kernel_rfl) ?_
  refine zstep rfl (fun K hK => ?_)
  go_simp
  (with_reducible refine (KA.out _ (ES0.out.below.trans (HB1.out.mono ES0.out.below.size))).mono ?_)
  rintro e w2 ⟨rfl, hb⟩
  have HB2 := Lib.hid (HB1.out.trans (hb.mono HB1.out.size))
  clear hb HB1
  refine hK.out _ _ (fun _ => SS.out _ HB2.out) (fun hH => ?_)
  replace hH := hH (by decide)
  clear hK K
  (try simp only [Act.put, List.getElem_toArray, List.getElem_cons_succ, List.getElem_cons_zero, List.setIfInBounds_toArray, List.set_cons_zero, List.set_cons_succ])
  refine wpAnyZ_takeS (i := 13) (v := ?_) rfl (by kernel_rfl) (by kernel_rfl) (by kernel_rfl) (by kernel_rfl) (fun _ _ _ h => h) (gives_value (by rfl) ?_) (by assumption) ?_
  rotate_left
  · intro w hSw
    (try dsimp only at hSw)
    go_simp
    (try with_reducible rfl)
  (try simp only [Act.put, List.getElem_toArray, List.getElem_cons_succ, List.getElem_cons_zero, List.setIfInBounds_toArray, List.set_cons_zero, List.set_cons_succ])
  refine wpAnyZ_takeS (i := 14) (v := ?_) rfl (by kernel_rfl) (by kernel_rfl) (by kernel_rfl) (by kernel_rfl) (fun _ _ _ h => h) (gives_value (by rfl) ?_) (by assumption) ?_
  rotate_left
  · intro w hSw
    (try dsimp only at hSw)
    go_simp
    (try with_reducible rfl)
  (try simp only [Act.put, List.getElem_toArray, List.getElem_cons_succ, List.getElem_cons_zero, List.setIfInBounds_toArray, List.set_cons_zero, List.set_cons_succ])
  refine wpAnyZ_done (by kernel_rfl) ?_ _
  have ES2 := Lib.hid (ES0.out.on HB2.out)
  clear hH
  go_upto_region 3 with (fail)
  refine wp_region_z (S := (fun W => W.cell? ⟨w.heap.size, 0, none⟩ = some (.slice (some ⟨B3, o3, none⟩) i.cars.length c1) ∧ W.cell? ⟨w.heap.size, 1, none⟩ = some (.slice A2 i.stops.length c2) ∧ W.cell? ⟨w.heap.size, 2, none⟩ = some (.slice A3 i.pairs.length c3) ∧ W.cell? ⟨w.heap.size, 3, none⟩ = some (.slice A4 i.travel.length c4) ∧ W.cell? ⟨H, 0, none⟩ = some (.bool ok) ∧ W.cell? ⟨H, 1, none⟩ = some (.int .i64 x1) ∧ W.cell? ⟨H, 2, none⟩ = some (.int .i64 x2) ∧ W.cell? ⟨H, 3, none⟩ = some (.int .i64 x3) ∧ W.cell? ⟨H, 4, none⟩ = some (.int .u32 x4) ∧ W.cell? ⟨H, 5, none⟩ = some (.int .u32 x5) ∧ W.cell? ⟨H, 6, none⟩ = some (.int .i64 x6) ∧ W.cell? ⟨B3, o3 + cn * 3, none⟩ = some (.int .i64 cap) ∧ W.cell? ⟨B3, o3 + cn * 3 + 1, none⟩ = some (.int .i64 st) ∧ W.cell? ⟨B3, o3 + cn * 3 + 2, none⟩ = some (.int .i64 en))) (z := 9) (by kernel_rfl) (SS.out _ HB2.out.drew) (fun hH => ?_)
  refine wpAnyZ_take (i := 0) (v := ?_) rfl (by kernel_rfl) (by kernel_rfl) (by kernel_rfl) rfl (by kernel_rfl) (fun _ _ _ h => h) (gives_value (by rfl) ?_) (by assumption) ?_
  rotate_left
  · intro w hSw
    (try dsimp only at hSw)
    go_simp
    (try with_reducible rfl)
  (try simp only [Act.put, List.getElem_toArray, List.getElem_cons_succ, List.getElem_cons_zero, List.setIfInBounds_toArray, List.set_cons_zero, List.set_cons_succ])
  refine wpAnyZ_take (i := 1) (v := ?_) rfl (by kernel_rfl) (by kernel_rfl) (by kernel_rfl) rfl (by kernel_rfl) (fun _ _ _ h => h) (gives_value (by rfl) ?_) (by assumption) ?_
  rotate_left
  · intro w hSw
    (try dsimp only at hSw)
    go_simp
    (try with_reducible rfl)
  (try simp only [Act.put, List.getElem_toArray, List.getElem_cons_succ, List.getElem_cons_zero, List.setIfInBounds_toArray, List.set_cons_zero, List.set_cons_succ])
  refine wpAnyZ_take (i := 2) (v := ?_) rfl (by kernel_rfl) (by kernel_rfl) (by kernel_rfl) rfl (by kernel_rfl) (fun _ _ _ h => h) (gives_value (by rfl) ?_) (by assumption) ?_
  rotate_left
  · intro w hSw
    (try dsimp only at hSw)
    go_simp
    (try with_reducible rfl)
  (try simp only [Act.put, List.getElem_toArray, List.getElem_cons_succ, List.getElem_cons_zero, List.setIfInBounds_toArray, List.set_cons_zero, List.set_cons_succ])
  refine wpAnyZ_take (i := 3) (v := ?_) rfl (by kernel_rfl) (by kernel_rfl) (by kernel_rfl) rfl (by kernel_rfl) (fun _ _ _ h => h) (gives_value (by rfl) ?_) (by assumption) ?_
  rotate_left
  · intro w hSw
    (try dsimp only at hSw)
    go_simp
    (try with_reducible rfl)
  (try simp only [Act.put, List.getElem_toArray, List.getElem_cons_succ, List.getElem_cons_zero, List.setIfInBounds_toArray, List.set_cons_zero, List.set_cons_succ])
  refine wpAnyZ_take (i := 4) (v := ?_) rfl (by kernel_rfl) (by kernel_rfl) (by kernel_rfl) rfl (by kernel_rfl) (fun _ _ _ h => h) (gives_value (by rfl) ?_) (by assumption) ?_
  rotate_left
  · intro w hSw
    (try dsimp only at hSw)
    go_simp
    (try with_reducible rfl)
  (try simp only [Act.put, List.getElem_toArray, List.getElem_cons_succ, List.getElem_cons_zero, List.setIfInBounds_toArray, List.set_cons_zero, List.set_cons_succ])
  refine wpAnyZ_take (i := 5) (v := ?_) rfl (by kernel_rfl) (by kernel_rfl) (by kernel_rfl) rfl (by kernel_rfl) (fun _ _ _ h => h) (gives_value (by rfl) ?_) (by assumption) ?_
  rotate_left
  · intro w hSw
    (try dsimp only at hSw)
    go_simp
    (try with_reducible rfl)
  (try simp only [Act.put, List.getElem_toArray, List.getElem_cons_succ, List.getElem_cons_zero, List.setIfInBounds_toArray, List.set_cons_zero, List.set_cons_succ])
  refine wpAnyZ_take (i := 6) (v := ?_) rfl (by kernel_rfl) (by kernel_rfl) (by kernel_rfl) rfl (by kernel_rfl) (fun _ _ _ h => h) (gives_value (by rfl) ?_) (by assumption) ?_
  rotate_left
  · intro w hSw
    (try dsimp only at hSw)
    go_simp
    (try with_reducible rfl)
  (try simp only [Act.put, List.getElem_toArray, List.getElem_cons_succ, List.getElem_cons_zero, List.setIfInBounds_toArray, List.set_cons_zero, List.set_cons_succ])
  refine wpAnyZ_take (i := 7) (v := ?_) rfl (by kernel_rfl) (by kernel_rfl) (by kernel_rfl) rfl (by kernel_rfl) (fun _ _ _ h => h) (gives_value (by rfl) ?_) (by assumption) ?_
  rotate_left
  · intro w hSw
    (try dsimp only at hSw)
    go_simp
    (try with_reducible rfl)
  (try simp only [Act.put, List.getElem_toArray, List.getElem_cons_succ, List.getElem_cons_zero, List.setIfInBounds_toArray, List.set_cons_zero, List.set_cons_succ])
  refine wpAnyZ_one (i := 8) (by kernel_rfl) ?_
  refine zstep rfl (fun K hK => ?_)
  go_simp
  (with_reducible refine (KX.out _ ES2.out.below.drew).mono ?_)
  rintro e w3 ⟨rfl, hb⟩
  have HB3 := Lib.hid (((Below.refl w2.heap.size w2).drew).trans hb)
  have ES3 := Lib.hid (ES2.out.on HB3.out)
  clear hb
  refine hK.out _ _ (fun _ => SS.out _ (HB2.out.trans (HB3.out.mono HB2.out.size))) (fun hH => ?_)
  replace hH := hH (by decide)
  clear hK K
  (try simp only [Act.put, List.getElem_toArray, List.getElem_cons_succ, List.getElem_cons_zero, List.setIfInBounds_toArray, List.set_cons_zero, List.set_cons_succ])
  clear ES0 ES2 HB2 HB3 SS KA KC KX
  rcases o with _ | t
  · simp only [headV]
    refine wpAnyZ_one (i := 9) (by kernel_rfl) ?_
    refine zstep rfl (fun K hK => ?_)
    have r0 := ES3.out.rb.cell (j := 0) rfl
    have z0 := (ES3.out.rb.2 0 (by simp)).2
    have r1 := ES3.out.rb.cell (j := 1) rfl
    have z1 := (ES3.out.rb.2 1 (by simp)).2
    have r2 := ES3.out.rb.cell (j := 2) rfl
    have z2 := (ES3.out.rb.2 2 (by simp)).2
    have r3 := ES3.out.rb.cell (j := 3) rfl
    have z3 := (ES3.out.rb.2 3 (by simp)).2
    have r4 := ES3.out.rb.cell (j := 4) rfl
    have z4 := (ES3.out.rb.2 4 (by simp)).2
    have r5 := ES3.out.rb.cell (j := 5) rfl
    have z5 := (ES3.out.rb.2 5 (by simp)).2
    have r6 := ES3.out.rb.cell (j := 6) rfl
    have z6 := (ES3.out.rb.2 6 (by simp)).2
    have hRz := ES3.out.rb.1
    have HBf := Lib.hid (below7 ES3.out.below hRw (.bool false) (.int .i64 0) (.int .i64 0) (.int .i64 0) (.int .u32 0) (.int .u32 0) (.int .i64 0))
    go_simp
    refine hK.out _ _ (fun h => absurd rfl h) (fun hH => ?_)
    clear hK K hH
    (try simp only [Act.put, List.getElem_toArray, List.getElem_cons_succ, List.getElem_cons_zero, List.setIfInBounds_toArray, List.set_cons_zero, List.set_cons_succ])
    refine wpAnyZ_done (by kernel_rfl) ?_ _
    go_wp2
    exact bodyPost_ret (v := .agg #[.bool false, .int .i64 0, .int .i64 0, .int .i64 0, .int .u32 0, .int .u32 0, .int .i64 0]) (by simp [results, Try.results47, go_sem, r0, r1, r2, r3, r4, r5, r6, z0, z1, z2, z3, z4, z5, z6]) rfl ⟨rfl, HBf.out⟩
  · simp only [headV]
    refine wpAnyZ_one (i := 9) (by kernel_rfl) ?_
    refine zstep rfl (fun K hK => ?_)
    have r0 := ES3.out.rb.cell (j := 0) rfl
    have z0 := (ES3.out.rb.2 0 (by simp)).2
    have r1 := ES3.out.rb.cell (j := 1) rfl
    have z1 := (ES3.out.rb.2 1 (by simp)).2
    have r2 := ES3.out.rb.cell (j := 2) rfl
    have z2 := (ES3.out.rb.2 2 (by simp)).2
    have r3 := ES3.out.rb.cell (j := 3) rfl
    have z3 := (ES3.out.rb.2 3 (by simp)).2
    have r4 := ES3.out.rb.cell (j := 4) rfl
    have z4 := (ES3.out.rb.2 4 (by simp)).2
    have r5 := ES3.out.rb.cell (j := 5) rfl
    have z5 := (ES3.out.rb.2 5 (by simp)).2
    have r6 := ES3.out.rb.cell (j := 6) rfl
    have z6 := (ES3.out.rb.2 6 (by simp)).2
    have hRz := ES3.out.rb.1
    have HBf := Lib.hid (below7 ES3.out.below hRw (.bool true) (.int .i64 t.last) (.int .i64 t.leave) (.int .i64 t.load) (.int .u32 (t.opn : Nat)) (.int .u32 (t.set : Nat)) (.int .i64 t.cost))
    go_simp
    refine hK.out _ _ (fun h => absurd rfl h) (fun hH => ?_)
    clear hK K hH
    (try simp only [Act.put, List.getElem_toArray, List.getElem_cons_succ, List.getElem_cons_zero, List.setIfInBounds_toArray, List.set_cons_zero, List.set_cons_succ])
    refine wpAnyZ_done (by kernel_rfl) ?_ _
    go_wp2
    exact bodyPost_ret (v := .agg #[.bool true, .int .i64 t.last, .int .i64 t.leave, .int .i64 t.load, .int .u32 (t.opn : Nat), .int .u32 (t.set : Nat), .int .i64 t.cost]) (by simp [results, Try.results47, go_sem, r0, r1, r2, r3, r4, r5, r6, z0, z1, z2, z3, z4, z5, z6]) rfl ⟨rfl, HBf.out⟩
theorem pextend_any (v : Value) (i : Prob) (c : Int) (ho : Option HeadP) (s : Int) (w : World) (hv : Lies w v i) (hok : probOk i = true) (hp : i.pairs.length ≤ 1000000) (hb : ∀ h, ho = some h → HB i h ∧ HdA i c h) :
    Calls Try.prog 47 #[v, .int .i64 c, headV ho, .int .i64 s] w fun e w' => e = .returned (headV (if inB c 0 (i.cars.length - 1) = true then ho.bind (fun h => extendP i c h s) else none)) ∧ Below w.heap.size w w' := by
  obtain ⟨A1, A2, A3, A4, c1, c2, c3, c4, rfl, hs⟩ := hv.said
  have hf := fine_of hok
  have hm := mated_of hok
  have hcl := hf.cars
  have KC := fun W (hB : Below w.heap.size w W) => carThere_any _ i c W (Lies.below hs hB) hok hp
  by_cases hc : inB c 0 (i.cars.length - 1) = true
  · rw [if_pos hc]
    rw [hc] at KC
    have h2 := inB_iff.1 hc
    obtain ⟨cn, rfl⟩ : ∃ cn : Nat, c = (cn : Int) := ⟨c.toNat, by omega⟩
    obtain ⟨B3, o3, rfl, hB3, e0, e1, e2⟩ := said_car hs (show cn < i.cars.length by omega)
    cases ho with
    | none => exact pextend_no i cn _ _ _ false 0 0 0 0 0 0 s w B3 o3 A2 A3 A4 c1 c2 c3 c4 hs KC (by omega) hB3 e0 e1 e2 (fun W hB => hagree_any _ i cn none W (Lies.below hs hB) hf hp (fun _ h => by cases h))
    | some h =>
      obtain ⟨HB, HA⟩ := hb h rfl
      exact pextend_yes i cn _ _ _ true h.last h.leave h.load h.opn h.set h.cost s (extendP i cn h s) w B3 o3 A2 A3 A4 c1 c2 c3 c4 hs KC (by omega) hB3 e0 e1 e2 (fun W hB => hagree_any _ i cn (some h) W (Lies.below hs hB) hf hp hb)
        (fun W hB => by
          have := cext_any _ i (carAt i cn).c (carAt i cn).s (carAt i cn).e (some h) s W (Lies.below hs hB) hf hp (fun g hg => (hb g hg).1)
          simp only [Option.bind_some] at this
          rw [ext_code hm HA.opn HA.need s] at this
          exact this)
  · rw [if_neg hc]
    have hc' : inB c 0 (i.cars.length - 1) = false := by simpa using hc
    rw [hc'] at KC
    cases ho with
    | none => exact pextend_out i c false 0 0 0 0 0 0 s w A1 A2 A3 A4 c1 c2 c3 c4 hs KC
    | some h => exact pextend_out i c true h.last h.leave h.load h.opn h.set h.cost s w A1 A2 A3 A4 c1 c2 c3 c4 hs KC
end Go.Proofs.Ytkheepedjoimmaa
