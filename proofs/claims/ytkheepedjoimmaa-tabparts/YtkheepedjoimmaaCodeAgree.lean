/- tab.begin, end, isSecond, headAgrees, tailAgrees: what they answer of heads and tails that are the problem's. -/
import Derived.Test.YtkheepedjoimmaaTabHalves
import Derived.Test.YtkheepedjoimmaaTabVals
import Derived.Test.YtkheepedjoimmaaOrdersSkip
import Derived.Deep.DeepCutAuto
namespace Go.Proofs.Ytkheepedjoimmaa
open Go.RowKit
set_option linter.unusedSimpArgs false

set_option maxRecDepth 100000 in
theorem cbegin_any (cap st en : Int) (w : World) : Calls Try.prog 34 #[.agg #[.int .i64 cap, .int .i64 st, .int .i64 en]] w fun e w' => e = .returned (.agg #[.bool true, .int .i64 0, .int .i64 st, .int .i64 0, .int .u32 0, .int .u32 0, .int .i64 0]) ∧ Below w.heap.size w w' := by
  have KB0 : Hid (Blk ((w.alloc (.cells #[.int .i64 cap, .int .i64 st, .int .i64 en] 52)).alloc (.cells #[.bool false, .int .i64 0, .int .i64 0, .int .i64 0, .int .u32 0, .int .u32 0, .int .i64 0] 44)) w.heap.size #[.int .i64 cap, .int .i64 st, .int .i64 en].toList) := (blk_at _ _ (by simp)).alloc _
  have RB0 : Hid (Blk ((w.alloc (.cells #[.int .i64 cap, .int .i64 st, .int .i64 en] 52)).alloc (.cells #[.bool false, .int .i64 0, .int .i64 0, .int .i64 0, .int .u32 0, .int .u32 0, .int .i64 0] 44)) (w.heap.size + 1) #[.bool false, .int .i64 0, .int .i64 0, .int .i64 0, .int .u32 0, .int .u32 0, .int .i64 0].toList) := blk_at _ _ (by simp)
  have HB0 : Hid (Below w.heap.size w ((w.alloc (.cells #[.int .i64 cap, .int .i64 st, .int .i64 en] 52)).alloc (.cells #[.bool false, .int .i64 0, .int .i64 0, .int .i64 0, .int .u32 0, .int .u32 0, .int .i64 0] 44))) := ((Below.refl _ _).alloc (Nat.le_refl _) _).alloc (by simp) _
  go_enter Try.func34, Try.ntmps34
  go_upto_region 1 with (fail)
  generalize (w.alloc (.cells #[.int .i64 cap, .int .i64 st, .int .i64 en] 52)).alloc (.cells #[.bool false, .int .i64 0, .int .i64 0, .int .i64 0, .int .u32 0, .int .u32 0, .int .i64 0] 44) = wa at *
  have hRw : w.heap.size ≤ w.heap.size + 1 := by omega
  generalize w.heap.size + 1 = R at *
  have k1 := KB0.out.cell (j := 1) rfl
  have hKz := KB0.out.1
  have r0 := RB0.out.cell (j := 0) rfl
  have z0 := (RB0.out.2 0 (by simp)).2
  have r1 := RB0.out.cell (j := 1) rfl
  have z1 := (RB0.out.2 1 (by simp)).2
  have r2 := RB0.out.cell (j := 2) rfl
  have z2 := (RB0.out.2 2 (by simp)).2
  have r3 := RB0.out.cell (j := 3) rfl
  have z3 := (RB0.out.2 3 (by simp)).2
  have r4 := RB0.out.cell (j := 4) rfl
  have z4 := (RB0.out.2 4 (by simp)).2
  have r5 := RB0.out.cell (j := 5) rfl
  have z5 := (RB0.out.2 5 (by simp)).2
  have r6 := RB0.out.cell (j := 6) rfl
  have z6 := (RB0.out.2 6 (by simp)).2
  have hRz := RB0.out.1
  have HBf := Lib.hid (below7 HB0.out hRw (.bool true) (.int .i64 0) (.int .i64 st) (.int .i64 0) (.int .u32 0) (.int .u32 0) (.int .i64 0))
  go_wp2
  exact bodyPost_ret (v := .agg #[.bool true, .int .i64 0, .int .i64 st, .int .i64 0, .int .u32 0, .int .u32 0, .int .i64 0]) (by simp [results, Try.results34, go_sem, r0, r1, r2, r3, r4, r5, r6, z0, z1, z2, z3, z4, z5, z6]) rfl ⟨rfl, HBf.out⟩
set_option maxRecDepth 100000 in
theorem cend_any (cap st en : Int) (w : World) : Calls Try.prog 36 #[.agg #[.int .i64 cap, .int .i64 st, .int .i64 en]] w fun e w' => e = .returned (.agg #[.bool true, .int .i64 0, .int .i64 en, .int .i64 0, .int .i64 0, .int .u32 0, .int .u32 0, .int .i64 0]) ∧ Below w.heap.size w w' := by
  have KB0 : Hid (Blk ((w.alloc (.cells #[.int .i64 cap, .int .i64 st, .int .i64 en] 52)).alloc (.cells #[.bool false, .int .i64 0, .int .i64 0, .int .i64 0, .int .i64 0, .int .u32 0, .int .u32 0, .int .i64 0] 46)) w.heap.size #[.int .i64 cap, .int .i64 st, .int .i64 en].toList) := (blk_at _ _ (by simp)).alloc _
  have RB0 : Hid (Blk ((w.alloc (.cells #[.int .i64 cap, .int .i64 st, .int .i64 en] 52)).alloc (.cells #[.bool false, .int .i64 0, .int .i64 0, .int .i64 0, .int .i64 0, .int .u32 0, .int .u32 0, .int .i64 0] 46)) (w.heap.size + 1) #[.bool false, .int .i64 0, .int .i64 0, .int .i64 0, .int .i64 0, .int .u32 0, .int .u32 0, .int .i64 0].toList) := blk_at _ _ (by simp)
  have HB0 : Hid (Below w.heap.size w ((w.alloc (.cells #[.int .i64 cap, .int .i64 st, .int .i64 en] 52)).alloc (.cells #[.bool false, .int .i64 0, .int .i64 0, .int .i64 0, .int .i64 0, .int .u32 0, .int .u32 0, .int .i64 0] 46))) := ((Below.refl _ _).alloc (Nat.le_refl _) _).alloc (by simp) _
  go_enter Try.func36, Try.ntmps36
  go_upto_region 1 with (fail)
  generalize (w.alloc (.cells #[.int .i64 cap, .int .i64 st, .int .i64 en] 52)).alloc (.cells #[.bool false, .int .i64 0, .int .i64 0, .int .i64 0, .int .i64 0, .int .u32 0, .int .u32 0, .int .i64 0] 46) = wa at *
  have hRw : w.heap.size ≤ w.heap.size + 1 := by omega
  generalize w.heap.size + 1 = R at *
  have k2 := KB0.out.cell (j := 2) rfl
  have hKz := KB0.out.1
  have r0 := RB0.out.cell (j := 0) rfl
  have z0 := (RB0.out.2 0 (by simp)).2
  have r1 := RB0.out.cell (j := 1) rfl
  have z1 := (RB0.out.2 1 (by simp)).2
  have r2 := RB0.out.cell (j := 2) rfl
  have z2 := (RB0.out.2 2 (by simp)).2
  have r3 := RB0.out.cell (j := 3) rfl
  have z3 := (RB0.out.2 3 (by simp)).2
  have r4 := RB0.out.cell (j := 4) rfl
  have z4 := (RB0.out.2 4 (by simp)).2
  have r5 := RB0.out.cell (j := 5) rfl
  have z5 := (RB0.out.2 5 (by simp)).2
  have r6 := RB0.out.cell (j := 6) rfl
  have z6 := (RB0.out.2 6 (by simp)).2
  have r7 := RB0.out.cell (j := 7) rfl
  have z7 := (RB0.out.2 7 (by simp)).2
  have hRz := RB0.out.1
  have HBf := Lib.hid (below8 HB0.out hRw (.bool true) (.int .i64 0) (.int .i64 en) (.int .i64 0) (.int .i64 0) (.int .u32 0) (.int .u32 0) (.int .i64 0))
  go_wp2
  exact bodyPost_ret (v := .agg #[.bool true, .int .i64 0, .int .i64 en, .int .i64 0, .int .i64 0, .int .u32 0, .int .u32 0, .int .i64 0]) (by simp [results, Try.results36, go_sem, r0, r1, r2, r3, r4, r5, r6, r7, z0, z1, z2, z3, z4, z5, z6, z7]) rfl ⟨rfl, HBf.out⟩
set_option maxRecDepth 100000 in
theorem isSecond_any (v : Value) (i : Prob) (s : Int) (w : World) (h : Lies w v i) (hp : i.pairs.length ≤ 1000000) :
    Calls Try.prog 56 #[v, .int .i64 s] w fun e w' => e = .returned (.bool (decide (mateL s i.pairs ≠ 0) && !firstL s i.pairs)) ∧ Below w.heap.size w w' := by
  obtain ⟨A1, A2, A3, A4, c1, c2, c3, c4, rfl, hs⟩ := h.said
  have BX0 := Lib.hid (box_new hs 28)
  have HB0 := Lib.hid ((Below.refl w.heap.size w).alloc (Nat.le_refl _) (.cells #[.slice A1 i.cars.length c1, .slice A2 i.stops.length c2, .slice A3 i.pairs.length c3, .slice A4 i.travel.length c4] 28))
  have KM : Hid (∀ W, Below w.heap.size w W → Calls Try.prog 57 #[.agg #[.slice A1 i.cars.length c1, .slice A2 i.stops.length c2, .slice A3 i.pairs.length c3, .slice A4 i.travel.length c4], .int .i64 s] W fun e w' => e = .returned (.int .i64 (mateL s i.pairs)) ∧ Below W.heap.size W w') := fun W hB => mate_any _ i _ W (Lies.below hs hB) (by omega)
  have KF : Hid (∀ W, Below w.heap.size w W → Calls Try.prog 54 #[.agg #[.slice A1 i.cars.length c1, .slice A2 i.stops.length c2, .slice A3 i.pairs.length c3, .slice A4 i.travel.length c4], .int .i64 s] W fun e w' => e = .returned (.bool (firstL s i.pairs)) ∧ Below W.heap.size W w') := fun W hB => first_any _ i _ W (Lies.below hs hB) (by omega)
  clear hs h
  generalize mateL s i.pairs = m at *
  generalize firstL s i.pairs = b at *
  go_enter Try.func56, Try.ntmps56
  go_upto_region 1 with (fail)
  generalize w.alloc (.cells #[.slice A1 i.cars.length c1, .slice A2 i.stops.length c2, .slice A3 i.pairs.length c3, .slice A4 i.travel.length c4] 28) = wa at *
  have k0 := BX0.out.b0
  have k1 := BX0.out.b1
  have k2 := BX0.out.b2
  have k3 := BX0.out.b3
  have hIz := BX0.out.lt
  go_wp2_with (go_at_call 57; fail)
  (with_reducible refine (KM.out _ HB0.out).mono ?_)
  rintro e w1 ⟨rfl, hb1⟩
  have HB1 := Lib.hid (HB0.out.trans (hb1.mono HB0.out.size))
  have BI := Lib.hid (BX0.out.below hb1)
  clear hb1 k0 k1 k2 k3 hIz BX0
  by_cases hm : m = 0
  · subst hm
    go_wp2
    go_ret
    exact ⟨rfl, HB1.out⟩
  · have t1 : (m != 0) = true := by simpa using hm
    have t2 : Hid (decide (m ≠ 0) = true) := by show _ = _; simpa using hm
    have k0 := BI.out.b0
    have k1 := BI.out.b1
    have k2 := BI.out.b2
    have k3 := BI.out.b3
    have hIz := BI.out.lt
    go_wp2_with (go_at_call 54; fail)
    (with_reducible refine (KF.out _ HB1.out).mono ?_)
    rintro e w2 ⟨rfl, hb2⟩
    have HB2 := Lib.hid (HB1.out.trans (hb2.mono HB1.out.size))
    clear hb2 k0 k1 k2 k3 hIz BI
    cases b
    · go_wp2
      go_ret
      exact ⟨by rw [t2.out]; rfl, HB2.out⟩
    · go_wp2
      go_ret
      exact ⟨by rw [t2.out]; rfl, HB2.out⟩
/-- the call's own variables: the problem, the car, the head or tail -/
structure AgS (w W : World) (I K H : Nat) (A1 A2 A3 A4 : Option Addr) (c1 c2 c3 c4 : Nat) (i : Prob) (kc hc : List Value) : Prop where
  below : Below w.heap.size w W
  box : Box W I A1 A2 A3 A4 c1 c2 c3 c4 i
  kb : Blk W K kc
  hb : Blk W H hc
theorem AgS.on {w W W' : World} {I K H : Nat} {A1 A2 A3 A4 : Option Addr} {c1 c2 c3 c4 : Nat} {i : Prob} {kc hc : List Value} (E : AgS w W I K H A1 A2 A3 A4 c1 c2 c3 c4 i kc hc) (hb : Below W.heap.size W W') : AgS w W' I K H A1 A2 A3 A4 c1 c2 c3 c4 i kc hc :=
  ⟨E.below.trans (hb.mono E.below.size), E.box.below hb, E.kb.below hb, E.hb.below hb⟩
theorem ag_es0 {w : World} {i : Prob} {A1 A2 A3 A4 : Option Addr} {c1 c2 c3 c4 : Nat} (hs : Said w A1 A2 A3 A4 c1 c2 c3 c4 i) (kc hc : Array Value) (t1 t2 t3 : TypeId) :
    AgS w (((w.alloc (.cells #[.slice A1 i.cars.length c1, .slice A2 i.stops.length c2, .slice A3 i.pairs.length c3, .slice A4 i.travel.length c4] t1)).alloc (.cells kc t2)).alloc (.cells hc t3)) w.heap.size (w.heap.size + 1) (w.heap.size + 1 + 1) A1 A2 A3 A4 c1 c2 c3 c4 i kc.toList hc.toList :=
  ⟨(((Below.refl _ _).alloc (Nat.le_refl _) _).alloc (by simp) _).alloc (by simp; omega) _, ((box_new hs t1).below ((Below.refl _ _).alloc (Nat.le_refl _) _)).below ((Below.refl _ _).alloc (Nat.le_refl _) _), (blk_at _ _ (by simp)).alloc _, blk_at _ _ (by simp)⟩
set_option maxRecDepth 100000 in
set_option maxHeartbeats 4000000 in
theorem hagree_none (i : Prob) (cap st en : Int) (w : World) (A1 A2 A3 A4 : Option Addr) (c1 c2 c3 c4 : Nat) (hs : Said w A1 A2 A3 A4 c1 c2 c3 c4 i) :
    Calls Try.prog 38 #[.agg #[.slice A1 i.cars.length c1, .slice A2 i.stops.length c2, .slice A3 i.pairs.length c3, .slice A4 i.travel.length c4], .agg #[.int .i64 cap, .int .i64 st, .int .i64 en], .agg #[.bool false, .int .i64 0, .int .i64 0, .int .i64 0, .int .u32 0, .int .u32 0, .int .i64 0]] w fun e w' => e = .returned (.bool false) ∧ Below w.heap.size w w' := by
  have ES0 := Lib.hid (ag_es0 hs #[.int .i64 cap, .int .i64 st, .int .i64 en] #[.bool false, .int .i64 0, .int .i64 0, .int .i64 0, .int .u32 0, .int .u32 0, .int .i64 0] 28 52 44)
  have KB : Hid (∀ W, Calls Try.prog 34 #[.agg #[.int .i64 cap, .int .i64 st, .int .i64 en]] W fun e w' => e = .returned (.agg #[.bool true, .int .i64 0, .int .i64 st, .int .i64 0, .int .u32 0, .int .u32 0, .int .i64 0]) ∧ Below W.heap.size W w') := fun W => cbegin_any cap st en W
  clear hs
  go_enter Try.func38, Try.ntmps38
  go_upto_region 1 with (fail)
  generalize ((w.alloc (.cells #[.slice A1 i.cars.length c1, .slice A2 i.stops.length c2, .slice A3 i.pairs.length c3, .slice A4 i.travel.length c4] 28)).alloc (.cells #[.int .i64 cap, .int .i64 st, .int .i64 en] 52)).alloc (.cells #[.bool false, .int .i64 0, .int .i64 0, .int .i64 0, .int .u32 0, .int .u32 0, .int .i64 0] 44) = wa at *
  generalize w.heap.size + 1 + 1 = H at *
  generalize w.heap.size + 1 = K1 at *
  have o5 := ES0.out.hb.cell (j := 5) rfl
  have hHz := ES0.out.hb.1
  go_upto_region 2 with (fail)
  refine wp_region_z (S := (fun W => W.cell? ⟨H, 0, none⟩ = some (.bool false) ∧ W.cell? ⟨H, 1, none⟩ = some (.int .i64 0) ∧ W.cell? ⟨H, 2, none⟩ = some (.int .i64 0) ∧ W.cell? ⟨H, 3, none⟩ = some (.int .i64 0) ∧ W.cell? ⟨H, 4, none⟩ = some (.int .u32 0) ∧ W.cell? ⟨H, 5, none⟩ = some (.int .u32 0) ∧ W.cell? ⟨H, 6, none⟩ = some (.int .i64 0) ∧ W.cell? ⟨K1, 0, none⟩ = some (.int .i64 cap) ∧ W.cell? ⟨K1, 1, none⟩ = some (.int .i64 st) ∧ W.cell? ⟨K1, 2, none⟩ = some (.int .i64 en))) (z := 5) (by kernel_rfl) (have ES0 := Lib.hid (ES0.out.on ((Below.refl _ _).drew)); ⟨ES0.out.hb.cell (j := 0) rfl, ES0.out.hb.cell (j := 1) rfl, ES0.out.hb.cell (j := 2) rfl, ES0.out.hb.cell (j := 3) rfl, ES0.out.hb.cell (j := 4) rfl, ES0.out.hb.cell (j := 5) rfl, ES0.out.hb.cell (j := 6) rfl, ES0.out.kb.cell (j := 0) rfl, ES0.out.kb.cell (j := 1) rfl, ES0.out.kb.cell (j := 2) rfl⟩) (fun hH => ?_)
  refine wpAnyZ_takeS (i := 0) (v := ?_) rfl (by kernel_rfl) (by kernel_rfl) (by kernel_rfl) (by kernel_rfl) (fun _ _ _ h => h) (gives_value (by rfl) ?_) (by assumption) ?_
  rotate_left
  · intro w hSw
    (try dsimp only at hSw)
    go_simp
    (try with_reducible rfl)
  (try simp only [Act.put, List.getElem_toArray, List.getElem_cons_succ, List.getElem_cons_zero, List.setIfInBounds_toArray, List.set_cons_zero, List.set_cons_succ])
  refine wpAnyZ_takeS (i := 1) (v := ?_) rfl (by kernel_rfl) (by kernel_rfl) (by kernel_rfl) (by kernel_rfl) (fun _ _ _ h => h) (gives_value (by rfl) ?_) (by assumption) ?_
  rotate_left
  · intro w hSw
    (try dsimp only at hSw)
    go_simp
    (try with_reducible rfl)
  (try simp only [Act.put, List.getElem_toArray, List.getElem_cons_succ, List.getElem_cons_zero, List.setIfInBounds_toArray, List.set_cons_zero, List.set_cons_succ])
  refine wpAnyZ_one (i := 2) (by kernel_rfl) ?_
  refine zstep rfl (fun K hK => ?_)
  go_simp
  (with_reducible refine (KB.out _).mono ?_)
  rintro e w1 ⟨rfl, hb1⟩
  have ES1 := Lib.hid (ES0.out.on (((Below.refl wa.heap.size wa).drew).trans hb1))
  clear hb1
  refine hK.out _ _ (fun _ => ⟨ES1.out.hb.cell (j := 0) rfl, ES1.out.hb.cell (j := 1) rfl, ES1.out.hb.cell (j := 2) rfl, ES1.out.hb.cell (j := 3) rfl, ES1.out.hb.cell (j := 4) rfl, ES1.out.hb.cell (j := 5) rfl, ES1.out.hb.cell (j := 6) rfl, ES1.out.kb.cell (j := 0) rfl, ES1.out.kb.cell (j := 1) rfl, ES1.out.kb.cell (j := 2) rfl⟩) (fun hH => ?_)
  replace hH := hH (by decide)
  clear hK K
  (try simp only [Act.put, List.getElem_toArray, List.getElem_cons_succ, List.getElem_cons_zero, List.setIfInBounds_toArray, List.set_cons_zero, List.set_cons_succ])
  refine wpAnyZ_takeS (i := 3) (v := ?_) rfl (by kernel_rfl) (by kernel_rfl) (by kernel_rfl) (by kernel_rfl) (fun _ _ _ h => h) (gives_value (by rfl) ?_) (by assumption) ?_
  rotate_left
  · intro w hSw
    (try dsimp only at hSw)
    go_simp
    (try with_reducible rfl)
  (try simp only [Act.put, List.getElem_toArray, List.getElem_cons_succ, List.getElem_cons_zero, List.setIfInBounds_toArray, List.set_cons_zero, List.set_cons_succ])
  refine wpAnyZ_takeS (i := 4) (v := ?_) rfl (by kernel_rfl) (by kernel_rfl) (by kernel_rfl) (by kernel_rfl) (fun _ _ _ h => h) (gives_value (by rfl) ?_) (by assumption) ?_
  rotate_left
  · intro w hSw
    (try dsimp only at hSw)
    go_simp
    (try with_reducible rfl)
  (try simp only [Act.put, List.getElem_toArray, List.getElem_cons_succ, List.getElem_cons_zero, List.setIfInBounds_toArray, List.set_cons_zero, List.set_cons_succ])
  refine wpAnyZ_done (by kernel_rfl) ?_ _
  clear o5 hHz ES0
  go_wp2
  go_ret
  exact ⟨rfl, ES1.out.below⟩
set_option maxRecDepth 100000 in
set_option maxHeartbeats 4000000 in
theorem hagree_begin (i : Prob) (cap st en : Int) (w : World) (A1 A2 A3 A4 : Option Addr) (c1 c2 c3 c4 : Nat) (hs : Said w A1 A2 A3 A4 c1 c2 c3 c4 i) :
    Calls Try.prog 38 #[.agg #[.slice A1 i.cars.length c1, .slice A2 i.stops.length c2, .slice A3 i.pairs.length c3, .slice A4 i.travel.length c4], .agg #[.int .i64 cap, .int .i64 st, .int .i64 en], .agg #[.bool true, .int .i64 0, .int .i64 st, .int .i64 0, .int .u32 0, .int .u32 0, .int .i64 0]] w fun e w' => e = .returned (.bool true) ∧ Below w.heap.size w w' := by
  have ES0 := Lib.hid (ag_es0 hs #[.int .i64 cap, .int .i64 st, .int .i64 en] #[.bool true, .int .i64 0, .int .i64 st, .int .i64 0, .int .u32 0, .int .u32 0, .int .i64 0] 28 52 44)
  have KB : Hid (∀ W, Calls Try.prog 34 #[.agg #[.int .i64 cap, .int .i64 st, .int .i64 en]] W fun e w' => e = .returned (.agg #[.bool true, .int .i64 0, .int .i64 st, .int .i64 0, .int .u32 0, .int .u32 0, .int .i64 0]) ∧ Below W.heap.size W w') := fun W => cbegin_any cap st en W
  clear hs
  go_enter Try.func38, Try.ntmps38
  go_upto_region 1 with (fail)
  generalize ((w.alloc (.cells #[.slice A1 i.cars.length c1, .slice A2 i.stops.length c2, .slice A3 i.pairs.length c3, .slice A4 i.travel.length c4] 28)).alloc (.cells #[.int .i64 cap, .int .i64 st, .int .i64 en] 52)).alloc (.cells #[.bool true, .int .i64 0, .int .i64 st, .int .i64 0, .int .u32 0, .int .u32 0, .int .i64 0] 44) = wa at *
  generalize w.heap.size + 1 + 1 = H at *
  generalize w.heap.size + 1 = K1 at *
  have o5 := ES0.out.hb.cell (j := 5) rfl
  have hHz := ES0.out.hb.1
  go_upto_region 2 with (fail)
  refine wp_region_z (S := (fun W => W.cell? ⟨H, 0, none⟩ = some (.bool true) ∧ W.cell? ⟨H, 1, none⟩ = some (.int .i64 0) ∧ W.cell? ⟨H, 2, none⟩ = some (.int .i64 st) ∧ W.cell? ⟨H, 3, none⟩ = some (.int .i64 0) ∧ W.cell? ⟨H, 4, none⟩ = some (.int .u32 0) ∧ W.cell? ⟨H, 5, none⟩ = some (.int .u32 0) ∧ W.cell? ⟨H, 6, none⟩ = some (.int .i64 0) ∧ W.cell? ⟨K1, 0, none⟩ = some (.int .i64 cap) ∧ W.cell? ⟨K1, 1, none⟩ = some (.int .i64 st) ∧ W.cell? ⟨K1, 2, none⟩ = some (.int .i64 en))) (z := 5) (by kernel_rfl) (have ES0 := Lib.hid (ES0.out.on ((Below.refl _ _).drew)); ⟨ES0.out.hb.cell (j := 0) rfl, ES0.out.hb.cell (j := 1) rfl, ES0.out.hb.cell (j := 2) rfl, ES0.out.hb.cell (j := 3) rfl, ES0.out.hb.cell (j := 4) rfl, ES0.out.hb.cell (j := 5) rfl, ES0.out.hb.cell (j := 6) rfl, ES0.out.kb.cell (j := 0) rfl, ES0.out.kb.cell (j := 1) rfl, ES0.out.kb.cell (j := 2) rfl⟩) (fun hH => ?_)
  refine wpAnyZ_takeS (i := 0) (v := ?_) rfl (by kernel_rfl) (by kernel_rfl) (by kernel_rfl) (by kernel_rfl) (fun _ _ _ h => h) (gives_value (by rfl) ?_) (by assumption) ?_
  rotate_left
  · intro w hSw
    (try dsimp only at hSw)
    go_simp
    (try with_reducible rfl)
  (try simp only [Act.put, List.getElem_toArray, List.getElem_cons_succ, List.getElem_cons_zero, List.setIfInBounds_toArray, List.set_cons_zero, List.set_cons_succ])
  refine wpAnyZ_takeS (i := 1) (v := ?_) rfl (by kernel_rfl) (by kernel_rfl) (by kernel_rfl) (by kernel_rfl) (fun _ _ _ h => h) (gives_value (by rfl) ?_) (by assumption) ?_
  rotate_left
  · intro w hSw
    (try dsimp only at hSw)
    go_simp
    (try with_reducible rfl)
  (try simp only [Act.put, List.getElem_toArray, List.getElem_cons_succ, List.getElem_cons_zero, List.setIfInBounds_toArray, List.set_cons_zero, List.set_cons_succ])
  refine wpAnyZ_one (i := 2) (by kernel_rfl) ?_
  refine zstep rfl (fun K hK => ?_)
  go_simp
  (with_reducible refine (KB.out _).mono ?_)
  rintro e w1 ⟨rfl, hb1⟩
  have ES1 := Lib.hid (ES0.out.on (((Below.refl wa.heap.size wa).drew).trans hb1))
  clear hb1
  refine hK.out _ _ (fun _ => ⟨ES1.out.hb.cell (j := 0) rfl, ES1.out.hb.cell (j := 1) rfl, ES1.out.hb.cell (j := 2) rfl, ES1.out.hb.cell (j := 3) rfl, ES1.out.hb.cell (j := 4) rfl, ES1.out.hb.cell (j := 5) rfl, ES1.out.hb.cell (j := 6) rfl, ES1.out.kb.cell (j := 0) rfl, ES1.out.kb.cell (j := 1) rfl, ES1.out.kb.cell (j := 2) rfl⟩) (fun hH => ?_)
  replace hH := hH (by decide)
  clear hK K
  (try simp only [Act.put, List.getElem_toArray, List.getElem_cons_succ, List.getElem_cons_zero, List.setIfInBounds_toArray, List.set_cons_zero, List.set_cons_succ])
  refine wpAnyZ_takeS (i := 3) (v := ?_) rfl (by kernel_rfl) (by kernel_rfl) (by kernel_rfl) (by kernel_rfl) (fun _ _ _ h => h) (gives_value (by rfl) ?_) (by assumption) ?_
  rotate_left
  · intro w hSw
    (try dsimp only at hSw)
    go_simp
    (try with_reducible rfl)
  (try simp only [Act.put, List.getElem_toArray, List.getElem_cons_succ, List.getElem_cons_zero, List.setIfInBounds_toArray, List.set_cons_zero, List.set_cons_succ])
  refine wpAnyZ_takeS (i := 4) (v := ?_) rfl (by kernel_rfl) (by kernel_rfl) (by kernel_rfl) (by kernel_rfl) (fun _ _ _ h => h) (gives_value (by rfl) ?_) (by assumption) ?_
  rotate_left
  · intro w hSw
    (try dsimp only at hSw)
    go_simp
    (try with_reducible rfl)
  (try simp only [Act.put, List.getElem_toArray, List.getElem_cons_succ, List.getElem_cons_zero, List.setIfInBounds_toArray, List.set_cons_zero, List.set_cons_succ])
  refine wpAnyZ_done (by kernel_rfl) ?_ _
  clear o5 hHz ES0
  go_wp2
  go_ret
  exact ⟨rfl, ES1.out.below⟩
set_option maxRecDepth 100000 in
set_option maxHeartbeats 8000000 in
theorem hagree_in (i : Prob) (q : Nat) (cap st en leave load cost : Int) (opn set : Nat) (w : World) (A1 A2 A3 A4 : Option Addr) (c1 c2 c3 c4 : Nat) (hs : Said w A1 A2 A3 A4 c1 c2 c3 c4 i) (hf : Fine i) (hp : i.pairs.length ≤ 1000000) (hq : q < i.stops.length) (hlv : 0 ≤ leave ∧ leave ≤ 2000) (hse : set < 2048) (hst0 : 0 ≤ st ∧ st ≤ 1000) (hz : set ≠ 0)
    (hopn : opn = openH set i.pairs) (hneed : needH set i.pairs = 0) (hb0 : set.testBit 0 = false) (htop : ∀ x : Int, 1 ≤ x → hasD set x = true → x ≤ i.stops.length) (hhas : hasD set ((q : Int) + 1) = true) (hfst : firstL ((q : Int) + 1) i.pairs = true → hasD opn ((q : Int) + 1) = true)
    (hload : load = sumN mx0 i set i.stops.length + sumN mn0 i set i.stops.length) (hcap : 0 ≤ load ∧ load ≤ cap) (hlo : (stopAt i ((q : Int) + 1)).o + (stopAt i ((q : Int) + 1)).s ≤ leave) (hhi : leave ≤ (stopAt i ((q : Int) + 1)).c + (stopAt i ((q : Int) + 1)).s) (hco : 0 ≤ cost ∧ cost ≤ leave - st - sumN srv i set i.stops.length) :
    Calls Try.prog 38 #[.agg #[.slice A1 i.cars.length c1, .slice A2 i.stops.length c2, .slice A3 i.pairs.length c3, .slice A4 i.travel.length c4], .agg #[.int .i64 cap, .int .i64 st, .int .i64 en], .agg #[.bool true, .int .i64 ((q : Int) + 1), .int .i64 leave, .int .i64 load, .int .u32 (opn : Nat), .int .u32 (set : Nat), .int .i64 cost]] w fun e w' => e = .returned (.bool true) ∧ Below w.heap.size w w' := by
  have hst := hf.stops
  have ES0 := Lib.hid (ag_es0 hs #[.int .i64 cap, .int .i64 st, .int .i64 en] #[.bool true, .int .i64 ((q : Int) + 1), .int .i64 leave, .int .i64 load, .int .u32 (opn : Nat), .int .u32 (set : Nat), .int .i64 cost] 28 52 44)
  have KO : Hid (∀ W, Below w.heap.size w W → Calls Try.prog 53 #[.agg #[.slice A1 i.cars.length c1, .slice A2 i.stops.length c2, .slice A3 i.pairs.length c3, .slice A4 i.travel.length c4], .int .u32 (set : Nat)] W fun e w' => e = .returned (.bool true) ∧ Below W.heap.size W w') := fun W hB => stopsOnly_any _ i set W (Lies.below hs hB) hst hb0 htop
  have KS : Hid (∀ W, Below w.heap.size w W → Calls Try.prog 49 #[.agg #[.slice A1 i.cars.length c1, .slice A2 i.stops.length c2, .slice A3 i.pairs.length c3, .slice A4 i.travel.length c4], .int .i64 ((q : Int) + 1)] W fun e w' => e = .returned (.bool true) ∧ Below W.heap.size W w') := fun W hB => by
    have := stopThere_any _ i ((q : Int) + 1) W (Lies.below hs hB)
    rw [inB_iff.2 ⟨by omega, by omega⟩] at this; exact this
  have KH : Hid (∀ W, Calls Try.prog 50 #[.int .u32 (set : Nat), .int .i64 ((q : Int) + 1)] W fun e w' => e = .returned (.bool true) ∧ w' = W) := fun W => by
    have := has_any set ((q : Int) + 1) W (by omega) (by omega) (by omega)
    rw [hhas] at this; exact this
  have KV : Hid (∀ W, Below w.heap.size w W → Calls Try.prog 52 #[.agg #[.slice A1 i.cars.length c1, .slice A2 i.stops.length c2, .slice A3 i.pairs.length c3, .slice A4 i.travel.length c4], .int .u32 (set : Nat)] W fun e w' => e = .returned (.tuple #[.int .u32 (opn : Nat), .int .u32 0]) ∧ Below W.heap.size W w') := fun W hB => by
    have := halves_any _ i set W (Lies.below hs hB) hf hp hse
    rw [← hopn, hneed] at this; exact this
  have KF : Hid (∀ W, Below w.heap.size w W → Calls Try.prog 54 #[.agg #[.slice A1 i.cars.length c1, .slice A2 i.stops.length c2, .slice A3 i.pairs.length c3, .slice A4 i.travel.length c4], .int .i64 ((q : Int) + 1)] W fun e w' => e = .returned (.bool (firstL ((q : Int) + 1) i.pairs)) ∧ Below W.heap.size W w') := fun W hB => first_any _ i _ W (Lies.below hs hB) (by omega)
  have ho2 : opn < 2048 := by rw [hopn]; exact open_lt (fun p hp => by have := hf.pairF p hp; omega)
  have KH2 : Hid (firstL ((q : Int) + 1) i.pairs = true → ∀ W, Calls Try.prog 50 #[.int .u32 (opn : Nat), .int .i64 ((q : Int) + 1)] W fun e w' => e = .returned (.bool true) ∧ w' = W) := fun hx W => by
    have := has_any opn ((q : Int) + 1) W (by omega) (by omega) (by omega)
    rw [hfst hx] at this; exact this
  have KU : Hid (∀ W, Below w.heap.size w W → Calls Try.prog 55 #[.agg #[.slice A1 i.cars.length c1, .slice A2 i.stops.length c2, .slice A3 i.pairs.length c3, .slice A4 i.travel.length c4], .int .u32 (set : Nat)] W fun e w' => e = .returned (.tuple #[.int .i64 (sumN mx0 i set i.stops.length), .int .i64 (sumN mn0 i set i.stops.length), .int .i64 (sumN srv i set i.stops.length)]) ∧ Below W.heap.size W w') := fun W hB => sums_any _ i set W (Lies.below hs hB) hf hse
  have e3 := sumN_le (f := srv) (i := i) (S := set) (a := 0) (b := 1000) (by omega) (by omega) (fun x => by have := stopAt_bounds hf x; unfold srv; omega) i.stops.length
  have e1 := sumN_le (f := mx0) (i := i) (S := set) (a := 0) (b := 20) (by omega) (by omega) (fun x => by have := stopAt_bounds hf x; unfold mx0; omega) i.stops.length
  have e2 := sumN_le (f := mn0) (i := i) (S := set) (a := -20) (b := 0) (by omega) (by omega) (fun x => by have := stopAt_bounds hf x; unfold mn0; omega) i.stops.length
  have hsb := stopAt_bounds hf ((q : Int) + 1)
  have HLD := Lib.hid hload
  generalize sumN mx0 i set i.stops.length = s1 at *
  generalize sumN mn0 i set i.stops.length = s2 at *
  generalize sumN srv i set i.stops.length = s3 at *
  generalize firstL ((q : Int) + 1) i.pairs = fb at *
  have hz' : ((set : Int) == 0) = false := by simpa using hz
  clear hs hf hopn hneed hb0 htop hhas hfst hload
  go_enter Try.func38, Try.ntmps38
  go_upto_region 1 with (fail)
  generalize ((w.alloc (.cells #[.slice A1 i.cars.length c1, .slice A2 i.stops.length c2, .slice A3 i.pairs.length c3, .slice A4 i.travel.length c4] 28)).alloc (.cells #[.int .i64 cap, .int .i64 st, .int .i64 en] 52)).alloc (.cells #[.bool true, .int .i64 ((q : Int) + 1), .int .i64 leave, .int .i64 load, .int .u32 (opn : Nat), .int .u32 (set : Nat), .int .i64 cost] 44) = wa at *
  generalize w.heap.size + 1 + 1 = H at *
  generalize w.heap.size + 1 = K1 at *
  have o5 := ES0.out.hb.cell (j := 5) rfl
  have hHz := ES0.out.hb.1
  go_upto_region 3 with (fail)
  clear o5 hHz
  have k0 := ES0.out.box.b0
  have k1 := ES0.out.box.b1
  have k2 := ES0.out.box.b2
  have k3 := ES0.out.box.b3
  have hIz := ES0.out.box.lt
  have o0 := ES0.out.hb.cell (j := 0) rfl
  have o5 := ES0.out.hb.cell (j := 5) rfl
  have hHz := ES0.out.hb.1
  go_wp2_with (go_at_call 53; fail)
  (with_reducible refine (KO.out _ ES0.out.below).mono ?_)
  rintro e w1 ⟨rfl, hb⟩
  have ES1 := Lib.hid (ES0.out.on hb)
  clear hb
  clear k0 k1 k2 k3 hIz o0 o5 hHz
  have k0 := ES1.out.box.b0
  have k1 := ES1.out.box.b1
  have k2 := ES1.out.box.b2
  have k3 := ES1.out.box.b3
  have hIz := ES1.out.box.lt
  have o1 := ES1.out.hb.cell (j := 1) rfl
  have hHz := ES1.out.hb.1
  go_wp2_with (go_at_call 49; fail)
  (with_reducible refine (KS.out _ ES1.out.below).mono ?_)
  rintro e w2 ⟨rfl, hb⟩
  have ES2 := Lib.hid (ES1.out.on hb)
  clear hb
  clear k0 k1 k2 k3 hIz o1 hHz
  have o5 := ES2.out.hb.cell (j := 5) rfl
  have o1 := ES2.out.hb.cell (j := 1) rfl
  have hHz := ES2.out.hb.1
  go_wp2_with (go_at_call 50; fail)
  (with_reducible refine (KH.out _).mono ?_)
  rintro e w' ⟨rfl, hww⟩
  replace hww := hww.symm
  subst hww
  clear o5 o1 hHz
  have k0 := ES2.out.box.b0
  have k1 := ES2.out.box.b1
  have k2 := ES2.out.box.b2
  have k3 := ES2.out.box.b3
  have hIz := ES2.out.box.lt
  have o5 := ES2.out.hb.cell (j := 5) rfl
  have hHz := ES2.out.hb.1
  go_wp2_with (go_at_call 52; fail)
  (with_reducible refine (KV.out _ ES2.out.below).mono ?_)
  rintro e w3 ⟨rfl, hb⟩
  have ES3 := Lib.hid (ES2.out.on hb)
  clear hb
  clear k0 k1 k2 k3 hIz o5 hHz
  have tn : ((opn : Int) != (opn : Int)) = false := by simp
  have k0 := ES3.out.box.b0
  have k1 := ES3.out.box.b1
  have k2 := ES3.out.box.b2
  have k3 := ES3.out.box.b3
  have hIz := ES3.out.box.lt
  have o4 := ES3.out.hb.cell (j := 4) rfl
  have o1 := ES3.out.hb.cell (j := 1) rfl
  have hHz := ES3.out.hb.1
  go_wp2_with (go_at_call 54; fail)
  (with_reducible refine (KF.out _ ES3.out.below).mono ?_)
  rintro e w4 ⟨rfl, hb⟩
  have ES4 := Lib.hid (ES3.out.on hb)
  clear hb
  clear k0 k1 k2 k3 hIz o4 o1 hHz
  cases fb
  · obtain ⟨B4, o4', rfl, hB4, x0, x1, x2, x3⟩ := said_stop ES4.out.box.lies hq
    generalize stopAt i ((q : Int) + 1) = sx at *
    obtain ⟨sd, so, sc, ss⟩ := sx
    simp only at x0 x1 x2 x3 hsb hlo hhi
    have n6 : (q : Int) + 1 - 1 = (q : Int) := by omega
    have n7 : (q : Int) < (i.stops.length : Int) := by omega
    have n8 : (q : Int).toNat = q := by omega
    have n9 : (0 : Int) ≤ (q : Int) := by omega
    have n10 : IntKind.i64.wrap (q : Int) = (q : Int) := IntWalk.i64_in _ (by omega)
    have k1 := ES4.out.box.b1
    have hIz := ES4.out.box.lt
    have o1 := ES4.out.hb.cell (j := 1) rfl
    have hHz := ES4.out.hb.1
    go_upto_region 9 with (fail)
    have BX := Lib.hid (blk_new w4 #[.int .i64 sd, .int .i64 so, .int .i64 sc, .int .i64 ss] 48)
    have HBx := Lib.hid ((Below.refl w4.heap.size w4).alloc (Nat.le_refl _) (.cells #[.int .i64 sd, .int .i64 so, .int .i64 sc, .int .i64 ss] 48))
    have ES5 := Lib.hid (ES4.out.on HBx.out)
    clear k1 hIz o1 hHz x0 x1 x2 x3 n6 n7 n8 n9 n10 ES4 HBx
    generalize w4.alloc (.cells #[.int .i64 sd, .int .i64 so, .int .i64 sc, .int .i64 ss] 48) = w5 at *
    generalize w4.heap.size = X at *
    have k0 := ES5.out.box.b0
    have k1 := ES5.out.box.b1
    have k2 := ES5.out.box.b2
    have k3 := ES5.out.box.b3
    have hIz := ES5.out.box.lt
    have o5 := ES5.out.hb.cell (j := 5) rfl
    have hHz := ES5.out.hb.1
    go_wp2_with (go_at_call 55; fail)
    (with_reducible refine (KU.out _ ES5.out.below).mono ?_)
    rintro e w6 ⟨rfl, hb⟩
    have ES6 := Lib.hid (ES5.out.on hb)
    have BY := Lib.hid (BX.out.below hb)
    clear hb
    clear k0 k1 k2 k3 hIz o5 hHz
    have o2 := ES6.out.hb.cell (j := 2) rfl
    have o3 := ES6.out.hb.cell (j := 3) rfl
    have o6 := ES6.out.hb.cell (j := 6) rfl
    have hHz := ES6.out.hb.1
    have a0 := ES6.out.kb.cell (j := 0) rfl
    have a1 := ES6.out.kb.cell (j := 1) rfl
    have hKz := ES6.out.kb.1
    have b1 := BY.out.cell (j := 1) rfl
    have b2 := BY.out.cell (j := 2) rfl
    have b3 := BY.out.cell (j := 3) rfl
    have hXz := BY.out.1
    have hw0 : IntKind.i64.wrap (s1 + s2) = s1 + s2 := IntWalk.i64_in _ (by omega)
    have hw1 : IntKind.i64.wrap (so + ss) = so + ss := IntWalk.i64_in _ (by omega)
    have hw2 : IntKind.i64.wrap (sc + ss) = sc + ss := IntWalk.i64_in _ (by omega)
    have hw3 : IntKind.i64.wrap (leave - st) = leave - st := IntWalk.i64_in _ (by omega)
    have hw4 : IntKind.i64.wrap (leave - st - s3) = leave - st - s3 := IntWalk.i64_in _ (by omega)
    have v0 : (load != s1 + s2) = false := by simpa using HLD.out
    have v1 : decide (load < 0) = false := by simp; omega
    have v2 : decide (cap < load) = false := by simp; omega
    have v3 : decide (leave < so + ss) = false := by simp; omega
    have v4 : decide (sc + ss < leave) = false := by simp; omega
    have v5 : decide (0 ≤ cost) = true := by simp; omega
    have v6 : decide (cost ≤ leave - st - s3) = true := by simp; omega
    go_wp2
    go_ret
    exact ⟨rfl, ES6.out.below⟩
  · have KH3 := Lib.hid (KH2.out rfl)
    have o1 := ES4.out.hb.cell (j := 1) rfl
    have hHz := ES4.out.hb.1
    go_wp2_with (go_at_call 50; fail)
    (with_reducible refine (KH3.out _).mono ?_)
    rintro e w' ⟨rfl, hww⟩
    replace hww := hww.symm
    subst hww
    clear o1 hHz
    obtain ⟨B4, o4', rfl, hB4, x0, x1, x2, x3⟩ := said_stop ES4.out.box.lies hq
    generalize stopAt i ((q : Int) + 1) = sx at *
    obtain ⟨sd, so, sc, ss⟩ := sx
    simp only at x0 x1 x2 x3 hsb hlo hhi
    have n6 : (q : Int) + 1 - 1 = (q : Int) := by omega
    have n7 : (q : Int) < (i.stops.length : Int) := by omega
    have n8 : (q : Int).toNat = q := by omega
    have n9 : (0 : Int) ≤ (q : Int) := by omega
    have n10 : IntKind.i64.wrap (q : Int) = (q : Int) := IntWalk.i64_in _ (by omega)
    have k1 := ES4.out.box.b1
    have hIz := ES4.out.box.lt
    have o1 := ES4.out.hb.cell (j := 1) rfl
    have hHz := ES4.out.hb.1
    go_upto_region 9 with (fail)
    have BX := Lib.hid (blk_new w4 #[.int .i64 sd, .int .i64 so, .int .i64 sc, .int .i64 ss] 48)
    have HBx := Lib.hid ((Below.refl w4.heap.size w4).alloc (Nat.le_refl _) (.cells #[.int .i64 sd, .int .i64 so, .int .i64 sc, .int .i64 ss] 48))
    have ES5 := Lib.hid (ES4.out.on HBx.out)
    clear k1 hIz o1 hHz x0 x1 x2 x3 n6 n7 n8 n9 n10 ES4 HBx
    generalize w4.alloc (.cells #[.int .i64 sd, .int .i64 so, .int .i64 sc, .int .i64 ss] 48) = w5 at *
    generalize w4.heap.size = X at *
    have k0 := ES5.out.box.b0
    have k1 := ES5.out.box.b1
    have k2 := ES5.out.box.b2
    have k3 := ES5.out.box.b3
    have hIz := ES5.out.box.lt
    have o5 := ES5.out.hb.cell (j := 5) rfl
    have hHz := ES5.out.hb.1
    go_wp2_with (go_at_call 55; fail)
    (with_reducible refine (KU.out _ ES5.out.below).mono ?_)
    rintro e w6 ⟨rfl, hb⟩
    have ES6 := Lib.hid (ES5.out.on hb)
    have BY := Lib.hid (BX.out.below hb)
    clear hb
    clear k0 k1 k2 k3 hIz o5 hHz
    have o2 := ES6.out.hb.cell (j := 2) rfl
    have o3 := ES6.out.hb.cell (j := 3) rfl
    have o6 := ES6.out.hb.cell (j := 6) rfl
    have hHz := ES6.out.hb.1
    have a0 := ES6.out.kb.cell (j := 0) rfl
    have a1 := ES6.out.kb.cell (j := 1) rfl
    have hKz := ES6.out.kb.1
    have b1 := BY.out.cell (j := 1) rfl
    have b2 := BY.out.cell (j := 2) rfl
    have b3 := BY.out.cell (j := 3) rfl
    have hXz := BY.out.1
    have hw0 : IntKind.i64.wrap (s1 + s2) = s1 + s2 := IntWalk.i64_in _ (by omega)
    have hw1 : IntKind.i64.wrap (so + ss) = so + ss := IntWalk.i64_in _ (by omega)
    have hw2 : IntKind.i64.wrap (sc + ss) = sc + ss := IntWalk.i64_in _ (by omega)
    have hw3 : IntKind.i64.wrap (leave - st) = leave - st := IntWalk.i64_in _ (by omega)
    have hw4 : IntKind.i64.wrap (leave - st - s3) = leave - st - s3 := IntWalk.i64_in _ (by omega)
    have v0 : (load != s1 + s2) = false := by simpa using HLD.out
    have v1 : decide (load < 0) = false := by simp; omega
    have v2 : decide (cap < load) = false := by simp; omega
    have v3 : decide (leave < so + ss) = false := by simp; omega
    have v4 : decide (sc + ss < leave) = false := by simp; omega
    have v5 : decide (0 ≤ cost) = true := by simp; omega
    have v6 : decide (cost ≤ leave - st - s3) = true := by simp; omega
    go_wp2
    go_ret
    exact ⟨rfl, ES6.out.below⟩
end Go.Proofs.Ytkheepedjoimmaa
