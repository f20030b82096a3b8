/- draymanref01.Begin, End: what they answer. · draymanref01.Heads: what it answers. -/
import Derived.Test.YtgkieelacjcopaaZ21
import Derived.Test.YtgkieelacjcopaaZ22
import Derived.Test.YtgkieelacjcopaaZ07
namespace Go.Proofs.Ytgkieelacjcopaa
open Go.RowKit
set_option linter.unusedSimpArgs false

set_option maxRecDepth 100000 in
set_option maxHeartbeats 4000000 in
theorem refBegin_any (v : Value) (i : Prob) (c : Int) (w : World) (hv : Lies w v i) (hok : probOk i = true) :
    Calls Try.prog 24 #[v, .int .i64 c] w fun e w' => e = .returned (headV (if inB c 0 (i.cars.length - 1) = true then some (beginH i c) else none)) ∧ Below w.heap.size w w' := by
  obtain ⟨A1, A2, A3, A4, c1, c2, c3, c4, rfl, hs⟩ := hv.said
  have hf := fine_of hok
  have hcl := hf.cars
  have BI0 : Hid (Box ((w.alloc (.cells #[.slice A1 i.cars.length c1, .slice A2 i.stops.length c2, .slice A3 i.pairs.length c3, .slice A4 i.travel.length c4] 27)).alloc (.cells #[.bool false, .int .i64 0, .int .i64 0, .int .i64 0, .int .u32 0, .int .u32 0, .int .i64 0] 64)) w.heap.size A1 A2 A3 A4 c1 c2 c3 c4 i) := (box_new hs 27).below ((Below.refl _ _).alloc (Nat.le_refl _) _)
  have RB0 : Hid (Blk ((w.alloc (.cells #[.slice A1 i.cars.length c1, .slice A2 i.stops.length c2, .slice A3 i.pairs.length c3, .slice A4 i.travel.length c4] 27)).alloc (.cells #[.bool false, .int .i64 0, .int .i64 0, .int .i64 0, .int .u32 0, .int .u32 0, .int .i64 0] 64)) (w.heap.size + 1) #[.bool false, .int .i64 0, .int .i64 0, .int .i64 0, .int .u32 0, .int .u32 0, .int .i64 0].toList) := blk_at _ _ (by simp)
  have HB0 : Hid (Below w.heap.size w ((w.alloc (.cells #[.slice A1 i.cars.length c1, .slice A2 i.stops.length c2, .slice A3 i.pairs.length c3, .slice A4 i.travel.length c4] 27)).alloc (.cells #[.bool false, .int .i64 0, .int .i64 0, .int .i64 0, .int .u32 0, .int .u32 0, .int .i64 0] 64))) := ((Below.refl _ _).alloc (Nat.le_refl _) _).alloc (by simp) _
  obtain ⟨b, hb⟩ : ∃ b, inB c 0 (i.cars.length - 1) = b := ⟨_, rfl⟩
  have KC : Hid (∀ W, Below w.heap.size w W → Calls Try.prog 36 #[.agg #[.slice A1 i.cars.length c1, .slice A2 i.stops.length c2, .slice A3 i.pairs.length c3, .slice A4 i.travel.length c4], .int .i64 c] W fun e w' => e = .returned (.bool b) ∧ Below W.heap.size W w') := fun W hB => refCar_any _ i c b W (Lies.below hs hB) (by omega) hb
  have HC := Lib.hid hb
  obtain ⟨res, hres⟩ : ∃ res, (if inB c 0 (i.cars.length - 1) = true then some (beginH i c) else none) = res := ⟨_, rfl⟩
  rw [hres]
  have HRS := Lib.hid hres
  clear hs hv hf hok hb hres
  go_enter Try.func24, Try.ntmps24
  go_upto_region 1 with (fail)
  generalize (w.alloc (.cells #[.slice A1 i.cars.length c1, .slice A2 i.stops.length c2, .slice A3 i.pairs.length c3, .slice A4 i.travel.length c4] 27)).alloc (.cells #[.bool false, .int .i64 0, .int .i64 0, .int .i64 0, .int .u32 0, .int .u32 0, .int .i64 0] 64) = wa at *
  have hRw : w.heap.size ≤ w.heap.size + 1 := by omega
  generalize w.heap.size + 1 = R at *
  have k0 := BI0.out.b0
  have k1 := BI0.out.b1
  have k2 := BI0.out.b2
  have k3 := BI0.out.b3
  have hIz := BI0.out.lt
  go_wp2_with (go_at_call 36; fail)
  (with_reducible refine (KC.out _ HB0.out).mono ?_)
  rintro e w1 ⟨rfl, hb1⟩
  have HB1 := Lib.hid (HB0.out.trans (hb1.mono HB0.out.size))
  have BI := Lib.hid (BI0.out.below hb1)
  have RB := Lib.hid (RB0.out.below hb1)
  clear hb1 k0 k1 k2 k3 hIz BI0 RB0 HB0 KC
  cases b
  · have HN : Hid (res = none) := by show _ = _; rw [← HRS.out, HC.out]; rfl
    have r0 := RB.out.cell (j := 0) rfl
    have z0 := (RB.out.2 0 (by simp)).2
    have r1 := RB.out.cell (j := 1) rfl
    have z1 := (RB.out.2 1 (by simp)).2
    have r2 := RB.out.cell (j := 2) rfl
    have z2 := (RB.out.2 2 (by simp)).2
    have r3 := RB.out.cell (j := 3) rfl
    have z3 := (RB.out.2 3 (by simp)).2
    have r4 := RB.out.cell (j := 4) rfl
    have z4 := (RB.out.2 4 (by simp)).2
    have r5 := RB.out.cell (j := 5) rfl
    have z5 := (RB.out.2 5 (by simp)).2
    have r6 := RB.out.cell (j := 6) rfl
    have z6 := (RB.out.2 6 (by simp)).2
    have hRz := RB.out.1
    have HBf := Lib.hid (below7 HB1.out hRw (.bool false) (.int .i64 0) (.int .i64 0) (.int .i64 0) (.int .u32 0) (.int .u32 0) (.int .i64 0))
    go_wp2
    refine bodyPost_ret (v := .agg #[.bool false, .int .i64 0, .int .i64 0, .int .i64 0, .int .u32 0, .int .u32 0, .int .i64 0]) (by simp [results, Try.results24, go_sem, r0, r1, r2, r3, r4, r5, r6, z0, z1, z2, z3, z4, z5, z6]) rfl ⟨by rw [HN.out]; rfl, HBf.out⟩
  · obtain ⟨cn, rfl⟩ : ∃ cn : Nat, c = (cn : Int) := ⟨c.toNat, by have := inB_iff.1 HC.out; omega⟩
    have hcn : cn < i.cars.length := by have := inB_iff.1 HC.out; omega
    have HN : Hid (res = some (beginH i cn)) := by show _ = _; rw [← HRS.out, HC.out]; rfl
    obtain ⟨B, o, rfl, hB, q0, q1, q2⟩ := said_car BI.out.lies hcn
    have k0 := BI.out.b0
    have hIz := BI.out.lt
    have n0 : (0 : Int) ≤ (cn : Int) := by omega
    have n1 : (cn : Int) < (i.cars.length : Int) := by omega
    have n2 : (cn : Int).toNat = cn := by omega
    have r0 := RB.out.cell (j := 0) rfl
    have z0 := (RB.out.2 0 (by simp)).2
    have r1 := RB.out.cell (j := 1) rfl
    have z1 := (RB.out.2 1 (by simp)).2
    have r2 := RB.out.cell (j := 2) rfl
    have z2 := (RB.out.2 2 (by simp)).2
    have r3 := RB.out.cell (j := 3) rfl
    have z3 := (RB.out.2 3 (by simp)).2
    have r4 := RB.out.cell (j := 4) rfl
    have z4 := (RB.out.2 4 (by simp)).2
    have r5 := RB.out.cell (j := 5) rfl
    have z5 := (RB.out.2 5 (by simp)).2
    have r6 := RB.out.cell (j := 6) rfl
    have z6 := (RB.out.2 6 (by simp)).2
    have hRz := RB.out.1
    have HBf := Lib.hid (below7 HB1.out hRw (.bool true) (.int .i64 0) (.int .i64 (carAt i cn).s) (.int .i64 0) (.int .u32 0) (.int .u32 0) (.int .i64 0))
    go_wp2
    refine bodyPost_ret (v := .agg #[.bool true, .int .i64 0, .int .i64 (carAt i cn).s, .int .i64 0, .int .u32 0, .int .u32 0, .int .i64 0]) (by simp [results, Try.results24, go_sem, r0, r1, r2, r3, r4, r5, r6, z0, z1, z2, z3, z4, z5, z6]) rfl ⟨by rw [HN.out]; rfl, HBf.out⟩
set_option maxRecDepth 100000 in
set_option maxHeartbeats 4000000 in
theorem refEnd_any (v : Value) (i : Prob) (c : Int) (w : World) (hv : Lies w v i) (hok : probOk i = true) :
    Calls Try.prog 25 #[v, .int .i64 c] w fun e w' => e = .returned (tailV (if inB c 0 (i.cars.length - 1) = true then some (endT i c) else none)) ∧ Below w.heap.size w w' := by
  obtain ⟨A1, A2, A3, A4, c1, c2, c3, c4, rfl, hs⟩ := hv.said
  have hf := fine_of hok
  have hcl := hf.cars
  have BI0 : Hid (Box ((w.alloc (.cells #[.slice A1 i.cars.length c1, .slice A2 i.stops.length c2, .slice A3 i.pairs.length c3, .slice A4 i.travel.length c4] 27)).alloc (.cells #[.bool false, .int .i64 0, .int .i64 0, .int .i64 0, .int .i64 0, .int .u32 0, .int .u32 0, .int .i64 0] 65)) w.heap.size A1 A2 A3 A4 c1 c2 c3 c4 i) := (box_new hs 27).below ((Below.refl _ _).alloc (Nat.le_refl _) _)
  have RB0 : Hid (Blk ((w.alloc (.cells #[.slice A1 i.cars.length c1, .slice A2 i.stops.length c2, .slice A3 i.pairs.length c3, .slice A4 i.travel.length c4] 27)).alloc (.cells #[.bool false, .int .i64 0, .int .i64 0, .int .i64 0, .int .i64 0, .int .u32 0, .int .u32 0, .int .i64 0] 65)) (w.heap.size + 1) #[.bool false, .int .i64 0, .int .i64 0, .int .i64 0, .int .i64 0, .int .u32 0, .int .u32 0, .int .i64 0].toList) := blk_at _ _ (by simp)
  have HB0 : Hid (Below w.heap.size w ((w.alloc (.cells #[.slice A1 i.cars.length c1, .slice A2 i.stops.length c2, .slice A3 i.pairs.length c3, .slice A4 i.travel.length c4] 27)).alloc (.cells #[.bool false, .int .i64 0, .int .i64 0, .int .i64 0, .int .i64 0, .int .u32 0, .int .u32 0, .int .i64 0] 65))) := ((Below.refl _ _).alloc (Nat.le_refl _) _).alloc (by simp) _
  obtain ⟨b, hb⟩ : ∃ b, inB c 0 (i.cars.length - 1) = b := ⟨_, rfl⟩
  have KC : Hid (∀ W, Below w.heap.size w W → Calls Try.prog 36 #[.agg #[.slice A1 i.cars.length c1, .slice A2 i.stops.length c2, .slice A3 i.pairs.length c3, .slice A4 i.travel.length c4], .int .i64 c] W fun e w' => e = .returned (.bool b) ∧ Below W.heap.size W w') := fun W hB => refCar_any _ i c b W (Lies.below hs hB) (by omega) hb
  have HC := Lib.hid hb
  obtain ⟨res, hres⟩ : ∃ res, (if inB c 0 (i.cars.length - 1) = true then some (endT i c) else none) = res := ⟨_, rfl⟩
  rw [hres]
  have HRS := Lib.hid hres
  clear hs hv hf hok hb hres
  go_enter Try.func25, Try.ntmps25
  go_upto_region 1 with (fail)
  generalize (w.alloc (.cells #[.slice A1 i.cars.length c1, .slice A2 i.stops.length c2, .slice A3 i.pairs.length c3, .slice A4 i.travel.length c4] 27)).alloc (.cells #[.bool false, .int .i64 0, .int .i64 0, .int .i64 0, .int .i64 0, .int .u32 0, .int .u32 0, .int .i64 0] 65) = wa at *
  have hRw : w.heap.size ≤ w.heap.size + 1 := by omega
  generalize w.heap.size + 1 = R at *
  have k0 := BI0.out.b0
  have k1 := BI0.out.b1
  have k2 := BI0.out.b2
  have k3 := BI0.out.b3
  have hIz := BI0.out.lt
  go_wp2_with (go_at_call 36; fail)
  (with_reducible refine (KC.out _ HB0.out).mono ?_)
  rintro e w1 ⟨rfl, hb1⟩
  have HB1 := Lib.hid (HB0.out.trans (hb1.mono HB0.out.size))
  have BI := Lib.hid (BI0.out.below hb1)
  have RB := Lib.hid (RB0.out.below hb1)
  clear hb1 k0 k1 k2 k3 hIz BI0 RB0 HB0 KC
  cases b
  · have HN : Hid (res = none) := by show _ = _; rw [← HRS.out, HC.out]; rfl
    have r0 := RB.out.cell (j := 0) rfl
    have z0 := (RB.out.2 0 (by simp)).2
    have r1 := RB.out.cell (j := 1) rfl
    have z1 := (RB.out.2 1 (by simp)).2
    have r2 := RB.out.cell (j := 2) rfl
    have z2 := (RB.out.2 2 (by simp)).2
    have r3 := RB.out.cell (j := 3) rfl
    have z3 := (RB.out.2 3 (by simp)).2
    have r4 := RB.out.cell (j := 4) rfl
    have z4 := (RB.out.2 4 (by simp)).2
    have r5 := RB.out.cell (j := 5) rfl
    have z5 := (RB.out.2 5 (by simp)).2
    have r6 := RB.out.cell (j := 6) rfl
    have z6 := (RB.out.2 6 (by simp)).2
    have r7 := RB.out.cell (j := 7) rfl
    have z7 := (RB.out.2 7 (by simp)).2
    have hRz := RB.out.1
    have HBf := Lib.hid (below8 HB1.out hRw (.bool false) (.int .i64 0) (.int .i64 0) (.int .i64 0) (.int .i64 0) (.int .u32 0) (.int .u32 0) (.int .i64 0))
    go_wp2
    refine bodyPost_ret (v := .agg #[.bool false, .int .i64 0, .int .i64 0, .int .i64 0, .int .i64 0, .int .u32 0, .int .u32 0, .int .i64 0]) (by simp [results, Try.results25, go_sem, r0, r1, r2, r3, r4, r5, r6, r7, z0, z1, z2, z3, z4, z5, z6, z7]) rfl ⟨by rw [HN.out]; rfl, HBf.out⟩
  · obtain ⟨cn, rfl⟩ : ∃ cn : Nat, c = (cn : Int) := ⟨c.toNat, by have := inB_iff.1 HC.out; omega⟩
    have hcn : cn < i.cars.length := by have := inB_iff.1 HC.out; omega
    have HN : Hid (res = some (endT i cn)) := by show _ = _; rw [← HRS.out, HC.out]; rfl
    obtain ⟨B, o, rfl, hB, q0, q1, q2⟩ := said_car BI.out.lies hcn
    have k0 := BI.out.b0
    have hIz := BI.out.lt
    have n0 : (0 : Int) ≤ (cn : Int) := by omega
    have n1 : (cn : Int) < (i.cars.length : Int) := by omega
    have n2 : (cn : Int).toNat = cn := by omega
    have r0 := RB.out.cell (j := 0) rfl
    have z0 := (RB.out.2 0 (by simp)).2
    have r1 := RB.out.cell (j := 1) rfl
    have z1 := (RB.out.2 1 (by simp)).2
    have r2 := RB.out.cell (j := 2) rfl
    have z2 := (RB.out.2 2 (by simp)).2
    have r3 := RB.out.cell (j := 3) rfl
    have z3 := (RB.out.2 3 (by simp)).2
    have r4 := RB.out.cell (j := 4) rfl
    have z4 := (RB.out.2 4 (by simp)).2
    have r5 := RB.out.cell (j := 5) rfl
    have z5 := (RB.out.2 5 (by simp)).2
    have r6 := RB.out.cell (j := 6) rfl
    have z6 := (RB.out.2 6 (by simp)).2
    have r7 := RB.out.cell (j := 7) rfl
    have z7 := (RB.out.2 7 (by simp)).2
    have hRz := RB.out.1
    have HBf := Lib.hid (below8 HB1.out hRw (.bool true) (.int .i64 0) (.int .i64 (carAt i cn).e) (.int .i64 0) (.int .i64 0) (.int .u32 0) (.int .u32 0) (.int .i64 0))
    go_wp2
    refine bodyPost_ret (v := .agg #[.bool true, .int .i64 0, .int .i64 (carAt i cn).e, .int .i64 0, .int .i64 0, .int .u32 0, .int .u32 0, .int .i64 0]) (by simp [results, Try.results25, go_sem, r0, r1, r2, r3, r4, r5, r6, r7, z0, z1, z2, z3, z4, z5, z6, z7]) rfl ⟨by rw [HN.out]; rfl, HBf.out⟩
end Go.Proofs.Ytgkieelacjcopaa
namespace Go.Proofs.Ytgkieelacjcopaa
open Go.RowKit
set_option linter.unusedSimpArgs false

theorem head_info : (Try.prog.info? 64).map (fun i => (i.zero, i.size, i.bytes)) = some (some (.agg #[.bool false, .int .i64 0, .int .i64 0, .int .i64 0, .int .u32 0, .int .u32 0, .int .i64 0]), 7, 48) := by kernel_rfl

set_option maxRecDepth 100000 in
set_option maxHeartbeats 8000000 in
theorem refHeads_in (v u : Value) (i : Prob) (c : Int) (l : List Int) (w : World) (hv : Lies w v i) (hok : probOk i = true) (hp : i.pairs.length ≤ 1000000) (hr : Recs w 1 num_ u l) (hl : l.length ≤ 1000) (hc : inB c 0 (i.cars.length - 1) = true) :
    Calls Try.prog 22 #[v, .int .i64 c, u] w fun e w' => ∃ A cap, e = .returned (.slice A (l.length + 1) cap) ∧ w'.ownsRow w.heap.size 64 7 (.slice A (l.length + 1) cap) (l.length + 1) (headsC i c l (l.length + 1)) ∧ Below w.heap.size w w' := by
  obtain ⟨A1, A2, A3, A4, c1, c2, c3, c4, rfl, hs⟩ := hv.said
  obtain ⟨A, cap, rfl, hcell⟩ := hr.num
  have hf := fine_of hok
  have hcl := hf.cars
  obtain ⟨j0, hj, hjz, hj1, hj2⟩ := info_parts head_info
  have BX0 := Lib.hid (box_new hs 27)
  have HB0 := Lib.hid ((Below.refl w.heap.size w).alloc (Nat.le_refl _) (.cells #[.slice A1 i.cars.length c1, .slice A2 i.stops.length c2, .slice A3 i.pairs.length c3, .slice A4 i.travel.length c4] 27))
  have KC : Hid (∀ W, Below w.heap.size w W → Calls Try.prog 36 #[.agg #[.slice A1 i.cars.length c1, .slice A2 i.stops.length c2, .slice A3 i.pairs.length c3, .slice A4 i.travel.length c4], .int .i64 c] W fun e w' => e = .returned (.bool true) ∧ Below W.heap.size W w') := fun W hB => refCar_any _ i c true W (Lies.below hs hB) (by omega) hc
  have KB : Hid (∀ W, Below w.heap.size w W → Calls Try.prog 24 #[.agg #[.slice A1 i.cars.length c1, .slice A2 i.stops.length c2, .slice A3 i.pairs.length c3, .slice A4 i.travel.length c4], .int .i64 c] W fun e w' => e = .returned (.agg #[.bool true, .int .i64 0, .int .i64 (carAt i c).s, .int .i64 0, .int .u32 0, .int .u32 0, .int .i64 0]) ∧ Below W.heap.size W w') := fun W hB => by
    have := refBegin_any _ i c W (Lies.below hs hB) hok
    rw [if_pos hc] at this
    exact this
  have KX : Hid (∀ (k : Nat) (hk : k < l.length) (W : World), Below w.heap.size w W → Calls Try.prog 38 #[.agg #[.slice A1 i.cars.length c1, .slice A2 i.stops.length c2, .slice A3 i.pairs.length c3, .slice A4 i.travel.length c4], .int .i64 c, headV (headL i c (l.take k)), .int .i64 l[k]] W fun e w' => e = .returned (headV (headL i c (l.take (k + 1)))) ∧ Below W.heap.size W w') := fun k hk W hB => by
    have := refExtend_any _ i c (headL i c (l.take k)) l[k] W (Lies.below hs hB) hok hp (fun h hh => (head_hbn hf (by omega) hh).hb (by omega))
    rw [if_pos hc, ← head_step hk] at this
    exact this
  have HCE := Lib.hid hcell
  clear hs hv hf hr hcell hok
  go_enter Try.func22, Try.ntmps22
  go_upto_region 1 with (fail)
  have hwz : (w.alloc (.cells #[.slice A1 i.cars.length c1, .slice A2 i.stops.length c2, .slice A3 i.pairs.length c3, .slice A4 i.travel.length c4] 27)).heap.size = w.heap.size + 1 := by simp
  generalize w.alloc (.cells #[.slice A1 i.cars.length c1, .slice A2 i.stops.length c2, .slice A3 i.pairs.length c3, .slice A4 i.travel.length c4] 27) = wa at *
  have k0 := BX0.out.b0
  have k1 := BX0.out.b1
  have k2 := BX0.out.b2
  have k3 := BX0.out.b3
  have hIz := BX0.out.lt
  go_wp2_with (go_at_call 36; fail)
  (with_reducible refine (KC.out _ HB0.out).mono ?_)
  rintro e w1 ⟨rfl, hb1⟩
  have HB1 := Lib.hid hb1
  clear hb1 k0 k1 k2 k3 hIz KC
  have k0 := (BX0.out.below HB1.out).b0
  have k1 := (BX0.out.below HB1.out).b1
  have k2 := (BX0.out.below HB1.out).b2
  have k3 := (BX0.out.below HB1.out).b3
  have hIz := (BX0.out.below HB1.out).lt
  go_wp2_with (go_at_call 24; fail)
  (with_reducible refine (KB.out _ (HB0.out.trans (HB1.out.mono HB0.out.size))).mono ?_)
  rintro e w2 ⟨rfl, hb2⟩
  have HB2 : Hid (Below wa.heap.size wa w2) := HB1.out.trans (hb2.mono HB1.out.size)
  have OW2 : Hid ((w2.alloc (.cells #[.bool true, .int .i64 0, .int .i64 (carAt i c).s, .int .i64 0, .int .u32 0, .int .u32 0, .int .i64 0] 64)).ownsRow wa.heap.size 64 7 (.slice (some ⟨w2.heap.size, 0, none⟩) 1 1) 1 (headsC i c l 1)) :=
    own_new (xs := [.bool true, .int .i64 0, .int .i64 (carAt i c).s, .int .i64 0, .int .u32 0, .int .u32 0, .int .i64 0]) rfl HB2.out.size
  clear hb2 k0 k1 k2 k3 hIz KB HB1
  go_wp2
  go_loopw [7, 20] (fun ov kv wr => ∃ k : Nat, k ≤ l.length ∧ kv = .int .i64 k ∧ wr.ownsRow wa.heap.size 64 7 ov (k + 1) (headsC i c l (k + 1)) ∧ Below wa.heap.size wa wr) (fun _ kv _ => l.length - (intOf kv).toNat)
  case atStart => exact ⟨0, Nat.zero_le _, rfl, OW2.out, HB2.out.alloc HB2.out.size _⟩
  case round =>
    obtain ⟨k, hk, rfl, hown, hbr⟩ := hrel
    obtain ⟨Ao, cp, rfl, hg⟩ := own_get hown
    obtain ⟨g, rfl, hgz, hcg⟩ := hg (by omega)
    have hgB : wa.heap.size ≤ g := (own_typed hown (g := g) rfl).2
    have HO := Lib.hid hown
    have HBr := Lib.hid hbr
    have HBW : Hid (Below w.heap.size w wr) := HB0.out.trans (hbr.mono HB0.out.size)
    have BX := Lib.hid (BX0.out.below hbr)
    have hc7 : ∀ j, j < 7 → ∀ u, (headC (headL i c (l.take k)))[j]? = some u → wr.cell? ⟨g, k * 7 + j, none⟩ = some u := fun j hj u hu => hcg _ _ (by unfold headsC; rw [flat_at (fun k => headC_len _) (by omega) hj]; exact hu)
    clear hown hbr hg hcg OW2
    by_cases hlt : k < l.length
    · obtain ⟨B, o, rfl, hB, hx⟩ := HCE.out k hlt
      have d0 : wr.cell? ⟨B, o + k, none⟩ = some (.int .i64 l[k]) := cell_up HBW.out hB hx
      have hBz := Nat.lt_of_lt_of_le hB HBW.out.size
      have KE : Hid (∀ W, Below w.heap.size w W → Calls Try.prog 38 #[.agg #[.slice A1 i.cars.length c1, .slice A2 i.stops.length c2, .slice A3 i.pairs.length c3, .slice A4 i.travel.length c4], .int .i64 c, headV (headL i c (l.take k)), .int .i64 l[k]] W fun e w' => e = .returned (headV (headL i c (l.take (k + 1)))) ∧ Below W.heap.size W w') := KX.out k hlt
      have n0 : (0 : Int) ≤ (k : Int) := by omega
      have n1 : (k : Int) < ((k + 1 : Nat) : Int) := by omega
      have n1' : (k : Int) < (k : Int) + 1 := by omega
      have n2 : (k : Int).toNat = k := by omega
      have t1 : (k : Int) < (l.length : Int) := by omega
      generalize l[k] = s at *
      cases hH0 : headL i c (l.take k) with
      | none =>
        rw [hH0] at hc7 KE
        simp only [headV] at KE
        clear hH0
        have o0 := hc7 0 (by omega) _ rfl
        have o1 := hc7 1 (by omega) _ rfl
        have o2 := hc7 2 (by omega) _ rfl
        have o3 := hc7 3 (by omega) _ rfl
        have o4 := hc7 4 (by omega) _ rfl
        have o5 := hc7 5 (by omega) _ rfl
        have o6 := hc7 6 (by omega) _ rfl
        rw [Nat.add_zero] at o0
        have SS : Hid (∀ W, Below wa.heap.size wa W → W.cell? ⟨w.heap.size, 0, none⟩ = some (.slice A1 i.cars.length c1) ∧ W.cell? ⟨w.heap.size, 1, none⟩ = some (.slice A2 i.stops.length c2) ∧ W.cell? ⟨w.heap.size, 2, none⟩ = some (.slice A3 i.pairs.length c3) ∧ W.cell? ⟨w.heap.size, 3, none⟩ = some (.slice A4 i.travel.length c4)) := fun W hB => ⟨(BX0.out.below hB).b0, (BX0.out.below hB).b1, (BX0.out.below hB).b2, (BX0.out.below hB).b3⟩
        have k0 := BX.out.b0
        go_upto_region 7 with (fail)
        refine wp_region_z (S := (fun W => W.cell? ⟨w.heap.size, 0, none⟩ = some (.slice A1 i.cars.length c1) ∧ W.cell? ⟨w.heap.size, 1, none⟩ = some (.slice A2 i.stops.length c2) ∧ W.cell? ⟨w.heap.size, 2, none⟩ = some (.slice A3 i.pairs.length c3) ∧ W.cell? ⟨w.heap.size, 3, none⟩ = some (.slice A4 i.travel.length c4))) (z := 12) (by kernel_rfl) (SS.out _ HBr.out.drew) (fun hH => ?_)
        refine wpAnyZ_takeS (i := 0) (v := ?_) rfl (by kernel_rfl) (by kernel_rfl) (by kernel_rfl) (by kernel_rfl) (fun _ _ _ h => h) (gives_value (by rfl) ?_) (by assumption) ?_
        rotate_left
        · intro w hSw
          (try dsimp only at hSw)
          go_simp
          (try with_reducible rfl)
        (try simp only [Act.put, List.getElem_toArray, List.getElem_cons_succ, List.getElem_cons_zero, List.setIfInBounds_toArray, List.set_cons_zero, List.set_cons_succ])
        refine wpAnyZ_takeS (i := 1) (v := ?_) rfl (by kernel_rfl) (by kernel_rfl) (by kernel_rfl) (by kernel_rfl) (fun _ _ _ h => h) (gives_value (by rfl) ?_) (by assumption) ?_
        rotate_left
        · intro w hSw
          (try dsimp only at hSw)
          go_simp
          (try with_reducible rfl)
        (try simp only [Act.put, List.getElem_toArray, List.getElem_cons_succ, List.getElem_cons_zero, List.setIfInBounds_toArray, List.set_cons_zero, List.set_cons_succ])
        refine wpAnyZ_takeS (i := 2) (v := ?_) rfl (by kernel_rfl) (by kernel_rfl) (by kernel_rfl) (by kernel_rfl) (fun _ _ _ h => h) (gives_value (by rfl) ?_) (by assumption) ?_
        rotate_left
        · intro w hSw
          (try dsimp only at hSw)
          go_simp
          (try with_reducible rfl)
        (try simp only [Act.put, List.getElem_toArray, List.getElem_cons_succ, List.getElem_cons_zero, List.setIfInBounds_toArray, List.set_cons_zero, List.set_cons_succ])
        refine wpAnyZ_takeS (i := 3) (v := ?_) rfl (by kernel_rfl) (by kernel_rfl) (by kernel_rfl) (by kernel_rfl) (fun _ _ _ h => h) (gives_value (by rfl) ?_) (by assumption) ?_
        rotate_left
        · intro w hSw
          (try dsimp only at hSw)
          go_simp
          (try with_reducible rfl)
        (try simp only [Act.put, List.getElem_toArray, List.getElem_cons_succ, List.getElem_cons_zero, List.setIfInBounds_toArray, List.set_cons_zero, List.set_cons_succ])
        refine wpAnyZ_takeS (i := 4) (v := ?_) rfl (by kernel_rfl) (by kernel_rfl) (by kernel_rfl) (by kernel_rfl) (fun _ _ _ h => h) (gives_value (by rfl) ?_) (by assumption) ?_
        rotate_left
        · intro w hSw
          (try dsimp only at hSw)
          go_simp
          (try with_reducible rfl)
        (try simp only [Act.put, List.getElem_toArray, List.getElem_cons_succ, List.getElem_cons_zero, List.setIfInBounds_toArray, List.set_cons_zero, List.set_cons_succ])
        refine wpAnyZ_takeS (i := 5) (v := ?_) rfl (by kernel_rfl) (by kernel_rfl) (by kernel_rfl) (by kernel_rfl) (fun _ _ _ h => h) (gives_value (by rfl) ?_) (by assumption) ?_
        rotate_left
        · intro w hSw
          (try dsimp only at hSw)
          go_simp
          (try with_reducible rfl)
        (try simp only [Act.put, List.getElem_toArray, List.getElem_cons_succ, List.getElem_cons_zero, List.setIfInBounds_toArray, List.set_cons_zero, List.set_cons_succ])
        refine wpAnyZ_takeS (i := 7) (v := ?_) rfl (by kernel_rfl) (by kernel_rfl) (by kernel_rfl) (by kernel_rfl) (fun _ _ _ h => h) (gives_value (by rfl) ?_) (by assumption) ?_
        rotate_left
        · intro w hSw
          (try dsimp only at hSw)
          go_simp
          (try with_reducible rfl)
        (try simp only [Act.put, List.getElem_toArray, List.getElem_cons_succ, List.getElem_cons_zero, List.setIfInBounds_toArray, List.set_cons_zero, List.set_cons_succ])
        refine wpAnyZ_one (i := 6) (by kernel_rfl) ?_
        refine zstep rfl (fun K hK => ?_)
        go_simp
        refine hK.out _ _ (fun _ => SS.out _ HBr.out.drew) (fun hH => ?_)
        replace hH := hH (by decide)
        clear hK K
        (try simp only [Act.put, List.getElem_toArray, List.getElem_cons_succ, List.getElem_cons_zero, List.setIfInBounds_toArray, List.set_cons_zero, List.set_cons_succ])
        refine wpAnyZ_one (i := 8) (by kernel_rfl) ?_
        refine zstep rfl (fun K hK => ?_)
        go_simp
        (with_reducible refine (KE.out _ HBW.out.drew).mono ?_)
        rintro e w3 ⟨rfl, hb3⟩
        have HB3 : Hid (Below wr.heap.size wr w3) := ((Below.refl wr.heap.size wr).drew).trans hb3
        clear hb3
        refine hK.out _ _ (fun _ => SS.out _ (HBr.out.trans (HB3.out.mono HBr.out.size))) (fun hH => ?_)
        replace hH := hH (by decide)
        clear hK K
        (try simp only [Act.put, List.getElem_toArray, List.getElem_cons_succ, List.getElem_cons_zero, List.setIfInBounds_toArray, List.set_cons_zero, List.set_cons_succ])
        clear KE
        generalize hE : headL i c (l.take (k + 1)) = hn at *
        rcases hn with _ | h'
        · have HEQ := Lib.hid hE
          clear hE
          simp only [headV]
          refine wpAnyZ_one (i := 9) (by kernel_rfl) ?_
          refine zstep rfl (fun K hK => ?_)
          go_simp
          have HB4 := Lib.hid (HB3.out.alloc HB3.out.size (.cells #[.bool false, .int .i64 0, .int .i64 0, .int .i64 0, .int .u32 0, .int .u32 0, .int .i64 0] 64))
          have RN := Lib.hid (reads_new w3 #[.bool false, .int .i64 0, .int .i64 0, .int .i64 0, .int .u32 0, .int .u32 0, .int .i64 0].toList 64)
          refine hK.out _ _ (fun _ => SS.out _ (HBr.out.trans (HB4.out.mono HBr.out.size))) (fun hH => ?_)
          replace hH := hH (by decide)
          clear hK K
          (try simp only [Act.put, List.getElem_toArray, List.getElem_cons_succ, List.getElem_cons_zero, List.setIfInBounds_toArray, List.set_cons_zero, List.set_cons_succ])
          refine wpAnyZ_one (i := 10) (by kernel_rfl) ?_
          refine zstep rfl (fun K hK => ?_)
          refine step_append_any _ rfl (.tmp 25) (.tmp 34) 60 rfl wa.heap.size 64 j0 _ 7 48 Try.underlying60 hj hjz hj1 hj2 rfl (by decide) (.slice (some ⟨g, 0, none⟩) (k + 1) cp) (k + 1) (headsC i c l (k + 1)) (by rfl) (own_below HO.out HB4.out) (w3.heap.size + 1) (some ⟨w3.heap.size, 0, none⟩) 1 1 #[.bool false, .int .i64 0, .int .i64 0, .int .i64 0, .int .u32 0, .int .u32 0, .int .i64 0].toList (by rfl) RN.out (by simp [Value.oneCell']) (by unfold maxLen; omega) (by omega) (by simp; have := HB3.out.size; have := HBr.out.size; omega) ?_
          intro v' w5 hown' hgrow hob
          have HO5 := Lib.hid hown'
          have HB5 : Hid (Below wa.heap.size wa w5) := (HBr.out.trans (HB4.out.mono HBr.out.size)).grown hgrow (by simp; have := HB3.out.size; have := HBr.out.size; omega) (fun q' hq' => by simp [Value.ownBlock] at hq'; omega)
          clear hown' hgrow hob
          refine hK.out _ _ (fun _ => SS.out _ HB5.out) (fun hH => ?_)
          replace hH := hH (by decide)
          clear hK K
          (try simp only [Act.put, List.getElem_toArray, List.getElem_cons_succ, List.getElem_cons_zero, List.setIfInBounds_toArray, List.set_cons_zero, List.set_cons_succ])
          refine wpAnyZ_one (i := 11) (by kernel_rfl) ?_
          refine zstep rfl (fun K hK => ?_)
          go_simp
          refine hK.out _ _ (fun _ => SS.out _ HB5.out) (fun hH => ?_)
          clear hK K hH
          (try simp only [Act.put, List.getElem_toArray, List.getElem_cons_succ, List.getElem_cons_zero, List.setIfInBounds_toArray, List.set_cons_zero, List.set_cons_succ])
          refine wpAnyZ_done (by kernel_rfl) ?_ _
          clear o0 o1 o2 o3 o4 o5 o6 k0 d0 SS hc7
          go_wp2
          go_roundw
          case rel => exact ⟨k + 1, by omega, by go_num, by rw [headsC_succ, HEQ.out]; exact HO5.out, HB5.out⟩
          case measure => simp [intOf]; omega
        · have HEQ := Lib.hid hE
          clear hE
          simp only [headV]
          refine wpAnyZ_one (i := 9) (by kernel_rfl) ?_
          refine zstep rfl (fun K hK => ?_)
          go_simp
          have HB4 := Lib.hid (HB3.out.alloc HB3.out.size (.cells #[.bool true, .int .i64 h'.last, .int .i64 h'.leave, .int .i64 h'.load, .int .u32 (h'.opn : Nat), .int .u32 (h'.set : Nat), .int .i64 h'.cost] 64))
          have RN := Lib.hid (reads_new w3 #[.bool true, .int .i64 h'.last, .int .i64 h'.leave, .int .i64 h'.load, .int .u32 (h'.opn : Nat), .int .u32 (h'.set : Nat), .int .i64 h'.cost].toList 64)
          refine hK.out _ _ (fun _ => SS.out _ (HBr.out.trans (HB4.out.mono HBr.out.size))) (fun hH => ?_)
          replace hH := hH (by decide)
          clear hK K
          (try simp only [Act.put, List.getElem_toArray, List.getElem_cons_succ, List.getElem_cons_zero, List.setIfInBounds_toArray, List.set_cons_zero, List.set_cons_succ])
          refine wpAnyZ_one (i := 10) (by kernel_rfl) ?_
          refine zstep rfl (fun K hK => ?_)
          refine step_append_any _ rfl (.tmp 25) (.tmp 34) 60 rfl wa.heap.size 64 j0 _ 7 48 Try.underlying60 hj hjz hj1 hj2 rfl (by decide) (.slice (some ⟨g, 0, none⟩) (k + 1) cp) (k + 1) (headsC i c l (k + 1)) (by rfl) (own_below HO.out HB4.out) (w3.heap.size + 1) (some ⟨w3.heap.size, 0, none⟩) 1 1 #[.bool true, .int .i64 h'.last, .int .i64 h'.leave, .int .i64 h'.load, .int .u32 (h'.opn : Nat), .int .u32 (h'.set : Nat), .int .i64 h'.cost].toList (by rfl) RN.out (by simp [Value.oneCell']) (by unfold maxLen; omega) (by omega) (by simp; have := HB3.out.size; have := HBr.out.size; omega) ?_
          intro v' w5 hown' hgrow hob
          have HO5 := Lib.hid hown'
          have HB5 : Hid (Below wa.heap.size wa w5) := (HBr.out.trans (HB4.out.mono HBr.out.size)).grown hgrow (by simp; have := HB3.out.size; have := HBr.out.size; omega) (fun q' hq' => by simp [Value.ownBlock] at hq'; omega)
          clear hown' hgrow hob
          refine hK.out _ _ (fun _ => SS.out _ HB5.out) (fun hH => ?_)
          replace hH := hH (by decide)
          clear hK K
          (try simp only [Act.put, List.getElem_toArray, List.getElem_cons_succ, List.getElem_cons_zero, List.setIfInBounds_toArray, List.set_cons_zero, List.set_cons_succ])
          refine wpAnyZ_one (i := 11) (by kernel_rfl) ?_
          refine zstep rfl (fun K hK => ?_)
          go_simp
          refine hK.out _ _ (fun _ => SS.out _ HB5.out) (fun hH => ?_)
          clear hK K hH
          (try simp only [Act.put, List.getElem_toArray, List.getElem_cons_succ, List.getElem_cons_zero, List.setIfInBounds_toArray, List.set_cons_zero, List.set_cons_succ])
          refine wpAnyZ_done (by kernel_rfl) ?_ _
          clear o0 o1 o2 o3 o4 o5 o6 k0 d0 SS hc7
          go_wp2
          go_roundw
          case rel => exact ⟨k + 1, by omega, by go_num, by rw [headsC_succ, HEQ.out]; exact HO5.out, HB5.out⟩
          case measure => simp [intOf]; omega
      | some h =>
        rw [hH0] at hc7 KE
        simp only [headV] at KE
        clear hH0
        have o0 := hc7 0 (by omega) _ rfl
        have o1 := hc7 1 (by omega) _ rfl
        have o2 := hc7 2 (by omega) _ rfl
        have o3 := hc7 3 (by omega) _ rfl
        have o4 := hc7 4 (by omega) _ rfl
        have o5 := hc7 5 (by omega) _ rfl
        have o6 := hc7 6 (by omega) _ rfl
        rw [Nat.add_zero] at o0
        have SS : Hid (∀ W, Below wa.heap.size wa W → W.cell? ⟨w.heap.size, 0, none⟩ = some (.slice A1 i.cars.length c1) ∧ W.cell? ⟨w.heap.size, 1, none⟩ = some (.slice A2 i.stops.length c2) ∧ W.cell? ⟨w.heap.size, 2, none⟩ = some (.slice A3 i.pairs.length c3) ∧ W.cell? ⟨w.heap.size, 3, none⟩ = some (.slice A4 i.travel.length c4)) := fun W hB => ⟨(BX0.out.below hB).b0, (BX0.out.below hB).b1, (BX0.out.below hB).b2, (BX0.out.below hB).b3⟩
        have k0 := BX.out.b0
        go_upto_region 7 with (fail)
        refine wp_region_z (S := (fun W => W.cell? ⟨w.heap.size, 0, none⟩ = some (.slice A1 i.cars.length c1) ∧ W.cell? ⟨w.heap.size, 1, none⟩ = some (.slice A2 i.stops.length c2) ∧ W.cell? ⟨w.heap.size, 2, none⟩ = some (.slice A3 i.pairs.length c3) ∧ W.cell? ⟨w.heap.size, 3, none⟩ = some (.slice A4 i.travel.length c4))) (z := 12) (by kernel_rfl) (SS.out _ HBr.out.drew) (fun hH => ?_)
        refine wpAnyZ_takeS (i := 0) (v := ?_) rfl (by kernel_rfl) (by kernel_rfl) (by kernel_rfl) (by kernel_rfl) (fun _ _ _ h => h) (gives_value (by rfl) ?_) (by assumption) ?_
        rotate_left
        · intro w hSw
          (try dsimp only at hSw)
          go_simp
          (try with_reducible rfl)
        (try simp only [Act.put, List.getElem_toArray, List.getElem_cons_succ, List.getElem_cons_zero, List.setIfInBounds_toArray, List.set_cons_zero, List.set_cons_succ])
        refine wpAnyZ_takeS (i := 1) (v := ?_) rfl (by kernel_rfl) (by kernel_rfl) (by kernel_rfl) (by kernel_rfl) (fun _ _ _ h => h) (gives_value (by rfl) ?_) (by assumption) ?_
        rotate_left
        · intro w hSw
          (try dsimp only at hSw)
          go_simp
          (try with_reducible rfl)
        (try simp only [Act.put, List.getElem_toArray, List.getElem_cons_succ, List.getElem_cons_zero, List.setIfInBounds_toArray, List.set_cons_zero, List.set_cons_succ])
        refine wpAnyZ_takeS (i := 2) (v := ?_) rfl (by kernel_rfl) (by kernel_rfl) (by kernel_rfl) (by kernel_rfl) (fun _ _ _ h => h) (gives_value (by rfl) ?_) (by assumption) ?_
        rotate_left
        · intro w hSw
          (try dsimp only at hSw)
          go_simp
          (try with_reducible rfl)
        (try simp only [Act.put, List.getElem_toArray, List.getElem_cons_succ, List.getElem_cons_zero, List.setIfInBounds_toArray, List.set_cons_zero, List.set_cons_succ])
        refine wpAnyZ_takeS (i := 3) (v := ?_) rfl (by kernel_rfl) (by kernel_rfl) (by kernel_rfl) (by kernel_rfl) (fun _ _ _ h => h) (gives_value (by rfl) ?_) (by assumption) ?_
        rotate_left
        · intro w hSw
          (try dsimp only at hSw)
          go_simp
          (try with_reducible rfl)
        (try simp only [Act.put, List.getElem_toArray, List.getElem_cons_succ, List.getElem_cons_zero, List.setIfInBounds_toArray, List.set_cons_zero, List.set_cons_succ])
        refine wpAnyZ_takeS (i := 4) (v := ?_) rfl (by kernel_rfl) (by kernel_rfl) (by kernel_rfl) (by kernel_rfl) (fun _ _ _ h => h) (gives_value (by rfl) ?_) (by assumption) ?_
        rotate_left
        · intro w hSw
          (try dsimp only at hSw)
          go_simp
          (try with_reducible rfl)
        (try simp only [Act.put, List.getElem_toArray, List.getElem_cons_succ, List.getElem_cons_zero, List.setIfInBounds_toArray, List.set_cons_zero, List.set_cons_succ])
        refine wpAnyZ_takeS (i := 5) (v := ?_) rfl (by kernel_rfl) (by kernel_rfl) (by kernel_rfl) (by kernel_rfl) (fun _ _ _ h => h) (gives_value (by rfl) ?_) (by assumption) ?_
        rotate_left
        · intro w hSw
          (try dsimp only at hSw)
          go_simp
          (try with_reducible rfl)
        (try simp only [Act.put, List.getElem_toArray, List.getElem_cons_succ, List.getElem_cons_zero, List.setIfInBounds_toArray, List.set_cons_zero, List.set_cons_succ])
        refine wpAnyZ_takeS (i := 7) (v := ?_) rfl (by kernel_rfl) (by kernel_rfl) (by kernel_rfl) (by kernel_rfl) (fun _ _ _ h => h) (gives_value (by rfl) ?_) (by assumption) ?_
        rotate_left
        · intro w hSw
          (try dsimp only at hSw)
          go_simp
          (try with_reducible rfl)
        (try simp only [Act.put, List.getElem_toArray, List.getElem_cons_succ, List.getElem_cons_zero, List.setIfInBounds_toArray, List.set_cons_zero, List.set_cons_succ])
        refine wpAnyZ_one (i := 6) (by kernel_rfl) ?_
        refine zstep rfl (fun K hK => ?_)
        go_simp
        refine hK.out _ _ (fun _ => SS.out _ HBr.out.drew) (fun hH => ?_)
        replace hH := hH (by decide)
        clear hK K
        (try simp only [Act.put, List.getElem_toArray, List.getElem_cons_succ, List.getElem_cons_zero, List.setIfInBounds_toArray, List.set_cons_zero, List.set_cons_succ])
        refine wpAnyZ_one (i := 8) (by kernel_rfl) ?_
        refine zstep rfl (fun K hK => ?_)
        go_simp
        (with_reducible refine (KE.out _ HBW.out.drew).mono ?_)
        rintro e w3 ⟨rfl, hb3⟩
        have HB3 : Hid (Below wr.heap.size wr w3) := ((Below.refl wr.heap.size wr).drew).trans hb3
        clear hb3
        refine hK.out _ _ (fun _ => SS.out _ (HBr.out.trans (HB3.out.mono HBr.out.size))) (fun hH => ?_)
        replace hH := hH (by decide)
        clear hK K
        (try simp only [Act.put, List.getElem_toArray, List.getElem_cons_succ, List.getElem_cons_zero, List.setIfInBounds_toArray, List.set_cons_zero, List.set_cons_succ])
        clear KE
        generalize hE : headL i c (l.take (k + 1)) = hn at *
        rcases hn with _ | h'
        · have HEQ := Lib.hid hE
          clear hE
          simp only [headV]
          refine wpAnyZ_one (i := 9) (by kernel_rfl) ?_
          refine zstep rfl (fun K hK => ?_)
          go_simp
          have HB4 := Lib.hid (HB3.out.alloc HB3.out.size (.cells #[.bool false, .int .i64 0, .int .i64 0, .int .i64 0, .int .u32 0, .int .u32 0, .int .i64 0] 64))
          have RN := Lib.hid (reads_new w3 #[.bool false, .int .i64 0, .int .i64 0, .int .i64 0, .int .u32 0, .int .u32 0, .int .i64 0].toList 64)
          refine hK.out _ _ (fun _ => SS.out _ (HBr.out.trans (HB4.out.mono HBr.out.size))) (fun hH => ?_)
          replace hH := hH (by decide)
          clear hK K
          (try simp only [Act.put, List.getElem_toArray, List.getElem_cons_succ, List.getElem_cons_zero, List.setIfInBounds_toArray, List.set_cons_zero, List.set_cons_succ])
          refine wpAnyZ_one (i := 10) (by kernel_rfl) ?_
          refine zstep rfl (fun K hK => ?_)
          refine step_append_any _ rfl (.tmp 25) (.tmp 34) 60 rfl wa.heap.size 64 j0 _ 7 48 Try.underlying60 hj hjz hj1 hj2 rfl (by decide) (.slice (some ⟨g, 0, none⟩) (k + 1) cp) (k + 1) (headsC i c l (k + 1)) (by rfl) (own_below HO.out HB4.out) (w3.heap.size + 1) (some ⟨w3.heap.size, 0, none⟩) 1 1 #[.bool false, .int .i64 0, .int .i64 0, .int .i64 0, .int .u32 0, .int .u32 0, .int .i64 0].toList (by rfl) RN.out (by simp [Value.oneCell']) (by unfold maxLen; omega) (by omega) (by simp; have := HB3.out.size; have := HBr.out.size; omega) ?_
          intro v' w5 hown' hgrow hob
          have HO5 := Lib.hid hown'
          have HB5 : Hid (Below wa.heap.size wa w5) := (HBr.out.trans (HB4.out.mono HBr.out.size)).grown hgrow (by simp; have := HB3.out.size; have := HBr.out.size; omega) (fun q' hq' => by simp [Value.ownBlock] at hq'; omega)
          clear hown' hgrow hob
          refine hK.out _ _ (fun _ => SS.out _ HB5.out) (fun hH => ?_)
          replace hH := hH (by decide)
          clear hK K
          (try simp only [Act.put, List.getElem_toArray, List.getElem_cons_succ, List.getElem_cons_zero, List.setIfInBounds_toArray, List.set_cons_zero, List.set_cons_succ])
          refine wpAnyZ_one (i := 11) (by kernel_rfl) ?_
          refine zstep rfl (fun K hK => ?_)
          go_simp
          refine hK.out _ _ (fun _ => SS.out _ HB5.out) (fun hH => ?_)
          clear hK K hH
          (try simp only [Act.put, List.getElem_toArray, List.getElem_cons_succ, List.getElem_cons_zero, List.setIfInBounds_toArray, List.set_cons_zero, List.set_cons_succ])
          refine wpAnyZ_done (by kernel_rfl) ?_ _
          clear o0 o1 o2 o3 o4 o5 o6 k0 d0 SS hc7
          go_wp2
          go_roundw
          case rel => exact ⟨k + 1, by omega, by go_num, by rw [headsC_succ, HEQ.out]; exact HO5.out, HB5.out⟩
          case measure => simp [intOf]; omega
        · have HEQ := Lib.hid hE
          clear hE
          simp only [headV]
          refine wpAnyZ_one (i := 9) (by kernel_rfl) ?_
          refine zstep rfl (fun K hK => ?_)
          go_simp
          have HB4 := Lib.hid (HB3.out.alloc HB3.out.size (.cells #[.bool true, .int .i64 h'.last, .int .i64 h'.leave, .int .i64 h'.load, .int .u32 (h'.opn : Nat), .int .u32 (h'.set : Nat), .int .i64 h'.cost] 64))
          have RN := Lib.hid (reads_new w3 #[.bool true, .int .i64 h'.last, .int .i64 h'.leave, .int .i64 h'.load, .int .u32 (h'.opn : Nat), .int .u32 (h'.set : Nat), .int .i64 h'.cost].toList 64)
          refine hK.out _ _ (fun _ => SS.out _ (HBr.out.trans (HB4.out.mono HBr.out.size))) (fun hH => ?_)
          replace hH := hH (by decide)
          clear hK K
          (try simp only [Act.put, List.getElem_toArray, List.getElem_cons_succ, List.getElem_cons_zero, List.setIfInBounds_toArray, List.set_cons_zero, List.set_cons_succ])
          refine wpAnyZ_one (i := 10) (by kernel_rfl) ?_
          refine zstep rfl (fun K hK => ?_)
          refine step_append_any _ rfl (.tmp 25) (.tmp 34) 60 rfl wa.heap.size 64 j0 _ 7 48 Try.underlying60 hj hjz hj1 hj2 rfl (by decide) (.slice (some ⟨g, 0, none⟩) (k + 1) cp) (k + 1) (headsC i c l (k + 1)) (by rfl) (own_below HO.out HB4.out) (w3.heap.size + 1) (some ⟨w3.heap.size, 0, none⟩) 1 1 #[.bool true, .int .i64 h'.last, .int .i64 h'.leave, .int .i64 h'.load, .int .u32 (h'.opn : Nat), .int .u32 (h'.set : Nat), .int .i64 h'.cost].toList (by rfl) RN.out (by simp [Value.oneCell']) (by unfold maxLen; omega) (by omega) (by simp; have := HB3.out.size; have := HBr.out.size; omega) ?_
          intro v' w5 hown' hgrow hob
          have HO5 := Lib.hid hown'
          have HB5 : Hid (Below wa.heap.size wa w5) := (HBr.out.trans (HB4.out.mono HBr.out.size)).grown hgrow (by simp; have := HB3.out.size; have := HBr.out.size; omega) (fun q' hq' => by simp [Value.ownBlock] at hq'; omega)
          clear hown' hgrow hob
          refine hK.out _ _ (fun _ => SS.out _ HB5.out) (fun hH => ?_)
          replace hH := hH (by decide)
          clear hK K
          (try simp only [Act.put, List.getElem_toArray, List.getElem_cons_succ, List.getElem_cons_zero, List.setIfInBounds_toArray, List.set_cons_zero, List.set_cons_succ])
          refine wpAnyZ_one (i := 11) (by kernel_rfl) ?_
          refine zstep rfl (fun K hK => ?_)
          go_simp
          refine hK.out _ _ (fun _ => SS.out _ HB5.out) (fun hH => ?_)
          clear hK K hH
          (try simp only [Act.put, List.getElem_toArray, List.getElem_cons_succ, List.getElem_cons_zero, List.setIfInBounds_toArray, List.set_cons_zero, List.set_cons_succ])
          refine wpAnyZ_done (by kernel_rfl) ?_ _
          clear o0 o1 o2 o3 o4 o5 o6 k0 d0 SS hc7
          go_wp2
          go_roundw
          case rel => exact ⟨k + 1, by omega, by go_num, by rw [headsC_succ, HEQ.out]; exact HO5.out, HB5.out⟩
          case measure => simp [intOf]; omega
    · have hkl : k = l.length := by omega
      subst hkl
      have t1 : decide ((l.length : Int) < (l.length : Int)) = false := by simp
      go_wp2
      go_ret
      exact ⟨_, _, rfl, own_mono HO.out (by omega), HBW.out⟩
set_option maxRecDepth 100000 in
theorem refHeads_no (v u : Value) (i : Prob) (c : Int) (w : World) (hv : Lies w v i) (hok : probOk i = true) (hc : inB c 0 (i.cars.length - 1) = false) :
    Calls Try.prog 22 #[v, .int .i64 c, u] w fun e w' => e = .returned (.slice none 0 0) ∧ Below w.heap.size w w' := by
  obtain ⟨A1, A2, A3, A4, c1, c2, c3, c4, rfl, hs⟩ := hv.said
  have hf := fine_of hok
  have hcl := hf.cars
  have BX0 := Lib.hid (box_new hs 27)
  have HB0 := Lib.hid ((Below.refl w.heap.size w).alloc (Nat.le_refl _) (.cells #[.slice A1 i.cars.length c1, .slice A2 i.stops.length c2, .slice A3 i.pairs.length c3, .slice A4 i.travel.length c4] 27))
  have KC : Hid (∀ W, Below w.heap.size w W → Calls Try.prog 36 #[.agg #[.slice A1 i.cars.length c1, .slice A2 i.stops.length c2, .slice A3 i.pairs.length c3, .slice A4 i.travel.length c4], .int .i64 c] W fun e w' => e = .returned (.bool false) ∧ Below W.heap.size W w') := fun W hB => refCar_any _ i c false W (Lies.below hs hB) (by omega) hc
  clear hs hv hf hok hc
  go_enter Try.func22, Try.ntmps22
  go_upto_region 1 with (fail)
  generalize w.alloc (.cells #[.slice A1 i.cars.length c1, .slice A2 i.stops.length c2, .slice A3 i.pairs.length c3, .slice A4 i.travel.length c4] 27) = wa at *
  have k0 := BX0.out.b0
  have k1 := BX0.out.b1
  have k2 := BX0.out.b2
  have k3 := BX0.out.b3
  have hIz := BX0.out.lt
  go_wp2_with (go_at_call 36; fail)
  (with_reducible refine (KC.out _ HB0.out).mono ?_)
  rintro e w1 ⟨rfl, hb1⟩
  have HB1 := Lib.hid (HB0.out.trans (hb1.mono HB0.out.size))
  clear hb1 k0 k1 k2 k3 hIz
  go_wp2
  go_ret
  exact ⟨rfl, HB1.out⟩
end Go.Proofs.Ytgkieelacjcopaa
