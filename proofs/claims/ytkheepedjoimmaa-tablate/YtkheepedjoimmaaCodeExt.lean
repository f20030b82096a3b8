/- tab.extend: what it answers. -/
import Derived.Test.YtkheepedjoimmaaTabHalves
import Derived.Test.YtkheepedjoimmaaTabVals
import Derived.Test.YtkheepedjoimmaaOrdersSkip
import Derived.Deep.DeepCutAuto
namespace Go.Proofs.Ytkheepedjoimmaa
open Go.RowKit
set_option linter.unusedSimpArgs false

theorem box4 {W : World} {Q : Nat} {a b c d : Value} (h : Blk W Q [a, b, c, d]) (a' b' c' d' : Value) : Blk ((((W.setCell ⟨Q, 0, none⟩ a').setCell ⟨Q, 1, none⟩ b').setCell ⟨Q, 2, none⟩ c').setCell ⟨Q, 3, none⟩ d') Q [a', b', c', d'] :=
  (((h.set (k := 0) (by simp) a').set (k := 1) (by simp) b').set (k := 2) (by simp) c').set (k := 3) (by simp) d'
theorem below4 {B : Nat} {w W : World} (h : Below B w W) {Q : Nat} (hQ : B ≤ Q) (a' b' c' d' : Value) : Below B w ((((W.setCell ⟨Q, 0, none⟩ a').setCell ⟨Q, 1, none⟩ b').setCell ⟨Q, 2, none⟩ c').setCell ⟨Q, 3, none⟩ d') :=
  (((h.setCell (p := ⟨Q, 0, none⟩) hQ a').setCell (p := ⟨Q, 1, none⟩) hQ b').setCell (p := ⟨Q, 2, none⟩) hQ c').setCell (p := ⟨Q, 3, none⟩) hQ d'
theorem ext_es0 {w : World} {i : Prob} {A1 A2 A3 A4 : Option Addr} {c1 c2 c3 c4 : Nat} (hs : Said w A1 A2 A3 A4 c1 c2 c3 c4 i) (kc hc zc : Array Value) (t1 t2 t3 t4 : TypeId) :
    ExS w ((((w.alloc (.cells #[.slice A1 i.cars.length c1, .slice A2 i.stops.length c2, .slice A3 i.pairs.length c3, .slice A4 i.travel.length c4] t1)).alloc (.cells kc t2)).alloc (.cells hc t3)).alloc (.cells zc t4)) w.heap.size (w.heap.size + 1 + 1) (w.heap.size + 1 + 1 + 1) A1 A2 A3 A4 c1 c2 c3 c4 i hc.toList zc.toList ∧
    Blk ((((w.alloc (.cells #[.slice A1 i.cars.length c1, .slice A2 i.stops.length c2, .slice A3 i.pairs.length c3, .slice A4 i.travel.length c4] t1)).alloc (.cells kc t2)).alloc (.cells hc t3)).alloc (.cells zc t4)) (w.heap.size + 1) kc.toList :=
  ⟨⟨((((Below.refl _ _).alloc (Nat.le_refl _) _).alloc (by simp) _).alloc (by simp; omega) _).alloc (by simp; omega) _, (((box_new hs t1).below ((Below.refl _ _).alloc (Nat.le_refl _) _)).below ((Below.refl _ _).alloc (Nat.le_refl _) _)).below ((Below.refl _ _).alloc (Nat.le_refl _) _), (blk_at _ _ (by simp)).alloc _, blk_at _ _ (by simp)⟩, ((blk_at _ _ (by simp)).alloc _).alloc _⟩

set_option maxRecDepth 100000 in
set_option maxHeartbeats 8000000 in
theorem cext_none (i : Prob) (cap st en : Int) (s : Int) (w : World) (A1 A2 A3 A4 : Option Addr) (c1 c2 c3 c4 : Nat) (hs : Said w A1 A2 A3 A4 c1 c2 c3 c4 i) :
    Calls Try.prog 35 #[.agg #[.slice A1 i.cars.length c1, .slice A2 i.stops.length c2, .slice A3 i.pairs.length c3, .slice A4 i.travel.length c4], .agg #[.int .i64 cap, .int .i64 st, .int .i64 en], .agg #[.bool false, .int .i64 0, .int .i64 0, .int .i64 0, .int .u32 0, .int .u32 0, .int .i64 0], .int .i64 s] w fun e w' => e = .returned (headV none) ∧ Below w.heap.size w w' := by
  have ES0 := Lib.hid (ext_es0 hs #[.int .i64 cap, .int .i64 st, .int .i64 en] #[.bool false, .int .i64 0, .int .i64 0, .int .i64 0, .int .u32 0, .int .u32 0, .int .i64 0] #[.bool false, .int .i64 0, .int .i64 0, .int .i64 0, .int .u32 0, .int .u32 0, .int .i64 0] 28 52 44 44).1
  have KB0 := Lib.hid (ext_es0 hs #[.int .i64 cap, .int .i64 st, .int .i64 en] #[.bool false, .int .i64 0, .int .i64 0, .int .i64 0, .int .u32 0, .int .u32 0, .int .i64 0] #[.bool false, .int .i64 0, .int .i64 0, .int .i64 0, .int .u32 0, .int .u32 0, .int .i64 0] 28 52 44 44).2
  clear hs
  go_enter Try.func35, Try.ntmps35
  go_upto_region 1 with (fail)
  generalize (((w.alloc (.cells #[.slice A1 i.cars.length c1, .slice A2 i.stops.length c2, .slice A3 i.pairs.length c3, .slice A4 i.travel.length c4] 28)).alloc (.cells #[.int .i64 cap, .int .i64 st, .int .i64 en] 52)).alloc (.cells #[.bool false, .int .i64 0, .int .i64 0, .int .i64 0, .int .u32 0, .int .u32 0, .int .i64 0] 44)).alloc (.cells #[.bool false, .int .i64 0, .int .i64 0, .int .i64 0, .int .u32 0, .int .u32 0, .int .i64 0] 44) = wa at *
  have hRw : w.heap.size ≤ w.heap.size + 1 + 1 + 1 := by omega
  generalize w.heap.size + 1 + 1 + 1 = R at *
  generalize w.heap.size + 1 + 1 = H at *
  generalize w.heap.size + 1 = K1 at *
  have k0 := ES0.out.box.b0
  have k1 := ES0.out.box.b1
  have k2 := ES0.out.box.b2
  have k3 := ES0.out.box.b3
  have hIz := ES0.out.box.lt
  have o0 := ES0.out.hb.cell (j := 0) rfl
  have hHz := ES0.out.hb.1
  clear k0 k1 k2 k3 hIz KB0
  have r0 := ES0.out.rb.cell (j := 0) rfl
  have z0 := (ES0.out.rb.2 0 (by simp)).2
  have r1 := ES0.out.rb.cell (j := 1) rfl
  have z1 := (ES0.out.rb.2 1 (by simp)).2
  have r2 := ES0.out.rb.cell (j := 2) rfl
  have z2 := (ES0.out.rb.2 2 (by simp)).2
  have r3 := ES0.out.rb.cell (j := 3) rfl
  have z3 := (ES0.out.rb.2 3 (by simp)).2
  have r4 := ES0.out.rb.cell (j := 4) rfl
  have z4 := (ES0.out.rb.2 4 (by simp)).2
  have r5 := ES0.out.rb.cell (j := 5) rfl
  have z5 := (ES0.out.rb.2 5 (by simp)).2
  have r6 := ES0.out.rb.cell (j := 6) rfl
  have z6 := (ES0.out.rb.2 6 (by simp)).2
  have hRz := ES0.out.rb.1
  have HBf := Lib.hid (below7 ES0.out.below hRw (.bool false) (.int .i64 0) (.int .i64 0) (.int .i64 0) (.int .u32 0) (.int .u32 0) (.int .i64 0))
  go_wp2
  exact bodyPost_ret (v := .agg #[.bool false, .int .i64 0, .int .i64 0, .int .i64 0, .int .u32 0, .int .u32 0, .int .i64 0]) (by simp [results, Try.results35, go_sem, r0, r1, r2, r3, r4, r5, r6, z0, z1, z2, z3, z4, z5, z6]) rfl ⟨rfl, HBf.out⟩
set_option maxRecDepth 100000 in
set_option maxHeartbeats 8000000 in
theorem cext_out (i : Prob) (cap st en : Int) (s : Int) (la : Nat) (leave load cost : Int) (opn set : Nat) (w : World) (A1 A2 A3 A4 : Option Addr) (c1 c2 c3 c4 : Nat) (hs : Said w A1 A2 A3 A4 c1 c2 c3 c4 i) (hin : inB s 1 i.stops.length = false) :
    Calls Try.prog 35 #[.agg #[.slice A1 i.cars.length c1, .slice A2 i.stops.length c2, .slice A3 i.pairs.length c3, .slice A4 i.travel.length c4], .agg #[.int .i64 cap, .int .i64 st, .int .i64 en], .agg #[.bool true, .int .i64 la, .int .i64 leave, .int .i64 load, .int .u32 (opn : Nat), .int .u32 (set : Nat), .int .i64 cost], .int .i64 s] w fun e w' => e = .returned (headV none) ∧ Below w.heap.size w w' := by
  have ES0 := Lib.hid (ext_es0 hs #[.int .i64 cap, .int .i64 st, .int .i64 en] #[.bool true, .int .i64 la, .int .i64 leave, .int .i64 load, .int .u32 (opn : Nat), .int .u32 (set : Nat), .int .i64 cost] #[.bool false, .int .i64 0, .int .i64 0, .int .i64 0, .int .u32 0, .int .u32 0, .int .i64 0] 28 52 44 44).1
  have KB0 := Lib.hid (ext_es0 hs #[.int .i64 cap, .int .i64 st, .int .i64 en] #[.bool true, .int .i64 la, .int .i64 leave, .int .i64 load, .int .u32 (opn : Nat), .int .u32 (set : Nat), .int .i64 cost] #[.bool false, .int .i64 0, .int .i64 0, .int .i64 0, .int .u32 0, .int .u32 0, .int .i64 0] 28 52 44 44).2
  have KS : Hid (∀ W, Below w.heap.size w W → Calls Try.prog 49 #[.agg #[.slice A1 i.cars.length c1, .slice A2 i.stops.length c2, .slice A3 i.pairs.length c3, .slice A4 i.travel.length c4], .int .i64 s] W fun e w' => e = .returned (.bool false) ∧ Below W.heap.size W w') := fun W hB => by
    have := stopThere_any _ i s W (Lies.below hs hB)
    rw [hin] at this; exact this
  clear hs hin
  go_enter Try.func35, Try.ntmps35
  go_upto_region 1 with (fail)
  generalize (((w.alloc (.cells #[.slice A1 i.cars.length c1, .slice A2 i.stops.length c2, .slice A3 i.pairs.length c3, .slice A4 i.travel.length c4] 28)).alloc (.cells #[.int .i64 cap, .int .i64 st, .int .i64 en] 52)).alloc (.cells #[.bool true, .int .i64 la, .int .i64 leave, .int .i64 load, .int .u32 (opn : Nat), .int .u32 (set : Nat), .int .i64 cost] 44)).alloc (.cells #[.bool false, .int .i64 0, .int .i64 0, .int .i64 0, .int .u32 0, .int .u32 0, .int .i64 0] 44) = wa at *
  have hRw : w.heap.size ≤ w.heap.size + 1 + 1 + 1 := by omega
  generalize w.heap.size + 1 + 1 + 1 = R at *
  generalize w.heap.size + 1 + 1 = H at *
  generalize w.heap.size + 1 = K1 at *
  have k0 := ES0.out.box.b0
  have k1 := ES0.out.box.b1
  have k2 := ES0.out.box.b2
  have k3 := ES0.out.box.b3
  have hIz := ES0.out.box.lt
  have o0 := ES0.out.hb.cell (j := 0) rfl
  have hHz := ES0.out.hb.1
  go_wp2_with (go_at_call 49; fail)
  (with_reducible refine (KS.out _ ES0.out.below).mono ?_)
  rintro e w1 ⟨rfl, hb1⟩
  have ES1 := Lib.hid (ES0.out.on hb1)
  have KB1 := Lib.hid (KB0.out.below hb1)
  clear hb1 k0 k1 k2 k3 hIz o0 hHz ES0 KB0 KS
  have r0 := ES1.out.rb.cell (j := 0) rfl
  have z0 := (ES1.out.rb.2 0 (by simp)).2
  have r1 := ES1.out.rb.cell (j := 1) rfl
  have z1 := (ES1.out.rb.2 1 (by simp)).2
  have r2 := ES1.out.rb.cell (j := 2) rfl
  have z2 := (ES1.out.rb.2 2 (by simp)).2
  have r3 := ES1.out.rb.cell (j := 3) rfl
  have z3 := (ES1.out.rb.2 3 (by simp)).2
  have r4 := ES1.out.rb.cell (j := 4) rfl
  have z4 := (ES1.out.rb.2 4 (by simp)).2
  have r5 := ES1.out.rb.cell (j := 5) rfl
  have z5 := (ES1.out.rb.2 5 (by simp)).2
  have r6 := ES1.out.rb.cell (j := 6) rfl
  have z6 := (ES1.out.rb.2 6 (by simp)).2
  have hRz := ES1.out.rb.1
  have HBf := Lib.hid (below7 ES1.out.below hRw (.bool false) (.int .i64 0) (.int .i64 0) (.int .i64 0) (.int .u32 0) (.int .u32 0) (.int .i64 0))
  go_wp2
  exact bodyPost_ret (v := .agg #[.bool false, .int .i64 0, .int .i64 0, .int .i64 0, .int .u32 0, .int .u32 0, .int .i64 0]) (by simp [results, Try.results35, go_sem, r0, r1, r2, r3, r4, r5, r6, z0, z1, z2, z3, z4, z5, z6]) rfl ⟨rfl, HBf.out⟩
set_option maxRecDepth 100000 in
set_option maxHeartbeats 8000000 in
theorem cext_in_set (i : Prob) (cap st en : Int) (s : Int) (la : Nat) (leave load cost : Int) (opn set : Nat) (w : World) (A1 A2 A3 A4 : Option Addr) (c1 c2 c3 c4 : Nat) (hs : Said w A1 A2 A3 A4 c1 c2 c3 c4 i) (hin : inB s 1 i.stops.length = true) (hst : i.stops.length ≤ 10) (hse : set < 2048) (hhas : hasD set s = true) :
    Calls Try.prog 35 #[.agg #[.slice A1 i.cars.length c1, .slice A2 i.stops.length c2, .slice A3 i.pairs.length c3, .slice A4 i.travel.length c4], .agg #[.int .i64 cap, .int .i64 st, .int .i64 en], .agg #[.bool true, .int .i64 la, .int .i64 leave, .int .i64 load, .int .u32 (opn : Nat), .int .u32 (set : Nat), .int .i64 cost], .int .i64 s] w fun e w' => e = .returned (headV none) ∧ Below w.heap.size w w' := by
  have ES0 := Lib.hid (ext_es0 hs #[.int .i64 cap, .int .i64 st, .int .i64 en] #[.bool true, .int .i64 la, .int .i64 leave, .int .i64 load, .int .u32 (opn : Nat), .int .u32 (set : Nat), .int .i64 cost] #[.bool false, .int .i64 0, .int .i64 0, .int .i64 0, .int .u32 0, .int .u32 0, .int .i64 0] 28 52 44 44).1
  have KB0 := Lib.hid (ext_es0 hs #[.int .i64 cap, .int .i64 st, .int .i64 en] #[.bool true, .int .i64 la, .int .i64 leave, .int .i64 load, .int .u32 (opn : Nat), .int .u32 (set : Nat), .int .i64 cost] #[.bool false, .int .i64 0, .int .i64 0, .int .i64 0, .int .u32 0, .int .u32 0, .int .i64 0] 28 52 44 44).2
  have KS : Hid (∀ W, Below w.heap.size w W → Calls Try.prog 49 #[.agg #[.slice A1 i.cars.length c1, .slice A2 i.stops.length c2, .slice A3 i.pairs.length c3, .slice A4 i.travel.length c4], .int .i64 s] W fun e w' => e = .returned (.bool true) ∧ Below W.heap.size W w') := fun W hB => by
    have := stopThere_any _ i s W (Lies.below hs hB)
    rw [hin] at this; exact this
  have hsb := inB_iff.1 hin
  have KH : Hid (∀ W, Calls Try.prog 50 #[.int .u32 (set : Nat), .int .i64 s] W fun e w' => e = .returned (.bool true) ∧ w' = W) := fun W => by
    have := has_any set s W (by omega) (by omega) (by omega)
    rw [hhas] at this; exact this
  clear hs hin hhas
  go_enter Try.func35, Try.ntmps35
  go_upto_region 1 with (fail)
  generalize (((w.alloc (.cells #[.slice A1 i.cars.length c1, .slice A2 i.stops.length c2, .slice A3 i.pairs.length c3, .slice A4 i.travel.length c4] 28)).alloc (.cells #[.int .i64 cap, .int .i64 st, .int .i64 en] 52)).alloc (.cells #[.bool true, .int .i64 la, .int .i64 leave, .int .i64 load, .int .u32 (opn : Nat), .int .u32 (set : Nat), .int .i64 cost] 44)).alloc (.cells #[.bool false, .int .i64 0, .int .i64 0, .int .i64 0, .int .u32 0, .int .u32 0, .int .i64 0] 44) = wa at *
  have hRw : w.heap.size ≤ w.heap.size + 1 + 1 + 1 := by omega
  generalize w.heap.size + 1 + 1 + 1 = R at *
  generalize w.heap.size + 1 + 1 = H at *
  generalize w.heap.size + 1 = K1 at *
  have k0 := ES0.out.box.b0
  have k1 := ES0.out.box.b1
  have k2 := ES0.out.box.b2
  have k3 := ES0.out.box.b3
  have hIz := ES0.out.box.lt
  have o0 := ES0.out.hb.cell (j := 0) rfl
  have hHz := ES0.out.hb.1
  go_wp2_with (go_at_call 49; fail)
  (with_reducible refine (KS.out _ ES0.out.below).mono ?_)
  rintro e w1 ⟨rfl, hb1⟩
  have ES1 := Lib.hid (ES0.out.on hb1)
  have KB1 := Lib.hid (KB0.out.below hb1)
  clear hb1 k0 k1 k2 k3 hIz o0 hHz ES0 KB0 KS
  have o5 := ES1.out.hb.cell (j := 5) rfl
  have hHz := ES1.out.hb.1
  go_wp2_with (go_at_call 50; fail)
  (with_reducible refine (KH.out _).mono ?_)
  rintro e w2 ⟨rfl, rfl⟩
  clear o5 hHz
  have r0 := ES1.out.rb.cell (j := 0) rfl
  have z0 := (ES1.out.rb.2 0 (by simp)).2
  have r1 := ES1.out.rb.cell (j := 1) rfl
  have z1 := (ES1.out.rb.2 1 (by simp)).2
  have r2 := ES1.out.rb.cell (j := 2) rfl
  have z2 := (ES1.out.rb.2 2 (by simp)).2
  have r3 := ES1.out.rb.cell (j := 3) rfl
  have z3 := (ES1.out.rb.2 3 (by simp)).2
  have r4 := ES1.out.rb.cell (j := 4) rfl
  have z4 := (ES1.out.rb.2 4 (by simp)).2
  have r5 := ES1.out.rb.cell (j := 5) rfl
  have z5 := (ES1.out.rb.2 5 (by simp)).2
  have r6 := ES1.out.rb.cell (j := 6) rfl
  have z6 := (ES1.out.rb.2 6 (by simp)).2
  have hRz := ES1.out.rb.1
  have HBf := Lib.hid (below7 ES1.out.below hRw (.bool false) (.int .i64 0) (.int .i64 0) (.int .i64 0) (.int .u32 0) (.int .u32 0) (.int .i64 0))
  go_wp2
  exact bodyPost_ret (v := .agg #[.bool false, .int .i64 0, .int .i64 0, .int .i64 0, .int .u32 0, .int .u32 0, .int .i64 0]) (by simp [results, Try.results35, go_sem, r0, r1, r2, r3, r4, r5, r6, z0, z1, z2, z3, z4, z5, z6]) rfl ⟨rfl, HBf.out⟩
set_option maxRecDepth 100000 in
set_option maxHeartbeats 8000000 in
theorem cext_in (i : Prob) (q la : Nat) (cap st en : Int) (leave load cost : Int) (opn set : Nat) (w : World) (A1 A2 A3 A4 : Option Addr) (c1 c2 c3 c4 : Nat) (hs : Said w A1 A2 A3 A4 c1 c2 c3 c4 i) (hf : Fine i) (hp : i.pairs.length ≤ 1000000) (hq : q < i.stops.length) (hla : la ≤ i.stops.length)
    (hlv : 0 ≤ leave ∧ leave ≤ 2000) (hld : 0 ≤ load ∧ load ≤ 60) (hse : set < 2048) (hco : 0 ≤ cost ∧ cost ≤ 1000000) (hhas : hasD set ((q : Int) + 1) = false) :
    Calls Try.prog 35 #[.agg #[.slice A1 i.cars.length c1, .slice A2 i.stops.length c2, .slice A3 i.pairs.length c3, .slice A4 i.travel.length c4], .agg #[.int .i64 cap, .int .i64 st, .int .i64 en], .agg #[.bool true, .int .i64 la, .int .i64 leave, .int .i64 load, .int .u32 (opn : Nat), .int .u32 (set : Nat), .int .i64 cost], .int .i64 ((q : Int) + 1)] w fun e w' => e = .returned (headV (extC i cap ⟨la, leave, load, opn, set, cost⟩ ((q : Int) + 1))) ∧ Below w.heap.size w w' := by
  have hst := hf.stops
  have HF := Lib.hid hf
  have ES0 := Lib.hid (ext_es0 hs #[.int .i64 cap, .int .i64 st, .int .i64 en] #[.bool true, .int .i64 la, .int .i64 leave, .int .i64 load, .int .u32 (opn : Nat), .int .u32 (set : Nat), .int .i64 cost] #[.bool false, .int .i64 0, .int .i64 0, .int .i64 0, .int .u32 0, .int .u32 0, .int .i64 0] 28 52 44 44).1
  have KB0 := Lib.hid (ext_es0 hs #[.int .i64 cap, .int .i64 st, .int .i64 en] #[.bool true, .int .i64 la, .int .i64 leave, .int .i64 load, .int .u32 (opn : Nat), .int .u32 (set : Nat), .int .i64 cost] #[.bool false, .int .i64 0, .int .i64 0, .int .i64 0, .int .u32 0, .int .u32 0, .int .i64 0] 28 52 44 44).2
  have hin : inB ((q : Int) + 1) 1 i.stops.length = true := by rw [inB_iff]; omega
  have KS : Hid (∀ W, Below w.heap.size w W → Calls Try.prog 49 #[.agg #[.slice A1 i.cars.length c1, .slice A2 i.stops.length c2, .slice A3 i.pairs.length c3, .slice A4 i.travel.length c4], .int .i64 ((q : Int) + 1)] W fun e w' => e = .returned (.bool true) ∧ Below W.heap.size W w') := fun W hB => by
    have := stopThere_any _ i ((q : Int) + 1) W (Lies.below hs hB)
    rw [hin] at this; exact this
  have hdg : digit ((q : Int) + 1) < 2048 := digit_lt (by omega)
  have hs' : set ||| digit ((q : Int) + 1) < 2048 := Nat.or_lt_two_pow (n := 11) hse hdg
  have KH : Hid (∀ W, Calls Try.prog 50 #[.int .u32 (set : Nat), .int .i64 ((q : Int) + 1)] W fun e w' => e = .returned (.bool false) ∧ w' = W) := fun W => by
    have := has_any set ((q : Int) + 1) W (by omega) (by omega) (by omega)
    rw [hhas] at this; exact this
  have KD : Hid (∀ W, Calls Try.prog 51 #[.int .i64 ((q : Int) + 1)] W fun e w' => e = .returned (.int .u32 (digit ((q : Int) + 1) : Nat)) ∧ w' = W) := fun W => digit_any _ W (by omega) (by omega)
  have KV : Hid (∀ W, Below w.heap.size w W → Calls Try.prog 52 #[.agg #[.slice A1 i.cars.length c1, .slice A2 i.stops.length c2, .slice A3 i.pairs.length c3, .slice A4 i.travel.length c4], .int .u32 ((set ||| digit ((q : Int) + 1) : Nat) : Int)] W fun e w' => e = .returned (.tuple #[.int .u32 (openH (set ||| digit ((q : Int) + 1)) i.pairs : Nat), .int .u32 (needH (set ||| digit ((q : Int) + 1)) i.pairs : Nat)]) ∧ Below W.heap.size W w') := fun W hB => halves_any _ i _ W (Lies.below hs hB) hf hp hs'
  have HX : Hid (extC i cap ⟨la, leave, load, opn, set, cost⟩ ((q : Int) + 1) = if needH (set ||| digit ((q : Int) + 1)) i.pairs ≠ 0 ∨ (stopAt i ((q : Int) + 1)).c < max (stopAt i ((q : Int) + 1)).o (leave + way i la ((q : Int) + 1)) ∨ load + (stopAt i ((q : Int) + 1)).d < 0 ∨ cap < load + (stopAt i ((q : Int) + 1)).d then none
      else some ⟨(q : Int) + 1, max (stopAt i ((q : Int) + 1)).o (leave + way i la ((q : Int) + 1)) + (stopAt i ((q : Int) + 1)).s, load + (stopAt i ((q : Int) + 1)).d, openH (set ||| digit ((q : Int) + 1)) i.pairs, set ||| digit ((q : Int) + 1), cost + way i la ((q : Int) + 1)⟩) := by
    show _ = _
    unfold extC
    rw [if_pos ⟨hin, hhas⟩]
  have hwb := way_bounds hf la ((q : Int) + 1)
  have hsb := stopAt_bounds hf ((q : Int) + 1)
  have hbor : Go.bits .or .u32 (set : Int) (digit ((q : Int) + 1) : Int) = ((set ||| digit ((q : Int) + 1) : Nat) : Int) := u32_or (by omega) (by omega)
  clear hs hf hin hhas
  go_enter Try.func35, Try.ntmps35
  go_upto_region 1 with (fail)
  generalize (((w.alloc (.cells #[.slice A1 i.cars.length c1, .slice A2 i.stops.length c2, .slice A3 i.pairs.length c3, .slice A4 i.travel.length c4] 28)).alloc (.cells #[.int .i64 cap, .int .i64 st, .int .i64 en] 52)).alloc (.cells #[.bool true, .int .i64 la, .int .i64 leave, .int .i64 load, .int .u32 (opn : Nat), .int .u32 (set : Nat), .int .i64 cost] 44)).alloc (.cells #[.bool false, .int .i64 0, .int .i64 0, .int .i64 0, .int .u32 0, .int .u32 0, .int .i64 0] 44) = wa at *
  have hRw : w.heap.size ≤ w.heap.size + 1 + 1 + 1 := by omega
  generalize w.heap.size + 1 + 1 + 1 = R at *
  generalize w.heap.size + 1 + 1 = H at *
  generalize w.heap.size + 1 = K1 at *
  have k0 := ES0.out.box.b0
  have k1 := ES0.out.box.b1
  have k2 := ES0.out.box.b2
  have k3 := ES0.out.box.b3
  have hIz := ES0.out.box.lt
  have o0 := ES0.out.hb.cell (j := 0) rfl
  have hHz := ES0.out.hb.1
  go_wp2_with (go_at_call 49; fail)
  (with_reducible refine (KS.out _ ES0.out.below).mono ?_)
  rintro e w1 ⟨rfl, hb1⟩
  have ES1 := Lib.hid (ES0.out.on hb1)
  have KB1 := Lib.hid (KB0.out.below hb1)
  clear hb1 k0 k1 k2 k3 hIz o0 hHz ES0 KB0 KS
  have o5 := ES1.out.hb.cell (j := 5) rfl
  have hHz := ES1.out.hb.1
  go_wp2_with (go_at_call 50; fail)
  (with_reducible refine (KH.out _).mono ?_)
  rintro e w2 ⟨rfl, rfl⟩
  go_upto_region 3 with (fail)
  go_quiet ((go_at_call 51; (with_reducible exact Calls.quiet_of_same (KD.out _))))
  have HBy := Lib.hid (below_draws' (Below.refl w2.heap.size w2) nq)
  have ES2 := Lib.hid (ES1.out.on HBy.out)
  have KB2 := Lib.hid (KB1.out.below HBy.out)
  clear o5 hHz ES1 KB1 HBy KH KD
  generalize w2.drewN nq = w2 at *
  have k0 := ES2.out.box.b0
  have k1 := ES2.out.box.b1
  have k2 := ES2.out.box.b2
  have k3 := ES2.out.box.b3
  have hIz := ES2.out.box.lt
  go_wp2_with (go_at_call 52; fail)
  (with_reducible refine (KV.out _ ES2.out.below).mono ?_)
  rintro e w3 ⟨rfl, hb3⟩
  have ES3 := Lib.hid (ES2.out.on hb3)
  have KB3 := Lib.hid (KB2.out.below hb3)
  clear hb3 k0 k1 k2 k3 hIz ES2 KB2 KV
  obtain ⟨B4, o4, rfl, hB4, s0, s1, s2, s3⟩ := said_stop ES3.out.box.lies hq
  obtain ⟨B1, o1, cap2, B2, o2, rfl, hB1, d1, hB2, d2⟩ := said_way ES3.out.box.lies HF.out (a := la) (b := q + 1) hla (by omega)
  rw [show ((q + 1 : Nat) : Int) = (q : Int) + 1 by omega] at d2
  generalize stopAt i ((q : Int) + 1) = sx at *
  obtain ⟨sd, so, sc, ss⟩ := sx
  simp only at s0 s1 s2 s3 hsb HX
  generalize way i la ((q : Int) + 1) = y at *
  generalize openH (set ||| digit ((q : Int) + 1)) i.pairs = oo at *
  generalize needH (set ||| digit ((q : Int) + 1)) i.pairs = nn at *
  have SS : Hid (∀ W, Below w3.heap.size w3 W → W.cell? ⟨w.heap.size, 1, none⟩ = some (.slice (some ⟨B4, o4, none⟩) i.stops.length c2) ∧ W.cell? ⟨B4, o4 + q * 4, none⟩ = some (.int .i64 sd) ∧ W.cell? ⟨B4, o4 + q * 4 + 1, none⟩ = some (.int .i64 so) ∧ W.cell? ⟨B4, o4 + q * 4 + 2, none⟩ = some (.int .i64 sc) ∧ W.cell? ⟨B4, o4 + q * 4 + 3, none⟩ = some (.int .i64 ss) ∧ W.cell? ⟨w.heap.size, 3, none⟩ = some (.slice (some ⟨B1, o1, none⟩) i.travel.length c4) ∧ W.cell? ⟨H, 1, none⟩ = some (.int .i64 la) ∧ W.cell? ⟨B1, o1 + la, none⟩ = some (.slice (some ⟨B2, o2, none⟩) (i.stops.length + 1) cap2) ∧ W.cell? ⟨B2, o2 + (q + 1), none⟩ = some (.int .i64 y)) := fun W hB =>
    ⟨(ES3.out.box.below hB).b1, cell_up hB hB4 s0, cell_up hB hB4 s1, cell_up hB hB4 s2, cell_up hB hB4 s3, (ES3.out.box.below hB).b3, (ES3.out.hb.below hB).cell (j := 1) rfl, cell_up hB hB1 d1, cell_up hB hB2 d2⟩
  have n0 : (0 : Int) ≤ (la : Int) := by omega
  have n1 : (la : Int) < (i.travel.length : Int) := by have := HF.out.travel; omega
  have n2 : (la : Int).toNat = la := by omega
  have n3 : (0 : Int) ≤ (q : Int) + 1 := by omega
  have n4 : (q : Int) + 1 < ((i.stops.length + 1 : Nat) : Int) := by omega
  have n4' : (q : Int) + 1 < (i.stops.length : Int) + 1 := by omega
  have n5 : ((q : Int) + 1).toNat = q + 1 := by omega
  have n6 : (q : Int) + 1 - 1 = (q : Int) := by omega
  have n7 : (q : Int) < (i.stops.length : Int) := by omega
  have n8 : (q : Int).toNat = q := by omega
  have n9 : (0 : Int) ≤ (q : Int) := by omega
  have n10 : IntKind.i64.wrap (q : Int) = (q : Int) := IntWalk.i64_in _ (by omega)
  go_upto_region 5 with (fail)
  refine wp_region_z (S := (fun W => W.cell? ⟨w.heap.size, 1, none⟩ = some (.slice (some ⟨B4, o4, none⟩) i.stops.length c2) ∧ W.cell? ⟨B4, o4 + q * 4, none⟩ = some (.int .i64 sd) ∧ W.cell? ⟨B4, o4 + q * 4 + 1, none⟩ = some (.int .i64 so) ∧ W.cell? ⟨B4, o4 + q * 4 + 2, none⟩ = some (.int .i64 sc) ∧ W.cell? ⟨B4, o4 + q * 4 + 3, none⟩ = some (.int .i64 ss) ∧ W.cell? ⟨w.heap.size, 3, none⟩ = some (.slice (some ⟨B1, o1, none⟩) i.travel.length c4) ∧ W.cell? ⟨H, 1, none⟩ = some (.int .i64 la) ∧ W.cell? ⟨B1, o1 + la, none⟩ = some (.slice (some ⟨B2, o2, none⟩) (i.stops.length + 1) cap2) ∧ W.cell? ⟨B2, o2 + (q + 1), none⟩ = some (.int .i64 y))) (z := 18) (by kernel_rfl) (SS.out _ ((Below.refl w3.heap.size w3).drew)) (fun hH => ?_)
  refine wpAnyZ_takeS (i := 0) (v := ?_) rfl (by kernel_rfl) (by kernel_rfl) (by kernel_rfl) (by kernel_rfl) (fun _ _ _ h => h) (gives_value (by rfl) ?_) (by assumption) ?_
  rotate_left
  · intro w hSw
    (try dsimp only at hSw)
    go_simp
    (try with_reducible rfl)
  (try simp only [Act.put, List.getElem_toArray, List.getElem_cons_succ, List.getElem_cons_zero, List.setIfInBounds_toArray, List.set_cons_zero, List.set_cons_succ])
  refine wpAnyZ_takeS (i := 1) (v := ?_) rfl (by kernel_rfl) (by kernel_rfl) (by kernel_rfl) (by kernel_rfl) (fun _ _ _ h => h) (gives_value (by rfl) ?_) (by assumption) ?_
  rotate_left
  · intro w hSw
    (try dsimp only at hSw)
    go_simp
    (try with_reducible rfl)
  (try simp only [Act.put, List.getElem_toArray, List.getElem_cons_succ, List.getElem_cons_zero, List.setIfInBounds_toArray, List.set_cons_zero, List.set_cons_succ])
  refine wpAnyZ_takeS (i := 2) (v := ?_) rfl (by kernel_rfl) (by kernel_rfl) (by kernel_rfl) (by kernel_rfl) (fun _ _ _ h => h) (gives_value (by rfl) ?_) (by assumption) ?_
  rotate_left
  · intro w hSw
    (try dsimp only at hSw)
    go_simp
    (try with_reducible rfl)
  (try simp only [Act.put, List.getElem_toArray, List.getElem_cons_succ, List.getElem_cons_zero, List.setIfInBounds_toArray, List.set_cons_zero, List.set_cons_succ])
  refine wpAnyZ_takeS (i := 3) (v := ?_) rfl (by kernel_rfl) (by kernel_rfl) (by kernel_rfl) (by kernel_rfl) (fun _ _ _ h => h) (gives_value (by rfl) ?_) (by assumption) ?_
  rotate_left
  · intro w hSw
    (try dsimp only at hSw)
    go_simp
    (try with_reducible rfl)
  (try simp only [Act.put, List.getElem_toArray, List.getElem_cons_succ, List.getElem_cons_zero, List.setIfInBounds_toArray, List.set_cons_zero, List.set_cons_succ])
  refine wpAnyZ_takeS (i := 4) (v := ?_) rfl (by kernel_rfl) (by kernel_rfl) (by kernel_rfl) (by kernel_rfl) (fun _ _ _ h => h) (gives_value (by rfl) ?_) (by assumption) ?_
  rotate_left
  · intro w hSw
    (try dsimp only at hSw)
    go_simp
    (try with_reducible rfl)
  (try simp only [Act.put, List.getElem_toArray, List.getElem_cons_succ, List.getElem_cons_zero, List.setIfInBounds_toArray, List.set_cons_zero, List.set_cons_succ])
  refine wpAnyZ_takeS (i := 5) (v := ?_) rfl (by kernel_rfl) (by kernel_rfl) (by kernel_rfl) (by kernel_rfl) (fun _ _ _ h => h) (gives_value (by rfl) ?_) (by assumption) ?_
  rotate_left
  · intro w hSw
    (try dsimp only at hSw)
    go_simp
    (try with_reducible rfl)
  (try simp only [Act.put, List.getElem_toArray, List.getElem_cons_succ, List.getElem_cons_zero, List.setIfInBounds_toArray, List.set_cons_zero, List.set_cons_succ])
  refine wpAnyZ_takeS (i := 6) (v := ?_) rfl (by kernel_rfl) (by kernel_rfl) (by kernel_rfl) (by kernel_rfl) (fun _ _ _ h => h) (gives_value (by rfl) ?_) (by assumption) ?_
  rotate_left
  · intro w hSw
    (try dsimp only at hSw)
    go_simp
    (try with_reducible rfl)
  (try simp only [Act.put, List.getElem_toArray, List.getElem_cons_succ, List.getElem_cons_zero, List.setIfInBounds_toArray, List.set_cons_zero, List.set_cons_succ])
  refine wpAnyZ_takeS (i := 7) (v := ?_) rfl (by kernel_rfl) (by kernel_rfl) (by kernel_rfl) (by kernel_rfl) (fun _ _ _ h => h) (gives_value (by rfl) ?_) (by assumption) ?_
  rotate_left
  · intro w hSw
    (try dsimp only at hSw)
    go_simp
    (try with_reducible rfl)
  (try simp only [Act.put, List.getElem_toArray, List.getElem_cons_succ, List.getElem_cons_zero, List.setIfInBounds_toArray, List.set_cons_zero, List.set_cons_succ])
  refine wpAnyZ_takeS (i := 8) (v := ?_) rfl (by kernel_rfl) (by kernel_rfl) (by kernel_rfl) (by kernel_rfl) (fun _ _ _ h => h) (gives_value (by rfl) ?_) (by assumption) ?_
  rotate_left
  · intro w hSw
    (try dsimp only at hSw)
    go_simp
    (try with_reducible rfl)
  (try simp only [Act.put, List.getElem_toArray, List.getElem_cons_succ, List.getElem_cons_zero, List.setIfInBounds_toArray, List.set_cons_zero, List.set_cons_succ])
  refine wpAnyZ_takeS (i := 9) (v := ?_) rfl (by kernel_rfl) (by kernel_rfl) (by kernel_rfl) (by kernel_rfl) (fun _ _ _ h => h) (gives_value (by rfl) ?_) (by assumption) ?_
  rotate_left
  · intro w hSw
    (try dsimp only at hSw)
    go_simp
    (try with_reducible rfl)
  (try simp only [Act.put, List.getElem_toArray, List.getElem_cons_succ, List.getElem_cons_zero, List.setIfInBounds_toArray, List.set_cons_zero, List.set_cons_succ])
  refine wpAnyZ_takeS (i := 10) (v := ?_) rfl (by kernel_rfl) (by kernel_rfl) (by kernel_rfl) (by kernel_rfl) (fun _ _ _ h => h) (gives_value (by rfl) ?_) (by assumption) ?_
  rotate_left
  · intro w hSw
    (try dsimp only at hSw)
    go_simp
    (try with_reducible rfl)
  (try simp only [Act.put, List.getElem_toArray, List.getElem_cons_succ, List.getElem_cons_zero, List.setIfInBounds_toArray, List.set_cons_zero, List.set_cons_succ])
  refine wpAnyZ_takeS (i := 11) (v := ?_) rfl (by kernel_rfl) (by kernel_rfl) (by kernel_rfl) (by kernel_rfl) (fun _ _ _ h => h) (gives_value (by rfl) ?_) (by assumption) ?_
  rotate_left
  · intro w hSw
    (try dsimp only at hSw)
    go_simp
    (try with_reducible rfl)
  (try simp only [Act.put, List.getElem_toArray, List.getElem_cons_succ, List.getElem_cons_zero, List.setIfInBounds_toArray, List.set_cons_zero, List.set_cons_succ])
  refine wpAnyZ_takeS (i := 12) (v := ?_) rfl (by kernel_rfl) (by kernel_rfl) (by kernel_rfl) (by kernel_rfl) (fun _ _ _ h => h) (gives_value (by rfl) ?_) (by assumption) ?_
  rotate_left
  · intro w hSw
    (try dsimp only at hSw)
    go_simp
    (try with_reducible rfl)
  (try simp only [Act.put, List.getElem_toArray, List.getElem_cons_succ, List.getElem_cons_zero, List.setIfInBounds_toArray, List.set_cons_zero, List.set_cons_succ])
  refine wpAnyZ_takeS (i := 13) (v := ?_) rfl (by kernel_rfl) (by kernel_rfl) (by kernel_rfl) (by kernel_rfl) (fun _ _ _ h => h) (gives_value (by rfl) ?_) (by assumption) ?_
  rotate_left
  · intro w hSw
    (try dsimp only at hSw)
    go_simp
    (try with_reducible rfl)
  (try simp only [Act.put, List.getElem_toArray, List.getElem_cons_succ, List.getElem_cons_zero, List.setIfInBounds_toArray, List.set_cons_zero, List.set_cons_succ])
  refine wpAnyZ_takeS (i := 14) (v := ?_) rfl (by kernel_rfl) (by kernel_rfl) (by kernel_rfl) (by kernel_rfl) (fun _ _ _ h => h) (gives_value (by rfl) ?_) (by assumption) ?_
  rotate_left
  · intro w hSw
    (try dsimp only at hSw)
    go_simp
    (try with_reducible rfl)
  (try simp only [Act.put, List.getElem_toArray, List.getElem_cons_succ, List.getElem_cons_zero, List.setIfInBounds_toArray, List.set_cons_zero, List.set_cons_succ])
  refine wpAnyZ_one (i := 15) (by kernel_rfl) ?_
  refine zstep rfl (fun K hK => ?_)
  go_simp
  have HBg := Lib.hid (((Below.refl w3.heap.size w3).alloc (Nat.le_refl _) (.cells #[.int .i64 0, .int .i64 0, .int .i64 0, .int .i64 0] 48)).drew)
  have BG := Lib.hid ((blk_new w3 #[.int .i64 0, .int .i64 0, .int .i64 0, .int .i64 0] 48).drew)
  refine hK.out _ _ (fun _ => SS.out _ HBg.out) (fun hH => ?_)
  replace hH := hH (by decide)
  clear hK K
  (try simp only [Act.put, List.getElem_toArray, List.getElem_cons_succ, List.getElem_cons_zero, List.setIfInBounds_toArray, List.set_cons_zero, List.set_cons_succ])

  generalize (w3.alloc (.cells #[.int .i64 0, .int .i64 0, .int .i64 0, .int .i64 0] 48)).drew = wg at *
  refine wpAnyZ_one (i := 16) (by kernel_rfl) ?_
  refine zstep rfl (fun K hK => ?_)
  have g0 := BG.out.cell (j := 0) rfl
  have f0 := (BG.out.2 0 (by simp)).2
  have g1 := BG.out.cell (j := 1) rfl
  have f1 := (BG.out.2 1 (by simp)).2
  have g2 := BG.out.cell (j := 2) rfl
  have f2 := (BG.out.2 2 (by simp)).2
  have g3 := BG.out.cell (j := 3) rfl
  have f3 := (BG.out.2 3 (by simp)).2
  have hGl := BG.out.1
  go_simp
  clear g0 g1 g2 g3 f0 f1 f2 f3 hGl
  have HBz := Lib.hid (below4 HBg.out (Nat.le_refl _) (.int .i64 sd) (.int .i64 so) (.int .i64 sc) (.int .i64 ss))
  have BGz := Lib.hid (box4 BG.out (.int .i64 sd) (.int .i64 so) (.int .i64 sc) (.int .i64 ss))
  refine hK.out _ _ (fun _ => SS.out _ HBz.out) (fun hH => ?_)
  replace hH := hH (by decide)
  clear hK K
  (try simp only [Act.put, List.getElem_toArray, List.getElem_cons_succ, List.getElem_cons_zero, List.setIfInBounds_toArray, List.set_cons_zero, List.set_cons_succ])

  refine wpAnyZ_one (i := 17) (by kernel_rfl) ?_
  refine zstep rfl (fun K hK => ?_)
  go_simp
  refine hK.out _ _ (fun _ => SS.out _ HBz.out) (fun hH => ?_)
  clear hK K hH
  (try simp only [Act.put, List.getElem_toArray, List.getElem_cons_succ, List.getElem_cons_zero, List.setIfInBounds_toArray, List.set_cons_zero, List.set_cons_succ])
  refine wpAnyZ_done (by kernel_rfl) ?_ _
  have ES4 := Lib.hid (ES3.out.on HBz.out)
  have KB4 := Lib.hid (KB3.out.below HBz.out)
  clear SS s0 s1 s2 s3 d1 d2 hB1 hB2 hB4 ES3 KB3 HBz HBg BG n0 n1 n2 n3 n4 n4' n5 n6 n7 n8 n9 n10
  generalize (((wg.setCell ⟨w3.heap.size, 0, none⟩ (.int .i64 sd)).setCell ⟨w3.heap.size, 1, none⟩ (.int .i64 so)).setCell ⟨w3.heap.size, 2, none⟩ (.int .i64 sc)).setCell ⟨w3.heap.size, 3, none⟩ (.int .i64 ss) = w4 at *
  generalize w3.heap.size = X at *
  have b0 := BGz.out.cell (j := 0) rfl
  have b1 := BGz.out.cell (j := 1) rfl
  have hXz := BGz.out.1
  have p2 := ES4.out.hb.cell (j := 2) rfl
  have p3 := ES4.out.hb.cell (j := 3) rfl
  have hHz := ES4.out.hb.1
  have hw1 : IntKind.i64.wrap (leave + y) = leave + y := IntWalk.i64_in _ (by omega)
  have hw2 : IntKind.i64.wrap (load + sd) = load + sd := IntWalk.i64_in _ (by omega)
  go_upto_region 6 with (fail)
  go_quiet (fail)
  go_upto_region 7 with (fail)
  generalize hbe : (if so < leave + y then leave + y else so) = b at *
  have hmx : max so (leave + y) = b := by rw [← hbe]; split <;> omega
  rw [hmx] at HX
  have hb0 : 0 ≤ b := by omega
  have hb1 : b ≤ 4000 := by omega
  have HBy := Lib.hid (below_draws' (Below.refl w4.heap.size w4) nq)
  have ES5 := Lib.hid (ES4.out.on HBy.out)
  have KB5 := Lib.hid (KB4.out.below HBy.out)
  have BX := Lib.hid (BGz.out.below HBy.out)
  clear hbe hmx b0 b1 p2 p3 hHz hXz hw1 ES4 KB4 BGz HBy
  generalize w4.drewN nq = w5 at *
  have b2 := BX.out.cell (j := 2) rfl
  have b3 := BX.out.cell (j := 3) rfl
  have hXz := BX.out.1
  have q0 := KB5.out.cell (j := 0) rfl
  have hKz := KB5.out.1
  have p6 := ES5.out.hb.cell (j := 6) rfl
  have hHz := ES5.out.hb.1
  by_cases t0 : nn = 0
  · subst t0
    by_cases t1 : sc < b
    · have HN : Hid (extC i cap ⟨la, leave, load, opn, set, cost⟩ ((q : Int) + 1) = none) := by show _ = _; rw [HX.out, if_pos (by omega)]
      clear HX
      have r0 := ES5.out.rb.cell (j := 0) rfl
      have z0 := (ES5.out.rb.2 0 (by simp)).2
      have r1 := ES5.out.rb.cell (j := 1) rfl
      have z1 := (ES5.out.rb.2 1 (by simp)).2
      have r2 := ES5.out.rb.cell (j := 2) rfl
      have z2 := (ES5.out.rb.2 2 (by simp)).2
      have r3 := ES5.out.rb.cell (j := 3) rfl
      have z3 := (ES5.out.rb.2 3 (by simp)).2
      have r4 := ES5.out.rb.cell (j := 4) rfl
      have z4 := (ES5.out.rb.2 4 (by simp)).2
      have r5 := ES5.out.rb.cell (j := 5) rfl
      have z5 := (ES5.out.rb.2 5 (by simp)).2
      have r6 := ES5.out.rb.cell (j := 6) rfl
      have z6 := (ES5.out.rb.2 6 (by simp)).2
      have hRz := ES5.out.rb.1
      have HBf := Lib.hid (below7 ES5.out.below hRw (.bool false) (.int .i64 0) (.int .i64 0) (.int .i64 0) (.int .u32 0) (.int .u32 0) (.int .i64 0))
      go_wp2
      exact bodyPost_ret (v := .agg #[.bool false, .int .i64 0, .int .i64 0, .int .i64 0, .int .u32 0, .int .u32 0, .int .i64 0]) (by simp [results, Try.results35, go_sem, r0, r1, r2, r3, r4, r5, r6, z0, z1, z2, z3, z4, z5, z6]) rfl ⟨by rw [HN.out]; rfl, HBf.out⟩
    · by_cases t2 : load + sd < 0
      · have HN : Hid (extC i cap ⟨la, leave, load, opn, set, cost⟩ ((q : Int) + 1) = none) := by show _ = _; rw [HX.out, if_pos (by omega)]
        have t1' : decide (sc < b) = false := by simpa using t1
        clear HX
        have r0 := ES5.out.rb.cell (j := 0) rfl
        have z0 := (ES5.out.rb.2 0 (by simp)).2
        have r1 := ES5.out.rb.cell (j := 1) rfl
        have z1 := (ES5.out.rb.2 1 (by simp)).2
        have r2 := ES5.out.rb.cell (j := 2) rfl
        have z2 := (ES5.out.rb.2 2 (by simp)).2
        have r3 := ES5.out.rb.cell (j := 3) rfl
        have z3 := (ES5.out.rb.2 3 (by simp)).2
        have r4 := ES5.out.rb.cell (j := 4) rfl
        have z4 := (ES5.out.rb.2 4 (by simp)).2
        have r5 := ES5.out.rb.cell (j := 5) rfl
        have z5 := (ES5.out.rb.2 5 (by simp)).2
        have r6 := ES5.out.rb.cell (j := 6) rfl
        have z6 := (ES5.out.rb.2 6 (by simp)).2
        have hRz := ES5.out.rb.1
        have HBf := Lib.hid (below7 ES5.out.below hRw (.bool false) (.int .i64 0) (.int .i64 0) (.int .i64 0) (.int .u32 0) (.int .u32 0) (.int .i64 0))
        go_wp2
        exact bodyPost_ret (v := .agg #[.bool false, .int .i64 0, .int .i64 0, .int .i64 0, .int .u32 0, .int .u32 0, .int .i64 0]) (by simp [results, Try.results35, go_sem, r0, r1, r2, r3, r4, r5, r6, z0, z1, z2, z3, z4, z5, z6]) rfl ⟨by rw [HN.out]; rfl, HBf.out⟩
      · by_cases t3 : cap < load + sd
        · have HN : Hid (extC i cap ⟨la, leave, load, opn, set, cost⟩ ((q : Int) + 1) = none) := by show _ = _; rw [HX.out, if_pos (by omega)]
          have t1' : decide (sc < b) = false := by simpa using t1
          have t2' : decide (load + sd < 0) = false := by simpa using t2
          clear HX
          have r0 := ES5.out.rb.cell (j := 0) rfl
          have z0 := (ES5.out.rb.2 0 (by simp)).2
          have r1 := ES5.out.rb.cell (j := 1) rfl
          have z1 := (ES5.out.rb.2 1 (by simp)).2
          have r2 := ES5.out.rb.cell (j := 2) rfl
          have z2 := (ES5.out.rb.2 2 (by simp)).2
          have r3 := ES5.out.rb.cell (j := 3) rfl
          have z3 := (ES5.out.rb.2 3 (by simp)).2
          have r4 := ES5.out.rb.cell (j := 4) rfl
          have z4 := (ES5.out.rb.2 4 (by simp)).2
          have r5 := ES5.out.rb.cell (j := 5) rfl
          have z5 := (ES5.out.rb.2 5 (by simp)).2
          have r6 := ES5.out.rb.cell (j := 6) rfl
          have z6 := (ES5.out.rb.2 6 (by simp)).2
          have hRz := ES5.out.rb.1
          have HBf := Lib.hid (below7 ES5.out.below hRw (.bool false) (.int .i64 0) (.int .i64 0) (.int .i64 0) (.int .u32 0) (.int .u32 0) (.int .i64 0))
          go_wp2
          exact bodyPost_ret (v := .agg #[.bool false, .int .i64 0, .int .i64 0, .int .i64 0, .int .u32 0, .int .u32 0, .int .i64 0]) (by simp [results, Try.results35, go_sem, r0, r1, r2, r3, r4, r5, r6, z0, z1, z2, z3, z4, z5, z6]) rfl ⟨by rw [HN.out]; rfl, HBf.out⟩
        · have HN : Hid (extC i cap ⟨la, leave, load, opn, set, cost⟩ ((q : Int) + 1) = some ⟨(q : Int) + 1, b + ss, load + sd, oo, set ||| digit ((q : Int) + 1), cost + y⟩) := by show _ = _; rw [HX.out, if_neg (by omega)]
          have t1' : decide (sc < b) = false := by simpa using t1
          have t2' : decide (load + sd < 0) = false := by simpa using t2
          have t3' : decide (cap < load + sd) = false := by simpa using t3
          have hw3 : IntKind.i64.wrap (b + ss) = b + ss := IntWalk.i64_in _ (by omega)
          have hw4 : IntKind.i64.wrap (cost + y) = cost + y := IntWalk.i64_in _ (by omega)
          clear HX
          have r0 := ES5.out.rb.cell (j := 0) rfl
          have z0 := (ES5.out.rb.2 0 (by simp)).2
          have r1 := ES5.out.rb.cell (j := 1) rfl
          have z1 := (ES5.out.rb.2 1 (by simp)).2
          have r2 := ES5.out.rb.cell (j := 2) rfl
          have z2 := (ES5.out.rb.2 2 (by simp)).2
          have r3 := ES5.out.rb.cell (j := 3) rfl
          have z3 := (ES5.out.rb.2 3 (by simp)).2
          have r4 := ES5.out.rb.cell (j := 4) rfl
          have z4 := (ES5.out.rb.2 4 (by simp)).2
          have r5 := ES5.out.rb.cell (j := 5) rfl
          have z5 := (ES5.out.rb.2 5 (by simp)).2
          have r6 := ES5.out.rb.cell (j := 6) rfl
          have z6 := (ES5.out.rb.2 6 (by simp)).2
          have hRz := ES5.out.rb.1
          have HBf := Lib.hid (below7 ES5.out.below hRw (.bool true) (.int .i64 ((q : Int) + 1)) (.int .i64 (b + ss)) (.int .i64 (load + sd)) (.int .u32 (oo : Nat)) (.int .u32 ((set ||| digit ((q : Int) + 1) : Nat) : Int)) (.int .i64 (cost + y)))
          go_wp2
          exact bodyPost_ret (v := .agg #[.bool true, .int .i64 ((q : Int) + 1), .int .i64 (b + ss), .int .i64 (load + sd), .int .u32 (oo : Nat), .int .u32 ((set ||| digit ((q : Int) + 1) : Nat) : Int), .int .i64 (cost + y)]) (by simp [results, Try.results35, go_sem, r0, r1, r2, r3, r4, r5, r6, z0, z1, z2, z3, z4, z5, z6]) rfl ⟨by rw [HN.out]; rfl, HBf.out⟩
  · have HN : Hid (extC i cap ⟨la, leave, load, opn, set, cost⟩ ((q : Int) + 1) = none) := by show _ = _; rw [HX.out, if_pos (.inl t0)]
    have t0' : ((nn : Int) != 0) = true := by simpa using t0
    clear HX
    have r0 := ES5.out.rb.cell (j := 0) rfl
    have z0 := (ES5.out.rb.2 0 (by simp)).2
    have r1 := ES5.out.rb.cell (j := 1) rfl
    have z1 := (ES5.out.rb.2 1 (by simp)).2
    have r2 := ES5.out.rb.cell (j := 2) rfl
    have z2 := (ES5.out.rb.2 2 (by simp)).2
    have r3 := ES5.out.rb.cell (j := 3) rfl
    have z3 := (ES5.out.rb.2 3 (by simp)).2
    have r4 := ES5.out.rb.cell (j := 4) rfl
    have z4 := (ES5.out.rb.2 4 (by simp)).2
    have r5 := ES5.out.rb.cell (j := 5) rfl
    have z5 := (ES5.out.rb.2 5 (by simp)).2
    have r6 := ES5.out.rb.cell (j := 6) rfl
    have z6 := (ES5.out.rb.2 6 (by simp)).2
    have hRz := ES5.out.rb.1
    have HBf := Lib.hid (below7 ES5.out.below hRw (.bool false) (.int .i64 0) (.int .i64 0) (.int .i64 0) (.int .u32 0) (.int .u32 0) (.int .i64 0))
    go_wp2
    exact bodyPost_ret (v := .agg #[.bool false, .int .i64 0, .int .i64 0, .int .i64 0, .int .u32 0, .int .u32 0, .int .i64 0]) (by simp [results, Try.results35, go_sem, r0, r1, r2, r3, r4, r5, r6, z0, z1, z2, z3, z4, z5, z6]) rfl ⟨by rw [HN.out]; rfl, HBf.out⟩
theorem cext_any (v : Value) (i : Prob) (cap st en : Int) (ho : Option HeadP) (s : Int) (w : World) (hv : Lies w v i) (hf : Fine i) (hp : i.pairs.length ≤ 1000000) (hb : ∀ h, ho = some h → HB i h) :
    Calls Try.prog 35 #[v, .agg #[.int .i64 cap, .int .i64 st, .int .i64 en], headV ho, .int .i64 s] w fun e w' => e = .returned (headV (ho.bind fun h => extC i cap h s)) ∧ Below w.heap.size w w' := by
  obtain ⟨A1, A2, A3, A4, c1, c2, c3, c4, rfl, hs⟩ := hv.said
  cases ho with
  | none => exact cext_none i cap st en s w A1 A2 A3 A4 c1 c2 c3 c4 hs
  | some h =>
    have H := hb h rfl
    obtain ⟨last, leave, load, opn, set, cost⟩ := h
    obtain ⟨la, rfl⟩ : ∃ la : Nat, last = (la : Int) := ⟨last.toNat, by have := H.last.1; simp only at this; omega⟩
    show Calls _ _ _ _ fun e w' => e = .returned (headV (extC i cap ⟨la, leave, load, opn, set, cost⟩ s)) ∧ Below w.heap.size w w'
    by_cases hin : inB s 1 i.stops.length = true
    · have h1 := inB_iff.1 hin
      have hst := hf.stops
      have hset := H.set
      simp only at hset
      by_cases hh : hasD set s = true
      · have : extC i cap ⟨la, leave, load, opn, set, cost⟩ s = none := by
          unfold extC; rw [if_neg]; intro e; have := e.2; simp only at this; rw [hh] at this; cases this
        rw [this]
        exact cext_in_set i cap st en s la leave load cost opn set w A1 A2 A3 A4 c1 c2 c3 c4 hs hin hst hset hh
      · have hh' : hasD set s = false := by simpa using hh
        obtain ⟨q, rfl⟩ : ∃ q : Nat, s = (q : Int) + 1 := ⟨(s - 1).toNat, by omega⟩
        have hl := H.last.2
        simp only at hl
        exact cext_in i q la cap st en leave load cost opn set w A1 A2 A3 A4 c1 c2 c3 c4 hs hf hp (by omega) (by omega) H.leave H.load hset H.cost hh'
    · have hin' : inB s 1 i.stops.length = false := by simpa using hin
      have : extC i cap ⟨la, leave, load, opn, set, cost⟩ s = none := by
        unfold extC; rw [if_neg]; intro e; rw [e.1] at hin'; cases hin'
      rw [this]
      exact cext_out i cap st en s la leave load cost opn set w A1 A2 A3 A4 c1 c2 c3 c4 hs hin'
end Go.Proofs.Ytkheepedjoimmaa
