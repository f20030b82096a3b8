/- tab.tailAgrees: what they answer of heads and tails that are the problem's. -/
import Derived.Test.YtkheepedjoimmaaCodeAgree
namespace Go.Proofs.Ytkheepedjoimmaa
open Go.RowKit
set_option linter.unusedSimpArgs false

set_option maxRecDepth 100000 in
set_option maxHeartbeats 4000000 in
theorem tagree_none (i : Prob) (cap st en : Int) (w : World) (A1 A2 A3 A4 : Option Addr) (c1 c2 c3 c4 : Nat) (hs : Said w A1 A2 A3 A4 c1 c2 c3 c4 i) :
    Calls Try.prog 39 #[.agg #[.slice A1 i.cars.length c1, .slice A2 i.stops.length c2, .slice A3 i.pairs.length c3, .slice A4 i.travel.length c4], .agg #[.int .i64 cap, .int .i64 st, .int .i64 en], .agg #[.bool false, .int .i64 0, .int .i64 0, .int .i64 0, .int .i64 0, .int .u32 0, .int .u32 0, .int .i64 0]] w fun e w' => e = .returned (.bool false) ∧ Below w.heap.size w w' := by
  have ES0 := Lib.hid (ag_es0 hs #[.int .i64 cap, .int .i64 st, .int .i64 en] #[.bool false, .int .i64 0, .int .i64 0, .int .i64 0, .int .i64 0, .int .u32 0, .int .u32 0, .int .i64 0] 28 52 46)
  have KB : Hid (∀ W, Calls Try.prog 36 #[.agg #[.int .i64 cap, .int .i64 st, .int .i64 en]] W fun e w' => e = .returned (.agg #[.bool true, .int .i64 0, .int .i64 en, .int .i64 0, .int .i64 0, .int .u32 0, .int .u32 0, .int .i64 0]) ∧ Below W.heap.size W w') := fun W => cend_any cap st en W
  clear hs
  go_enter Try.func39, Try.ntmps39
  go_upto_region 1 with (fail)
  generalize ((w.alloc (.cells #[.slice A1 i.cars.length c1, .slice A2 i.stops.length c2, .slice A3 i.pairs.length c3, .slice A4 i.travel.length c4] 28)).alloc (.cells #[.int .i64 cap, .int .i64 st, .int .i64 en] 52)).alloc (.cells #[.bool false, .int .i64 0, .int .i64 0, .int .i64 0, .int .i64 0, .int .u32 0, .int .u32 0, .int .i64 0] 46) = wa at *
  generalize w.heap.size + 1 + 1 = H at *
  generalize w.heap.size + 1 = K1 at *
  have o6 := ES0.out.hb.cell (j := 6) rfl
  have hHz := ES0.out.hb.1
  go_upto_region 2 with (fail)
  refine wp_region_z (S := (fun W => W.cell? ⟨H, 0, none⟩ = some (.bool false) ∧ W.cell? ⟨H, 1, none⟩ = some (.int .i64 0) ∧ W.cell? ⟨H, 2, none⟩ = some (.int .i64 0) ∧ W.cell? ⟨H, 3, none⟩ = some (.int .i64 0) ∧ W.cell? ⟨H, 4, none⟩ = some (.int .i64 0) ∧ W.cell? ⟨H, 5, none⟩ = some (.int .u32 0) ∧ W.cell? ⟨H, 6, none⟩ = some (.int .u32 0) ∧ W.cell? ⟨H, 7, none⟩ = some (.int .i64 0) ∧ W.cell? ⟨K1, 0, none⟩ = some (.int .i64 cap) ∧ W.cell? ⟨K1, 1, none⟩ = some (.int .i64 st) ∧ W.cell? ⟨K1, 2, none⟩ = some (.int .i64 en))) (z := 5) (by kernel_rfl) (have ES0 := Lib.hid (ES0.out.on ((Below.refl _ _).drew)); ⟨ES0.out.hb.cell (j := 0) rfl, ES0.out.hb.cell (j := 1) rfl, ES0.out.hb.cell (j := 2) rfl, ES0.out.hb.cell (j := 3) rfl, ES0.out.hb.cell (j := 4) rfl, ES0.out.hb.cell (j := 5) rfl, ES0.out.hb.cell (j := 6) rfl, ES0.out.hb.cell (j := 7) rfl, ES0.out.kb.cell (j := 0) rfl, ES0.out.kb.cell (j := 1) rfl, ES0.out.kb.cell (j := 2) rfl⟩) (fun hH => ?_)
  refine wpAnyZ_takeS (i := 0) (v := ?_) rfl (by kernel_rfl) (by kernel_rfl) (by kernel_rfl) (by kernel_rfl) (fun _ _ _ h => h) (gives_value (by rfl) ?_) (by assumption) ?_
  rotate_left
  · intro w hSw
    (try dsimp only at hSw)
    go_simp
    (try with_reducible rfl)
  (try simp only [Act.put, List.getElem_toArray, List.getElem_cons_succ, List.getElem_cons_zero, List.setIfInBounds_toArray, List.set_cons_zero, List.set_cons_succ])
  refine wpAnyZ_takeS (i := 1) (v := ?_) rfl (by kernel_rfl) (by kernel_rfl) (by kernel_rfl) (by kernel_rfl) (fun _ _ _ h => h) (gives_value (by rfl) ?_) (by assumption) ?_
  rotate_left
  · intro w hSw
    (try dsimp only at hSw)
    go_simp
    (try with_reducible rfl)
  (try simp only [Act.put, List.getElem_toArray, List.getElem_cons_succ, List.getElem_cons_zero, List.setIfInBounds_toArray, List.set_cons_zero, List.set_cons_succ])
  refine wpAnyZ_one (i := 2) (by kernel_rfl) ?_
  refine zstep rfl (fun K hK => ?_)
  go_simp
  (with_reducible refine (KB.out _).mono ?_)
  rintro e w1 ⟨rfl, hb1⟩
  have ES1 := Lib.hid (ES0.out.on (((Below.refl wa.heap.size wa).drew).trans hb1))
  clear hb1
  refine hK.out _ _ (fun _ => ⟨ES1.out.hb.cell (j := 0) rfl, ES1.out.hb.cell (j := 1) rfl, ES1.out.hb.cell (j := 2) rfl, ES1.out.hb.cell (j := 3) rfl, ES1.out.hb.cell (j := 4) rfl, ES1.out.hb.cell (j := 5) rfl, ES1.out.hb.cell (j := 6) rfl, ES1.out.hb.cell (j := 7) rfl, ES1.out.kb.cell (j := 0) rfl, ES1.out.kb.cell (j := 1) rfl, ES1.out.kb.cell (j := 2) rfl⟩) (fun hH => ?_)
  replace hH := hH (by decide)
  clear hK K
  (try simp only [Act.put, List.getElem_toArray, List.getElem_cons_succ, List.getElem_cons_zero, List.setIfInBounds_toArray, List.set_cons_zero, List.set_cons_succ])
  refine wpAnyZ_takeS (i := 3) (v := ?_) rfl (by kernel_rfl) (by kernel_rfl) (by kernel_rfl) (by kernel_rfl) (fun _ _ _ h => h) (gives_value (by rfl) ?_) (by assumption) ?_
  rotate_left
  · intro w hSw
    (try dsimp only at hSw)
    go_simp
    (try with_reducible rfl)
  (try simp only [Act.put, List.getElem_toArray, List.getElem_cons_succ, List.getElem_cons_zero, List.setIfInBounds_toArray, List.set_cons_zero, List.set_cons_succ])
  refine wpAnyZ_takeS (i := 4) (v := ?_) rfl (by kernel_rfl) (by kernel_rfl) (by kernel_rfl) (by kernel_rfl) (fun _ _ _ h => h) (gives_value (by rfl) ?_) (by assumption) ?_
  rotate_left
  · intro w hSw
    (try dsimp only at hSw)
    go_simp
    (try with_reducible rfl)
  (try simp only [Act.put, List.getElem_toArray, List.getElem_cons_succ, List.getElem_cons_zero, List.setIfInBounds_toArray, List.set_cons_zero, List.set_cons_succ])
  refine wpAnyZ_done (by kernel_rfl) ?_ _
  clear o6 hHz ES0
  go_wp2
  go_ret
  exact ⟨rfl, ES1.out.below⟩
set_option maxRecDepth 100000 in
set_option maxHeartbeats 4000000 in
theorem tagree_end (i : Prob) (cap st en : Int) (w : World) (A1 A2 A3 A4 : Option Addr) (c1 c2 c3 c4 : Nat) (hs : Said w A1 A2 A3 A4 c1 c2 c3 c4 i) :
    Calls Try.prog 39 #[.agg #[.slice A1 i.cars.length c1, .slice A2 i.stops.length c2, .slice A3 i.pairs.length c3, .slice A4 i.travel.length c4], .agg #[.int .i64 cap, .int .i64 st, .int .i64 en], .agg #[.bool true, .int .i64 0, .int .i64 en, .int .i64 0, .int .i64 0, .int .u32 0, .int .u32 0, .int .i64 0]] w fun e w' => e = .returned (.bool true) ∧ Below w.heap.size w w' := by
  have ES0 := Lib.hid (ag_es0 hs #[.int .i64 cap, .int .i64 st, .int .i64 en] #[.bool true, .int .i64 0, .int .i64 en, .int .i64 0, .int .i64 0, .int .u32 0, .int .u32 0, .int .i64 0] 28 52 46)
  have KB : Hid (∀ W, Calls Try.prog 36 #[.agg #[.int .i64 cap, .int .i64 st, .int .i64 en]] W fun e w' => e = .returned (.agg #[.bool true, .int .i64 0, .int .i64 en, .int .i64 0, .int .i64 0, .int .u32 0, .int .u32 0, .int .i64 0]) ∧ Below W.heap.size W w') := fun W => cend_any cap st en W
  clear hs
  go_enter Try.func39, Try.ntmps39
  go_upto_region 1 with (fail)
  generalize ((w.alloc (.cells #[.slice A1 i.cars.length c1, .slice A2 i.stops.length c2, .slice A3 i.pairs.length c3, .slice A4 i.travel.length c4] 28)).alloc (.cells #[.int .i64 cap, .int .i64 st, .int .i64 en] 52)).alloc (.cells #[.bool true, .int .i64 0, .int .i64 en, .int .i64 0, .int .i64 0, .int .u32 0, .int .u32 0, .int .i64 0] 46) = wa at *
  generalize w.heap.size + 1 + 1 = H at *
  generalize w.heap.size + 1 = K1 at *
  have o6 := ES0.out.hb.cell (j := 6) rfl
  have hHz := ES0.out.hb.1
  go_upto_region 2 with (fail)
  refine wp_region_z (S := (fun W => W.cell? ⟨H, 0, none⟩ = some (.bool true) ∧ W.cell? ⟨H, 1, none⟩ = some (.int .i64 0) ∧ W.cell? ⟨H, 2, none⟩ = some (.int .i64 en) ∧ W.cell? ⟨H, 3, none⟩ = some (.int .i64 0) ∧ W.cell? ⟨H, 4, none⟩ = some (.int .i64 0) ∧ W.cell? ⟨H, 5, none⟩ = some (.int .u32 0) ∧ W.cell? ⟨H, 6, none⟩ = some (.int .u32 0) ∧ W.cell? ⟨H, 7, none⟩ = some (.int .i64 0) ∧ W.cell? ⟨K1, 0, none⟩ = some (.int .i64 cap) ∧ W.cell? ⟨K1, 1, none⟩ = some (.int .i64 st) ∧ W.cell? ⟨K1, 2, none⟩ = some (.int .i64 en))) (z := 5) (by kernel_rfl) (have ES0 := Lib.hid (ES0.out.on ((Below.refl _ _).drew)); ⟨ES0.out.hb.cell (j := 0) rfl, ES0.out.hb.cell (j := 1) rfl, ES0.out.hb.cell (j := 2) rfl, ES0.out.hb.cell (j := 3) rfl, ES0.out.hb.cell (j := 4) rfl, ES0.out.hb.cell (j := 5) rfl, ES0.out.hb.cell (j := 6) rfl, ES0.out.hb.cell (j := 7) rfl, ES0.out.kb.cell (j := 0) rfl, ES0.out.kb.cell (j := 1) rfl, ES0.out.kb.cell (j := 2) rfl⟩) (fun hH => ?_)
  refine wpAnyZ_takeS (i := 0) (v := ?_) rfl (by kernel_rfl) (by kernel_rfl) (by kernel_rfl) (by kernel_rfl) (fun _ _ _ h => h) (gives_value (by rfl) ?_) (by assumption) ?_
  rotate_left
  · intro w hSw
    (try dsimp only at hSw)
    go_simp
    (try with_reducible rfl)
  (try simp only [Act.put, List.getElem_toArray, List.getElem_cons_succ, List.getElem_cons_zero, List.setIfInBounds_toArray, List.set_cons_zero, List.set_cons_succ])
  refine wpAnyZ_takeS (i := 1) (v := ?_) rfl (by kernel_rfl) (by kernel_rfl) (by kernel_rfl) (by kernel_rfl) (fun _ _ _ h => h) (gives_value (by rfl) ?_) (by assumption) ?_
  rotate_left
  · intro w hSw
    (try dsimp only at hSw)
    go_simp
    (try with_reducible rfl)
  (try simp only [Act.put, List.getElem_toArray, List.getElem_cons_succ, List.getElem_cons_zero, List.setIfInBounds_toArray, List.set_cons_zero, List.set_cons_succ])
  refine wpAnyZ_one (i := 2) (by kernel_rfl) ?_
  refine zstep rfl (fun K hK => ?_)
  go_simp
  (with_reducible refine (KB.out _).mono ?_)
  rintro e w1 ⟨rfl, hb1⟩
  have ES1 := Lib.hid (ES0.out.on (((Below.refl wa.heap.size wa).drew).trans hb1))
  clear hb1
  refine hK.out _ _ (fun _ => ⟨ES1.out.hb.cell (j := 0) rfl, ES1.out.hb.cell (j := 1) rfl, ES1.out.hb.cell (j := 2) rfl, ES1.out.hb.cell (j := 3) rfl, ES1.out.hb.cell (j := 4) rfl, ES1.out.hb.cell (j := 5) rfl, ES1.out.hb.cell (j := 6) rfl, ES1.out.hb.cell (j := 7) rfl, ES1.out.kb.cell (j := 0) rfl, ES1.out.kb.cell (j := 1) rfl, ES1.out.kb.cell (j := 2) rfl⟩) (fun hH => ?_)
  replace hH := hH (by decide)
  clear hK K
  (try simp only [Act.put, List.getElem_toArray, List.getElem_cons_succ, List.getElem_cons_zero, List.setIfInBounds_toArray, List.set_cons_zero, List.set_cons_succ])
  refine wpAnyZ_takeS (i := 3) (v := ?_) rfl (by kernel_rfl) (by kernel_rfl) (by kernel_rfl) (by kernel_rfl) (fun _ _ _ h => h) (gives_value (by rfl) ?_) (by assumption) ?_
  rotate_left
  · intro w hSw
    (try dsimp only at hSw)
    go_simp
    (try with_reducible rfl)
  (try simp only [Act.put, List.getElem_toArray, List.getElem_cons_succ, List.getElem_cons_zero, List.setIfInBounds_toArray, List.set_cons_zero, List.set_cons_succ])
  refine wpAnyZ_takeS (i := 4) (v := ?_) rfl (by kernel_rfl) (by kernel_rfl) (by kernel_rfl) (by kernel_rfl) (fun _ _ _ h => h) (gives_value (by rfl) ?_) (by assumption) ?_
  rotate_left
  · intro w hSw
    (try dsimp only at hSw)
    go_simp
    (try with_reducible rfl)
  (try simp only [Act.put, List.getElem_toArray, List.getElem_cons_succ, List.getElem_cons_zero, List.setIfInBounds_toArray, List.set_cons_zero, List.set_cons_succ])
  refine wpAnyZ_done (by kernel_rfl) ?_ _
  clear o6 hHz ES0
  go_wp2
  go_ret
  exact ⟨rfl, ES1.out.below⟩
set_option maxRecDepth 100000 in
set_option maxHeartbeats 8000000 in
theorem tagree_in (i : Prob) (q : Nat) (cap st en late low high cost : Int) (need set : Nat) (w : World) (A1 A2 A3 A4 : Option Addr) (c1 c2 c3 c4 : Nat) (hs : Said w A1 A2 A3 A4 c1 c2 c3 c4 i) (hf : Fine i) (hp : i.pairs.length ≤ 1000000) (hq : q < i.stops.length) (hlv : 0 ≤ late ∧ late ≤ 1000) (hse : set < 2048) (hst0 : 0 ≤ en ∧ en ≤ 1000) (hz : set ≠ 0)
    (hneed : need = needH set i.pairs) (hopn : openH set i.pairs = 0) (hb0 : set.testBit 0 = false) (htop : ∀ x : Int, 1 ≤ x → hasD set x = true → x ≤ i.stops.length) (hhas : hasD set ((q : Int) + 1) = true) (hsnd : mateL ((q : Int) + 1) i.pairs ≠ 0 → firstL ((q : Int) + 1) i.pairs = false → hasD need (mateL ((q : Int) + 1) i.pairs) = true)
    (hlow : sumN mn0 i set i.stops.length ≤ low ∧ low ≤ min 0 (sumN mx0 i set i.stops.length + sumN mn0 i set i.stops.length)) (hhigh : max 0 (sumN mx0 i set i.stops.length + sumN mn0 i set i.stops.length) ≤ high ∧ high ≤ sumN mx0 i set i.stops.length) (hlo : (stopAt i ((q : Int) + 1)).o ≤ late) (hhi : late ≤ (stopAt i ((q : Int) + 1)).c) (hco : 0 ≤ cost ∧ cost ≤ en - late - sumN srv i set i.stops.length) :
    Calls Try.prog 39 #[.agg #[.slice A1 i.cars.length c1, .slice A2 i.stops.length c2, .slice A3 i.pairs.length c3, .slice A4 i.travel.length c4], .agg #[.int .i64 cap, .int .i64 st, .int .i64 en], .agg #[.bool true, .int .i64 ((q : Int) + 1), .int .i64 late, .int .i64 low, .int .i64 high, .int .u32 (need : Nat), .int .u32 (set : Nat), .int .i64 cost]] w fun e w' => e = .returned (.bool true) ∧ Below w.heap.size w w' := by
  have hst := hf.stops
  have ES0 := Lib.hid (ag_es0 hs #[.int .i64 cap, .int .i64 st, .int .i64 en] #[.bool true, .int .i64 ((q : Int) + 1), .int .i64 late, .int .i64 low, .int .i64 high, .int .u32 (need : Nat), .int .u32 (set : Nat), .int .i64 cost] 28 52 46)
  have KO : Hid (∀ W, Below w.heap.size w W → Calls Try.prog 53 #[.agg #[.slice A1 i.cars.length c1, .slice A2 i.stops.length c2, .slice A3 i.pairs.length c3, .slice A4 i.travel.length c4], .int .u32 (set : Nat)] W fun e w' => e = .returned (.bool true) ∧ Below W.heap.size W w') := fun W hB => stopsOnly_any _ i set W (Lies.below hs hB) hst hb0 htop
  have KS : Hid (∀ W, Below w.heap.size w W → Calls Try.prog 49 #[.agg #[.slice A1 i.cars.length c1, .slice A2 i.stops.length c2, .slice A3 i.pairs.length c3, .slice A4 i.travel.length c4], .int .i64 ((q : Int) + 1)] W fun e w' => e = .returned (.bool true) ∧ Below W.heap.size W w') := fun W hB => by
    have := stopThere_any _ i ((q : Int) + 1) W (Lies.below hs hB)
    rw [inB_iff.2 ⟨by omega, by omega⟩] at this; exact this
  have KH : Hid (∀ W, Calls Try.prog 50 #[.int .u32 (set : Nat), .int .i64 ((q : Int) + 1)] W fun e w' => e = .returned (.bool true) ∧ w' = W) := fun W => by
    have := has_any set ((q : Int) + 1) W (by omega) (by omega) (by omega)
    rw [hhas] at this; exact this
  have KV : Hid (∀ W, Below w.heap.size w W → Calls Try.prog 52 #[.agg #[.slice A1 i.cars.length c1, .slice A2 i.stops.length c2, .slice A3 i.pairs.length c3, .slice A4 i.travel.length c4], .int .u32 (set : Nat)] W fun e w' => e = .returned (.tuple #[.int .u32 0, .int .u32 (need : Nat)]) ∧ Below W.heap.size W w') := fun W hB => by
    have := halves_any _ i set W (Lies.below hs hB) hf hp hse
    rw [← hneed, hopn] at this; exact this
  have KF : Hid (∀ W, Below w.heap.size w W → Calls Try.prog 56 #[.agg #[.slice A1 i.cars.length c1, .slice A2 i.stops.length c2, .slice A3 i.pairs.length c3, .slice A4 i.travel.length c4], .int .i64 ((q : Int) + 1)] W fun e w' => e = .returned (.bool (decide (mateL ((q : Int) + 1) i.pairs ≠ 0) && !firstL ((q : Int) + 1) i.pairs)) ∧ Below W.heap.size W w') := fun W hB => isSecond_any _ i _ W (Lies.below hs hB) (by omega)
  have KM : Hid (∀ W, Below w.heap.size w W → Calls Try.prog 57 #[.agg #[.slice A1 i.cars.length c1, .slice A2 i.stops.length c2, .slice A3 i.pairs.length c3, .slice A4 i.travel.length c4], .int .i64 ((q : Int) + 1)] W fun e w' => e = .returned (.int .i64 (mateL ((q : Int) + 1) i.pairs)) ∧ Below W.heap.size W w') := fun W hB => mate_any _ i _ W (Lies.below hs hB) (by omega)
  have ho2 : need < 2048 := by rw [hneed]; exact need_lt' (fun p hp => by have := hf.pairF p hp; omega)
  have hmb := mate_bound hf ((q : Int) + 1)
  have KH2 : Hid ((decide (mateL ((q : Int) + 1) i.pairs ≠ 0) && !firstL ((q : Int) + 1) i.pairs) = true → ∀ W, Calls Try.prog 50 #[.int .u32 (need : Nat), .int .i64 (mateL ((q : Int) + 1) i.pairs)] W fun e w' => e = .returned (.bool true) ∧ w' = W) := fun hx W => by
    have := has_any need (mateL ((q : Int) + 1) i.pairs) W (by omega) (by omega) (by omega)
    rw [Bool.and_eq_true, decide_eq_true_eq] at hx
    rw [hsnd hx.1 (by simpa using hx.2)] at this; exact this
  have KU : Hid (∀ W, Below w.heap.size w W → Calls Try.prog 55 #[.agg #[.slice A1 i.cars.length c1, .slice A2 i.stops.length c2, .slice A3 i.pairs.length c3, .slice A4 i.travel.length c4], .int .u32 (set : Nat)] W fun e w' => e = .returned (.tuple #[.int .i64 (sumN mx0 i set i.stops.length), .int .i64 (sumN mn0 i set i.stops.length), .int .i64 (sumN srv i set i.stops.length)]) ∧ Below W.heap.size W w') := fun W hB => sums_any _ i set W (Lies.below hs hB) hf hse
  have e3 := sumN_le (f := srv) (i := i) (S := set) (a := 0) (b := 1000) (by omega) (by omega) (fun x => by have := stopAt_bounds hf x; unfold srv; omega) i.stops.length
  have e1 := sumN_le (f := mx0) (i := i) (S := set) (a := 0) (b := 20) (by omega) (by omega) (fun x => by have := stopAt_bounds hf x; unfold mx0; omega) i.stops.length
  have e2 := sumN_le (f := mn0) (i := i) (S := set) (a := -20) (b := 0) (by omega) (by omega) (fun x => by have := stopAt_bounds hf x; unfold mn0; omega) i.stops.length
  have hsb := stopAt_bounds hf ((q : Int) + 1)
  generalize (decide (mateL ((q : Int) + 1) i.pairs ≠ 0) && !firstL ((q : Int) + 1) i.pairs) = fb at *
  generalize mateL ((q : Int) + 1) i.pairs = m at *
  generalize sumN mx0 i set i.stops.length = s1 at *
  generalize sumN mn0 i set i.stops.length = s2 at *
  generalize sumN srv i set i.stops.length = s3 at *
  have hz' : ((set : Int) == 0) = false := by simpa using hz
  clear hs hf hopn hneed hb0 htop hhas hsnd
  go_enter Try.func39, Try.ntmps39
  go_upto_region 1 with (fail)
  generalize ((w.alloc (.cells #[.slice A1 i.cars.length c1, .slice A2 i.stops.length c2, .slice A3 i.pairs.length c3, .slice A4 i.travel.length c4] 28)).alloc (.cells #[.int .i64 cap, .int .i64 st, .int .i64 en] 52)).alloc (.cells #[.bool true, .int .i64 ((q : Int) + 1), .int .i64 late, .int .i64 low, .int .i64 high, .int .u32 (need : Nat), .int .u32 (set : Nat), .int .i64 cost] 46) = wa at *
  generalize w.heap.size + 1 + 1 = H at *
  generalize w.heap.size + 1 = K1 at *
  have o6 := ES0.out.hb.cell (j := 6) rfl
  have hHz := ES0.out.hb.1
  go_upto_region 3 with (fail)
  clear o6 hHz
  have k0 := ES0.out.box.b0
  have k1 := ES0.out.box.b1
  have k2 := ES0.out.box.b2
  have k3 := ES0.out.box.b3
  have hIz := ES0.out.box.lt
  have o0 := ES0.out.hb.cell (j := 0) rfl
  have o6 := ES0.out.hb.cell (j := 6) rfl
  have hHz := ES0.out.hb.1
  go_wp2_with (go_at_call 53; fail)
  (with_reducible refine (KO.out _ ES0.out.below).mono ?_)
  rintro e w1 ⟨rfl, hb⟩
  have ES1 := Lib.hid (ES0.out.on hb)
  clear hb
  clear k0 k1 k2 k3 hIz o0 o6 hHz
  have k0 := ES1.out.box.b0
  have k1 := ES1.out.box.b1
  have k2 := ES1.out.box.b2
  have k3 := ES1.out.box.b3
  have hIz := ES1.out.box.lt
  have o1 := ES1.out.hb.cell (j := 1) rfl
  have hHz := ES1.out.hb.1
  go_wp2_with (go_at_call 49; fail)
  (with_reducible refine (KS.out _ ES1.out.below).mono ?_)
  rintro e w2 ⟨rfl, hb⟩
  have ES2 := Lib.hid (ES1.out.on hb)
  clear hb
  clear k0 k1 k2 k3 hIz o1 hHz
  have o6 := ES2.out.hb.cell (j := 6) rfl
  have o1 := ES2.out.hb.cell (j := 1) rfl
  have hHz := ES2.out.hb.1
  go_wp2_with (go_at_call 50; fail)
  (with_reducible refine (KH.out _).mono ?_)
  rintro e w' ⟨rfl, hww⟩
  replace hww := hww.symm
  subst hww
  clear o6 o1 hHz
  have k0 := ES2.out.box.b0
  have k1 := ES2.out.box.b1
  have k2 := ES2.out.box.b2
  have k3 := ES2.out.box.b3
  have hIz := ES2.out.box.lt
  have o6 := ES2.out.hb.cell (j := 6) rfl
  have hHz := ES2.out.hb.1
  go_wp2_with (go_at_call 52; fail)
  (with_reducible refine (KV.out _ ES2.out.below).mono ?_)
  rintro e w3 ⟨rfl, hb⟩
  have ES3 := Lib.hid (ES2.out.on hb)
  clear hb
  clear k0 k1 k2 k3 hIz o6 hHz
  have tn : ((need : Int) != (need : Int)) = false := by simp
  have k0 := ES3.out.box.b0
  have k1 := ES3.out.box.b1
  have k2 := ES3.out.box.b2
  have k3 := ES3.out.box.b3
  have hIz := ES3.out.box.lt
  have o5 := ES3.out.hb.cell (j := 5) rfl
  have o1 := ES3.out.hb.cell (j := 1) rfl
  have hHz := ES3.out.hb.1
  go_wp2_with (go_at_call 56; fail)
  (with_reducible refine (KF.out _ ES3.out.below).mono ?_)
  rintro e w4 ⟨rfl, hb⟩
  have ES4 := Lib.hid (ES3.out.on hb)
  clear hb
  clear k0 k1 k2 k3 hIz o5 o1 hHz
  cases fb
  · obtain ⟨B4, o4', rfl, hB4, x0, x1, x2, x3⟩ := said_stop ES4.out.box.lies hq
    generalize stopAt i ((q : Int) + 1) = sx at *
    obtain ⟨sd, so, sc, ss⟩ := sx
    simp only at x0 x1 x2 x3 hsb hlo hhi
    have n6 : (q : Int) + 1 - 1 = (q : Int) := by omega
    have n7 : (q : Int) < (i.stops.length : Int) := by omega
    have n8 : (q : Int).toNat = q := by omega
    have n9 : (0 : Int) ≤ (q : Int) := by omega
    have n10 : IntKind.i64.wrap (q : Int) = (q : Int) := IntWalk.i64_in _ (by omega)
    have k1 := ES4.out.box.b1
    have hIz := ES4.out.box.lt
    have o1 := ES4.out.hb.cell (j := 1) rfl
    have hHz := ES4.out.hb.1
    go_upto_region 9 with (fail)
    have BX := Lib.hid (blk_new w4 #[.int .i64 sd, .int .i64 so, .int .i64 sc, .int .i64 ss] 48)
    have HBx := Lib.hid ((Below.refl w4.heap.size w4).alloc (Nat.le_refl _) (.cells #[.int .i64 sd, .int .i64 so, .int .i64 sc, .int .i64 ss] 48))
    have ES6 := Lib.hid (ES4.out.on HBx.out)
    clear k1 hIz o1 hHz x0 x1 x2 x3 n6 n7 n8 n9 n10 ES4 HBx
    generalize w4.alloc (.cells #[.int .i64 sd, .int .i64 so, .int .i64 sc, .int .i64 ss] 48) = w5 at *
    generalize w4.heap.size = X at *
    have b1 := BX.out.cell (j := 1) rfl
    have b2 := BX.out.cell (j := 2) rfl
    have hXz := BX.out.1
    have v3 : decide (late < so) = false := by simp; omega
    have v4 : decide (sc < late) = false := by simp; omega
    have o2 := ES6.out.hb.cell (j := 2) rfl
    have k0 := ES6.out.box.b0
    have k1 := ES6.out.box.b1
    have k2 := ES6.out.box.b2
    have k3 := ES6.out.box.b3
    have hIz := ES6.out.box.lt
    have o6 := ES6.out.hb.cell (j := 6) rfl
    have hHz := ES6.out.hb.1
    go_wp2_with (go_at_call 55; fail)
    (with_reducible refine (KU.out _ ES6.out.below).mono ?_)
    rintro e w6 ⟨rfl, hb⟩
    have ES7 := Lib.hid (ES6.out.on hb)
    clear hb
    clear k0 k1 k2 k3 hIz o6 hHz
    clear o2 b1 b2 hXz
    have o2 := ES7.out.hb.cell (j := 2) rfl
    have o3 := ES7.out.hb.cell (j := 3) rfl
    have o4 := ES7.out.hb.cell (j := 4) rfl
    have o7 := ES7.out.hb.cell (j := 7) rfl
    have hHz := ES7.out.hb.1
    have a2 := ES7.out.kb.cell (j := 2) rfl
    have hKz := ES7.out.kb.1
    have hw0 : IntKind.i64.wrap (s1 + s2) = s1 + s2 := IntWalk.i64_in _ (by omega)
    have hw3 : IntKind.i64.wrap (en - late) = en - late := IntWalk.i64_in _ (by omega)
    have hw4 : IntKind.i64.wrap (en - late - s3) = en - late - s3 := IntWalk.i64_in _ (by omega)
    have v0 : decide (low < s2) = false := by simp; omega
    have v1 : decide ((if s1 + s2 < 0 then s1 + s2 else 0) < low) = false := by simp; split <;> omega
    have v2 : decide (high < (if 0 < s1 + s2 then s1 + s2 else 0)) = false := by simp; split <;> omega
    have v7 : decide (s1 < high) = false := by simp; omega
    have v5 : decide (0 ≤ cost) = true := by simp; omega
    have v6 : decide (cost ≤ en - late - s3) = true := by simp; omega
    go_wp2
    all_goals
      go_ret
      exact ⟨rfl, ES7.out.below⟩
  · have KH3 := Lib.hid (KH2.out rfl)
    have k0 := ES4.out.box.b0
    have k1 := ES4.out.box.b1
    have k2 := ES4.out.box.b2
    have k3 := ES4.out.box.b3
    have hIz := ES4.out.box.lt
    have o1 := ES4.out.hb.cell (j := 1) rfl
    have hHz := ES4.out.hb.1
    go_wp2_with (go_at_call 57; fail)
    (with_reducible refine (KM.out _ ES4.out.below).mono ?_)
    rintro e w4b ⟨rfl, hb⟩
    have ES5 := Lib.hid (ES4.out.on hb)
    clear hb
    clear k0 k1 k2 k3 hIz o1 hHz
    have hHz := ES5.out.hb.1
    go_wp2_with (go_at_call 50; fail)
    (with_reducible refine (KH3.out _).mono ?_)
    rintro e w' ⟨rfl, hww⟩
    replace hww := hww.symm
    subst hww
    clear  hHz
    obtain ⟨B4, o4', rfl, hB4, x0, x1, x2, x3⟩ := said_stop ES5.out.box.lies hq
    generalize stopAt i ((q : Int) + 1) = sx at *
    obtain ⟨sd, so, sc, ss⟩ := sx
    simp only at x0 x1 x2 x3 hsb hlo hhi
    have n6 : (q : Int) + 1 - 1 = (q : Int) := by omega
    have n7 : (q : Int) < (i.stops.length : Int) := by omega
    have n8 : (q : Int).toNat = q := by omega
    have n9 : (0 : Int) ≤ (q : Int) := by omega
    have n10 : IntKind.i64.wrap (q : Int) = (q : Int) := IntWalk.i64_in _ (by omega)
    have k1 := ES5.out.box.b1
    have hIz := ES5.out.box.lt
    have o1 := ES5.out.hb.cell (j := 1) rfl
    have hHz := ES5.out.hb.1
    go_upto_region 9 with (fail)
    have BX := Lib.hid (blk_new w4b #[.int .i64 sd, .int .i64 so, .int .i64 sc, .int .i64 ss] 48)
    have HBx := Lib.hid ((Below.refl w4b.heap.size w4b).alloc (Nat.le_refl _) (.cells #[.int .i64 sd, .int .i64 so, .int .i64 sc, .int .i64 ss] 48))
    have ES6 := Lib.hid (ES5.out.on HBx.out)
    clear k1 hIz o1 hHz x0 x1 x2 x3 n6 n7 n8 n9 n10 ES5 HBx
    generalize w4b.alloc (.cells #[.int .i64 sd, .int .i64 so, .int .i64 sc, .int .i64 ss] 48) = w5 at *
    generalize w4b.heap.size = X at *
    have b1 := BX.out.cell (j := 1) rfl
    have b2 := BX.out.cell (j := 2) rfl
    have hXz := BX.out.1
    have v3 : decide (late < so) = false := by simp; omega
    have v4 : decide (sc < late) = false := by simp; omega
    have o2 := ES6.out.hb.cell (j := 2) rfl
    have k0 := ES6.out.box.b0
    have k1 := ES6.out.box.b1
    have k2 := ES6.out.box.b2
    have k3 := ES6.out.box.b3
    have hIz := ES6.out.box.lt
    have o6 := ES6.out.hb.cell (j := 6) rfl
    have hHz := ES6.out.hb.1
    go_wp2_with (go_at_call 55; fail)
    (with_reducible refine (KU.out _ ES6.out.below).mono ?_)
    rintro e w6 ⟨rfl, hb⟩
    have ES7 := Lib.hid (ES6.out.on hb)
    clear hb
    clear k0 k1 k2 k3 hIz o6 hHz
    clear o2 b1 b2 hXz
    have o2 := ES7.out.hb.cell (j := 2) rfl
    have o3 := ES7.out.hb.cell (j := 3) rfl
    have o4 := ES7.out.hb.cell (j := 4) rfl
    have o7 := ES7.out.hb.cell (j := 7) rfl
    have hHz := ES7.out.hb.1
    have a2 := ES7.out.kb.cell (j := 2) rfl
    have hKz := ES7.out.kb.1
    have hw0 : IntKind.i64.wrap (s1 + s2) = s1 + s2 := IntWalk.i64_in _ (by omega)
    have hw3 : IntKind.i64.wrap (en - late) = en - late := IntWalk.i64_in _ (by omega)
    have hw4 : IntKind.i64.wrap (en - late - s3) = en - late - s3 := IntWalk.i64_in _ (by omega)
    have v0 : decide (low < s2) = false := by simp; omega
    have v1 : decide ((if s1 + s2 < 0 then s1 + s2 else 0) < low) = false := by simp; split <;> omega
    have v2 : decide (high < (if 0 < s1 + s2 then s1 + s2 else 0)) = false := by simp; split <;> omega
    have v7 : decide (s1 < high) = false := by simp; omega
    have v5 : decide (0 ≤ cost) = true := by simp; omega
    have v6 : decide (cost ≤ en - late - s3) = true := by simp; omega
    go_wp2
    all_goals
      go_ret
      exact ⟨rfl, ES7.out.below⟩
end Go.Proofs.Ytkheepedjoimmaa
