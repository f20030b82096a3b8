/- draymanref01.Before: what it answers. -/
import Derived.Test.YtgkieelacjcopaaZ20
namespace Go.Proofs.Ytgkieelacjcopaa
open Go.RowKit
set_option linter.unusedSimpArgs false


set_option maxRecDepth 100000 in
set_option maxHeartbeats 8000000 in
theorem refBef_in (i : Prob) (cn q la : Nat) (late low high cost : Int) (need set : Nat) (w : World) (A1 A2 A3 A4 : Option Addr) (c1 c2 c3 c4 : Nat) (hs : Said w A1 A2 A3 A4 c1 c2 c3 c4 i) (hok : probOk i = true) (hp : i.pairs.length ≤ 1000000) (hcn : cn < i.cars.length) (hq : q < i.stops.length) (hla : la ≤ i.stops.length)
    (hlt : -1000000 ≤ late ∧ late ≤ 1000000) (hlo : -1000000 ≤ low ∧ low ≤ 0) (hhi : 0 ≤ high ∧ high ≤ 1000000) (hne : need < 2048) (hse : set < 2048) (hco : 0 ≤ cost ∧ cost ≤ 1000000) (hhas : hasD set ((q : Int) + 1) = false) :
    Calls Try.prog 39 #[.agg #[.slice A1 i.cars.length c1, .slice A2 i.stops.length c2, .slice A3 i.pairs.length c3, .slice A4 i.travel.length c4], .int .i64 cn, .int .i64 ((q : Int) + 1), .agg #[.bool true, .int .i64 la, .int .i64 late, .int .i64 low, .int .i64 high, .int .u32 (need : Nat), .int .u32 (set : Nat), .int .i64 cost]] w fun e w' => e = .returned (tailV (beforeP i ((q : Int) + 1) ⟨la, late, low, high, need, set, cost⟩)) ∧ Below w.heap.size w w' := by
  have hf := fine_of hok
  have hcl := hf.cars
  have hst := hf.stops
  have HF := Lib.hid hf
  have ES0 : Hid (ExS w (((w.alloc (.cells #[.slice A1 i.cars.length c1, .slice A2 i.stops.length c2, .slice A3 i.pairs.length c3, .slice A4 i.travel.length c4] 27)).alloc (.cells #[.bool true, .int .i64 la, .int .i64 late, .int .i64 low, .int .i64 high, .int .u32 (need : Nat), .int .u32 (set : Nat), .int .i64 cost] 65)).alloc (.cells #[.bool false, .int .i64 0, .int .i64 0, .int .i64 0, .int .i64 0, .int .u32 0, .int .u32 0, .int .i64 0] 65)) w.heap.size (w.heap.size + 1) (w.heap.size + 1 + 1) A1 A2 A3 A4 c1 c2 c3 c4 i #[.bool true, .int .i64 la, .int .i64 late, .int .i64 low, .int .i64 high, .int .u32 (need : Nat), .int .u32 (set : Nat), .int .i64 cost].toList #[.bool false, .int .i64 0, .int .i64 0, .int .i64 0, .int .i64 0, .int .u32 0, .int .u32 0, .int .i64 0].toList) :=
    ⟨(((Below.refl _ _).alloc (Nat.le_refl _) _).alloc (by simp) _).alloc (by simp; omega) _, ((box_new hs 27).below ((Below.refl _ _).alloc (Nat.le_refl _) _)).below ((Below.refl _ _).alloc (Nat.le_refl _) _), (blk_at _ _ (by simp)).alloc _, blk_at _ _ (by simp)⟩
  have hin : inB ((q : Int) + 1) 1 i.stops.length = true := by rw [inB_iff]; omega
  have KC : Hid (∀ W, Below w.heap.size w W → Calls Try.prog 36 #[.agg #[.slice A1 i.cars.length c1, .slice A2 i.stops.length c2, .slice A3 i.pairs.length c3, .slice A4 i.travel.length c4], .int .i64 cn] W fun e w' => e = .returned (.bool true) ∧ Below W.heap.size W w') := fun W hB => refCar_any _ i cn true W (Lies.below hs hB) (by omega) (by rw [inB_iff]; omega)
  have KW : Hid (∀ W, Calls Try.prog 37 #[.int .i64 ((q : Int) + 1), .int .i64 1, .int .i64 i.stops.length] W fun e w' => e = .returned (.bool true) ∧ W = w') := fun W => (refWithin_any _ 1 i.stops.length true hin W).mono fun e w' ⟨a, b⟩ => ⟨a, b.symm⟩
  have KD : Hid (∀ W, Calls Try.prog 50 #[.int .i64 ((q : Int) + 1)] W fun e w' => e = .returned (.int .u32 (digit ((q : Int) + 1) : Nat)) ∧ W = w') := fun W => refDigit_any _ W (by omega) (by omega)
  have KM : Hid (∀ W, Below w.heap.size w W → Calls Try.prog 34 #[.agg #[.slice A1 i.cars.length c1, .slice A2 i.stops.length c2, .slice A3 i.pairs.length c3, .slice A4 i.travel.length c4], .int .i64 ((q : Int) + 1)] W fun e w' => e = .returned (.int .i64 (mateL ((q : Int) + 1) i.pairs)) ∧ Below W.heap.size W w') := fun W hB => refmate_any _ i _ W (Lies.below hs hB) (by omega)
  have KF : Hid (∀ W, Below w.heap.size w W → Calls Try.prog 35 #[.agg #[.slice A1 i.cars.length c1, .slice A2 i.stops.length c2, .slice A3 i.pairs.length c3, .slice A4 i.travel.length c4], .int .i64 ((q : Int) + 1)] W fun e w' => e = .returned (.bool (firstL ((q : Int) + 1) i.pairs)) ∧ Below W.heap.size W w') := fun W hB => reffirst_any _ i _ W (Lies.below hs hB) (by omega)
  have hdg : digit ((q : Int) + 1) < 2048 := digit_lt (by omega)
  have hbit : Go.bits .and .u32 (set : Int) (digit ((q : Int) + 1) : Int) = 0 := by rw [u32_and (by omega) (by omega)]; exact and_none hhas
  have hbor : Go.bits .or .u32 (set : Int) (digit ((q : Int) + 1) : Int) = ((set ||| digit ((q : Int) + 1) : Nat) : Int) := u32_or (by omega) (by omega)
  have HX : Hid (beforeP i ((q : Int) + 1) ⟨la, late, low, high, need, set, cost⟩ = if min (stopAt i ((q : Int) + 1)).c (late - way i ((q : Int) + 1) la - (stopAt i ((q : Int) + 1)).s) < (stopAt i ((q : Int) + 1)).o then none
      else (needP i need ((q : Int) + 1)).map fun n => ⟨(q : Int) + 1, min (stopAt i ((q : Int) + 1)).c (late - way i ((q : Int) + 1) la - (stopAt i ((q : Int) + 1)).s), min 0 ((stopAt i ((q : Int) + 1)).d + low), max 0 ((stopAt i ((q : Int) + 1)).d + high), n, set ||| digit ((q : Int) + 1), cost + way i ((q : Int) + 1) la⟩) := by
    show _ = _
    unfold beforeP BefOk lateP
    simp only [hin, hhas, true_and]
    split
    · next a => rw [if_neg (by omega)]
    · next a => rw [if_pos (by omega)]
  have hwb := way_bounds hf ((q : Int) + 1) la
  have hsb := stopAt_bounds hf ((q : Int) + 1)
  clear hs hf hin hok
  go_enter Try.func39, Try.ntmps39
  go_upto_region 1 with (fail)
  generalize ((w.alloc (.cells #[.slice A1 i.cars.length c1, .slice A2 i.stops.length c2, .slice A3 i.pairs.length c3, .slice A4 i.travel.length c4] 27)).alloc (.cells #[.bool true, .int .i64 la, .int .i64 late, .int .i64 low, .int .i64 high, .int .u32 (need : Nat), .int .u32 (set : Nat), .int .i64 cost] 65)).alloc (.cells #[.bool false, .int .i64 0, .int .i64 0, .int .i64 0, .int .i64 0, .int .u32 0, .int .u32 0, .int .i64 0] 65) = wa at *
  have hRw : w.heap.size ≤ w.heap.size + 1 + 1 := by omega
  generalize w.heap.size + 1 + 1 = R at *
  generalize w.heap.size + 1 = H at *
  have k0 := ES0.out.box.b0
  have k1 := ES0.out.box.b1
  have k2 := ES0.out.box.b2
  have k3 := ES0.out.box.b3
  have o0 := ES0.out.hb.cell (j := 0) rfl
  have o6 := ES0.out.hb.cell (j := 6) rfl
  refine wp_region_z (S := (fun W => W.cell? ⟨w.heap.size, 0, none⟩ = some (.slice A1 i.cars.length c1) ∧ W.cell? ⟨w.heap.size, 1, none⟩ = some (.slice A2 i.stops.length c2) ∧ W.cell? ⟨w.heap.size, 2, none⟩ = some (.slice A3 i.pairs.length c3) ∧ W.cell? ⟨w.heap.size, 3, none⟩ = some (.slice A4 i.travel.length c4) ∧ W.cell? ⟨H, 0, none⟩ = some (.bool true) ∧ W.cell? ⟨H, 6, none⟩ = some (.int .u32 (set : Nat)))) (z := 25) (by kernel_rfl) ⟨k0, k1, k2, k3, o0, o6⟩ (fun hH => ?_)
  refine wpAnyZ_takeS (i := 0) (v := ?_) rfl (by kernel_rfl) (by kernel_rfl) (by kernel_rfl) (by kernel_rfl) (fun _ _ _ h => h) (gives_value (by rfl) ?_) (by assumption) ?_
  rotate_left
  · intro w hSw
    (try dsimp only at hSw)
    go_simp
    (try with_reducible rfl)
  (try simp only [Act.put, List.getElem_toArray, List.getElem_cons_succ, List.getElem_cons_zero, List.setIfInBounds_toArray, List.set_cons_zero, List.set_cons_succ])
  refine wpAnyZ_takeS (i := 1) (v := ?_) rfl (by kernel_rfl) (by kernel_rfl) (by kernel_rfl) (by kernel_rfl) (fun _ _ _ h => h) (gives_value (by rfl) ?_) (by assumption) ?_
  rotate_left
  · intro w hSw
    (try dsimp only at hSw)
    go_simp
    (try with_reducible rfl)
  (try simp only [Act.put, List.getElem_toArray, List.getElem_cons_succ, List.getElem_cons_zero, List.setIfInBounds_toArray, List.set_cons_zero, List.set_cons_succ])
  refine wpAnyZ_one (i := 2) (by kernel_rfl) ?_
  refine zstep rfl (fun K hK => ?_)
  go_simp
  (with_reducible refine (KC.out _ ES0.out.below.drew).mono ?_)
  rintro e w1 ⟨rfl, hb1⟩
  have ES1 := Lib.hid (ES0.out.on (((Below.refl wa.heap.size wa).drew).trans hb1))
  clear hb1
  refine hK.out _ _ (fun _ => ⟨ES1.out.box.b0, ES1.out.box.b1, ES1.out.box.b2, ES1.out.box.b3, ES1.out.hb.cell (j := 0) rfl, ES1.out.hb.cell (j := 6) rfl⟩) (fun hH => ?_)
  replace hH := hH (by decide)
  clear hK K
  (try simp only [Act.put, List.getElem_toArray, List.getElem_cons_succ, List.getElem_cons_zero, List.setIfInBounds_toArray, List.set_cons_zero, List.set_cons_succ])
  refine wpAnyZ_takeS (i := 3) (v := ?_) rfl (by kernel_rfl) (by kernel_rfl) (by kernel_rfl) (by kernel_rfl) (fun _ _ _ h => h) (gives_value (by rfl) ?_) (by assumption) ?_
  rotate_left
  · intro w hSw
    (try dsimp only at hSw)
    go_simp
    (try with_reducible rfl)
  (try simp only [Act.put, List.getElem_toArray, List.getElem_cons_succ, List.getElem_cons_zero, List.setIfInBounds_toArray, List.set_cons_zero, List.set_cons_succ])
  refine wpAnyZ_takeS (i := 4) (v := ?_) rfl (by kernel_rfl) (by kernel_rfl) (by kernel_rfl) (by kernel_rfl) (fun _ _ _ h => h) (gives_value (by rfl) ?_) (by assumption) ?_
  rotate_left
  · intro w hSw
    (try dsimp only at hSw)
    go_simp
    (try with_reducible rfl)
  (try simp only [Act.put, List.getElem_toArray, List.getElem_cons_succ, List.getElem_cons_zero, List.setIfInBounds_toArray, List.set_cons_zero, List.set_cons_succ])
  refine wpAnyZ_takeS (i := 5) (v := ?_) rfl (by kernel_rfl) (by kernel_rfl) (by kernel_rfl) (by kernel_rfl) (fun _ _ _ h => h) (gives_value (by rfl) ?_) (by assumption) ?_
  rotate_left
  · intro w hSw
    (try dsimp only at hSw)
    go_simp
    (try with_reducible rfl)
  (try simp only [Act.put, List.getElem_toArray, List.getElem_cons_succ, List.getElem_cons_zero, List.setIfInBounds_toArray, List.set_cons_zero, List.set_cons_succ])
  refine wpAnyZ_takeS (i := 6) (v := ?_) rfl (by kernel_rfl) (by kernel_rfl) (by kernel_rfl) (by kernel_rfl) (fun _ _ _ h => h) (gives_value (by rfl) ?_) (by assumption) ?_
  rotate_left
  · intro w hSw
    (try dsimp only at hSw)
    go_simp
    (try with_reducible rfl)
  (try simp only [Act.put, List.getElem_toArray, List.getElem_cons_succ, List.getElem_cons_zero, List.setIfInBounds_toArray, List.set_cons_zero, List.set_cons_succ])
  refine wpAnyZ_takeS (i := 7) (v := ?_) rfl (by kernel_rfl) (by kernel_rfl) (by kernel_rfl) (by kernel_rfl) (fun _ _ _ h => h) (gives_value (by rfl) ?_) (by assumption) ?_
  rotate_left
  · intro w hSw
    (try dsimp only at hSw)
    go_simp
    (try with_reducible rfl)
  (try simp only [Act.put, List.getElem_toArray, List.getElem_cons_succ, List.getElem_cons_zero, List.setIfInBounds_toArray, List.set_cons_zero, List.set_cons_succ])
  refine wpAnyZ_takeS (i := 8) (v := ?_) rfl (by kernel_rfl) (by kernel_rfl) (by kernel_rfl) (by kernel_rfl) (fun _ _ _ h => h) (gives_value (by rfl) ?_) (by assumption) ?_
  rotate_left
  · intro w hSw
    (try dsimp only at hSw)
    go_simp
    (try with_reducible rfl)
  (try simp only [Act.put, List.getElem_toArray, List.getElem_cons_succ, List.getElem_cons_zero, List.setIfInBounds_toArray, List.set_cons_zero, List.set_cons_succ])
  refine wpAnyZ_takeS (i := 9) (v := ?_) rfl (by kernel_rfl) (by kernel_rfl) (by kernel_rfl) (by kernel_rfl) (fun _ _ _ h => h) (gives_value (by rfl) ?_) (by assumption) ?_
  rotate_left
  · intro w hSw
    (try dsimp only at hSw)
    go_simp
    (try with_reducible rfl)
  (try simp only [Act.put, List.getElem_toArray, List.getElem_cons_succ, List.getElem_cons_zero, List.setIfInBounds_toArray, List.set_cons_zero, List.set_cons_succ])
  refine wpAnyZ_takeS (i := 10) (v := ?_) rfl (by kernel_rfl) (by kernel_rfl) (by kernel_rfl) (by kernel_rfl) (fun _ _ _ h => h) (gives_value (by rfl) ?_) (by assumption) ?_
  rotate_left
  · intro w hSw
    (try dsimp only at hSw)
    go_simp
    (try with_reducible rfl)
  (try simp only [Act.put, List.getElem_toArray, List.getElem_cons_succ, List.getElem_cons_zero, List.setIfInBounds_toArray, List.set_cons_zero, List.set_cons_succ])
  refine wpAnyZ_takeS (i := 11) (v := ?_) rfl (by kernel_rfl) (by kernel_rfl) (by kernel_rfl) (by kernel_rfl) (fun _ _ _ h => h) (gives_value (by rfl) ?_) (by assumption) ?_
  rotate_left
  · intro w hSw
    (try dsimp only at hSw)
    go_simp
    (try with_reducible rfl)
  (try simp only [Act.put, List.getElem_toArray, List.getElem_cons_succ, List.getElem_cons_zero, List.setIfInBounds_toArray, List.set_cons_zero, List.set_cons_succ])
  refine wpAnyZ_takeS (i := 12) (v := ?_) rfl (by kernel_rfl) (by kernel_rfl) (by kernel_rfl) (by kernel_rfl) (fun _ _ _ h => h) (gives_value (by rfl) ?_) (by assumption) ?_
  rotate_left
  · intro w hSw
    (try dsimp only at hSw)
    go_simp
    (try with_reducible rfl)
  (try simp only [Act.put, List.getElem_toArray, List.getElem_cons_succ, List.getElem_cons_zero, List.setIfInBounds_toArray, List.set_cons_zero, List.set_cons_succ])
  refine wpAnyZ_takeS (i := 13) (v := ?_) rfl (by kernel_rfl) (by kernel_rfl) (by kernel_rfl) (by kernel_rfl) (fun _ _ _ h => h) (gives_value (by rfl) ?_) (by assumption) ?_
  rotate_left
  · intro w hSw
    (try dsimp only at hSw)
    go_simp
    (try with_reducible rfl)
  (try simp only [Act.put, List.getElem_toArray, List.getElem_cons_succ, List.getElem_cons_zero, List.setIfInBounds_toArray, List.set_cons_zero, List.set_cons_succ])
  refine wpAnyZ_takeS (i := 14) (v := .bool true) rfl (by kernel_rfl) (by kernel_rfl) (by kernel_rfl) (by kernel_rfl) (fun _ _ _ h => h) (gives_call (by rfl) ?_ (fun w _ => KW.out w)) (by assumption) ?_
  · intro w
    go_simp
    (try with_reducible rfl)
  (try simp only [Act.put, List.getElem_toArray, List.getElem_cons_succ, List.getElem_cons_zero, List.setIfInBounds_toArray, List.set_cons_zero, List.set_cons_succ])
  refine wpAnyZ_takeS (i := 15) (v := ?_) rfl (by kernel_rfl) (by kernel_rfl) (by kernel_rfl) (by kernel_rfl) (fun _ _ _ h => h) (gives_value (by rfl) ?_) (by assumption) ?_
  rotate_left
  · intro w hSw
    (try dsimp only at hSw)
    go_simp
    (try with_reducible rfl)
  (try simp only [Act.put, List.getElem_toArray, List.getElem_cons_succ, List.getElem_cons_zero, List.setIfInBounds_toArray, List.set_cons_zero, List.set_cons_succ])
  refine wpAnyZ_takeS (i := 16) (v := ?_) rfl (by kernel_rfl) (by kernel_rfl) (by kernel_rfl) (by kernel_rfl) (fun _ _ _ h => h) (gives_value (by rfl) ?_) (by assumption) ?_
  rotate_left
  · intro w hSw
    (try dsimp only at hSw)
    go_simp
    (try with_reducible rfl)
  (try simp only [Act.put, List.getElem_toArray, List.getElem_cons_succ, List.getElem_cons_zero, List.setIfInBounds_toArray, List.set_cons_zero, List.set_cons_succ])
  refine wpAnyZ_takeS (i := 17) (v := ?_) rfl (by kernel_rfl) (by kernel_rfl) (by kernel_rfl) (by kernel_rfl) (fun _ _ _ h => h) (gives_value (by rfl) ?_) (by assumption) ?_
  rotate_left
  · intro w hSw
    (try dsimp only at hSw)
    go_simp
    (try with_reducible rfl)
  (try simp only [Act.put, List.getElem_toArray, List.getElem_cons_succ, List.getElem_cons_zero, List.setIfInBounds_toArray, List.set_cons_zero, List.set_cons_succ])
  refine wpAnyZ_takeS (i := 18) (v := ?_) rfl (by kernel_rfl) (by kernel_rfl) (by kernel_rfl) (by kernel_rfl) (fun _ _ _ h => h) (gives_value (by rfl) ?_) (by assumption) ?_
  rotate_left
  · intro w hSw
    (try dsimp only at hSw)
    go_simp
    (try with_reducible rfl)
  (try simp only [Act.put, List.getElem_toArray, List.getElem_cons_succ, List.getElem_cons_zero, List.setIfInBounds_toArray, List.set_cons_zero, List.set_cons_succ])
  refine wpAnyZ_takeS (i := 19) (v := ?_) rfl (by kernel_rfl) (by kernel_rfl) (by kernel_rfl) (by kernel_rfl) (fun _ _ _ h => h) (gives_value (by rfl) ?_) (by assumption) ?_
  rotate_left
  · intro w hSw
    (try dsimp only at hSw)
    go_simp
    (try with_reducible rfl)
  (try simp only [Act.put, List.getElem_toArray, List.getElem_cons_succ, List.getElem_cons_zero, List.setIfInBounds_toArray, List.set_cons_zero, List.set_cons_succ])
  refine wpAnyZ_takeS (i := 20) (v := ?_) rfl (by kernel_rfl) (by kernel_rfl) (by kernel_rfl) (by kernel_rfl) (fun _ _ _ h => h) (gives_value (by rfl) ?_) (by assumption) ?_
  rotate_left
  · intro w hSw
    (try dsimp only at hSw)
    go_simp
    (try with_reducible rfl)
  (try simp only [Act.put, List.getElem_toArray, List.getElem_cons_succ, List.getElem_cons_zero, List.setIfInBounds_toArray, List.set_cons_zero, List.set_cons_succ])
  refine wpAnyZ_takeS (i := 21) (v := .int .u32 (digit ((q : Int) + 1) : Nat)) rfl (by kernel_rfl) (by kernel_rfl) (by kernel_rfl) (by kernel_rfl) (fun _ _ _ h => h) (gives_call (by rfl) ?_ (fun w _ => KD.out w)) (by assumption) ?_
  · intro w
    go_simp
    (try with_reducible rfl)
  (try simp only [Act.put, List.getElem_toArray, List.getElem_cons_succ, List.getElem_cons_zero, List.setIfInBounds_toArray, List.set_cons_zero, List.set_cons_succ])
  refine wpAnyZ_takeS (i := 22) (v := ?_) rfl (by kernel_rfl) (by kernel_rfl) (by kernel_rfl) (by kernel_rfl) (fun _ _ _ h => h) (gives_value (by rfl) ?_) (by assumption) ?_
  rotate_left
  · intro w hSw
    (try dsimp only at hSw)
    go_simp
    (try with_reducible rfl)
  (try simp only [Act.put, List.getElem_toArray, List.getElem_cons_succ, List.getElem_cons_zero, List.setIfInBounds_toArray, List.set_cons_zero, List.set_cons_succ])
  refine wpAnyZ_takeS (i := 23) (v := ?_) rfl (by kernel_rfl) (by kernel_rfl) (by kernel_rfl) (by kernel_rfl) (fun _ _ _ h => h) (gives_value (by rfl) ?_) (by assumption) ?_
  rotate_left
  · intro w hSw
    (try dsimp only at hSw)
    go_simp
    (try with_reducible rfl)
  (try simp only [Act.put, List.getElem_toArray, List.getElem_cons_succ, List.getElem_cons_zero, List.setIfInBounds_toArray, List.set_cons_zero, List.set_cons_succ])
  refine wpAnyZ_takeS (i := 24) (v := ?_) rfl (by kernel_rfl) (by kernel_rfl) (by kernel_rfl) (by kernel_rfl) (fun _ _ _ h => h) (gives_value (by rfl) ?_) (by assumption) ?_
  rotate_left
  · intro w hSw
    (try dsimp only at hSw)
    go_simp
    (try with_reducible rfl)
  (try simp only [Act.put, List.getElem_toArray, List.getElem_cons_succ, List.getElem_cons_zero, List.setIfInBounds_toArray, List.set_cons_zero, List.set_cons_succ])
  refine wpAnyZ_done (by kernel_rfl) ?_ _
  clear k0 k1 k2 k3 o0 o6 ES0 KC KW hH
  obtain ⟨B4, o4, rfl, hB4, s0, s1, s2, s3⟩ := said_stop ES1.out.box.lies hq
  obtain ⟨B1, o1, cap2, B2, o2, rfl, hB1, d1, hB2, d2⟩ := said_way ES1.out.box.lies HF.out (a := q + 1) (b := la) (by omega) hla
  rw [show ((q + 1 : Nat) : Int) = (q : Int) + 1 by omega] at d2
  generalize stopAt i ((q : Int) + 1) = st at *
  obtain ⟨sd, so, sc, ss⟩ := st
  simp only at s0 s1 s2 s3 hsb HX
  generalize way i ((q : Int) + 1) la = y at *
  have k1 := ES1.out.box.b1
  have hIz := ES1.out.box.lt
  go_upto_region 4 with (fail)
  have BX := Lib.hid (blk_new w1 #[.int .i64 sd, .int .i64 so, .int .i64 sc, .int .i64 ss] 55)
  have HBx := Lib.hid ((Below.refl w1.heap.size w1).alloc (Nat.le_refl _) (.cells #[.int .i64 sd, .int .i64 so, .int .i64 sc, .int .i64 ss] 55))
  have ES2 := Lib.hid (ES1.out.on HBx.out)
  replace d1 := cell_up HBx.out hB1 d1
  replace d2 := cell_up HBx.out hB2 d2
  have zz := HBx.out.size
  replace hB1 := Nat.lt_of_lt_of_le hB1 zz
  replace hB2 := Nat.lt_of_lt_of_le hB2 zz
  clear s0 s1 s2 s3 k1 hIz ES1 HBx hB4 zz
  generalize w1.alloc (.cells #[.int .i64 sd, .int .i64 so, .int .i64 sc, .int .i64 ss] 55) = wx at *
  generalize w1.heap.size = X at *
  have n0 : (0 : Int) ≤ (la : Int) := by omega
  have n1 : (la : Int) < (i.stops.length : Int) + 1 := by omega
  have n1' : (la : Int) < ((i.stops.length + 1 : Nat) : Int) := by omega
  have n2 : (la : Int).toNat = la := by omega
  have n3 : (0 : Int) ≤ (q : Int) + 1 := by omega
  have n4 : (q : Int) + 1 < (i.travel.length : Int) := by have := HF.out.travel; omega
  have n5 : ((q : Int) + 1).toNat = q + 1 := by omega
  have hw1 : IntKind.i64.wrap (late - y) = late - y := IntWalk.i64_in _ (by omega)
  have hw2 : IntKind.i64.wrap (late - y - ss) = late - y - ss := IntWalk.i64_in _ (by omega)
  have hw3 : IntKind.i64.wrap (sd + low) = sd + low := IntWalk.i64_in _ (by omega)
  have hw4 : IntKind.i64.wrap (sd + high) = sd + high := IntWalk.i64_in _ (by omega)
  have hw5 : IntKind.i64.wrap (cost + y) = cost + y := IntWalk.i64_in _ (by omega)
  have SS : Hid (∀ W, Below wx.heap.size wx W → W.cell? ⟨X, 0, none⟩ = some (.int .i64 sd) ∧ W.cell? ⟨X, 2, none⟩ = some (.int .i64 sc) ∧ W.cell? ⟨X, 3, none⟩ = some (.int .i64 ss) ∧ W.cell? ⟨H, 1, none⟩ = some (.int .i64 la) ∧ W.cell? ⟨H, 2, none⟩ = some (.int .i64 late) ∧ W.cell? ⟨H, 3, none⟩ = some (.int .i64 low) ∧ W.cell? ⟨H, 4, none⟩ = some (.int .i64 high) ∧ W.cell? ⟨H, 5, none⟩ = some (.int .u32 (need : Nat)) ∧ W.cell? ⟨H, 6, none⟩ = some (.int .u32 (set : Nat)) ∧ W.cell? ⟨H, 7, none⟩ = some (.int .i64 cost) ∧ W.cell? ⟨w.heap.size, 3, none⟩ = some (.slice (some ⟨B1, o1, none⟩) i.travel.length c4) ∧
    W.cell? ⟨B1, o1 + (q + 1), none⟩ = some (.slice (some ⟨B2, o2, none⟩) (i.stops.length + 1) cap2) ∧ W.cell? ⟨B2, o2 + la, none⟩ = some (.int .i64 y)) := fun W hB =>
    ⟨(BX.out.below hB).cell (j := 0) rfl, (BX.out.below hB).cell (j := 2) rfl, (BX.out.below hB).cell (j := 3) rfl, (ES2.out.hb.below hB).cell (j := 1) rfl, (ES2.out.hb.below hB).cell (j := 2) rfl, (ES2.out.hb.below hB).cell (j := 3) rfl, (ES2.out.hb.below hB).cell (j := 4) rfl, (ES2.out.hb.below hB).cell (j := 5) rfl, (ES2.out.hb.below hB).cell (j := 6) rfl, (ES2.out.hb.below hB).cell (j := 7) rfl, (ES2.out.box.below hB).b3, cell_up hB hB1 d1, cell_up hB hB2 d2⟩
  refine wp_region_z (S := (fun W => W.cell? ⟨X, 0, none⟩ = some (.int .i64 sd) ∧ W.cell? ⟨X, 2, none⟩ = some (.int .i64 sc) ∧ W.cell? ⟨X, 3, none⟩ = some (.int .i64 ss) ∧ W.cell? ⟨H, 1, none⟩ = some (.int .i64 la) ∧ W.cell? ⟨H, 2, none⟩ = some (.int .i64 late) ∧ W.cell? ⟨H, 3, none⟩ = some (.int .i64 low) ∧ W.cell? ⟨H, 4, none⟩ = some (.int .i64 high) ∧ W.cell? ⟨H, 5, none⟩ = some (.int .u32 (need : Nat)) ∧ W.cell? ⟨H, 6, none⟩ = some (.int .u32 (set : Nat)) ∧ W.cell? ⟨H, 7, none⟩ = some (.int .i64 cost) ∧ W.cell? ⟨w.heap.size, 3, none⟩ = some (.slice (some ⟨B1, o1, none⟩) i.travel.length c4) ∧
      W.cell? ⟨B1, o1 + (q + 1), none⟩ = some (.slice (some ⟨B2, o2, none⟩) (i.stops.length + 1) cap2) ∧ W.cell? ⟨B2, o2 + la, none⟩ = some (.int .i64 y))) (z := 53) (by kernel_rfl) (SS.out _ (Below.refl _ _).drew) (fun hH => ?_)
  refine wpAnyZ_takeS (i := 0) (v := ?_) rfl (by kernel_rfl) (by kernel_rfl) (by kernel_rfl) (by kernel_rfl) (fun _ _ _ h => h) (gives_value (by rfl) ?_) (by assumption) ?_
  rotate_left
  · intro w hSw
    (try dsimp only at hSw)
    go_simp
    (try with_reducible rfl)
  (try simp only [Act.put, List.getElem_toArray, List.getElem_cons_succ, List.getElem_cons_zero, List.setIfInBounds_toArray, List.set_cons_zero, List.set_cons_succ])
  refine wpAnyZ_takeS (i := 1) (v := ?_) rfl (by kernel_rfl) (by kernel_rfl) (by kernel_rfl) (by kernel_rfl) (fun _ _ _ h => h) (gives_value (by rfl) ?_) (by assumption) ?_
  rotate_left
  · intro w hSw
    (try dsimp only at hSw)
    go_simp
    (try with_reducible rfl)
  (try simp only [Act.put, List.getElem_toArray, List.getElem_cons_succ, List.getElem_cons_zero, List.setIfInBounds_toArray, List.set_cons_zero, List.set_cons_succ])
  refine wpAnyZ_takeS (i := 2) (v := ?_) rfl (by kernel_rfl) (by kernel_rfl) (by kernel_rfl) (by kernel_rfl) (fun _ _ _ h => h) (gives_value (by rfl) ?_) (by assumption) ?_
  rotate_left
  · intro w hSw
    (try dsimp only at hSw)
    go_simp
    (try with_reducible rfl)
  (try simp only [Act.put, List.getElem_toArray, List.getElem_cons_succ, List.getElem_cons_zero, List.setIfInBounds_toArray, List.set_cons_zero, List.set_cons_succ])
  refine wpAnyZ_takeS (i := 3) (v := ?_) rfl (by kernel_rfl) (by kernel_rfl) (by kernel_rfl) (by kernel_rfl) (fun _ _ _ h => h) (gives_value (by rfl) ?_) (by assumption) ?_
  rotate_left
  · intro w hSw
    (try dsimp only at hSw)
    go_simp
    (try with_reducible rfl)
  (try simp only [Act.put, List.getElem_toArray, List.getElem_cons_succ, List.getElem_cons_zero, List.setIfInBounds_toArray, List.set_cons_zero, List.set_cons_succ])
  refine wpAnyZ_takeS (i := 4) (v := ?_) rfl (by kernel_rfl) (by kernel_rfl) (by kernel_rfl) (by kernel_rfl) (fun _ _ _ h => h) (gives_value (by rfl) ?_) (by assumption) ?_
  rotate_left
  · intro w hSw
    (try dsimp only at hSw)
    go_simp
    (try with_reducible rfl)
  (try simp only [Act.put, List.getElem_toArray, List.getElem_cons_succ, List.getElem_cons_zero, List.setIfInBounds_toArray, List.set_cons_zero, List.set_cons_succ])
  refine wpAnyZ_takeS (i := 5) (v := ?_) rfl (by kernel_rfl) (by kernel_rfl) (by kernel_rfl) (by kernel_rfl) (fun _ _ _ h => h) (gives_value (by rfl) ?_) (by assumption) ?_
  rotate_left
  · intro w hSw
    (try dsimp only at hSw)
    go_simp
    (try with_reducible rfl)
  (try simp only [Act.put, List.getElem_toArray, List.getElem_cons_succ, List.getElem_cons_zero, List.setIfInBounds_toArray, List.set_cons_zero, List.set_cons_succ])
  refine wpAnyZ_takeS (i := 6) (v := ?_) rfl (by kernel_rfl) (by kernel_rfl) (by kernel_rfl) (by kernel_rfl) (fun _ _ _ h => h) (gives_value (by rfl) ?_) (by assumption) ?_
  rotate_left
  · intro w hSw
    (try dsimp only at hSw)
    go_simp
    (try with_reducible rfl)
  (try simp only [Act.put, List.getElem_toArray, List.getElem_cons_succ, List.getElem_cons_zero, List.setIfInBounds_toArray, List.set_cons_zero, List.set_cons_succ])
  refine wpAnyZ_takeS (i := 7) (v := ?_) rfl (by kernel_rfl) (by kernel_rfl) (by kernel_rfl) (by kernel_rfl) (fun _ _ _ h => h) (gives_value (by rfl) ?_) (by assumption) ?_
  rotate_left
  · intro w hSw
    (try dsimp only at hSw)
    go_simp
    (try with_reducible rfl)
  (try simp only [Act.put, List.getElem_toArray, List.getElem_cons_succ, List.getElem_cons_zero, List.setIfInBounds_toArray, List.set_cons_zero, List.set_cons_succ])
  refine wpAnyZ_takeS (i := 8) (v := ?_) rfl (by kernel_rfl) (by kernel_rfl) (by kernel_rfl) (by kernel_rfl) (fun _ _ _ h => h) (gives_value (by rfl) ?_) (by assumption) ?_
  rotate_left
  · intro w hSw
    (try dsimp only at hSw)
    go_simp
    (try with_reducible rfl)
  (try simp only [Act.put, List.getElem_toArray, List.getElem_cons_succ, List.getElem_cons_zero, List.setIfInBounds_toArray, List.set_cons_zero, List.set_cons_succ])
  refine wpAnyZ_takeS (i := 9) (v := ?_) rfl (by kernel_rfl) (by kernel_rfl) (by kernel_rfl) (by kernel_rfl) (fun _ _ _ h => h) (gives_value (by rfl) ?_) (by assumption) ?_
  rotate_left
  · intro w hSw
    (try dsimp only at hSw)
    go_simp
    (try with_reducible rfl)
  (try simp only [Act.put, List.getElem_toArray, List.getElem_cons_succ, List.getElem_cons_zero, List.setIfInBounds_toArray, List.set_cons_zero, List.set_cons_succ])
  refine wpAnyZ_takeS (i := 10) (v := ?_) rfl (by kernel_rfl) (by kernel_rfl) (by kernel_rfl) (by kernel_rfl) (fun _ _ _ h => h) (gives_value (by rfl) ?_) (by assumption) ?_
  rotate_left
  · intro w hSw
    (try dsimp only at hSw)
    go_simp
    (try with_reducible rfl)
  (try simp only [Act.put, List.getElem_toArray, List.getElem_cons_succ, List.getElem_cons_zero, List.setIfInBounds_toArray, List.set_cons_zero, List.set_cons_succ])
  refine wpAnyZ_takeS (i := 11) (v := ?_) rfl (by kernel_rfl) (by kernel_rfl) (by kernel_rfl) (by kernel_rfl) (fun _ _ _ h => h) (gives_value (by rfl) ?_) (by assumption) ?_
  rotate_left
  · intro w hSw
    (try dsimp only at hSw)
    go_simp
    (try with_reducible rfl)
  (try simp only [Act.put, List.getElem_toArray, List.getElem_cons_succ, List.getElem_cons_zero, List.setIfInBounds_toArray, List.set_cons_zero, List.set_cons_succ])
  refine wpAnyZ_takeS (i := 12) (v := ?_) rfl (by kernel_rfl) (by kernel_rfl) (by kernel_rfl) (by kernel_rfl) (fun _ _ _ h => h) (gives_value (by rfl) ?_) (by assumption) ?_
  rotate_left
  · intro w hSw
    (try dsimp only at hSw)
    go_simp
    (try with_reducible rfl)
  (try simp only [Act.put, List.getElem_toArray, List.getElem_cons_succ, List.getElem_cons_zero, List.setIfInBounds_toArray, List.set_cons_zero, List.set_cons_succ])
  refine wpAnyZ_takeS (i := 13) (v := ?_) rfl (by kernel_rfl) (by kernel_rfl) (by kernel_rfl) (by kernel_rfl) (fun _ _ _ h => h) (gives_value (by rfl) ?_) (by assumption) ?_
  rotate_left
  · intro w hSw
    (try dsimp only at hSw)
    go_simp
    (try with_reducible rfl)
  (try simp only [Act.put, List.getElem_toArray, List.getElem_cons_succ, List.getElem_cons_zero, List.setIfInBounds_toArray, List.set_cons_zero, List.set_cons_succ])
  refine wpAnyZ_takeS (i := 14) (v := ?_) rfl (by kernel_rfl) (by kernel_rfl) (by kernel_rfl) (by kernel_rfl) (fun _ _ _ h => h) (gives_value (by rfl) ?_) (by assumption) ?_
  rotate_left
  · intro w hSw
    (try dsimp only at hSw)
    go_simp
    (try with_reducible rfl)
  (try simp only [Act.put, List.getElem_toArray, List.getElem_cons_succ, List.getElem_cons_zero, List.setIfInBounds_toArray, List.set_cons_zero, List.set_cons_succ])
  refine wpAnyZ_takeS (i := 15) (v := ?_) rfl (by kernel_rfl) (by kernel_rfl) (by kernel_rfl) (by kernel_rfl) (fun _ _ _ h => h) (gives_value (by rfl) ?_) (by assumption) ?_
  rotate_left
  · intro w hSw
    (try dsimp only at hSw)
    go_simp
    (try with_reducible rfl)
  (try simp only [Act.put, List.getElem_toArray, List.getElem_cons_succ, List.getElem_cons_zero, List.setIfInBounds_toArray, List.set_cons_zero, List.set_cons_succ])
  refine wpAnyZ_takeS (i := 16) (v := ?_) rfl (by kernel_rfl) (by kernel_rfl) (by kernel_rfl) (by kernel_rfl) (fun _ _ _ h => h) (gives_value (by rfl) ?_) (by assumption) ?_
  rotate_left
  · intro w hSw
    (try dsimp only at hSw)
    go_simp
    (try with_reducible rfl)
  (try simp only [Act.put, List.getElem_toArray, List.getElem_cons_succ, List.getElem_cons_zero, List.setIfInBounds_toArray, List.set_cons_zero, List.set_cons_succ])
  refine wpAnyZ_takeS (i := 17) (v := ?_) rfl (by kernel_rfl) (by kernel_rfl) (by kernel_rfl) (by kernel_rfl) (fun _ _ _ h => h) (gives_value (by rfl) ?_) (by assumption) ?_
  rotate_left
  · intro w hSw
    (try dsimp only at hSw)
    go_simp
    (try with_reducible rfl)
  (try simp only [Act.put, List.getElem_toArray, List.getElem_cons_succ, List.getElem_cons_zero, List.setIfInBounds_toArray, List.set_cons_zero, List.set_cons_succ])
  refine wpAnyZ_takeS (i := 18) (v := ?_) rfl (by kernel_rfl) (by kernel_rfl) (by kernel_rfl) (by kernel_rfl) (fun _ _ _ h => h) (gives_value (by rfl) ?_) (by assumption) ?_
  rotate_left
  · intro w hSw
    (try dsimp only at hSw)
    go_simp
    (try with_reducible rfl)
  (try simp only [Act.put, List.getElem_toArray, List.getElem_cons_succ, List.getElem_cons_zero, List.setIfInBounds_toArray, List.set_cons_zero, List.set_cons_succ])
  refine wpAnyZ_takeS (i := 19) (v := ?_) rfl (by kernel_rfl) (by kernel_rfl) (by kernel_rfl) (by kernel_rfl) (fun _ _ _ h => h) (gives_value (by rfl) ?_) (by assumption) ?_
  rotate_left
  · intro w hSw
    (try dsimp only at hSw)
    go_simp
    (try with_reducible rfl)
  (try simp only [Act.put, List.getElem_toArray, List.getElem_cons_succ, List.getElem_cons_zero, List.setIfInBounds_toArray, List.set_cons_zero, List.set_cons_succ])
  refine wpAnyZ_takeS (i := 20) (v := ?_) rfl (by kernel_rfl) (by kernel_rfl) (by kernel_rfl) (by kernel_rfl) (fun _ _ _ h => h) (gives_value (by rfl) ?_) (by assumption) ?_
  rotate_left
  · intro w hSw
    (try dsimp only at hSw)
    go_simp
    (try with_reducible rfl)
  (try simp only [Act.put, List.getElem_toArray, List.getElem_cons_succ, List.getElem_cons_zero, List.setIfInBounds_toArray, List.set_cons_zero, List.set_cons_succ])
  refine wpAnyZ_takeS (i := 21) (v := ?_) rfl (by kernel_rfl) (by kernel_rfl) (by kernel_rfl) (by kernel_rfl) (fun _ _ _ h => h) (gives_value (by rfl) ?_) (by assumption) ?_
  rotate_left
  · intro w hSw
    (try dsimp only at hSw)
    go_simp
    (try with_reducible rfl)
  (try simp only [Act.put, List.getElem_toArray, List.getElem_cons_succ, List.getElem_cons_zero, List.setIfInBounds_toArray, List.set_cons_zero, List.set_cons_succ])
  refine wpAnyZ_takeS (i := 22) (v := ?_) rfl (by kernel_rfl) (by kernel_rfl) (by kernel_rfl) (by kernel_rfl) (fun _ _ _ h => h) (gives_value (by rfl) ?_) (by assumption) ?_
  rotate_left
  · intro w hSw
    (try dsimp only at hSw)
    go_simp
    (try with_reducible rfl)
  (try simp only [Act.put, List.getElem_toArray, List.getElem_cons_succ, List.getElem_cons_zero, List.setIfInBounds_toArray, List.set_cons_zero, List.set_cons_succ])
  refine wpAnyZ_takeS (i := 23) (v := ?_) rfl (by kernel_rfl) (by kernel_rfl) (by kernel_rfl) (by kernel_rfl) (fun _ _ _ h => h) (gives_value (by rfl) ?_) (by assumption) ?_
  rotate_left
  · intro w hSw
    (try dsimp only at hSw)
    go_simp
    (try with_reducible rfl)
  (try simp only [Act.put, List.getElem_toArray, List.getElem_cons_succ, List.getElem_cons_zero, List.setIfInBounds_toArray, List.set_cons_zero, List.set_cons_succ])
  refine wpAnyZ_takeS (i := 24) (v := ?_) rfl (by kernel_rfl) (by kernel_rfl) (by kernel_rfl) (by kernel_rfl) (fun _ _ _ h => h) (gives_value (by rfl) ?_) (by assumption) ?_
  rotate_left
  · intro w hSw
    (try dsimp only at hSw)
    go_simp
    (try with_reducible rfl)
  (try simp only [Act.put, List.getElem_toArray, List.getElem_cons_succ, List.getElem_cons_zero, List.setIfInBounds_toArray, List.set_cons_zero, List.set_cons_succ])
  refine wpAnyZ_takeS (i := 25) (v := ?_) rfl (by kernel_rfl) (by kernel_rfl) (by kernel_rfl) (by kernel_rfl) (fun _ _ _ h => h) (gives_value (by rfl) ?_) (by assumption) ?_
  rotate_left
  · intro w hSw
    (try dsimp only at hSw)
    go_simp
    (try with_reducible rfl)
  (try simp only [Act.put, List.getElem_toArray, List.getElem_cons_succ, List.getElem_cons_zero, List.setIfInBounds_toArray, List.set_cons_zero, List.set_cons_succ])
  refine wpAnyZ_takeS (i := 26) (v := ?_) rfl (by kernel_rfl) (by kernel_rfl) (by kernel_rfl) (by kernel_rfl) (fun _ _ _ h => h) (gives_value (by rfl) ?_) (by assumption) ?_
  rotate_left
  · intro w hSw
    (try dsimp only at hSw)
    go_simp
    (try with_reducible rfl)
  (try simp only [Act.put, List.getElem_toArray, List.getElem_cons_succ, List.getElem_cons_zero, List.setIfInBounds_toArray, List.set_cons_zero, List.set_cons_succ])
  refine wpAnyZ_takeS (i := 27) (v := ?_) rfl (by kernel_rfl) (by kernel_rfl) (by kernel_rfl) (by kernel_rfl) (fun _ _ _ h => h) (gives_value (by rfl) ?_) (by assumption) ?_
  rotate_left
  · intro w hSw
    (try dsimp only at hSw)
    go_simp
    (try with_reducible rfl)
  (try simp only [Act.put, List.getElem_toArray, List.getElem_cons_succ, List.getElem_cons_zero, List.setIfInBounds_toArray, List.set_cons_zero, List.set_cons_succ])
  refine wpAnyZ_takeS (i := 28) (v := ?_) rfl (by kernel_rfl) (by kernel_rfl) (by kernel_rfl) (by kernel_rfl) (fun _ _ _ h => h) (gives_value (by rfl) ?_) (by assumption) ?_
  rotate_left
  · intro w hSw
    (try dsimp only at hSw)
    go_simp
    (try with_reducible rfl)
  (try simp only [Act.put, List.getElem_toArray, List.getElem_cons_succ, List.getElem_cons_zero, List.setIfInBounds_toArray, List.set_cons_zero, List.set_cons_succ])
  refine wpAnyZ_takeS (i := 29) (v := ?_) rfl (by kernel_rfl) (by kernel_rfl) (by kernel_rfl) (by kernel_rfl) (fun _ _ _ h => h) (gives_value (by rfl) ?_) (by assumption) ?_
  rotate_left
  · intro w hSw
    (try dsimp only at hSw)
    go_simp
    (try with_reducible rfl)
  (try simp only [Act.put, List.getElem_toArray, List.getElem_cons_succ, List.getElem_cons_zero, List.setIfInBounds_toArray, List.set_cons_zero, List.set_cons_succ])
  refine wpAnyZ_takeS (i := 30) (v := ?_) rfl (by kernel_rfl) (by kernel_rfl) (by kernel_rfl) (by kernel_rfl) (fun _ _ _ h => h) (gives_value (by rfl) ?_) (by assumption) ?_
  rotate_left
  · intro w hSw
    (try dsimp only at hSw)
    go_simp
    (try with_reducible rfl)
  (try simp only [Act.put, List.getElem_toArray, List.getElem_cons_succ, List.getElem_cons_zero, List.setIfInBounds_toArray, List.set_cons_zero, List.set_cons_succ])
  refine wpAnyZ_takeS (i := 31) (v := ?_) rfl (by kernel_rfl) (by kernel_rfl) (by kernel_rfl) (by kernel_rfl) (fun _ _ _ h => h) (gives_value (by rfl) ?_) (by assumption) ?_
  rotate_left
  · intro w hSw
    (try dsimp only at hSw)
    go_simp
    (try with_reducible rfl)
  (try simp only [Act.put, List.getElem_toArray, List.getElem_cons_succ, List.getElem_cons_zero, List.setIfInBounds_toArray, List.set_cons_zero, List.set_cons_succ])
  refine wpAnyZ_takeS (i := 32) (v := ?_) rfl (by kernel_rfl) (by kernel_rfl) (by kernel_rfl) (by kernel_rfl) (fun _ _ _ h => h) (gives_value (by rfl) ?_) (by assumption) ?_
  rotate_left
  · intro w hSw
    (try dsimp only at hSw)
    go_simp
    (try with_reducible rfl)
  (try simp only [Act.put, List.getElem_toArray, List.getElem_cons_succ, List.getElem_cons_zero, List.setIfInBounds_toArray, List.set_cons_zero, List.set_cons_succ])
  refine wpAnyZ_takeS (i := 33) (v := ?_) rfl (by kernel_rfl) (by kernel_rfl) (by kernel_rfl) (by kernel_rfl) (fun _ _ _ h => h) (gives_value (by rfl) ?_) (by assumption) ?_
  rotate_left
  · intro w hSw
    (try dsimp only at hSw)
    go_simp
    (try with_reducible rfl)
  (try simp only [Act.put, List.getElem_toArray, List.getElem_cons_succ, List.getElem_cons_zero, List.setIfInBounds_toArray, List.set_cons_zero, List.set_cons_succ])
  refine wpAnyZ_takeS (i := 34) (v := ?_) rfl (by kernel_rfl) (by kernel_rfl) (by kernel_rfl) (by kernel_rfl) (fun _ _ _ h => h) (gives_value (by rfl) ?_) (by assumption) ?_
  rotate_left
  · intro w hSw
    (try dsimp only at hSw)
    go_simp
    (try with_reducible rfl)
  (try simp only [Act.put, List.getElem_toArray, List.getElem_cons_succ, List.getElem_cons_zero, List.setIfInBounds_toArray, List.set_cons_zero, List.set_cons_succ])
  refine wpAnyZ_takeS (i := 35) (v := ?_) rfl (by kernel_rfl) (by kernel_rfl) (by kernel_rfl) (by kernel_rfl) (fun _ _ _ h => h) (gives_value (by rfl) ?_) (by assumption) ?_
  rotate_left
  · intro w hSw
    (try dsimp only at hSw)
    go_simp
    (try with_reducible rfl)
  (try simp only [Act.put, List.getElem_toArray, List.getElem_cons_succ, List.getElem_cons_zero, List.setIfInBounds_toArray, List.set_cons_zero, List.set_cons_succ])
  refine wpAnyZ_takeS (i := 36) (v := .int .u32 (digit ((q : Int) + 1) : Nat)) rfl (by kernel_rfl) (by kernel_rfl) (by kernel_rfl) (by kernel_rfl) (fun _ _ _ h => h) (gives_call (by rfl) ?_ (fun w _ => KD.out w)) (by assumption) ?_
  · intro w
    go_simp
    (try with_reducible rfl)
  (try simp only [Act.put, List.getElem_toArray, List.getElem_cons_succ, List.getElem_cons_zero, List.setIfInBounds_toArray, List.set_cons_zero, List.set_cons_succ])
  refine wpAnyZ_takeS (i := 37) (v := ?_) rfl (by kernel_rfl) (by kernel_rfl) (by kernel_rfl) (by kernel_rfl) (fun _ _ _ h => h) (gives_value (by rfl) ?_) (by assumption) ?_
  rotate_left
  · intro w hSw
    (try dsimp only at hSw)
    go_simp
    (try with_reducible rfl)
  (try simp only [Act.put, List.getElem_toArray, List.getElem_cons_succ, List.getElem_cons_zero, List.setIfInBounds_toArray, List.set_cons_zero, List.set_cons_succ])
  refine wpAnyZ_takeS (i := 38) (v := ?_) rfl (by kernel_rfl) (by kernel_rfl) (by kernel_rfl) (by kernel_rfl) (fun _ _ _ h => h) (gives_value (by rfl) ?_) (by assumption) ?_
  rotate_left
  · intro w hSw
    (try dsimp only at hSw)
    go_simp
    (try with_reducible rfl)
  (try simp only [Act.put, List.getElem_toArray, List.getElem_cons_succ, List.getElem_cons_zero, List.setIfInBounds_toArray, List.set_cons_zero, List.set_cons_succ])
  refine wpAnyZ_takeS (i := 39) (v := ?_) rfl (by kernel_rfl) (by kernel_rfl) (by kernel_rfl) (by kernel_rfl) (fun _ _ _ h => h) (gives_value (by rfl) ?_) (by assumption) ?_
  rotate_left
  · intro w hSw
    (try dsimp only at hSw)
    go_simp
    (try with_reducible rfl)
  (try simp only [Act.put, List.getElem_toArray, List.getElem_cons_succ, List.getElem_cons_zero, List.setIfInBounds_toArray, List.set_cons_zero, List.set_cons_succ])
  refine wpAnyZ_takeS (i := 40) (v := ?_) rfl (by kernel_rfl) (by kernel_rfl) (by kernel_rfl) (by kernel_rfl) (fun _ _ _ h => h) (gives_value (by rfl) ?_) (by assumption) ?_
  rotate_left
  · intro w hSw
    (try dsimp only at hSw)
    go_simp
    (try with_reducible rfl)
  (try simp only [Act.put, List.getElem_toArray, List.getElem_cons_succ, List.getElem_cons_zero, List.setIfInBounds_toArray, List.set_cons_zero, List.set_cons_succ])
  refine wpAnyZ_takeS (i := 41) (v := ?_) rfl (by kernel_rfl) (by kernel_rfl) (by kernel_rfl) (by kernel_rfl) (fun _ _ _ h => h) (gives_value (by rfl) ?_) (by assumption) ?_
  rotate_left
  · intro w hSw
    (try dsimp only at hSw)
    go_simp
    (try with_reducible rfl)
  (try simp only [Act.put, List.getElem_toArray, List.getElem_cons_succ, List.getElem_cons_zero, List.setIfInBounds_toArray, List.set_cons_zero, List.set_cons_succ])
  refine wpAnyZ_takeS (i := 42) (v := ?_) rfl (by kernel_rfl) (by kernel_rfl) (by kernel_rfl) (by kernel_rfl) (fun _ _ _ h => h) (gives_value (by rfl) ?_) (by assumption) ?_
  rotate_left
  · intro w hSw
    (try dsimp only at hSw)
    go_simp
    (try with_reducible rfl)
  (try simp only [Act.put, List.getElem_toArray, List.getElem_cons_succ, List.getElem_cons_zero, List.setIfInBounds_toArray, List.set_cons_zero, List.set_cons_succ])
  refine wpAnyZ_takeS (i := 43) (v := ?_) rfl (by kernel_rfl) (by kernel_rfl) (by kernel_rfl) (by kernel_rfl) (fun _ _ _ h => h) (gives_value (by rfl) ?_) (by assumption) ?_
  rotate_left
  · intro w hSw
    (try dsimp only at hSw)
    go_simp
    (try with_reducible rfl)
  (try simp only [Act.put, List.getElem_toArray, List.getElem_cons_succ, List.getElem_cons_zero, List.setIfInBounds_toArray, List.set_cons_zero, List.set_cons_succ])
  refine wpAnyZ_takeS (i := 44) (v := ?_) rfl (by kernel_rfl) (by kernel_rfl) (by kernel_rfl) (by kernel_rfl) (fun _ _ _ h => h) (gives_value (by rfl) ?_) (by assumption) ?_
  rotate_left
  · intro w hSw
    (try dsimp only at hSw)
    go_simp
    (try with_reducible rfl)
  (try simp only [Act.put, List.getElem_toArray, List.getElem_cons_succ, List.getElem_cons_zero, List.setIfInBounds_toArray, List.set_cons_zero, List.set_cons_succ])
  refine wpAnyZ_takeS (i := 45) (v := ?_) rfl (by kernel_rfl) (by kernel_rfl) (by kernel_rfl) (by kernel_rfl) (fun _ _ _ h => h) (gives_value (by rfl) ?_) (by assumption) ?_
  rotate_left
  · intro w hSw
    (try dsimp only at hSw)
    go_simp
    (try with_reducible rfl)
  (try simp only [Act.put, List.getElem_toArray, List.getElem_cons_succ, List.getElem_cons_zero, List.setIfInBounds_toArray, List.set_cons_zero, List.set_cons_succ])
  refine wpAnyZ_takeS (i := 46) (v := ?_) rfl (by kernel_rfl) (by kernel_rfl) (by kernel_rfl) (by kernel_rfl) (fun _ _ _ h => h) (gives_value (by rfl) ?_) (by assumption) ?_
  rotate_left
  · intro w hSw
    (try dsimp only at hSw)
    go_simp
    (try with_reducible rfl)
  (try simp only [Act.put, List.getElem_toArray, List.getElem_cons_succ, List.getElem_cons_zero, List.setIfInBounds_toArray, List.set_cons_zero, List.set_cons_succ])
  refine wpAnyZ_takeS (i := 47) (v := ?_) rfl (by kernel_rfl) (by kernel_rfl) (by kernel_rfl) (by kernel_rfl) (fun _ _ _ h => h) (gives_value (by rfl) ?_) (by assumption) ?_
  rotate_left
  · intro w hSw
    (try dsimp only at hSw)
    go_simp
    (try with_reducible rfl)
  (try simp only [Act.put, List.getElem_toArray, List.getElem_cons_succ, List.getElem_cons_zero, List.setIfInBounds_toArray, List.set_cons_zero, List.set_cons_succ])
  refine wpAnyZ_takeS (i := 48) (v := ?_) rfl (by kernel_rfl) (by kernel_rfl) (by kernel_rfl) (by kernel_rfl) (fun _ _ _ h => h) (gives_value (by rfl) ?_) (by assumption) ?_
  rotate_left
  · intro w hSw
    (try dsimp only at hSw)
    go_simp
    (try with_reducible rfl)
  (try simp only [Act.put, List.getElem_toArray, List.getElem_cons_succ, List.getElem_cons_zero, List.setIfInBounds_toArray, List.set_cons_zero, List.set_cons_succ])
  refine wpAnyZ_takeS (i := 49) (v := ?_) rfl (by kernel_rfl) (by kernel_rfl) (by kernel_rfl) (by kernel_rfl) (fun _ _ _ h => h) (gives_value (by rfl) ?_) (by assumption) ?_
  rotate_left
  · intro w hSw
    (try dsimp only at hSw)
    go_simp
    (try with_reducible rfl)
  (try simp only [Act.put, List.getElem_toArray, List.getElem_cons_succ, List.getElem_cons_zero, List.setIfInBounds_toArray, List.set_cons_zero, List.set_cons_succ])
  refine wpAnyZ_takeS (i := 50) (v := ?_) rfl (by kernel_rfl) (by kernel_rfl) (by kernel_rfl) (by kernel_rfl) (fun _ _ _ h => h) (gives_value (by rfl) ?_) (by assumption) ?_
  rotate_left
  · intro w hSw
    (try dsimp only at hSw)
    go_simp
    (try with_reducible rfl)
  (try simp only [Act.put, List.getElem_toArray, List.getElem_cons_succ, List.getElem_cons_zero, List.setIfInBounds_toArray, List.set_cons_zero, List.set_cons_succ])
  refine wpAnyZ_one (i := 51) (by kernel_rfl) ?_
  refine zstep rfl (fun K hK => ?_)
  go_simp
  have HBg := Lib.hid (((Below.refl wx.heap.size wx).alloc (Nat.le_refl _) (.cells #[.bool false, .int .i64 0, .int .i64 0, .int .i64 0, .int .i64 0, .int .u32 0, .int .u32 0, .int .i64 0] 65)).drew)
  have BG := Lib.hid ((blk_new wx #[.bool false, .int .i64 0, .int .i64 0, .int .i64 0, .int .i64 0, .int .u32 0, .int .u32 0, .int .i64 0] 65).drew)
  refine hK.out _ _ (fun _ => SS.out _ HBg.out) (fun hH => ?_)
  replace hH := hH (by decide)
  clear hK K
  (try simp only [Act.put, List.getElem_toArray, List.getElem_cons_succ, List.getElem_cons_zero, List.setIfInBounds_toArray, List.set_cons_zero, List.set_cons_succ])

  generalize (wx.alloc (.cells #[.bool false, .int .i64 0, .int .i64 0, .int .i64 0, .int .i64 0, .int .u32 0, .int .u32 0, .int .i64 0] 65)).drew = wg at *
  generalize hE1 : (if late - y - ss < sc then late - y - ss else sc) = lt at *
  generalize hE2 : (if sd + low < 0 then sd + low else 0) = lo at *
  generalize hE3 : (if 0 < sd + high then sd + high else 0) = hg at *
  refine wpAnyZ_one (i := 52) (by kernel_rfl) ?_
  refine zstep rfl (fun K hK => ?_)
  have g0 := BG.out.cell (j := 0) rfl
  have f0 := (BG.out.2 0 (by simp)).2
  have g1 := BG.out.cell (j := 1) rfl
  have f1 := (BG.out.2 1 (by simp)).2
  have g2 := BG.out.cell (j := 2) rfl
  have f2 := (BG.out.2 2 (by simp)).2
  have g3 := BG.out.cell (j := 3) rfl
  have f3 := (BG.out.2 3 (by simp)).2
  have g4 := BG.out.cell (j := 4) rfl
  have f4 := (BG.out.2 4 (by simp)).2
  have g5 := BG.out.cell (j := 5) rfl
  have f5 := (BG.out.2 5 (by simp)).2
  have g6 := BG.out.cell (j := 6) rfl
  have f6 := (BG.out.2 6 (by simp)).2
  have g7 := BG.out.cell (j := 7) rfl
  have f7 := (BG.out.2 7 (by simp)).2
  have hGl := BG.out.1
  go_simp
  clear g0 g1 g2 g3 g4 g5 g6 g7 f0 f1 f2 f3 f4 f5 f6 f7 hGl
  have HBz := Lib.hid (below8 HBg.out (Nat.le_refl _) (.bool true) (.int .i64 ((q : Int) + 1)) (.int .i64 lt) (.int .i64 lo) (.int .i64 hg) (.int .u32 (need : Nat)) (.int .u32 ((set ||| digit ((q : Int) + 1) : Nat) : Int)) (.int .i64 (cost + y)))
  have BGz := Lib.hid (box8 BG.out (.bool true) (.int .i64 ((q : Int) + 1)) (.int .i64 lt) (.int .i64 lo) (.int .i64 hg) (.int .u32 (need : Nat)) (.int .u32 ((set ||| digit ((q : Int) + 1) : Nat) : Int)) (.int .i64 (cost + y)))
  refine hK.out _ _ (fun _ => SS.out _ HBz.out) (fun hH => ?_)
  replace hH := hH (by decide)
  clear hK K
  (try simp only [Act.put, List.getElem_toArray, List.getElem_cons_succ, List.getElem_cons_zero, List.setIfInBounds_toArray, List.set_cons_zero, List.set_cons_succ])

  refine wpAnyZ_done (by kernel_rfl) ?_ _
  have e1 : min sc (late - y - ss) = lt := by rw [← hE1]; split <;> omega
  have e2 : min 0 (sd + low) = lo := by rw [← hE2]; split <;> omega
  have e3 : max 0 (sd + high) = hg := by rw [← hE3]; split <;> omega
  rw [e1, e2, e3] at HX
  clear e1 e2 e3 hE1 hE2 hE3
  have ES4 := Lib.hid (ES2.out.on HBz.out)
  have BX4 := Lib.hid (BX.out.below HBz.out)
  have hGw : w.heap.size ≤ wx.heap.size := ES2.out.below.size
  have hGR : R ≠ wx.heap.size := fun e => by have := ES2.out.rb.1; omega
  clear SS d1 d2 hB1 hB2 HBg BG HBz ES2 BX hw1 hw2 hw3 hw4 hw5 n0 n1 n1' n2 n3 n4 n5 hH
  go_upto_region 5 with (fail)
  generalize ((((((((wg.setCell ⟨wx.heap.size, 0, none⟩ (.bool true)).setCell ⟨wx.heap.size, 1, none⟩ (.int .i64 ((q : Int) + 1))).setCell ⟨wx.heap.size, 2, none⟩ (.int .i64 lt)).setCell ⟨wx.heap.size, 3, none⟩ (.int .i64 lo)).setCell ⟨wx.heap.size, 4, none⟩ (.int .i64 hg)).setCell ⟨wx.heap.size, 5, none⟩ (.int .u32 (need : Nat))).setCell ⟨wx.heap.size, 6, none⟩ (.int .u32 ((set ||| digit ((q : Int) + 1) : Nat) : Int))).setCell ⟨wx.heap.size, 7, none⟩ (.int .i64 (cost + y))) = wz at *
  generalize wx.heap.size = G at *
  have x1 := BX4.out.cell (j := 1) rfl
  have g2 := BGz.out.cell (j := 2) rfl
  have hXz := BX4.out.1
  have hGz := BGz.out.1
  by_cases hbad : lt < so
  · have HN : Hid (beforeP i ((q : Int) + 1) ⟨la, late, low, high, need, set, cost⟩ = none) := by show _ = _; rw [HX.out, if_pos hbad]
    go_upto_region 6 with (fail)
    clear HX x1 g2
    have r0 := ES4.out.rb.cell (j := 0) rfl
    have z0 := (ES4.out.rb.2 0 (by simp)).2
    have r1 := ES4.out.rb.cell (j := 1) rfl
    have z1 := (ES4.out.rb.2 1 (by simp)).2
    have r2 := ES4.out.rb.cell (j := 2) rfl
    have z2 := (ES4.out.rb.2 2 (by simp)).2
    have r3 := ES4.out.rb.cell (j := 3) rfl
    have z3 := (ES4.out.rb.2 3 (by simp)).2
    have r4 := ES4.out.rb.cell (j := 4) rfl
    have z4 := (ES4.out.rb.2 4 (by simp)).2
    have r5 := ES4.out.rb.cell (j := 5) rfl
    have z5 := (ES4.out.rb.2 5 (by simp)).2
    have r6 := ES4.out.rb.cell (j := 6) rfl
    have z6 := (ES4.out.rb.2 6 (by simp)).2
    have r7 := ES4.out.rb.cell (j := 7) rfl
    have z7 := (ES4.out.rb.2 7 (by simp)).2
    have hRz := ES4.out.rb.1
    have HBf := Lib.hid (below8 ES4.out.below hRw (.bool false) (.int .i64 0) (.int .i64 0) (.int .i64 0) (.int .i64 0) (.int .u32 0) (.int .u32 0) (.int .i64 0))
    go_wp2
    refine bodyPost_ret (v := .agg #[.bool false, .int .i64 0, .int .i64 0, .int .i64 0, .int .i64 0, .int .u32 0, .int .u32 0, .int .i64 0]) (by simp [results, Try.results39, go_sem, r0, r1, r2, r3, r4, r5, r6, r7, z0, z1, z2, z3, z4, z5, z6, z7]) rfl ⟨by rw [HN.out]; rfl, HBf.out⟩
  · have HY : Hid (beforeP i ((q : Int) + 1) ⟨la, late, low, high, need, set, cost⟩ = (needP i need ((q : Int) + 1)).map fun n => ⟨(q : Int) + 1, lt, lo, hg, n, set ||| digit ((q : Int) + 1), cost + y⟩) := by show _ = _; rw [HX.out, if_neg hbad]
    have u1 : decide (lt < so) = false := by simpa using hbad
    clear HX hbad
    have k0 := ES4.out.box.b0
    have k1 := ES4.out.box.b1
    have k2 := ES4.out.box.b2
    have k3 := ES4.out.box.b3
    have hIz := ES4.out.box.lt
    go_wp2_with (go_at_call 34; fail)
    (with_reducible refine (KM.out _ ES4.out.below).mono ?_)
    rintro e w6 ⟨rfl, hb6⟩
    have ES6 := Lib.hid (ES4.out.on hb6)
    have BG6 := Lib.hid (BGz.out.below hb6)
    clear hb6 k0 k1 k2 k3 hIz ES4 BGz KM x1 g2 hXz hGz BX4 u1
    have hmb := mate_bound HF.out ((q : Int) + 1)
    by_cases h3 : mateL ((q : Int) + 1) i.pairs = 0
    · have HN : Hid (beforeP i ((q : Int) + 1) ⟨la, late, low, high, need, set, cost⟩ = some ⟨(q : Int) + 1, lt, lo, hg, need, set ||| digit ((q : Int) + 1), cost + y⟩) := by show _ = _; rw [HY.out]; unfold needP; rw [if_pos h3]; rfl
      clear HY
      rw [h3]
      have r0 := ES6.out.rb.cell (j := 0) rfl
      have z0 := (ES6.out.rb.2 0 (by simp)).2
      have r1 := ES6.out.rb.cell (j := 1) rfl
      have z1 := (ES6.out.rb.2 1 (by simp)).2
      have r2 := ES6.out.rb.cell (j := 2) rfl
      have z2 := (ES6.out.rb.2 2 (by simp)).2
      have r3 := ES6.out.rb.cell (j := 3) rfl
      have z3 := (ES6.out.rb.2 3 (by simp)).2
      have r4 := ES6.out.rb.cell (j := 4) rfl
      have z4 := (ES6.out.rb.2 4 (by simp)).2
      have r5 := ES6.out.rb.cell (j := 5) rfl
      have z5 := (ES6.out.rb.2 5 (by simp)).2
      have r6 := ES6.out.rb.cell (j := 6) rfl
      have z6 := (ES6.out.rb.2 6 (by simp)).2
      have r7 := ES6.out.rb.cell (j := 7) rfl
      have z7 := (ES6.out.rb.2 7 (by simp)).2
      have g0 := BG6.out.cell (j := 0) rfl
      have g1 := BG6.out.cell (j := 1) rfl
      have g2 := BG6.out.cell (j := 2) rfl
      have g3 := BG6.out.cell (j := 3) rfl
      have g4 := BG6.out.cell (j := 4) rfl
      have g5 := BG6.out.cell (j := 5) rfl
      have g6 := BG6.out.cell (j := 6) rfl
      have g7 := BG6.out.cell (j := 7) rfl
      have hRz := ES6.out.rb.1
      have hGz := BG6.out.1
      have HBf := Lib.hid (below8 ES6.out.below hRw (.bool true) (.int .i64 ((q : Int) + 1)) (.int .i64 lt) (.int .i64 lo) (.int .i64 hg) (.int .u32 (need : Nat)) (.int .u32 ((set ||| digit ((q : Int) + 1) : Nat) : Int)) (.int .i64 (cost + y)))
      go_wp2
      refine bodyPost_ret (v := .agg #[.bool true, .int .i64 ((q : Int) + 1), .int .i64 lt, .int .i64 lo, .int .i64 hg, .int .u32 (need : Nat), .int .u32 ((set ||| digit ((q : Int) + 1) : Nat) : Int), .int .i64 (cost + y)]) (by simp [results, Try.results39, go_sem, r0, r1, r2, r3, r4, r5, r6, r7, z0, z1, z2, z3, z4, z5, z6, z7]) rfl ⟨by rw [HN.out]; rfl, HBf.out⟩
    · have hm0 : 0 < mateL ((q : Int) + 1) i.pairs := by omega
      have HM := Lib.hid h3
      have KD2 : Hid (∀ W, Calls Try.prog 50 #[.int .i64 (mateL ((q : Int) + 1) i.pairs)] W fun e w' => e = .returned (.int .u32 (digit (mateL ((q : Int) + 1) i.pairs) : Nat)) ∧ W = w') := fun W => refDigit_any _ W (by omega) (by omega)
      have hdm : digit (mateL ((q : Int) + 1) i.pairs) < 2048 := digit_lt (by omega)
      have HO1 := Lib.hid (u32_or (a := need) (b := digit (mateL ((q : Int) + 1) i.pairs)) (by omega) (by omega))
      have HO2 := Lib.hid (u32_and (a := need) (b := digit ((q : Int) + 1)) (by omega) (by omega))
      have HO3 : Hid (hasD need ((q : Int) + 1) = true → Go.bits .andNot .u32 (need : Int) (digit ((q : Int) + 1) : Int) = ((need ^^^ digit ((q : Int) + 1) : Nat) : Int)) := fun hh => u32_andNot (by omega) (by omega) hh
      clear h3
      have HO : Hid (needP i need ((q : Int) + 1) = if firstL ((q : Int) + 1) i.pairs = false then some (need ||| digit (mateL ((q : Int) + 1) i.pairs)) else if hasD need ((q : Int) + 1) = true then some (need ^^^ digit ((q : Int) + 1)) else none) := by show _ = _; unfold needP; rw [if_neg HM.out]
      generalize mateL ((q : Int) + 1) i.pairs = m at *
      have k0 := ES6.out.box.b0
      have k1 := ES6.out.box.b1
      have k2 := ES6.out.box.b2
      have k3 := ES6.out.box.b3
      have hIz := ES6.out.box.lt
      go_wp2_with (go_at_call 35; fail)
      (with_reducible refine (KF.out _ ES6.out.below).mono ?_)
      rintro e w7 ⟨rfl, hb7⟩
      have ES7 := Lib.hid (ES6.out.on hb7)
      have BG7 := Lib.hid (BG6.out.below hb7)
      clear hb7 k0 k1 k2 k3 hIz ES6 BG6 KF
      by_cases h4 : firstL ((q : Int) + 1) i.pairs = false
      · have HN : Hid (beforeP i ((q : Int) + 1) ⟨la, late, low, high, need, set, cost⟩ = some ⟨(q : Int) + 1, lt, lo, hg, need ||| digit m, set ||| digit ((q : Int) + 1), cost + y⟩) := by show _ = _; rw [HY.out, HO.out, if_pos h4]; rfl
        rw [h4]
        have hor := HO1.out
        clear HY HO h4 HO1 HO2 HO3 KD
        go_upto_region 10 with (fail)
        have g5 := BG7.out.cell (j := 5) rfl
        have f5 := (BG7.out.2 5 (by simp)).2
        have hGz := BG7.out.1
        refine wp_region_z (S := (fun W => W.cell? ⟨G, 5, none⟩ = some (.int .u32 (need : Nat)))) (z := 6) (by kernel_rfl) g5 (fun hH => ?_)
        refine wpAnyZ_take (i := 0) (v := ?_) rfl (by kernel_rfl) (by kernel_rfl) (by kernel_rfl) rfl (by kernel_rfl) (fun _ _ _ h => h) (gives_value (by rfl) ?_) (by assumption) ?_
        rotate_left
        · intro w hSw
          (try dsimp only at hSw)
          go_simp
          (try with_reducible rfl)
        (try simp only [Act.put, List.getElem_toArray, List.getElem_cons_succ, List.getElem_cons_zero, List.setIfInBounds_toArray, List.set_cons_zero, List.set_cons_succ])
        refine wpAnyZ_take (i := 1) (v := ?_) rfl (by kernel_rfl) (by kernel_rfl) (by kernel_rfl) rfl (by kernel_rfl) (fun _ _ _ h => h) (gives_value (by rfl) ?_) (by assumption) ?_
        rotate_left
        · intro w hSw
          (try dsimp only at hSw)
          go_simp
          (try with_reducible rfl)
        (try simp only [Act.put, List.getElem_toArray, List.getElem_cons_succ, List.getElem_cons_zero, List.setIfInBounds_toArray, List.set_cons_zero, List.set_cons_succ])
        refine wpAnyZ_take (i := 2) (v := ?_) rfl (by kernel_rfl) (by kernel_rfl) (by kernel_rfl) rfl (by kernel_rfl) (fun _ _ _ h => h) (gives_value (by rfl) ?_) (by assumption) ?_
        rotate_left
        · intro w hSw
          (try dsimp only at hSw)
          go_simp
          (try with_reducible rfl)
        (try simp only [Act.put, List.getElem_toArray, List.getElem_cons_succ, List.getElem_cons_zero, List.setIfInBounds_toArray, List.set_cons_zero, List.set_cons_succ])
        refine wpAnyZ_take (i := 3) (v := .int .u32 (digit (m) : Nat)) rfl (by kernel_rfl) (by kernel_rfl) (by kernel_rfl) rfl (by kernel_rfl) (fun _ _ _ h => h) (gives_call (by rfl) ?_ (fun w _ => KD2.out w)) (by assumption) ?_
        · intro w
          go_simp
          (try with_reducible rfl)
        (try simp only [Act.put, List.getElem_toArray, List.getElem_cons_succ, List.getElem_cons_zero, List.setIfInBounds_toArray, List.set_cons_zero, List.set_cons_succ])
        refine wpAnyZ_take (i := 4) (v := ?_) rfl (by kernel_rfl) (by kernel_rfl) (by kernel_rfl) rfl (by kernel_rfl) (fun _ _ _ h => h) (gives_value (by rfl) ?_) (by assumption) ?_
        rotate_left
        · intro w hSw
          (try dsimp only at hSw)
          go_simp
          (try with_reducible rfl)
        (try simp only [Act.put, List.getElem_toArray, List.getElem_cons_succ, List.getElem_cons_zero, List.setIfInBounds_toArray, List.set_cons_zero, List.set_cons_succ])
        refine wpAnyZ_take (i := 5) (v := ?_) rfl (by kernel_rfl) (by kernel_rfl) (by kernel_rfl) rfl (by kernel_rfl) (fun _ _ _ h => h) (gives_value (by rfl) ?_) (by assumption) ?_
        rotate_left
        · intro w hSw
          (try dsimp only at hSw)
          go_simp
          (try with_reducible rfl)
        (try simp only [Act.put, List.getElem_toArray, List.getElem_cons_succ, List.getElem_cons_zero, List.setIfInBounds_toArray, List.set_cons_zero, List.set_cons_succ])
        refine wpAnyZ_one (i := 6) (by kernel_rfl) ?_
        refine zstep rfl (fun K hK => ?_)
        go_simp
        refine hK.out _ _ (fun h => absurd rfl h) (fun hH => ?_)
        clear hK K hH
        (try simp only [Act.put, List.getElem_toArray, List.getElem_cons_succ, List.getElem_cons_zero, List.setIfInBounds_toArray, List.set_cons_zero, List.set_cons_succ])
        refine wpAnyZ_done (by kernel_rfl) ?_ _
        have FS := Lib.hid (⟨(ES7.out.below.setCell (p := ⟨G, 5, none⟩) hGw (.int .u32 (((need ||| digit m : Nat)) : Int))).drew, (ES7.out.rb.other (a := ⟨G, 5, none⟩) hGR.symm (.int .u32 (((need ||| digit m : Nat)) : Int))).drew⟩ : FinS w _ R _)
        have BG8 := Lib.hid ((BG7.out.set (k := 5) (by simp) (.int .u32 (((need ||| digit m : Nat)) : Int))).drew)
        clear g5 f5 hGz ES7 BG7
        generalize (w7.setCell ⟨G, 5, none⟩ (.int .u32 (((need ||| digit m : Nat)) : Int))).drew = w8 at *
        have r0 := FS.out.rb.cell (j := 0) rfl
        have z0 := (FS.out.rb.2 0 (by simp)).2
        have r1 := FS.out.rb.cell (j := 1) rfl
        have z1 := (FS.out.rb.2 1 (by simp)).2
        have r2 := FS.out.rb.cell (j := 2) rfl
        have z2 := (FS.out.rb.2 2 (by simp)).2
        have r3 := FS.out.rb.cell (j := 3) rfl
        have z3 := (FS.out.rb.2 3 (by simp)).2
        have r4 := FS.out.rb.cell (j := 4) rfl
        have z4 := (FS.out.rb.2 4 (by simp)).2
        have r5 := FS.out.rb.cell (j := 5) rfl
        have z5 := (FS.out.rb.2 5 (by simp)).2
        have r6 := FS.out.rb.cell (j := 6) rfl
        have z6 := (FS.out.rb.2 6 (by simp)).2
        have r7 := FS.out.rb.cell (j := 7) rfl
        have z7 := (FS.out.rb.2 7 (by simp)).2
        have g0 := BG8.out.cell (j := 0) rfl
        have g1 := BG8.out.cell (j := 1) rfl
        have g2 := BG8.out.cell (j := 2) rfl
        have g3 := BG8.out.cell (j := 3) rfl
        have g4 := BG8.out.cell (j := 4) rfl
        have g5 := BG8.out.cell (j := 5) rfl
        have g6 := BG8.out.cell (j := 6) rfl
        have g7 := BG8.out.cell (j := 7) rfl
        have hRz := FS.out.rb.1
        have hGz := BG8.out.1
        have HBf := Lib.hid (below8 FS.out.below hRw (.bool true) (.int .i64 ((q : Int) + 1)) (.int .i64 lt) (.int .i64 lo) (.int .i64 hg) (.int .u32 (((need ||| digit m : Nat)) : Int)) (.int .u32 ((set ||| digit ((q : Int) + 1) : Nat) : Int)) (.int .i64 (cost + y)))
        go_wp2
        refine bodyPost_ret (v := .agg #[.bool true, .int .i64 ((q : Int) + 1), .int .i64 lt, .int .i64 lo, .int .i64 hg, .int .u32 (((need ||| digit m : Nat)) : Int), .int .u32 ((set ||| digit ((q : Int) + 1) : Nat) : Int), .int .i64 (cost + y)]) (by simp [results, Try.results39, go_sem, r0, r1, r2, r3, r4, r5, r6, r7, z0, z1, z2, z3, z4, z5, z6, z7]) rfl ⟨by rw [HN.out]; rfl, HBf.out⟩
      · have h4' : firstL ((q : Int) + 1) i.pairs = true := by simpa using h4
        have p5 := ES7.out.hb.cell (j := 5) rfl
        have hHz := ES7.out.hb.1
        rw [h4']
        by_cases h5 : hasD need ((q : Int) + 1) = true
        · have HN : Hid (beforeP i ((q : Int) + 1) ⟨la, late, low, high, need, set, cost⟩ = some ⟨(q : Int) + 1, lt, lo, hg, need ^^^ digit ((q : Int) + 1), set ||| digit ((q : Int) + 1), cost + y⟩) := by show _ = _; rw [HY.out, HO.out, if_neg h4, if_pos h5]; rfl
          have hnb : (Go.bits .and .u32 (need : Int) (digit ((q : Int) + 1) : Int) == 0) = false := by rw [HO2.out, beq_eq_false_iff_ne]; exact and_some h5
          have hxr := HO3.out h5
          clear HY HO h4 h4' h5 HO1 HO2 HO3 KD2
          go_upto_region 11 with (fail)
          refine wp_region_z (S := (fun W => W.cell? ⟨H, 5, none⟩ = some (.int .u32 (need : Nat)))) (z := 6) (by kernel_rfl) p5 (fun hH => ?_)
          refine wpAnyZ_takeS (i := 0) (v := ?_) rfl (by kernel_rfl) (by kernel_rfl) (by kernel_rfl) (by kernel_rfl) (fun _ _ _ h => h) (gives_value (by rfl) ?_) (by assumption) ?_
          rotate_left
          · intro w hSw
            (try dsimp only at hSw)
            go_simp
            (try with_reducible rfl)
          (try simp only [Act.put, List.getElem_toArray, List.getElem_cons_succ, List.getElem_cons_zero, List.setIfInBounds_toArray, List.set_cons_zero, List.set_cons_succ])
          refine wpAnyZ_takeS (i := 1) (v := ?_) rfl (by kernel_rfl) (by kernel_rfl) (by kernel_rfl) (by kernel_rfl) (fun _ _ _ h => h) (gives_value (by rfl) ?_) (by assumption) ?_
          rotate_left
          · intro w hSw
            (try dsimp only at hSw)
            go_simp
            (try with_reducible rfl)
          (try simp only [Act.put, List.getElem_toArray, List.getElem_cons_succ, List.getElem_cons_zero, List.setIfInBounds_toArray, List.set_cons_zero, List.set_cons_succ])
          refine wpAnyZ_takeS (i := 2) (v := ?_) rfl (by kernel_rfl) (by kernel_rfl) (by kernel_rfl) (by kernel_rfl) (fun _ _ _ h => h) (gives_value (by rfl) ?_) (by assumption) ?_
          rotate_left
          · intro w hSw
            (try dsimp only at hSw)
            go_simp
            (try with_reducible rfl)
          (try simp only [Act.put, List.getElem_toArray, List.getElem_cons_succ, List.getElem_cons_zero, List.setIfInBounds_toArray, List.set_cons_zero, List.set_cons_succ])
          refine wpAnyZ_takeS (i := 3) (v := .int .u32 (digit ((q : Int) + 1) : Nat)) rfl (by kernel_rfl) (by kernel_rfl) (by kernel_rfl) (by kernel_rfl) (fun _ _ _ h => h) (gives_call (by rfl) ?_ (fun w _ => KD.out w)) (by assumption) ?_
          · intro w
            go_simp
            (try with_reducible rfl)
          (try simp only [Act.put, List.getElem_toArray, List.getElem_cons_succ, List.getElem_cons_zero, List.setIfInBounds_toArray, List.set_cons_zero, List.set_cons_succ])
          refine wpAnyZ_takeS (i := 4) (v := ?_) rfl (by kernel_rfl) (by kernel_rfl) (by kernel_rfl) (by kernel_rfl) (fun _ _ _ h => h) (gives_value (by rfl) ?_) (by assumption) ?_
          rotate_left
          · intro w hSw
            (try dsimp only at hSw)
            go_simp
            (try with_reducible rfl)
          (try simp only [Act.put, List.getElem_toArray, List.getElem_cons_succ, List.getElem_cons_zero, List.setIfInBounds_toArray, List.set_cons_zero, List.set_cons_succ])
          refine wpAnyZ_takeS (i := 5) (v := ?_) rfl (by kernel_rfl) (by kernel_rfl) (by kernel_rfl) (by kernel_rfl) (fun _ _ _ h => h) (gives_value (by rfl) ?_) (by assumption) ?_
          rotate_left
          · intro w hSw
            (try dsimp only at hSw)
            go_simp
            (try with_reducible rfl)
          (try simp only [Act.put, List.getElem_toArray, List.getElem_cons_succ, List.getElem_cons_zero, List.setIfInBounds_toArray, List.set_cons_zero, List.set_cons_succ])
          refine wpAnyZ_done (by kernel_rfl) ?_ _
          have ES7b := Lib.hid (ES7.out.on ((Below.refl _ _).drew))
          have BG7b := Lib.hid (BG7.out.below ((Below.refl _ _).drew))
          clear p5 hHz ES7 BG7 hH
          go_upto_region 13 with (fail)
          generalize w7.drew = w7 at *
          have ES7 := ES7b
          have BG7 := BG7b
          have g5 := BG7.out.cell (j := 5) rfl
          have f5 := (BG7.out.2 5 (by simp)).2
          have hGz := BG7.out.1
          refine wp_region_z (S := (fun W => W.cell? ⟨G, 5, none⟩ = some (.int .u32 (need : Nat)))) (z := 6) (by kernel_rfl) g5 (fun hH => ?_)
          refine wpAnyZ_take (i := 0) (v := ?_) rfl (by kernel_rfl) (by kernel_rfl) (by kernel_rfl) rfl (by kernel_rfl) (fun _ _ _ h => h) (gives_value (by rfl) ?_) (by assumption) ?_
          rotate_left
          · intro w hSw
            (try dsimp only at hSw)
            go_simp
            (try with_reducible rfl)
          (try simp only [Act.put, List.getElem_toArray, List.getElem_cons_succ, List.getElem_cons_zero, List.setIfInBounds_toArray, List.set_cons_zero, List.set_cons_succ])
          refine wpAnyZ_take (i := 1) (v := ?_) rfl (by kernel_rfl) (by kernel_rfl) (by kernel_rfl) rfl (by kernel_rfl) (fun _ _ _ h => h) (gives_value (by rfl) ?_) (by assumption) ?_
          rotate_left
          · intro w hSw
            (try dsimp only at hSw)
            go_simp
            (try with_reducible rfl)
          (try simp only [Act.put, List.getElem_toArray, List.getElem_cons_succ, List.getElem_cons_zero, List.setIfInBounds_toArray, List.set_cons_zero, List.set_cons_succ])
          refine wpAnyZ_take (i := 2) (v := ?_) rfl (by kernel_rfl) (by kernel_rfl) (by kernel_rfl) rfl (by kernel_rfl) (fun _ _ _ h => h) (gives_value (by rfl) ?_) (by assumption) ?_
          rotate_left
          · intro w hSw
            (try dsimp only at hSw)
            go_simp
            (try with_reducible rfl)
          (try simp only [Act.put, List.getElem_toArray, List.getElem_cons_succ, List.getElem_cons_zero, List.setIfInBounds_toArray, List.set_cons_zero, List.set_cons_succ])
          refine wpAnyZ_take (i := 3) (v := .int .u32 (digit ((q : Int) + 1) : Nat)) rfl (by kernel_rfl) (by kernel_rfl) (by kernel_rfl) rfl (by kernel_rfl) (fun _ _ _ h => h) (gives_call (by rfl) ?_ (fun w _ => KD.out w)) (by assumption) ?_
          · intro w
            go_simp
            (try with_reducible rfl)
          (try simp only [Act.put, List.getElem_toArray, List.getElem_cons_succ, List.getElem_cons_zero, List.setIfInBounds_toArray, List.set_cons_zero, List.set_cons_succ])
          refine wpAnyZ_take (i := 4) (v := ?_) rfl (by kernel_rfl) (by kernel_rfl) (by kernel_rfl) rfl (by kernel_rfl) (fun _ _ _ h => h) (gives_value (by rfl) ?_) (by assumption) ?_
          rotate_left
          · intro w hSw
            (try dsimp only at hSw)
            go_simp
            (try with_reducible rfl)
          (try simp only [Act.put, List.getElem_toArray, List.getElem_cons_succ, List.getElem_cons_zero, List.setIfInBounds_toArray, List.set_cons_zero, List.set_cons_succ])
          refine wpAnyZ_take (i := 5) (v := ?_) rfl (by kernel_rfl) (by kernel_rfl) (by kernel_rfl) rfl (by kernel_rfl) (fun _ _ _ h => h) (gives_value (by rfl) ?_) (by assumption) ?_
          rotate_left
          · intro w hSw
            (try dsimp only at hSw)
            go_simp
            (try with_reducible rfl)
          (try simp only [Act.put, List.getElem_toArray, List.getElem_cons_succ, List.getElem_cons_zero, List.setIfInBounds_toArray, List.set_cons_zero, List.set_cons_succ])
          refine wpAnyZ_one (i := 6) (by kernel_rfl) ?_
          refine zstep rfl (fun K hK => ?_)
          go_simp
          refine hK.out _ _ (fun h => absurd rfl h) (fun hH => ?_)
          clear hK K hH
          (try simp only [Act.put, List.getElem_toArray, List.getElem_cons_succ, List.getElem_cons_zero, List.setIfInBounds_toArray, List.set_cons_zero, List.set_cons_succ])
          refine wpAnyZ_done (by kernel_rfl) ?_ _
          have FS := Lib.hid (⟨(ES7.out.below.setCell (p := ⟨G, 5, none⟩) hGw (.int .u32 (((need ^^^ digit ((q : Int) + 1) : Nat)) : Int))).drew, (ES7.out.rb.other (a := ⟨G, 5, none⟩) hGR.symm (.int .u32 (((need ^^^ digit ((q : Int) + 1) : Nat)) : Int))).drew⟩ : FinS w _ R _)
          have BG8 := Lib.hid ((BG7.out.set (k := 5) (by simp) (.int .u32 (((need ^^^ digit ((q : Int) + 1) : Nat)) : Int))).drew)
          clear g5 f5 hGz ES7 BG7
          generalize (w7.setCell ⟨G, 5, none⟩ (.int .u32 (((need ^^^ digit ((q : Int) + 1) : Nat)) : Int))).drew = w8 at *
          have r0 := FS.out.rb.cell (j := 0) rfl
          have z0 := (FS.out.rb.2 0 (by simp)).2
          have r1 := FS.out.rb.cell (j := 1) rfl
          have z1 := (FS.out.rb.2 1 (by simp)).2
          have r2 := FS.out.rb.cell (j := 2) rfl
          have z2 := (FS.out.rb.2 2 (by simp)).2
          have r3 := FS.out.rb.cell (j := 3) rfl
          have z3 := (FS.out.rb.2 3 (by simp)).2
          have r4 := FS.out.rb.cell (j := 4) rfl
          have z4 := (FS.out.rb.2 4 (by simp)).2
          have r5 := FS.out.rb.cell (j := 5) rfl
          have z5 := (FS.out.rb.2 5 (by simp)).2
          have r6 := FS.out.rb.cell (j := 6) rfl
          have z6 := (FS.out.rb.2 6 (by simp)).2
          have r7 := FS.out.rb.cell (j := 7) rfl
          have z7 := (FS.out.rb.2 7 (by simp)).2
          have g0 := BG8.out.cell (j := 0) rfl
          have g1 := BG8.out.cell (j := 1) rfl
          have g2 := BG8.out.cell (j := 2) rfl
          have g3 := BG8.out.cell (j := 3) rfl
          have g4 := BG8.out.cell (j := 4) rfl
          have g5 := BG8.out.cell (j := 5) rfl
          have g6 := BG8.out.cell (j := 6) rfl
          have g7 := BG8.out.cell (j := 7) rfl
          have hRz := FS.out.rb.1
          have hGz := BG8.out.1
          have HBf := Lib.hid (below8 FS.out.below hRw (.bool true) (.int .i64 ((q : Int) + 1)) (.int .i64 lt) (.int .i64 lo) (.int .i64 hg) (.int .u32 (((need ^^^ digit ((q : Int) + 1) : Nat)) : Int)) (.int .u32 ((set ||| digit ((q : Int) + 1) : Nat) : Int)) (.int .i64 (cost + y)))
          go_wp2
          refine bodyPost_ret (v := .agg #[.bool true, .int .i64 ((q : Int) + 1), .int .i64 lt, .int .i64 lo, .int .i64 hg, .int .u32 (((need ^^^ digit ((q : Int) + 1) : Nat)) : Int), .int .u32 ((set ||| digit ((q : Int) + 1) : Nat) : Int), .int .i64 (cost + y)]) (by simp [results, Try.results39, go_sem, r0, r1, r2, r3, r4, r5, r6, r7, z0, z1, z2, z3, z4, z5, z6, z7]) rfl ⟨by rw [HN.out]; rfl, HBf.out⟩
        · have h5' : hasD need ((q : Int) + 1) = false := by simpa using h5
          have HN : Hid (beforeP i ((q : Int) + 1) ⟨la, late, low, high, need, set, cost⟩ = none) := by show _ = _; rw [HY.out, HO.out, if_neg h4, if_neg h5]; rfl
          have heq : Go.bits .and .u32 (need : Int) (digit ((q : Int) + 1) : Int) = 0 := by rw [HO2.out]; exact and_none h5'
          clear HY HO h4 h4' h5 h5' HO1 HO2 HO3 KD2
          go_upto_region 11 with (fail)
          refine wp_region_z (S := (fun W => W.cell? ⟨H, 5, none⟩ = some (.int .u32 (need : Nat)))) (z := 6) (by kernel_rfl) p5 (fun hH => ?_)
          refine wpAnyZ_takeS (i := 0) (v := ?_) rfl (by kernel_rfl) (by kernel_rfl) (by kernel_rfl) (by kernel_rfl) (fun _ _ _ h => h) (gives_value (by rfl) ?_) (by assumption) ?_
          rotate_left
          · intro w hSw
            (try dsimp only at hSw)
            go_simp
            (try with_reducible rfl)
          (try simp only [Act.put, List.getElem_toArray, List.getElem_cons_succ, List.getElem_cons_zero, List.setIfInBounds_toArray, List.set_cons_zero, List.set_cons_succ])
          refine wpAnyZ_takeS (i := 1) (v := ?_) rfl (by kernel_rfl) (by kernel_rfl) (by kernel_rfl) (by kernel_rfl) (fun _ _ _ h => h) (gives_value (by rfl) ?_) (by assumption) ?_
          rotate_left
          · intro w hSw
            (try dsimp only at hSw)
            go_simp
            (try with_reducible rfl)
          (try simp only [Act.put, List.getElem_toArray, List.getElem_cons_succ, List.getElem_cons_zero, List.setIfInBounds_toArray, List.set_cons_zero, List.set_cons_succ])
          refine wpAnyZ_takeS (i := 2) (v := ?_) rfl (by kernel_rfl) (by kernel_rfl) (by kernel_rfl) (by kernel_rfl) (fun _ _ _ h => h) (gives_value (by rfl) ?_) (by assumption) ?_
          rotate_left
          · intro w hSw
            (try dsimp only at hSw)
            go_simp
            (try with_reducible rfl)
          (try simp only [Act.put, List.getElem_toArray, List.getElem_cons_succ, List.getElem_cons_zero, List.setIfInBounds_toArray, List.set_cons_zero, List.set_cons_succ])
          refine wpAnyZ_takeS (i := 3) (v := .int .u32 (digit ((q : Int) + 1) : Nat)) rfl (by kernel_rfl) (by kernel_rfl) (by kernel_rfl) (by kernel_rfl) (fun _ _ _ h => h) (gives_call (by rfl) ?_ (fun w _ => KD.out w)) (by assumption) ?_
          · intro w
            go_simp
            (try with_reducible rfl)
          (try simp only [Act.put, List.getElem_toArray, List.getElem_cons_succ, List.getElem_cons_zero, List.setIfInBounds_toArray, List.set_cons_zero, List.set_cons_succ])
          refine wpAnyZ_takeS (i := 4) (v := ?_) rfl (by kernel_rfl) (by kernel_rfl) (by kernel_rfl) (by kernel_rfl) (fun _ _ _ h => h) (gives_value (by rfl) ?_) (by assumption) ?_
          rotate_left
          · intro w hSw
            (try dsimp only at hSw)
            go_simp
            (try with_reducible rfl)
          (try simp only [Act.put, List.getElem_toArray, List.getElem_cons_succ, List.getElem_cons_zero, List.setIfInBounds_toArray, List.set_cons_zero, List.set_cons_succ])
          refine wpAnyZ_takeS (i := 5) (v := ?_) rfl (by kernel_rfl) (by kernel_rfl) (by kernel_rfl) (by kernel_rfl) (fun _ _ _ h => h) (gives_value (by rfl) ?_) (by assumption) ?_
          rotate_left
          · intro w hSw
            (try dsimp only at hSw)
            go_simp
            (try with_reducible rfl)
          (try simp only [Act.put, List.getElem_toArray, List.getElem_cons_succ, List.getElem_cons_zero, List.setIfInBounds_toArray, List.set_cons_zero, List.set_cons_succ])
          refine wpAnyZ_done (by kernel_rfl) ?_ _
          have ES7b := Lib.hid (ES7.out.on ((Below.refl _ _).drew))
          clear p5 hHz ES7 BG7 hH
          go_upto_region 12 with (fail)
          generalize w7.drew = w8 at *
          have r0 := ES7b.out.rb.cell (j := 0) rfl
          have z0 := (ES7b.out.rb.2 0 (by simp)).2
          have r1 := ES7b.out.rb.cell (j := 1) rfl
          have z1 := (ES7b.out.rb.2 1 (by simp)).2
          have r2 := ES7b.out.rb.cell (j := 2) rfl
          have z2 := (ES7b.out.rb.2 2 (by simp)).2
          have r3 := ES7b.out.rb.cell (j := 3) rfl
          have z3 := (ES7b.out.rb.2 3 (by simp)).2
          have r4 := ES7b.out.rb.cell (j := 4) rfl
          have z4 := (ES7b.out.rb.2 4 (by simp)).2
          have r5 := ES7b.out.rb.cell (j := 5) rfl
          have z5 := (ES7b.out.rb.2 5 (by simp)).2
          have r6 := ES7b.out.rb.cell (j := 6) rfl
          have z6 := (ES7b.out.rb.2 6 (by simp)).2
          have r7 := ES7b.out.rb.cell (j := 7) rfl
          have z7 := (ES7b.out.rb.2 7 (by simp)).2
          have hRz := ES7b.out.rb.1
          have HBf := Lib.hid (below8 ES7b.out.below hRw (.bool false) (.int .i64 0) (.int .i64 0) (.int .i64 0) (.int .i64 0) (.int .u32 0) (.int .u32 0) (.int .i64 0))
          go_wp2
          refine bodyPost_ret (v := .agg #[.bool false, .int .i64 0, .int .i64 0, .int .i64 0, .int .i64 0, .int .u32 0, .int .u32 0, .int .i64 0]) (by simp [results, Try.results39, go_sem, r0, r1, r2, r3, r4, r5, r6, r7, z0, z1, z2, z3, z4, z5, z6, z7]) rfl ⟨by rw [HN.out]; rfl, HBf.out⟩
end Go.Proofs.Ytgkieelacjcopaa
