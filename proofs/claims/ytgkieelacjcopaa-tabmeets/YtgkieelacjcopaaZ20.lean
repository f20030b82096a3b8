/- draymanref01.within, car, Cost: what they answer. · draymanref01.digit, Begin, End, Extend, Before: what they answer. · draymanref01.Extend: what it answers. -/
import Derived.Test.YtgkieelacjcopaaZ06
import Derived.Test.YtgkieelacjcopaaZ07
import Derived.Test.YtgkieelacjcopaaZ08
import Derived.Deep.QuietTactic
import Derived.BigQuiet
import Derived.Deep.DeepCutAuto
namespace Go.Proofs.Ytgkieelacjcopaa
open Go.RowKit
set_option linter.unusedSimpArgs false

theorem refWithin_yes (n low high : Int) (w : World) (h : inB n low high = true) :
    Calls Try.prog 37 #[.int .i64 n, .int .i64 low, .int .i64 high] w fun e w' => e = .returned (.bool true) ∧ w' = w := by
  obtain ⟨h1, h2⟩ := inB_iff.1 h
  clear h
  go_enter Try.func37, Try.ntmps37
  go_wp2
  go_ret
  exact ⟨rfl, rfl⟩
theorem refWithin_no (n low high : Int) (w : World) (h : inB n low high = false) :
    Calls Try.prog 37 #[.int .i64 n, .int .i64 low, .int .i64 high] w fun e w' => e = .returned (.bool false) ∧ w' = w := by
  by_cases h1 : low ≤ n
  · have h2 : ¬ n ≤ high := by rcases inB_no.1 h with h | h <;> omega
    clear h
    go_enter Try.func37, Try.ntmps37
    go_wp2
    go_ret
    exact ⟨rfl, rfl⟩
  · clear h
    go_enter Try.func37, Try.ntmps37
    go_wp2
    go_ret
    exact ⟨rfl, rfl⟩
theorem refWithin_any (n low high : Int) (b : Bool) (h : inB n low high = b) (w : World) :
    Calls Try.prog 37 #[.int .i64 n, .int .i64 low, .int .i64 high] w fun e w' => e = .returned (.bool b) ∧ w' = w := by
  cases b
  · exact refWithin_no n low high w h
  · exact refWithin_yes n low high w h
theorem refCar_any (v : Value) (i : Prob) (c : Int) (b : Bool) (w : World) (h : Lies w v i) (hc : i.cars.length ≤ 1000) (hb : inB c 0 (i.cars.length - 1) = b) :
    Calls Try.prog 36 #[v, .int .i64 c] w fun e w' => e = .returned (.bool b) ∧ Below w.heap.size w w' := by
  obtain ⟨vc, vs, vp, vt, rfl, ⟨A, cap, rfl, _⟩, _⟩ := h
  have C := Lib.hid (fun W => refWithin_any c 0 ((i.cars.length : Int) - 1) b hb W)
  clear hb
  go_enter Try.func36, Try.ntmps36
  go_wp2_with (go_at_call 37; fail)
  (with_reducible refine (C.out _).mono ?_)
  rintro e w1 ⟨rfl, rfl⟩
  go_wp2
  go_ret
  exact ⟨rfl, (Below.refl _ _).alloc (Nat.le_refl _) _⟩
theorem costP_nil {i : Prob} (h : probOk i = true) : costP i [] = 0 := by
  show (if thereB i [] = true then costL i 0 [] else 0) = 0
  rw [if_pos (show thereB i [] = true from rfl)]
  exact way_diag h 0

end Go.Proofs.Ytgkieelacjcopaa
namespace Go.Proofs.Ytgkieelacjcopaa
open Go.RowKit
set_option linter.unusedSimpArgs false

set_option maxRecDepth 100000 in
theorem refDigit_any (s : Int) (w : World) (h0 : 0 ≤ s) (h : s ≤ 10) : Calls Try.prog 50 #[.int .i64 s] w fun e w' => e = .returned (.int .u32 (digit s : Nat)) ∧ w = w' := by
  obtain ⟨n, rfl⟩ : ∃ n : Nat, s = (n : Int) := ⟨s.toNat, by omega⟩
  have hn : n ≤ 10 := by omega
  have hlt : (2 : Int) ^ n % 4294967296 = ((2 ^ n : Nat) : Int) := by
    have h1 : (2 : Nat) ^ n ≤ 2 ^ 10 := Nat.pow_le_pow_right (by omega) hn
    have h2 : ((2 ^ n : Nat) : Int) = (2 : Int) ^ n := by simp
    rw [← h2]
    generalize (2 : Nat) ^ n = m at *
    omega
  clear h0 h
  go_enter Try.func50, Try.ntmps50
  go_wp2
  go_ret
  exact ⟨by simp [digit, hlt], rfl⟩
end Go.Proofs.Ytgkieelacjcopaa
namespace Go.Proofs.Ytgkieelacjcopaa
open Go.RowKit
set_option linter.unusedSimpArgs false


set_option maxRecDepth 100000 in
set_option maxHeartbeats 8000000 in
theorem refExt_in (i : Prob) (cn q la : Nat) (leave load cost : Int) (opn set : Nat) (w : World) (A1 A2 A3 A4 : Option Addr) (c1 c2 c3 c4 : Nat) (hs : Said w A1 A2 A3 A4 c1 c2 c3 c4 i) (hok : probOk i = true) (hp : i.pairs.length ≤ 1000000) (hcn : cn < i.cars.length) (hq : q < i.stops.length) (hla : la ≤ i.stops.length)
    (hlv : 0 ≤ leave ∧ leave ≤ 2000) (hld : 0 ≤ load ∧ load ≤ 60) (hop : opn < 2048) (hse : set < 2048) (hco : 0 ≤ cost ∧ cost ≤ 1000000) (hhas : hasD set ((q : Int) + 1) = false) :
    Calls Try.prog 38 #[.agg #[.slice A1 i.cars.length c1, .slice A2 i.stops.length c2, .slice A3 i.pairs.length c3, .slice A4 i.travel.length c4], .int .i64 cn, .agg #[.bool true, .int .i64 la, .int .i64 leave, .int .i64 load, .int .u32 (opn : Nat), .int .u32 (set : Nat), .int .i64 cost], .int .i64 ((q : Int) + 1)] w fun e w' => e = .returned (headV (extendP i cn ⟨la, leave, load, opn, set, cost⟩ ((q : Int) + 1))) ∧ Below w.heap.size w w' := by
  have hf := fine_of hok
  have hcl := hf.cars
  have hst := hf.stops
  have HF := Lib.hid hf
  have ES0 : Hid (ExS w (((w.alloc (.cells #[.slice A1 i.cars.length c1, .slice A2 i.stops.length c2, .slice A3 i.pairs.length c3, .slice A4 i.travel.length c4] 27)).alloc (.cells #[.bool true, .int .i64 la, .int .i64 leave, .int .i64 load, .int .u32 (opn : Nat), .int .u32 (set : Nat), .int .i64 cost] 64)).alloc (.cells #[.bool false, .int .i64 0, .int .i64 0, .int .i64 0, .int .u32 0, .int .u32 0, .int .i64 0] 64)) w.heap.size (w.heap.size + 1) (w.heap.size + 1 + 1) A1 A2 A3 A4 c1 c2 c3 c4 i #[.bool true, .int .i64 la, .int .i64 leave, .int .i64 load, .int .u32 (opn : Nat), .int .u32 (set : Nat), .int .i64 cost].toList #[.bool false, .int .i64 0, .int .i64 0, .int .i64 0, .int .u32 0, .int .u32 0, .int .i64 0].toList) :=
    ⟨(((Below.refl _ _).alloc (Nat.le_refl _) _).alloc (by simp) _).alloc (by simp; omega) _, ((box_new hs 27).below ((Below.refl _ _).alloc (Nat.le_refl _) _)).below ((Below.refl _ _).alloc (Nat.le_refl _) _), (blk_at _ _ (by simp)).alloc _, blk_at _ _ (by simp)⟩
  have hin : inB ((q : Int) + 1) 1 i.stops.length = true := by rw [inB_iff]; omega
  have KC : Hid (∀ W, Below w.heap.size w W → Calls Try.prog 36 #[.agg #[.slice A1 i.cars.length c1, .slice A2 i.stops.length c2, .slice A3 i.pairs.length c3, .slice A4 i.travel.length c4], .int .i64 cn] W fun e w' => e = .returned (.bool true) ∧ Below W.heap.size W w') := fun W hB => refCar_any _ i cn true W (Lies.below hs hB) (by omega) (by rw [inB_iff]; omega)
  have KW : Hid (∀ W, Calls Try.prog 37 #[.int .i64 ((q : Int) + 1), .int .i64 1, .int .i64 i.stops.length] W fun e w' => e = .returned (.bool true) ∧ W = w') := fun W => (refWithin_any _ 1 i.stops.length true hin W).mono fun e w' ⟨a, b⟩ => ⟨a, b.symm⟩
  have KD : Hid (∀ W, Calls Try.prog 50 #[.int .i64 ((q : Int) + 1)] W fun e w' => e = .returned (.int .u32 (digit ((q : Int) + 1) : Nat)) ∧ W = w') := fun W => refDigit_any _ W (by omega) (by omega)
  have KM : Hid (∀ W, Below w.heap.size w W → Calls Try.prog 34 #[.agg #[.slice A1 i.cars.length c1, .slice A2 i.stops.length c2, .slice A3 i.pairs.length c3, .slice A4 i.travel.length c4], .int .i64 ((q : Int) + 1)] W fun e w' => e = .returned (.int .i64 (mateL ((q : Int) + 1) i.pairs)) ∧ Below W.heap.size W w') := fun W hB => refmate_any _ i _ W (Lies.below hs hB) (by omega)
  have KF : Hid (∀ W, Below w.heap.size w W → Calls Try.prog 35 #[.agg #[.slice A1 i.cars.length c1, .slice A2 i.stops.length c2, .slice A3 i.pairs.length c3, .slice A4 i.travel.length c4], .int .i64 ((q : Int) + 1)] W fun e w' => e = .returned (.bool (firstL ((q : Int) + 1) i.pairs)) ∧ Below W.heap.size W w') := fun W hB => reffirst_any _ i _ W (Lies.below hs hB) (by omega)
  have hdg : digit ((q : Int) + 1) < 2048 := digit_lt (by omega)
  have hbit : Go.bits .and .u32 (set : Int) (digit ((q : Int) + 1) : Int) = 0 := by rw [u32_and (by omega) (by omega)]; exact and_none hhas
  have hbor : Go.bits .or .u32 (set : Int) (digit ((q : Int) + 1) : Int) = ((set ||| digit ((q : Int) + 1) : Nat) : Int) := u32_or (by omega) (by omega)
  have HX : Hid (extendP i cn ⟨la, leave, load, opn, set, cost⟩ ((q : Int) + 1) = if (stopAt i ((q : Int) + 1)).c < max (leave + way i la ((q : Int) + 1)) (stopAt i ((q : Int) + 1)).o ∨ load + (stopAt i ((q : Int) + 1)).d < 0 ∨ (carAt i cn).c < load + (stopAt i ((q : Int) + 1)).d then none
      else (opnP i opn ((q : Int) + 1)).map fun o => ⟨(q : Int) + 1, max (leave + way i la ((q : Int) + 1)) (stopAt i ((q : Int) + 1)).o + (stopAt i ((q : Int) + 1)).s, load + (stopAt i ((q : Int) + 1)).d, o, set ||| digit ((q : Int) + 1), cost + way i la ((q : Int) + 1)⟩) := by
    show _ = _
    unfold extendP ExtOk beginP
    simp only [hin, hhas, true_and]
    split
    · next a => rw [if_neg (by omega)]
    · next a => rw [if_pos (by omega)]
  have hwb := way_bounds hf la ((q : Int) + 1)
  have hsb := stopAt_bounds hf ((q : Int) + 1)
  have hcb := carAt_bounds hf cn
  clear hs hf hin hok
  go_enter Try.func38, Try.ntmps38
  go_upto_region 1 with (fail)
  generalize ((w.alloc (.cells #[.slice A1 i.cars.length c1, .slice A2 i.stops.length c2, .slice A3 i.pairs.length c3, .slice A4 i.travel.length c4] 27)).alloc (.cells #[.bool true, .int .i64 la, .int .i64 leave, .int .i64 load, .int .u32 (opn : Nat), .int .u32 (set : Nat), .int .i64 cost] 64)).alloc (.cells #[.bool false, .int .i64 0, .int .i64 0, .int .i64 0, .int .u32 0, .int .u32 0, .int .i64 0] 64) = wa at *
  have hRw : w.heap.size ≤ w.heap.size + 1 + 1 := by omega
  generalize w.heap.size + 1 + 1 = R at *
  generalize w.heap.size + 1 = H at *
  have k0 := ES0.out.box.b0
  have k1 := ES0.out.box.b1
  have k2 := ES0.out.box.b2
  have k3 := ES0.out.box.b3
  have o0 := ES0.out.hb.cell (j := 0) rfl
  have o5 := ES0.out.hb.cell (j := 5) rfl
  refine wp_region_z (S := (fun W => W.cell? ⟨w.heap.size, 0, none⟩ = some (.slice A1 i.cars.length c1) ∧ W.cell? ⟨w.heap.size, 1, none⟩ = some (.slice A2 i.stops.length c2) ∧ W.cell? ⟨w.heap.size, 2, none⟩ = some (.slice A3 i.pairs.length c3) ∧ W.cell? ⟨w.heap.size, 3, none⟩ = some (.slice A4 i.travel.length c4) ∧ W.cell? ⟨H, 0, none⟩ = some (.bool true) ∧ W.cell? ⟨H, 5, none⟩ = some (.int .u32 (set : Nat)))) (z := 25) (by kernel_rfl) (⟨k0, k1, k2, k3, o0, o5⟩) (fun hH => ?_)
  refine wpAnyZ_takeS (i := 0) (v := ?_) rfl (by kernel_rfl) (by kernel_rfl) (by kernel_rfl) (by kernel_rfl) (fun _ _ _ h => h) (gives_value (by rfl) ?_) (by assumption) ?_
  rotate_left
  · intro w hSw
    (try dsimp only at hSw)
    go_simp
    (try with_reducible rfl)
  (try simp only [Act.put, List.getElem_toArray, List.getElem_cons_succ, List.getElem_cons_zero, List.setIfInBounds_toArray, List.set_cons_zero, List.set_cons_succ])
  refine wpAnyZ_takeS (i := 1) (v := ?_) rfl (by kernel_rfl) (by kernel_rfl) (by kernel_rfl) (by kernel_rfl) (fun _ _ _ h => h) (gives_value (by rfl) ?_) (by assumption) ?_
  rotate_left
  · intro w hSw
    (try dsimp only at hSw)
    go_simp
    (try with_reducible rfl)
  (try simp only [Act.put, List.getElem_toArray, List.getElem_cons_succ, List.getElem_cons_zero, List.setIfInBounds_toArray, List.set_cons_zero, List.set_cons_succ])
  refine wpAnyZ_one (i := 2) (by kernel_rfl) ?_
  refine zstep rfl (fun K hK => ?_)
  go_simp
  (with_reducible refine (KC.out _ ES0.out.below.drew).mono ?_)
  rintro e w1 ⟨rfl, hb1⟩
  have ES1 := Lib.hid (ES0.out.on (((Below.refl wa.heap.size wa).drew).trans hb1))
  clear hb1
  refine hK.out _ _ (fun _ => ⟨ES1.out.box.b0, ES1.out.box.b1, ES1.out.box.b2, ES1.out.box.b3, ES1.out.hb.cell (j := 0) rfl, ES1.out.hb.cell (j := 5) rfl⟩) (fun hH => ?_)
  replace hH := hH (by decide)
  clear hK K
  (try simp only [Act.put, List.getElem_toArray, List.getElem_cons_succ, List.getElem_cons_zero, List.setIfInBounds_toArray, List.set_cons_zero, List.set_cons_succ])
  refine wpAnyZ_takeS (i := 3) (v := ?_) rfl (by kernel_rfl) (by kernel_rfl) (by kernel_rfl) (by kernel_rfl) (fun _ _ _ h => h) (gives_value (by rfl) ?_) (by assumption) ?_
  rotate_left
  · intro w hSw
    (try dsimp only at hSw)
    go_simp
    (try with_reducible rfl)
  (try simp only [Act.put, List.getElem_toArray, List.getElem_cons_succ, List.getElem_cons_zero, List.setIfInBounds_toArray, List.set_cons_zero, List.set_cons_succ])
  refine wpAnyZ_takeS (i := 4) (v := ?_) rfl (by kernel_rfl) (by kernel_rfl) (by kernel_rfl) (by kernel_rfl) (fun _ _ _ h => h) (gives_value (by rfl) ?_) (by assumption) ?_
  rotate_left
  · intro w hSw
    (try dsimp only at hSw)
    go_simp
    (try with_reducible rfl)
  (try simp only [Act.put, List.getElem_toArray, List.getElem_cons_succ, List.getElem_cons_zero, List.setIfInBounds_toArray, List.set_cons_zero, List.set_cons_succ])
  refine wpAnyZ_takeS (i := 5) (v := ?_) rfl (by kernel_rfl) (by kernel_rfl) (by kernel_rfl) (by kernel_rfl) (fun _ _ _ h => h) (gives_value (by rfl) ?_) (by assumption) ?_
  rotate_left
  · intro w hSw
    (try dsimp only at hSw)
    go_simp
    (try with_reducible rfl)
  (try simp only [Act.put, List.getElem_toArray, List.getElem_cons_succ, List.getElem_cons_zero, List.setIfInBounds_toArray, List.set_cons_zero, List.set_cons_succ])
  refine wpAnyZ_takeS (i := 6) (v := ?_) rfl (by kernel_rfl) (by kernel_rfl) (by kernel_rfl) (by kernel_rfl) (fun _ _ _ h => h) (gives_value (by rfl) ?_) (by assumption) ?_
  rotate_left
  · intro w hSw
    (try dsimp only at hSw)
    go_simp
    (try with_reducible rfl)
  (try simp only [Act.put, List.getElem_toArray, List.getElem_cons_succ, List.getElem_cons_zero, List.setIfInBounds_toArray, List.set_cons_zero, List.set_cons_succ])
  refine wpAnyZ_takeS (i := 7) (v := ?_) rfl (by kernel_rfl) (by kernel_rfl) (by kernel_rfl) (by kernel_rfl) (fun _ _ _ h => h) (gives_value (by rfl) ?_) (by assumption) ?_
  rotate_left
  · intro w hSw
    (try dsimp only at hSw)
    go_simp
    (try with_reducible rfl)
  (try simp only [Act.put, List.getElem_toArray, List.getElem_cons_succ, List.getElem_cons_zero, List.setIfInBounds_toArray, List.set_cons_zero, List.set_cons_succ])
  refine wpAnyZ_takeS (i := 8) (v := ?_) rfl (by kernel_rfl) (by kernel_rfl) (by kernel_rfl) (by kernel_rfl) (fun _ _ _ h => h) (gives_value (by rfl) ?_) (by assumption) ?_
  rotate_left
  · intro w hSw
    (try dsimp only at hSw)
    go_simp
    (try with_reducible rfl)
  (try simp only [Act.put, List.getElem_toArray, List.getElem_cons_succ, List.getElem_cons_zero, List.setIfInBounds_toArray, List.set_cons_zero, List.set_cons_succ])
  refine wpAnyZ_takeS (i := 9) (v := ?_) rfl (by kernel_rfl) (by kernel_rfl) (by kernel_rfl) (by kernel_rfl) (fun _ _ _ h => h) (gives_value (by rfl) ?_) (by assumption) ?_
  rotate_left
  · intro w hSw
    (try dsimp only at hSw)
    go_simp
    (try with_reducible rfl)
  (try simp only [Act.put, List.getElem_toArray, List.getElem_cons_succ, List.getElem_cons_zero, List.setIfInBounds_toArray, List.set_cons_zero, List.set_cons_succ])
  refine wpAnyZ_takeS (i := 10) (v := ?_) rfl (by kernel_rfl) (by kernel_rfl) (by kernel_rfl) (by kernel_rfl) (fun _ _ _ h => h) (gives_value (by rfl) ?_) (by assumption) ?_
  rotate_left
  · intro w hSw
    (try dsimp only at hSw)
    go_simp
    (try with_reducible rfl)
  (try simp only [Act.put, List.getElem_toArray, List.getElem_cons_succ, List.getElem_cons_zero, List.setIfInBounds_toArray, List.set_cons_zero, List.set_cons_succ])
  refine wpAnyZ_takeS (i := 11) (v := ?_) rfl (by kernel_rfl) (by kernel_rfl) (by kernel_rfl) (by kernel_rfl) (fun _ _ _ h => h) (gives_value (by rfl) ?_) (by assumption) ?_
  rotate_left
  · intro w hSw
    (try dsimp only at hSw)
    go_simp
    (try with_reducible rfl)
  (try simp only [Act.put, List.getElem_toArray, List.getElem_cons_succ, List.getElem_cons_zero, List.setIfInBounds_toArray, List.set_cons_zero, List.set_cons_succ])
  refine wpAnyZ_takeS (i := 12) (v := ?_) rfl (by kernel_rfl) (by kernel_rfl) (by kernel_rfl) (by kernel_rfl) (fun _ _ _ h => h) (gives_value (by rfl) ?_) (by assumption) ?_
  rotate_left
  · intro w hSw
    (try dsimp only at hSw)
    go_simp
    (try with_reducible rfl)
  (try simp only [Act.put, List.getElem_toArray, List.getElem_cons_succ, List.getElem_cons_zero, List.setIfInBounds_toArray, List.set_cons_zero, List.set_cons_succ])
  refine wpAnyZ_takeS (i := 13) (v := ?_) rfl (by kernel_rfl) (by kernel_rfl) (by kernel_rfl) (by kernel_rfl) (fun _ _ _ h => h) (gives_value (by rfl) ?_) (by assumption) ?_
  rotate_left
  · intro w hSw
    (try dsimp only at hSw)
    go_simp
    (try with_reducible rfl)
  (try simp only [Act.put, List.getElem_toArray, List.getElem_cons_succ, List.getElem_cons_zero, List.setIfInBounds_toArray, List.set_cons_zero, List.set_cons_succ])
  refine wpAnyZ_takeS (i := 14) (v := .bool true) rfl (by kernel_rfl) (by kernel_rfl) (by kernel_rfl) (by kernel_rfl) (fun _ _ _ h => h) (gives_call (by rfl) ?_ (fun w _ => KW.out w)) (by assumption) ?_
  · intro w
    go_simp
    (try with_reducible rfl)
  (try simp only [Act.put, List.getElem_toArray, List.getElem_cons_succ, List.getElem_cons_zero, List.setIfInBounds_toArray, List.set_cons_zero, List.set_cons_succ])
  refine wpAnyZ_takeS (i := 15) (v := ?_) rfl (by kernel_rfl) (by kernel_rfl) (by kernel_rfl) (by kernel_rfl) (fun _ _ _ h => h) (gives_value (by rfl) ?_) (by assumption) ?_
  rotate_left
  · intro w hSw
    (try dsimp only at hSw)
    go_simp
    (try with_reducible rfl)
  (try simp only [Act.put, List.getElem_toArray, List.getElem_cons_succ, List.getElem_cons_zero, List.setIfInBounds_toArray, List.set_cons_zero, List.set_cons_succ])
  refine wpAnyZ_takeS (i := 16) (v := ?_) rfl (by kernel_rfl) (by kernel_rfl) (by kernel_rfl) (by kernel_rfl) (fun _ _ _ h => h) (gives_value (by rfl) ?_) (by assumption) ?_
  rotate_left
  · intro w hSw
    (try dsimp only at hSw)
    go_simp
    (try with_reducible rfl)
  (try simp only [Act.put, List.getElem_toArray, List.getElem_cons_succ, List.getElem_cons_zero, List.setIfInBounds_toArray, List.set_cons_zero, List.set_cons_succ])
  refine wpAnyZ_takeS (i := 17) (v := ?_) rfl (by kernel_rfl) (by kernel_rfl) (by kernel_rfl) (by kernel_rfl) (fun _ _ _ h => h) (gives_value (by rfl) ?_) (by assumption) ?_
  rotate_left
  · intro w hSw
    (try dsimp only at hSw)
    go_simp
    (try with_reducible rfl)
  (try simp only [Act.put, List.getElem_toArray, List.getElem_cons_succ, List.getElem_cons_zero, List.setIfInBounds_toArray, List.set_cons_zero, List.set_cons_succ])
  refine wpAnyZ_takeS (i := 18) (v := ?_) rfl (by kernel_rfl) (by kernel_rfl) (by kernel_rfl) (by kernel_rfl) (fun _ _ _ h => h) (gives_value (by rfl) ?_) (by assumption) ?_
  rotate_left
  · intro w hSw
    (try dsimp only at hSw)
    go_simp
    (try with_reducible rfl)
  (try simp only [Act.put, List.getElem_toArray, List.getElem_cons_succ, List.getElem_cons_zero, List.setIfInBounds_toArray, List.set_cons_zero, List.set_cons_succ])
  refine wpAnyZ_takeS (i := 19) (v := ?_) rfl (by kernel_rfl) (by kernel_rfl) (by kernel_rfl) (by kernel_rfl) (fun _ _ _ h => h) (gives_value (by rfl) ?_) (by assumption) ?_
  rotate_left
  · intro w hSw
    (try dsimp only at hSw)
    go_simp
    (try with_reducible rfl)
  (try simp only [Act.put, List.getElem_toArray, List.getElem_cons_succ, List.getElem_cons_zero, List.setIfInBounds_toArray, List.set_cons_zero, List.set_cons_succ])
  refine wpAnyZ_takeS (i := 20) (v := ?_) rfl (by kernel_rfl) (by kernel_rfl) (by kernel_rfl) (by kernel_rfl) (fun _ _ _ h => h) (gives_value (by rfl) ?_) (by assumption) ?_
  rotate_left
  · intro w hSw
    (try dsimp only at hSw)
    go_simp
    (try with_reducible rfl)
  (try simp only [Act.put, List.getElem_toArray, List.getElem_cons_succ, List.getElem_cons_zero, List.setIfInBounds_toArray, List.set_cons_zero, List.set_cons_succ])
  refine wpAnyZ_takeS (i := 21) (v := .int .u32 (digit ((q : Int) + 1) : Nat)) rfl (by kernel_rfl) (by kernel_rfl) (by kernel_rfl) (by kernel_rfl) (fun _ _ _ h => h) (gives_call (by rfl) ?_ (fun w _ => KD.out w)) (by assumption) ?_
  · intro w
    go_simp
    (try with_reducible rfl)
  (try simp only [Act.put, List.getElem_toArray, List.getElem_cons_succ, List.getElem_cons_zero, List.setIfInBounds_toArray, List.set_cons_zero, List.set_cons_succ])
  refine wpAnyZ_takeS (i := 22) (v := ?_) rfl (by kernel_rfl) (by kernel_rfl) (by kernel_rfl) (by kernel_rfl) (fun _ _ _ h => h) (gives_value (by rfl) ?_) (by assumption) ?_
  rotate_left
  · intro w hSw
    (try dsimp only at hSw)
    go_simp
    (try with_reducible rfl)
  (try simp only [Act.put, List.getElem_toArray, List.getElem_cons_succ, List.getElem_cons_zero, List.setIfInBounds_toArray, List.set_cons_zero, List.set_cons_succ])
  refine wpAnyZ_takeS (i := 23) (v := ?_) rfl (by kernel_rfl) (by kernel_rfl) (by kernel_rfl) (by kernel_rfl) (fun _ _ _ h => h) (gives_value (by rfl) ?_) (by assumption) ?_
  rotate_left
  · intro w hSw
    (try dsimp only at hSw)
    go_simp
    (try with_reducible rfl)
  (try simp only [Act.put, List.getElem_toArray, List.getElem_cons_succ, List.getElem_cons_zero, List.setIfInBounds_toArray, List.set_cons_zero, List.set_cons_succ])
  refine wpAnyZ_takeS (i := 24) (v := ?_) rfl (by kernel_rfl) (by kernel_rfl) (by kernel_rfl) (by kernel_rfl) (fun _ _ _ h => h) (gives_value (by rfl) ?_) (by assumption) ?_
  rotate_left
  · intro w hSw
    (try dsimp only at hSw)
    go_simp
    (try with_reducible rfl)
  (try simp only [Act.put, List.getElem_toArray, List.getElem_cons_succ, List.getElem_cons_zero, List.setIfInBounds_toArray, List.set_cons_zero, List.set_cons_succ])
  refine wpAnyZ_done (by kernel_rfl) ?_ _
  clear k0 k1 k2 k3 o0 o5 ES0 KC KW hH
  obtain ⟨B4, o4, rfl, hB4, s0, s1, s2, s3⟩ := said_stop ES1.out.box.lies hq
  obtain ⟨B1, o1, cap2, B2, o2, rfl, hB1, d1, hB2, d2⟩ := said_way ES1.out.box.lies HF.out (a := la) (b := q + 1) hla (by omega)
  rw [show ((q + 1 : Nat) : Int) = (q : Int) + 1 by omega] at d2
  obtain ⟨B3, o3, rfl, hB3, e0, _, _⟩ := said_car ES1.out.box.lies hcn
  generalize (carAt i cn).c = cap at *
  generalize stopAt i ((q : Int) + 1) = st at *
  obtain ⟨sd, so, sc, ss⟩ := st
  simp only at s0 s1 s2 s3 hsb HX
  generalize way i la ((q : Int) + 1) = y at *
  have k1 := ES1.out.box.b1
  have hIz := ES1.out.box.lt
  go_upto_region 4 with (fail)
  have BX := Lib.hid (blk_new w1 #[.int .i64 sd, .int .i64 so, .int .i64 sc, .int .i64 ss] 55)
  have HBx := Lib.hid ((Below.refl w1.heap.size w1).alloc (Nat.le_refl _) (.cells #[.int .i64 sd, .int .i64 so, .int .i64 sc, .int .i64 ss] 55))
  have ES2 := Lib.hid (ES1.out.on HBx.out)
  replace d1 := cell_up HBx.out hB1 d1
  replace d2 := cell_up HBx.out hB2 d2
  replace e0 := cell_up HBx.out hB3 e0
  have zz := HBx.out.size
  replace hB1 := Nat.lt_of_lt_of_le hB1 zz
  replace hB2 := Nat.lt_of_lt_of_le hB2 zz
  replace hB3 := Nat.lt_of_lt_of_le hB3 zz
  clear s0 s1 s2 s3 k1 hIz ES1 HBx hB4 zz
  generalize w1.alloc (.cells #[.int .i64 sd, .int .i64 so, .int .i64 sc, .int .i64 ss] 55) = wx at *
  generalize w1.heap.size = X at *
  have b1 := BX.out.cell (j := 1) rfl
  have hXz := BX.out.1
  have k3 := ES2.out.box.b3
  have hIz := ES2.out.box.lt
  have p1 := ES2.out.hb.cell (j := 1) rfl
  have p2 := ES2.out.hb.cell (j := 2) rfl
  have hHz := ES2.out.hb.1
  have n0 : (0 : Int) ≤ (la : Int) := by omega
  have n1 : (la : Int) < (i.travel.length : Int) := by have := HF.out.travel; omega
  have n2 : (la : Int).toNat = la := by omega
  have n3 : (0 : Int) ≤ (q : Int) + 1 := by omega
  have n4 : (q : Int) + 1 < ((i.stops.length + 1 : Nat) : Int) := by omega
  have n4' : (q : Int) + 1 < (i.stops.length : Int) + 1 := by omega
  have n5 : ((q : Int) + 1).toNat = q + 1 := by omega
  have hw1 : IntKind.i64.wrap (leave + y) = leave + y := IntWalk.i64_in _ (by omega)
  go_quiet (fail)
  go_upto_region 5 with (fail)
  generalize hbe : (if leave + y < so then so else leave + y) = b at *
  have hmx : max (leave + y) so = b := by rw [← hbe]; split <;> omega
  rw [hmx] at HX
  have hb0 : 0 ≤ b := by omega
  have hb1 : b ≤ 4000 := by omega
  clear hbe hmx b1 k3 p1 p2 hIz hHz hXz hw1
  have HBy := Lib.hid (below_draws' (Below.refl wx.heap.size wx) nq)
  have ES3 := Lib.hid (ES2.out.on HBy.out)
  replace BX := Lib.hid (BX.out.below HBy.out)
  replace d1 := cell_up HBy.out hB1 d1
  replace d2 := cell_up HBy.out hB2 d2
  replace e0 := cell_up HBy.out hB3 e0
  have zz := HBy.out.size
  replace hB1 := Nat.lt_of_lt_of_le hB1 zz
  replace hB2 := Nat.lt_of_lt_of_le hB2 zz
  replace hB3 := Nat.lt_of_lt_of_le hB3 zz
  clear ES2 HBy zz
  generalize wx.drewN nq = wy at *
  have SS : Hid (∀ W, Below wy.heap.size wy W → W.cell? ⟨X, 0, none⟩ = some (.int .i64 sd) ∧ W.cell? ⟨X, 3, none⟩ = some (.int .i64 ss) ∧ W.cell? ⟨H, 1, none⟩ = some (.int .i64 la) ∧ W.cell? ⟨H, 3, none⟩ = some (.int .i64 load) ∧ W.cell? ⟨H, 4, none⟩ = some (.int .u32 (opn : Nat)) ∧ W.cell? ⟨H, 5, none⟩ = some (.int .u32 (set : Nat)) ∧ W.cell? ⟨H, 6, none⟩ = some (.int .i64 cost) ∧ W.cell? ⟨w.heap.size, 3, none⟩ = some (.slice (some ⟨B1, o1, none⟩) i.travel.length c4) ∧
      W.cell? ⟨B1, o1 + la, none⟩ = some (.slice (some ⟨B2, o2, none⟩) (i.stops.length + 1) cap2) ∧ W.cell? ⟨B2, o2 + (q + 1), none⟩ = some (.int .i64 y)) := fun W hB =>
    ⟨(BX.out.below hB).cell (j := 0) rfl, (BX.out.below hB).cell (j := 3) rfl, (ES3.out.hb.below hB).cell (j := 1) rfl, (ES3.out.hb.below hB).cell (j := 3) rfl, (ES3.out.hb.below hB).cell (j := 4) rfl, (ES3.out.hb.below hB).cell (j := 5) rfl, (ES3.out.hb.below hB).cell (j := 6) rfl, (ES3.out.box.below hB).b3, cell_up hB hB1 d1, cell_up hB hB2 d2⟩
  have hw2 : IntKind.i64.wrap (b + ss) = b + ss := IntWalk.i64_in _ (by omega)
  have hw3 : IntKind.i64.wrap (load + sd) = load + sd := IntWalk.i64_in _ (by omega)
  have hw4 : IntKind.i64.wrap (cost + y) = cost + y := IntWalk.i64_in _ (by omega)
  refine wp_region_z (S := (fun W => W.cell? ⟨X, 0, none⟩ = some (.int .i64 sd) ∧ W.cell? ⟨X, 3, none⟩ = some (.int .i64 ss) ∧ W.cell? ⟨H, 1, none⟩ = some (.int .i64 la) ∧ W.cell? ⟨H, 3, none⟩ = some (.int .i64 load) ∧ W.cell? ⟨H, 4, none⟩ = some (.int .u32 (opn : Nat)) ∧ W.cell? ⟨H, 5, none⟩ = some (.int .u32 (set : Nat)) ∧ W.cell? ⟨H, 6, none⟩ = some (.int .i64 cost) ∧ W.cell? ⟨w.heap.size, 3, none⟩ = some (.slice (some ⟨B1, o1, none⟩) i.travel.length c4) ∧
      W.cell? ⟨B1, o1 + la, none⟩ = some (.slice (some ⟨B2, o2, none⟩) (i.stops.length + 1) cap2) ∧ W.cell? ⟨B2, o2 + (q + 1), none⟩ = some (.int .i64 y))) (z := 32) (by kernel_rfl) (SS.out _ (Below.refl _ _).drew) (fun hH => ?_)
  refine wpAnyZ_takeS (i := 0) (v := ?_) rfl (by kernel_rfl) (by kernel_rfl) (by kernel_rfl) (by kernel_rfl) (fun _ _ _ h => h) (gives_value (by rfl) ?_) (by assumption) ?_
  rotate_left
  · intro w hSw
    (try dsimp only at hSw)
    go_simp
    (try with_reducible rfl)
  (try simp only [Act.put, List.getElem_toArray, List.getElem_cons_succ, List.getElem_cons_zero, List.setIfInBounds_toArray, List.set_cons_zero, List.set_cons_succ])
  refine wpAnyZ_takeS (i := 1) (v := ?_) rfl (by kernel_rfl) (by kernel_rfl) (by kernel_rfl) (by kernel_rfl) (fun _ _ _ h => h) (gives_value (by rfl) ?_) (by assumption) ?_
  rotate_left
  · intro w hSw
    (try dsimp only at hSw)
    go_simp
    (try with_reducible rfl)
  (try simp only [Act.put, List.getElem_toArray, List.getElem_cons_succ, List.getElem_cons_zero, List.setIfInBounds_toArray, List.set_cons_zero, List.set_cons_succ])
  refine wpAnyZ_takeS (i := 2) (v := ?_) rfl (by kernel_rfl) (by kernel_rfl) (by kernel_rfl) (by kernel_rfl) (fun _ _ _ h => h) (gives_value (by rfl) ?_) (by assumption) ?_
  rotate_left
  · intro w hSw
    (try dsimp only at hSw)
    go_simp
    (try with_reducible rfl)
  (try simp only [Act.put, List.getElem_toArray, List.getElem_cons_succ, List.getElem_cons_zero, List.setIfInBounds_toArray, List.set_cons_zero, List.set_cons_succ])
  refine wpAnyZ_takeS (i := 3) (v := ?_) rfl (by kernel_rfl) (by kernel_rfl) (by kernel_rfl) (by kernel_rfl) (fun _ _ _ h => h) (gives_value (by rfl) ?_) (by assumption) ?_
  rotate_left
  · intro w hSw
    (try dsimp only at hSw)
    go_simp
    (try with_reducible rfl)
  (try simp only [Act.put, List.getElem_toArray, List.getElem_cons_succ, List.getElem_cons_zero, List.setIfInBounds_toArray, List.set_cons_zero, List.set_cons_succ])
  refine wpAnyZ_takeS (i := 4) (v := ?_) rfl (by kernel_rfl) (by kernel_rfl) (by kernel_rfl) (by kernel_rfl) (fun _ _ _ h => h) (gives_value (by rfl) ?_) (by assumption) ?_
  rotate_left
  · intro w hSw
    (try dsimp only at hSw)
    go_simp
    (try with_reducible rfl)
  (try simp only [Act.put, List.getElem_toArray, List.getElem_cons_succ, List.getElem_cons_zero, List.setIfInBounds_toArray, List.set_cons_zero, List.set_cons_succ])
  refine wpAnyZ_takeS (i := 5) (v := ?_) rfl (by kernel_rfl) (by kernel_rfl) (by kernel_rfl) (by kernel_rfl) (fun _ _ _ h => h) (gives_value (by rfl) ?_) (by assumption) ?_
  rotate_left
  · intro w hSw
    (try dsimp only at hSw)
    go_simp
    (try with_reducible rfl)
  (try simp only [Act.put, List.getElem_toArray, List.getElem_cons_succ, List.getElem_cons_zero, List.setIfInBounds_toArray, List.set_cons_zero, List.set_cons_succ])
  refine wpAnyZ_takeS (i := 6) (v := ?_) rfl (by kernel_rfl) (by kernel_rfl) (by kernel_rfl) (by kernel_rfl) (fun _ _ _ h => h) (gives_value (by rfl) ?_) (by assumption) ?_
  rotate_left
  · intro w hSw
    (try dsimp only at hSw)
    go_simp
    (try with_reducible rfl)
  (try simp only [Act.put, List.getElem_toArray, List.getElem_cons_succ, List.getElem_cons_zero, List.setIfInBounds_toArray, List.set_cons_zero, List.set_cons_succ])
  refine wpAnyZ_takeS (i := 7) (v := ?_) rfl (by kernel_rfl) (by kernel_rfl) (by kernel_rfl) (by kernel_rfl) (fun _ _ _ h => h) (gives_value (by rfl) ?_) (by assumption) ?_
  rotate_left
  · intro w hSw
    (try dsimp only at hSw)
    go_simp
    (try with_reducible rfl)
  (try simp only [Act.put, List.getElem_toArray, List.getElem_cons_succ, List.getElem_cons_zero, List.setIfInBounds_toArray, List.set_cons_zero, List.set_cons_succ])
  refine wpAnyZ_takeS (i := 8) (v := ?_) rfl (by kernel_rfl) (by kernel_rfl) (by kernel_rfl) (by kernel_rfl) (fun _ _ _ h => h) (gives_value (by rfl) ?_) (by assumption) ?_
  rotate_left
  · intro w hSw
    (try dsimp only at hSw)
    go_simp
    (try with_reducible rfl)
  (try simp only [Act.put, List.getElem_toArray, List.getElem_cons_succ, List.getElem_cons_zero, List.setIfInBounds_toArray, List.set_cons_zero, List.set_cons_succ])
  refine wpAnyZ_takeS (i := 9) (v := ?_) rfl (by kernel_rfl) (by kernel_rfl) (by kernel_rfl) (by kernel_rfl) (fun _ _ _ h => h) (gives_value (by rfl) ?_) (by assumption) ?_
  rotate_left
  · intro w hSw
    (try dsimp only at hSw)
    go_simp
    (try with_reducible rfl)
  (try simp only [Act.put, List.getElem_toArray, List.getElem_cons_succ, List.getElem_cons_zero, List.setIfInBounds_toArray, List.set_cons_zero, List.set_cons_succ])
  refine wpAnyZ_takeS (i := 10) (v := ?_) rfl (by kernel_rfl) (by kernel_rfl) (by kernel_rfl) (by kernel_rfl) (fun _ _ _ h => h) (gives_value (by rfl) ?_) (by assumption) ?_
  rotate_left
  · intro w hSw
    (try dsimp only at hSw)
    go_simp
    (try with_reducible rfl)
  (try simp only [Act.put, List.getElem_toArray, List.getElem_cons_succ, List.getElem_cons_zero, List.setIfInBounds_toArray, List.set_cons_zero, List.set_cons_succ])
  refine wpAnyZ_takeS (i := 11) (v := ?_) rfl (by kernel_rfl) (by kernel_rfl) (by kernel_rfl) (by kernel_rfl) (fun _ _ _ h => h) (gives_value (by rfl) ?_) (by assumption) ?_
  rotate_left
  · intro w hSw
    (try dsimp only at hSw)
    go_simp
    (try with_reducible rfl)
  (try simp only [Act.put, List.getElem_toArray, List.getElem_cons_succ, List.getElem_cons_zero, List.setIfInBounds_toArray, List.set_cons_zero, List.set_cons_succ])
  refine wpAnyZ_takeS (i := 12) (v := ?_) rfl (by kernel_rfl) (by kernel_rfl) (by kernel_rfl) (by kernel_rfl) (fun _ _ _ h => h) (gives_value (by rfl) ?_) (by assumption) ?_
  rotate_left
  · intro w hSw
    (try dsimp only at hSw)
    go_simp
    (try with_reducible rfl)
  (try simp only [Act.put, List.getElem_toArray, List.getElem_cons_succ, List.getElem_cons_zero, List.setIfInBounds_toArray, List.set_cons_zero, List.set_cons_succ])
  refine wpAnyZ_takeS (i := 13) (v := ?_) rfl (by kernel_rfl) (by kernel_rfl) (by kernel_rfl) (by kernel_rfl) (fun _ _ _ h => h) (gives_value (by rfl) ?_) (by assumption) ?_
  rotate_left
  · intro w hSw
    (try dsimp only at hSw)
    go_simp
    (try with_reducible rfl)
  (try simp only [Act.put, List.getElem_toArray, List.getElem_cons_succ, List.getElem_cons_zero, List.setIfInBounds_toArray, List.set_cons_zero, List.set_cons_succ])
  refine wpAnyZ_takeS (i := 14) (v := ?_) rfl (by kernel_rfl) (by kernel_rfl) (by kernel_rfl) (by kernel_rfl) (fun _ _ _ h => h) (gives_value (by rfl) ?_) (by assumption) ?_
  rotate_left
  · intro w hSw
    (try dsimp only at hSw)
    go_simp
    (try with_reducible rfl)
  (try simp only [Act.put, List.getElem_toArray, List.getElem_cons_succ, List.getElem_cons_zero, List.setIfInBounds_toArray, List.set_cons_zero, List.set_cons_succ])
  refine wpAnyZ_takeS (i := 15) (v := .int .u32 (digit ((q : Int) + 1) : Nat)) rfl (by kernel_rfl) (by kernel_rfl) (by kernel_rfl) (by kernel_rfl) (fun _ _ _ h => h) (gives_call (by rfl) ?_ (fun w _ => KD.out w)) (by assumption) ?_
  · intro w
    go_simp
    (try with_reducible rfl)
  (try simp only [Act.put, List.getElem_toArray, List.getElem_cons_succ, List.getElem_cons_zero, List.setIfInBounds_toArray, List.set_cons_zero, List.set_cons_succ])
  refine wpAnyZ_takeS (i := 16) (v := ?_) rfl (by kernel_rfl) (by kernel_rfl) (by kernel_rfl) (by kernel_rfl) (fun _ _ _ h => h) (gives_value (by rfl) ?_) (by assumption) ?_
  rotate_left
  · intro w hSw
    (try dsimp only at hSw)
    go_simp
    (try with_reducible rfl)
  (try simp only [Act.put, List.getElem_toArray, List.getElem_cons_succ, List.getElem_cons_zero, List.setIfInBounds_toArray, List.set_cons_zero, List.set_cons_succ])
  refine wpAnyZ_takeS (i := 17) (v := ?_) rfl (by kernel_rfl) (by kernel_rfl) (by kernel_rfl) (by kernel_rfl) (fun _ _ _ h => h) (gives_value (by rfl) ?_) (by assumption) ?_
  rotate_left
  · intro w hSw
    (try dsimp only at hSw)
    go_simp
    (try with_reducible rfl)
  (try simp only [Act.put, List.getElem_toArray, List.getElem_cons_succ, List.getElem_cons_zero, List.setIfInBounds_toArray, List.set_cons_zero, List.set_cons_succ])
  refine wpAnyZ_takeS (i := 18) (v := ?_) rfl (by kernel_rfl) (by kernel_rfl) (by kernel_rfl) (by kernel_rfl) (fun _ _ _ h => h) (gives_value (by rfl) ?_) (by assumption) ?_
  rotate_left
  · intro w hSw
    (try dsimp only at hSw)
    go_simp
    (try with_reducible rfl)
  (try simp only [Act.put, List.getElem_toArray, List.getElem_cons_succ, List.getElem_cons_zero, List.setIfInBounds_toArray, List.set_cons_zero, List.set_cons_succ])
  refine wpAnyZ_takeS (i := 19) (v := ?_) rfl (by kernel_rfl) (by kernel_rfl) (by kernel_rfl) (by kernel_rfl) (fun _ _ _ h => h) (gives_value (by rfl) ?_) (by assumption) ?_
  rotate_left
  · intro w hSw
    (try dsimp only at hSw)
    go_simp
    (try with_reducible rfl)
  (try simp only [Act.put, List.getElem_toArray, List.getElem_cons_succ, List.getElem_cons_zero, List.setIfInBounds_toArray, List.set_cons_zero, List.set_cons_succ])
  refine wpAnyZ_takeS (i := 20) (v := ?_) rfl (by kernel_rfl) (by kernel_rfl) (by kernel_rfl) (by kernel_rfl) (fun _ _ _ h => h) (gives_value (by rfl) ?_) (by assumption) ?_
  rotate_left
  · intro w hSw
    (try dsimp only at hSw)
    go_simp
    (try with_reducible rfl)
  (try simp only [Act.put, List.getElem_toArray, List.getElem_cons_succ, List.getElem_cons_zero, List.setIfInBounds_toArray, List.set_cons_zero, List.set_cons_succ])
  refine wpAnyZ_takeS (i := 21) (v := ?_) rfl (by kernel_rfl) (by kernel_rfl) (by kernel_rfl) (by kernel_rfl) (fun _ _ _ h => h) (gives_value (by rfl) ?_) (by assumption) ?_
  rotate_left
  · intro w hSw
    (try dsimp only at hSw)
    go_simp
    (try with_reducible rfl)
  (try simp only [Act.put, List.getElem_toArray, List.getElem_cons_succ, List.getElem_cons_zero, List.setIfInBounds_toArray, List.set_cons_zero, List.set_cons_succ])
  refine wpAnyZ_takeS (i := 22) (v := ?_) rfl (by kernel_rfl) (by kernel_rfl) (by kernel_rfl) (by kernel_rfl) (fun _ _ _ h => h) (gives_value (by rfl) ?_) (by assumption) ?_
  rotate_left
  · intro w hSw
    (try dsimp only at hSw)
    go_simp
    (try with_reducible rfl)
  (try simp only [Act.put, List.getElem_toArray, List.getElem_cons_succ, List.getElem_cons_zero, List.setIfInBounds_toArray, List.set_cons_zero, List.set_cons_succ])
  refine wpAnyZ_takeS (i := 23) (v := ?_) rfl (by kernel_rfl) (by kernel_rfl) (by kernel_rfl) (by kernel_rfl) (fun _ _ _ h => h) (gives_value (by rfl) ?_) (by assumption) ?_
  rotate_left
  · intro w hSw
    (try dsimp only at hSw)
    go_simp
    (try with_reducible rfl)
  (try simp only [Act.put, List.getElem_toArray, List.getElem_cons_succ, List.getElem_cons_zero, List.setIfInBounds_toArray, List.set_cons_zero, List.set_cons_succ])
  refine wpAnyZ_takeS (i := 24) (v := ?_) rfl (by kernel_rfl) (by kernel_rfl) (by kernel_rfl) (by kernel_rfl) (fun _ _ _ h => h) (gives_value (by rfl) ?_) (by assumption) ?_
  rotate_left
  · intro w hSw
    (try dsimp only at hSw)
    go_simp
    (try with_reducible rfl)
  (try simp only [Act.put, List.getElem_toArray, List.getElem_cons_succ, List.getElem_cons_zero, List.setIfInBounds_toArray, List.set_cons_zero, List.set_cons_succ])
  refine wpAnyZ_takeS (i := 25) (v := ?_) rfl (by kernel_rfl) (by kernel_rfl) (by kernel_rfl) (by kernel_rfl) (fun _ _ _ h => h) (gives_value (by rfl) ?_) (by assumption) ?_
  rotate_left
  · intro w hSw
    (try dsimp only at hSw)
    go_simp
    (try with_reducible rfl)
  (try simp only [Act.put, List.getElem_toArray, List.getElem_cons_succ, List.getElem_cons_zero, List.setIfInBounds_toArray, List.set_cons_zero, List.set_cons_succ])
  refine wpAnyZ_takeS (i := 26) (v := ?_) rfl (by kernel_rfl) (by kernel_rfl) (by kernel_rfl) (by kernel_rfl) (fun _ _ _ h => h) (gives_value (by rfl) ?_) (by assumption) ?_
  rotate_left
  · intro w hSw
    (try dsimp only at hSw)
    go_simp
    (try with_reducible rfl)
  (try simp only [Act.put, List.getElem_toArray, List.getElem_cons_succ, List.getElem_cons_zero, List.setIfInBounds_toArray, List.set_cons_zero, List.set_cons_succ])
  refine wpAnyZ_takeS (i := 27) (v := ?_) rfl (by kernel_rfl) (by kernel_rfl) (by kernel_rfl) (by kernel_rfl) (fun _ _ _ h => h) (gives_value (by rfl) ?_) (by assumption) ?_
  rotate_left
  · intro w hSw
    (try dsimp only at hSw)
    go_simp
    (try with_reducible rfl)
  (try simp only [Act.put, List.getElem_toArray, List.getElem_cons_succ, List.getElem_cons_zero, List.setIfInBounds_toArray, List.set_cons_zero, List.set_cons_succ])
  refine wpAnyZ_takeS (i := 28) (v := ?_) rfl (by kernel_rfl) (by kernel_rfl) (by kernel_rfl) (by kernel_rfl) (fun _ _ _ h => h) (gives_value (by rfl) ?_) (by assumption) ?_
  rotate_left
  · intro w hSw
    (try dsimp only at hSw)
    go_simp
    (try with_reducible rfl)
  (try simp only [Act.put, List.getElem_toArray, List.getElem_cons_succ, List.getElem_cons_zero, List.setIfInBounds_toArray, List.set_cons_zero, List.set_cons_succ])
  refine wpAnyZ_takeS (i := 29) (v := ?_) rfl (by kernel_rfl) (by kernel_rfl) (by kernel_rfl) (by kernel_rfl) (fun _ _ _ h => h) (gives_value (by rfl) ?_) (by assumption) ?_
  rotate_left
  · intro w hSw
    (try dsimp only at hSw)
    go_simp
    (try with_reducible rfl)
  (try simp only [Act.put, List.getElem_toArray, List.getElem_cons_succ, List.getElem_cons_zero, List.setIfInBounds_toArray, List.set_cons_zero, List.set_cons_succ])
  refine wpAnyZ_one (i := 30) (by kernel_rfl) ?_
  refine zstep rfl (fun K hK => ?_)
  go_simp
  have HBg := Lib.hid (((Below.refl wy.heap.size wy).alloc (Nat.le_refl _) (.cells #[.bool false, .int .i64 0, .int .i64 0, .int .i64 0, .int .u32 0, .int .u32 0, .int .i64 0] 64)).drew)
  have BG := Lib.hid ((blk_new wy #[.bool false, .int .i64 0, .int .i64 0, .int .i64 0, .int .u32 0, .int .u32 0, .int .i64 0] 64).drew)
  refine hK.out _ _ (fun _ => SS.out _ HBg.out) (fun hH => ?_)
  replace hH := hH (by decide)
  clear hK K
  (try simp only [Act.put, List.getElem_toArray, List.getElem_cons_succ, List.getElem_cons_zero, List.setIfInBounds_toArray, List.set_cons_zero, List.set_cons_succ])

  generalize (wy.alloc (.cells #[.bool false, .int .i64 0, .int .i64 0, .int .i64 0, .int .u32 0, .int .u32 0, .int .i64 0] 64)).drew = wg at *
  refine wpAnyZ_one (i := 31) (by kernel_rfl) ?_
  refine zstep rfl (fun K hK => ?_)
  have g0 := BG.out.cell (j := 0) rfl
  have f0 := (BG.out.2 0 (by simp)).2
  have g1 := BG.out.cell (j := 1) rfl
  have f1 := (BG.out.2 1 (by simp)).2
  have g2 := BG.out.cell (j := 2) rfl
  have f2 := (BG.out.2 2 (by simp)).2
  have g3 := BG.out.cell (j := 3) rfl
  have f3 := (BG.out.2 3 (by simp)).2
  have g4 := BG.out.cell (j := 4) rfl
  have f4 := (BG.out.2 4 (by simp)).2
  have g5 := BG.out.cell (j := 5) rfl
  have f5 := (BG.out.2 5 (by simp)).2
  have g6 := BG.out.cell (j := 6) rfl
  have f6 := (BG.out.2 6 (by simp)).2
  have hGl := BG.out.1
  go_simp
  clear g0 g1 g2 g3 g4 g5 g6 f0 f1 f2 f3 f4 f5 f6 hGl
  have HBz := Lib.hid (below7 HBg.out (Nat.le_refl _) (.bool true) (.int .i64 ((q : Int) + 1)) (.int .i64 (b + ss)) (.int .i64 (load + sd)) (.int .u32 (opn : Nat)) (.int .u32 ((set ||| digit ((q : Int) + 1) : Nat) : Int)) (.int .i64 (cost + y)))
  have BGz := Lib.hid (box7 BG.out (.bool true) (.int .i64 ((q : Int) + 1)) (.int .i64 (b + ss)) (.int .i64 (load + sd)) (.int .u32 (opn : Nat)) (.int .u32 ((set ||| digit ((q : Int) + 1) : Nat) : Int)) (.int .i64 (cost + y)))
  refine hK.out _ _ (fun _ => SS.out _ HBz.out) (fun hH => ?_)
  replace hH := hH (by decide)
  clear hK K
  (try simp only [Act.put, List.getElem_toArray, List.getElem_cons_succ, List.getElem_cons_zero, List.setIfInBounds_toArray, List.set_cons_zero, List.set_cons_succ])

  refine wpAnyZ_done (by kernel_rfl) ?_ _
  clear hH
  go_upto_region 6 with (fail)
  have ES4 := Lib.hid (ES3.out.on HBz.out)
  have BX4 := Lib.hid (BX.out.below HBz.out)
  replace e0 := cell_up HBz.out hB3 e0
  replace hB3 := Nat.lt_of_lt_of_le hB3 HBz.out.size
  have hGw : w.heap.size ≤ wy.heap.size := ES3.out.below.size
  have hGR : R ≠ wy.heap.size := fun e => by have := ES3.out.rb.1; omega
  clear SS d1 d2 hB1 hB2 HBg BG HBz ES3 BX hw2 hw4 n0 n1 n2 n3 n4 n4' n5
  generalize (((((((wg.setCell ⟨wy.heap.size, 0, none⟩ (.bool true)).setCell ⟨wy.heap.size, 1, none⟩ (.int .i64 ((q : Int) + 1))).setCell ⟨wy.heap.size, 2, none⟩ (.int .i64 (b + ss))).setCell ⟨wy.heap.size, 3, none⟩ (.int .i64 (load + sd))).setCell ⟨wy.heap.size, 4, none⟩ (.int .u32 (opn : Nat))).setCell ⟨wy.heap.size, 5, none⟩ (.int .u32 ((set ||| digit ((q : Int) + 1) : Nat) : Int))).setCell ⟨wy.heap.size, 6, none⟩ (.int .i64 (cost + y))) = wz at *
  generalize wy.heap.size = G at *
  have x2 := BX4.out.cell (j := 2) rfl
  have g3 := BGz.out.cell (j := 3) rfl
  have k0 := ES4.out.box.b0
  have hXz := BX4.out.1
  have hGz := BGz.out.1
  have hIz := ES4.out.box.lt
  have m0 : (0 : Int) ≤ (cn : Int) := by omega
  have m1 : (cn : Int) < (i.cars.length : Int) := by omega
  have m2 : (cn : Int).toNat = cn := by omega
  by_cases hbad : sc < b ∨ load + sd < 0 ∨ cap < load + sd
  · have HN : Hid (extendP i cn ⟨la, leave, load, opn, set, cost⟩ ((q : Int) + 1) = none) := by show _ = _; rw [HX.out, if_pos hbad]
    rcases (show sc < b ∨ (b ≤ sc ∧ load + sd < 0) ∨ (b ≤ sc ∧ 0 ≤ load + sd ∧ cap < load + sd) by omega) with hx1 | ⟨hx1, hx2⟩ | ⟨hx1, hx2, hx3⟩
    · clear hbad HX
      have u1 : decide (sc < b) = true := by simpa using hx1
      go_quiet (fail)
      have ES5 := Lib.hid (ES4.out.on (below_draws' (Below.refl _ _) nq))
      clear x2 g3 k0 e0
      have r0 := ES5.out.rb.cell (j := 0) rfl
      have z0 := (ES5.out.rb.2 0 (by simp)).2
      have r1 := ES5.out.rb.cell (j := 1) rfl
      have z1 := (ES5.out.rb.2 1 (by simp)).2
      have r2 := ES5.out.rb.cell (j := 2) rfl
      have z2 := (ES5.out.rb.2 2 (by simp)).2
      have r3 := ES5.out.rb.cell (j := 3) rfl
      have z3 := (ES5.out.rb.2 3 (by simp)).2
      have r4 := ES5.out.rb.cell (j := 4) rfl
      have z4 := (ES5.out.rb.2 4 (by simp)).2
      have r5 := ES5.out.rb.cell (j := 5) rfl
      have z5 := (ES5.out.rb.2 5 (by simp)).2
      have r6 := ES5.out.rb.cell (j := 6) rfl
      have z6 := (ES5.out.rb.2 6 (by simp)).2
      have hRz := ES5.out.rb.1
      have HBf := Lib.hid (below7 ES5.out.below hRw (.bool false) (.int .i64 0) (.int .i64 0) (.int .i64 0) (.int .u32 0) (.int .u32 0) (.int .i64 0))
      go_wp2
      refine bodyPost_ret (v := .agg #[.bool false, .int .i64 0, .int .i64 0, .int .i64 0, .int .u32 0, .int .u32 0, .int .i64 0]) (by simp [results, Try.results38, go_sem, r0, r1, r2, r3, r4, r5, r6, z0, z1, z2, z3, z4, z5, z6]) rfl ⟨by rw [HN.out]; rfl, HBf.out⟩
    · clear hbad HX
      have u1 : decide (sc < b) = false := by simp; omega
      have u2 : decide (load + sd < 0) = true := by simpa using hx2
      go_quiet (fail)
      have ES5 := Lib.hid (ES4.out.on (below_draws' (Below.refl _ _) nq))
      clear x2 g3 k0 e0
      have r0 := ES5.out.rb.cell (j := 0) rfl
      have z0 := (ES5.out.rb.2 0 (by simp)).2
      have r1 := ES5.out.rb.cell (j := 1) rfl
      have z1 := (ES5.out.rb.2 1 (by simp)).2
      have r2 := ES5.out.rb.cell (j := 2) rfl
      have z2 := (ES5.out.rb.2 2 (by simp)).2
      have r3 := ES5.out.rb.cell (j := 3) rfl
      have z3 := (ES5.out.rb.2 3 (by simp)).2
      have r4 := ES5.out.rb.cell (j := 4) rfl
      have z4 := (ES5.out.rb.2 4 (by simp)).2
      have r5 := ES5.out.rb.cell (j := 5) rfl
      have z5 := (ES5.out.rb.2 5 (by simp)).2
      have r6 := ES5.out.rb.cell (j := 6) rfl
      have z6 := (ES5.out.rb.2 6 (by simp)).2
      have hRz := ES5.out.rb.1
      have HBf := Lib.hid (below7 ES5.out.below hRw (.bool false) (.int .i64 0) (.int .i64 0) (.int .i64 0) (.int .u32 0) (.int .u32 0) (.int .i64 0))
      go_wp2
      refine bodyPost_ret (v := .agg #[.bool false, .int .i64 0, .int .i64 0, .int .i64 0, .int .u32 0, .int .u32 0, .int .i64 0]) (by simp [results, Try.results38, go_sem, r0, r1, r2, r3, r4, r5, r6, z0, z1, z2, z3, z4, z5, z6]) rfl ⟨by rw [HN.out]; rfl, HBf.out⟩
    · clear hbad HX
      have u1 : decide (sc < b) = false := by simp; omega
      have u2 : decide (load + sd < 0) = false := by simp; omega
      have u3 : decide (cap < load + sd) = true := by simpa using hx3
      go_quiet (fail)
      have ES5 := Lib.hid (ES4.out.on (below_draws' (Below.refl _ _) nq))
      clear x2 g3 k0 e0
      have r0 := ES5.out.rb.cell (j := 0) rfl
      have z0 := (ES5.out.rb.2 0 (by simp)).2
      have r1 := ES5.out.rb.cell (j := 1) rfl
      have z1 := (ES5.out.rb.2 1 (by simp)).2
      have r2 := ES5.out.rb.cell (j := 2) rfl
      have z2 := (ES5.out.rb.2 2 (by simp)).2
      have r3 := ES5.out.rb.cell (j := 3) rfl
      have z3 := (ES5.out.rb.2 3 (by simp)).2
      have r4 := ES5.out.rb.cell (j := 4) rfl
      have z4 := (ES5.out.rb.2 4 (by simp)).2
      have r5 := ES5.out.rb.cell (j := 5) rfl
      have z5 := (ES5.out.rb.2 5 (by simp)).2
      have r6 := ES5.out.rb.cell (j := 6) rfl
      have z6 := (ES5.out.rb.2 6 (by simp)).2
      have hRz := ES5.out.rb.1
      have HBf := Lib.hid (below7 ES5.out.below hRw (.bool false) (.int .i64 0) (.int .i64 0) (.int .i64 0) (.int .u32 0) (.int .u32 0) (.int .i64 0))
      go_wp2
      refine bodyPost_ret (v := .agg #[.bool false, .int .i64 0, .int .i64 0, .int .i64 0, .int .u32 0, .int .u32 0, .int .i64 0]) (by simp [results, Try.results38, go_sem, r0, r1, r2, r3, r4, r5, r6, z0, z1, z2, z3, z4, z5, z6]) rfl ⟨by rw [HN.out]; rfl, HBf.out⟩
  · obtain ⟨hx1, hx2, hx3⟩ : b ≤ sc ∧ 0 ≤ load + sd ∧ load + sd ≤ cap := by omega
    have HY : Hid (extendP i cn ⟨la, leave, load, opn, set, cost⟩ ((q : Int) + 1) = (opnP i opn ((q : Int) + 1)).map fun o => ⟨(q : Int) + 1, b + ss, load + sd, o, set ||| digit ((q : Int) + 1), cost + y⟩) := by show _ = _; rw [HX.out, if_neg hbad]
    clear hbad HX
    have u1 : decide (sc < b) = false := by simp; omega
    have u2 : decide (load + sd < 0) = false := by simp; omega
    have u3 : decide (cap < load + sd) = false := by simp; omega
    go_quiet (fail)
    have HBq := Lib.hid (below_draws' (Below.refl wz.heap.size wz) nq)
    have ES5 := Lib.hid (ES4.out.on HBq.out)
    have BG5 := Lib.hid (BGz.out.below HBq.out)
    clear x2 g3 k0 e0 ES4 BGz BX4 hXz hGz hIz HBq
    generalize wz.drewN nq = wq at *
    have k0 := ES5.out.box.b0
    have k1 := ES5.out.box.b1
    have k2 := ES5.out.box.b2
    have k3 := ES5.out.box.b3
    have hIz := ES5.out.box.lt
    go_wp2_with (go_at_call 34; fail)
    (with_reducible refine (KM.out _ ES5.out.below).mono ?_)
    rintro e w6 ⟨rfl, hb6⟩
    have ES6 := Lib.hid (ES5.out.on hb6)
    have BG6 := Lib.hid (BG5.out.below hb6)
    clear hb6 k0 k1 k2 k3 hIz ES5 BG5 KM
    have hmb := mate_bound HF.out ((q : Int) + 1)
    by_cases h3 : mateL ((q : Int) + 1) i.pairs = 0
    · have HN : Hid (extendP i cn ⟨la, leave, load, opn, set, cost⟩ ((q : Int) + 1) = some ⟨(q : Int) + 1, b + ss, load + sd, opn, set ||| digit ((q : Int) + 1), cost + y⟩) := by show _ = _; rw [HY.out]; unfold opnP; rw [if_pos h3]; rfl
      clear HY
      rw [h3]
      have r0 := ES6.out.rb.cell (j := 0) rfl
      have z0 := (ES6.out.rb.2 0 (by simp)).2
      have r1 := ES6.out.rb.cell (j := 1) rfl
      have z1 := (ES6.out.rb.2 1 (by simp)).2
      have r2 := ES6.out.rb.cell (j := 2) rfl
      have z2 := (ES6.out.rb.2 2 (by simp)).2
      have r3 := ES6.out.rb.cell (j := 3) rfl
      have z3 := (ES6.out.rb.2 3 (by simp)).2
      have r4 := ES6.out.rb.cell (j := 4) rfl
      have z4 := (ES6.out.rb.2 4 (by simp)).2
      have r5 := ES6.out.rb.cell (j := 5) rfl
      have z5 := (ES6.out.rb.2 5 (by simp)).2
      have r6 := ES6.out.rb.cell (j := 6) rfl
      have z6 := (ES6.out.rb.2 6 (by simp)).2
      have g0 := BG6.out.cell (j := 0) rfl
      have g1 := BG6.out.cell (j := 1) rfl
      have g2 := BG6.out.cell (j := 2) rfl
      have g3 := BG6.out.cell (j := 3) rfl
      have g4 := BG6.out.cell (j := 4) rfl
      have g5 := BG6.out.cell (j := 5) rfl
      have g6 := BG6.out.cell (j := 6) rfl
      have hRz := ES6.out.rb.1
      have hGz := BG6.out.1
      have HBf := Lib.hid (below7 ES6.out.below hRw (.bool true) (.int .i64 ((q : Int) + 1)) (.int .i64 (b + ss)) (.int .i64 (load + sd)) (.int .u32 (opn : Nat)) (.int .u32 ((set ||| digit ((q : Int) + 1) : Nat) : Int)) (.int .i64 (cost + y)))
      go_wp2
      refine bodyPost_ret (v := .agg #[.bool true, .int .i64 ((q : Int) + 1), .int .i64 (b + ss), .int .i64 (load + sd), .int .u32 (opn : Nat), .int .u32 ((set ||| digit ((q : Int) + 1) : Nat) : Int), .int .i64 (cost + y)]) (by simp [results, Try.results38, go_sem, r0, r1, r2, r3, r4, r5, r6, z0, z1, z2, z3, z4, z5, z6]) rfl ⟨by rw [HN.out]; rfl, HBf.out⟩
    · have hm0 : 0 < mateL ((q : Int) + 1) i.pairs := by omega
      have HM := Lib.hid h3
      have KD2 : Hid (∀ W, Calls Try.prog 50 #[.int .i64 (mateL ((q : Int) + 1) i.pairs)] W fun e w' => e = .returned (.int .u32 (digit (mateL ((q : Int) + 1) i.pairs) : Nat)) ∧ W = w') := fun W => refDigit_any _ W (by omega) (by omega)
      have hdm : digit (mateL ((q : Int) + 1) i.pairs) < 2048 := digit_lt (by omega)
      have HO1 := Lib.hid (u32_or (a := opn) (b := digit ((q : Int) + 1)) (by omega) (by omega))
      have HO2 := Lib.hid (u32_and (a := opn) (b := digit (mateL ((q : Int) + 1) i.pairs)) (by omega) (by omega))
      have HO3 : Hid (hasD opn (mateL ((q : Int) + 1) i.pairs) = true → Go.bits .andNot .u32 (opn : Int) (digit (mateL ((q : Int) + 1) i.pairs) : Int) = ((opn ^^^ digit (mateL ((q : Int) + 1) i.pairs) : Nat) : Int)) := fun hh => u32_andNot (by omega) (by omega) hh
      clear h3
      have HO : Hid (opnP i opn ((q : Int) + 1) = if firstL ((q : Int) + 1) i.pairs = true then some (opn ||| digit ((q : Int) + 1)) else if hasD opn (mateL ((q : Int) + 1) i.pairs) = true then some (opn ^^^ digit (mateL ((q : Int) + 1) i.pairs)) else none) := by show _ = _; unfold opnP; rw [if_neg HM.out]
      generalize mateL ((q : Int) + 1) i.pairs = m at *
      have k0 := ES6.out.box.b0
      have k1 := ES6.out.box.b1
      have k2 := ES6.out.box.b2
      have k3 := ES6.out.box.b3
      have hIz := ES6.out.box.lt
      go_wp2_with (go_at_call 35; fail)
      (with_reducible refine (KF.out _ ES6.out.below).mono ?_)
      rintro e w7 ⟨rfl, hb7⟩
      have ES7 := Lib.hid (ES6.out.on hb7)
      have BG7 := Lib.hid (BG6.out.below hb7)
      clear hb7 k0 k1 k2 k3 hIz ES6 BG6 KF
      by_cases h4 : firstL ((q : Int) + 1) i.pairs = true
      · have HN : Hid (extendP i cn ⟨la, leave, load, opn, set, cost⟩ ((q : Int) + 1) = some ⟨(q : Int) + 1, b + ss, load + sd, opn ||| digit ((q : Int) + 1), set ||| digit ((q : Int) + 1), cost + y⟩) := by show _ = _; rw [HY.out, HO.out, if_pos h4]; rfl
        rw [h4]
        have hor := HO1.out
        clear HY HO h4 HO1 HO2 HO3 KD2
        go_upto_region 11 with (fail)
        have g4 := BG7.out.cell (j := 4) rfl
        have f4 := (BG7.out.2 4 (by simp)).2
        have hGz := BG7.out.1
        refine wp_region_z (S := (fun W => W.cell? ⟨G, 4, none⟩ = some (.int .u32 (opn : Nat)))) (z := 6) (by kernel_rfl) g4 (fun hH => ?_)
        refine wpAnyZ_take (i := 0) (v := ?_) rfl (by kernel_rfl) (by kernel_rfl) (by kernel_rfl) rfl (by kernel_rfl) (fun _ _ _ h => h) (gives_value (by rfl) ?_) (by assumption) ?_
        rotate_left
        · intro w hSw
          (try dsimp only at hSw)
          go_simp
          (try with_reducible rfl)
        (try simp only [Act.put, List.getElem_toArray, List.getElem_cons_succ, List.getElem_cons_zero, List.setIfInBounds_toArray, List.set_cons_zero, List.set_cons_succ])
        refine wpAnyZ_take (i := 1) (v := ?_) rfl (by kernel_rfl) (by kernel_rfl) (by kernel_rfl) rfl (by kernel_rfl) (fun _ _ _ h => h) (gives_value (by rfl) ?_) (by assumption) ?_
        rotate_left
        · intro w hSw
          (try dsimp only at hSw)
          go_simp
          (try with_reducible rfl)
        (try simp only [Act.put, List.getElem_toArray, List.getElem_cons_succ, List.getElem_cons_zero, List.setIfInBounds_toArray, List.set_cons_zero, List.set_cons_succ])
        refine wpAnyZ_take (i := 2) (v := ?_) rfl (by kernel_rfl) (by kernel_rfl) (by kernel_rfl) rfl (by kernel_rfl) (fun _ _ _ h => h) (gives_value (by rfl) ?_) (by assumption) ?_
        rotate_left
        · intro w hSw
          (try dsimp only at hSw)
          go_simp
          (try with_reducible rfl)
        (try simp only [Act.put, List.getElem_toArray, List.getElem_cons_succ, List.getElem_cons_zero, List.setIfInBounds_toArray, List.set_cons_zero, List.set_cons_succ])
        refine wpAnyZ_take (i := 3) (v := .int .u32 (digit ((q : Int) + 1) : Nat)) rfl (by kernel_rfl) (by kernel_rfl) (by kernel_rfl) rfl (by kernel_rfl) (fun _ _ _ h => h) (gives_call (by rfl) ?_ (fun w _ => KD.out w)) (by assumption) ?_
        · intro w
          go_simp
          (try with_reducible rfl)
        (try simp only [Act.put, List.getElem_toArray, List.getElem_cons_succ, List.getElem_cons_zero, List.setIfInBounds_toArray, List.set_cons_zero, List.set_cons_succ])
        refine wpAnyZ_take (i := 4) (v := ?_) rfl (by kernel_rfl) (by kernel_rfl) (by kernel_rfl) rfl (by kernel_rfl) (fun _ _ _ h => h) (gives_value (by rfl) ?_) (by assumption) ?_
        rotate_left
        · intro w hSw
          (try dsimp only at hSw)
          go_simp
          (try with_reducible rfl)
        (try simp only [Act.put, List.getElem_toArray, List.getElem_cons_succ, List.getElem_cons_zero, List.setIfInBounds_toArray, List.set_cons_zero, List.set_cons_succ])
        refine wpAnyZ_take (i := 5) (v := ?_) rfl (by kernel_rfl) (by kernel_rfl) (by kernel_rfl) rfl (by kernel_rfl) (fun _ _ _ h => h) (gives_value (by rfl) ?_) (by assumption) ?_
        rotate_left
        · intro w hSw
          (try dsimp only at hSw)
          go_simp
          (try with_reducible rfl)
        (try simp only [Act.put, List.getElem_toArray, List.getElem_cons_succ, List.getElem_cons_zero, List.setIfInBounds_toArray, List.set_cons_zero, List.set_cons_succ])
        refine wpAnyZ_one (i := 6) (by kernel_rfl) ?_
        refine zstep rfl (fun K hK => ?_)
        go_simp
        refine hK.out _ _ (fun h => absurd rfl h) (fun hH => ?_)
        clear hK K hH
        (try simp only [Act.put, List.getElem_toArray, List.getElem_cons_succ, List.getElem_cons_zero, List.setIfInBounds_toArray, List.set_cons_zero, List.set_cons_succ])
        refine wpAnyZ_done (by kernel_rfl) ?_ _
        have FS := Lib.hid (⟨(ES7.out.below.setCell (p := ⟨G, 4, none⟩) hGw (.int .u32 (((opn ||| digit ((q : Int) + 1) : Nat)) : Int))).drew, (ES7.out.rb.other (a := ⟨G, 4, none⟩) hGR.symm (.int .u32 (((opn ||| digit ((q : Int) + 1) : Nat)) : Int))).drew⟩ : FinS w _ R _)
        have BG8 := Lib.hid ((BG7.out.set (k := 4) (by simp) (.int .u32 (((opn ||| digit ((q : Int) + 1) : Nat)) : Int))).drew)
        clear g4 f4 hGz ES7 BG7
        generalize (w7.setCell ⟨G, 4, none⟩ (.int .u32 (((opn ||| digit ((q : Int) + 1) : Nat)) : Int))).drew = w8 at *
        have r0 := FS.out.rb.cell (j := 0) rfl
        have z0 := (FS.out.rb.2 0 (by simp)).2
        have r1 := FS.out.rb.cell (j := 1) rfl
        have z1 := (FS.out.rb.2 1 (by simp)).2
        have r2 := FS.out.rb.cell (j := 2) rfl
        have z2 := (FS.out.rb.2 2 (by simp)).2
        have r3 := FS.out.rb.cell (j := 3) rfl
        have z3 := (FS.out.rb.2 3 (by simp)).2
        have r4 := FS.out.rb.cell (j := 4) rfl
        have z4 := (FS.out.rb.2 4 (by simp)).2
        have r5 := FS.out.rb.cell (j := 5) rfl
        have z5 := (FS.out.rb.2 5 (by simp)).2
        have r6 := FS.out.rb.cell (j := 6) rfl
        have z6 := (FS.out.rb.2 6 (by simp)).2
        have g0 := BG8.out.cell (j := 0) rfl
        have g1 := BG8.out.cell (j := 1) rfl
        have g2 := BG8.out.cell (j := 2) rfl
        have g3 := BG8.out.cell (j := 3) rfl
        have g4 := BG8.out.cell (j := 4) rfl
        have g5 := BG8.out.cell (j := 5) rfl
        have g6 := BG8.out.cell (j := 6) rfl
        have hRz := FS.out.rb.1
        have hGz := BG8.out.1
        have HBf := Lib.hid (below7 FS.out.below hRw (.bool true) (.int .i64 ((q : Int) + 1)) (.int .i64 (b + ss)) (.int .i64 (load + sd)) (.int .u32 (((opn ||| digit ((q : Int) + 1) : Nat)) : Int)) (.int .u32 ((set ||| digit ((q : Int) + 1) : Nat) : Int)) (.int .i64 (cost + y)))
        go_wp2
        refine bodyPost_ret (v := .agg #[.bool true, .int .i64 ((q : Int) + 1), .int .i64 (b + ss), .int .i64 (load + sd), .int .u32 (((opn ||| digit ((q : Int) + 1) : Nat)) : Int), .int .u32 ((set ||| digit ((q : Int) + 1) : Nat) : Int), .int .i64 (cost + y)]) (by simp [results, Try.results38, go_sem, r0, r1, r2, r3, r4, r5, r6, z0, z1, z2, z3, z4, z5, z6]) rfl ⟨by rw [HN.out]; rfl, HBf.out⟩
      · have h4' : firstL ((q : Int) + 1) i.pairs = false := by simpa using h4
        have p4 := ES7.out.hb.cell (j := 4) rfl
        have hHz := ES7.out.hb.1
        rw [h4']
        by_cases h5 : hasD opn m = true
        · have HN : Hid (extendP i cn ⟨la, leave, load, opn, set, cost⟩ ((q : Int) + 1) = some ⟨(q : Int) + 1, b + ss, load + sd, opn ^^^ digit m, set ||| digit ((q : Int) + 1), cost + y⟩) := by show _ = _; rw [HY.out, HO.out, if_neg h4, if_pos h5]; rfl
          have hne : (Go.bits .and .u32 (opn : Int) (digit m : Int) == 0) = false := by rw [HO2.out, beq_eq_false_iff_ne]; exact and_some h5
          have hxr := HO3.out h5
          clear HY HO h4 h4' h5 HO1 HO2 HO3 KD
          go_upto_region 12 with (fail)
          refine wp_region_z (S := (fun W => W.cell? ⟨H, 4, none⟩ = some (.int .u32 (opn : Nat)))) (z := 6) (by kernel_rfl) p4 (fun hH => ?_)
          refine wpAnyZ_takeS (i := 0) (v := ?_) rfl (by kernel_rfl) (by kernel_rfl) (by kernel_rfl) (by kernel_rfl) (fun _ _ _ h => h) (gives_value (by rfl) ?_) (by assumption) ?_
          rotate_left
          · intro w hSw
            (try dsimp only at hSw)
            go_simp
            (try with_reducible rfl)
          (try simp only [Act.put, List.getElem_toArray, List.getElem_cons_succ, List.getElem_cons_zero, List.setIfInBounds_toArray, List.set_cons_zero, List.set_cons_succ])
          refine wpAnyZ_takeS (i := 1) (v := ?_) rfl (by kernel_rfl) (by kernel_rfl) (by kernel_rfl) (by kernel_rfl) (fun _ _ _ h => h) (gives_value (by rfl) ?_) (by assumption) ?_
          rotate_left
          · intro w hSw
            (try dsimp only at hSw)
            go_simp
            (try with_reducible rfl)
          (try simp only [Act.put, List.getElem_toArray, List.getElem_cons_succ, List.getElem_cons_zero, List.setIfInBounds_toArray, List.set_cons_zero, List.set_cons_succ])
          refine wpAnyZ_takeS (i := 2) (v := ?_) rfl (by kernel_rfl) (by kernel_rfl) (by kernel_rfl) (by kernel_rfl) (fun _ _ _ h => h) (gives_value (by rfl) ?_) (by assumption) ?_
          rotate_left
          · intro w hSw
            (try dsimp only at hSw)
            go_simp
            (try with_reducible rfl)
          (try simp only [Act.put, List.getElem_toArray, List.getElem_cons_succ, List.getElem_cons_zero, List.setIfInBounds_toArray, List.set_cons_zero, List.set_cons_succ])
          refine wpAnyZ_takeS (i := 3) (v := .int .u32 (digit m : Nat)) rfl (by kernel_rfl) (by kernel_rfl) (by kernel_rfl) (by kernel_rfl) (fun _ _ _ h => h) (gives_call (by rfl) ?_ (fun w _ => KD2.out w)) (by assumption) ?_
          · intro w
            go_simp
            (try with_reducible rfl)
          (try simp only [Act.put, List.getElem_toArray, List.getElem_cons_succ, List.getElem_cons_zero, List.setIfInBounds_toArray, List.set_cons_zero, List.set_cons_succ])
          refine wpAnyZ_takeS (i := 4) (v := ?_) rfl (by kernel_rfl) (by kernel_rfl) (by kernel_rfl) (by kernel_rfl) (fun _ _ _ h => h) (gives_value (by rfl) ?_) (by assumption) ?_
          rotate_left
          · intro w hSw
            (try dsimp only at hSw)
            go_simp
            (try with_reducible rfl)
          (try simp only [Act.put, List.getElem_toArray, List.getElem_cons_succ, List.getElem_cons_zero, List.setIfInBounds_toArray, List.set_cons_zero, List.set_cons_succ])
          refine wpAnyZ_takeS (i := 5) (v := ?_) rfl (by kernel_rfl) (by kernel_rfl) (by kernel_rfl) (by kernel_rfl) (fun _ _ _ h => h) (gives_value (by rfl) ?_) (by assumption) ?_
          rotate_left
          · intro w hSw
            (try dsimp only at hSw)
            go_simp
            (try with_reducible rfl)
          (try simp only [Act.put, List.getElem_toArray, List.getElem_cons_succ, List.getElem_cons_zero, List.setIfInBounds_toArray, List.set_cons_zero, List.set_cons_succ])
          refine wpAnyZ_done (by kernel_rfl) ?_ _
          have ES7b := Lib.hid (ES7.out.on ((Below.refl _ _).drew))
          have BG7b := Lib.hid (BG7.out.below ((Below.refl _ _).drew))
          clear p4 hHz ES7 BG7 hH
          go_upto_region 14 with (fail)
          rename_i w7
          generalize w7.drew = w7 at *
          have ES7 := ES7b
          have BG7 := BG7b
          have g4 := BG7.out.cell (j := 4) rfl
          have f4 := (BG7.out.2 4 (by simp)).2
          have hGz := BG7.out.1
          refine wp_region_z (S := (fun W => W.cell? ⟨G, 4, none⟩ = some (.int .u32 (opn : Nat)))) (z := 6) (by kernel_rfl) g4 (fun hH => ?_)
          refine wpAnyZ_take (i := 0) (v := ?_) rfl (by kernel_rfl) (by kernel_rfl) (by kernel_rfl) rfl (by kernel_rfl) (fun _ _ _ h => h) (gives_value (by rfl) ?_) (by assumption) ?_
          rotate_left
          · intro w hSw
            (try dsimp only at hSw)
            go_simp
            (try with_reducible rfl)
          (try simp only [Act.put, List.getElem_toArray, List.getElem_cons_succ, List.getElem_cons_zero, List.setIfInBounds_toArray, List.set_cons_zero, List.set_cons_succ])
          refine wpAnyZ_take (i := 1) (v := ?_) rfl (by kernel_rfl) (by kernel_rfl) (by kernel_rfl) rfl (by kernel_rfl) (fun _ _ _ h => h) (gives_value (by rfl) ?_) (by assumption) ?_
          rotate_left
          · intro w hSw
            (try dsimp only at hSw)
            go_simp
            (try with_reducible rfl)
          (try simp only [Act.put, List.getElem_toArray, List.getElem_cons_succ, List.getElem_cons_zero, List.setIfInBounds_toArray, List.set_cons_zero, List.set_cons_succ])
          refine wpAnyZ_take (i := 2) (v := ?_) rfl (by kernel_rfl) (by kernel_rfl) (by kernel_rfl) rfl (by kernel_rfl) (fun _ _ _ h => h) (gives_value (by rfl) ?_) (by assumption) ?_
          rotate_left
          · intro w hSw
            (try dsimp only at hSw)
            go_simp
            (try with_reducible rfl)
          (try simp only [Act.put, List.getElem_toArray, List.getElem_cons_succ, List.getElem_cons_zero, List.setIfInBounds_toArray, List.set_cons_zero, List.set_cons_succ])
          refine wpAnyZ_take (i := 3) (v := .int .u32 (digit (m) : Nat)) rfl (by kernel_rfl) (by kernel_rfl) (by kernel_rfl) rfl (by kernel_rfl) (fun _ _ _ h => h) (gives_call (by rfl) ?_ (fun w _ => KD2.out w)) (by assumption) ?_
          · intro w
            go_simp
            (try with_reducible rfl)
          (try simp only [Act.put, List.getElem_toArray, List.getElem_cons_succ, List.getElem_cons_zero, List.setIfInBounds_toArray, List.set_cons_zero, List.set_cons_succ])
          refine wpAnyZ_take (i := 4) (v := ?_) rfl (by kernel_rfl) (by kernel_rfl) (by kernel_rfl) rfl (by kernel_rfl) (fun _ _ _ h => h) (gives_value (by rfl) ?_) (by assumption) ?_
          rotate_left
          · intro w hSw
            (try dsimp only at hSw)
            go_simp
            (try with_reducible rfl)
          (try simp only [Act.put, List.getElem_toArray, List.getElem_cons_succ, List.getElem_cons_zero, List.setIfInBounds_toArray, List.set_cons_zero, List.set_cons_succ])
          refine wpAnyZ_take (i := 5) (v := ?_) rfl (by kernel_rfl) (by kernel_rfl) (by kernel_rfl) rfl (by kernel_rfl) (fun _ _ _ h => h) (gives_value (by rfl) ?_) (by assumption) ?_
          rotate_left
          · intro w hSw
            (try dsimp only at hSw)
            go_simp
            (try with_reducible rfl)
          (try simp only [Act.put, List.getElem_toArray, List.getElem_cons_succ, List.getElem_cons_zero, List.setIfInBounds_toArray, List.set_cons_zero, List.set_cons_succ])
          refine wpAnyZ_one (i := 6) (by kernel_rfl) ?_
          refine zstep rfl (fun K hK => ?_)
          go_simp
          refine hK.out _ _ (fun h => absurd rfl h) (fun hH => ?_)
          clear hK K hH
          (try simp only [Act.put, List.getElem_toArray, List.getElem_cons_succ, List.getElem_cons_zero, List.setIfInBounds_toArray, List.set_cons_zero, List.set_cons_succ])
          refine wpAnyZ_done (by kernel_rfl) ?_ _
          have FS := Lib.hid (⟨(ES7.out.below.setCell (p := ⟨G, 4, none⟩) hGw (.int .u32 (((opn ^^^ digit m : Nat)) : Int))).drew, (ES7.out.rb.other (a := ⟨G, 4, none⟩) hGR.symm (.int .u32 (((opn ^^^ digit m : Nat)) : Int))).drew⟩ : FinS w _ R _)
          have BG8 := Lib.hid ((BG7.out.set (k := 4) (by simp) (.int .u32 (((opn ^^^ digit m : Nat)) : Int))).drew)
          clear g4 f4 hGz ES7 BG7
          generalize (w7.setCell ⟨G, 4, none⟩ (.int .u32 (((opn ^^^ digit m : Nat)) : Int))).drew = w8 at *
          have r0 := FS.out.rb.cell (j := 0) rfl
          have z0 := (FS.out.rb.2 0 (by simp)).2
          have r1 := FS.out.rb.cell (j := 1) rfl
          have z1 := (FS.out.rb.2 1 (by simp)).2
          have r2 := FS.out.rb.cell (j := 2) rfl
          have z2 := (FS.out.rb.2 2 (by simp)).2
          have r3 := FS.out.rb.cell (j := 3) rfl
          have z3 := (FS.out.rb.2 3 (by simp)).2
          have r4 := FS.out.rb.cell (j := 4) rfl
          have z4 := (FS.out.rb.2 4 (by simp)).2
          have r5 := FS.out.rb.cell (j := 5) rfl
          have z5 := (FS.out.rb.2 5 (by simp)).2
          have r6 := FS.out.rb.cell (j := 6) rfl
          have z6 := (FS.out.rb.2 6 (by simp)).2
          have g0 := BG8.out.cell (j := 0) rfl
          have g1 := BG8.out.cell (j := 1) rfl
          have g2 := BG8.out.cell (j := 2) rfl
          have g3 := BG8.out.cell (j := 3) rfl
          have g4 := BG8.out.cell (j := 4) rfl
          have g5 := BG8.out.cell (j := 5) rfl
          have g6 := BG8.out.cell (j := 6) rfl
          have hRz := FS.out.rb.1
          have hGz := BG8.out.1
          have HBf := Lib.hid (below7 FS.out.below hRw (.bool true) (.int .i64 ((q : Int) + 1)) (.int .i64 (b + ss)) (.int .i64 (load + sd)) (.int .u32 (((opn ^^^ digit m : Nat)) : Int)) (.int .u32 ((set ||| digit ((q : Int) + 1) : Nat) : Int)) (.int .i64 (cost + y)))
          go_wp2
          refine bodyPost_ret (v := .agg #[.bool true, .int .i64 ((q : Int) + 1), .int .i64 (b + ss), .int .i64 (load + sd), .int .u32 (((opn ^^^ digit m : Nat)) : Int), .int .u32 ((set ||| digit ((q : Int) + 1) : Nat) : Int), .int .i64 (cost + y)]) (by simp [results, Try.results38, go_sem, r0, r1, r2, r3, r4, r5, r6, z0, z1, z2, z3, z4, z5, z6]) rfl ⟨by rw [HN.out]; rfl, HBf.out⟩
        · have h5' : hasD opn m = false := by simpa using h5
          have HN : Hid (extendP i cn ⟨la, leave, load, opn, set, cost⟩ ((q : Int) + 1) = none) := by show _ = _; rw [HY.out, HO.out, if_neg h4, if_neg h5]; rfl
          have heq : Go.bits .and .u32 (opn : Int) (digit m : Int) = 0 := by rw [HO2.out]; exact and_none h5'
          clear HY HO h4 h4' h5 h5' HO1 HO2 HO3 KD
          go_upto_region 12 with (fail)
          refine wp_region_z (S := (fun W => W.cell? ⟨H, 4, none⟩ = some (.int .u32 (opn : Nat)))) (z := 6) (by kernel_rfl) p4 (fun hH => ?_)
          refine wpAnyZ_takeS (i := 0) (v := ?_) rfl (by kernel_rfl) (by kernel_rfl) (by kernel_rfl) (by kernel_rfl) (fun _ _ _ h => h) (gives_value (by rfl) ?_) (by assumption) ?_
          rotate_left
          · intro w hSw
            (try dsimp only at hSw)
            go_simp
            (try with_reducible rfl)
          (try simp only [Act.put, List.getElem_toArray, List.getElem_cons_succ, List.getElem_cons_zero, List.setIfInBounds_toArray, List.set_cons_zero, List.set_cons_succ])
          refine wpAnyZ_takeS (i := 1) (v := ?_) rfl (by kernel_rfl) (by kernel_rfl) (by kernel_rfl) (by kernel_rfl) (fun _ _ _ h => h) (gives_value (by rfl) ?_) (by assumption) ?_
          rotate_left
          · intro w hSw
            (try dsimp only at hSw)
            go_simp
            (try with_reducible rfl)
          (try simp only [Act.put, List.getElem_toArray, List.getElem_cons_succ, List.getElem_cons_zero, List.setIfInBounds_toArray, List.set_cons_zero, List.set_cons_succ])
          refine wpAnyZ_takeS (i := 2) (v := ?_) rfl (by kernel_rfl) (by kernel_rfl) (by kernel_rfl) (by kernel_rfl) (fun _ _ _ h => h) (gives_value (by rfl) ?_) (by assumption) ?_
          rotate_left
          · intro w hSw
            (try dsimp only at hSw)
            go_simp
            (try with_reducible rfl)
          (try simp only [Act.put, List.getElem_toArray, List.getElem_cons_succ, List.getElem_cons_zero, List.setIfInBounds_toArray, List.set_cons_zero, List.set_cons_succ])
          refine wpAnyZ_takeS (i := 3) (v := .int .u32 (digit m : Nat)) rfl (by kernel_rfl) (by kernel_rfl) (by kernel_rfl) (by kernel_rfl) (fun _ _ _ h => h) (gives_call (by rfl) ?_ (fun w _ => KD2.out w)) (by assumption) ?_
          · intro w
            go_simp
            (try with_reducible rfl)
          (try simp only [Act.put, List.getElem_toArray, List.getElem_cons_succ, List.getElem_cons_zero, List.setIfInBounds_toArray, List.set_cons_zero, List.set_cons_succ])
          refine wpAnyZ_takeS (i := 4) (v := ?_) rfl (by kernel_rfl) (by kernel_rfl) (by kernel_rfl) (by kernel_rfl) (fun _ _ _ h => h) (gives_value (by rfl) ?_) (by assumption) ?_
          rotate_left
          · intro w hSw
            (try dsimp only at hSw)
            go_simp
            (try with_reducible rfl)
          (try simp only [Act.put, List.getElem_toArray, List.getElem_cons_succ, List.getElem_cons_zero, List.setIfInBounds_toArray, List.set_cons_zero, List.set_cons_succ])
          refine wpAnyZ_takeS (i := 5) (v := ?_) rfl (by kernel_rfl) (by kernel_rfl) (by kernel_rfl) (by kernel_rfl) (fun _ _ _ h => h) (gives_value (by rfl) ?_) (by assumption) ?_
          rotate_left
          · intro w hSw
            (try dsimp only at hSw)
            go_simp
            (try with_reducible rfl)
          (try simp only [Act.put, List.getElem_toArray, List.getElem_cons_succ, List.getElem_cons_zero, List.setIfInBounds_toArray, List.set_cons_zero, List.set_cons_succ])
          refine wpAnyZ_done (by kernel_rfl) ?_ _
          have ES7b := Lib.hid (ES7.out.on ((Below.refl _ _).drew))
          clear p4 hHz ES7 BG7 hH
          go_upto_region 13 with (fail)
          generalize w7.drew = w8 at *
          have r0 := ES7b.out.rb.cell (j := 0) rfl
          have z0 := (ES7b.out.rb.2 0 (by simp)).2
          have r1 := ES7b.out.rb.cell (j := 1) rfl
          have z1 := (ES7b.out.rb.2 1 (by simp)).2
          have r2 := ES7b.out.rb.cell (j := 2) rfl
          have z2 := (ES7b.out.rb.2 2 (by simp)).2
          have r3 := ES7b.out.rb.cell (j := 3) rfl
          have z3 := (ES7b.out.rb.2 3 (by simp)).2
          have r4 := ES7b.out.rb.cell (j := 4) rfl
          have z4 := (ES7b.out.rb.2 4 (by simp)).2
          have r5 := ES7b.out.rb.cell (j := 5) rfl
          have z5 := (ES7b.out.rb.2 5 (by simp)).2
          have r6 := ES7b.out.rb.cell (j := 6) rfl
          have z6 := (ES7b.out.rb.2 6 (by simp)).2
          have hRz := ES7b.out.rb.1
          have HBf := Lib.hid (below7 ES7b.out.below hRw (.bool false) (.int .i64 0) (.int .i64 0) (.int .i64 0) (.int .u32 0) (.int .u32 0) (.int .i64 0))
          go_wp2
          refine bodyPost_ret (v := .agg #[.bool false, .int .i64 0, .int .i64 0, .int .i64 0, .int .u32 0, .int .u32 0, .int .i64 0]) (by simp [results, Try.results38, go_sem, r0, r1, r2, r3, r4, r5, r6, z0, z1, z2, z3, z4, z5, z6]) rfl ⟨by rw [HN.out]; rfl, HBf.out⟩
end Go.Proofs.Ytgkieelacjcopaa
