/- tab.Meet: what it answers of a head and a tail that are the problem's. -/
import Derived.Test.YtkheepedjoimmaaCodePub
namespace Go.Proofs.Ytkheepedjoimmaa
open Go.RowKit
set_option linter.unusedSimpArgs false

/-- the call's own variables: the problem, the head, the tail -/
def meetV : Option Int → Value
  | none => .tuple #[.int .i64 0, .bool false]
  | some x => .tuple #[.int .i64 x, .bool true]

set_option maxRecDepth 100000 in
set_option maxHeartbeats 8000000 in
theorem pmeet_out (i : Prob) (c : Int) (ok ok2 : Bool) (x1 x2 x3 x4 x5 x6 y1 y2 y3 y4 y5 y6 y7 : Int) (w : World) (A1 A2 A3 A4 : Option Addr) (c1 c2 c3 c4 : Nat) (hs : Said w A1 A2 A3 A4 c1 c2 c3 c4 i) (KC : ∀ W, Below w.heap.size w W → Calls Try.prog 33 #[.agg #[.slice A1 i.cars.length c1, .slice A2 i.stops.length c2, .slice A3 i.pairs.length c3, .slice A4 i.travel.length c4], .int .i64 c] W fun e w' => e = .returned (.bool false) ∧ Below W.heap.size W w') :
    Calls Try.prog 16 #[.agg #[.slice A1 i.cars.length c1, .slice A2 i.stops.length c2, .slice A3 i.pairs.length c3, .slice A4 i.travel.length c4], .int .i64 c, .agg #[.bool ok, .int .i64 x1, .int .i64 x2, .int .i64 x3, .int .u32 x4, .int .u32 x5, .int .i64 x6], .agg #[.bool ok2, .int .i64 y1, .int .i64 y2, .int .i64 y3, .int .i64 y4, .int .u32 y5, .int .u32 y6, .int .i64 y7]] w fun e w' => e = .returned (meetV none) ∧ Below w.heap.size w w' := by
  have ES0 := Lib.hid (bef_es0 hs #[.bool ok, .int .i64 x1, .int .i64 x2, .int .i64 x3, .int .u32 x4, .int .u32 x5, .int .i64 x6] #[.bool ok2, .int .i64 y1, .int .i64 y2, .int .i64 y3, .int .i64 y4, .int .u32 y5, .int .u32 y6, .int .i64 y7] 28 44 46)
  have KC := Lib.hid KC
  clear hs
  go_enter Try.func16, Try.ntmps16
  go_upto_region 1 with (fail)
  generalize ((w.alloc (.cells #[.slice A1 i.cars.length c1, .slice A2 i.stops.length c2, .slice A3 i.pairs.length c3, .slice A4 i.travel.length c4] 28)).alloc (.cells #[.bool ok, .int .i64 x1, .int .i64 x2, .int .i64 x3, .int .u32 x4, .int .u32 x5, .int .i64 x6] 44)).alloc (.cells #[.bool ok2, .int .i64 y1, .int .i64 y2, .int .i64 y3, .int .i64 y4, .int .u32 y5, .int .u32 y6, .int .i64 y7] 46) = wa at *
  generalize w.heap.size + 1 + 1 = R at *
  generalize w.heap.size + 1 = H at *
  have SS : Hid (∀ W, Below wa.heap.size wa W → W.cell? ⟨w.heap.size, 0, none⟩ = some (.slice A1 i.cars.length c1) ∧ W.cell? ⟨w.heap.size, 1, none⟩ = some (.slice A2 i.stops.length c2) ∧ W.cell? ⟨w.heap.size, 2, none⟩ = some (.slice A3 i.pairs.length c3) ∧ W.cell? ⟨w.heap.size, 3, none⟩ = some (.slice A4 i.travel.length c4)) := fun W hB => ⟨(ES0.out.box.below hB).b0, (ES0.out.box.below hB).b1, (ES0.out.box.below hB).b2, (ES0.out.box.below hB).b3⟩
  refine wp_region_z (S := (fun W => W.cell? ⟨w.heap.size, 0, none⟩ = some (.slice A1 i.cars.length c1) ∧ W.cell? ⟨w.heap.size, 1, none⟩ = some (.slice A2 i.stops.length c2) ∧ W.cell? ⟨w.heap.size, 2, none⟩ = some (.slice A3 i.pairs.length c3) ∧ W.cell? ⟨w.heap.size, 3, none⟩ = some (.slice A4 i.travel.length c4))) (z := 26) (by kernel_rfl) (SS.out _ (Below.refl wa.heap.size wa).drew) (fun hH => ?_)
  refine wpAnyZ_takeS (i := 0) (v := ?_) rfl (by kernel_rfl) (by kernel_rfl) (by kernel_rfl) (by kernel_rfl) (fun _ _ _ h => h) (gives_value (by rfl) ?_) (by assumption) ?_
  rotate_left
  · intro w hSw
    (try dsimp only at hSw)
    go_simp
    (try with_reducible rfl)
  (try simp only [Act.put, List.getElem_toArray, List.getElem_cons_succ, List.getElem_cons_zero, List.setIfInBounds_toArray, List.set_cons_zero, List.set_cons_succ])
  refine wpAnyZ_takeS (i := 1) (v := ?_) rfl (by kernel_rfl) (by kernel_rfl) (by kernel_rfl) (by kernel_rfl) (fun _ _ _ h => h) (gives_value (by rfl) ?_) (by assumption) ?_
  rotate_left
  · intro w hSw
    (try dsimp only at hSw)
    go_simp
    (try with_reducible rfl)
  (try simp only [Act.put, List.getElem_toArray, List.getElem_cons_succ, List.getElem_cons_zero, List.setIfInBounds_toArray, List.set_cons_zero, List.set_cons_succ])
  refine wpAnyZ_one (i := 2) (by kernel_rfl) ?_
  refine zstep rfl (fun K hK => ?_)
  go_simp
  (with_reducible refine (KC.out _ ES0.out.below.drew).mono ?_)
  rintro e w1 ⟨rfl, hb⟩
  have HB1 := Lib.hid (((Below.refl wa.heap.size wa).drew).trans hb)
  clear hb
  refine hK.out _ _ (fun _ => SS.out _ HB1.out) (fun hH => ?_)
  replace hH := hH (by decide)
  clear hK K
  (try simp only [Act.put, List.getElem_toArray, List.getElem_cons_succ, List.getElem_cons_zero, List.setIfInBounds_toArray, List.set_cons_zero, List.set_cons_succ])
  refine wpAnyZ_takeS (i := 3) (v := ?_) rfl (by kernel_rfl) (by kernel_rfl) (by kernel_rfl) (by kernel_rfl) (fun _ _ _ h => h) (gives_value (by rfl) ?_) (by assumption) ?_
  rotate_left
  · intro w hSw
    (try dsimp only at hSw)
    go_simp
    (try with_reducible rfl)
  (try simp only [Act.put, List.getElem_toArray, List.getElem_cons_succ, List.getElem_cons_zero, List.setIfInBounds_toArray, List.set_cons_zero, List.set_cons_succ])
  refine wpAnyZ_takeS (i := 4) (v := ?_) rfl (by kernel_rfl) (by kernel_rfl) (by kernel_rfl) (by kernel_rfl) (fun _ _ _ h => h) (gives_value (by rfl) ?_) (by assumption) ?_
  rotate_left
  · intro w hSw
    (try dsimp only at hSw)
    go_simp
    (try with_reducible rfl)
  (try simp only [Act.put, List.getElem_toArray, List.getElem_cons_succ, List.getElem_cons_zero, List.setIfInBounds_toArray, List.set_cons_zero, List.set_cons_succ])
  refine wpAnyZ_skipS (i := 5) rfl (by kernel_rfl) (by kernel_rfl) (by kernel_rfl) (by kernel_rfl) (fun _ _ _ h => h) (by rfl) (by assumption) ?_
  (try simp only [Act.put, List.getElem_toArray, List.getElem_cons_succ, List.getElem_cons_zero, List.setIfInBounds_toArray, List.set_cons_zero, List.set_cons_succ])
  refine wpAnyZ_skipS (i := 6) rfl (by kernel_rfl) (by kernel_rfl) (by kernel_rfl) (by kernel_rfl) (fun _ _ _ h => h) (by rfl) (by assumption) ?_
  (try simp only [Act.put, List.getElem_toArray, List.getElem_cons_succ, List.getElem_cons_zero, List.setIfInBounds_toArray, List.set_cons_zero, List.set_cons_succ])
  refine wpAnyZ_skipS (i := 7) rfl (by kernel_rfl) (by kernel_rfl) (by kernel_rfl) (by kernel_rfl) (fun _ _ _ h => h) (by rfl) (by assumption) ?_
  (try simp only [Act.put, List.getElem_toArray, List.getElem_cons_succ, List.getElem_cons_zero, List.setIfInBounds_toArray, List.set_cons_zero, List.set_cons_succ])
  refine wpAnyZ_skipS (i := 8) rfl (by kernel_rfl) (by kernel_rfl) (by kernel_rfl) (by kernel_rfl) (fun _ _ _ h => h) (by rfl) (by assumption) ?_
  (try simp only [Act.put, List.getElem_toArray, List.getElem_cons_succ, List.getElem_cons_zero, List.setIfInBounds_toArray, List.set_cons_zero, List.set_cons_succ])
  refine wpAnyZ_skipS (i := 9) rfl (by kernel_rfl) (by kernel_rfl) (by kernel_rfl) (by kernel_rfl) (fun _ _ _ h => h) (by rfl) (by assumption) ?_
  (try simp only [Act.put, List.getElem_toArray, List.getElem_cons_succ, List.getElem_cons_zero, List.setIfInBounds_toArray, List.set_cons_zero, List.set_cons_succ])
  refine wpAnyZ_skipS (i := 10) rfl (by kernel_rfl) (by kernel_rfl) (by kernel_rfl) (by kernel_rfl) (fun _ _ _ h => h) (by rfl) (by assumption) ?_
  (try simp only [Act.put, List.getElem_toArray, List.getElem_cons_succ, List.getElem_cons_zero, List.setIfInBounds_toArray, List.set_cons_zero, List.set_cons_succ])
  refine wpAnyZ_skipS (i := 11) rfl (by kernel_rfl) (by kernel_rfl) (by kernel_rfl) (by kernel_rfl) (fun _ _ _ h => h) (by rfl) (by assumption) ?_
  (try simp only [Act.put, List.getElem_toArray, List.getElem_cons_succ, List.getElem_cons_zero, List.setIfInBounds_toArray, List.set_cons_zero, List.set_cons_succ])
  refine wpAnyZ_skipS (i := 12) rfl (by kernel_rfl) (by kernel_rfl) (by kernel_rfl) (by kernel_rfl) (fun _ _ _ h => h) (by rfl) (by assumption) ?_
  (try simp only [Act.put, List.getElem_toArray, List.getElem_cons_succ, List.getElem_cons_zero, List.setIfInBounds_toArray, List.set_cons_zero, List.set_cons_succ])
  refine wpAnyZ_skipS (i := 13) rfl (by kernel_rfl) (by kernel_rfl) (by kernel_rfl) (by kernel_rfl) (fun _ _ _ h => h) (by rfl) (by assumption) ?_
  (try simp only [Act.put, List.getElem_toArray, List.getElem_cons_succ, List.getElem_cons_zero, List.setIfInBounds_toArray, List.set_cons_zero, List.set_cons_succ])
  refine wpAnyZ_takeS (i := 14) (v := ?_) rfl (by kernel_rfl) (by kernel_rfl) (by kernel_rfl) (by kernel_rfl) (fun _ _ _ h => h) (gives_value (by rfl) ?_) (by assumption) ?_
  rotate_left
  · intro w hSw
    (try dsimp only at hSw)
    go_simp
    (try with_reducible rfl)
  (try simp only [Act.put, List.getElem_toArray, List.getElem_cons_succ, List.getElem_cons_zero, List.setIfInBounds_toArray, List.set_cons_zero, List.set_cons_succ])
  refine wpAnyZ_takeS (i := 15) (v := ?_) rfl (by kernel_rfl) (by kernel_rfl) (by kernel_rfl) (by kernel_rfl) (fun _ _ _ h => h) (gives_value (by rfl) ?_) (by assumption) ?_
  rotate_left
  · intro w hSw
    (try dsimp only at hSw)
    go_simp
    (try with_reducible rfl)
  (try simp only [Act.put, List.getElem_toArray, List.getElem_cons_succ, List.getElem_cons_zero, List.setIfInBounds_toArray, List.set_cons_zero, List.set_cons_succ])
  refine wpAnyZ_skipS (i := 16) rfl (by kernel_rfl) (by kernel_rfl) (by kernel_rfl) (by kernel_rfl) (fun _ _ _ h => h) (by rfl) (by assumption) ?_
  (try simp only [Act.put, List.getElem_toArray, List.getElem_cons_succ, List.getElem_cons_zero, List.setIfInBounds_toArray, List.set_cons_zero, List.set_cons_succ])
  refine wpAnyZ_skipS (i := 17) rfl (by kernel_rfl) (by kernel_rfl) (by kernel_rfl) (by kernel_rfl) (fun _ _ _ h => h) (by rfl) (by assumption) ?_
  (try simp only [Act.put, List.getElem_toArray, List.getElem_cons_succ, List.getElem_cons_zero, List.setIfInBounds_toArray, List.set_cons_zero, List.set_cons_succ])
  refine wpAnyZ_skipS (i := 18) rfl (by kernel_rfl) (by kernel_rfl) (by kernel_rfl) (by kernel_rfl) (fun _ _ _ h => h) (by rfl) (by assumption) ?_
  (try simp only [Act.put, List.getElem_toArray, List.getElem_cons_succ, List.getElem_cons_zero, List.setIfInBounds_toArray, List.set_cons_zero, List.set_cons_succ])
  refine wpAnyZ_skipS (i := 19) rfl (by kernel_rfl) (by kernel_rfl) (by kernel_rfl) (by kernel_rfl) (fun _ _ _ h => h) (by rfl) (by assumption) ?_
  (try simp only [Act.put, List.getElem_toArray, List.getElem_cons_succ, List.getElem_cons_zero, List.setIfInBounds_toArray, List.set_cons_zero, List.set_cons_succ])
  refine wpAnyZ_skipS (i := 20) rfl (by kernel_rfl) (by kernel_rfl) (by kernel_rfl) (by kernel_rfl) (fun _ _ _ h => h) (by rfl) (by assumption) ?_
  (try simp only [Act.put, List.getElem_toArray, List.getElem_cons_succ, List.getElem_cons_zero, List.setIfInBounds_toArray, List.set_cons_zero, List.set_cons_succ])
  refine wpAnyZ_skipS (i := 21) rfl (by kernel_rfl) (by kernel_rfl) (by kernel_rfl) (by kernel_rfl) (fun _ _ _ h => h) (by rfl) (by assumption) ?_
  (try simp only [Act.put, List.getElem_toArray, List.getElem_cons_succ, List.getElem_cons_zero, List.setIfInBounds_toArray, List.set_cons_zero, List.set_cons_succ])
  refine wpAnyZ_skipS (i := 22) rfl (by kernel_rfl) (by kernel_rfl) (by kernel_rfl) (by kernel_rfl) (fun _ _ _ h => h) (by rfl) (by assumption) ?_
  (try simp only [Act.put, List.getElem_toArray, List.getElem_cons_succ, List.getElem_cons_zero, List.setIfInBounds_toArray, List.set_cons_zero, List.set_cons_succ])
  refine wpAnyZ_skipS (i := 23) rfl (by kernel_rfl) (by kernel_rfl) (by kernel_rfl) (by kernel_rfl) (fun _ _ _ h => h) (by rfl) (by assumption) ?_
  (try simp only [Act.put, List.getElem_toArray, List.getElem_cons_succ, List.getElem_cons_zero, List.setIfInBounds_toArray, List.set_cons_zero, List.set_cons_succ])
  refine wpAnyZ_skipS (i := 24) rfl (by kernel_rfl) (by kernel_rfl) (by kernel_rfl) (by kernel_rfl) (fun _ _ _ h => h) (by rfl) (by assumption) ?_
  (try simp only [Act.put, List.getElem_toArray, List.getElem_cons_succ, List.getElem_cons_zero, List.setIfInBounds_toArray, List.set_cons_zero, List.set_cons_succ])
  refine wpAnyZ_takeS (i := 25) (v := ?_) rfl (by kernel_rfl) (by kernel_rfl) (by kernel_rfl) (by kernel_rfl) (fun _ _ _ h => h) (gives_value (by rfl) ?_) (by assumption) ?_
  rotate_left
  · intro w hSw
    (try dsimp only at hSw)
    go_simp
    (try with_reducible rfl)
  (try simp only [Act.put, List.getElem_toArray, List.getElem_cons_succ, List.getElem_cons_zero, List.setIfInBounds_toArray, List.set_cons_zero, List.set_cons_succ])
  refine wpAnyZ_done (by kernel_rfl) ?_ _
  have ES2 := Lib.hid (ES0.out.on HB1.out)
  clear hH
  clear SS ES0
  go_wp2
  exact bodyPost_ret (v := .tuple #[.int .i64 0, .bool false]) (by simp [results, Try.results16, go_sem]) rfl ⟨rfl, ES2.out.below⟩
set_option maxRecDepth 100000 in
set_option maxHeartbeats 8000000 in
theorem pmeet_noh (i : Prob) (cn : Nat) (cap st en : Int) (ok ok2 : Bool) (x1 x2 x3 x4 x5 x6 y1 y2 y3 y4 y5 y6 y7 : Int) (w : World) (B3 o3 : Nat) (A2 A3 A4 : Option Addr) (c1 c2 c3 c4 : Nat) (hs : Said w (some ⟨B3, o3, none⟩) A2 A3 A4 c1 c2 c3 c4 i) (KC : ∀ W, Below w.heap.size w W → Calls Try.prog 33 #[.agg #[.slice (some ⟨B3, o3, none⟩) i.cars.length c1, .slice A2 i.stops.length c2, .slice A3 i.pairs.length c3, .slice A4 i.travel.length c4], .int .i64 cn] W fun e w' => e = .returned (.bool true) ∧ Below W.heap.size W w') (hcn : cn < i.cars.length) (hB3 : B3 < w.heap.size) (e0 : w.cell? ⟨B3, o3 + cn * 3, none⟩ = some (.int .i64 cap)) (e1 : w.cell? ⟨B3, o3 + cn * 3 + 1, none⟩ = some (.int .i64 st)) (e2 : w.cell? ⟨B3, o3 + cn * 3 + 2, none⟩ = some (.int .i64 en))
    (KA : ∀ W, Below w.heap.size w W → Calls Try.prog 38 #[.agg #[.slice (some ⟨B3, o3, none⟩) i.cars.length c1, .slice A2 i.stops.length c2, .slice A3 i.pairs.length c3, .slice A4 i.travel.length c4], .agg #[.int .i64 cap, .int .i64 st, .int .i64 en], .agg #[.bool ok, .int .i64 x1, .int .i64 x2, .int .i64 x3, .int .u32 x4, .int .u32 x5, .int .i64 x6]] W fun e w' => e = .returned (.bool false) ∧ Below W.heap.size W w') :
    Calls Try.prog 16 #[.agg #[.slice (some ⟨B3, o3, none⟩) i.cars.length c1, .slice A2 i.stops.length c2, .slice A3 i.pairs.length c3, .slice A4 i.travel.length c4], .int .i64 cn, .agg #[.bool ok, .int .i64 x1, .int .i64 x2, .int .i64 x3, .int .u32 x4, .int .u32 x5, .int .i64 x6], .agg #[.bool ok2, .int .i64 y1, .int .i64 y2, .int .i64 y3, .int .i64 y4, .int .u32 y5, .int .u32 y6, .int .i64 y7]] w fun e w' => e = .returned (meetV none) ∧ Below w.heap.size w w' := by
  have ES0 := Lib.hid (bef_es0 hs #[.bool ok, .int .i64 x1, .int .i64 x2, .int .i64 x3, .int .u32 x4, .int .u32 x5, .int .i64 x6] #[.bool ok2, .int .i64 y1, .int .i64 y2, .int .i64 y3, .int .i64 y4, .int .u32 y5, .int .u32 y6, .int .i64 y7] 28 44 46)
  have KC := Lib.hid KC
  have KA := Lib.hid KA
  have e0' := Lib.hid e0
  have e1' := Lib.hid e1
  have e2' := Lib.hid e2
  clear hs e0 e1 e2
  go_enter Try.func16, Try.ntmps16
  go_upto_region 1 with (fail)
  generalize ((w.alloc (.cells #[.slice (some ⟨B3, o3, none⟩) i.cars.length c1, .slice A2 i.stops.length c2, .slice A3 i.pairs.length c3, .slice A4 i.travel.length c4] 28)).alloc (.cells #[.bool ok, .int .i64 x1, .int .i64 x2, .int .i64 x3, .int .u32 x4, .int .u32 x5, .int .i64 x6] 44)).alloc (.cells #[.bool ok2, .int .i64 y1, .int .i64 y2, .int .i64 y3, .int .i64 y4, .int .u32 y5, .int .u32 y6, .int .i64 y7] 46) = wa at *
  generalize w.heap.size + 1 + 1 = R at *
  generalize w.heap.size + 1 = H at *
  have SS : Hid (∀ W, Below wa.heap.size wa W → W.cell? ⟨w.heap.size, 0, none⟩ = some (.slice (some ⟨B3, o3, none⟩) i.cars.length c1) ∧ W.cell? ⟨w.heap.size, 1, none⟩ = some (.slice A2 i.stops.length c2) ∧ W.cell? ⟨w.heap.size, 2, none⟩ = some (.slice A3 i.pairs.length c3) ∧ W.cell? ⟨w.heap.size, 3, none⟩ = some (.slice A4 i.travel.length c4) ∧ W.cell? ⟨H, 0, none⟩ = some (.bool ok) ∧ W.cell? ⟨H, 1, none⟩ = some (.int .i64 x1) ∧ W.cell? ⟨H, 2, none⟩ = some (.int .i64 x2) ∧ W.cell? ⟨H, 3, none⟩ = some (.int .i64 x3) ∧ W.cell? ⟨H, 4, none⟩ = some (.int .u32 x4) ∧ W.cell? ⟨H, 5, none⟩ = some (.int .u32 x5) ∧ W.cell? ⟨H, 6, none⟩ = some (.int .i64 x6) ∧ W.cell? ⟨R, 0, none⟩ = some (.bool ok2) ∧ W.cell? ⟨R, 1, none⟩ = some (.int .i64 y1) ∧ W.cell? ⟨R, 2, none⟩ = some (.int .i64 y2) ∧ W.cell? ⟨R, 3, none⟩ = some (.int .i64 y3) ∧ W.cell? ⟨R, 4, none⟩ = some (.int .i64 y4) ∧ W.cell? ⟨R, 5, none⟩ = some (.int .u32 y5) ∧ W.cell? ⟨R, 6, none⟩ = some (.int .u32 y6) ∧ W.cell? ⟨R, 7, none⟩ = some (.int .i64 y7) ∧ W.cell? ⟨B3, o3 + cn * 3, none⟩ = some (.int .i64 cap) ∧ W.cell? ⟨B3, o3 + cn * 3 + 1, none⟩ = some (.int .i64 st) ∧ W.cell? ⟨B3, o3 + cn * 3 + 2, none⟩ = some (.int .i64 en)) := fun W hB =>
    have hB' : Below w.heap.size w W := ES0.out.below.trans (hB.mono ES0.out.below.size)
    ⟨(ES0.out.box.below hB).b0, (ES0.out.box.below hB).b1, (ES0.out.box.below hB).b2, (ES0.out.box.below hB).b3, (ES0.out.hb.below hB).cell (j := 0) rfl, (ES0.out.hb.below hB).cell (j := 1) rfl, (ES0.out.hb.below hB).cell (j := 2) rfl, (ES0.out.hb.below hB).cell (j := 3) rfl, (ES0.out.hb.below hB).cell (j := 4) rfl, (ES0.out.hb.below hB).cell (j := 5) rfl, (ES0.out.hb.below hB).cell (j := 6) rfl, (ES0.out.rb.below hB).cell (j := 0) rfl, (ES0.out.rb.below hB).cell (j := 1) rfl, (ES0.out.rb.below hB).cell (j := 2) rfl, (ES0.out.rb.below hB).cell (j := 3) rfl, (ES0.out.rb.below hB).cell (j := 4) rfl, (ES0.out.rb.below hB).cell (j := 5) rfl, (ES0.out.rb.below hB).cell (j := 6) rfl, (ES0.out.rb.below hB).cell (j := 7) rfl, cell_up hB' hB3 e0'.out, cell_up hB' hB3 e1'.out, cell_up hB' hB3 e2'.out⟩
  have n0 : (0 : Int) ≤ (cn : Int) := by omega
  have n1 : (cn : Int) < (i.cars.length : Int) := by omega
  have n2 : (cn : Int).toNat = cn := by omega
  refine wp_region_z (S := (fun W => W.cell? ⟨w.heap.size, 0, none⟩ = some (.slice (some ⟨B3, o3, none⟩) i.cars.length c1) ∧ W.cell? ⟨w.heap.size, 1, none⟩ = some (.slice A2 i.stops.length c2) ∧ W.cell? ⟨w.heap.size, 2, none⟩ = some (.slice A3 i.pairs.length c3) ∧ W.cell? ⟨w.heap.size, 3, none⟩ = some (.slice A4 i.travel.length c4) ∧ W.cell? ⟨H, 0, none⟩ = some (.bool ok) ∧ W.cell? ⟨H, 1, none⟩ = some (.int .i64 x1) ∧ W.cell? ⟨H, 2, none⟩ = some (.int .i64 x2) ∧ W.cell? ⟨H, 3, none⟩ = some (.int .i64 x3) ∧ W.cell? ⟨H, 4, none⟩ = some (.int .u32 x4) ∧ W.cell? ⟨H, 5, none⟩ = some (.int .u32 x5) ∧ W.cell? ⟨H, 6, none⟩ = some (.int .i64 x6) ∧ W.cell? ⟨R, 0, none⟩ = some (.bool ok2) ∧ W.cell? ⟨R, 1, none⟩ = some (.int .i64 y1) ∧ W.cell? ⟨R, 2, none⟩ = some (.int .i64 y2) ∧ W.cell? ⟨R, 3, none⟩ = some (.int .i64 y3) ∧ W.cell? ⟨R, 4, none⟩ = some (.int .i64 y4) ∧ W.cell? ⟨R, 5, none⟩ = some (.int .u32 y5) ∧ W.cell? ⟨R, 6, none⟩ = some (.int .u32 y6) ∧ W.cell? ⟨R, 7, none⟩ = some (.int .i64 y7) ∧ W.cell? ⟨B3, o3 + cn * 3, none⟩ = some (.int .i64 cap) ∧ W.cell? ⟨B3, o3 + cn * 3 + 1, none⟩ = some (.int .i64 st) ∧ W.cell? ⟨B3, o3 + cn * 3 + 2, none⟩ = some (.int .i64 en))) (z := 26) (by kernel_rfl) (SS.out _ (Below.refl wa.heap.size wa).drew) (fun hH => ?_)
  refine wpAnyZ_takeS (i := 0) (v := ?_) rfl (by kernel_rfl) (by kernel_rfl) (by kernel_rfl) (by kernel_rfl) (fun _ _ _ h => h) (gives_value (by rfl) ?_) (by assumption) ?_
  rotate_left
  · intro w hSw
    (try dsimp only at hSw)
    go_simp
    (try with_reducible rfl)
  (try simp only [Act.put, List.getElem_toArray, List.getElem_cons_succ, List.getElem_cons_zero, List.setIfInBounds_toArray, List.set_cons_zero, List.set_cons_succ])
  refine wpAnyZ_takeS (i := 1) (v := ?_) rfl (by kernel_rfl) (by kernel_rfl) (by kernel_rfl) (by kernel_rfl) (fun _ _ _ h => h) (gives_value (by rfl) ?_) (by assumption) ?_
  rotate_left
  · intro w hSw
    (try dsimp only at hSw)
    go_simp
    (try with_reducible rfl)
  (try simp only [Act.put, List.getElem_toArray, List.getElem_cons_succ, List.getElem_cons_zero, List.setIfInBounds_toArray, List.set_cons_zero, List.set_cons_succ])
  refine wpAnyZ_one (i := 2) (by kernel_rfl) ?_
  refine zstep rfl (fun K hK => ?_)
  go_simp
  (with_reducible refine (KC.out _ ES0.out.below.drew).mono ?_)
  rintro e w1 ⟨rfl, hb⟩
  have HB1 := Lib.hid (((Below.refl wa.heap.size wa).drew).trans hb)
  clear hb
  refine hK.out _ _ (fun _ => SS.out _ HB1.out) (fun hH => ?_)
  replace hH := hH (by decide)
  clear hK K
  (try simp only [Act.put, List.getElem_toArray, List.getElem_cons_succ, List.getElem_cons_zero, List.setIfInBounds_toArray, List.set_cons_zero, List.set_cons_succ])
  refine wpAnyZ_takeS (i := 3) (v := ?_) rfl (by kernel_rfl) (by kernel_rfl) (by kernel_rfl) (by kernel_rfl) (fun _ _ _ h => h) (gives_value (by rfl) ?_) (by assumption) ?_
  rotate_left
  · intro w hSw
    (try dsimp only at hSw)
    go_simp
    (try with_reducible rfl)
  (try simp only [Act.put, List.getElem_toArray, List.getElem_cons_succ, List.getElem_cons_zero, List.setIfInBounds_toArray, List.set_cons_zero, List.set_cons_succ])
  refine wpAnyZ_takeS (i := 4) (v := ?_) rfl (by kernel_rfl) (by kernel_rfl) (by kernel_rfl) (by kernel_rfl) (fun _ _ _ h => h) (gives_value (by rfl) ?_) (by assumption) ?_
  rotate_left
  · intro w hSw
    (try dsimp only at hSw)
    go_simp
    (try with_reducible rfl)
  (try simp only [Act.put, List.getElem_toArray, List.getElem_cons_succ, List.getElem_cons_zero, List.setIfInBounds_toArray, List.set_cons_zero, List.set_cons_succ])
  refine wpAnyZ_takeS (i := 5) (v := ?_) rfl (by kernel_rfl) (by kernel_rfl) (by kernel_rfl) (by kernel_rfl) (fun _ _ _ h => h) (gives_value (by rfl) ?_) (by assumption) ?_
  rotate_left
  · intro w hSw
    (try dsimp only at hSw)
    go_simp
    (try with_reducible rfl)
  (try simp only [Act.put, List.getElem_toArray, List.getElem_cons_succ, List.getElem_cons_zero, List.setIfInBounds_toArray, List.set_cons_zero, List.set_cons_succ])
  refine wpAnyZ_takeS (i := 6) (v := ?_) rfl (by kernel_rfl) (by kernel_rfl) (by kernel_rfl) (by kernel_rfl) (fun _ _ _ h => h) (gives_value (by rfl) ?_) (by assumption) ?_
  rotate_left
  · intro w hSw
    (try dsimp only at hSw)
    go_simp
    (try with_reducible rfl)
  (try simp only [Act.put, List.getElem_toArray, List.getElem_cons_succ, List.getElem_cons_zero, List.setIfInBounds_toArray, List.set_cons_zero, List.set_cons_succ])
  refine wpAnyZ_takeS (i := 7) (v := ?_) rfl (by kernel_rfl) (by kernel_rfl) (by kernel_rfl) (by kernel_rfl) (fun _ _ _ h => h) (gives_value (by rfl) ?_) (by assumption) ?_
  rotate_left
  · intro w hSw
    (try dsimp only at hSw)
    go_simp
    (try with_reducible rfl)
  (try simp only [Act.put, List.getElem_toArray, List.getElem_cons_succ, List.getElem_cons_zero, List.setIfInBounds_toArray, List.set_cons_zero, List.set_cons_succ])
  refine wpAnyZ_takeS (i := 8) (v := ?_) rfl (by kernel_rfl) (by kernel_rfl) (by kernel_rfl) (by kernel_rfl) (fun _ _ _ h => h) (gives_value (by rfl) ?_) (by assumption) ?_
  rotate_left
  · intro w hSw
    (try dsimp only at hSw)
    go_simp
    (try with_reducible rfl)
  (try simp only [Act.put, List.getElem_toArray, List.getElem_cons_succ, List.getElem_cons_zero, List.setIfInBounds_toArray, List.set_cons_zero, List.set_cons_succ])
  refine wpAnyZ_takeS (i := 9) (v := ?_) rfl (by kernel_rfl) (by kernel_rfl) (by kernel_rfl) (by kernel_rfl) (fun _ _ _ h => h) (gives_value (by rfl) ?_) (by assumption) ?_
  rotate_left
  · intro w hSw
    (try dsimp only at hSw)
    go_simp
    (try with_reducible rfl)
  (try simp only [Act.put, List.getElem_toArray, List.getElem_cons_succ, List.getElem_cons_zero, List.setIfInBounds_toArray, List.set_cons_zero, List.set_cons_succ])
  refine wpAnyZ_takeS (i := 10) (v := ?_) rfl (by kernel_rfl) (by kernel_rfl) (by kernel_rfl) (by kernel_rfl) (fun _ _ _ h => h) (gives_value (by rfl) ?_) (by assumption) ?_
  rotate_left
  · intro w hSw
    (try dsimp only at hSw)
    go_simp
    (try with_reducible rfl)
  (try simp only [Act.put, List.getElem_toArray, List.getElem_cons_succ, List.getElem_cons_zero, List.setIfInBounds_toArray, List.set_cons_zero, List.set_cons_succ])
  refine wpAnyZ_takeS (i := 11) (v := ?_) rfl (by kernel_rfl) (by kernel_rfl) (by kernel_rfl) (by kernel_rfl) (fun _ _ _ h => h) (gives_value (by rfl) ?_) (by assumption) ?_
  rotate_left
  · intro w hSw
    (try dsimp only at hSw)
    go_simp
    (try with_reducible rfl)
  (try simp only [Act.put, List.getElem_toArray, List.getElem_cons_succ, List.getElem_cons_zero, List.setIfInBounds_toArray, List.set_cons_zero, List.set_cons_succ])
  refine wpAnyZ_one (i := 12) (by kernel_rfl) ?_
  refine zstep rfl (fun K hK => ?_)
  go_simp
  (with_reducible refine (KA.out _ (ES0.out.below.trans (HB1.out.mono ES0.out.below.size))).mono ?_)
  rintro e w2 ⟨rfl, hb⟩
  have HB2 := Lib.hid (HB1.out.trans (hb.mono HB1.out.size))
  clear hb HB1
  refine hK.out _ _ (fun _ => SS.out _ HB2.out) (fun hH => ?_)
  replace hH := hH (by decide)
  clear hK K
  (try simp only [Act.put, List.getElem_toArray, List.getElem_cons_succ, List.getElem_cons_zero, List.setIfInBounds_toArray, List.set_cons_zero, List.set_cons_succ])
  refine wpAnyZ_takeS (i := 13) (v := ?_) rfl (by kernel_rfl) (by kernel_rfl) (by kernel_rfl) (by kernel_rfl) (fun _ _ _ h => h) (gives_value (by rfl) ?_) (by assumption) ?_
  rotate_left
  · intro w hSw
    (try dsimp only at hSw)
    go_simp
    (try with_reducible rfl)
  (try simp only [Act.put, List.getElem_toArray, List.getElem_cons_succ, List.getElem_cons_zero, List.setIfInBounds_toArray, List.set_cons_zero, List.set_cons_succ])
  refine wpAnyZ_takeS (i := 14) (v := ?_) rfl (by kernel_rfl) (by kernel_rfl) (by kernel_rfl) (by kernel_rfl) (fun _ _ _ h => h) (gives_value (by rfl) ?_) (by assumption) ?_
  rotate_left
  · intro w hSw
    (try dsimp only at hSw)
    go_simp
    (try with_reducible rfl)
  (try simp only [Act.put, List.getElem_toArray, List.getElem_cons_succ, List.getElem_cons_zero, List.setIfInBounds_toArray, List.set_cons_zero, List.set_cons_succ])
  refine wpAnyZ_takeS (i := 15) (v := ?_) rfl (by kernel_rfl) (by kernel_rfl) (by kernel_rfl) (by kernel_rfl) (fun _ _ _ h => h) (gives_value (by rfl) ?_) (by assumption) ?_
  rotate_left
  · intro w hSw
    (try dsimp only at hSw)
    go_simp
    (try with_reducible rfl)
  (try simp only [Act.put, List.getElem_toArray, List.getElem_cons_succ, List.getElem_cons_zero, List.setIfInBounds_toArray, List.set_cons_zero, List.set_cons_succ])
  refine wpAnyZ_skipS (i := 16) rfl (by kernel_rfl) (by kernel_rfl) (by kernel_rfl) (by kernel_rfl) (fun _ _ _ h => h) (by rfl) (by assumption) ?_
  (try simp only [Act.put, List.getElem_toArray, List.getElem_cons_succ, List.getElem_cons_zero, List.setIfInBounds_toArray, List.set_cons_zero, List.set_cons_succ])
  refine wpAnyZ_skipS (i := 17) rfl (by kernel_rfl) (by kernel_rfl) (by kernel_rfl) (by kernel_rfl) (fun _ _ _ h => h) (by rfl) (by assumption) ?_
  (try simp only [Act.put, List.getElem_toArray, List.getElem_cons_succ, List.getElem_cons_zero, List.setIfInBounds_toArray, List.set_cons_zero, List.set_cons_succ])
  refine wpAnyZ_skipS (i := 18) rfl (by kernel_rfl) (by kernel_rfl) (by kernel_rfl) (by kernel_rfl) (fun _ _ _ h => h) (by rfl) (by assumption) ?_
  (try simp only [Act.put, List.getElem_toArray, List.getElem_cons_succ, List.getElem_cons_zero, List.setIfInBounds_toArray, List.set_cons_zero, List.set_cons_succ])
  refine wpAnyZ_skipS (i := 19) rfl (by kernel_rfl) (by kernel_rfl) (by kernel_rfl) (by kernel_rfl) (fun _ _ _ h => h) (by rfl) (by assumption) ?_
  (try simp only [Act.put, List.getElem_toArray, List.getElem_cons_succ, List.getElem_cons_zero, List.setIfInBounds_toArray, List.set_cons_zero, List.set_cons_succ])
  refine wpAnyZ_skipS (i := 20) rfl (by kernel_rfl) (by kernel_rfl) (by kernel_rfl) (by kernel_rfl) (fun _ _ _ h => h) (by rfl) (by assumption) ?_
  (try simp only [Act.put, List.getElem_toArray, List.getElem_cons_succ, List.getElem_cons_zero, List.setIfInBounds_toArray, List.set_cons_zero, List.set_cons_succ])
  refine wpAnyZ_skipS (i := 21) rfl (by kernel_rfl) (by kernel_rfl) (by kernel_rfl) (by kernel_rfl) (fun _ _ _ h => h) (by rfl) (by assumption) ?_
  (try simp only [Act.put, List.getElem_toArray, List.getElem_cons_succ, List.getElem_cons_zero, List.setIfInBounds_toArray, List.set_cons_zero, List.set_cons_succ])
  refine wpAnyZ_skipS (i := 22) rfl (by kernel_rfl) (by kernel_rfl) (by kernel_rfl) (by kernel_rfl) (fun _ _ _ h => h) (by rfl) (by assumption) ?_
  (try simp only [Act.put, List.getElem_toArray, List.getElem_cons_succ, List.getElem_cons_zero, List.setIfInBounds_toArray, List.set_cons_zero, List.set_cons_succ])
  refine wpAnyZ_skipS (i := 23) rfl (by kernel_rfl) (by kernel_rfl) (by kernel_rfl) (by kernel_rfl) (fun _ _ _ h => h) (by rfl) (by assumption) ?_
  (try simp only [Act.put, List.getElem_toArray, List.getElem_cons_succ, List.getElem_cons_zero, List.setIfInBounds_toArray, List.set_cons_zero, List.set_cons_succ])
  refine wpAnyZ_skipS (i := 24) rfl (by kernel_rfl) (by kernel_rfl) (by kernel_rfl) (by kernel_rfl) (fun _ _ _ h => h) (by rfl) (by assumption) ?_
  (try simp only [Act.put, List.getElem_toArray, List.getElem_cons_succ, List.getElem_cons_zero, List.setIfInBounds_toArray, List.set_cons_zero, List.set_cons_succ])
  refine wpAnyZ_takeS (i := 25) (v := ?_) rfl (by kernel_rfl) (by kernel_rfl) (by kernel_rfl) (by kernel_rfl) (fun _ _ _ h => h) (gives_value (by rfl) ?_) (by assumption) ?_
  rotate_left
  · intro w hSw
    (try dsimp only at hSw)
    go_simp
    (try with_reducible rfl)
  (try simp only [Act.put, List.getElem_toArray, List.getElem_cons_succ, List.getElem_cons_zero, List.setIfInBounds_toArray, List.set_cons_zero, List.set_cons_succ])
  refine wpAnyZ_done (by kernel_rfl) ?_ _
  have ES2 := Lib.hid (ES0.out.on HB2.out)
  clear hH
  clear SS ES0
  go_wp2
  exact bodyPost_ret (v := .tuple #[.int .i64 0, .bool false]) (by simp [results, Try.results16, go_sem]) rfl ⟨rfl, ES2.out.below⟩
set_option maxRecDepth 100000 in
set_option maxHeartbeats 8000000 in
theorem pmeet_not (i : Prob) (cn : Nat) (cap st en : Int) (ok ok2 : Bool) (x1 x2 x3 x4 x5 x6 y1 y2 y3 y4 y5 y6 y7 : Int) (w : World) (B3 o3 : Nat) (A2 A3 A4 : Option Addr) (c1 c2 c3 c4 : Nat) (hs : Said w (some ⟨B3, o3, none⟩) A2 A3 A4 c1 c2 c3 c4 i) (KC : ∀ W, Below w.heap.size w W → Calls Try.prog 33 #[.agg #[.slice (some ⟨B3, o3, none⟩) i.cars.length c1, .slice A2 i.stops.length c2, .slice A3 i.pairs.length c3, .slice A4 i.travel.length c4], .int .i64 cn] W fun e w' => e = .returned (.bool true) ∧ Below W.heap.size W w') (hcn : cn < i.cars.length) (hB3 : B3 < w.heap.size) (e0 : w.cell? ⟨B3, o3 + cn * 3, none⟩ = some (.int .i64 cap)) (e1 : w.cell? ⟨B3, o3 + cn * 3 + 1, none⟩ = some (.int .i64 st)) (e2 : w.cell? ⟨B3, o3 + cn * 3 + 2, none⟩ = some (.int .i64 en))
    (KA : ∀ W, Below w.heap.size w W → Calls Try.prog 38 #[.agg #[.slice (some ⟨B3, o3, none⟩) i.cars.length c1, .slice A2 i.stops.length c2, .slice A3 i.pairs.length c3, .slice A4 i.travel.length c4], .agg #[.int .i64 cap, .int .i64 st, .int .i64 en], .agg #[.bool ok, .int .i64 x1, .int .i64 x2, .int .i64 x3, .int .u32 x4, .int .u32 x5, .int .i64 x6]] W fun e w' => e = .returned (.bool true) ∧ Below W.heap.size W w')
    (KT : ∀ W, Below w.heap.size w W → Calls Try.prog 39 #[.agg #[.slice (some ⟨B3, o3, none⟩) i.cars.length c1, .slice A2 i.stops.length c2, .slice A3 i.pairs.length c3, .slice A4 i.travel.length c4], .agg #[.int .i64 cap, .int .i64 st, .int .i64 en], .agg #[.bool ok2, .int .i64 y1, .int .i64 y2, .int .i64 y3, .int .i64 y4, .int .u32 y5, .int .u32 y6, .int .i64 y7]] W fun e w' => e = .returned (.bool false) ∧ Below W.heap.size W w') :
    Calls Try.prog 16 #[.agg #[.slice (some ⟨B3, o3, none⟩) i.cars.length c1, .slice A2 i.stops.length c2, .slice A3 i.pairs.length c3, .slice A4 i.travel.length c4], .int .i64 cn, .agg #[.bool ok, .int .i64 x1, .int .i64 x2, .int .i64 x3, .int .u32 x4, .int .u32 x5, .int .i64 x6], .agg #[.bool ok2, .int .i64 y1, .int .i64 y2, .int .i64 y3, .int .i64 y4, .int .u32 y5, .int .u32 y6, .int .i64 y7]] w fun e w' => e = .returned (meetV none) ∧ Below w.heap.size w w' := by
  have ES0 := Lib.hid (bef_es0 hs #[.bool ok, .int .i64 x1, .int .i64 x2, .int .i64 x3, .int .u32 x4, .int .u32 x5, .int .i64 x6] #[.bool ok2, .int .i64 y1, .int .i64 y2, .int .i64 y3, .int .i64 y4, .int .u32 y5, .int .u32 y6, .int .i64 y7] 28 44 46)
  have KC := Lib.hid KC
  have KA := Lib.hid KA
  have e0' := Lib.hid e0
  have e1' := Lib.hid e1
  have e2' := Lib.hid e2
  have KT := Lib.hid KT
  clear hs e0 e1 e2
  go_enter Try.func16, Try.ntmps16
  go_upto_region 1 with (fail)
  generalize ((w.alloc (.cells #[.slice (some ⟨B3, o3, none⟩) i.cars.length c1, .slice A2 i.stops.length c2, .slice A3 i.pairs.length c3, .slice A4 i.travel.length c4] 28)).alloc (.cells #[.bool ok, .int .i64 x1, .int .i64 x2, .int .i64 x3, .int .u32 x4, .int .u32 x5, .int .i64 x6] 44)).alloc (.cells #[.bool ok2, .int .i64 y1, .int .i64 y2, .int .i64 y3, .int .i64 y4, .int .u32 y5, .int .u32 y6, .int .i64 y7] 46) = wa at *
  generalize w.heap.size + 1 + 1 = R at *
  generalize w.heap.size + 1 = H at *
  have SS : Hid (∀ W, Below wa.heap.size wa W → W.cell? ⟨w.heap.size, 0, none⟩ = some (.slice (some ⟨B3, o3, none⟩) i.cars.length c1) ∧ W.cell? ⟨w.heap.size, 1, none⟩ = some (.slice A2 i.stops.length c2) ∧ W.cell? ⟨w.heap.size, 2, none⟩ = some (.slice A3 i.pairs.length c3) ∧ W.cell? ⟨w.heap.size, 3, none⟩ = some (.slice A4 i.travel.length c4) ∧ W.cell? ⟨H, 0, none⟩ = some (.bool ok) ∧ W.cell? ⟨H, 1, none⟩ = some (.int .i64 x1) ∧ W.cell? ⟨H, 2, none⟩ = some (.int .i64 x2) ∧ W.cell? ⟨H, 3, none⟩ = some (.int .i64 x3) ∧ W.cell? ⟨H, 4, none⟩ = some (.int .u32 x4) ∧ W.cell? ⟨H, 5, none⟩ = some (.int .u32 x5) ∧ W.cell? ⟨H, 6, none⟩ = some (.int .i64 x6) ∧ W.cell? ⟨R, 0, none⟩ = some (.bool ok2) ∧ W.cell? ⟨R, 1, none⟩ = some (.int .i64 y1) ∧ W.cell? ⟨R, 2, none⟩ = some (.int .i64 y2) ∧ W.cell? ⟨R, 3, none⟩ = some (.int .i64 y3) ∧ W.cell? ⟨R, 4, none⟩ = some (.int .i64 y4) ∧ W.cell? ⟨R, 5, none⟩ = some (.int .u32 y5) ∧ W.cell? ⟨R, 6, none⟩ = some (.int .u32 y6) ∧ W.cell? ⟨R, 7, none⟩ = some (.int .i64 y7) ∧ W.cell? ⟨B3, o3 + cn * 3, none⟩ = some (.int .i64 cap) ∧ W.cell? ⟨B3, o3 + cn * 3 + 1, none⟩ = some (.int .i64 st) ∧ W.cell? ⟨B3, o3 + cn * 3 + 2, none⟩ = some (.int .i64 en)) := fun W hB =>
    have hB' : Below w.heap.size w W := ES0.out.below.trans (hB.mono ES0.out.below.size)
    ⟨(ES0.out.box.below hB).b0, (ES0.out.box.below hB).b1, (ES0.out.box.below hB).b2, (ES0.out.box.below hB).b3, (ES0.out.hb.below hB).cell (j := 0) rfl, (ES0.out.hb.below hB).cell (j := 1) rfl, (ES0.out.hb.below hB).cell (j := 2) rfl, (ES0.out.hb.below hB).cell (j := 3) rfl, (ES0.out.hb.below hB).cell (j := 4) rfl, (ES0.out.hb.below hB).cell (j := 5) rfl, (ES0.out.hb.below hB).cell (j := 6) rfl, (ES0.out.rb.below hB).cell (j := 0) rfl, (ES0.out.rb.below hB).cell (j := 1) rfl, (ES0.out.rb.below hB).cell (j := 2) rfl, (ES0.out.rb.below hB).cell (j := 3) rfl, (ES0.out.rb.below hB).cell (j := 4) rfl, (ES0.out.rb.below hB).cell (j := 5) rfl, (ES0.out.rb.below hB).cell (j := 6) rfl, (ES0.out.rb.below hB).cell (j := 7) rfl, cell_up hB' hB3 e0'.out, cell_up hB' hB3 e1'.out, cell_up hB' hB3 e2'.out⟩
  have n0 : (0 : Int) ≤ (cn : Int) := by omega
  have n1 : (cn : Int) < (i.cars.length : Int) := by omega
  have n2 : (cn : Int).toNat = cn := by omega
  refine wp_region_z (S := (fun W => W.cell? ⟨w.heap.size, 0, none⟩ = some (.slice (some ⟨B3, o3, none⟩) i.cars.length c1) ∧ W.cell? ⟨w.heap.size, 1, none⟩ = some (.slice A2 i.stops.length c2) ∧ W.cell? ⟨w.heap.size, 2, none⟩ = some (.slice A3 i.pairs.length c3) ∧ W.cell? ⟨w.heap.size, 3, none⟩ = some (.slice A4 i.travel.length c4) ∧ W.cell? ⟨H, 0, none⟩ = some (.bool ok) ∧ W.cell? ⟨H, 1, none⟩ = some (.int .i64 x1) ∧ W.cell? ⟨H, 2, none⟩ = some (.int .i64 x2) ∧ W.cell? ⟨H, 3, none⟩ = some (.int .i64 x3) ∧ W.cell? ⟨H, 4, none⟩ = some (.int .u32 x4) ∧ W.cell? ⟨H, 5, none⟩ = some (.int .u32 x5) ∧ W.cell? ⟨H, 6, none⟩ = some (.int .i64 x6) ∧ W.cell? ⟨R, 0, none⟩ = some (.bool ok2) ∧ W.cell? ⟨R, 1, none⟩ = some (.int .i64 y1) ∧ W.cell? ⟨R, 2, none⟩ = some (.int .i64 y2) ∧ W.cell? ⟨R, 3, none⟩ = some (.int .i64 y3) ∧ W.cell? ⟨R, 4, none⟩ = some (.int .i64 y4) ∧ W.cell? ⟨R, 5, none⟩ = some (.int .u32 y5) ∧ W.cell? ⟨R, 6, none⟩ = some (.int .u32 y6) ∧ W.cell? ⟨R, 7, none⟩ = some (.int .i64 y7) ∧ W.cell? ⟨B3, o3 + cn * 3, none⟩ = some (.int .i64 cap) ∧ W.cell? ⟨B3, o3 + cn * 3 + 1, none⟩ = some (.int .i64 st) ∧ W.cell? ⟨B3, o3 + cn * 3 + 2, none⟩ = some (.int .i64 en))) (z := 26) (by kernel_rfl) (SS.out _ (Below.refl wa.heap.size wa).drew) (fun hH => ?_)
  refine wpAnyZ_takeS (i := 0) (v := ?_) rfl (by kernel_rfl) (by kernel_rfl) (by kernel_rfl) (by kernel_rfl) (fun _ _ _ h => h) (gives_value (by rfl) ?_) (by assumption) ?_
  rotate_left
  · intro w hSw
    (try dsimp only at hSw)
    go_simp
    (try with_reducible rfl)
  (try simp only [Act.put, List.getElem_toArray, List.getElem_cons_succ, List.getElem_cons_zero, List.setIfInBounds_toArray, List.set_cons_zero, List.set_cons_succ])
  refine wpAnyZ_takeS (i := 1) (v := ?_) rfl (by kernel_rfl) (by kernel_rfl) (by kernel_rfl) (by kernel_rfl) (fun _ _ _ h => h) (gives_value (by rfl) ?_) (by assumption) ?_
  rotate_left
  · intro w hSw
    (try dsimp only at hSw)
    go_simp
    (try with_reducible rfl)
  (try simp only [Act.put, List.getElem_toArray, List.getElem_cons_succ, List.getElem_cons_zero, List.setIfInBounds_toArray, List.set_cons_zero, List.set_cons_succ])
  refine wpAnyZ_one (i := 2) (by kernel_rfl) ?_
  refine zstep rfl (fun K hK => ?_)
  go_simp
  (with_reducible refine (KC.out _ ES0.out.below.drew).mono ?_)
  rintro e w1 ⟨rfl, hb⟩
  have HB1 := Lib.hid (((Below.refl wa.heap.size wa).drew).trans hb)
  clear hb
  refine hK.out _ _ (fun _ => SS.out _ HB1.out) (fun hH => ?_)
  replace hH := hH (by decide)
  clear hK K
  (try simp only [Act.put, List.getElem_toArray, List.getElem_cons_succ, List.getElem_cons_zero, List.setIfInBounds_toArray, List.set_cons_zero, List.set_cons_succ])
  refine wpAnyZ_takeS (i := 3) (v := ?_) rfl (by kernel_rfl) (by kernel_rfl) (by kernel_rfl) (by kernel_rfl) (fun _ _ _ h => h) (gives_value (by rfl) ?_) (by assumption) ?_
  rotate_left
  · intro w hSw
    (try dsimp only at hSw)
    go_simp
    (try with_reducible rfl)
  (try simp only [Act.put, List.getElem_toArray, List.getElem_cons_succ, List.getElem_cons_zero, List.setIfInBounds_toArray, List.set_cons_zero, List.set_cons_succ])
  refine wpAnyZ_takeS (i := 4) (v := ?_) rfl (by kernel_rfl) (by kernel_rfl) (by kernel_rfl) (by kernel_rfl) (fun _ _ _ h => h) (gives_value (by rfl) ?_) (by assumption) ?_
  rotate_left
  · intro w hSw
    (try dsimp only at hSw)
    go_simp
    (try with_reducible rfl)
  (try simp only [Act.put, List.getElem_toArray, List.getElem_cons_succ, List.getElem_cons_zero, List.setIfInBounds_toArray, List.set_cons_zero, List.set_cons_succ])
  refine wpAnyZ_takeS (i := 5) (v := ?_) rfl (by kernel_rfl) (by kernel_rfl) (by kernel_rfl) (by kernel_rfl) (fun _ _ _ h => h) (gives_value (by rfl) ?_) (by assumption) ?_
  rotate_left
  · intro w hSw
    (try dsimp only at hSw)
    go_simp
    (try with_reducible rfl)
  (try simp only [Act.put, List.getElem_toArray, List.getElem_cons_succ, List.getElem_cons_zero, List.setIfInBounds_toArray, List.set_cons_zero, List.set_cons_succ])
  refine wpAnyZ_takeS (i := 6) (v := ?_) rfl (by kernel_rfl) (by kernel_rfl) (by kernel_rfl) (by kernel_rfl) (fun _ _ _ h => h) (gives_value (by rfl) ?_) (by assumption) ?_
  rotate_left
  · intro w hSw
    (try dsimp only at hSw)
    go_simp
    (try with_reducible rfl)
  (try simp only [Act.put, List.getElem_toArray, List.getElem_cons_succ, List.getElem_cons_zero, List.setIfInBounds_toArray, List.set_cons_zero, List.set_cons_succ])
  refine wpAnyZ_takeS (i := 7) (v := ?_) rfl (by kernel_rfl) (by kernel_rfl) (by kernel_rfl) (by kernel_rfl) (fun _ _ _ h => h) (gives_value (by rfl) ?_) (by assumption) ?_
  rotate_left
  · intro w hSw
    (try dsimp only at hSw)
    go_simp
    (try with_reducible rfl)
  (try simp only [Act.put, List.getElem_toArray, List.getElem_cons_succ, List.getElem_cons_zero, List.setIfInBounds_toArray, List.set_cons_zero, List.set_cons_succ])
  refine wpAnyZ_takeS (i := 8) (v := ?_) rfl (by kernel_rfl) (by kernel_rfl) (by kernel_rfl) (by kernel_rfl) (fun _ _ _ h => h) (gives_value (by rfl) ?_) (by assumption) ?_
  rotate_left
  · intro w hSw
    (try dsimp only at hSw)
    go_simp
    (try with_reducible rfl)
  (try simp only [Act.put, List.getElem_toArray, List.getElem_cons_succ, List.getElem_cons_zero, List.setIfInBounds_toArray, List.set_cons_zero, List.set_cons_succ])
  refine wpAnyZ_takeS (i := 9) (v := ?_) rfl (by kernel_rfl) (by kernel_rfl) (by kernel_rfl) (by kernel_rfl) (fun _ _ _ h => h) (gives_value (by rfl) ?_) (by assumption) ?_
  rotate_left
  · intro w hSw
    (try dsimp only at hSw)
    go_simp
    (try with_reducible rfl)
  (try simp only [Act.put, List.getElem_toArray, List.getElem_cons_succ, List.getElem_cons_zero, List.setIfInBounds_toArray, List.set_cons_zero, List.set_cons_succ])
  refine wpAnyZ_takeS (i := 10) (v := ?_) rfl (by kernel_rfl) (by kernel_rfl) (by kernel_rfl) (by kernel_rfl) (fun _ _ _ h => h) (gives_value (by rfl) ?_) (by assumption) ?_
  rotate_left
  · intro w hSw
    (try dsimp only at hSw)
    go_simp
    (try with_reducible rfl)
  (try simp only [Act.put, List.getElem_toArray, List.getElem_cons_succ, List.getElem_cons_zero, List.setIfInBounds_toArray, List.set_cons_zero, List.set_cons_succ])
  refine wpAnyZ_takeS (i := 11) (v := ?_) rfl (by kernel_rfl) (by kernel_rfl) (by kernel_rfl) (by kernel_rfl) (fun _ _ _ h => h) (gives_value (by rfl) ?_) (by assumption) ?_
  rotate_left
  · intro w hSw
    (try dsimp only at hSw)
    go_simp
    (try with_reducible rfl)
  (try simp only [Act.put, List.getElem_toArray, List.getElem_cons_succ, List.getElem_cons_zero, List.setIfInBounds_toArray, List.set_cons_zero, List.set_cons_succ])
  refine wpAnyZ_one (i := 12) (by kernel_rfl) ?_
  refine zstep rfl (fun K hK => ?_)
  go_simp
  (with_reducible refine (KA.out _ (ES0.out.below.trans (HB1.out.mono ES0.out.below.size))).mono ?_)
  rintro e w2 ⟨rfl, hb⟩
  have HB2 := Lib.hid (HB1.out.trans (hb.mono HB1.out.size))
  clear hb HB1
  refine hK.out _ _ (fun _ => SS.out _ HB2.out) (fun hH => ?_)
  replace hH := hH (by decide)
  clear hK K
  (try simp only [Act.put, List.getElem_toArray, List.getElem_cons_succ, List.getElem_cons_zero, List.setIfInBounds_toArray, List.set_cons_zero, List.set_cons_succ])
  refine wpAnyZ_takeS (i := 13) (v := ?_) rfl (by kernel_rfl) (by kernel_rfl) (by kernel_rfl) (by kernel_rfl) (fun _ _ _ h => h) (gives_value (by rfl) ?_) (by assumption) ?_
  rotate_left
  · intro w hSw
    (try dsimp only at hSw)
    go_simp
    (try with_reducible rfl)
  (try simp only [Act.put, List.getElem_toArray, List.getElem_cons_succ, List.getElem_cons_zero, List.setIfInBounds_toArray, List.set_cons_zero, List.set_cons_succ])
  refine wpAnyZ_takeS (i := 14) (v := ?_) rfl (by kernel_rfl) (by kernel_rfl) (by kernel_rfl) (by kernel_rfl) (fun _ _ _ h => h) (gives_value (by rfl) ?_) (by assumption) ?_
  rotate_left
  · intro w hSw
    (try dsimp only at hSw)
    go_simp
    (try with_reducible rfl)
  (try simp only [Act.put, List.getElem_toArray, List.getElem_cons_succ, List.getElem_cons_zero, List.setIfInBounds_toArray, List.set_cons_zero, List.set_cons_succ])
  refine wpAnyZ_takeS (i := 15) (v := ?_) rfl (by kernel_rfl) (by kernel_rfl) (by kernel_rfl) (by kernel_rfl) (fun _ _ _ h => h) (gives_value (by rfl) ?_) (by assumption) ?_
  rotate_left
  · intro w hSw
    (try dsimp only at hSw)
    go_simp
    (try with_reducible rfl)
  (try simp only [Act.put, List.getElem_toArray, List.getElem_cons_succ, List.getElem_cons_zero, List.setIfInBounds_toArray, List.set_cons_zero, List.set_cons_succ])
  refine wpAnyZ_takeS (i := 16) (v := ?_) rfl (by kernel_rfl) (by kernel_rfl) (by kernel_rfl) (by kernel_rfl) (fun _ _ _ h => h) (gives_value (by rfl) ?_) (by assumption) ?_
  rotate_left
  · intro w hSw
    (try dsimp only at hSw)
    go_simp
    (try with_reducible rfl)
  (try simp only [Act.put, List.getElem_toArray, List.getElem_cons_succ, List.getElem_cons_zero, List.setIfInBounds_toArray, List.set_cons_zero, List.set_cons_succ])
  refine wpAnyZ_takeS (i := 17) (v := ?_) rfl (by kernel_rfl) (by kernel_rfl) (by kernel_rfl) (by kernel_rfl) (fun _ _ _ h => h) (gives_value (by rfl) ?_) (by assumption) ?_
  rotate_left
  · intro w hSw
    (try dsimp only at hSw)
    go_simp
    (try with_reducible rfl)
  (try simp only [Act.put, List.getElem_toArray, List.getElem_cons_succ, List.getElem_cons_zero, List.setIfInBounds_toArray, List.set_cons_zero, List.set_cons_succ])
  refine wpAnyZ_takeS (i := 18) (v := ?_) rfl (by kernel_rfl) (by kernel_rfl) (by kernel_rfl) (by kernel_rfl) (fun _ _ _ h => h) (gives_value (by rfl) ?_) (by assumption) ?_
  rotate_left
  · intro w hSw
    (try dsimp only at hSw)
    go_simp
    (try with_reducible rfl)
  (try simp only [Act.put, List.getElem_toArray, List.getElem_cons_succ, List.getElem_cons_zero, List.setIfInBounds_toArray, List.set_cons_zero, List.set_cons_succ])
  refine wpAnyZ_takeS (i := 19) (v := ?_) rfl (by kernel_rfl) (by kernel_rfl) (by kernel_rfl) (by kernel_rfl) (fun _ _ _ h => h) (gives_value (by rfl) ?_) (by assumption) ?_
  rotate_left
  · intro w hSw
    (try dsimp only at hSw)
    go_simp
    (try with_reducible rfl)
  (try simp only [Act.put, List.getElem_toArray, List.getElem_cons_succ, List.getElem_cons_zero, List.setIfInBounds_toArray, List.set_cons_zero, List.set_cons_succ])
  refine wpAnyZ_takeS (i := 20) (v := ?_) rfl (by kernel_rfl) (by kernel_rfl) (by kernel_rfl) (by kernel_rfl) (fun _ _ _ h => h) (gives_value (by rfl) ?_) (by assumption) ?_
  rotate_left
  · intro w hSw
    (try dsimp only at hSw)
    go_simp
    (try with_reducible rfl)
  (try simp only [Act.put, List.getElem_toArray, List.getElem_cons_succ, List.getElem_cons_zero, List.setIfInBounds_toArray, List.set_cons_zero, List.set_cons_succ])
  refine wpAnyZ_takeS (i := 21) (v := ?_) rfl (by kernel_rfl) (by kernel_rfl) (by kernel_rfl) (by kernel_rfl) (fun _ _ _ h => h) (gives_value (by rfl) ?_) (by assumption) ?_
  rotate_left
  · intro w hSw
    (try dsimp only at hSw)
    go_simp
    (try with_reducible rfl)
  (try simp only [Act.put, List.getElem_toArray, List.getElem_cons_succ, List.getElem_cons_zero, List.setIfInBounds_toArray, List.set_cons_zero, List.set_cons_succ])
  refine wpAnyZ_takeS (i := 22) (v := ?_) rfl (by kernel_rfl) (by kernel_rfl) (by kernel_rfl) (by kernel_rfl) (fun _ _ _ h => h) (gives_value (by rfl) ?_) (by assumption) ?_
  rotate_left
  · intro w hSw
    (try dsimp only at hSw)
    go_simp
    (try with_reducible rfl)
  (try simp only [Act.put, List.getElem_toArray, List.getElem_cons_succ, List.getElem_cons_zero, List.setIfInBounds_toArray, List.set_cons_zero, List.set_cons_succ])
  refine wpAnyZ_one (i := 23) (by kernel_rfl) ?_
  refine zstep rfl (fun K hK => ?_)
  go_simp
  (with_reducible refine (KT.out _ (ES0.out.below.trans (HB2.out.mono ES0.out.below.size))).mono ?_)
  rintro e w3 ⟨rfl, hb⟩
  have HB3 := Lib.hid (HB2.out.trans (hb.mono HB2.out.size))
  clear hb HB2
  refine hK.out _ _ (fun _ => SS.out _ HB3.out) (fun hH => ?_)
  replace hH := hH (by decide)
  clear hK K
  (try simp only [Act.put, List.getElem_toArray, List.getElem_cons_succ, List.getElem_cons_zero, List.setIfInBounds_toArray, List.set_cons_zero, List.set_cons_succ])
  refine wpAnyZ_takeS (i := 24) (v := ?_) rfl (by kernel_rfl) (by kernel_rfl) (by kernel_rfl) (by kernel_rfl) (fun _ _ _ h => h) (gives_value (by rfl) ?_) (by assumption) ?_
  rotate_left
  · intro w hSw
    (try dsimp only at hSw)
    go_simp
    (try with_reducible rfl)
  (try simp only [Act.put, List.getElem_toArray, List.getElem_cons_succ, List.getElem_cons_zero, List.setIfInBounds_toArray, List.set_cons_zero, List.set_cons_succ])
  refine wpAnyZ_takeS (i := 25) (v := ?_) rfl (by kernel_rfl) (by kernel_rfl) (by kernel_rfl) (by kernel_rfl) (fun _ _ _ h => h) (gives_value (by rfl) ?_) (by assumption) ?_
  rotate_left
  · intro w hSw
    (try dsimp only at hSw)
    go_simp
    (try with_reducible rfl)
  (try simp only [Act.put, List.getElem_toArray, List.getElem_cons_succ, List.getElem_cons_zero, List.setIfInBounds_toArray, List.set_cons_zero, List.set_cons_succ])
  refine wpAnyZ_done (by kernel_rfl) ?_ _
  have ES2 := Lib.hid (ES0.out.on HB3.out)
  clear hH
  clear SS ES0
  go_wp2
  exact bodyPost_ret (v := .tuple #[.int .i64 0, .bool false]) (by simp [results, Try.results16, go_sem]) rfl ⟨rfl, ES2.out.below⟩
set_option maxRecDepth 100000 in
set_option maxHeartbeats 8000000 in
theorem pmeet_yes (i : Prob) (cn : Nat) (cap st en : Int) (la fa : Nat) (leave load cost late low high tcost : Int) (opn set need tset : Nat) (w : World) (B3 o3 : Nat) (A2 A3 A4 : Option Addr) (c1 c2 c3 c4 : Nat) (hs : Said w (some ⟨B3, o3, none⟩) A2 A3 A4 c1 c2 c3 c4 i) (KC : ∀ W, Below w.heap.size w W → Calls Try.prog 33 #[.agg #[.slice (some ⟨B3, o3, none⟩) i.cars.length c1, .slice A2 i.stops.length c2, .slice A3 i.pairs.length c3, .slice A4 i.travel.length c4], .int .i64 cn] W fun e w' => e = .returned (.bool true) ∧ Below W.heap.size W w') (hcn : cn < i.cars.length) (hB3 : B3 < w.heap.size) (e0 : w.cell? ⟨B3, o3 + cn * 3, none⟩ = some (.int .i64 cap)) (e1 : w.cell? ⟨B3, o3 + cn * 3 + 1, none⟩ = some (.int .i64 st)) (e2 : w.cell? ⟨B3, o3 + cn * 3 + 2, none⟩ = some (.int .i64 en))
    (KA : ∀ W, Below w.heap.size w W → Calls Try.prog 38 #[.agg #[.slice (some ⟨B3, o3, none⟩) i.cars.length c1, .slice A2 i.stops.length c2, .slice A3 i.pairs.length c3, .slice A4 i.travel.length c4], .agg #[.int .i64 cap, .int .i64 st, .int .i64 en], .agg #[.bool true, .int .i64 la, .int .i64 leave, .int .i64 load, .int .u32 (opn : Nat), .int .u32 (set : Nat), .int .i64 cost]] W fun e w' => e = .returned (.bool true) ∧ Below W.heap.size W w')
    (KT : ∀ W, Below w.heap.size w W → Calls Try.prog 39 #[.agg #[.slice (some ⟨B3, o3, none⟩) i.cars.length c1, .slice A2 i.stops.length c2, .slice A3 i.pairs.length c3, .slice A4 i.travel.length c4], .agg #[.int .i64 cap, .int .i64 st, .int .i64 en], .agg #[.bool true, .int .i64 fa, .int .i64 late, .int .i64 low, .int .i64 high, .int .u32 (need : Nat), .int .u32 (tset : Nat), .int .i64 tcost]] W fun e w' => e = .returned (.bool true) ∧ Below W.heap.size W w') (hf : Fine i) (hcap : (carAt i cn).c = cap) (hla : la ≤ i.stops.length) (hfa : fa ≤ i.stops.length) (hb1 : 0 ≤ leave ∧ leave ≤ 2000) (hb2 : 0 ≤ load ∧ load ≤ 60) (hb3 : 0 ≤ cost ∧ cost ≤ 1000000) (hb4 : -1000000 ≤ low ∧ low ≤ 0) (hb5 : 0 ≤ high ∧ high ≤ 1000000) (hb6 : 0 ≤ tcost ∧ tcost ≤ 1000000) (hs2 : set < 2048) (hs4 : tset < 2048) :
    Calls Try.prog 16 #[.agg #[.slice (some ⟨B3, o3, none⟩) i.cars.length c1, .slice A2 i.stops.length c2, .slice A3 i.pairs.length c3, .slice A4 i.travel.length c4], .int .i64 cn, .agg #[.bool true, .int .i64 la, .int .i64 leave, .int .i64 load, .int .u32 (opn : Nat), .int .u32 (set : Nat), .int .i64 cost], .agg #[.bool true, .int .i64 fa, .int .i64 late, .int .i64 low, .int .i64 high, .int .u32 (need : Nat), .int .u32 (tset : Nat), .int .i64 tcost]] w fun e w' => e = .returned (meetV (meetP i cn ⟨la, leave, load, opn, set, cost⟩ ⟨fa, late, low, high, need, tset, tcost⟩)) ∧ Below w.heap.size w w' := by
  have ES0 := Lib.hid (bef_es0 hs #[.bool true, .int .i64 la, .int .i64 leave, .int .i64 load, .int .u32 (opn : Nat), .int .u32 (set : Nat), .int .i64 cost] #[.bool true, .int .i64 fa, .int .i64 late, .int .i64 low, .int .i64 high, .int .u32 (need : Nat), .int .u32 (tset : Nat), .int .i64 tcost] 28 44 46)
  have KC := Lib.hid KC
  have KA := Lib.hid KA
  have e0' := Lib.hid e0
  have e1' := Lib.hid e1
  have e2' := Lib.hid e2
  have KT := Lib.hid KT
  have HF := Lib.hid hf
  have hwb := way_bounds hf la fa
  have HM : Hid (meetP i cn ⟨la, leave, load, opn, set, cost⟩ ⟨fa, late, low, high, need, tset, tcost⟩ = if opn = need ∧ set &&& tset = 0 ∧ leave + way i la fa ≤ late ∧ 0 ≤ load + low ∧ load + high ≤ cap then some (cost + way i la fa + tcost) else none) := by
    show _ = _
    rw [← hcap]
    unfold meetP
    by_cases e : MeetOk i cn ⟨la, leave, load, opn, set, cost⟩ ⟨fa, late, low, high, need, tset, tcost⟩
    · rw [if_pos e, if_pos (show opn = need ∧ set &&& tset = 0 ∧ leave + way i la fa ≤ late ∧ 0 ≤ load + low ∧ load + high ≤ (carAt i cn).c from e)]
    · rw [if_neg e, if_neg (show ¬ (opn = need ∧ set &&& tset = 0 ∧ leave + way i la fa ≤ late ∧ 0 ≤ load + low ∧ load + high ≤ (carAt i cn).c) from e)]
  generalize hres : meetP i cn ⟨la, leave, load, opn, set, cost⟩ ⟨fa, late, low, high, need, tset, tcost⟩ = res at *
  have hcb := carAt_bounds hf cn
  rw [hcap] at hcb
  have hand : Go.bits .and .u32 (set : Int) (tset : Int) = ((set &&& tset : Nat) : Int) := u32_and (by omega) (by omega)
  have hst := hf.stops
  clear hf hcap hres
  clear hs e0 e1 e2
  go_enter Try.func16, Try.ntmps16
  go_upto_region 1 with (fail)
  generalize ((w.alloc (.cells #[.slice (some ⟨B3, o3, none⟩) i.cars.length c1, .slice A2 i.stops.length c2, .slice A3 i.pairs.length c3, .slice A4 i.travel.length c4] 28)).alloc (.cells #[.bool true, .int .i64 la, .int .i64 leave, .int .i64 load, .int .u32 (opn : Nat), .int .u32 (set : Nat), .int .i64 cost] 44)).alloc (.cells #[.bool true, .int .i64 fa, .int .i64 late, .int .i64 low, .int .i64 high, .int .u32 (need : Nat), .int .u32 (tset : Nat), .int .i64 tcost] 46) = wa at *
  generalize w.heap.size + 1 + 1 = R at *
  generalize w.heap.size + 1 = H at *
  have SS : Hid (∀ W, Below wa.heap.size wa W → W.cell? ⟨w.heap.size, 0, none⟩ = some (.slice (some ⟨B3, o3, none⟩) i.cars.length c1) ∧ W.cell? ⟨w.heap.size, 1, none⟩ = some (.slice A2 i.stops.length c2) ∧ W.cell? ⟨w.heap.size, 2, none⟩ = some (.slice A3 i.pairs.length c3) ∧ W.cell? ⟨w.heap.size, 3, none⟩ = some (.slice A4 i.travel.length c4) ∧ W.cell? ⟨H, 0, none⟩ = some (.bool true) ∧ W.cell? ⟨H, 1, none⟩ = some (.int .i64 la) ∧ W.cell? ⟨H, 2, none⟩ = some (.int .i64 leave) ∧ W.cell? ⟨H, 3, none⟩ = some (.int .i64 load) ∧ W.cell? ⟨H, 4, none⟩ = some (.int .u32 (opn : Nat)) ∧ W.cell? ⟨H, 5, none⟩ = some (.int .u32 (set : Nat)) ∧ W.cell? ⟨H, 6, none⟩ = some (.int .i64 cost) ∧ W.cell? ⟨R, 0, none⟩ = some (.bool true) ∧ W.cell? ⟨R, 1, none⟩ = some (.int .i64 fa) ∧ W.cell? ⟨R, 2, none⟩ = some (.int .i64 late) ∧ W.cell? ⟨R, 3, none⟩ = some (.int .i64 low) ∧ W.cell? ⟨R, 4, none⟩ = some (.int .i64 high) ∧ W.cell? ⟨R, 5, none⟩ = some (.int .u32 (need : Nat)) ∧ W.cell? ⟨R, 6, none⟩ = some (.int .u32 (tset : Nat)) ∧ W.cell? ⟨R, 7, none⟩ = some (.int .i64 tcost) ∧ W.cell? ⟨B3, o3 + cn * 3, none⟩ = some (.int .i64 cap) ∧ W.cell? ⟨B3, o3 + cn * 3 + 1, none⟩ = some (.int .i64 st) ∧ W.cell? ⟨B3, o3 + cn * 3 + 2, none⟩ = some (.int .i64 en)) := fun W hB =>
    have hB' : Below w.heap.size w W := ES0.out.below.trans (hB.mono ES0.out.below.size)
    ⟨(ES0.out.box.below hB).b0, (ES0.out.box.below hB).b1, (ES0.out.box.below hB).b2, (ES0.out.box.below hB).b3, (ES0.out.hb.below hB).cell (j := 0) rfl, (ES0.out.hb.below hB).cell (j := 1) rfl, (ES0.out.hb.below hB).cell (j := 2) rfl, (ES0.out.hb.below hB).cell (j := 3) rfl, (ES0.out.hb.below hB).cell (j := 4) rfl, (ES0.out.hb.below hB).cell (j := 5) rfl, (ES0.out.hb.below hB).cell (j := 6) rfl, (ES0.out.rb.below hB).cell (j := 0) rfl, (ES0.out.rb.below hB).cell (j := 1) rfl, (ES0.out.rb.below hB).cell (j := 2) rfl, (ES0.out.rb.below hB).cell (j := 3) rfl, (ES0.out.rb.below hB).cell (j := 4) rfl, (ES0.out.rb.below hB).cell (j := 5) rfl, (ES0.out.rb.below hB).cell (j := 6) rfl, (ES0.out.rb.below hB).cell (j := 7) rfl, cell_up hB' hB3 e0'.out, cell_up hB' hB3 e1'.out, cell_up hB' hB3 e2'.out⟩
  have n0 : (0 : Int) ≤ (cn : Int) := by omega
  have n1 : (cn : Int) < (i.cars.length : Int) := by omega
  have n2 : (cn : Int).toNat = cn := by omega
  refine wp_region_z (S := (fun W => W.cell? ⟨w.heap.size, 0, none⟩ = some (.slice (some ⟨B3, o3, none⟩) i.cars.length c1) ∧ W.cell? ⟨w.heap.size, 1, none⟩ = some (.slice A2 i.stops.length c2) ∧ W.cell? ⟨w.heap.size, 2, none⟩ = some (.slice A3 i.pairs.length c3) ∧ W.cell? ⟨w.heap.size, 3, none⟩ = some (.slice A4 i.travel.length c4) ∧ W.cell? ⟨H, 0, none⟩ = some (.bool true) ∧ W.cell? ⟨H, 1, none⟩ = some (.int .i64 la) ∧ W.cell? ⟨H, 2, none⟩ = some (.int .i64 leave) ∧ W.cell? ⟨H, 3, none⟩ = some (.int .i64 load) ∧ W.cell? ⟨H, 4, none⟩ = some (.int .u32 (opn : Nat)) ∧ W.cell? ⟨H, 5, none⟩ = some (.int .u32 (set : Nat)) ∧ W.cell? ⟨H, 6, none⟩ = some (.int .i64 cost) ∧ W.cell? ⟨R, 0, none⟩ = some (.bool true) ∧ W.cell? ⟨R, 1, none⟩ = some (.int .i64 fa) ∧ W.cell? ⟨R, 2, none⟩ = some (.int .i64 late) ∧ W.cell? ⟨R, 3, none⟩ = some (.int .i64 low) ∧ W.cell? ⟨R, 4, none⟩ = some (.int .i64 high) ∧ W.cell? ⟨R, 5, none⟩ = some (.int .u32 (need : Nat)) ∧ W.cell? ⟨R, 6, none⟩ = some (.int .u32 (tset : Nat)) ∧ W.cell? ⟨R, 7, none⟩ = some (.int .i64 tcost) ∧ W.cell? ⟨B3, o3 + cn * 3, none⟩ = some (.int .i64 cap) ∧ W.cell? ⟨B3, o3 + cn * 3 + 1, none⟩ = some (.int .i64 st) ∧ W.cell? ⟨B3, o3 + cn * 3 + 2, none⟩ = some (.int .i64 en))) (z := 26) (by kernel_rfl) (SS.out _ (Below.refl wa.heap.size wa).drew) (fun hH => ?_)
  refine wpAnyZ_takeS (i := 0) (v := ?_) rfl (by kernel_rfl) (by kernel_rfl) (by kernel_rfl) (by kernel_rfl) (fun _ _ _ h => h) (gives_value (by rfl) ?_) (by assumption) ?_
  rotate_left
  · intro w hSw
    (try dsimp only at hSw)
    go_simp
    (try with_reducible rfl)
  (try simp only [Act.put, List.getElem_toArray, List.getElem_cons_succ, List.getElem_cons_zero, List.setIfInBounds_toArray, List.set_cons_zero, List.set_cons_succ])
  refine wpAnyZ_takeS (i := 1) (v := ?_) rfl (by kernel_rfl) (by kernel_rfl) (by kernel_rfl) (by kernel_rfl) (fun _ _ _ h => h) (gives_value (by rfl) ?_) (by assumption) ?_
  rotate_left
  · intro w hSw
    (try dsimp only at hSw)
    go_simp
    (try with_reducible rfl)
  (try simp only [Act.put, List.getElem_toArray, List.getElem_cons_succ, List.getElem_cons_zero, List.setIfInBounds_toArray, List.set_cons_zero, List.set_cons_succ])
  refine wpAnyZ_one (i := 2) (by kernel_rfl) ?_
  refine zstep rfl (fun K hK => ?_)
  go_simp
  (with_reducible refine (KC.out _ ES0.out.below.drew).mono ?_)
  rintro e w1 ⟨rfl, hb⟩
  have HB1 := Lib.hid (((Below.refl wa.heap.size wa).drew).trans hb)
  clear hb
  refine hK.out _ _ (fun _ => SS.out _ HB1.out) (fun hH => ?_)
  replace hH := hH (by decide)
  clear hK K
  (try simp only [Act.put, List.getElem_toArray, List.getElem_cons_succ, List.getElem_cons_zero, List.setIfInBounds_toArray, List.set_cons_zero, List.set_cons_succ])
  refine wpAnyZ_takeS (i := 3) (v := ?_) rfl (by kernel_rfl) (by kernel_rfl) (by kernel_rfl) (by kernel_rfl) (fun _ _ _ h => h) (gives_value (by rfl) ?_) (by assumption) ?_
  rotate_left
  · intro w hSw
    (try dsimp only at hSw)
    go_simp
    (try with_reducible rfl)
  (try simp only [Act.put, List.getElem_toArray, List.getElem_cons_succ, List.getElem_cons_zero, List.setIfInBounds_toArray, List.set_cons_zero, List.set_cons_succ])
  refine wpAnyZ_takeS (i := 4) (v := ?_) rfl (by kernel_rfl) (by kernel_rfl) (by kernel_rfl) (by kernel_rfl) (fun _ _ _ h => h) (gives_value (by rfl) ?_) (by assumption) ?_
  rotate_left
  · intro w hSw
    (try dsimp only at hSw)
    go_simp
    (try with_reducible rfl)
  (try simp only [Act.put, List.getElem_toArray, List.getElem_cons_succ, List.getElem_cons_zero, List.setIfInBounds_toArray, List.set_cons_zero, List.set_cons_succ])
  refine wpAnyZ_takeS (i := 5) (v := ?_) rfl (by kernel_rfl) (by kernel_rfl) (by kernel_rfl) (by kernel_rfl) (fun _ _ _ h => h) (gives_value (by rfl) ?_) (by assumption) ?_
  rotate_left
  · intro w hSw
    (try dsimp only at hSw)
    go_simp
    (try with_reducible rfl)
  (try simp only [Act.put, List.getElem_toArray, List.getElem_cons_succ, List.getElem_cons_zero, List.setIfInBounds_toArray, List.set_cons_zero, List.set_cons_succ])
  refine wpAnyZ_takeS (i := 6) (v := ?_) rfl (by kernel_rfl) (by kernel_rfl) (by kernel_rfl) (by kernel_rfl) (fun _ _ _ h => h) (gives_value (by rfl) ?_) (by assumption) ?_
  rotate_left
  · intro w hSw
    (try dsimp only at hSw)
    go_simp
    (try with_reducible rfl)
  (try simp only [Act.put, List.getElem_toArray, List.getElem_cons_succ, List.getElem_cons_zero, List.setIfInBounds_toArray, List.set_cons_zero, List.set_cons_succ])
  refine wpAnyZ_takeS (i := 7) (v := ?_) rfl (by kernel_rfl) (by kernel_rfl) (by kernel_rfl) (by kernel_rfl) (fun _ _ _ h => h) (gives_value (by rfl) ?_) (by assumption) ?_
  rotate_left
  · intro w hSw
    (try dsimp only at hSw)
    go_simp
    (try with_reducible rfl)
  (try simp only [Act.put, List.getElem_toArray, List.getElem_cons_succ, List.getElem_cons_zero, List.setIfInBounds_toArray, List.set_cons_zero, List.set_cons_succ])
  refine wpAnyZ_takeS (i := 8) (v := ?_) rfl (by kernel_rfl) (by kernel_rfl) (by kernel_rfl) (by kernel_rfl) (fun _ _ _ h => h) (gives_value (by rfl) ?_) (by assumption) ?_
  rotate_left
  · intro w hSw
    (try dsimp only at hSw)
    go_simp
    (try with_reducible rfl)
  (try simp only [Act.put, List.getElem_toArray, List.getElem_cons_succ, List.getElem_cons_zero, List.setIfInBounds_toArray, List.set_cons_zero, List.set_cons_succ])
  refine wpAnyZ_takeS (i := 9) (v := ?_) rfl (by kernel_rfl) (by kernel_rfl) (by kernel_rfl) (by kernel_rfl) (fun _ _ _ h => h) (gives_value (by rfl) ?_) (by assumption) ?_
  rotate_left
  · intro w hSw
    (try dsimp only at hSw)
    go_simp
    (try with_reducible rfl)
  (try simp only [Act.put, List.getElem_toArray, List.getElem_cons_succ, List.getElem_cons_zero, List.setIfInBounds_toArray, List.set_cons_zero, List.set_cons_succ])
  refine wpAnyZ_takeS (i := 10) (v := ?_) rfl (by kernel_rfl) (by kernel_rfl) (by kernel_rfl) (by kernel_rfl) (fun _ _ _ h => h) (gives_value (by rfl) ?_) (by assumption) ?_
  rotate_left
  · intro w hSw
    (try dsimp only at hSw)
    go_simp
    (try with_reducible rfl)
  (try simp only [Act.put, List.getElem_toArray, List.getElem_cons_succ, List.getElem_cons_zero, List.setIfInBounds_toArray, List.set_cons_zero, List.set_cons_succ])
  refine wpAnyZ_takeS (i := 11) (v := ?_) rfl (by kernel_rfl) (by kernel_rfl) (by kernel_rfl) (by kernel_rfl) (fun _ _ _ h => h) (gives_value (by rfl) ?_) (by assumption) ?_
  rotate_left
  · intro w hSw
    (try dsimp only at hSw)
    go_simp
    (try with_reducible rfl)
  (try simp only [Act.put, List.getElem_toArray, List.getElem_cons_succ, List.getElem_cons_zero, List.setIfInBounds_toArray, List.set_cons_zero, List.set_cons_succ])
  refine wpAnyZ_one (i := 12) (by kernel_rfl) ?_
  refine zstep rfl (fun K hK => ?_)
  go_simp
  (with_reducible refine (KA.out _ (ES0.out.below.trans (HB1.out.mono ES0.out.below.size))).mono ?_)
  rintro e w2 ⟨rfl, hb⟩
  have HB2 := Lib.hid (HB1.out.trans (hb.mono HB1.out.size))
  clear hb HB1
  refine hK.out _ _ (fun _ => SS.out _ HB2.out) (fun hH => ?_)
  replace hH := hH (by decide)
  clear hK K
  (try simp only [Act.put, List.getElem_toArray, List.getElem_cons_succ, List.getElem_cons_zero, List.setIfInBounds_toArray, List.set_cons_zero, List.set_cons_succ])
  refine wpAnyZ_takeS (i := 13) (v := ?_) rfl (by kernel_rfl) (by kernel_rfl) (by kernel_rfl) (by kernel_rfl) (fun _ _ _ h => h) (gives_value (by rfl) ?_) (by assumption) ?_
  rotate_left
  · intro w hSw
    (try dsimp only at hSw)
    go_simp
    (try with_reducible rfl)
  (try simp only [Act.put, List.getElem_toArray, List.getElem_cons_succ, List.getElem_cons_zero, List.setIfInBounds_toArray, List.set_cons_zero, List.set_cons_succ])
  refine wpAnyZ_takeS (i := 14) (v := ?_) rfl (by kernel_rfl) (by kernel_rfl) (by kernel_rfl) (by kernel_rfl) (fun _ _ _ h => h) (gives_value (by rfl) ?_) (by assumption) ?_
  rotate_left
  · intro w hSw
    (try dsimp only at hSw)
    go_simp
    (try with_reducible rfl)
  (try simp only [Act.put, List.getElem_toArray, List.getElem_cons_succ, List.getElem_cons_zero, List.setIfInBounds_toArray, List.set_cons_zero, List.set_cons_succ])
  refine wpAnyZ_takeS (i := 15) (v := ?_) rfl (by kernel_rfl) (by kernel_rfl) (by kernel_rfl) (by kernel_rfl) (fun _ _ _ h => h) (gives_value (by rfl) ?_) (by assumption) ?_
  rotate_left
  · intro w hSw
    (try dsimp only at hSw)
    go_simp
    (try with_reducible rfl)
  (try simp only [Act.put, List.getElem_toArray, List.getElem_cons_succ, List.getElem_cons_zero, List.setIfInBounds_toArray, List.set_cons_zero, List.set_cons_succ])
  refine wpAnyZ_takeS (i := 16) (v := ?_) rfl (by kernel_rfl) (by kernel_rfl) (by kernel_rfl) (by kernel_rfl) (fun _ _ _ h => h) (gives_value (by rfl) ?_) (by assumption) ?_
  rotate_left
  · intro w hSw
    (try dsimp only at hSw)
    go_simp
    (try with_reducible rfl)
  (try simp only [Act.put, List.getElem_toArray, List.getElem_cons_succ, List.getElem_cons_zero, List.setIfInBounds_toArray, List.set_cons_zero, List.set_cons_succ])
  refine wpAnyZ_takeS (i := 17) (v := ?_) rfl (by kernel_rfl) (by kernel_rfl) (by kernel_rfl) (by kernel_rfl) (fun _ _ _ h => h) (gives_value (by rfl) ?_) (by assumption) ?_
  rotate_left
  · intro w hSw
    (try dsimp only at hSw)
    go_simp
    (try with_reducible rfl)
  (try simp only [Act.put, List.getElem_toArray, List.getElem_cons_succ, List.getElem_cons_zero, List.setIfInBounds_toArray, List.set_cons_zero, List.set_cons_succ])
  refine wpAnyZ_takeS (i := 18) (v := ?_) rfl (by kernel_rfl) (by kernel_rfl) (by kernel_rfl) (by kernel_rfl) (fun _ _ _ h => h) (gives_value (by rfl) ?_) (by assumption) ?_
  rotate_left
  · intro w hSw
    (try dsimp only at hSw)
    go_simp
    (try with_reducible rfl)
  (try simp only [Act.put, List.getElem_toArray, List.getElem_cons_succ, List.getElem_cons_zero, List.setIfInBounds_toArray, List.set_cons_zero, List.set_cons_succ])
  refine wpAnyZ_takeS (i := 19) (v := ?_) rfl (by kernel_rfl) (by kernel_rfl) (by kernel_rfl) (by kernel_rfl) (fun _ _ _ h => h) (gives_value (by rfl) ?_) (by assumption) ?_
  rotate_left
  · intro w hSw
    (try dsimp only at hSw)
    go_simp
    (try with_reducible rfl)
  (try simp only [Act.put, List.getElem_toArray, List.getElem_cons_succ, List.getElem_cons_zero, List.setIfInBounds_toArray, List.set_cons_zero, List.set_cons_succ])
  refine wpAnyZ_takeS (i := 20) (v := ?_) rfl (by kernel_rfl) (by kernel_rfl) (by kernel_rfl) (by kernel_rfl) (fun _ _ _ h => h) (gives_value (by rfl) ?_) (by assumption) ?_
  rotate_left
  · intro w hSw
    (try dsimp only at hSw)
    go_simp
    (try with_reducible rfl)
  (try simp only [Act.put, List.getElem_toArray, List.getElem_cons_succ, List.getElem_cons_zero, List.setIfInBounds_toArray, List.set_cons_zero, List.set_cons_succ])
  refine wpAnyZ_takeS (i := 21) (v := ?_) rfl (by kernel_rfl) (by kernel_rfl) (by kernel_rfl) (by kernel_rfl) (fun _ _ _ h => h) (gives_value (by rfl) ?_) (by assumption) ?_
  rotate_left
  · intro w hSw
    (try dsimp only at hSw)
    go_simp
    (try with_reducible rfl)
  (try simp only [Act.put, List.getElem_toArray, List.getElem_cons_succ, List.getElem_cons_zero, List.setIfInBounds_toArray, List.set_cons_zero, List.set_cons_succ])
  refine wpAnyZ_takeS (i := 22) (v := ?_) rfl (by kernel_rfl) (by kernel_rfl) (by kernel_rfl) (by kernel_rfl) (fun _ _ _ h => h) (gives_value (by rfl) ?_) (by assumption) ?_
  rotate_left
  · intro w hSw
    (try dsimp only at hSw)
    go_simp
    (try with_reducible rfl)
  (try simp only [Act.put, List.getElem_toArray, List.getElem_cons_succ, List.getElem_cons_zero, List.setIfInBounds_toArray, List.set_cons_zero, List.set_cons_succ])
  refine wpAnyZ_one (i := 23) (by kernel_rfl) ?_
  refine zstep rfl (fun K hK => ?_)
  go_simp
  (with_reducible refine (KT.out _ (ES0.out.below.trans (HB2.out.mono ES0.out.below.size))).mono ?_)
  rintro e w3 ⟨rfl, hb⟩
  have HB3 := Lib.hid (HB2.out.trans (hb.mono HB2.out.size))
  clear hb HB2
  refine hK.out _ _ (fun _ => SS.out _ HB3.out) (fun hH => ?_)
  replace hH := hH (by decide)
  clear hK K
  (try simp only [Act.put, List.getElem_toArray, List.getElem_cons_succ, List.getElem_cons_zero, List.setIfInBounds_toArray, List.set_cons_zero, List.set_cons_succ])
  refine wpAnyZ_takeS (i := 24) (v := ?_) rfl (by kernel_rfl) (by kernel_rfl) (by kernel_rfl) (by kernel_rfl) (fun _ _ _ h => h) (gives_value (by rfl) ?_) (by assumption) ?_
  rotate_left
  · intro w hSw
    (try dsimp only at hSw)
    go_simp
    (try with_reducible rfl)
  (try simp only [Act.put, List.getElem_toArray, List.getElem_cons_succ, List.getElem_cons_zero, List.setIfInBounds_toArray, List.set_cons_zero, List.set_cons_succ])
  refine wpAnyZ_takeS (i := 25) (v := ?_) rfl (by kernel_rfl) (by kernel_rfl) (by kernel_rfl) (by kernel_rfl) (fun _ _ _ h => h) (gives_value (by rfl) ?_) (by assumption) ?_
  rotate_left
  · intro w hSw
    (try dsimp only at hSw)
    go_simp
    (try with_reducible rfl)
  (try simp only [Act.put, List.getElem_toArray, List.getElem_cons_succ, List.getElem_cons_zero, List.setIfInBounds_toArray, List.set_cons_zero, List.set_cons_succ])
  refine wpAnyZ_done (by kernel_rfl) ?_ _
  have ES2 := Lib.hid (ES0.out.on HB3.out)
  clear hH
  clear SS ES0 KC KA KT
  obtain ⟨B1, o1, cap2, B2, o2, rfl, hB1, d1, hB2, d2⟩ := said_way ES2.out.box.lies HF.out (a := la) (b := fa) hla hfa
  obtain ⟨B3', o3', hE, hB3', q0, _, _⟩ := said_car ES2.out.box.lies hcn
  injection hE with hE
  injection hE with hE1 hE2 _
  subst hE1 hE2
  have q0' : w3.cell? ⟨B3, o3 + cn * 3, none⟩ = some (.int .i64 cap) := by have := cell_up ES2.out.below hB3 e0'.out; exact this
  clear q0 e0' e1' e2'
  have o4 := ES2.out.hb.cell (j := 4) rfl
  have o5 := ES2.out.hb.cell (j := 5) rfl
  have p5 := ES2.out.rb.cell (j := 5) rfl
  have p6 := ES2.out.rb.cell (j := 6) rfl
  have hHz := ES2.out.hb.1
  have hRz := ES2.out.rb.1
  generalize way i la fa = y at *
  by_cases t0 : opn = need
  · have t0' : ((opn : Int) != (need : Int)) = false := by simp [t0]
    by_cases t1 : set &&& tset = 0
    · rw [t1] at hand
      have k3 := ES2.out.box.b3
      have k0 := ES2.out.box.b0
      have hIz := ES2.out.box.lt
      have o1' := ES2.out.hb.cell (j := 1) rfl
      have p1 := ES2.out.rb.cell (j := 1) rfl
      have m0 : (0 : Int) ≤ (la : Int) := by omega
      have m1 : (la : Int) < (i.travel.length : Int) := by have := HF.out.travel; omega
      have m2 : (la : Int).toNat = la := by omega
      have m3 : (0 : Int) ≤ (fa : Int) := by omega
      have m4 : (fa : Int) < ((i.stops.length + 1 : Nat) : Int) := by omega
      have m4' : (fa : Int) < (i.stops.length : Int) + 1 := by omega
      have m5 : (fa : Int).toNat = fa := by omega
      go_upto_region 5 with (fail)
      go_quiet (fail)
      have HBy := Lib.hid (below_draws' (Below.refl w3.heap.size w3) nq)
      have ES3 := Lib.hid (ES2.out.on HBy.out)
      replace q0' := cell_up HBy.out hB3' q0'
      clear k3 k0 hIz o1' p1 o4 o5 p5 p6 hHz hRz d1 d2 m0 m1 m2 m3 m4 m4' m5 hand t0' ES2
      generalize w3.drewN nq = w4 at *
      have k0 := ES3.out.box.b0
      have hIz := ES3.out.box.lt
      have o2' := ES3.out.hb.cell (j := 2) rfl
      have o3'' := ES3.out.hb.cell (j := 3) rfl
      have p2 := ES3.out.rb.cell (j := 2) rfl
      have p3 := ES3.out.rb.cell (j := 3) rfl
      have p4 := ES3.out.rb.cell (j := 4) rfl
      have hHz := ES3.out.hb.1
      have hRz := ES3.out.rb.1
      have hw1 : IntKind.i64.wrap (leave + y) = leave + y := IntWalk.i64_in _ (by omega)
      have hw2 : IntKind.i64.wrap (load + low) = load + low := IntWalk.i64_in _ (by omega)
      have hw3 : IntKind.i64.wrap (load + high) = load + high := IntWalk.i64_in _ (by omega)
      by_cases t2 : late < leave + y
      · have HN : Hid (res = none) := by show _ = _; rw [HM.out, if_neg (fun e => by omega)]
        clear HM
        go_upto_region 6 with (fail)
        go_quiet (fail)
        have ES4 := Lib.hid (ES3.out.on (below_draws' (Below.refl w4.heap.size w4) nq))
        go_wp2
        exact bodyPost_ret (v := .tuple #[.int .i64 0, .bool false]) (by simp [results, Try.results16, go_sem]) rfl ⟨by rw [HN.out]; rfl, ES4.out.below⟩
      · have t2' : decide (late < leave + y) = false := by simpa using t2
        by_cases t3 : load + low < 0
        · have HN : Hid (res = none) := by show _ = _; rw [HM.out, if_neg (fun e => by omega)]
          clear HM
          go_upto_region 6 with (fail)
          go_quiet (fail)
          have ES4 := Lib.hid (ES3.out.on (below_draws' (Below.refl w4.heap.size w4) nq))
          go_wp2
          exact bodyPost_ret (v := .tuple #[.int .i64 0, .bool false]) (by simp [results, Try.results16, go_sem]) rfl ⟨by rw [HN.out]; rfl, ES4.out.below⟩
        · have t3' : decide (load + low < 0) = false := by simpa using t3
          by_cases t4 : cap < load + high
          · have HN : Hid (res = none) := by show _ = _; rw [HM.out, if_neg (fun e => by omega)]
            clear HM
            go_upto_region 6 with (fail)
            go_quiet (fail)
            have ES4 := Lib.hid (ES3.out.on (below_draws' (Below.refl w4.heap.size w4) nq))
            go_wp2
            exact bodyPost_ret (v := .tuple #[.int .i64 0, .bool false]) (by simp [results, Try.results16, go_sem]) rfl ⟨by rw [HN.out]; rfl, ES4.out.below⟩
          · have t4' : decide (cap < load + high) = false := by simpa using t4
            have HN : Hid (res = some (cost + y + tcost)) := by show _ = _; rw [HM.out, if_pos ⟨t0, t1, by omega, by omega, by omega⟩]
            clear HM
            go_upto_region 6 with (fail)
            go_quiet (fail)
            have ES4 := Lib.hid (ES3.out.on (below_draws' (Below.refl w4.heap.size w4) nq))
            clear k0 hIz o2' o3'' p2 p3 p4 hHz hRz hw1 hw2 hw3 q0' ES3
            generalize w4.drewN nq = w5 at *
            have o6 := ES4.out.hb.cell (j := 6) rfl
            have p7 := ES4.out.rb.cell (j := 7) rfl
            have hHz := ES4.out.hb.1
            have hRz := ES4.out.rb.1
            have hw4 : IntKind.i64.wrap (cost + y) = cost + y := IntWalk.i64_in _ (by omega)
            have hw5 : IntKind.i64.wrap (cost + y + tcost) = cost + y + tcost := IntWalk.i64_in _ (by omega)
            go_wp2
            exact bodyPost_ret (v := .tuple #[.int .i64 (cost + y + tcost), .bool true]) (by simp [results, Try.results16, go_sem]) rfl ⟨by rw [HN.out]; rfl, ES4.out.below⟩
    · have HN : Hid (res = none) := by show _ = _; rw [HM.out, if_neg (fun e => t1 e.2.1)]
      have t1' : (((set &&& tset : Nat) : Int) != 0) = true := by simp; omega
      clear HM
      go_wp2
      exact bodyPost_ret (v := .tuple #[.int .i64 0, .bool false]) (by simp [results, Try.results16, go_sem]) rfl ⟨by rw [HN.out]; rfl, ES2.out.below⟩
  · have t0' : ((opn : Int) != (need : Int)) = true := by simp; omega
    have HN : Hid (res = none) := by show _ = _; rw [HM.out, if_neg (fun e => t0 e.1)]
    clear HM
    go_wp2
    exact bodyPost_ret (v := .tuple #[.int .i64 0, .bool false]) (by simp [results, Try.results16, go_sem]) rfl ⟨by rw [HN.out]; rfl, ES2.out.below⟩
theorem pmeet_any (v : Value) (i : Prob) (c : Int) (ho : Option HeadP) (tl : Option TailP) (w : World) (hv : Lies w v i) (hok : probOk i = true) (hp : i.pairs.length ≤ 1000000) (hb : ∀ h, ho = some h → HB i h ∧ HdA i c h) (hbt : inB c 0 (i.cars.length - 1) = true → ∀ t, tl = some t → TBd i t ∧ 0 ≤ t.late ∧ t.late ≤ 1000 ∧ TlA i c t) :
    Calls Try.prog 16 #[v, .int .i64 c, headV ho, tailV tl] w fun e w' => e = .returned (meetV (if inB c 0 (i.cars.length - 1) = true then meetO i c ho tl else none)) ∧ Below w.heap.size w w' := by
  obtain ⟨A1, A2, A3, A4, c1, c2, c3, c4, rfl, hs⟩ := hv.said
  have hf := fine_of hok
  have hcl := hf.cars
  have KC := fun W (hB : Below w.heap.size w W) => carThere_any _ i c W (Lies.below hs hB) hok hp
  by_cases hc : inB c 0 (i.cars.length - 1) = true
  · rw [if_pos hc]
    rw [hc] at KC
    have h2 := inB_iff.1 hc
    obtain ⟨cn, rfl⟩ : ∃ cn : Nat, c = (cn : Int) := ⟨c.toNat, by omega⟩
    obtain ⟨B3, o3, rfl, hB3, e0, e1, e2⟩ := said_car hs (show cn < i.cars.length by omega)
    have hbt := hbt hc
    have KA := fun W (hB : Below w.heap.size w W) => hagree_any _ i cn ho W (Lies.below hs hB) hf hp hb
    have KT := fun W (hB : Below w.heap.size w W) => tagree_any _ i cn tl W (Lies.below hs hB) hf hp hc hbt
    cases ho with
    | none =>
      cases tl with
      | none => exact pmeet_noh i cn _ _ _ false false 0 0 0 0 0 0 0 0 0 0 0 0 0 w B3 o3 A2 A3 A4 c1 c2 c3 c4 hs KC (by omega) hB3 e0 e1 e2 KA
      | some t => exact pmeet_noh i cn _ _ _ false true 0 0 0 0 0 0 t.first t.late t.low t.high t.need t.set t.cost w B3 o3 A2 A3 A4 c1 c2 c3 c4 hs KC (by omega) hB3 e0 e1 e2 KA
    | some h =>
      cases tl with
      | none => exact pmeet_not i cn _ _ _ true false h.last h.leave h.load h.opn h.set h.cost 0 0 0 0 0 0 0 w B3 o3 A2 A3 A4 c1 c2 c3 c4 hs KC (by omega) hB3 e0 e1 e2 KA KT
      | some t =>
        obtain ⟨HB, HA⟩ := hb h rfl
        obtain ⟨TB, _, _, TA⟩ := hbt t rfl
        obtain ⟨last, leave, load, opn, set, cost⟩ := h
        obtain ⟨first, late, low, high, need, tset, tcost⟩ := t
        obtain ⟨la, rfl⟩ : ∃ la : Nat, last = (la : Int) := ⟨last.toNat, by have := HB.last.1; simp only at this; omega⟩
        obtain ⟨fa, rfl⟩ : ∃ fa : Nat, first = (fa : Int) := ⟨first.toNat, by have := TB.first.1; simp only at this; omega⟩
        have hl := HB.last.2
        have hl' := TB.first.2
        simp only at hl hl'
        exact pmeet_yes i cn _ _ _ la fa leave load cost late low high tcost opn set need tset w B3 o3 A2 A3 A4 c1 c2 c3 c4 hs KC (by omega) hB3 e0 e1 e2 KA KT hf rfl (by omega) (by omega) HB.leave HB.load HB.cost TB.low TB.high TB.cost HB.set TB.set
  · rw [if_neg hc]
    have hc' : inB c 0 (i.cars.length - 1) = false := by simpa using hc
    rw [hc'] at KC
    cases ho with
    | none =>
      cases tl with
      | none => exact pmeet_out i c false false 0 0 0 0 0 0 0 0 0 0 0 0 0 w A1 A2 A3 A4 c1 c2 c3 c4 hs KC
      | some t => exact pmeet_out i c false true 0 0 0 0 0 0 t.first t.late t.low t.high t.need t.set t.cost w A1 A2 A3 A4 c1 c2 c3 c4 hs KC
    | some h =>
      cases tl with
      | none => exact pmeet_out i c true false h.last h.leave h.load h.opn h.set h.cost 0 0 0 0 0 0 0 w A1 A2 A3 A4 c1 c2 c3 c4 hs KC
      | some t => exact pmeet_out i c true true h.last h.leave h.load h.opn h.set h.cost t.first t.late t.low t.high t.need t.set t.cost w A1 A2 A3 A4 c1 c2 c3 c4 hs KC
end Go.Proofs.Ytkheepedjoimmaa
