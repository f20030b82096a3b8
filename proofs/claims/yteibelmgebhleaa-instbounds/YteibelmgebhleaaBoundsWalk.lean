/- The walk of InstBounds: for any int the law returns true; old memory stands. -/
import Derived.Test.YteibelmgebhleaaSmall
import Derived.Test.YteibelmgebhleaaKeep
import Derived.RegionTactic
namespace Go.Proofs.Yteibelmgebhleaa
open Go.RowKit
set_option linter.unusedSimpArgs false
def bnd (x : Int) : Nat → Prob
  | 0 => ⟨[⟨60 + x, 1, 9⟩], [⟨2, 0, 8, 1⟩, ⟨-2, 3, 4, 0⟩], [⟨1, 2⟩], [[0, 1, 2], [3, 0, 4], [5, 6, 0]]⟩
  | 1 => ⟨[⟨-x, 1, 9⟩], [⟨2, 0, 8, 1⟩, ⟨-2, 3, 4, 0⟩], [⟨1, 2⟩], [[0, 1, 2], [3, 0, 4], [5, 6, 0]]⟩
  | 2 => ⟨[⟨5, 9 + x, 9⟩], [⟨2, 0, 8, 1⟩, ⟨-2, 3, 4, 0⟩], [⟨1, 2⟩], [[0, 1, 2], [3, 0, 4], [5, 6, 0]]⟩
  | 3 => ⟨[⟨5, -x, 9⟩], [⟨2, 0, 8, 1⟩, ⟨-2, 3, 4, 0⟩], [⟨1, 2⟩], [[0, 1, 2], [3, 0, 4], [5, 6, 0]]⟩
  | 4 => ⟨[⟨5, 1, 1000 + x⟩], [⟨2, 0, 8, 1⟩, ⟨-2, 3, 4, 0⟩], [⟨1, 2⟩], [[0, 1, 2], [3, 0, 4], [5, 6, 0]]⟩
  | 5 => ⟨[⟨5, 1, 9⟩], [⟨20 + x, 0, 8, 1⟩, ⟨-20 - x, 3, 4, 0⟩], [⟨1, 2⟩], [[0, 1, 2], [3, 0, 4], [5, 6, 0]]⟩
  | 6 => ⟨[⟨5, 1, 9⟩], [⟨2, 0, 8, 1⟩, ⟨-2 - x, 3, 4, 0⟩], [⟨1, 2⟩], [[0, 1, 2], [3, 0, 4], [5, 6, 0]]⟩
  | 7 => ⟨[⟨5, 1, 9⟩], [⟨2, -x, 8, 1⟩, ⟨-2, 3, 4, 0⟩], [⟨1, 2⟩], [[0, 1, 2], [3, 0, 4], [5, 6, 0]]⟩
  | 8 => ⟨[⟨5, 1, 9⟩], [⟨2, 8 + x, 8, 1⟩, ⟨-2, 3, 4, 0⟩], [⟨1, 2⟩], [[0, 1, 2], [3, 0, 4], [5, 6, 0]]⟩
  | 9 => ⟨[⟨5, 1, 9⟩], [⟨2, 0, 1000 + x, 1⟩, ⟨-2, 3, 4, 0⟩], [⟨1, 2⟩], [[0, 1, 2], [3, 0, 4], [5, 6, 0]]⟩
  | 10 => ⟨[⟨5, 1, 9⟩], [⟨2, 0, 8, -x⟩, ⟨-2, 3, 4, 0⟩], [⟨1, 2⟩], [[0, 1, 2], [3, 0, 4], [5, 6, 0]]⟩
  | 11 => ⟨[⟨5, 1, 9⟩], [⟨2, 0, 8, 1000 + x⟩, ⟨-2, 3, 4, 0⟩], [⟨1, 2⟩], [[0, 1, 2], [3, 0, 4], [5, 6, 0]]⟩
  | 12 => ⟨[⟨5, 1, 9⟩], [⟨2, 0, 8, 1⟩, ⟨-2, 3, 4, 0⟩], [⟨1, 2⟩], [[0, 1, 2], [3, 0, 1000 + x], [5, 6, 0]]⟩
  | 13 => ⟨[⟨5, 1, 9⟩], [⟨2, 0, 8, 1⟩, ⟨-2, 3, 4, 0⟩], [⟨1, 2⟩], [[0, 1, 2], [3, 0, -x], [5, 6, 0]]⟩
  | 14 => ⟨[⟨5, 1, 9⟩], [⟨2, 0, 8, 1⟩, ⟨-2, 3, 4, 0⟩], [⟨1, 2⟩], [[0, 1, 2], [3, 0, 4], [5, 6, x]]⟩
  | _ => ⟨[⟨5, 1, 9⟩], [⟨2, 0, 8, 1⟩, ⟨-2, 3, 4, 0⟩], [⟨1, 2 + x⟩], [[0, 1, 2], [3, 0, 4], [5, 6, 0]]⟩
theorem bnd_short (x : Int) (k : Nat) : Short (bnd x k) := by
  unfold bnd
  split <;> exact ⟨by simp, by simp, by simp⟩
theorem bnd_in : ∀ k, k < 16 → probOk (bnd 0 k) = true := by decide
theorem prob_cars {i : Prob} (h : carsOk i.cars = false) : probOk i = false := by simp [probOk, h]
theorem prob_stops {i : Prob} (h : stopsOk i.stops = false) : probOk i = false := by simp [probOk, h]
theorem prob_pairs {i : Prob} (h : pairsFrom i.stops [] i.pairs = false) : probOk i = false := by simp [probOk, h]
theorem prob_travel {i : Prob} (h : travelOk (i.stops.length + 1) i.travel = false) : probOk i = false := by simp [probOk, h]
theorem bnd_out (x : Int) (hx : 1 ≤ x) (k : Nat) (hk : k < 16) : probOk (bnd x k) = false := by
  match k, hk with
  | 0, _ => exact prob_cars (bool_no (by simp [bnd, carsOk, carOk, inB]; omega))
  | 1, _ => exact prob_cars (bool_no (by simp [bnd, carsOk, carOk, inB]; omega))
  | 2, _ => exact prob_cars (bool_no (by simp [bnd, carsOk, carOk, inB]; omega))
  | 3, _ => exact prob_cars (bool_no (by simp [bnd, carsOk, carOk, inB]; omega))
  | 4, _ => exact prob_cars (bool_no (by simp [bnd, carsOk, carOk, inB]; omega))
  | 5, _ => exact prob_stops (bool_no (by simp [bnd, stopsOk, stopOk, inB]; omega))
  | 6, _ => exact prob_pairs (bool_no (by simp [bnd, pairsFrom, pairOk, inB, demand]; omega))
  | 7, _ => exact prob_stops (bool_no (by simp [bnd, stopsOk, stopOk, inB]; omega))
  | 8, _ => exact prob_stops (bool_no (by simp [bnd, stopsOk, stopOk, inB]; omega))
  | 9, _ => exact prob_stops (bool_no (by simp [bnd, stopsOk, stopOk, inB]; omega))
  | 10, _ => exact prob_stops (bool_no (by simp [bnd, stopsOk, stopOk, inB]; omega))
  | 11, _ => exact prob_stops (bool_no (by simp [bnd, stopsOk, stopOk, inB]; omega))
  | 12, _ => exact prob_travel (bool_no (by simp [bnd, travelOk, rowsFrom, rowOk, inB]; omega))
  | 13, _ => exact prob_travel (bool_no (by simp [bnd, travelOk, rowsFrom, rowOk, inB]; omega))
  | 14, _ => exact prob_travel (bool_no (by simp [bnd, travelOk, rowsFrom, rowOk, inB]; omega))
  | 15, _ => exact prob_pairs (bool_no (by simp [bnd, pairsFrom, pairOk, inB, demand]; omega))
  | k + 16, h => exact absurd h (by omega)

set_option maxRecDepth 100000 in
set_option maxHeartbeats 40000000 in
theorem bounds_walk (n : Int) (w : World) :
    Calls Try.prog 3 #[.int .i64 n] w fun e w' => e = .returned (.bool true) ∧ Below w.heap.size w w' := by
  obtain ⟨m, hm, hm0, hm1⟩ : ∃ m : Int, withinI n 1099511627776 = m ∧ 0 ≤ m ∧ m < 1099511627776 := by
    have := withinI_bounds (v := n) (n := 1099511627776) (by omega)
    exact ⟨_, rfl, by omega, by omega⟩
  have HW := Lib.hid (fun W => within_any n 1099511627776 W (by omega) (by omega))
  rw [hm] at HW
  clear hm
  go_enter Try.func3, Try.ntmps3
  go_wp2_with (go_at_call 4; fail)
  (with_reducible refine (HW.out _).mono ?_); rintro e w' ⟨rfl, rfl⟩
  clear HW
  go_wp2
  go_loopw [3] (fun i wr => ∃ k : Nat, k ≤ 16 ∧ i = .int .i64 k ∧ Below w.heap.size w wr) (fun i _ => 16 - (intOf i).toNat)
  case atStart => exact ⟨0, by omega, rfl, Below.refl _ _⟩
  case round =>
    obtain ⟨k, hk, rfl, hb⟩ := hrel
    by_cases hlt : k < 16
    · have HB := Lib.hid hb
      clear hb
      go_wp2
      go_loopw [20] (fun i wr' => ∃ r : Nat, r ≤ 2 ∧ i = .int .i64 r ∧ Below w.heap.size w wr' ∧ Blk wr' wr.heap.size [.bool false, .bool true]) (fun i _ => 2 - (intOf i).toNat)
      case atStart => exact ⟨0, by omega, rfl, HB.out.alloc HB.out.size _, blk_at #[.bool false, .bool true] _ rfl⟩
      case round =>
        obtain ⟨r, hr, rfl, hb2, hbl⟩ := hrel
        by_cases hr2 : r < 2
        · have HB2 := Lib.hid hb2
          have HL := Lib.hid hbl
          obtain ⟨b, x, hcell, hx0, hx1, hx⟩ : ∃ (b : Bool) (x : Int), wr.cell? ⟨_, r, none⟩ = some (.bool b) ∧ 0 ≤ x ∧ x ≤ 1099511627776 ∧ ((b = false ∧ x = 0) ∨ (b = true ∧ x = 1 + m)) := by
            obtain rfl | rfl : r = 0 ∨ r = 1 := by omega
            · exact ⟨false, 0, (hbl.2 0 (by simp)).1, by omega, by omega, .inl ⟨rfl, rfl⟩⟩
            · exact ⟨true, 1 + m, (hbl.2 1 (by simp)).1, by omega, by omega, .inr ⟨rfl, rfl⟩⟩
          have HP : Hid (∀ k, k < 16 → probOk (bnd x k) = !b) := by
            intro k hk
            rcases hx with ⟨rfl, rfl⟩ | ⟨rfl, rfl⟩
            · exact bnd_in k hk
            · exact bnd_out _ (by omega) k hk
          have HSZ : Hid (w.heap.size ≤ wr.heap.size) := hb2.size
          clear hb2 hbl
          rcases hx with ⟨rfl, rfl⟩ | ⟨rfl, rfl⟩
          · go_wp2_with (go_at_call 5; fail)
            (with_reducible refine (small_lit _).mono ?_)
            rintro e w1 ⟨rfl, hs1, hb1⟩
            have HS := Lib.hid hs1
            have HB1 := Lib.hid hb1
            have hz := hs1.size
            have hzz := hb1.size
            clear hb1 hs1 hcell
            have hk16 : k = 0 ∨ k = 1 ∨ k = 2 ∨ k = 3 ∨ k = 4 ∨ k = 5 ∨ k = 6 ∨ k = 7 ∨ k = 8 ∨ k = 9 ∨ k = 10 ∨ k = 11 ∨ k = 12 ∨ k = 13 ∨ k = 14 ∨ k = 15 := by omega
            rcases hk16 with rfl | rfl | rfl | rfl | rfl | rfl | rfl | rfl | rfl | rfl | rfl | rfl | rfl | rfl | rfl | rfl
            · as_aux_lemma =>
                have hl1 : wr.heap.size + 1 < w1.heap.size := by omega
                have c0 : w1.cell? ⟨wr.heap.size + 1, 0, none⟩ = some (.int .i64 (5)) := (HS.out.cars.2 0 (by simp [ints])).1
                have f0 : w1.frozen? ⟨wr.heap.size + 1, 0, none⟩ = false := (HS.out.cars.2 0 (by simp [ints])).2
                have hd : ∀ (W : World) (q j : Nat) (u : Value), (W.setCell ⟨wr.heap.size + 1, q, none⟩ u).cell? ⟨w1.heap.size, j, none⟩ = W.cell? ⟨w1.heap.size, j, none⟩ := fun W q j u => World.cell?_setCell_other _ _ _ _ (by intro hh; injection hh with h1 _ _; omega)
                go_wp2_with (go_at_call 6; fail)
                (with_reducible refine (check_ok (i := bnd 0 0) ?_ ?_ ?_).mono ?_)
                · exact (SmallAt.lies (S := wr.heap.size) ⟨by simp; omega, ((HS.out.cars.set (k := 0) (by simp [ints]) _).alloc _), ((HS.out.stops.other (by simp) _).alloc _), ((HS.out.pairs.other (by simp) _).alloc _), ((HS.out.r0.other (by simp) _).alloc _), ((HS.out.r1.other (by simp) _).alloc _), ((HS.out.r2.other (by simp) _).alloc _), ((HS.out.travel.other (by simp) _).alloc _)⟩)
                · exact bnd_short _ _
                · exact HP.out 0 (by omega)
                rintro e w2 ⟨rfl, hb3⟩
                have HB3 := Lib.hid hb3
                clear hb3
                go_wp2
                go_roundw
                case rel => first | exact ⟨r + 1, by omega, by go_num, ((((HB2.out.trans (HB1.out.mono HSZ.out)).setCell (by have := HSZ.out; simp; omega) _).alloc (by have := HSZ.out; simp; omega) _).trans (HB3.out.mono (by have := HSZ.out; simp; omega))), ((((HL.out.below HB1.out).other (by have := HL.out.1; simp; omega) _).alloc _).below HB3.out)⟩ | ((repeat apply Exists.intro); exact ⟨⟨r + 1, by omega, by go_num, ((((HB2.out.trans (HB1.out.mono HSZ.out)).setCell (by have := HSZ.out; simp; omega) _).alloc (by have := HSZ.out; simp; omega) _).trans (HB3.out.mono (by have := HSZ.out; simp; omega))), ((((HL.out.below HB1.out).other (by have := HL.out.1; simp; omega) _).alloc _).below HB3.out)⟩, rfl⟩)
                case measure => simp [intOf]; omega
            · as_aux_lemma =>
                have hl1 : wr.heap.size + 1 < w1.heap.size := by omega
                have c0 : w1.cell? ⟨wr.heap.size + 1, 0, none⟩ = some (.int .i64 (5)) := (HS.out.cars.2 0 (by simp [ints])).1
                have f0 : w1.frozen? ⟨wr.heap.size + 1, 0, none⟩ = false := (HS.out.cars.2 0 (by simp [ints])).2
                have hd : ∀ (W : World) (q j : Nat) (u : Value), (W.setCell ⟨wr.heap.size + 1, q, none⟩ u).cell? ⟨w1.heap.size, j, none⟩ = W.cell? ⟨w1.heap.size, j, none⟩ := fun W q j u => World.cell?_setCell_other _ _ _ _ (by intro hh; injection hh with h1 _ _; omega)
                go_wp2_with (go_at_call 6; fail)
                (with_reducible refine (check_ok (i := bnd 0 1) ?_ ?_ ?_).mono ?_)
                · exact (SmallAt.lies (S := wr.heap.size) ⟨by simp; omega, ((HS.out.cars.set (k := 0) (by simp [ints]) _).alloc _), ((HS.out.stops.other (by simp) _).alloc _), ((HS.out.pairs.other (by simp) _).alloc _), ((HS.out.r0.other (by simp) _).alloc _), ((HS.out.r1.other (by simp) _).alloc _), ((HS.out.r2.other (by simp) _).alloc _), ((HS.out.travel.other (by simp) _).alloc _)⟩)
                · exact bnd_short _ _
                · exact HP.out 1 (by omega)
                rintro e w2 ⟨rfl, hb3⟩
                have HB3 := Lib.hid hb3
                clear hb3
                go_wp2
                go_roundw
                case rel => first | exact ⟨r + 1, by omega, by go_num, ((((HB2.out.trans (HB1.out.mono HSZ.out)).setCell (by have := HSZ.out; simp; omega) _).alloc (by have := HSZ.out; simp; omega) _).trans (HB3.out.mono (by have := HSZ.out; simp; omega))), ((((HL.out.below HB1.out).other (by have := HL.out.1; simp; omega) _).alloc _).below HB3.out)⟩ | ((repeat apply Exists.intro); exact ⟨⟨r + 1, by omega, by go_num, ((((HB2.out.trans (HB1.out.mono HSZ.out)).setCell (by have := HSZ.out; simp; omega) _).alloc (by have := HSZ.out; simp; omega) _).trans (HB3.out.mono (by have := HSZ.out; simp; omega))), ((((HL.out.below HB1.out).other (by have := HL.out.1; simp; omega) _).alloc _).below HB3.out)⟩, rfl⟩)
                case measure => simp [intOf]; omega
            · as_aux_lemma =>
                have hl1 : wr.heap.size + 1 < w1.heap.size := by omega
                have c0 : w1.cell? ⟨wr.heap.size + 1, 1, none⟩ = some (.int .i64 (1)) := (HS.out.cars.2 1 (by simp [ints])).1
                have f0 : w1.frozen? ⟨wr.heap.size + 1, 1, none⟩ = false := (HS.out.cars.2 1 (by simp [ints])).2
                have c1 : w1.cell? ⟨wr.heap.size + 1, 2, none⟩ = some (.int .i64 (9)) := (HS.out.cars.2 2 (by simp [ints])).1
                have f1 : w1.frozen? ⟨wr.heap.size + 1, 2, none⟩ = false := (HS.out.cars.2 2 (by simp [ints])).2
                have hd : ∀ (W : World) (q j : Nat) (u : Value), (W.setCell ⟨wr.heap.size + 1, q, none⟩ u).cell? ⟨w1.heap.size, j, none⟩ = W.cell? ⟨w1.heap.size, j, none⟩ := fun W q j u => World.cell?_setCell_other _ _ _ _ (by intro hh; injection hh with h1 _ _; omega)
                go_wp2
                go_region
                all_goals go_wp2_with (go_at_call 6; fail)
                (with_reducible refine (check_ok (i := bnd 0 2) ?_ ?_ ?_).mono ?_)
                · exact (SmallAt.lies (S := wr.heap.size) ⟨by simp; omega, (((HS.out.cars.set (k := 1) (by simp [ints]) _).set (k := 2) (by simp [ints]) _).alloc _).drew, (((HS.out.stops.other (by simp) _).other (by simp) _).alloc _).drew, (((HS.out.pairs.other (by simp) _).other (by simp) _).alloc _).drew, (((HS.out.r0.other (by simp) _).other (by simp) _).alloc _).drew, (((HS.out.r1.other (by simp) _).other (by simp) _).alloc _).drew, (((HS.out.r2.other (by simp) _).other (by simp) _).alloc _).drew, (((HS.out.travel.other (by simp) _).other (by simp) _).alloc _).drew⟩)
                · exact bnd_short _ _
                · exact HP.out 2 (by omega)
                rintro e w2 ⟨rfl, hb3⟩
                have HB3 := Lib.hid hb3
                clear hb3
                go_wp2
                go_roundw
                case rel => first | exact ⟨r + 1, by omega, by go_num, (((((HB2.out.trans (HB1.out.mono HSZ.out)).setCell (by have := HSZ.out; simp; omega) _).setCell (by have := HSZ.out; simp; omega) _).alloc (by have := HSZ.out; simp; omega) _).drew.trans (HB3.out.mono (by have := HSZ.out; simp; omega))), (((((HL.out.below HB1.out).other (by have := HL.out.1; simp; omega) _).other (by have := HL.out.1; simp; omega) _).alloc _).drew.below HB3.out)⟩ | ((repeat apply Exists.intro); exact ⟨⟨r + 1, by omega, by go_num, (((((HB2.out.trans (HB1.out.mono HSZ.out)).setCell (by have := HSZ.out; simp; omega) _).setCell (by have := HSZ.out; simp; omega) _).alloc (by have := HSZ.out; simp; omega) _).drew.trans (HB3.out.mono (by have := HSZ.out; simp; omega))), (((((HL.out.below HB1.out).other (by have := HL.out.1; simp; omega) _).other (by have := HL.out.1; simp; omega) _).alloc _).drew.below HB3.out)⟩, rfl⟩)
                case measure => simp [intOf]; omega
            · as_aux_lemma =>
                have hl1 : wr.heap.size + 1 < w1.heap.size := by omega
                have c0 : w1.cell? ⟨wr.heap.size + 1, 1, none⟩ = some (.int .i64 (1)) := (HS.out.cars.2 1 (by simp [ints])).1
                have f0 : w1.frozen? ⟨wr.heap.size + 1, 1, none⟩ = false := (HS.out.cars.2 1 (by simp [ints])).2
                have hd : ∀ (W : World) (q j : Nat) (u : Value), (W.setCell ⟨wr.heap.size + 1, q, none⟩ u).cell? ⟨w1.heap.size, j, none⟩ = W.cell? ⟨w1.heap.size, j, none⟩ := fun W q j u => World.cell?_setCell_other _ _ _ _ (by intro hh; injection hh with h1 _ _; omega)
                go_wp2_with (go_at_call 6; fail)
                (with_reducible refine (check_ok (i := bnd 0 3) ?_ ?_ ?_).mono ?_)
                · exact (SmallAt.lies (S := wr.heap.size) ⟨by simp; omega, ((HS.out.cars.set (k := 1) (by simp [ints]) _).alloc _), ((HS.out.stops.other (by simp) _).alloc _), ((HS.out.pairs.other (by simp) _).alloc _), ((HS.out.r0.other (by simp) _).alloc _), ((HS.out.r1.other (by simp) _).alloc _), ((HS.out.r2.other (by simp) _).alloc _), ((HS.out.travel.other (by simp) _).alloc _)⟩)
                · exact bnd_short _ _
                · exact HP.out 3 (by omega)
                rintro e w2 ⟨rfl, hb3⟩
                have HB3 := Lib.hid hb3
                clear hb3
                go_wp2
                go_roundw
                case rel => first | exact ⟨r + 1, by omega, by go_num, ((((HB2.out.trans (HB1.out.mono HSZ.out)).setCell (by have := HSZ.out; simp; omega) _).alloc (by have := HSZ.out; simp; omega) _).trans (HB3.out.mono (by have := HSZ.out; simp; omega))), ((((HL.out.below HB1.out).other (by have := HL.out.1; simp; omega) _).alloc _).below HB3.out)⟩ | ((repeat apply Exists.intro); exact ⟨⟨r + 1, by omega, by go_num, ((((HB2.out.trans (HB1.out.mono HSZ.out)).setCell (by have := HSZ.out; simp; omega) _).alloc (by have := HSZ.out; simp; omega) _).trans (HB3.out.mono (by have := HSZ.out; simp; omega))), ((((HL.out.below HB1.out).other (by have := HL.out.1; simp; omega) _).alloc _).below HB3.out)⟩, rfl⟩)
                case measure => simp [intOf]; omega
            · as_aux_lemma =>
                have hl1 : wr.heap.size + 1 < w1.heap.size := by omega
                have c0 : w1.cell? ⟨wr.heap.size + 1, 2, none⟩ = some (.int .i64 (9)) := (HS.out.cars.2 2 (by simp [ints])).1
                have f0 : w1.frozen? ⟨wr.heap.size + 1, 2, none⟩ = false := (HS.out.cars.2 2 (by simp [ints])).2
                have hd : ∀ (W : World) (q j : Nat) (u : Value), (W.setCell ⟨wr.heap.size + 1, q, none⟩ u).cell? ⟨w1.heap.size, j, none⟩ = W.cell? ⟨w1.heap.size, j, none⟩ := fun W q j u => World.cell?_setCell_other _ _ _ _ (by intro hh; injection hh with h1 _ _; omega)
                go_wp2_with (go_at_call 6; fail)
                (with_reducible refine (check_ok (i := bnd 0 4) ?_ ?_ ?_).mono ?_)
                · exact (SmallAt.lies (S := wr.heap.size) ⟨by simp; omega, ((HS.out.cars.set (k := 2) (by simp [ints]) _).alloc _), ((HS.out.stops.other (by simp) _).alloc _), ((HS.out.pairs.other (by simp) _).alloc _), ((HS.out.r0.other (by simp) _).alloc _), ((HS.out.r1.other (by simp) _).alloc _), ((HS.out.r2.other (by simp) _).alloc _), ((HS.out.travel.other (by simp) _).alloc _)⟩)
                · exact bnd_short _ _
                · exact HP.out 4 (by omega)
                rintro e w2 ⟨rfl, hb3⟩
                have HB3 := Lib.hid hb3
                clear hb3
                go_wp2
                go_roundw
                case rel => first | exact ⟨r + 1, by omega, by go_num, ((((HB2.out.trans (HB1.out.mono HSZ.out)).setCell (by have := HSZ.out; simp; omega) _).alloc (by have := HSZ.out; simp; omega) _).trans (HB3.out.mono (by have := HSZ.out; simp; omega))), ((((HL.out.below HB1.out).other (by have := HL.out.1; simp; omega) _).alloc _).below HB3.out)⟩ | ((repeat apply Exists.intro); exact ⟨⟨r + 1, by omega, by go_num, ((((HB2.out.trans (HB1.out.mono HSZ.out)).setCell (by have := HSZ.out; simp; omega) _).alloc (by have := HSZ.out; simp; omega) _).trans (HB3.out.mono (by have := HSZ.out; simp; omega))), ((((HL.out.below HB1.out).other (by have := HL.out.1; simp; omega) _).alloc _).below HB3.out)⟩, rfl⟩)
                case measure => simp [intOf]; omega
            · as_aux_lemma =>
                have hl2 : wr.heap.size + 2 < w1.heap.size := by omega
                have c0 : w1.cell? ⟨wr.heap.size + 2, 0, none⟩ = some (.int .i64 (2)) := (HS.out.stops.2 0 (by simp [ints])).1
                have f0 : w1.frozen? ⟨wr.heap.size + 2, 0, none⟩ = false := (HS.out.stops.2 0 (by simp [ints])).2
                have c1 : w1.cell? ⟨wr.heap.size + 2, 4, none⟩ = some (.int .i64 (-2)) := (HS.out.stops.2 4 (by simp [ints])).1
                have f1 : w1.frozen? ⟨wr.heap.size + 2, 4, none⟩ = false := (HS.out.stops.2 4 (by simp [ints])).2
                have hd : ∀ (W : World) (q j : Nat) (u : Value), (W.setCell ⟨wr.heap.size + 2, q, none⟩ u).cell? ⟨w1.heap.size, j, none⟩ = W.cell? ⟨w1.heap.size, j, none⟩ := fun W q j u => World.cell?_setCell_other _ _ _ _ (by intro hh; injection hh with h1 _ _; omega)
                go_wp2
                go_region
                all_goals go_wp2_with (go_at_call 6; fail)
                (with_reducible refine (check_ok (i := bnd 0 5) ?_ ?_ ?_).mono ?_)
                · exact (SmallAt.lies (S := wr.heap.size) ⟨by simp; omega, (((HS.out.cars.other (by simp) _).other (by simp) _).alloc _).drew, (((HS.out.stops.set (k := 0) (by simp [ints]) _).set (k := 4) (by simp [ints]) _).alloc _).drew, (((HS.out.pairs.other (by simp) _).other (by simp) _).alloc _).drew, (((HS.out.r0.other (by simp) _).other (by simp) _).alloc _).drew, (((HS.out.r1.other (by simp) _).other (by simp) _).alloc _).drew, (((HS.out.r2.other (by simp) _).other (by simp) _).alloc _).drew, (((HS.out.travel.other (by simp) _).other (by simp) _).alloc _).drew⟩)
                · exact bnd_short _ _
                · exact HP.out 5 (by omega)
                rintro e w2 ⟨rfl, hb3⟩
                have HB3 := Lib.hid hb3
                clear hb3
                go_wp2
                go_roundw
                case rel => first | exact ⟨r + 1, by omega, by go_num, (((((HB2.out.trans (HB1.out.mono HSZ.out)).setCell (by have := HSZ.out; simp; omega) _).setCell (by have := HSZ.out; simp; omega) _).alloc (by have := HSZ.out; simp; omega) _).drew.trans (HB3.out.mono (by have := HSZ.out; simp; omega))), (((((HL.out.below HB1.out).other (by have := HL.out.1; simp; omega) _).other (by have := HL.out.1; simp; omega) _).alloc _).drew.below HB3.out)⟩ | ((repeat apply Exists.intro); exact ⟨⟨r + 1, by omega, by go_num, (((((HB2.out.trans (HB1.out.mono HSZ.out)).setCell (by have := HSZ.out; simp; omega) _).setCell (by have := HSZ.out; simp; omega) _).alloc (by have := HSZ.out; simp; omega) _).drew.trans (HB3.out.mono (by have := HSZ.out; simp; omega))), (((((HL.out.below HB1.out).other (by have := HL.out.1; simp; omega) _).other (by have := HL.out.1; simp; omega) _).alloc _).drew.below HB3.out)⟩, rfl⟩)
                case measure => simp [intOf]; omega
            · as_aux_lemma =>
                have hl2 : wr.heap.size + 2 < w1.heap.size := by omega
                have c0 : w1.cell? ⟨wr.heap.size + 2, 4, none⟩ = some (.int .i64 (-2)) := (HS.out.stops.2 4 (by simp [ints])).1
                have f0 : w1.frozen? ⟨wr.heap.size + 2, 4, none⟩ = false := (HS.out.stops.2 4 (by simp [ints])).2
                have hd : ∀ (W : World) (q j : Nat) (u : Value), (W.setCell ⟨wr.heap.size + 2, q, none⟩ u).cell? ⟨w1.heap.size, j, none⟩ = W.cell? ⟨w1.heap.size, j, none⟩ := fun W q j u => World.cell?_setCell_other _ _ _ _ (by intro hh; injection hh with h1 _ _; omega)
                go_wp2_with (go_at_call 6; fail)
                (with_reducible refine (check_ok (i := bnd 0 6) ?_ ?_ ?_).mono ?_)
                · exact (SmallAt.lies (S := wr.heap.size) ⟨by simp; omega, ((HS.out.cars.other (by simp) _).alloc _), ((HS.out.stops.set (k := 4) (by simp [ints]) _).alloc _), ((HS.out.pairs.other (by simp) _).alloc _), ((HS.out.r0.other (by simp) _).alloc _), ((HS.out.r1.other (by simp) _).alloc _), ((HS.out.r2.other (by simp) _).alloc _), ((HS.out.travel.other (by simp) _).alloc _)⟩)
                · exact bnd_short _ _
                · exact HP.out 6 (by omega)
                rintro e w2 ⟨rfl, hb3⟩
                have HB3 := Lib.hid hb3
                clear hb3
                go_wp2
                go_roundw
                case rel => first | exact ⟨r + 1, by omega, by go_num, ((((HB2.out.trans (HB1.out.mono HSZ.out)).setCell (by have := HSZ.out; simp; omega) _).alloc (by have := HSZ.out; simp; omega) _).trans (HB3.out.mono (by have := HSZ.out; simp; omega))), ((((HL.out.below HB1.out).other (by have := HL.out.1; simp; omega) _).alloc _).below HB3.out)⟩ | ((repeat apply Exists.intro); exact ⟨⟨r + 1, by omega, by go_num, ((((HB2.out.trans (HB1.out.mono HSZ.out)).setCell (by have := HSZ.out; simp; omega) _).alloc (by have := HSZ.out; simp; omega) _).trans (HB3.out.mono (by have := HSZ.out; simp; omega))), ((((HL.out.below HB1.out).other (by have := HL.out.1; simp; omega) _).alloc _).below HB3.out)⟩, rfl⟩)
                case measure => simp [intOf]; omega
            · as_aux_lemma =>
                have hl2 : wr.heap.size + 2 < w1.heap.size := by omega
                have c0 : w1.cell? ⟨wr.heap.size + 2, 1, none⟩ = some (.int .i64 (0)) := (HS.out.stops.2 1 (by simp [ints])).1
                have f0 : w1.frozen? ⟨wr.heap.size + 2, 1, none⟩ = false := (HS.out.stops.2 1 (by simp [ints])).2
                have hd : ∀ (W : World) (q j : Nat) (u : Value), (W.setCell ⟨wr.heap.size + 2, q, none⟩ u).cell? ⟨w1.heap.size, j, none⟩ = W.cell? ⟨w1.heap.size, j, none⟩ := fun W q j u => World.cell?_setCell_other _ _ _ _ (by intro hh; injection hh with h1 _ _; omega)
                go_wp2_with (go_at_call 6; fail)
                (with_reducible refine (check_ok (i := bnd 0 7) ?_ ?_ ?_).mono ?_)
                · exact (SmallAt.lies (S := wr.heap.size) ⟨by simp; omega, ((HS.out.cars.other (by simp) _).alloc _), ((HS.out.stops.set (k := 1) (by simp [ints]) _).alloc _), ((HS.out.pairs.other (by simp) _).alloc _), ((HS.out.r0.other (by simp) _).alloc _), ((HS.out.r1.other (by simp) _).alloc _), ((HS.out.r2.other (by simp) _).alloc _), ((HS.out.travel.other (by simp) _).alloc _)⟩)
                · exact bnd_short _ _
                · exact HP.out 7 (by omega)
                rintro e w2 ⟨rfl, hb3⟩
                have HB3 := Lib.hid hb3
                clear hb3
                go_wp2
                go_roundw
                case rel => first | exact ⟨r + 1, by omega, by go_num, ((((HB2.out.trans (HB1.out.mono HSZ.out)).setCell (by have := HSZ.out; simp; omega) _).alloc (by have := HSZ.out; simp; omega) _).trans (HB3.out.mono (by have := HSZ.out; simp; omega))), ((((HL.out.below HB1.out).other (by have := HL.out.1; simp; omega) _).alloc _).below HB3.out)⟩ | ((repeat apply Exists.intro); exact ⟨⟨r + 1, by omega, by go_num, ((((HB2.out.trans (HB1.out.mono HSZ.out)).setCell (by have := HSZ.out; simp; omega) _).alloc (by have := HSZ.out; simp; omega) _).trans (HB3.out.mono (by have := HSZ.out; simp; omega))), ((((HL.out.below HB1.out).other (by have := HL.out.1; simp; omega) _).alloc _).below HB3.out)⟩, rfl⟩)
                case measure => simp [intOf]; omega
            · as_aux_lemma =>
                have hl2 : wr.heap.size + 2 < w1.heap.size := by omega
                have c0 : w1.cell? ⟨wr.heap.size + 2, 1, none⟩ = some (.int .i64 (0)) := (HS.out.stops.2 1 (by simp [ints])).1
                have f0 : w1.frozen? ⟨wr.heap.size + 2, 1, none⟩ = false := (HS.out.stops.2 1 (by simp [ints])).2
                have hd : ∀ (W : World) (q j : Nat) (u : Value), (W.setCell ⟨wr.heap.size + 2, q, none⟩ u).cell? ⟨w1.heap.size, j, none⟩ = W.cell? ⟨w1.heap.size, j, none⟩ := fun W q j u => World.cell?_setCell_other _ _ _ _ (by intro hh; injection hh with h1 _ _; omega)
                go_wp2_with (go_at_call 6; fail)
                (with_reducible refine (check_ok (i := bnd 0 8) ?_ ?_ ?_).mono ?_)
                · exact (SmallAt.lies (S := wr.heap.size) ⟨by simp; omega, ((HS.out.cars.other (by simp) _).alloc _), ((HS.out.stops.set (k := 1) (by simp [ints]) _).alloc _), ((HS.out.pairs.other (by simp) _).alloc _), ((HS.out.r0.other (by simp) _).alloc _), ((HS.out.r1.other (by simp) _).alloc _), ((HS.out.r2.other (by simp) _).alloc _), ((HS.out.travel.other (by simp) _).alloc _)⟩)
                · exact bnd_short _ _
                · exact HP.out 8 (by omega)
                rintro e w2 ⟨rfl, hb3⟩
                have HB3 := Lib.hid hb3
                clear hb3
                go_wp2
                go_roundw
                case rel => first | exact ⟨r + 1, by omega, by go_num, ((((HB2.out.trans (HB1.out.mono HSZ.out)).setCell (by have := HSZ.out; simp; omega) _).alloc (by have := HSZ.out; simp; omega) _).trans (HB3.out.mono (by have := HSZ.out; simp; omega))), ((((HL.out.below HB1.out).other (by have := HL.out.1; simp; omega) _).alloc _).below HB3.out)⟩ | ((repeat apply Exists.intro); exact ⟨⟨r + 1, by omega, by go_num, ((((HB2.out.trans (HB1.out.mono HSZ.out)).setCell (by have := HSZ.out; simp; omega) _).alloc (by have := HSZ.out; simp; omega) _).trans (HB3.out.mono (by have := HSZ.out; simp; omega))), ((((HL.out.below HB1.out).other (by have := HL.out.1; simp; omega) _).alloc _).below HB3.out)⟩, rfl⟩)
                case measure => simp [intOf]; omega
            · as_aux_lemma =>
                have hl2 : wr.heap.size + 2 < w1.heap.size := by omega
                have c0 : w1.cell? ⟨wr.heap.size + 2, 2, none⟩ = some (.int .i64 (8)) := (HS.out.stops.2 2 (by simp [ints])).1
                have f0 : w1.frozen? ⟨wr.heap.size + 2, 2, none⟩ = false := (HS.out.stops.2 2 (by simp [ints])).2
                have hd : ∀ (W : World) (q j : Nat) (u : Value), (W.setCell ⟨wr.heap.size + 2, q, none⟩ u).cell? ⟨w1.heap.size, j, none⟩ = W.cell? ⟨w1.heap.size, j, none⟩ := fun W q j u => World.cell?_setCell_other _ _ _ _ (by intro hh; injection hh with h1 _ _; omega)
                go_wp2_with (go_at_call 6; fail)
                (with_reducible refine (check_ok (i := bnd 0 9) ?_ ?_ ?_).mono ?_)
                · exact (SmallAt.lies (S := wr.heap.size) ⟨by simp; omega, ((HS.out.cars.other (by simp) _).alloc _), ((HS.out.stops.set (k := 2) (by simp [ints]) _).alloc _), ((HS.out.pairs.other (by simp) _).alloc _), ((HS.out.r0.other (by simp) _).alloc _), ((HS.out.r1.other (by simp) _).alloc _), ((HS.out.r2.other (by simp) _).alloc _), ((HS.out.travel.other (by simp) _).alloc _)⟩)
                · exact bnd_short _ _
                · exact HP.out 9 (by omega)
                rintro e w2 ⟨rfl, hb3⟩
                have HB3 := Lib.hid hb3
                clear hb3
                go_wp2
                go_roundw
                case rel => first | exact ⟨r + 1, by omega, by go_num, ((((HB2.out.trans (HB1.out.mono HSZ.out)).setCell (by have := HSZ.out; simp; omega) _).alloc (by have := HSZ.out; simp; omega) _).trans (HB3.out.mono (by have := HSZ.out; simp; omega))), ((((HL.out.below HB1.out).other (by have := HL.out.1; simp; omega) _).alloc _).below HB3.out)⟩ | ((repeat apply Exists.intro); exact ⟨⟨r + 1, by omega, by go_num, ((((HB2.out.trans (HB1.out.mono HSZ.out)).setCell (by have := HSZ.out; simp; omega) _).alloc (by have := HSZ.out; simp; omega) _).trans (HB3.out.mono (by have := HSZ.out; simp; omega))), ((((HL.out.below HB1.out).other (by have := HL.out.1; simp; omega) _).alloc _).below HB3.out)⟩, rfl⟩)
                case measure => simp [intOf]; omega
            · as_aux_lemma =>
                have hl2 : wr.heap.size + 2 < w1.heap.size := by omega
                have c0 : w1.cell? ⟨wr.heap.size + 2, 3, none⟩ = some (.int .i64 (1)) := (HS.out.stops.2 3 (by simp [ints])).1
                have f0 : w1.frozen? ⟨wr.heap.size + 2, 3, none⟩ = false := (HS.out.stops.2 3 (by simp [ints])).2
                have hd : ∀ (W : World) (q j : Nat) (u : Value), (W.setCell ⟨wr.heap.size + 2, q, none⟩ u).cell? ⟨w1.heap.size, j, none⟩ = W.cell? ⟨w1.heap.size, j, none⟩ := fun W q j u => World.cell?_setCell_other _ _ _ _ (by intro hh; injection hh with h1 _ _; omega)
                go_wp2_with (go_at_call 6; fail)
                (with_reducible refine (check_ok (i := bnd 0 10) ?_ ?_ ?_).mono ?_)
                · exact (SmallAt.lies (S := wr.heap.size) ⟨by simp; omega, ((HS.out.cars.other (by simp) _).alloc _), ((HS.out.stops.set (k := 3) (by simp [ints]) _).alloc _), ((HS.out.pairs.other (by simp) _).alloc _), ((HS.out.r0.other (by simp) _).alloc _), ((HS.out.r1.other (by simp) _).alloc _), ((HS.out.r2.other (by simp) _).alloc _), ((HS.out.travel.other (by simp) _).alloc _)⟩)
                · exact bnd_short _ _
                · exact HP.out 10 (by omega)
                rintro e w2 ⟨rfl, hb3⟩
                have HB3 := Lib.hid hb3
                clear hb3
                go_wp2
                go_roundw
                case rel => first | exact ⟨r + 1, by omega, by go_num, ((((HB2.out.trans (HB1.out.mono HSZ.out)).setCell (by have := HSZ.out; simp; omega) _).alloc (by have := HSZ.out; simp; omega) _).trans (HB3.out.mono (by have := HSZ.out; simp; omega))), ((((HL.out.below HB1.out).other (by have := HL.out.1; simp; omega) _).alloc _).below HB3.out)⟩ | ((repeat apply Exists.intro); exact ⟨⟨r + 1, by omega, by go_num, ((((HB2.out.trans (HB1.out.mono HSZ.out)).setCell (by have := HSZ.out; simp; omega) _).alloc (by have := HSZ.out; simp; omega) _).trans (HB3.out.mono (by have := HSZ.out; simp; omega))), ((((HL.out.below HB1.out).other (by have := HL.out.1; simp; omega) _).alloc _).below HB3.out)⟩, rfl⟩)
                case measure => simp [intOf]; omega
            · as_aux_lemma =>
                have hl2 : wr.heap.size + 2 < w1.heap.size := by omega
                have c0 : w1.cell? ⟨wr.heap.size + 2, 3, none⟩ = some (.int .i64 (1)) := (HS.out.stops.2 3 (by simp [ints])).1
                have f0 : w1.frozen? ⟨wr.heap.size + 2, 3, none⟩ = false := (HS.out.stops.2 3 (by simp [ints])).2
                have hd : ∀ (W : World) (q j : Nat) (u : Value), (W.setCell ⟨wr.heap.size + 2, q, none⟩ u).cell? ⟨w1.heap.size, j, none⟩ = W.cell? ⟨w1.heap.size, j, none⟩ := fun W q j u => World.cell?_setCell_other _ _ _ _ (by intro hh; injection hh with h1 _ _; omega)
                go_wp2_with (go_at_call 6; fail)
                (with_reducible refine (check_ok (i := bnd 0 11) ?_ ?_ ?_).mono ?_)
                · exact (SmallAt.lies (S := wr.heap.size) ⟨by simp; omega, ((HS.out.cars.other (by simp) _).alloc _), ((HS.out.stops.set (k := 3) (by simp [ints]) _).alloc _), ((HS.out.pairs.other (by simp) _).alloc _), ((HS.out.r0.other (by simp) _).alloc _), ((HS.out.r1.other (by simp) _).alloc _), ((HS.out.r2.other (by simp) _).alloc _), ((HS.out.travel.other (by simp) _).alloc _)⟩)
                · exact bnd_short _ _
                · exact HP.out 11 (by omega)
                rintro e w2 ⟨rfl, hb3⟩
                have HB3 := Lib.hid hb3
                clear hb3
                go_wp2
                go_roundw
                case rel => first | exact ⟨r + 1, by omega, by go_num, ((((HB2.out.trans (HB1.out.mono HSZ.out)).setCell (by have := HSZ.out; simp; omega) _).alloc (by have := HSZ.out; simp; omega) _).trans (HB3.out.mono (by have := HSZ.out; simp; omega))), ((((HL.out.below HB1.out).other (by have := HL.out.1; simp; omega) _).alloc _).below HB3.out)⟩ | ((repeat apply Exists.intro); exact ⟨⟨r + 1, by omega, by go_num, ((((HB2.out.trans (HB1.out.mono HSZ.out)).setCell (by have := HSZ.out; simp; omega) _).alloc (by have := HSZ.out; simp; omega) _).trans (HB3.out.mono (by have := HSZ.out; simp; omega))), ((((HL.out.below HB1.out).other (by have := HL.out.1; simp; omega) _).alloc _).below HB3.out)⟩, rfl⟩)
                case measure => simp [intOf]; omega
            · as_aux_lemma =>
                have hl5 : wr.heap.size + 5 < w1.heap.size := by omega
                have hl7 : wr.heap.size + 7 < w1.heap.size := by omega
                have c0 : w1.cell? ⟨wr.heap.size + 5, 2, none⟩ = some (.int .i64 (4)) := (HS.out.r1.2 2 (by simp [ints])).1
                have f0 : w1.frozen? ⟨wr.heap.size + 5, 2, none⟩ = false := (HS.out.r1.2 2 (by simp [ints])).2
                have hd : ∀ (W : World) (q j : Nat) (u : Value), (W.setCell ⟨wr.heap.size + 5, q, none⟩ u).cell? ⟨w1.heap.size, j, none⟩ = W.cell? ⟨w1.heap.size, j, none⟩ := fun W q j u => World.cell?_setCell_other _ _ _ _ (by intro hh; injection hh with h1 _ _; omega)
                have c9 : w1.cell? ⟨wr.heap.size + 7, 1, none⟩ = some (.slice (some ⟨wr.heap.size + 5, 0, none⟩) 3 3) := (HS.out.travel.2 1 (by simp)).1
                go_wp2_with (go_at_call 6; fail)
                (with_reducible refine (check_ok (i := bnd 0 12) ?_ ?_ ?_).mono ?_)
                · exact (SmallAt.lies (S := wr.heap.size) ⟨by simp; omega, ((HS.out.cars.other (by simp) _).alloc _), ((HS.out.stops.other (by simp) _).alloc _), ((HS.out.pairs.other (by simp) _).alloc _), ((HS.out.r0.other (by simp) _).alloc _), ((HS.out.r1.set (k := 2) (by simp [ints]) _).alloc _), ((HS.out.r2.other (by simp) _).alloc _), ((HS.out.travel.other (by simp) _).alloc _)⟩)
                · exact bnd_short _ _
                · exact HP.out 12 (by omega)
                rintro e w2 ⟨rfl, hb3⟩
                have HB3 := Lib.hid hb3
                clear hb3
                go_wp2
                go_roundw
                case rel => first | exact ⟨r + 1, by omega, by go_num, ((((HB2.out.trans (HB1.out.mono HSZ.out)).setCell (by have := HSZ.out; simp; omega) _).alloc (by have := HSZ.out; simp; omega) _).trans (HB3.out.mono (by have := HSZ.out; simp; omega))), ((((HL.out.below HB1.out).other (by have := HL.out.1; simp; omega) _).alloc _).below HB3.out)⟩ | ((repeat apply Exists.intro); exact ⟨⟨r + 1, by omega, by go_num, ((((HB2.out.trans (HB1.out.mono HSZ.out)).setCell (by have := HSZ.out; simp; omega) _).alloc (by have := HSZ.out; simp; omega) _).trans (HB3.out.mono (by have := HSZ.out; simp; omega))), ((((HL.out.below HB1.out).other (by have := HL.out.1; simp; omega) _).alloc _).below HB3.out)⟩, rfl⟩)
                case measure => simp [intOf]; omega
            · as_aux_lemma =>
                have hl5 : wr.heap.size + 5 < w1.heap.size := by omega
                have hl7 : wr.heap.size + 7 < w1.heap.size := by omega
                have c0 : w1.cell? ⟨wr.heap.size + 5, 2, none⟩ = some (.int .i64 (4)) := (HS.out.r1.2 2 (by simp [ints])).1
                have f0 : w1.frozen? ⟨wr.heap.size + 5, 2, none⟩ = false := (HS.out.r1.2 2 (by simp [ints])).2
                have hd : ∀ (W : World) (q j : Nat) (u : Value), (W.setCell ⟨wr.heap.size + 5, q, none⟩ u).cell? ⟨w1.heap.size, j, none⟩ = W.cell? ⟨w1.heap.size, j, none⟩ := fun W q j u => World.cell?_setCell_other _ _ _ _ (by intro hh; injection hh with h1 _ _; omega)
                have c9 : w1.cell? ⟨wr.heap.size + 7, 1, none⟩ = some (.slice (some ⟨wr.heap.size + 5, 0, none⟩) 3 3) := (HS.out.travel.2 1 (by simp)).1
                go_wp2_with (go_at_call 6; fail)
                (with_reducible refine (check_ok (i := bnd 0 13) ?_ ?_ ?_).mono ?_)
                · exact (SmallAt.lies (S := wr.heap.size) ⟨by simp; omega, ((HS.out.cars.other (by simp) _).alloc _), ((HS.out.stops.other (by simp) _).alloc _), ((HS.out.pairs.other (by simp) _).alloc _), ((HS.out.r0.other (by simp) _).alloc _), ((HS.out.r1.set (k := 2) (by simp [ints]) _).alloc _), ((HS.out.r2.other (by simp) _).alloc _), ((HS.out.travel.other (by simp) _).alloc _)⟩)
                · exact bnd_short _ _
                · exact HP.out 13 (by omega)
                rintro e w2 ⟨rfl, hb3⟩
                have HB3 := Lib.hid hb3
                clear hb3
                go_wp2
                go_roundw
                case rel => first | exact ⟨r + 1, by omega, by go_num, ((((HB2.out.trans (HB1.out.mono HSZ.out)).setCell (by have := HSZ.out; simp; omega) _).alloc (by have := HSZ.out; simp; omega) _).trans (HB3.out.mono (by have := HSZ.out; simp; omega))), ((((HL.out.below HB1.out).other (by have := HL.out.1; simp; omega) _).alloc _).below HB3.out)⟩ | ((repeat apply Exists.intro); exact ⟨⟨r + 1, by omega, by go_num, ((((HB2.out.trans (HB1.out.mono HSZ.out)).setCell (by have := HSZ.out; simp; omega) _).alloc (by have := HSZ.out; simp; omega) _).trans (HB3.out.mono (by have := HSZ.out; simp; omega))), ((((HL.out.below HB1.out).other (by have := HL.out.1; simp; omega) _).alloc _).below HB3.out)⟩, rfl⟩)
                case measure => simp [intOf]; omega
            · as_aux_lemma =>
                have hl6 : wr.heap.size + 6 < w1.heap.size := by omega
                have hl7 : wr.heap.size + 7 < w1.heap.size := by omega
                have c0 : w1.cell? ⟨wr.heap.size + 6, 2, none⟩ = some (.int .i64 (0)) := (HS.out.r2.2 2 (by simp [ints])).1
                have f0 : w1.frozen? ⟨wr.heap.size + 6, 2, none⟩ = false := (HS.out.r2.2 2 (by simp [ints])).2
                have hd : ∀ (W : World) (q j : Nat) (u : Value), (W.setCell ⟨wr.heap.size + 6, q, none⟩ u).cell? ⟨w1.heap.size, j, none⟩ = W.cell? ⟨w1.heap.size, j, none⟩ := fun W q j u => World.cell?_setCell_other _ _ _ _ (by intro hh; injection hh with h1 _ _; omega)
                have c9 : w1.cell? ⟨wr.heap.size + 7, 2, none⟩ = some (.slice (some ⟨wr.heap.size + 6, 0, none⟩) 3 3) := (HS.out.travel.2 2 (by simp)).1
                go_wp2_with (go_at_call 6; fail)
                (with_reducible refine (check_ok (i := bnd 0 14) ?_ ?_ ?_).mono ?_)
                · exact (SmallAt.lies (S := wr.heap.size) ⟨by simp; omega, ((HS.out.cars.other (by simp) _).alloc _), ((HS.out.stops.other (by simp) _).alloc _), ((HS.out.pairs.other (by simp) _).alloc _), ((HS.out.r0.other (by simp) _).alloc _), ((HS.out.r1.other (by simp) _).alloc _), ((HS.out.r2.set (k := 2) (by simp [ints]) _).alloc _), ((HS.out.travel.other (by simp) _).alloc _)⟩)
                · exact bnd_short _ _
                · exact HP.out 14 (by omega)
                rintro e w2 ⟨rfl, hb3⟩
                have HB3 := Lib.hid hb3
                clear hb3
                go_wp2
                go_roundw
                case rel => first | exact ⟨r + 1, by omega, by go_num, ((((HB2.out.trans (HB1.out.mono HSZ.out)).setCell (by have := HSZ.out; simp; omega) _).alloc (by have := HSZ.out; simp; omega) _).trans (HB3.out.mono (by have := HSZ.out; simp; omega))), ((((HL.out.below HB1.out).other (by have := HL.out.1; simp; omega) _).alloc _).below HB3.out)⟩ | ((repeat apply Exists.intro); exact ⟨⟨r + 1, by omega, by go_num, ((((HB2.out.trans (HB1.out.mono HSZ.out)).setCell (by have := HSZ.out; simp; omega) _).alloc (by have := HSZ.out; simp; omega) _).trans (HB3.out.mono (by have := HSZ.out; simp; omega))), ((((HL.out.below HB1.out).other (by have := HL.out.1; simp; omega) _).alloc _).below HB3.out)⟩, rfl⟩)
                case measure => simp [intOf]; omega
            · as_aux_lemma =>
                have hl3 : wr.heap.size + 3 < w1.heap.size := by omega
                have c0 : w1.cell? ⟨wr.heap.size + 3, 0, none⟩ = some (.int .i64 (1)) := (HS.out.pairs.2 0 (by simp [ints])).1
                have f0 : w1.frozen? ⟨wr.heap.size + 3, 0, none⟩ = false := (HS.out.pairs.2 0 (by simp [ints])).2
                have c1 : w1.cell? ⟨wr.heap.size + 3, 1, none⟩ = some (.int .i64 (2)) := (HS.out.pairs.2 1 (by simp [ints])).1
                have f1 : w1.frozen? ⟨wr.heap.size + 3, 1, none⟩ = false := (HS.out.pairs.2 1 (by simp [ints])).2
                have hd : ∀ (W : World) (q j : Nat) (u : Value), (W.setCell ⟨wr.heap.size + 3, q, none⟩ u).cell? ⟨w1.heap.size, j, none⟩ = W.cell? ⟨w1.heap.size, j, none⟩ := fun W q j u => World.cell?_setCell_other _ _ _ _ (by intro hh; injection hh with h1 _ _; omega)
                go_wp2_with (go_at_call 6; fail)
                (with_reducible refine (check_ok (i := bnd 0 15) ?_ ?_ ?_).mono ?_)
                · exact (SmallAt.lies (S := wr.heap.size) ⟨by simp; omega, (((HS.out.cars.other (by simp) _).other (by simp) _).alloc _), (((HS.out.stops.other (by simp) _).other (by simp) _).alloc _), (((HS.out.pairs.set (k := 0) (by simp [ints]) _).set (k := 1) (by simp [ints]) _).alloc _), (((HS.out.r0.other (by simp) _).other (by simp) _).alloc _), (((HS.out.r1.other (by simp) _).other (by simp) _).alloc _), (((HS.out.r2.other (by simp) _).other (by simp) _).alloc _), (((HS.out.travel.other (by simp) _).other (by simp) _).alloc _)⟩)
                · exact bnd_short _ _
                · exact HP.out 15 (by omega)
                rintro e w2 ⟨rfl, hb3⟩
                have HB3 := Lib.hid hb3
                clear hb3
                go_wp2
                go_roundw
                case rel => first | exact ⟨r + 1, by omega, by go_num, (((((HB2.out.trans (HB1.out.mono HSZ.out)).setCell (by have := HSZ.out; simp; omega) _).setCell (by have := HSZ.out; simp; omega) _).alloc (by have := HSZ.out; simp; omega) _).trans (HB3.out.mono (by have := HSZ.out; simp; omega))), (((((HL.out.below HB1.out).other (by have := HL.out.1; simp; omega) _).other (by have := HL.out.1; simp; omega) _).alloc _).below HB3.out)⟩ | ((repeat apply Exists.intro); exact ⟨⟨r + 1, by omega, by go_num, (((((HB2.out.trans (HB1.out.mono HSZ.out)).setCell (by have := HSZ.out; simp; omega) _).setCell (by have := HSZ.out; simp; omega) _).alloc (by have := HSZ.out; simp; omega) _).trans (HB3.out.mono (by have := HSZ.out; simp; omega))), (((((HL.out.below HB1.out).other (by have := HL.out.1; simp; omega) _).other (by have := HL.out.1; simp; omega) _).alloc _).below HB3.out)⟩, rfl⟩)
                case measure => simp [intOf]; omega
          · go_wp2_with (go_at_call 5; fail)
            (with_reducible refine (small_lit _).mono ?_)
            rintro e w1 ⟨rfl, hs1, hb1⟩
            have HS := Lib.hid hs1
            have HB1 := Lib.hid hb1
            have hz := hs1.size
            have hzz := hb1.size
            clear hb1 hs1 hcell
            have hk16 : k = 0 ∨ k = 1 ∨ k = 2 ∨ k = 3 ∨ k = 4 ∨ k = 5 ∨ k = 6 ∨ k = 7 ∨ k = 8 ∨ k = 9 ∨ k = 10 ∨ k = 11 ∨ k = 12 ∨ k = 13 ∨ k = 14 ∨ k = 15 := by omega
            rcases hk16 with rfl | rfl | rfl | rfl | rfl | rfl | rfl | rfl | rfl | rfl | rfl | rfl | rfl | rfl | rfl | rfl
            · as_aux_lemma =>
                have hl1 : wr.heap.size + 1 < w1.heap.size := by omega
                have c0 : w1.cell? ⟨wr.heap.size + 1, 0, none⟩ = some (.int .i64 (5)) := (HS.out.cars.2 0 (by simp [ints])).1
                have f0 : w1.frozen? ⟨wr.heap.size + 1, 0, none⟩ = false := (HS.out.cars.2 0 (by simp [ints])).2
                have hd : ∀ (W : World) (q j : Nat) (u : Value), (W.setCell ⟨wr.heap.size + 1, q, none⟩ u).cell? ⟨w1.heap.size, j, none⟩ = W.cell? ⟨w1.heap.size, j, none⟩ := fun W q j u => World.cell?_setCell_other _ _ _ _ (by intro hh; injection hh with h1 _ _; omega)
                go_wp2_with (go_at_call 6; fail)
                (with_reducible refine (check_bad (i := bnd (1 + m) 0) ?_ ?_ ?_).mono ?_)
                · exact (SmallAt.lies (S := wr.heap.size) ⟨by simp; omega, ((HS.out.cars.set (k := 0) (by simp [ints]) _).alloc _), ((HS.out.stops.other (by simp) _).alloc _), ((HS.out.pairs.other (by simp) _).alloc _), ((HS.out.r0.other (by simp) _).alloc _), ((HS.out.r1.other (by simp) _).alloc _), ((HS.out.r2.other (by simp) _).alloc _), ((HS.out.travel.other (by simp) _).alloc _)⟩)
                · exact bnd_short _ _
                · exact HP.out 0 (by omega)
                rintro e w2 ⟨rfl, hb3⟩
                have HB3 := Lib.hid hb3
                clear hb3
                go_wp2
                go_roundw
                case rel => first | exact ⟨r + 1, by omega, by go_num, ((((HB2.out.trans (HB1.out.mono HSZ.out)).setCell (by have := HSZ.out; simp; omega) _).alloc (by have := HSZ.out; simp; omega) _).trans (HB3.out.mono (by have := HSZ.out; simp; omega))), ((((HL.out.below HB1.out).other (by have := HL.out.1; simp; omega) _).alloc _).below HB3.out)⟩ | ((repeat apply Exists.intro); exact ⟨⟨r + 1, by omega, by go_num, ((((HB2.out.trans (HB1.out.mono HSZ.out)).setCell (by have := HSZ.out; simp; omega) _).alloc (by have := HSZ.out; simp; omega) _).trans (HB3.out.mono (by have := HSZ.out; simp; omega))), ((((HL.out.below HB1.out).other (by have := HL.out.1; simp; omega) _).alloc _).below HB3.out)⟩, rfl⟩)
                case measure => simp [intOf]; omega
            · as_aux_lemma =>
                have hl1 : wr.heap.size + 1 < w1.heap.size := by omega
                have c0 : w1.cell? ⟨wr.heap.size + 1, 0, none⟩ = some (.int .i64 (5)) := (HS.out.cars.2 0 (by simp [ints])).1
                have f0 : w1.frozen? ⟨wr.heap.size + 1, 0, none⟩ = false := (HS.out.cars.2 0 (by simp [ints])).2
                have hd : ∀ (W : World) (q j : Nat) (u : Value), (W.setCell ⟨wr.heap.size + 1, q, none⟩ u).cell? ⟨w1.heap.size, j, none⟩ = W.cell? ⟨w1.heap.size, j, none⟩ := fun W q j u => World.cell?_setCell_other _ _ _ _ (by intro hh; injection hh with h1 _ _; omega)
                go_wp2_with (go_at_call 6; fail)
                (with_reducible refine (check_bad (i := bnd (1 + m) 1) ?_ ?_ ?_).mono ?_)
                · exact (SmallAt.lies (S := wr.heap.size) ⟨by simp; omega, ((HS.out.cars.set (k := 0) (by simp [ints]) _).alloc _), ((HS.out.stops.other (by simp) _).alloc _), ((HS.out.pairs.other (by simp) _).alloc _), ((HS.out.r0.other (by simp) _).alloc _), ((HS.out.r1.other (by simp) _).alloc _), ((HS.out.r2.other (by simp) _).alloc _), ((HS.out.travel.other (by simp) _).alloc _)⟩)
                · exact bnd_short _ _
                · exact HP.out 1 (by omega)
                rintro e w2 ⟨rfl, hb3⟩
                have HB3 := Lib.hid hb3
                clear hb3
                go_wp2
                go_roundw
                case rel => first | exact ⟨r + 1, by omega, by go_num, ((((HB2.out.trans (HB1.out.mono HSZ.out)).setCell (by have := HSZ.out; simp; omega) _).alloc (by have := HSZ.out; simp; omega) _).trans (HB3.out.mono (by have := HSZ.out; simp; omega))), ((((HL.out.below HB1.out).other (by have := HL.out.1; simp; omega) _).alloc _).below HB3.out)⟩ | ((repeat apply Exists.intro); exact ⟨⟨r + 1, by omega, by go_num, ((((HB2.out.trans (HB1.out.mono HSZ.out)).setCell (by have := HSZ.out; simp; omega) _).alloc (by have := HSZ.out; simp; omega) _).trans (HB3.out.mono (by have := HSZ.out; simp; omega))), ((((HL.out.below HB1.out).other (by have := HL.out.1; simp; omega) _).alloc _).below HB3.out)⟩, rfl⟩)
                case measure => simp [intOf]; omega
            · as_aux_lemma =>
                have hl1 : wr.heap.size + 1 < w1.heap.size := by omega
                have c0 : w1.cell? ⟨wr.heap.size + 1, 1, none⟩ = some (.int .i64 (1)) := (HS.out.cars.2 1 (by simp [ints])).1
                have f0 : w1.frozen? ⟨wr.heap.size + 1, 1, none⟩ = false := (HS.out.cars.2 1 (by simp [ints])).2
                have c1 : w1.cell? ⟨wr.heap.size + 1, 2, none⟩ = some (.int .i64 (9)) := (HS.out.cars.2 2 (by simp [ints])).1
                have f1 : w1.frozen? ⟨wr.heap.size + 1, 2, none⟩ = false := (HS.out.cars.2 2 (by simp [ints])).2
                have hd : ∀ (W : World) (q j : Nat) (u : Value), (W.setCell ⟨wr.heap.size + 1, q, none⟩ u).cell? ⟨w1.heap.size, j, none⟩ = W.cell? ⟨w1.heap.size, j, none⟩ := fun W q j u => World.cell?_setCell_other _ _ _ _ (by intro hh; injection hh with h1 _ _; omega)
                go_wp2
                go_region
                all_goals go_wp2_with (go_at_call 6; fail)
                (with_reducible refine (check_bad (i := bnd (1 + m) 2) ?_ ?_ ?_).mono ?_)
                · exact (SmallAt.lies (S := wr.heap.size) ⟨by simp; omega, (((HS.out.cars.set (k := 1) (by simp [ints]) _).set (k := 2) (by simp [ints]) _).alloc _).drew, (((HS.out.stops.other (by simp) _).other (by simp) _).alloc _).drew, (((HS.out.pairs.other (by simp) _).other (by simp) _).alloc _).drew, (((HS.out.r0.other (by simp) _).other (by simp) _).alloc _).drew, (((HS.out.r1.other (by simp) _).other (by simp) _).alloc _).drew, (((HS.out.r2.other (by simp) _).other (by simp) _).alloc _).drew, (((HS.out.travel.other (by simp) _).other (by simp) _).alloc _).drew⟩)
                · exact bnd_short _ _
                · exact HP.out 2 (by omega)
                rintro e w2 ⟨rfl, hb3⟩
                have HB3 := Lib.hid hb3
                clear hb3
                go_wp2
                go_roundw
                case rel => first | exact ⟨r + 1, by omega, by go_num, (((((HB2.out.trans (HB1.out.mono HSZ.out)).setCell (by have := HSZ.out; simp; omega) _).setCell (by have := HSZ.out; simp; omega) _).alloc (by have := HSZ.out; simp; omega) _).drew.trans (HB3.out.mono (by have := HSZ.out; simp; omega))), (((((HL.out.below HB1.out).other (by have := HL.out.1; simp; omega) _).other (by have := HL.out.1; simp; omega) _).alloc _).drew.below HB3.out)⟩ | ((repeat apply Exists.intro); exact ⟨⟨r + 1, by omega, by go_num, (((((HB2.out.trans (HB1.out.mono HSZ.out)).setCell (by have := HSZ.out; simp; omega) _).setCell (by have := HSZ.out; simp; omega) _).alloc (by have := HSZ.out; simp; omega) _).drew.trans (HB3.out.mono (by have := HSZ.out; simp; omega))), (((((HL.out.below HB1.out).other (by have := HL.out.1; simp; omega) _).other (by have := HL.out.1; simp; omega) _).alloc _).drew.below HB3.out)⟩, rfl⟩)
                case measure => simp [intOf]; omega
            · as_aux_lemma =>
                have hl1 : wr.heap.size + 1 < w1.heap.size := by omega
                have c0 : w1.cell? ⟨wr.heap.size + 1, 1, none⟩ = some (.int .i64 (1)) := (HS.out.cars.2 1 (by simp [ints])).1
                have f0 : w1.frozen? ⟨wr.heap.size + 1, 1, none⟩ = false := (HS.out.cars.2 1 (by simp [ints])).2
                have hd : ∀ (W : World) (q j : Nat) (u : Value), (W.setCell ⟨wr.heap.size + 1, q, none⟩ u).cell? ⟨w1.heap.size, j, none⟩ = W.cell? ⟨w1.heap.size, j, none⟩ := fun W q j u => World.cell?_setCell_other _ _ _ _ (by intro hh; injection hh with h1 _ _; omega)
                go_wp2_with (go_at_call 6; fail)
                (with_reducible refine (check_bad (i := bnd (1 + m) 3) ?_ ?_ ?_).mono ?_)
                · exact (SmallAt.lies (S := wr.heap.size) ⟨by simp; omega, ((HS.out.cars.set (k := 1) (by simp [ints]) _).alloc _), ((HS.out.stops.other (by simp) _).alloc _), ((HS.out.pairs.other (by simp) _).alloc _), ((HS.out.r0.other (by simp) _).alloc _), ((HS.out.r1.other (by simp) _).alloc _), ((HS.out.r2.other (by simp) _).alloc _), ((HS.out.travel.other (by simp) _).alloc _)⟩)
                · exact bnd_short _ _
                · exact HP.out 3 (by omega)
                rintro e w2 ⟨rfl, hb3⟩
                have HB3 := Lib.hid hb3
                clear hb3
                go_wp2
                go_roundw
                case rel => first | exact ⟨r + 1, by omega, by go_num, ((((HB2.out.trans (HB1.out.mono HSZ.out)).setCell (by have := HSZ.out; simp; omega) _).alloc (by have := HSZ.out; simp; omega) _).trans (HB3.out.mono (by have := HSZ.out; simp; omega))), ((((HL.out.below HB1.out).other (by have := HL.out.1; simp; omega) _).alloc _).below HB3.out)⟩ | ((repeat apply Exists.intro); exact ⟨⟨r + 1, by omega, by go_num, ((((HB2.out.trans (HB1.out.mono HSZ.out)).setCell (by have := HSZ.out; simp; omega) _).alloc (by have := HSZ.out; simp; omega) _).trans (HB3.out.mono (by have := HSZ.out; simp; omega))), ((((HL.out.below HB1.out).other (by have := HL.out.1; simp; omega) _).alloc _).below HB3.out)⟩, rfl⟩)
                case measure => simp [intOf]; omega
            · as_aux_lemma =>
                have hl1 : wr.heap.size + 1 < w1.heap.size := by omega
                have c0 : w1.cell? ⟨wr.heap.size + 1, 2, none⟩ = some (.int .i64 (9)) := (HS.out.cars.2 2 (by simp [ints])).1
                have f0 : w1.frozen? ⟨wr.heap.size + 1, 2, none⟩ = false := (HS.out.cars.2 2 (by simp [ints])).2
                have hd : ∀ (W : World) (q j : Nat) (u : Value), (W.setCell ⟨wr.heap.size + 1, q, none⟩ u).cell? ⟨w1.heap.size, j, none⟩ = W.cell? ⟨w1.heap.size, j, none⟩ := fun W q j u => World.cell?_setCell_other _ _ _ _ (by intro hh; injection hh with h1 _ _; omega)
                go_wp2_with (go_at_call 6; fail)
                (with_reducible refine (check_bad (i := bnd (1 + m) 4) ?_ ?_ ?_).mono ?_)
                · exact (SmallAt.lies (S := wr.heap.size) ⟨by simp; omega, ((HS.out.cars.set (k := 2) (by simp [ints]) _).alloc _), ((HS.out.stops.other (by simp) _).alloc _), ((HS.out.pairs.other (by simp) _).alloc _), ((HS.out.r0.other (by simp) _).alloc _), ((HS.out.r1.other (by simp) _).alloc _), ((HS.out.r2.other (by simp) _).alloc _), ((HS.out.travel.other (by simp) _).alloc _)⟩)
                · exact bnd_short _ _
                · exact HP.out 4 (by omega)
                rintro e w2 ⟨rfl, hb3⟩
                have HB3 := Lib.hid hb3
                clear hb3
                go_wp2
                go_roundw
                case rel => first | exact ⟨r + 1, by omega, by go_num, ((((HB2.out.trans (HB1.out.mono HSZ.out)).setCell (by have := HSZ.out; simp; omega) _).alloc (by have := HSZ.out; simp; omega) _).trans (HB3.out.mono (by have := HSZ.out; simp; omega))), ((((HL.out.below HB1.out).other (by have := HL.out.1; simp; omega) _).alloc _).below HB3.out)⟩ | ((repeat apply Exists.intro); exact ⟨⟨r + 1, by omega, by go_num, ((((HB2.out.trans (HB1.out.mono HSZ.out)).setCell (by have := HSZ.out; simp; omega) _).alloc (by have := HSZ.out; simp; omega) _).trans (HB3.out.mono (by have := HSZ.out; simp; omega))), ((((HL.out.below HB1.out).other (by have := HL.out.1; simp; omega) _).alloc _).below HB3.out)⟩, rfl⟩)
                case measure => simp [intOf]; omega
            · as_aux_lemma =>
                have hl2 : wr.heap.size + 2 < w1.heap.size := by omega
                have c0 : w1.cell? ⟨wr.heap.size + 2, 0, none⟩ = some (.int .i64 (2)) := (HS.out.stops.2 0 (by simp [ints])).1
                have f0 : w1.frozen? ⟨wr.heap.size + 2, 0, none⟩ = false := (HS.out.stops.2 0 (by simp [ints])).2
                have c1 : w1.cell? ⟨wr.heap.size + 2, 4, none⟩ = some (.int .i64 (-2)) := (HS.out.stops.2 4 (by simp [ints])).1
                have f1 : w1.frozen? ⟨wr.heap.size + 2, 4, none⟩ = false := (HS.out.stops.2 4 (by simp [ints])).2
                have hd : ∀ (W : World) (q j : Nat) (u : Value), (W.setCell ⟨wr.heap.size + 2, q, none⟩ u).cell? ⟨w1.heap.size, j, none⟩ = W.cell? ⟨w1.heap.size, j, none⟩ := fun W q j u => World.cell?_setCell_other _ _ _ _ (by intro hh; injection hh with h1 _ _; omega)
                go_wp2
                go_region
                all_goals go_wp2_with (go_at_call 6; fail)
                (with_reducible refine (check_bad (i := bnd (1 + m) 5) ?_ ?_ ?_).mono ?_)
                · exact (SmallAt.lies (S := wr.heap.size) ⟨by simp; omega, (((HS.out.cars.other (by simp) _).other (by simp) _).alloc _).drew, (((HS.out.stops.set (k := 0) (by simp [ints]) _).set (k := 4) (by simp [ints]) _).alloc _).drew, (((HS.out.pairs.other (by simp) _).other (by simp) _).alloc _).drew, (((HS.out.r0.other (by simp) _).other (by simp) _).alloc _).drew, (((HS.out.r1.other (by simp) _).other (by simp) _).alloc _).drew, (((HS.out.r2.other (by simp) _).other (by simp) _).alloc _).drew, (((HS.out.travel.other (by simp) _).other (by simp) _).alloc _).drew⟩)
                · exact bnd_short _ _
                · exact HP.out 5 (by omega)
                rintro e w2 ⟨rfl, hb3⟩
                have HB3 := Lib.hid hb3
                clear hb3
                go_wp2
                go_roundw
                case rel => first | exact ⟨r + 1, by omega, by go_num, (((((HB2.out.trans (HB1.out.mono HSZ.out)).setCell (by have := HSZ.out; simp; omega) _).setCell (by have := HSZ.out; simp; omega) _).alloc (by have := HSZ.out; simp; omega) _).drew.trans (HB3.out.mono (by have := HSZ.out; simp; omega))), (((((HL.out.below HB1.out).other (by have := HL.out.1; simp; omega) _).other (by have := HL.out.1; simp; omega) _).alloc _).drew.below HB3.out)⟩ | ((repeat apply Exists.intro); exact ⟨⟨r + 1, by omega, by go_num, (((((HB2.out.trans (HB1.out.mono HSZ.out)).setCell (by have := HSZ.out; simp; omega) _).setCell (by have := HSZ.out; simp; omega) _).alloc (by have := HSZ.out; simp; omega) _).drew.trans (HB3.out.mono (by have := HSZ.out; simp; omega))), (((((HL.out.below HB1.out).other (by have := HL.out.1; simp; omega) _).other (by have := HL.out.1; simp; omega) _).alloc _).drew.below HB3.out)⟩, rfl⟩)
                case measure => simp [intOf]; omega
            · as_aux_lemma =>
                have hl2 : wr.heap.size + 2 < w1.heap.size := by omega
                have c0 : w1.cell? ⟨wr.heap.size + 2, 4, none⟩ = some (.int .i64 (-2)) := (HS.out.stops.2 4 (by simp [ints])).1
                have f0 : w1.frozen? ⟨wr.heap.size + 2, 4, none⟩ = false := (HS.out.stops.2 4 (by simp [ints])).2
                have hd : ∀ (W : World) (q j : Nat) (u : Value), (W.setCell ⟨wr.heap.size + 2, q, none⟩ u).cell? ⟨w1.heap.size, j, none⟩ = W.cell? ⟨w1.heap.size, j, none⟩ := fun W q j u => World.cell?_setCell_other _ _ _ _ (by intro hh; injection hh with h1 _ _; omega)
                go_wp2_with (go_at_call 6; fail)
                (with_reducible refine (check_bad (i := bnd (1 + m) 6) ?_ ?_ ?_).mono ?_)
                · exact (SmallAt.lies (S := wr.heap.size) ⟨by simp; omega, ((HS.out.cars.other (by simp) _).alloc _), ((HS.out.stops.set (k := 4) (by simp [ints]) _).alloc _), ((HS.out.pairs.other (by simp) _).alloc _), ((HS.out.r0.other (by simp) _).alloc _), ((HS.out.r1.other (by simp) _).alloc _), ((HS.out.r2.other (by simp) _).alloc _), ((HS.out.travel.other (by simp) _).alloc _)⟩)
                · exact bnd_short _ _
                · exact HP.out 6 (by omega)
                rintro e w2 ⟨rfl, hb3⟩
                have HB3 := Lib.hid hb3
                clear hb3
                go_wp2
                go_roundw
                case rel => first | exact ⟨r + 1, by omega, by go_num, ((((HB2.out.trans (HB1.out.mono HSZ.out)).setCell (by have := HSZ.out; simp; omega) _).alloc (by have := HSZ.out; simp; omega) _).trans (HB3.out.mono (by have := HSZ.out; simp; omega))), ((((HL.out.below HB1.out).other (by have := HL.out.1; simp; omega) _).alloc _).below HB3.out)⟩ | ((repeat apply Exists.intro); exact ⟨⟨r + 1, by omega, by go_num, ((((HB2.out.trans (HB1.out.mono HSZ.out)).setCell (by have := HSZ.out; simp; omega) _).alloc (by have := HSZ.out; simp; omega) _).trans (HB3.out.mono (by have := HSZ.out; simp; omega))), ((((HL.out.below HB1.out).other (by have := HL.out.1; simp; omega) _).alloc _).below HB3.out)⟩, rfl⟩)
                case measure => simp [intOf]; omega
            · as_aux_lemma =>
                have hl2 : wr.heap.size + 2 < w1.heap.size := by omega
                have c0 : w1.cell? ⟨wr.heap.size + 2, 1, none⟩ = some (.int .i64 (0)) := (HS.out.stops.2 1 (by simp [ints])).1
                have f0 : w1.frozen? ⟨wr.heap.size + 2, 1, none⟩ = false := (HS.out.stops.2 1 (by simp [ints])).2
                have hd : ∀ (W : World) (q j : Nat) (u : Value), (W.setCell ⟨wr.heap.size + 2, q, none⟩ u).cell? ⟨w1.heap.size, j, none⟩ = W.cell? ⟨w1.heap.size, j, none⟩ := fun W q j u => World.cell?_setCell_other _ _ _ _ (by intro hh; injection hh with h1 _ _; omega)
                go_wp2_with (go_at_call 6; fail)
                (with_reducible refine (check_bad (i := bnd (1 + m) 7) ?_ ?_ ?_).mono ?_)
                · exact (SmallAt.lies (S := wr.heap.size) ⟨by simp; omega, ((HS.out.cars.other (by simp) _).alloc _), ((HS.out.stops.set (k := 1) (by simp [ints]) _).alloc _), ((HS.out.pairs.other (by simp) _).alloc _), ((HS.out.r0.other (by simp) _).alloc _), ((HS.out.r1.other (by simp) _).alloc _), ((HS.out.r2.other (by simp) _).alloc _), ((HS.out.travel.other (by simp) _).alloc _)⟩)
                · exact bnd_short _ _
                · exact HP.out 7 (by omega)
                rintro e w2 ⟨rfl, hb3⟩
                have HB3 := Lib.hid hb3
                clear hb3
                go_wp2
                go_roundw
                case rel => first | exact ⟨r + 1, by omega, by go_num, ((((HB2.out.trans (HB1.out.mono HSZ.out)).setCell (by have := HSZ.out; simp; omega) _).alloc (by have := HSZ.out; simp; omega) _).trans (HB3.out.mono (by have := HSZ.out; simp; omega))), ((((HL.out.below HB1.out).other (by have := HL.out.1; simp; omega) _).alloc _).below HB3.out)⟩ | ((repeat apply Exists.intro); exact ⟨⟨r + 1, by omega, by go_num, ((((HB2.out.trans (HB1.out.mono HSZ.out)).setCell (by have := HSZ.out; simp; omega) _).alloc (by have := HSZ.out; simp; omega) _).trans (HB3.out.mono (by have := HSZ.out; simp; omega))), ((((HL.out.below HB1.out).other (by have := HL.out.1; simp; omega) _).alloc _).below HB3.out)⟩, rfl⟩)
                case measure => simp [intOf]; omega
            · as_aux_lemma =>
                have hl2 : wr.heap.size + 2 < w1.heap.size := by omega
                have c0 : w1.cell? ⟨wr.heap.size + 2, 1, none⟩ = some (.int .i64 (0)) := (HS.out.stops.2 1 (by simp [ints])).1
                have f0 : w1.frozen? ⟨wr.heap.size + 2, 1, none⟩ = false := (HS.out.stops.2 1 (by simp [ints])).2
                have hd : ∀ (W : World) (q j : Nat) (u : Value), (W.setCell ⟨wr.heap.size + 2, q, none⟩ u).cell? ⟨w1.heap.size, j, none⟩ = W.cell? ⟨w1.heap.size, j, none⟩ := fun W q j u => World.cell?_setCell_other _ _ _ _ (by intro hh; injection hh with h1 _ _; omega)
                go_wp2_with (go_at_call 6; fail)
                (with_reducible refine (check_bad (i := bnd (1 + m) 8) ?_ ?_ ?_).mono ?_)
                · exact (SmallAt.lies (S := wr.heap.size) ⟨by simp; omega, ((HS.out.cars.other (by simp) _).alloc _), ((HS.out.stops.set (k := 1) (by simp [ints]) _).alloc _), ((HS.out.pairs.other (by simp) _).alloc _), ((HS.out.r0.other (by simp) _).alloc _), ((HS.out.r1.other (by simp) _).alloc _), ((HS.out.r2.other (by simp) _).alloc _), ((HS.out.travel.other (by simp) _).alloc _)⟩)
                · exact bnd_short _ _
                · exact HP.out 8 (by omega)
                rintro e w2 ⟨rfl, hb3⟩
                have HB3 := Lib.hid hb3
                clear hb3
                go_wp2
                go_roundw
                case rel => first | exact ⟨r + 1, by omega, by go_num, ((((HB2.out.trans (HB1.out.mono HSZ.out)).setCell (by have := HSZ.out; simp; omega) _).alloc (by have := HSZ.out; simp; omega) _).trans (HB3.out.mono (by have := HSZ.out; simp; omega))), ((((HL.out.below HB1.out).other (by have := HL.out.1; simp; omega) _).alloc _).below HB3.out)⟩ | ((repeat apply Exists.intro); exact ⟨⟨r + 1, by omega, by go_num, ((((HB2.out.trans (HB1.out.mono HSZ.out)).setCell (by have := HSZ.out; simp; omega) _).alloc (by have := HSZ.out; simp; omega) _).trans (HB3.out.mono (by have := HSZ.out; simp; omega))), ((((HL.out.below HB1.out).other (by have := HL.out.1; simp; omega) _).alloc _).below HB3.out)⟩, rfl⟩)
                case measure => simp [intOf]; omega
            · as_aux_lemma =>
                have hl2 : wr.heap.size + 2 < w1.heap.size := by omega
                have c0 : w1.cell? ⟨wr.heap.size + 2, 2, none⟩ = some (.int .i64 (8)) := (HS.out.stops.2 2 (by simp [ints])).1
                have f0 : w1.frozen? ⟨wr.heap.size + 2, 2, none⟩ = false := (HS.out.stops.2 2 (by simp [ints])).2
                have hd : ∀ (W : World) (q j : Nat) (u : Value), (W.setCell ⟨wr.heap.size + 2, q, none⟩ u).cell? ⟨w1.heap.size, j, none⟩ = W.cell? ⟨w1.heap.size, j, none⟩ := fun W q j u => World.cell?_setCell_other _ _ _ _ (by intro hh; injection hh with h1 _ _; omega)
                go_wp2_with (go_at_call 6; fail)
                (with_reducible refine (check_bad (i := bnd (1 + m) 9) ?_ ?_ ?_).mono ?_)
                · exact (SmallAt.lies (S := wr.heap.size) ⟨by simp; omega, ((HS.out.cars.other (by simp) _).alloc _), ((HS.out.stops.set (k := 2) (by simp [ints]) _).alloc _), ((HS.out.pairs.other (by simp) _).alloc _), ((HS.out.r0.other (by simp) _).alloc _), ((HS.out.r1.other (by simp) _).alloc _), ((HS.out.r2.other (by simp) _).alloc _), ((HS.out.travel.other (by simp) _).alloc _)⟩)
                · exact bnd_short _ _
                · exact HP.out 9 (by omega)
                rintro e w2 ⟨rfl, hb3⟩
                have HB3 := Lib.hid hb3
                clear hb3
                go_wp2
                go_roundw
                case rel => first | exact ⟨r + 1, by omega, by go_num, ((((HB2.out.trans (HB1.out.mono HSZ.out)).setCell (by have := HSZ.out; simp; omega) _).alloc (by have := HSZ.out; simp; omega) _).trans (HB3.out.mono (by have := HSZ.out; simp; omega))), ((((HL.out.below HB1.out).other (by have := HL.out.1; simp; omega) _).alloc _).below HB3.out)⟩ | ((repeat apply Exists.intro); exact ⟨⟨r + 1, by omega, by go_num, ((((HB2.out.trans (HB1.out.mono HSZ.out)).setCell (by have := HSZ.out; simp; omega) _).alloc (by have := HSZ.out; simp; omega) _).trans (HB3.out.mono (by have := HSZ.out; simp; omega))), ((((HL.out.below HB1.out).other (by have := HL.out.1; simp; omega) _).alloc _).below HB3.out)⟩, rfl⟩)
                case measure => simp [intOf]; omega
            · as_aux_lemma =>
                have hl2 : wr.heap.size + 2 < w1.heap.size := by omega
                have c0 : w1.cell? ⟨wr.heap.size + 2, 3, none⟩ = some (.int .i64 (1)) := (HS.out.stops.2 3 (by simp [ints])).1
                have f0 : w1.frozen? ⟨wr.heap.size + 2, 3, none⟩ = false := (HS.out.stops.2 3 (by simp [ints])).2
                have hd : ∀ (W : World) (q j : Nat) (u : Value), (W.setCell ⟨wr.heap.size + 2, q, none⟩ u).cell? ⟨w1.heap.size, j, none⟩ = W.cell? ⟨w1.heap.size, j, none⟩ := fun W q j u => World.cell?_setCell_other _ _ _ _ (by intro hh; injection hh with h1 _ _; omega)
                go_wp2_with (go_at_call 6; fail)
                (with_reducible refine (check_bad (i := bnd (1 + m) 10) ?_ ?_ ?_).mono ?_)
                · exact (SmallAt.lies (S := wr.heap.size) ⟨by simp; omega, ((HS.out.cars.other (by simp) _).alloc _), ((HS.out.stops.set (k := 3) (by simp [ints]) _).alloc _), ((HS.out.pairs.other (by simp) _).alloc _), ((HS.out.r0.other (by simp) _).alloc _), ((HS.out.r1.other (by simp) _).alloc _), ((HS.out.r2.other (by simp) _).alloc _), ((HS.out.travel.other (by simp) _).alloc _)⟩)
                · exact bnd_short _ _
                · exact HP.out 10 (by omega)
                rintro e w2 ⟨rfl, hb3⟩
                have HB3 := Lib.hid hb3
                clear hb3
                go_wp2
                go_roundw
                case rel => first | exact ⟨r + 1, by omega, by go_num, ((((HB2.out.trans (HB1.out.mono HSZ.out)).setCell (by have := HSZ.out; simp; omega) _).alloc (by have := HSZ.out; simp; omega) _).trans (HB3.out.mono (by have := HSZ.out; simp; omega))), ((((HL.out.below HB1.out).other (by have := HL.out.1; simp; omega) _).alloc _).below HB3.out)⟩ | ((repeat apply Exists.intro); exact ⟨⟨r + 1, by omega, by go_num, ((((HB2.out.trans (HB1.out.mono HSZ.out)).setCell (by have := HSZ.out; simp; omega) _).alloc (by have := HSZ.out; simp; omega) _).trans (HB3.out.mono (by have := HSZ.out; simp; omega))), ((((HL.out.below HB1.out).other (by have := HL.out.1; simp; omega) _).alloc _).below HB3.out)⟩, rfl⟩)
                case measure => simp [intOf]; omega
            · as_aux_lemma =>
                have hl2 : wr.heap.size + 2 < w1.heap.size := by omega
                have c0 : w1.cell? ⟨wr.heap.size + 2, 3, none⟩ = some (.int .i64 (1)) := (HS.out.stops.2 3 (by simp [ints])).1
                have f0 : w1.frozen? ⟨wr.heap.size + 2, 3, none⟩ = false := (HS.out.stops.2 3 (by simp [ints])).2
                have hd : ∀ (W : World) (q j : Nat) (u : Value), (W.setCell ⟨wr.heap.size + 2, q, none⟩ u).cell? ⟨w1.heap.size, j, none⟩ = W.cell? ⟨w1.heap.size, j, none⟩ := fun W q j u => World.cell?_setCell_other _ _ _ _ (by intro hh; injection hh with h1 _ _; omega)
                go_wp2_with (go_at_call 6; fail)
                (with_reducible refine (check_bad (i := bnd (1 + m) 11) ?_ ?_ ?_).mono ?_)
                · exact (SmallAt.lies (S := wr.heap.size) ⟨by simp; omega, ((HS.out.cars.other (by simp) _).alloc _), ((HS.out.stops.set (k := 3) (by simp [ints]) _).alloc _), ((HS.out.pairs.other (by simp) _).alloc _), ((HS.out.r0.other (by simp) _).alloc _), ((HS.out.r1.other (by simp) _).alloc _), ((HS.out.r2.other (by simp) _).alloc _), ((HS.out.travel.other (by simp) _).alloc _)⟩)
                · exact bnd_short _ _
                · exact HP.out 11 (by omega)
                rintro e w2 ⟨rfl, hb3⟩
                have HB3 := Lib.hid hb3
                clear hb3
                go_wp2
                go_roundw
                case rel => first | exact ⟨r + 1, by omega, by go_num, ((((HB2.out.trans (HB1.out.mono HSZ.out)).setCell (by have := HSZ.out; simp; omega) _).alloc (by have := HSZ.out; simp; omega) _).trans (HB3.out.mono (by have := HSZ.out; simp; omega))), ((((HL.out.below HB1.out).other (by have := HL.out.1; simp; omega) _).alloc _).below HB3.out)⟩ | ((repeat apply Exists.intro); exact ⟨⟨r + 1, by omega, by go_num, ((((HB2.out.trans (HB1.out.mono HSZ.out)).setCell (by have := HSZ.out; simp; omega) _).alloc (by have := HSZ.out; simp; omega) _).trans (HB3.out.mono (by have := HSZ.out; simp; omega))), ((((HL.out.below HB1.out).other (by have := HL.out.1; simp; omega) _).alloc _).below HB3.out)⟩, rfl⟩)
                case measure => simp [intOf]; omega
            · as_aux_lemma =>
                have hl5 : wr.heap.size + 5 < w1.heap.size := by omega
                have hl7 : wr.heap.size + 7 < w1.heap.size := by omega
                have c0 : w1.cell? ⟨wr.heap.size + 5, 2, none⟩ = some (.int .i64 (4)) := (HS.out.r1.2 2 (by simp [ints])).1
                have f0 : w1.frozen? ⟨wr.heap.size + 5, 2, none⟩ = false := (HS.out.r1.2 2 (by simp [ints])).2
                have hd : ∀ (W : World) (q j : Nat) (u : Value), (W.setCell ⟨wr.heap.size + 5, q, none⟩ u).cell? ⟨w1.heap.size, j, none⟩ = W.cell? ⟨w1.heap.size, j, none⟩ := fun W q j u => World.cell?_setCell_other _ _ _ _ (by intro hh; injection hh with h1 _ _; omega)
                have c9 : w1.cell? ⟨wr.heap.size + 7, 1, none⟩ = some (.slice (some ⟨wr.heap.size + 5, 0, none⟩) 3 3) := (HS.out.travel.2 1 (by simp)).1
                go_wp2_with (go_at_call 6; fail)
                (with_reducible refine (check_bad (i := bnd (1 + m) 12) ?_ ?_ ?_).mono ?_)
                · exact (SmallAt.lies (S := wr.heap.size) ⟨by simp; omega, ((HS.out.cars.other (by simp) _).alloc _), ((HS.out.stops.other (by simp) _).alloc _), ((HS.out.pairs.other (by simp) _).alloc _), ((HS.out.r0.other (by simp) _).alloc _), ((HS.out.r1.set (k := 2) (by simp [ints]) _).alloc _), ((HS.out.r2.other (by simp) _).alloc _), ((HS.out.travel.other (by simp) _).alloc _)⟩)
                · exact bnd_short _ _
                · exact HP.out 12 (by omega)
                rintro e w2 ⟨rfl, hb3⟩
                have HB3 := Lib.hid hb3
                clear hb3
                go_wp2
                go_roundw
                case rel => first | exact ⟨r + 1, by omega, by go_num, ((((HB2.out.trans (HB1.out.mono HSZ.out)).setCell (by have := HSZ.out; simp; omega) _).alloc (by have := HSZ.out; simp; omega) _).trans (HB3.out.mono (by have := HSZ.out; simp; omega))), ((((HL.out.below HB1.out).other (by have := HL.out.1; simp; omega) _).alloc _).below HB3.out)⟩ | ((repeat apply Exists.intro); exact ⟨⟨r + 1, by omega, by go_num, ((((HB2.out.trans (HB1.out.mono HSZ.out)).setCell (by have := HSZ.out; simp; omega) _).alloc (by have := HSZ.out; simp; omega) _).trans (HB3.out.mono (by have := HSZ.out; simp; omega))), ((((HL.out.below HB1.out).other (by have := HL.out.1; simp; omega) _).alloc _).below HB3.out)⟩, rfl⟩)
                case measure => simp [intOf]; omega
            · as_aux_lemma =>
                have hl5 : wr.heap.size + 5 < w1.heap.size := by omega
                have hl7 : wr.heap.size + 7 < w1.heap.size := by omega
                have c0 : w1.cell? ⟨wr.heap.size + 5, 2, none⟩ = some (.int .i64 (4)) := (HS.out.r1.2 2 (by simp [ints])).1
                have f0 : w1.frozen? ⟨wr.heap.size + 5, 2, none⟩ = false := (HS.out.r1.2 2 (by simp [ints])).2
                have hd : ∀ (W : World) (q j : Nat) (u : Value), (W.setCell ⟨wr.heap.size + 5, q, none⟩ u).cell? ⟨w1.heap.size, j, none⟩ = W.cell? ⟨w1.heap.size, j, none⟩ := fun W q j u => World.cell?_setCell_other _ _ _ _ (by intro hh; injection hh with h1 _ _; omega)
                have c9 : w1.cell? ⟨wr.heap.size + 7, 1, none⟩ = some (.slice (some ⟨wr.heap.size + 5, 0, none⟩) 3 3) := (HS.out.travel.2 1 (by simp)).1
                go_wp2_with (go_at_call 6; fail)
                (with_reducible refine (check_bad (i := bnd (1 + m) 13) ?_ ?_ ?_).mono ?_)
                · exact (SmallAt.lies (S := wr.heap.size) ⟨by simp; omega, ((HS.out.cars.other (by simp) _).alloc _), ((HS.out.stops.other (by simp) _).alloc _), ((HS.out.pairs.other (by simp) _).alloc _), ((HS.out.r0.other (by simp) _).alloc _), ((HS.out.r1.set (k := 2) (by simp [ints]) _).alloc _), ((HS.out.r2.other (by simp) _).alloc _), ((HS.out.travel.other (by simp) _).alloc _)⟩)
                · exact bnd_short _ _
                · exact HP.out 13 (by omega)
                rintro e w2 ⟨rfl, hb3⟩
                have HB3 := Lib.hid hb3
                clear hb3
                go_wp2
                go_roundw
                case rel => first | exact ⟨r + 1, by omega, by go_num, ((((HB2.out.trans (HB1.out.mono HSZ.out)).setCell (by have := HSZ.out; simp; omega) _).alloc (by have := HSZ.out; simp; omega) _).trans (HB3.out.mono (by have := HSZ.out; simp; omega))), ((((HL.out.below HB1.out).other (by have := HL.out.1; simp; omega) _).alloc _).below HB3.out)⟩ | ((repeat apply Exists.intro); exact ⟨⟨r + 1, by omega, by go_num, ((((HB2.out.trans (HB1.out.mono HSZ.out)).setCell (by have := HSZ.out; simp; omega) _).alloc (by have := HSZ.out; simp; omega) _).trans (HB3.out.mono (by have := HSZ.out; simp; omega))), ((((HL.out.below HB1.out).other (by have := HL.out.1; simp; omega) _).alloc _).below HB3.out)⟩, rfl⟩)
                case measure => simp [intOf]; omega
            · as_aux_lemma =>
                have hl6 : wr.heap.size + 6 < w1.heap.size := by omega
                have hl7 : wr.heap.size + 7 < w1.heap.size := by omega
                have c0 : w1.cell? ⟨wr.heap.size + 6, 2, none⟩ = some (.int .i64 (0)) := (HS.out.r2.2 2 (by simp [ints])).1
                have f0 : w1.frozen? ⟨wr.heap.size + 6, 2, none⟩ = false := (HS.out.r2.2 2 (by simp [ints])).2
                have hd : ∀ (W : World) (q j : Nat) (u : Value), (W.setCell ⟨wr.heap.size + 6, q, none⟩ u).cell? ⟨w1.heap.size, j, none⟩ = W.cell? ⟨w1.heap.size, j, none⟩ := fun W q j u => World.cell?_setCell_other _ _ _ _ (by intro hh; injection hh with h1 _ _; omega)
                have c9 : w1.cell? ⟨wr.heap.size + 7, 2, none⟩ = some (.slice (some ⟨wr.heap.size + 6, 0, none⟩) 3 3) := (HS.out.travel.2 2 (by simp)).1
                go_wp2_with (go_at_call 6; fail)
                (with_reducible refine (check_bad (i := bnd (1 + m) 14) ?_ ?_ ?_).mono ?_)
                · exact (SmallAt.lies (S := wr.heap.size) ⟨by simp; omega, ((HS.out.cars.other (by simp) _).alloc _), ((HS.out.stops.other (by simp) _).alloc _), ((HS.out.pairs.other (by simp) _).alloc _), ((HS.out.r0.other (by simp) _).alloc _), ((HS.out.r1.other (by simp) _).alloc _), ((HS.out.r2.set (k := 2) (by simp [ints]) _).alloc _), ((HS.out.travel.other (by simp) _).alloc _)⟩)
                · exact bnd_short _ _
                · exact HP.out 14 (by omega)
                rintro e w2 ⟨rfl, hb3⟩
                have HB3 := Lib.hid hb3
                clear hb3
                go_wp2
                go_roundw
                case rel => first | exact ⟨r + 1, by omega, by go_num, ((((HB2.out.trans (HB1.out.mono HSZ.out)).setCell (by have := HSZ.out; simp; omega) _).alloc (by have := HSZ.out; simp; omega) _).trans (HB3.out.mono (by have := HSZ.out; simp; omega))), ((((HL.out.below HB1.out).other (by have := HL.out.1; simp; omega) _).alloc _).below HB3.out)⟩ | ((repeat apply Exists.intro); exact ⟨⟨r + 1, by omega, by go_num, ((((HB2.out.trans (HB1.out.mono HSZ.out)).setCell (by have := HSZ.out; simp; omega) _).alloc (by have := HSZ.out; simp; omega) _).trans (HB3.out.mono (by have := HSZ.out; simp; omega))), ((((HL.out.below HB1.out).other (by have := HL.out.1; simp; omega) _).alloc _).below HB3.out)⟩, rfl⟩)
                case measure => simp [intOf]; omega
            · as_aux_lemma =>
                have hl3 : wr.heap.size + 3 < w1.heap.size := by omega
                have c0 : w1.cell? ⟨wr.heap.size + 3, 0, none⟩ = some (.int .i64 (1)) := (HS.out.pairs.2 0 (by simp [ints])).1
                have f0 : w1.frozen? ⟨wr.heap.size + 3, 0, none⟩ = false := (HS.out.pairs.2 0 (by simp [ints])).2
                have c1 : w1.cell? ⟨wr.heap.size + 3, 1, none⟩ = some (.int .i64 (2)) := (HS.out.pairs.2 1 (by simp [ints])).1
                have f1 : w1.frozen? ⟨wr.heap.size + 3, 1, none⟩ = false := (HS.out.pairs.2 1 (by simp [ints])).2
                have hd : ∀ (W : World) (q j : Nat) (u : Value), (W.setCell ⟨wr.heap.size + 3, q, none⟩ u).cell? ⟨w1.heap.size, j, none⟩ = W.cell? ⟨w1.heap.size, j, none⟩ := fun W q j u => World.cell?_setCell_other _ _ _ _ (by intro hh; injection hh with h1 _ _; omega)
                go_wp2_with (go_at_call 6; fail)
                (with_reducible refine (check_bad (i := bnd (1 + m) 15) ?_ ?_ ?_).mono ?_)
                · exact (SmallAt.lies (S := wr.heap.size) ⟨by simp; omega, (((HS.out.cars.other (by simp) _).other (by simp) _).alloc _), (((HS.out.stops.other (by simp) _).other (by simp) _).alloc _), (((HS.out.pairs.set (k := 0) (by simp [ints]) _).set (k := 1) (by simp [ints]) _).alloc _), (((HS.out.r0.other (by simp) _).other (by simp) _).alloc _), (((HS.out.r1.other (by simp) _).other (by simp) _).alloc _), (((HS.out.r2.other (by simp) _).other (by simp) _).alloc _), (((HS.out.travel.other (by simp) _).other (by simp) _).alloc _)⟩)
                · exact bnd_short _ _
                · exact HP.out 15 (by omega)
                rintro e w2 ⟨rfl, hb3⟩
                have HB3 := Lib.hid hb3
                clear hb3
                go_wp2
                go_roundw
                case rel => first | exact ⟨r + 1, by omega, by go_num, (((((HB2.out.trans (HB1.out.mono HSZ.out)).setCell (by have := HSZ.out; simp; omega) _).setCell (by have := HSZ.out; simp; omega) _).alloc (by have := HSZ.out; simp; omega) _).trans (HB3.out.mono (by have := HSZ.out; simp; omega))), (((((HL.out.below HB1.out).other (by have := HL.out.1; simp; omega) _).other (by have := HL.out.1; simp; omega) _).alloc _).below HB3.out)⟩ | ((repeat apply Exists.intro); exact ⟨⟨r + 1, by omega, by go_num, (((((HB2.out.trans (HB1.out.mono HSZ.out)).setCell (by have := HSZ.out; simp; omega) _).setCell (by have := HSZ.out; simp; omega) _).alloc (by have := HSZ.out; simp; omega) _).trans (HB3.out.mono (by have := HSZ.out; simp; omega))), (((((HL.out.below HB1.out).other (by have := HL.out.1; simp; omega) _).other (by have := HL.out.1; simp; omega) _).alloc _).below HB3.out)⟩, rfl⟩)
                case measure => simp [intOf]; omega
        · have HB2 := Lib.hid hb2
          clear hb2 hbl
          obtain rfl : r = 2 := by omega
          go_wp2
          go_roundw
          case rel => first | exact ⟨k + 1, by omega, by go_num, HB2.out⟩ | ((repeat apply Exists.intro); exact ⟨⟨k + 1, by omega, by go_num, HB2.out⟩, rfl⟩)
          case measure => simp [intOf]; omega
    · as_aux_lemma =>
        have HB := Lib.hid hb
        have HSZ := Lib.hid hb.size
        clear hb
        obtain rfl : k = 16 := by omega
        go_wp2_with (go_at_call 5; fail)
        (with_reducible refine (small_lit _).mono ?_)
        rintro e w1 ⟨rfl, hs1, hb1⟩
        have HS1 := Lib.hid hs1
        have HB1 := Lib.hid (HB.out.trans (hb1.mono HSZ.out))
        have hz1 := hs1.size
        clear hb1 hs1
        go_wp2_with (go_at_call 5; fail)
        (with_reducible refine (small_lit _).mono ?_)
        rintro e w2 ⟨rfl, hs2, hb2⟩
        have HS2 : Hid (SmallAt (w1.heap.size + 1 + 1) w2 [5, 1, 9] [2, 0, 8, 1, -2, 3, 4, 0] [1, 2] [0, 1, 2] [3, 0, 4] [5, 6, 0]) := by show SmallAt _ _ _ _ _ _ _ _; simpa using hs2
        have HW2 : Hid (Below w1.heap.size w1 w2) := (Below.alloc (Below.alloc (Below.refl _ _) (Nat.le_refl _) _) (by simp) _).trans (hb2.mono (by simp; omega))
        have BI := Lib.hid (((blk_at _ _ rfl).alloc _).below hb2)
        have LI := Lib.hid ((HS1.out.below HW2.out).lies_with (((blk_at (B := w1.heap.size + 1) #[.int .i64 2, .int .i64 1] _ (by simp)).below hb2).pair 1))
        have HB2 := Lib.hid (HB1.out.trans (HW2.out.mono HB1.out.size))
        have hz2 : w1.heap.size + 1 + 1 + 8 ≤ w2.heap.size := by simpa using hs2.size
        have c0 : w2.cell? ⟨w1.heap.size + 1 + 1 + 3, 0, none⟩ = some (.int .i64 1) := (HS2.out.pairs.2 0 (by simp [ints])).1
        have c1 : w2.cell? ⟨w1.heap.size + 1 + 1 + 3, 1, none⟩ = some (.int .i64 2) := (HS2.out.pairs.2 1 (by simp [ints])).1
        have hl3 : w1.heap.size + 1 + 1 + 3 < w2.heap.size := by omega
        clear hb2 hs2 HS1
        go_wp2_with (go_at_call 5; fail)
        (with_reducible refine (small_lit _).mono ?_)
        rintro e w3 ⟨rfl, hs3, hb3⟩
        generalize (Question.appendCap 2 1 36).cut (w2.tape w2.drawn (Question.appendCap 2 1 36)) = cp at *
        have HS3 : Hid (SmallAt (w2.heap.size + 1 + 1 + 1) w3 [5, 1, 9] [2, 0, 8, 1, -2, 3, 4, 0] [1, 2] [0, 1, 2] [3, 0, 4] [5, 6, 0]) := by show SmallAt _ _ _ _ _ _ _ _; simpa using hs3
        have HW3 : Hid (Below w2.heap.size w2 w3) := (Below.alloc (Below.alloc (Below.alloc (Below.refl _ _) (Nat.le_refl _) _) (by simp) _) (by simp; omega) _).drew.trans (hb3.mono (by simp; omega))
        have BJ := Lib.hid ((((blk_at _ _ rfl).alloc _).alloc _).drew.below hb3)
        have PJ := Lib.hid ((blk_at (B := w2.heap.size + 1 + 1) (#[.int .i64 1, .int .i64 2] ++ (#[.int .i64 1, .int .i64 2] ++ Builtin.zeroCells #[.int .i64 0, .int .i64 0] (cp - 2))) _ (by simp)).drew.below hb3)
        have RJ : Hid (Recs w3 2 Pair.at_ (.slice (some ⟨w2.heap.size + 1 + 1, 0, none⟩) 2 cp) [⟨1, 2⟩, ⟨1, 2⟩]) := PJ.out.recs 2 Pair.at_ [⟨1, 2⟩, ⟨1, 2⟩] cp (by
          intro k hk j hj
          match k, hk, j, hj with
          | 0, _, 0, _ | 0, _, 1, _ | 1, _, 0, _ | 1, _, 1, _ => simp [Pair.at_])
        have LJ := Lib.hid ((HS2.out.below HW3.out).lies_with RJ.out)
        have LI3 := Lib.hid (LI.out.below HW3.out)
        have BI3 := Lib.hid (BI.out.below HW3.out)
        have HB3 := Lib.hid (HB2.out.trans (HW3.out.mono HB2.out.size))
        have hz3 : w2.heap.size + 1 + 1 + 1 + 8 ≤ w3.heap.size := HS3.out.size
        have hl1 : w1.heap.size < w3.heap.size := by omega
        have hl2 : w2.heap.size < w3.heap.size := by omega
        clear hb3 hs3 c0 c1 hl3 LI BI HS2 PJ RJ
        have ci0 : w3.cell? ⟨w1.heap.size, 0, none⟩ = some (.slice (some ⟨wr.heap.size + 1, 0, none⟩) 1 1) := (BI3.out.2 0 (by simp)).1
        have ci1 : w3.cell? ⟨w1.heap.size, 1, none⟩ = some (.slice (some ⟨wr.heap.size + 2, 0, none⟩) 2 2) := (BI3.out.2 1 (by simp)).1
        have ci2 : w3.cell? ⟨w1.heap.size, 2, none⟩ = some (.slice (some ⟨w1.heap.size + 1, 0, none⟩) 1 1) := (BI3.out.2 2 (by simp)).1
        have ci3 : w3.cell? ⟨w1.heap.size, 3, none⟩ = some (.slice (some ⟨wr.heap.size + 7, 0, none⟩) 3 3) := (BI3.out.2 3 (by simp)).1
        go_wp2_with (go_at_call 6; fail)
        (with_reducible refine (check_bad (i := ⟨[⟨5, 1, 9⟩], [⟨2, 0, 8, 1⟩, ⟨-2, 3, 4, 0⟩], [⟨2, 1⟩], [[0, 1, 2], [3, 0, 4], [5, 6, 0]]⟩) ?_ ?_ ?_).mono ?_)
        · exact LI3.out.below (Below.alloc (Below.alloc (Below.refl _ _) (Nat.le_refl _) _) (by simp) _)
        · exact ⟨by simp, by simp, by simp⟩
        · decide
        rintro e w4 ⟨rfl, hb4⟩
        have HW4 : Hid (Below w3.heap.size w3 w4) := (Below.alloc (Below.alloc (Below.refl _ _) (Nat.le_refl _) _) (by simp) _).trans (hb4.mono (by simp; omega))
        have BJ4 := Lib.hid (BJ.out.below HW4.out)
        have BK4 := Lib.hid (((blk_at _ _ rfl).alloc _).below hb4)
        have LJ4 := Lib.hid (LJ.out.below HW4.out)
        have LK4 := Lib.hid ((HS3.out.below HW4.out).lies_with (((blk_at (B := w3.heap.size + 1) #[.int .i64 1, .int .i64 1] _ (by simp)).below hb4).pair 1))
        have HB4 := Lib.hid (HB3.out.trans (HW4.out.mono HB3.out.size))
        clear hb4 ci0 ci1 ci2 ci3 BJ LJ HS3 LI3 BI3
        have cj0 : w4.cell? ⟨w2.heap.size, 0, none⟩ = some (.slice (some ⟨w1.heap.size + 1 + 1 + 1, 0, none⟩) 1 1) := (BJ4.out.2 0 (by simp)).1
        have cj1 : w4.cell? ⟨w2.heap.size, 1, none⟩ = some (.slice (some ⟨w1.heap.size + 1 + 1 + 2, 0, none⟩) 2 2) := (BJ4.out.2 1 (by simp)).1
        have cj2 : w4.cell? ⟨w2.heap.size, 2, none⟩ = some (.slice (some ⟨w2.heap.size + 1 + 1, 0, none⟩) 2 cp) := (BJ4.out.2 2 (by simp)).1
        have cj3 : w4.cell? ⟨w2.heap.size, 3, none⟩ = some (.slice (some ⟨w1.heap.size + 1 + 1 + 7, 0, none⟩) 3 3) := (BJ4.out.2 3 (by simp)).1
        go_wp2_with (go_at_call 6; fail)
        (with_reducible refine (check_bad (i := ⟨[⟨5, 1, 9⟩], [⟨2, 0, 8, 1⟩, ⟨-2, 3, 4, 0⟩], [⟨1, 2⟩, ⟨1, 2⟩], [[0, 1, 2], [3, 0, 4], [5, 6, 0]]⟩) ?_ ?_ ?_).mono ?_)
        · exact LJ4.out
        · exact ⟨by simp, by simp, by simp⟩
        · decide
        rintro e w5 ⟨rfl, hb5⟩
        have BK5 := Lib.hid (BK4.out.below hb5)
        have LK5 := Lib.hid (LK4.out.below hb5)
        have HB5 := Lib.hid (HB4.out.trans (hb5.mono HB4.out.size))
        clear hb5 cj0 cj1 cj2 cj3 BJ4 LJ4 BK4 LK4
        have ck0 : w5.cell? ⟨w3.heap.size, 0, none⟩ = some (.slice (some ⟨w2.heap.size + 1 + 1 + 1 + 1, 0, none⟩) 1 1) := (BK5.out.2 0 (by simp)).1
        have ck1 : w5.cell? ⟨w3.heap.size, 1, none⟩ = some (.slice (some ⟨w2.heap.size + 1 + 1 + 1 + 2, 0, none⟩) 2 2) := (BK5.out.2 1 (by simp)).1
        have ck2 : w5.cell? ⟨w3.heap.size, 2, none⟩ = some (.slice (some ⟨w3.heap.size + 1, 0, none⟩) 1 1) := (BK5.out.2 2 (by simp)).1
        have ck3 : w5.cell? ⟨w3.heap.size, 3, none⟩ = some (.slice (some ⟨w2.heap.size + 1 + 1 + 1 + 7, 0, none⟩) 3 3) := (BK5.out.2 3 (by simp)).1
        go_wp2_with (go_at_call 6; fail)
        (with_reducible refine (check_bad (i := ⟨[⟨5, 1, 9⟩], [⟨2, 0, 8, 1⟩, ⟨-2, 3, 4, 0⟩], [⟨1, 1⟩], [[0, 1, 2], [3, 0, 4], [5, 6, 0]]⟩) ?_ ?_ ?_).mono ?_)
        · exact LK5.out
        · exact ⟨by simp, by simp, by simp⟩
        · decide
        rintro e w6 ⟨rfl, hb6⟩
        have HB6 := Lib.hid (HB5.out.trans (hb6.mono HB5.out.size))
        clear hb6 ck0 ck1 ck2 ck3 BK5 LK5
        go_wp2_with (go_at_call 7; fail)
        (with_reducible refine (wakes_any _).mono ?_)
        rintro e w7 ⟨rfl, hb7⟩
        have HB7 := Lib.hid (HB6.out.trans (hb7.mono HB6.out.size))
        clear hb7
        go_wp2
        go_ret
        exact ⟨rfl, HB7.out⟩
end Go.Proofs.Yteibelmgebhleaa
