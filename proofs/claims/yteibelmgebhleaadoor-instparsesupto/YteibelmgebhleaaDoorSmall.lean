/- The small problem by hand: how it lies in memory. And the examples of the document. -/
import Derived.Test.YteibelmgebhleaaDoorBlk
import Derived.Test.YteibelmgebhleaaDoorInstChk
namespace Go.Proofs.YteibelmgebhleaaDoor
open Go.RowKit
def slc (B n : Nat) : Value := .slice (some ⟨B, 0, none⟩) n n
structure SmallAt (S : Nat) (W : World) (cars stops pairs r0 r1 r2 : List Int) : Prop where
  size : S + 8 ≤ W.heap.size
  cars : Blk W (S + 1) (ints cars)
  stops : Blk W (S + 2) (ints stops)
  pairs : Blk W (S + 3) (ints pairs)
  r0 : Blk W (S + 4) (ints r0)
  r1 : Blk W (S + 5) (ints r1)
  r2 : Blk W (S + 6) (ints r2)
  travel : Blk W (S + 7) [slc (S + 4) 3, slc (S + 5) 3, slc (S + 6) 3]
def smallV (S : Nat) : Value := .agg #[slc (S + 1) 1, slc (S + 2) 2, slc (S + 3) 1, slc (S + 7) 3]
set_option maxHeartbeats 1000000 in
theorem small_any (w : World) :
    Calls Tryd.prog 8 #[] w fun e w' => e = .returned (smallV w.heap.size) ∧ SmallAt w.heap.size w' [5, 1, 9] [2, 0, 8, 1, -2, 3, 4, 0] [1, 2] [0, 1, 2] [3, 0, 4] [5, 6, 0] ∧ Below w.heap.size w w' := by
  go_enter Tryd.func8, Tryd.ntmps8
  go_wp2
  refine bodyPost_ret (v := smallV w.heap.size) (by simp [results, Tryd.results8, go_sem, smallV, slc]) rfl ⟨rfl, ⟨by simp, ?_, ?_, ?_, ?_, ?_, ?_, ?_⟩, ?_⟩
  · exact ((((((blk_at _ _ (by simp)).alloc _).alloc _).alloc _).alloc _).alloc _).alloc _
  · exact (((((blk_at _ _ (by simp)).alloc _).alloc _).alloc _).alloc _).alloc _
  · exact ((((blk_at _ _ (by simp)).alloc _).alloc _).alloc _).alloc _
  · exact (((blk_at _ _ (by simp)).alloc _).alloc _).alloc _
  · exact ((blk_at _ _ (by simp)).alloc _).alloc _
  · exact (blk_at _ _ (by simp)).alloc _
  · exact blk_at _ _ (by simp)
  · refine Below.alloc (Below.alloc (Below.alloc (Below.alloc (Below.alloc (Below.alloc (Below.alloc (Below.alloc (Below.refl _ _) ?_ _) ?_ _) ?_ _) ?_ _) ?_ _) ?_ _) ?_ _) ?_ _
    all_goals (simp; try omega)
theorem small_lit (w : World) :
    Calls Tryd.prog 8 #[] w fun e w' => e = .returned (.agg #[.slice (some ⟨w.heap.size + 1, 0, none⟩) 1 1, .slice (some ⟨w.heap.size + 2, 0, none⟩) 2 2, .slice (some ⟨w.heap.size + 3, 0, none⟩) 1 1, .slice (some ⟨w.heap.size + 7, 0, none⟩) 3 3]) ∧ SmallAt w.heap.size w' [5, 1, 9] [2, 0, 8, 1, -2, 3, 4, 0] [1, 2] [0, 1, 2] [3, 0, 4] [5, 6, 0] ∧ Below w.heap.size w w' := small_any w
/-- the problem in memory -/
theorem SmallAt.lies {S : Nat} {W : World} {a b c d e f g h i j k l m a0 a1 a2 b0 b1 b2 c0 c1 c2 : Int} (H : SmallAt S W [a, b, c] [d, e, f, g, h, i, j, k] [l, m] [a0, a1, a2] [b0, b1, b2] [c0, c1, c2]) :
    Lies W (smallV S) ⟨[⟨a, b, c⟩], [⟨d, e, f, g⟩, ⟨h, i, j, k⟩], [⟨l, m⟩], [[a0, a1, a2], [b0, b1, b2], [c0, c1, c2]]⟩ :=
  ⟨_, _, _, _, rfl, H.cars.car _, H.stops.stop2 _, H.pairs.pair _, H.travel.trav [[a0, a1, a2], [b0, b1, b2], [c0, c1, c2]] 3 fun k hk => by
    match k, hk with
    | 0, _ => exact ⟨_, rfl, H.r0.row3 _⟩
    | 1, _ => exact ⟨_, rfl, H.r1.row3 _⟩
    | 2, _ => exact ⟨_, rfl, H.r2.row3 _⟩⟩

theorem SmallAt.below {S : Nat} {W W' : World} {a b c d e f : List Int} (H : SmallAt S W a b c d e f) (hb : Below W.heap.size W W') : SmallAt S W' a b c d e f :=
  ⟨Nat.le_trans H.size hb.size, H.cars.below hb, H.stops.below hb, H.pairs.below hb, H.r0.below hb, H.r1.below hb, H.r2.below hb, H.travel.below hb⟩
theorem SmallAt.lies_with {S : Nat} {W : World} {a b c d e f g h i j k a0 a1 a2 b0 b1 b2 c0 c1 c2 : Int} {l : List Int} (H : SmallAt S W [a, b, c] [d, e, f, g, h, i, j, k] l [a0, a1, a2] [b0, b1, b2] [c0, c1, c2]) {vp : Value} {ps : List Pair} (hp : Recs W 2 Pair.at_ vp ps) :
    Lies W (.agg #[.slice (some ⟨S + 1, 0, none⟩) 1 1, .slice (some ⟨S + 2, 0, none⟩) 2 2, vp, .slice (some ⟨S + 7, 0, none⟩) 3 3]) ⟨[⟨a, b, c⟩], [⟨d, e, f, g⟩, ⟨h, i, j, k⟩], ps, [[a0, a1, a2], [b0, b1, b2], [c0, c1, c2]]⟩ :=
  ⟨_, _, _, _, rfl, H.cars.car _, H.stops.stop2 _, hp, H.travel.trav [[a0, a1, a2], [b0, b1, b2], [c0, c1, c2]] 3 fun k hk => by
    match k, hk with
    | 0, _ => exact ⟨_, rfl, H.r0.row3 _⟩
    | 1, _ => exact ⟨_, rfl, H.r1.row3 _⟩
    | 2, _ => exact ⟨_, rfl, H.r2.row3 _⟩⟩

set_option maxHeartbeats 1000000 in
theorem wakes_any (w : World) : Calls Tryd.prog 14 #[] w fun e w' => e = .returned (.bool true) ∧ Below w.heap.size w w' := by
  have C1 := Lib.hid (fun W => check_bad (v := .agg #[.slice none 0 0, .slice none 0 0, .slice none 0 0, .slice none 0 0]) (i := ⟨[], [], [], []⟩) (w := W) ⟨_, _, _, _, rfl, .nil, .nil, .nil, .nil⟩ ⟨by simp, by simp, by simp⟩ (by decide))
  go_enter Tryd.func14, Tryd.ntmps14
  go_wp2_with (go_at_call 18; fail)
  (with_reducible refine (C1.out _).mono ?_)
  rintro e w1 ⟨rfl, hb1⟩
  have HB1 := Lib.hid hb1
  clear hb1 C1
  go_wp2_with (go_at_call 18; fail)
  (with_reducible refine (check_ok (i := ⟨[⟨0, 0, 5⟩], [], [], [[0]]⟩) ?h1 ?h2 ?h3).mono ?h4)
  case h2 => exact ⟨by simp, by simp, by simp⟩
  case h3 => decide
  case' h1 => refine ⟨_, _, _, _, rfl, ?_, .nil, .nil, ?_⟩
  · exact Blk.car (((blk_at #[.int .i64 0, .int .i64 0, .int .i64 5] _ rfl).alloc _).alloc _) _
  · refine Blk.trav (blk_at #[slc (w1.heap.size + 1) 1] _ (by simp)) [[0]] 1 fun k hk => ?_
    match k, hk with
    | 0, _ => exact ⟨_, rfl, Blk.recs ((blk_at #[.int .i64 0] _ (by simp)).alloc _) 1 num_ [0] 1 fun k hk j hj => by
        match k, hk, j, hj with
        | 0, _, 0, _ => rfl⟩
  rintro e w2 ⟨rfl, hb2⟩
  have HB2 := Lib.hid hb2
  clear hb2
  go_wp2
  go_ret
  refine ⟨rfl, (Below.alloc (Below.alloc (Below.alloc HB1.out ?_ _) ?_ _) ?_ _).trans (HB2.out.mono ?_)⟩
  all_goals (have := HB1.out.size; simp; try omega)
end Go.Proofs.YteibelmgebhleaaDoor
