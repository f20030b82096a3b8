/- trip.drive: the trip, or that it can't be driven. -/
import Derived.Test.YtpccoflebfblbaaTripPairsW
import Derived.Test.YtpccoflebfblbaaTripBox
namespace Go.Proofs.Ytpccoflebfblbaa
open Go.RowKit
set_option linter.unusedSimpArgs false

/-- what a call answers: a trip in new memory and true, or nothing and false -/
def TripIs (w : World) (t : Option TripR) (e : Ending) (w' : World) : Prop := Below w.heap.size w w' ∧
  ((t = none ∧ e = .returned (.tuple #[.agg #[.slice none 0 0, .slice none 0 0, .int .i64 0, .int .i64 0], .bool false])) ∨
   ∃ r A1 c1 A2 c2, t = some r ∧ e = .returned (.tuple #[.agg #[.slice A1 r.arr.length c1, .slice A2 r.load.length c2, .int .i64 r.cost, .int .i64 r.home], .bool true]) ∧
     r.arr.length ≤ c1 ∧ r.load.length ≤ c2 ∧ Recs w' 1 num_ (.slice A1 r.arr.length c1) r.arr ∧ Recs w' 1 num_ (.slice A2 r.load.length c2) r.load ∧ Fresh w.heap.size A1 ∧ Fresh w.heap.size A2)
def tripOf (i : Prob) (c : Car) (l : List Int) : Option TripR := (driveL i c 0 c.s 0 l).map fun d => ⟨d.arr, d.load, costL i 0 l, d.home⟩
theorem nil4 {W : World} {R : Nat} (h : Blk W R [.slice none 0 0, .slice none 0 0, .int .i64 0, .int .i64 0]) :
    W.cell? ⟨R, 0, none⟩ = some (.slice none 0 0) ∧ W.cell? ⟨R, 1, none⟩ = some (.slice none 0 0) ∧ W.cell? ⟨R, 2, none⟩ = some (.int .i64 0) ∧ W.cell? ⟨R, 3, none⟩ = some (.int .i64 0) ∧
    W.frozen? ⟨R, 0, none⟩ = false ∧ W.frozen? ⟨R, 1, none⟩ = false ∧ W.frozen? ⟨R, 2, none⟩ = false ∧ W.frozen? ⟨R, 3, none⟩ = false :=
  ⟨(h.2 0 (by simp)).1, (h.2 1 (by simp)).1, (h.2 2 (by simp)).1, (h.2 3 (by simp)).1, (h.2 0 (by simp)).2, (h.2 1 (by simp)).2, (h.2 2 (by simp)).2, (h.2 3 (by simp)).2⟩
/-- the call's own variables at their places -/
structure Base (W : World) (S K R T : Nat) (vc vs vp vt : Value) (c : Car) : Prop where
  size : T < W.heap.size
  st : S < T
  kt : K < T
  rt : R < T
  box : Blk W S [vc, vs, vp, vt]
  car : Blk W K [.int .i64 c.c, .int .i64 c.s, .int .i64 c.e]
  res : Blk W R [.slice none 0 0, .slice none 0 0, .int .i64 0, .int .i64 0]
theorem cell_up {W W' : World} {C B k : Nat} {v : Value} (hb : Below C W W') (hC : B < C) (h : W.cell? ⟨B, k, none⟩ = some v) : W'.cell? ⟨B, k, none⟩ = some v := by rw [hb.cell hC]; exact h
theorem Blk.keep {W W' : World} {B C : Nat} {l : List Value} (h : Blk W B l) (hb : Below C W W') (hC : B < C) : Blk W' B l :=
  ⟨Nat.lt_of_lt_of_le h.1 hb.size, fun j hj => ⟨by rw [hb.cell hC]; exact (h.2 j hj).1, by rw [hb.frozen hC]; exact (h.2 j hj).2⟩⟩
theorem Base.keep {W W' : World} {S K R T : Nat} {vc vs vp vt : Value} {c : Car} (h : Base W S K R T vc vs vp vt c) (hb : Below T W W') : Base W' S K R T vc vs vp vt c :=
  ⟨Nat.lt_of_lt_of_le h.size hb.size, h.st, h.kt, h.rt, h.box.keep hb h.st, h.car.keep hb h.kt, h.res.keep hb h.rt⟩
theorem Blk.c0 {W : World} {B : Nat} {a : Value} {l : List Value} (h : Blk W B (a :: l)) : W.cell? ⟨B, 0, none⟩ = some a := (h.2 0 (by simp)).1
theorem Blk.c1 {W : World} {B : Nat} {a b : Value} {l : List Value} (h : Blk W B (a :: b :: l)) : W.cell? ⟨B, 1, none⟩ = some b := (h.2 1 (by simp)).1
theorem Blk.c2 {W : World} {B : Nat} {a b c : Value} {l : List Value} (h : Blk W B (a :: b :: c :: l)) : W.cell? ⟨B, 2, none⟩ = some c := (h.2 2 (by simp)).1
theorem Blk.c3 {W : World} {B : Nat} {a b c d : Value} {l : List Value} (h : Blk W B (a :: b :: c :: d :: l)) : W.cell? ⟨B, 3, none⟩ = some d := (h.2 3 (by simp)).1

theorem Lies.stop {W : World} {vc vs vp vt : Value} {i : Prob} (h : Lies W (.agg #[vc, vs, vp, vt]) i) {q : Nat} (hq : q < i.stops.length) : ∃ A cap B o, vs = .slice A i.stops.length cap ∧ A = some ⟨B, o, none⟩ ∧ B < W.heap.size ∧
    W.cell? ⟨B, o + q * 4, none⟩ = some (.int .i64 (stopAt i ((q : Int) + 1)).d) ∧ W.cell? ⟨B, o + q * 4 + 1, none⟩ = some (.int .i64 (stopAt i ((q : Int) + 1)).o) ∧
    W.cell? ⟨B, o + q * 4 + 2, none⟩ = some (.int .i64 (stopAt i ((q : Int) + 1)).c) ∧ W.cell? ⟨B, o + q * 4 + 3, none⟩ = some (.int .i64 (stopAt i ((q : Int) + 1)).s) := by
  obtain ⟨_, _, _, _, e, _, ⟨A, cap, hv, hc⟩, _, _⟩ := h
  injection e with e
  injection e with e
  injection e with _ e
  injection e with e _
  subst e
  obtain ⟨B, o, hA, hB, hcell⟩ := hc q hq
  rw [stopAt_nat i hq]
  exact ⟨A, cap, B, o, hv, hA, hB, hcell 0 (by omega), hcell 1 (by omega), hcell 2 (by omega), hcell 3 (by omega)⟩

end Go.Proofs.Ytpccoflebfblbaa
