/- TripBegins: the second problem in memory, with more room. -/
import Derived.Test.YtkheepedjoimmaaBeginsPlain
namespace Go.Proofs.Ytkheepedjoimmaa
open Go.RowKit

theorem Blk.cell {W : World} {B : Nat} {l : List Value} (h : Blk W B l) {j : Nat} {u : Value} (hu : l[j]? = some u) : W.cell? ⟨B, j, none⟩ = some u := by
  obtain ⟨h1, rfl⟩ := List.getElem?_eq_some_iff.1 hu
  exact (h.2 j h1).1
theorem box4' {W : World} {Q : Nat} {a b c d : Value} (h : Blk W Q [a, b, c, d]) (a' b' c' d' : Value) : Blk ((((W.setCell ⟨Q, 0, none⟩ a').setCell ⟨Q, 1, none⟩ b').setCell ⟨Q, 2, none⟩ c').setCell ⟨Q, 3, none⟩ d') Q [a', b', c', d'] :=
  (((h.set (k := 0) (by simp) a').set (k := 1) (by simp) b').set (k := 2) (by simp) c').set (k := 3) (by simp) d'
def PlayIs (i : Prob) (w : World) (e : Ending) (w' : World) : Prop := ∃ vc vs vp vt us I, e = .returned (.agg #[vc, vs, vp, vt]) ∧ Held w' w.heap.size I i vc vs vp vt us ∧ probOk i = true ∧ 2 ≤ i.stops.length ∧ i.stops.length ≤ 8 ∧ i.pairs.length ≤ 2 ∧ Below w.heap.size w w'
theorem play_is (v : Value) (l : List Int) (w : World) (h : Recs w 1 num_ v l) (hl : l.length ≤ 9223372036854775807) : Calls Try.prog 10 #[v] w (PlayIs (playI l) w) := play_carsF v l w h hl
/-- the second problem in its variable J: its cars and stops as they stand, no pairs -/
structure JS (wb : World) (I J gc cC gs cS : Nat) (vp : Value) (At : Option Addr) (cT : Nat) (us : List Value) (i : Prob) (W : World) (cs : List Car) (st : List Stop) : Prop where
  held : Held W wb.heap.size I { i with cars := cs, stops := st } (.slice (some ⟨gc, 0, none⟩) i.cars.length cC) (.slice (some ⟨gs, 0, none⟩) i.stops.length cS) vp (.slice At i.travel.length cT) us
  box : Blk W J [.slice (some ⟨gc, 0, none⟩) i.cars.length cC, .slice (some ⟨gs, 0, none⟩) i.stops.length cS, .slice none 0 0, .slice At i.travel.length cT]
  cj : gc ≠ J
  sj : gs ≠ J
  below : Below wb.heap.size wb W
  wider : Wider i.cars cs
  later : Later i.stops st
section
variable {wb : World} {I J gc cC gs cS : Nat} {vp : Value} {At : Option Addr} {cT : Nat} {us : List Value} {i : Prob} {W : World} {cs : List Car} {st : List Stop}
theorem JS.on {W' : World} (h : JS wb I J gc cC gs cS vp At cT us i W cs st) (hb : Below W.heap.size W W') : JS wb I J gc cC gs cS vp At cT us i W' cs st :=
  ⟨h.held.below hb, h.box.below hb, h.cj, h.sj, h.below.trans (hb.mono h.below.size), h.wider, h.later⟩
theorem JS.lies (h : JS wb I J gc cC gs cS vp At cT us i W cs st) : Lies W (.agg #[.slice (some ⟨gc, 0, none⟩) i.cars.length cC, .slice (some ⟨gs, 0, none⟩) i.stops.length cS, .slice none 0 0, .slice At i.travel.length cT]) ⟨cs, st, [], i.travel⟩ := h.held.lies.no_pairs
theorem JS.gcz (h : JS wb I J gc cC gs cS vp At cT us i W cs st) : wb.heap.size ≤ gc ∧ gc < W.heap.size := ⟨(own_typed h.held.cars (g := gc) rfl).2, by obtain ⟨cur, hc⟩ := (own_typed h.held.cars (g := gc) rfl).1; exact (Array.getElem?_eq_some_iff.1 hc).1⟩
theorem JS.gsz (h : JS wb I J gc cC gs cS vp At cT us i W cs st) : wb.heap.size ≤ gs ∧ gs < W.heap.size := ⟨(own_typed h.held.stops (g := gs) rfl).2, by obtain ⟨cur, hc⟩ := (own_typed h.held.stops (g := gs) rfl).1; exact (Array.getElem?_eq_some_iff.1 hc).1⟩
theorem JS.thawC (h : JS wb I J gc cC gs cS vp At cT us i W cs st) (j : Nat) : W.frozen? ⟨gc, j, none⟩ = false := own_thaw h.held.cars (g := gc) rfl j
theorem JS.thawS (h : JS wb I J gc cC gs cS vp At cT us i W cs st) (j : Nat) : W.frozen? ⟨gs, j, none⟩ = false := own_thaw h.held.stops (g := gs) rfl j
theorem JS.car (h : JS wb I J gc cC gs cS vp At cT us i W cs st) {k : Nat} (hk : k < cs.length) : W.cell? ⟨gc, k * 3, none⟩ = some (.int .i64 cs[k].c) ∧ W.cell? ⟨gc, k * 3 + 2, none⟩ = some (.int .i64 cs[k].e) := by
  obtain ⟨A, cap, e, hg⟩ := own_get h.held.cars
  injection e with e1 _ _
  obtain ⟨g, rfl, _, hc⟩ := hg (by simp only; omega)
  injection e1 with e1; injection e1 with e1; subst e1
  exact ⟨hc _ _ (carCells_at cs k hk).1, hc _ _ (carCells_at cs k hk).2⟩
theorem JS.stop (h : JS wb I J gc cC gs cS vp At cT us i W cs st) {k : Nat} (hk : k < st.length) : W.cell? ⟨gs, k * 4 + 2, none⟩ = some (.int .i64 st[k].c) := by
  obtain ⟨A, cap, e, hg⟩ := own_get h.held.stops
  injection e with e1 _ _
  obtain ⟨g, rfl, _, hc⟩ := hg (by simp only; omega)
  injection e1 with e1; injection e1 with e1; subst e1
  exact hc _ _ (stopCells_at st k hk)
theorem JS.cap (h : JS wb I J gc cC gs cS vp At cT us i W cs st) {k : Nat} (hk : k < cs.length) {u : Int} (h1 : cs[k].c ≤ u) (h2 : u ≤ 60) : JS wb I J gc cC gs cS vp At cT us i (W.setCell ⟨gc, k * 3, none⟩ (.int .i64 u)) (setCap cs k u) st :=
  ⟨h.held.set_cars (cs := setCap cs k u) h.wider.1.symm (by simp [setCap]) (carCells_cap cs k u hk), h.box.other h.cj _, h.cj, h.sj, h.below.setCell (p := ⟨gc, k * 3, none⟩) h.gcz.1 _, h.wider.cap hk h1 h2, h.later⟩
theorem JS.end_ (h : JS wb I J gc cC gs cS vp At cT us i W cs st) {k : Nat} (hk : k < cs.length) {u : Int} (h1 : cs[k].e ≤ u) (h2 : u ≤ 1000) : JS wb I J gc cC gs cS vp At cT us i (W.setCell ⟨gc, k * 3 + 2, none⟩ (.int .i64 u)) (setEnd cs k u) st :=
  ⟨h.held.set_cars (cs := setEnd cs k u) h.wider.1.symm (by simp [setEnd]) (carCells_end cs k u hk), h.box.other h.cj _, h.cj, h.sj, h.below.setCell (p := ⟨gc, k * 3 + 2, none⟩) h.gcz.1 _, h.wider.end_ hk h1 h2, h.later⟩
theorem JS.close (h : JS wb I J gc cC gs cS vp At cT us i W cs st) {k : Nat} (hk : k < st.length) {u : Int} (h1 : st[k].c ≤ u) (h2 : u ≤ 1000) : JS wb I J gc cC gs cS vp At cT us i (W.setCell ⟨gs, k * 4 + 2, none⟩ (.int .i64 u)) cs (setClose st k u) :=
  ⟨h.held.set_stops (st := setClose st k u) h.later.1.symm (by simp [setClose]) (stopCells_close st k u hk), h.box.other h.sj _, h.cj, h.sj, h.below.setCell (p := ⟨gs, k * 4 + 2, none⟩) h.gsz.1 _, h.wider, h.later.close hk h1 h2⟩
end
/-- the smaller of two, as the walk says it -/
theorem min_grow {x a m : Int} (ha : 0 ≤ a) (hx : x ≤ m) : x ≤ (if m < x + a then m else x + a) ∧ (if m < x + a then m else x + a) ≤ m := by split <;> omega
end Go.Proofs.Ytkheepedjoimmaa
