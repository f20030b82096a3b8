/- draymanplay.Inst, its four rows said plainly; a problem in a variable. -/
import Derived.Test.YtkheepedjoimmaaPlayCars4
import Derived.Test.YtkheepedjoimmaaFine4
namespace Go.Proofs.Ytkheepedjoimmaa
open Go.RowKit
set_option linter.unusedSimpArgs false

/-- a problem in memory, its four rows said plainly -/
abbrev Said (W : World) (A1 A2 A3 A4 : Option Addr) (c1 c2 c3 c4 : Nat) (i : Prob) : Prop := Lies W (.agg #[.slice A1 i.cars.length c1, .slice A2 i.stops.length c2, .slice A3 i.pairs.length c3, .slice A4 i.travel.length c4]) i
theorem Lies.said {W : World} {v : Value} {i : Prob} (h : Lies W v i) : ∃ A1 A2 A3 A4 c1 c2 c3 c4, v = .agg #[.slice A1 i.cars.length c1, .slice A2 i.stops.length c2, .slice A3 i.pairs.length c3, .slice A4 i.travel.length c4] ∧ Said W A1 A2 A3 A4 c1 c2 c3 c4 i := by
  have h' := h
  obtain ⟨vc, vs, vp, vt, rfl, ⟨A1, c1, rfl, _⟩, ⟨A2, c2, rfl, _⟩, ⟨A3, c3, rfl, _⟩, ⟨A4, c4, rfl, _⟩⟩ := h'
  exact ⟨A1, A2, A3, A4, c1, c2, c3, c4, rfl, h⟩
def PlaySaid (w : World) (e : Ending) (w' : World) : Prop := ∃ i A1 A2 A3 A4 c1 c2 c3 c4, e = .returned (.agg #[.slice A1 i.cars.length c1, .slice A2 i.stops.length c2, .slice A3 i.pairs.length c3, .slice A4 i.travel.length c4]) ∧ Said w' A1 A2 A3 A4 c1 c2 c3 c4 i ∧ probOk i = true ∧ 2 ≤ i.stops.length ∧ i.stops.length ≤ 8 ∧ i.pairs.length ≤ 2 ∧ Below w.heap.size w w'
theorem play_said (v : Value) (l : List Int) (w : World) (h : Recs w 1 num_ v l) (hl : l.length ≤ 9223372036854775807) : Calls Try.prog 10 #[v] w (PlaySaid w) := by
  refine (play_cars v l w h hl).mono ?_
  rintro e w' ⟨i, vc, vs, vp, vt, us, I, rfl, hh, hok, h2, h8, hp, hb⟩
  obtain ⟨A1, A2, A3, A4, c1, c2, c3, c4, hv, hs⟩ := hh.lies.said
  rw [hv]
  exact ⟨i, A1, A2, A3, A4, c1, c2, c3, c4, rfl, hs, hok, h2, h8, hp, hb⟩
/-- a problem in a variable -/
structure Box (W : World) (I : Nat) (A1 A2 A3 A4 : Option Addr) (c1 c2 c3 c4 : Nat) (i : Prob) : Prop where
  lt : I < W.heap.size
  b0 : W.cell? ⟨I, 0, none⟩ = some (.slice A1 i.cars.length c1)
  b1 : W.cell? ⟨I, 1, none⟩ = some (.slice A2 i.stops.length c2)
  b2 : W.cell? ⟨I, 2, none⟩ = some (.slice A3 i.pairs.length c3)
  b3 : W.cell? ⟨I, 3, none⟩ = some (.slice A4 i.travel.length c4)
  lies : Said W A1 A2 A3 A4 c1 c2 c3 c4 i
theorem Box.below {W W' : World} {I : Nat} {A1 A2 A3 A4 : Option Addr} {c1 c2 c3 c4 : Nat} {i : Prob} (h : Box W I A1 A2 A3 A4 c1 c2 c3 c4 i) (hb : Below W.heap.size W W') : Box W' I A1 A2 A3 A4 c1 c2 c3 c4 i :=
  ⟨Nat.lt_of_lt_of_le h.lt hb.size, by rw [hb.cell h.lt]; exact h.b0, by rw [hb.cell h.lt]; exact h.b1, by rw [hb.cell h.lt]; exact h.b2, by rw [hb.cell h.lt]; exact h.b3, Lies.below h.lies hb⟩
theorem box_new {W : World} {A1 A2 A3 A4 : Option Addr} {c1 c2 c3 c4 : Nat} {i : Prob} (h : Said W A1 A2 A3 A4 c1 c2 c3 c4 i) (t : TypeId) : Box (W.alloc (.cells #[.slice A1 i.cars.length c1, .slice A2 i.stops.length c2, .slice A3 i.pairs.length c3, .slice A4 i.travel.length c4] t)) W.heap.size A1 A2 A3 A4 c1 c2 c3 c4 i :=
  ⟨by simp, by simp, by simp, by simp, by simp, Lies.below h ((Below.refl _ _).alloc (Nat.le_refl _) _)⟩
theorem short_of {i : Prob} (h : probOk i = true) (hp : i.pairs.length ≤ 1000000) : Short i := by
  have hf := fine_of h
  have h1 := hf.cars
  have h2 := hf.stops
  exact ⟨by omega, by omega, by omega⟩
/-- a problem in a variable, in a world that stands on w0 -/
def BoxOn (w0 w : World) (I : Nat) (A1 A2 A3 A4 : Option Addr) (c1 c2 c3 c4 : Nat) (i : Prob) : Prop := Box w I A1 A2 A3 A4 c1 c2 c3 c4 i ∧ Below w0.heap.size w0 w
theorem BoxOn.on {w0 w w' : World} {I : Nat} {A1 A2 A3 A4 : Option Addr} {c1 c2 c3 c4 : Nat} {i : Prob} (h : BoxOn w0 w I A1 A2 A3 A4 c1 c2 c3 c4 i) (hb : Below w.heap.size w w') : BoxOn w0 w' I A1 A2 A3 A4 c1 c2 c3 c4 i :=
  ⟨h.1.below hb, h.2.trans (hb.mono h.2.size)⟩
def Cells4 (w : World) (I : Nat) (A1 A2 A3 A4 : Option Addr) (c1 c2 c3 c4 : Nat) (i : Prob) : Prop := w.cell? ⟨I, 0, none⟩ = some (.slice A1 i.cars.length c1) ∧ w.cell? ⟨I, 1, none⟩ = some (.slice A2 i.stops.length c2) ∧ w.cell? ⟨I, 2, none⟩ = some (.slice A3 i.pairs.length c3) ∧ w.cell? ⟨I, 3, none⟩ = some (.slice A4 i.travel.length c4)
end Go.Proofs.Ytkheepedjoimmaa
