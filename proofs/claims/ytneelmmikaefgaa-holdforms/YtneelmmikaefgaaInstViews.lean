/- How a problem lies in memory: rows of records of numbers, rows of rows. -/
import Derived.Test.YtneelmmikaefgaaInstPlain
import Derived.Below
import Derived.Lib.Hide
import Derived.Test.YtneelmmikaefgaaProg
import Derived.WalkKit
import Derived.WalkLawsBesides
import Derived.Outline
import Derived.Deep.QuietTactic
import Derived.BigQuiet
import Derived.Deep.RegionWith
namespace Go.Proofs.Ytneelmmikaefgaa
open Go.RowKit

def Car.at_ (x : Car) : Nat → Int | 0 => x.c | 1 => x.s | _ => x.e
def Stop.at_ (x : Stop) : Nat → Int | 0 => x.d | 1 => x.o | 2 => x.c | _ => x.s
def Pair.at_ (x : Pair) : Nat → Int | 0 => x.a | _ => x.b
def num_ (x : Int) : Nat → Int | _ => x

/-- a slice of records of c numbers each -/
def Recs {α : Type} (W : World) (c : Nat) (g : α → Nat → Int) (v : Value) (l : List α) : Prop :=
  ∃ A cap, v = .slice A l.length cap ∧ ∀ k (h : k < l.length), ∃ B o, A = some ⟨B, o, none⟩ ∧ B < W.heap.size ∧ ∀ j, j < c → W.cell? ⟨B, o + k * c + j, none⟩ = some (.int .i64 (g l[k] j))
/-- a slice of slices of numbers -/
def Trav (W : World) (v : Value) (l : List (List Int)) : Prop :=
  ∃ A cap, v = .slice A l.length cap ∧ ∀ k (h : k < l.length), ∃ B o u, A = some ⟨B, o, none⟩ ∧ B < W.heap.size ∧ W.cell? ⟨B, o + k, none⟩ = some u ∧ Recs W 1 num_ u l[k]
theorem Recs.below {α : Type} {W W' : World} {c : Nat} {g : α → Nat → Int} {v : Value} {l : List α} (h : Recs W c g v l) (hb : Below W.heap.size W W') : Recs W' c g v l := by
  obtain ⟨A, cap, rfl, h⟩ := h
  refine ⟨A, cap, rfl, fun k hk => ?_⟩
  obtain ⟨B, o, rfl, hB, hc⟩ := h k hk
  exact ⟨B, o, rfl, Nat.lt_of_lt_of_le hB hb.size, fun j hj => by rw [hb.cell hB]; exact hc j hj⟩
theorem Trav.below {W W' : World} {v : Value} {l : List (List Int)} (h : Trav W v l) (hb : Below W.heap.size W W') : Trav W' v l := by
  obtain ⟨A, cap, rfl, h⟩ := h
  refine ⟨A, cap, rfl, fun k hk => ?_⟩
  obtain ⟨B, o, u, rfl, hB, hc, hr⟩ := h k hk
  exact ⟨B, o, u, rfl, Nat.lt_of_lt_of_le hB hb.size, by rw [hb.cell hB]; exact hc, hr.below hb⟩
/-- a problem in memory -/
def Lies (W : World) (v : Value) (i : Prob) : Prop := ∃ vc vs vp vt, v = .agg #[vc, vs, vp, vt] ∧ Recs W 3 Car.at_ vc i.cars ∧ Recs W 4 Stop.at_ vs i.stops ∧ Recs W 2 Pair.at_ vp i.pairs ∧ Trav W vt i.travel
theorem Lies.below {W W' : World} {v : Value} {i : Prob} (h : Lies W v i) (hb : Below W.heap.size W W') : Lies W' v i := by
  obtain ⟨vc, vs, vp, vt, rfl, h1, h2, h3, h4⟩ := h
  exact ⟨vc, vs, vp, vt, rfl, h1.below hb, h2.below hb, h3.below hb, h4.below hb⟩
theorem below_draws' {B : Nat} {a w : World} (h : Below B a w) (n : Nat) : Below B a (w.drewN n) := ⟨h.os, h.tape, h.output, h.size, h.block⟩
end Go.Proofs.Ytneelmmikaefgaa
