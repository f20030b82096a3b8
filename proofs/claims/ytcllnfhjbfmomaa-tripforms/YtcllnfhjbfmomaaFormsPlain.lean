/- TripForms' table: what each row holds, and that it is what the call answers. -/
import Derived.Test.YtcllnfhjbfmomaaHand
namespace Go.Proofs.Ytcllnfhjbfmomaa
open Go.RowKit
set_option linter.unusedSimpArgs false

structure FRow where
  car : Int
  l : List Int
  ok : Bool
  a : List Int
  b : List Int
  c : Int
  h : Int
deriving DecidableEq
def ftab : List FRow := [
  ⟨0, [], true, [], [], 0, 10⟩,
  ⟨0, [1], true, [14], [3], 9, 21⟩,
  ⟨0, [1, 2], true, [14, 30], [3, 2], 13, 37⟩,
  ⟨0, [2], false, [], [], 0, 0⟩,
  ⟨0, [2, 1], false, [], [], 0, 0⟩,
  ⟨0, [3, 4], true, [18, 28], [4, 0], 15, 30⟩,
  ⟨0, [4, 3], false, [], [], 0, 0⟩,
  ⟨0, [3], false, [], [], 0, 0⟩,
  ⟨0, [4], false, [], [], 0, 0⟩,
  ⟨0, [1, 3, 4], false, [], [], 0, 0⟩,
  ⟨0, [3, 4, 1], true, [18, 28, 30], [4, 0, 3], 20, 37⟩,
  ⟨0, [3, 2, 4], true, [18, 30, 32], [4, 3, -1], 0, 0⟩,
  ⟨1, [1], true, [4], [3], 9, 11⟩,
  ⟨1, [3, 4], false, [], [], 0, 0⟩,
  ⟨1, [1, 2], false, [], [], 0, 0⟩,
  ⟨0, [1, 1], false, [], [], 0, 0⟩,
  ⟨0, [5], false, [], [], 0, 0⟩,
  ⟨0, [0], false, [], [], 0, 0⟩,
  ⟨2, [], false, [], [], 0, 0⟩,
  ⟨(-1), [], false, [], [], 0, 0⟩]
/-- the row's answer: below nothing is loaded, or just this -/
def rowGood (x : FRow) : Bool :=
  if x.b.length = 3 ∧ (x.b[2]?).getD 0 < 0 then decide (evalL handProb x.car x.l = none)
  else if x.ok = true then decide (evalL handProb x.car x.l = some ⟨x.a, x.b, x.c, x.h⟩) else decide (evalL handProb x.car x.l = none) && decide (x.a = []) && decide (x.b = []) && decide (x.c = 0) && decide (x.h = 0)
theorem ftab_good : ftab.all rowGood = true := by decide
theorem ftab_small : ftab.all (fun x => decide (x.l.length ≤ 3) && decide (x.a.length ≤ 3) && decide (x.b.length ≤ 3) && decide (-1 ≤ x.car) && decide (x.car ≤ 2)) = true := by decide
/-- one row in memory -/
structure FAt (W : World) (T k : Nat) (x : FRow) (A1 A2 A3 : Option Addr) (d1 d2 d3 : Nat) : Prop where
  c0 : W.cell? ⟨T, k * 7, none⟩ = some (.int .i64 x.car)
  c1 : W.cell? ⟨T, k * 7 + 1, none⟩ = some (.slice A1 x.l.length d1)
  c2 : W.cell? ⟨T, k * 7 + 2, none⟩ = some (.bool x.ok)
  c3 : W.cell? ⟨T, k * 7 + 3, none⟩ = some (.slice A2 x.a.length d2)
  c4 : W.cell? ⟨T, k * 7 + 4, none⟩ = some (.slice A3 x.b.length d3)
  c5 : W.cell? ⟨T, k * 7 + 5, none⟩ = some (.int .i64 x.c)
  c6 : W.cell? ⟨T, k * 7 + 6, none⟩ = some (.int .i64 x.h)
  r1 : Recs W 1 num_ (.slice A1 x.l.length d1) x.l
  r2 : Recs W 1 num_ (.slice A2 x.a.length d2) x.a
  r3 : Recs W 1 num_ (.slice A3 x.b.length d3) x.b
def FTab (W : World) (T : Nat) : Prop := T < W.heap.size ∧ ∀ k (h : k < ftab.length), ∃ A1 A2 A3 d1 d2 d3, FAt W T k ftab[k] A1 A2 A3 d1 d2 d3
theorem FTab.below {W W' : World} {T : Nat} (h : FTab W T) (hb : Below W.heap.size W W') : FTab W' T :=
  ⟨Nat.lt_of_lt_of_le h.1 hb.size, fun k hk => by
    obtain ⟨A1, A2, A3, d1, d2, d3, f⟩ := h.2 k hk
    exact ⟨A1, A2, A3, d1, d2, d3, cell_up hb h.1 f.c0, cell_up hb h.1 f.c1, cell_up hb h.1 f.c2, cell_up hb h.1 f.c3, cell_up hb h.1 f.c4, cell_up hb h.1 f.c5, cell_up hb h.1 f.c6, f.r1.below hb, f.r2.below hb, f.r3.below hb⟩⟩
theorem Blk.nums {W : World} {B : Nat} {l : List Int} (h : Blk W B (ints l)) (cap : Nat) : Recs W 1 num_ (.slice (some ⟨B, 0, none⟩) l.length cap) l :=
  h.recs 1 num_ l cap fun k hk j hj => by
    obtain rfl : j = 0 := by omega
    simp [ints, num_, hk]
end Go.Proofs.Ytcllnfhjbfmomaa
