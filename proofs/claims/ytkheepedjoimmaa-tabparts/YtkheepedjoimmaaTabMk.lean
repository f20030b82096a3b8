/- Rows of heads and tails: made whole, written place by place (stage 5). -/
import Derived.Test.YtkheepedjoimmaaTabVals
namespace Go.Proofs.Ytkheepedjoimmaa
open Go.RowKit
set_option linter.unusedSimpArgs false

def tailC : Option TailP → List Value
  | none => #[.bool false, .int .i64 0, .int .i64 0, .int .i64 0, .int .i64 0, .int .u32 0, .int .u32 0, .int .i64 0].toList
  | some t => #[.bool true, .int .i64 t.first, .int .i64 t.late, .int .i64 t.low, .int .i64 t.high, .int .u32 (t.need : Nat), .int .u32 (t.set : Nat), .int .i64 t.cost].toList
theorem tailC_len (o : Option TailP) : (tailC o).length = 8 := by cases o <;> rfl
theorem head_form (o : Option HeadP) : ∃ (ok : Bool) (x1 x2 x3 x4 x5 x6 : Int), headV o = .agg #[.bool ok, .int .i64 x1, .int .i64 x2, .int .i64 x3, .int .u32 x4, .int .u32 x5, .int .i64 x6] ∧ headC o = [.bool ok, .int .i64 x1, .int .i64 x2, .int .i64 x3, .int .u32 x4, .int .u32 x5, .int .i64 x6] := by
  cases o with
  | none => exact ⟨false, 0, 0, 0, 0, 0, 0, rfl, rfl⟩
  | some h => exact ⟨true, h.last, h.leave, h.load, h.opn, h.set, h.cost, rfl, rfl⟩
theorem tail_form (o : Option TailP) : ∃ (ok : Bool) (x1 x2 x3 x4 x5 x6 x7 : Int), tailV o = .agg #[.bool ok, .int .i64 x1, .int .i64 x2, .int .i64 x3, .int .i64 x4, .int .u32 x5, .int .u32 x6, .int .i64 x7] ∧ tailC o = [.bool ok, .int .i64 x1, .int .i64 x2, .int .i64 x3, .int .i64 x4, .int .u32 x5, .int .u32 x6, .int .i64 x7] := by
  cases o with
  | none => exact ⟨false, 0, 0, 0, 0, 0, 0, 0, rfl, rfl⟩
  | some h => exact ⟨true, h.first, h.late, h.low, h.high, h.need, h.set, h.cost, rfl, rfl⟩
/-- a row of n records of m cells each, in block g from its first cell on -/
def RowC (W : World) (g m : Nat) (f : Nat → List Value) (n : Nat) : Prop := g < W.heap.size ∧ ∀ k, k < n → ∀ j u, j < m → (f k)[j]? = some u → W.cell? ⟨g, k * m + j, none⟩ = some u
theorem RowC.below {W W' : World} {g m : Nat} {f : Nat → List Value} {n : Nat} (h : RowC W g m f n) (hb : Below W.heap.size W W') : RowC W' g m f n :=
  ⟨Nat.lt_of_lt_of_le h.1 hb.size, fun k hk j u hj hu => by rw [hb.cell h.1]; exact h.2 k hk j u hj hu⟩
def putAt : List Value → Nat → List Value → List Value
  | xs, _, [] => xs
  | xs, p, u :: c => putAt (xs.set p u) (p + 1) c
theorem putAt_len : ∀ (c xs : List Value) (p : Nat), (putAt xs p c).length = xs.length
  | [], _, _ => rfl
  | u :: c, xs, p => by unfold putAt; rw [putAt_len c]; simp
theorem putAt_out : ∀ (c xs : List Value) (p q : Nat), q < p ∨ p + c.length ≤ q → (putAt xs p c)[q]? = xs[q]?
  | [], _, _, _, _ => rfl
  | u :: c, xs, p, q, h => by
    have : q < p ∨ p + c.length + 1 ≤ q := by simp at h; omega
    unfold putAt
    rw [putAt_out c _ _ _ (by omega), List.getElem?_set_ne (by omega)]
theorem putAt_in : ∀ (c xs : List Value) (p j : Nat), j < c.length → p + c.length ≤ xs.length → (putAt xs p c)[p + j]? = c[j]?
  | u :: c, xs, p, 0, _, h => by
    unfold putAt
    rw [putAt_out c _ _ _ (by omega)]
    show (xs.set p u)[p]? = some u
    exact List.getElem?_set_self (by simp at h; omega)
  | u :: c, xs, p, j + 1, hj, h => by
    unfold putAt
    rw [show p + (j + 1) = p + 1 + j by omega, putAt_in c _ _ _ (by simpa using hj) (by simp at h ⊢; omega)]
    simp
/-- the row holds f's records at the places of P -/
def Holds (xs : List Value) (m : Nat) (f : Nat → List Value) (P : Nat → Prop) : Prop := ∀ k, P k → ∀ j, j < m → xs[k * m + j]? = (f k)[j]?
theorem holds_put {xs : List Value} {m n : Nat} {f : Nat → List Value} {P : Nat → Prop} (h : Holds xs m f P) (hl : xs.length = n * m) (hf : ∀ k, (f k).length = m) {k : Nat} (hk : k < n) : Holds (putAt xs (k * m) (f k)) m f (fun q => P q ∨ q = k) := by
  have h2 : k * m + m ≤ n * m := by have : (k + 1) * m ≤ n * m := Nat.mul_le_mul_right m hk; rw [Nat.succ_mul] at this; exact this
  intro q hq j hj
  by_cases e : q = k
  · subst e
    exact putAt_in _ _ _ _ (by rw [hf]; exact hj) (by rw [hf, hl]; exact h2)
  · rw [putAt_out]
    · exact h q (hq.resolve_right e) j hj
    · rw [hf]
      rcases Nat.lt_or_gt_of_ne e with e | e
      · left
        have : (q + 1) * m ≤ k * m := Nat.mul_le_mul_right m e
        rw [Nat.succ_mul] at this; omega
      · right
        have : (k + 1) * m ≤ q * m := Nat.mul_le_mul_right m e
        rw [Nat.succ_mul] at this; omega
theorem row_of {W : World} {g m n : Nat} {f : Nat → List Value} {xs : List Value} (hb : Blk W g xs) (h : Holds xs m f (fun k => k < n)) : RowC W g m f n :=
  ⟨hb.1, fun k hk j u hj hu => by
    have h1 := h k hk j hj
    rw [hu] at h1
    obtain ⟨h2, h3⟩ := List.getElem?_eq_some_iff.1 h1
    rw [(hb.2 _ h2).1, h3]⟩
theorem blk_put7 {W : World} {g : Nat} {xs : List Value} (h : Blk W g xs) {p : Nat} (hp : p + 7 ≤ xs.length) (a b c d e f g' : Value) :
    Blk (((((((W.setCell ⟨g, p, none⟩ a).setCell ⟨g, p + 1, none⟩ b).setCell ⟨g, p + 2, none⟩ c).setCell ⟨g, p + 3, none⟩ d).setCell ⟨g, p + 4, none⟩ e).setCell ⟨g, p + 5, none⟩ f).setCell ⟨g, p + 6, none⟩ g') g (putAt xs p [a, b, c, d, e, f, g']) :=
  ((((((h.set (k := p) (by omega) a).set (k := p + 1) (by simp; omega) b).set (k := p + 2) (by simp; omega) c).set (k := p + 3) (by simp; omega) d).set (k := p + 4) (by simp; omega) e).set (k := p + 5) (by simp; omega) f).set (k := p + 6) (by simp; omega) g'
theorem blk_put8 {W : World} {g : Nat} {xs : List Value} (h : Blk W g xs) {p : Nat} (hp : p + 8 ≤ xs.length) (a b c d e f g' h' : Value) :
    Blk ((((((((W.setCell ⟨g, p, none⟩ a).setCell ⟨g, p + 1, none⟩ b).setCell ⟨g, p + 2, none⟩ c).setCell ⟨g, p + 3, none⟩ d).setCell ⟨g, p + 4, none⟩ e).setCell ⟨g, p + 5, none⟩ f).setCell ⟨g, p + 6, none⟩ g').setCell ⟨g, p + 7, none⟩ h') g (putAt xs p [a, b, c, d, e, f, g', h']) :=
  (((((((h.set (k := p) (by omega) a).set (k := p + 1) (by simp; omega) b).set (k := p + 2) (by simp; omega) c).set (k := p + 3) (by simp; omega) d).set (k := p + 4) (by simp; omega) e).set (k := p + 5) (by simp; omega) f).set (k := p + 6) (by simp; omega) g').set (k := p + 7) (by simp; omega) h'
theorem below_put7 {B : Nat} {w W : World} (h : Below B w W) {g : Nat} (hg : B ≤ g) (p : Nat) (a b c d e f g' : Value) :
    Below B w (((((((W.setCell ⟨g, p, none⟩ a).setCell ⟨g, p + 1, none⟩ b).setCell ⟨g, p + 2, none⟩ c).setCell ⟨g, p + 3, none⟩ d).setCell ⟨g, p + 4, none⟩ e).setCell ⟨g, p + 5, none⟩ f).setCell ⟨g, p + 6, none⟩ g') :=
  ((((((h.setCell (p := ⟨g, p, none⟩) hg a).setCell (p := ⟨g, p + 1, none⟩) hg b).setCell (p := ⟨g, p + 2, none⟩) hg c).setCell (p := ⟨g, p + 3, none⟩) hg d).setCell (p := ⟨g, p + 4, none⟩) hg e).setCell (p := ⟨g, p + 5, none⟩) hg f).setCell (p := ⟨g, p + 6, none⟩) hg g'
theorem below_put8 {B : Nat} {w W : World} (h : Below B w W) {g : Nat} (hg : B ≤ g) (p : Nat) (a b c d e f g' h' : Value) :
    Below B w ((((((((W.setCell ⟨g, p, none⟩ a).setCell ⟨g, p + 1, none⟩ b).setCell ⟨g, p + 2, none⟩ c).setCell ⟨g, p + 3, none⟩ d).setCell ⟨g, p + 4, none⟩ e).setCell ⟨g, p + 5, none⟩ f).setCell ⟨g, p + 6, none⟩ g').setCell ⟨g, p + 7, none⟩ h') :=
  (below_put7 h hg p a b c d e f g').setCell (p := ⟨g, p + 7, none⟩) hg h'
theorem blk_cell {W : World} {g : Nat} {xs : List Value} (h : Blk W g xs) {q : Nat} {u : Value} (hu : xs[q]? = some u) : W.cell? ⟨g, q, none⟩ = some u := by
  obtain ⟨h2, h3⟩ := List.getElem?_eq_some_iff.1 hu
  rw [(h.2 _ h2).1, h3]
/-- make([]T, n) -/
theorem make_row {S E : TypeId} {z : Value} {m bytes : Nat} (hu : Try.prog.underlying S = some (.slice E)) (hi : (Try.prog.info? E).map (fun i => (i.zero, i.size, i.bytes)) = some (some z, m, bytes)) (hb : bytes ≤ 100) (n : Nat) (hn : n ≤ 1000000) (W : World) :
    (Instr.makeSlice S (.int .i64 (n : Int)) (.int .i64 (n : Int))).run Try.prog W = .ok (.slice (some ⟨W.heap.size, 0, none⟩) n n) (W.alloc (.cells (madeCells z.cells (n * m)) E)) := by
  obtain ⟨i0, hi, hz0, hz1, hz2⟩ := info_parts hi
  have hbn : bytes * n ≤ 100 * n := Nat.mul_le_mul_right n hb
  have := run_make (P := Try.prog) W S E i0 _ hu hi hz0 .i64 .i64 (n : Int) (n : Int) (by omega) (by omega) (by rw [hz2, ← Int.natCast_mul]; omega) (by omega)
  rw [this, hz1]
  simp only [Int.toNat_natCast]
theorem make_row1 {S E : TypeId} {z : Value} {m bytes : Nat} (zc : Array Value) (hzc : z.cells = zc) (hu : Try.prog.underlying S = some (.slice E)) (hi : (Try.prog.info? E).map (fun i => (i.zero, i.size, i.bytes)) = some (some z, m, bytes)) (hb : bytes ≤ 100) (n : Nat) (hn : n ≤ 10000) (W : World) :
    (Instr.makeSlice S (.int .i64 ((n : Int) + 1)) (.int .i64 ((n : Int) + 1))).run Try.prog W = .ok (.slice (some ⟨W.heap.size, 0, none⟩) (n + 1) (n + 1)) (W.alloc (.cells (madeCells zc ((n + 1) * m)) E)) := by
  subst hzc
  exact make_row hu hi hb (n + 1) (by omega) W
theorem made_len (z : Array Value) (n : Nat) : (madeCells z n).toList.length = n := by simp [madeCells]
end Go.Proofs.Ytkheepedjoimmaa
