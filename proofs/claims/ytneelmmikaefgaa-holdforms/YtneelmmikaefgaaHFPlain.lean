/- HoldForms: its table by hand, plainly; its literals in memory (laid by gen_hforms.py). -/
import Derived.Test.YtneelmmikaefgaaHRelease
import Derived.Test.YtneelmmikaefgaaLays
import Derived.Test.YtneelmmikaefgaaRefFilled
import Derived.Test.YtneelmmikaefgaaDLaw
namespace Go.Proofs.Ytneelmmikaefgaa
open Go.RowKit
set_option linter.unusedSimpArgs false
set_option linter.unusedVariables false

def hfR : List (List Int) := [[1, 2, 3], [4], []]
def hfL : List Int := [-1, -1, 0, -1, -1, 1]
def hfI : List Int := [-1, 2, -1]
theorem any_sort {α : Type} (key : α → Int) (l : List α) (p : α → Bool) : (sortBy key l).any p = l.any p := by
  rw [Bool.eq_iff_iff, List.any_eq_true, List.any_eq_true]
  constructor <;> rintro ⟨x, h, hp⟩ <;> exact ⟨x, by simpa [mem_sortBy] using h, hp⟩
theorem mayN_eq (rs : List (List Int)) (lk ic : List Int) (who : Int) (d : Edit) : mayN rs lk ic who d = mayB ((d.turns.filter fun t => decide (t.b ≠ t.a)).any (icedB ic)) ((d.ices.filter fun h => decide (h.b ≠ h.a)).any (othB who)) ((d.locks.filter fun h => decide (h.b ≠ h.a)).any (othB who)) ((d.turns.filter fun t => decide (t.b ≠ t.a)).any (movB rs lk who)) := by
  unfold mayN icedP movP tidyT holdsL
  rw [any_sort, any_sort, any_sort, any_sort]
def hfE (s : Nat) : Nat → Edit
  | 0 => ⟨[⟨0, .slice (some ⟨s, 0, none⟩) 3 3, .slice (some ⟨s + 1, 0, none⟩) 2 2, [1, 2, 3], [1, 2]⟩], [], []⟩
  | 1 => ⟨[⟨0, .slice (some ⟨s + 3, 0, none⟩) 3 3, .slice (some ⟨s + 4, 0, none⟩) 3 3, [1, 2, 3], [3, 2, 1]⟩], [], []⟩
  | 2 => ⟨[⟨0, .slice (some ⟨s + 6, 0, none⟩) 3 3, .slice (some ⟨s + 7, 0, none⟩) 2 2, [1, 2, 3], [2, 3]⟩], [], []⟩
  | 3 => ⟨[⟨0, .slice (some ⟨s + 9, 0, none⟩) 3 3, .slice (some ⟨s + 10, 0, none⟩) 2 2, [1, 2, 3], [2, 3]⟩], [], []⟩
  | 4 => ⟨[⟨0, .slice (some ⟨s + 12, 0, none⟩) 3 3, .slice (some ⟨s + 13, 0, none⟩) 2 2, [1, 2, 3], [1, 3]⟩], [], []⟩
  | 5 => ⟨[⟨2, .slice none 0 0, .slice (some ⟨s + 15, 0, none⟩) 1 1, [], [5]⟩], [], []⟩
  | 6 => ⟨[⟨2, .slice none 0 0, .slice (some ⟨s + 17, 0, none⟩) 1 1, [], [5]⟩], [], []⟩
  | 7 => ⟨[⟨1, .slice (some ⟨s + 19, 0, none⟩) 1 1, .slice none 0 0, [4], []⟩], [], []⟩
  | 8 => ⟨[⟨1, .slice (some ⟨s + 21, 0, none⟩) 1 1, .slice none 0 0, [4], []⟩], [], []⟩
  | 9 => ⟨[⟨1, .slice (some ⟨s + 23, 0, none⟩) 1 1, .slice (some ⟨s + 24, 0, none⟩) 1 1, [4], [4]⟩], [], []⟩
  | 10 => ⟨[], [], [⟨1, 2, -1⟩]⟩
  | 11 => ⟨[], [], [⟨1, 2, -1⟩]⟩
  | 12 => ⟨[], [], [⟨0, -1, 0⟩]⟩
  | 13 => ⟨[], [⟨2, 0, 1⟩], []⟩
  | 14 => ⟨[], [⟨2, 0, -1⟩], []⟩
  | 15 => ⟨[], [⟨1, -1, 0⟩], []⟩
  | 16 => ⟨[⟨0, .slice (some ⟨s + 32, 0, none⟩) 3 3, .slice (some ⟨s + 33, 0, none⟩) 2 2, [1, 2, 3], [1, 3]⟩, ⟨1, .slice (some ⟨s + 34, 0, none⟩) 1 1, .slice (some ⟨s + 35, 0, none⟩) 2 2, [4], [4, 2]⟩], [], []⟩
  | 17 => ⟨[⟨0, .slice (some ⟨s + 37, 0, none⟩) 3 3, .slice (some ⟨s + 38, 0, none⟩) 2 2, [1, 2, 3], [1, 3]⟩, ⟨2, .slice none 0 0, .slice (some ⟨s + 39, 0, none⟩) 1 1, [], [2]⟩], [], []⟩
  | _ => ⟨[], [], []⟩
def hfWho : Nat → Int
  | 0 => 1
  | 1 => 1
  | 2 => 1
  | 3 => 0
  | 4 => 1
  | 5 => 0
  | 6 => 1
  | 7 => 0
  | 8 => 2
  | 9 => 2
  | 10 => 2
  | 11 => 0
  | 12 => 0
  | 13 => 1
  | 14 => 0
  | 15 => 0
  | 16 => 1
  | 17 => 1
  | _ => 0
def hfErr : Nat → Int
  | 0 => 0
  | 1 => 0
  | 2 => 12
  | 3 => 0
  | 4 => 12
  | 5 => 12
  | 6 => 0
  | 7 => 11
  | 8 => 11
  | 9 => 0
  | 10 => 0
  | 11 => 11
  | 12 => 0
  | 13 => 12
  | 14 => 0
  | 15 => 0
  | 16 => 11
  | 17 => 12
  | _ => 0
theorem hf_ok (s k : Nat) (hk : k < 18) : mayN hfR hfL hfI (hfWho k) (hfE s k) = hfErr k := by
  rw [mayN_eq]
  match k, hk with
  | 0, _ => rfl
  | 1, _ => rfl
  | 2, _ => rfl
  | 3, _ => rfl
  | 4, _ => rfl
  | 5, _ => rfl
  | 6, _ => rfl
  | 7, _ => rfl
  | 8, _ => rfl
  | 9, _ => rfl
  | 10, _ => rfl
  | 11, _ => rfl
  | 12, _ => rfl
  | 13, _ => rfl
  | 14, _ => rfl
  | 15, _ => rfl
  | 16, _ => rfl
  | 17, _ => rfl
  | k + 18, h => exact absurd h (by omega)
def relL (who : Int) : List Hold := holdsL (endsL hfL 1 who (max 1 hfL.length))
def relI (who : Int) : List Hold := holdsL (endsL hfI 0 who (max 0 hfI.length))
theorem rel0 : relL 0 = [⟨2, 0, -1⟩] ∧ relI 0 = [] := ⟨rfl, rfl⟩
theorem rel1 : relL 1 = [⟨5, 1, -1⟩] ∧ relI 1 = [] := ⟨rfl, rfl⟩
theorem rel2 : relL 2 = [] ∧ relI 2 = [⟨1, 2, -1⟩] := ⟨rfl, rfl⟩
theorem ends_none {l : List Int} {lo : Nat} {who : Int} {k : Nat} (h : ∀ j, j < k → l.getD j 0 ≠ who) : endsL l lo who k = [] := by
  unfold endsL
  rw [List.map_eq_nil_iff, List.filter_eq_nil_iff]
  intro j hj
  have := h j (List.mem_range.1 hj)
  simp only [Bool.and_eq_true, decide_eq_true_eq]
  exact fun h => this h.2
theorem reln {who : Int} (h : 3 ≤ who) : relL who = [] ∧ relI who = [] := by
  constructor
  · unfold relL
    rw [ends_none]
    · rfl
    · intro j hj
      match j, hj with
      | 0, _ | 1, _ | 2, _ | 3, _ | 4, _ | 5, _ => simp [hfL]; omega
  · unfold relI
    rw [ends_none]
    · rfl
    · intro j hj
      match j, hj with
      | 0, _ | 1, _ | 2, _ => simp [hfI]; omega
theorem row_lit {W : World} {B n : Nat} {l : List Int} (hl : l.length = n) (h : Blk W B (ints l)) : Recs W 1 num_ (.slice (some ⟨B, 0, none⟩) n n) l := by
  have := recs_blk (cap := n) h
  rwa [hl] at this
theorem rows_none {α : Type} {W : World} {c : Nat} {f : α → List Value} : Rows W c f (.slice none 0 0) ([] : List α) := ⟨_, _, rfl, fun k hk => absurd hk (by simp)⟩
theorem turn_lit {W : World} {B : Nat} {t : Turn} (h : Blk W B [.int .i64 t.c, t.x, t.y]) (ho : t.ok W) : Turns W (.slice (some ⟨B, 0, none⟩) 1 1) [t] :=
  ⟨rows_blk (f := Turn.cells) (l := [t]) (by simpa [Turn.cells] using h) turn_len, fun x hx => by rw [List.mem_singleton] at hx; subst hx; exact ho⟩
theorem turn_lit2 {W : World} {B : Nat} {t s : Turn} (h : Blk W B [.int .i64 t.c, t.x, t.y, .int .i64 s.c, s.x, s.y]) (ho : t.ok W) (hs : s.ok W) : Turns W (.slice (some ⟨B, 0, none⟩) 2 2) [t, s] :=
  ⟨rows_blk (f := Turn.cells) (l := [t, s]) (by simpa [Turn.cells] using h) turn_len, fun x hx => by
    simp only [List.mem_cons, List.not_mem_nil, or_false] at hx
    rcases hx with rfl | rfl
    · exact ho
    · exact hs⟩
theorem hold_lit {W : World} {B : Nat} {h : Hold} (hb : Blk W B [.int .i64 h.n, .int .i64 h.b, .int .i64 h.a]) : Rows W 3 Hold.cells (.slice (some ⟨B, 0, none⟩) 1 1) [h] :=
  rows_blk (f := Hold.cells) (l := [h]) (by simpa [Hold.cells, holdNums, ints] using hb) hold_len
def HRow (W : World) (T k : Nat) (who : Int) (d : Edit) (e : Int) : Prop := ∃ At Al Ai ct cl ci, W.cell? ⟨T, k * 5, none⟩ = some (.int .i64 who) ∧ W.cell? ⟨T, k * 5 + 1, none⟩ = some (.slice At d.turns.length ct) ∧ W.cell? ⟨T, k * 5 + 2, none⟩ = some (.slice Al d.locks.length cl) ∧ W.cell? ⟨T, k * 5 + 3, none⟩ = some (.slice Ai d.ices.length ci) ∧ W.cell? ⟨T, k * 5 + 4, none⟩ = some (.int .i64 e) ∧ EditIn W At Al Ai ct cl ci d
def HTab (W : World) (T : Nat) : Prop := T < W.heap.size ∧ ∀ k, k < 18 → ∃ who d e, mayN hfR hfL hfI who d = e ∧ HRow W T k who d e
theorem HTab.below {W W' : World} {T : Nat} (h : HTab W T) (hb : Below W.heap.size W W') : HTab W' T := by
  refine ⟨Nat.lt_of_lt_of_le h.1 hb.size, fun k hk => ?_⟩
  obtain ⟨who, d, e, h1, At, Al, Ai, ct, cl, ci, a, b, c, f, i, g⟩ := h.2 k hk
  exact ⟨who, d, e, h1, At, Al, Ai, ct, cl, ci, by rw [hb.cell h.1]; exact a, by rw [hb.cell h.1]; exact b, by rw [hb.cell h.1]; exact c, by rw [hb.cell h.1]; exact f, by rw [hb.cell h.1]; exact i, g.below hb⟩
def hfTabL (w : World) : List Obj := [
  .cells #[.int .i64 1, .int .i64 2, .int .i64 3] 3,
  .cells #[.int .i64 1, .int .i64 2] 3,
  .cells #[.int .i64 0, .slice (some ⟨w.heap.size, 0, none⟩) 3 3, .slice (some ⟨w.heap.size + 1, 0, none⟩) 2 2] 27,
  .cells #[.int .i64 1, .int .i64 2, .int .i64 3] 3,
  .cells #[.int .i64 3, .int .i64 2, .int .i64 1] 3,
  .cells #[.int .i64 0, .slice (some ⟨w.heap.size + 3, 0, none⟩) 3 3, .slice (some ⟨w.heap.size + 4, 0, none⟩) 3 3] 27,
  .cells #[.int .i64 1, .int .i64 2, .int .i64 3] 3,
  .cells #[.int .i64 2, .int .i64 3] 3,
  .cells #[.int .i64 0, .slice (some ⟨w.heap.size + 6, 0, none⟩) 3 3, .slice (some ⟨w.heap.size + 7, 0, none⟩) 2 2] 27,
  .cells #[.int .i64 1, .int .i64 2, .int .i64 3] 3,
  .cells #[.int .i64 2, .int .i64 3] 3,
  .cells #[.int .i64 0, .slice (some ⟨w.heap.size + 9, 0, none⟩) 3 3, .slice (some ⟨w.heap.size + 10, 0, none⟩) 2 2] 27,
  .cells #[.int .i64 1, .int .i64 2, .int .i64 3] 3,
  .cells #[.int .i64 1, .int .i64 3] 3,
  .cells #[.int .i64 0, .slice (some ⟨w.heap.size + 12, 0, none⟩) 3 3, .slice (some ⟨w.heap.size + 13, 0, none⟩) 2 2] 27,
  .cells #[.int .i64 5] 3,
  .cells #[.int .i64 2, .slice none 0 0, .slice (some ⟨w.heap.size + 15, 0, none⟩) 1 1] 27,
  .cells #[.int .i64 5] 3,
  .cells #[.int .i64 2, .slice none 0 0, .slice (some ⟨w.heap.size + 17, 0, none⟩) 1 1] 27,
  .cells #[.int .i64 4] 3,
  .cells #[.int .i64 1, .slice (some ⟨w.heap.size + 19, 0, none⟩) 1 1, .slice none 0 0] 27,
  .cells #[.int .i64 4] 3,
  .cells #[.int .i64 1, .slice (some ⟨w.heap.size + 21, 0, none⟩) 1 1, .slice none 0 0] 27,
  .cells #[.int .i64 4] 3,
  .cells #[.int .i64 4] 3,
  .cells #[.int .i64 1, .slice (some ⟨w.heap.size + 23, 0, none⟩) 1 1, .slice (some ⟨w.heap.size + 24, 0, none⟩) 1 1] 27,
  .cells #[.int .i64 1, .int .i64 2, .int .i64 (-1)] 35,
  .cells #[.int .i64 1, .int .i64 2, .int .i64 (-1)] 35,
  .cells #[.int .i64 0, .int .i64 (-1), .int .i64 0] 35,
  .cells #[.int .i64 2, .int .i64 0, .int .i64 1] 35,
  .cells #[.int .i64 2, .int .i64 0, .int .i64 (-1)] 35,
  .cells #[.int .i64 1, .int .i64 (-1), .int .i64 0] 35,
  .cells #[.int .i64 1, .int .i64 2, .int .i64 3] 3,
  .cells #[.int .i64 1, .int .i64 3] 3,
  .cells #[.int .i64 4] 3,
  .cells #[.int .i64 4, .int .i64 2] 3,
  .cells #[.int .i64 0, .slice (some ⟨w.heap.size + 32, 0, none⟩) 3 3, .slice (some ⟨w.heap.size + 33, 0, none⟩) 2 2, .int .i64 1, .slice (some ⟨w.heap.size + 34, 0, none⟩) 1 1, .slice (some ⟨w.heap.size + 35, 0, none⟩) 2 2] 27,
  .cells #[.int .i64 1, .int .i64 2, .int .i64 3] 3,
  .cells #[.int .i64 1, .int .i64 3] 3,
  .cells #[.int .i64 2] 3,
  .cells #[.int .i64 0, .slice (some ⟨w.heap.size + 37, 0, none⟩) 3 3, .slice (some ⟨w.heap.size + 38, 0, none⟩) 2 2, .int .i64 2, .slice none 0 0, .slice (some ⟨w.heap.size + 39, 0, none⟩) 1 1] 27,
  .cells #[.int .i64 1, .slice (some ⟨w.heap.size + 2, 0, none⟩) 1 1, .slice none 0 0, .slice none 0 0, .int .i64 0, .int .i64 1, .slice (some ⟨w.heap.size + 5, 0, none⟩) 1 1, .slice none 0 0, .slice none 0 0, .int .i64 0, .int .i64 1, .slice (some ⟨w.heap.size + 8, 0, none⟩) 1 1, .slice none 0 0, .slice none 0 0, .int .i64 12, .int .i64 0, .slice (some ⟨w.heap.size + 11, 0, none⟩) 1 1, .slice none 0 0, .slice none 0 0, .int .i64 0, .int .i64 1, .slice (some ⟨w.heap.size + 14, 0, none⟩) 1 1, .slice none 0 0, .slice none 0 0, .int .i64 12, .int .i64 0, .slice (some ⟨w.heap.size + 16, 0, none⟩) 1 1, .slice none 0 0, .slice none 0 0, .int .i64 12, .int .i64 1, .slice (some ⟨w.heap.size + 18, 0, none⟩) 1 1, .slice none 0 0, .slice none 0 0, .int .i64 0, .int .i64 0, .slice (some ⟨w.heap.size + 20, 0, none⟩) 1 1, .slice none 0 0, .slice none 0 0, .int .i64 11, .int .i64 2, .slice (some ⟨w.heap.size + 22, 0, none⟩) 1 1, .slice none 0 0, .slice none 0 0, .int .i64 11, .int .i64 2, .slice (some ⟨w.heap.size + 25, 0, none⟩) 1 1, .slice none 0 0, .slice none 0 0, .int .i64 0, .int .i64 2, .slice none 0 0, .slice none 0 0, .slice (some ⟨w.heap.size + 26, 0, none⟩) 1 1, .int .i64 0, .int .i64 0, .slice none 0 0, .slice none 0 0, .slice (some ⟨w.heap.size + 27, 0, none⟩) 1 1, .int .i64 11, .int .i64 0, .slice none 0 0, .slice none 0 0, .slice (some ⟨w.heap.size + 28, 0, none⟩) 1 1, .int .i64 0, .int .i64 1, .slice none 0 0, .slice (some ⟨w.heap.size + 29, 0, none⟩) 1 1, .slice none 0 0, .int .i64 12, .int .i64 0, .slice none 0 0, .slice (some ⟨w.heap.size + 30, 0, none⟩) 1 1, .slice none 0 0, .int .i64 0, .int .i64 0, .slice none 0 0, .slice (some ⟨w.heap.size + 31, 0, none⟩) 1 1, .slice none 0 0, .int .i64 0, .int .i64 1, .slice (some ⟨w.heap.size + 36, 0, none⟩) 2 2, .slice none 0 0, .slice none 0 0, .int .i64 11, .int .i64 1, .slice (some ⟨w.heap.size + 40, 0, none⟩) 2 2, .slice none 0 0, .slice none 0 0, .int .i64 12] 33]
set_option maxRecDepth 100000 in
set_option maxHeartbeats 2000000 in
theorem hf_lay (w : World) : HTab (lays w (hfTabL w)) (w.heap.size + 41) := by
  have hT := lays_blk (hfTabL w) w 41 rfl
  have short : ∀ k, k < 18 → ∀ t ∈ (hfE w.heap.size k).turns, t.b.length ≤ 1000000 ∧ t.a.length ≤ 1000000 := fun k hk t ht => by
    match k, hk with
    | 0, _ | 1, _ | 2, _ | 3, _ | 4, _ | 5, _ | 6, _ | 7, _ | 8, _ | 9, _ =>
      simp only [hfE, List.mem_singleton] at ht
      subst ht
      exact ⟨by simp, by simp⟩
    | 16, _ | 17, _ =>
      simp only [hfE, List.mem_cons, List.not_mem_nil, or_false] at ht
      rcases ht with rfl | rfl <;> exact ⟨by simp, by simp⟩
    | 10, _ | 11, _ | 12, _ | 13, _ | 14, _ | 15, _ => cases ht
    | k + 18, h => exact absurd h (by omega)
  refine ⟨hT.1, fun k hk => ⟨hfWho k, hfE w.heap.size k, hfErr k, hf_ok _ k hk, ?_⟩⟩
  have sh := short k hk
  match k, hk with
  | 0, _ => exact ⟨_, _, _, _, _, _, (hT.2 0 (show 0 < 90 from by decide)).1, (hT.2 1 (show 1 < 90 from by decide)).1, (hT.2 2 (show 2 < 90 from by decide)).1, (hT.2 3 (show 3 < 90 from by decide)).1, (hT.2 4 (show 4 < 90 from by decide)).1, ⟨turn_lit (lays_blk (hfTabL w) w 2 rfl) ⟨row_lit (l := [1, 2, 3]) rfl (lays_blk (hfTabL w) w 0 rfl), row_lit (l := [1, 2]) rfl (lays_blk (hfTabL w) w 1 rfl)⟩, rows_none, rows_none, by simp [hfE], by simp [hfE], by simp [hfE], sh⟩⟩
  | 1, _ => exact ⟨_, _, _, _, _, _, (hT.2 5 (show 5 < 90 from by decide)).1, (hT.2 6 (show 6 < 90 from by decide)).1, (hT.2 7 (show 7 < 90 from by decide)).1, (hT.2 8 (show 8 < 90 from by decide)).1, (hT.2 9 (show 9 < 90 from by decide)).1, ⟨turn_lit (lays_blk (hfTabL w) w 5 rfl) ⟨row_lit (l := [1, 2, 3]) rfl (lays_blk (hfTabL w) w 3 rfl), row_lit (l := [3, 2, 1]) rfl (lays_blk (hfTabL w) w 4 rfl)⟩, rows_none, rows_none, by simp [hfE], by simp [hfE], by simp [hfE], sh⟩⟩
  | 2, _ => exact ⟨_, _, _, _, _, _, (hT.2 10 (show 10 < 90 from by decide)).1, (hT.2 11 (show 11 < 90 from by decide)).1, (hT.2 12 (show 12 < 90 from by decide)).1, (hT.2 13 (show 13 < 90 from by decide)).1, (hT.2 14 (show 14 < 90 from by decide)).1, ⟨turn_lit (lays_blk (hfTabL w) w 8 rfl) ⟨row_lit (l := [1, 2, 3]) rfl (lays_blk (hfTabL w) w 6 rfl), row_lit (l := [2, 3]) rfl (lays_blk (hfTabL w) w 7 rfl)⟩, rows_none, rows_none, by simp [hfE], by simp [hfE], by simp [hfE], sh⟩⟩
  | 3, _ => exact ⟨_, _, _, _, _, _, (hT.2 15 (show 15 < 90 from by decide)).1, (hT.2 16 (show 16 < 90 from by decide)).1, (hT.2 17 (show 17 < 90 from by decide)).1, (hT.2 18 (show 18 < 90 from by decide)).1, (hT.2 19 (show 19 < 90 from by decide)).1, ⟨turn_lit (lays_blk (hfTabL w) w 11 rfl) ⟨row_lit (l := [1, 2, 3]) rfl (lays_blk (hfTabL w) w 9 rfl), row_lit (l := [2, 3]) rfl (lays_blk (hfTabL w) w 10 rfl)⟩, rows_none, rows_none, by simp [hfE], by simp [hfE], by simp [hfE], sh⟩⟩
  | 4, _ => exact ⟨_, _, _, _, _, _, (hT.2 20 (show 20 < 90 from by decide)).1, (hT.2 21 (show 21 < 90 from by decide)).1, (hT.2 22 (show 22 < 90 from by decide)).1, (hT.2 23 (show 23 < 90 from by decide)).1, (hT.2 24 (show 24 < 90 from by decide)).1, ⟨turn_lit (lays_blk (hfTabL w) w 14 rfl) ⟨row_lit (l := [1, 2, 3]) rfl (lays_blk (hfTabL w) w 12 rfl), row_lit (l := [1, 3]) rfl (lays_blk (hfTabL w) w 13 rfl)⟩, rows_none, rows_none, by simp [hfE], by simp [hfE], by simp [hfE], sh⟩⟩
  | 5, _ => exact ⟨_, _, _, _, _, _, (hT.2 25 (show 25 < 90 from by decide)).1, (hT.2 26 (show 26 < 90 from by decide)).1, (hT.2 27 (show 27 < 90 from by decide)).1, (hT.2 28 (show 28 < 90 from by decide)).1, (hT.2 29 (show 29 < 90 from by decide)).1, ⟨turn_lit (lays_blk (hfTabL w) w 16 rfl) ⟨Recs.nil, row_lit (l := [5]) rfl (lays_blk (hfTabL w) w 15 rfl)⟩, rows_none, rows_none, by simp [hfE], by simp [hfE], by simp [hfE], sh⟩⟩
  | 6, _ => exact ⟨_, _, _, _, _, _, (hT.2 30 (show 30 < 90 from by decide)).1, (hT.2 31 (show 31 < 90 from by decide)).1, (hT.2 32 (show 32 < 90 from by decide)).1, (hT.2 33 (show 33 < 90 from by decide)).1, (hT.2 34 (show 34 < 90 from by decide)).1, ⟨turn_lit (lays_blk (hfTabL w) w 18 rfl) ⟨Recs.nil, row_lit (l := [5]) rfl (lays_blk (hfTabL w) w 17 rfl)⟩, rows_none, rows_none, by simp [hfE], by simp [hfE], by simp [hfE], sh⟩⟩
  | 7, _ => exact ⟨_, _, _, _, _, _, (hT.2 35 (show 35 < 90 from by decide)).1, (hT.2 36 (show 36 < 90 from by decide)).1, (hT.2 37 (show 37 < 90 from by decide)).1, (hT.2 38 (show 38 < 90 from by decide)).1, (hT.2 39 (show 39 < 90 from by decide)).1, ⟨turn_lit (lays_blk (hfTabL w) w 20 rfl) ⟨row_lit (l := [4]) rfl (lays_blk (hfTabL w) w 19 rfl), Recs.nil⟩, rows_none, rows_none, by simp [hfE], by simp [hfE], by simp [hfE], sh⟩⟩
  | 8, _ => exact ⟨_, _, _, _, _, _, (hT.2 40 (show 40 < 90 from by decide)).1, (hT.2 41 (show 41 < 90 from by decide)).1, (hT.2 42 (show 42 < 90 from by decide)).1, (hT.2 43 (show 43 < 90 from by decide)).1, (hT.2 44 (show 44 < 90 from by decide)).1, ⟨turn_lit (lays_blk (hfTabL w) w 22 rfl) ⟨row_lit (l := [4]) rfl (lays_blk (hfTabL w) w 21 rfl), Recs.nil⟩, rows_none, rows_none, by simp [hfE], by simp [hfE], by simp [hfE], sh⟩⟩
  | 9, _ => exact ⟨_, _, _, _, _, _, (hT.2 45 (show 45 < 90 from by decide)).1, (hT.2 46 (show 46 < 90 from by decide)).1, (hT.2 47 (show 47 < 90 from by decide)).1, (hT.2 48 (show 48 < 90 from by decide)).1, (hT.2 49 (show 49 < 90 from by decide)).1, ⟨turn_lit (lays_blk (hfTabL w) w 25 rfl) ⟨row_lit (l := [4]) rfl (lays_blk (hfTabL w) w 23 rfl), row_lit (l := [4]) rfl (lays_blk (hfTabL w) w 24 rfl)⟩, rows_none, rows_none, by simp [hfE], by simp [hfE], by simp [hfE], sh⟩⟩
  | 10, _ => exact ⟨_, _, _, _, _, _, (hT.2 50 (show 50 < 90 from by decide)).1, (hT.2 51 (show 51 < 90 from by decide)).1, (hT.2 52 (show 52 < 90 from by decide)).1, (hT.2 53 (show 53 < 90 from by decide)).1, (hT.2 54 (show 54 < 90 from by decide)).1, ⟨⟨rows_none, fun t ht => by cases ht⟩, rows_none, hold_lit (lays_blk (hfTabL w) w 26 rfl), by simp [hfE], by simp [hfE], by simp [hfE], sh⟩⟩
  | 11, _ => exact ⟨_, _, _, _, _, _, (hT.2 55 (show 55 < 90 from by decide)).1, (hT.2 56 (show 56 < 90 from by decide)).1, (hT.2 57 (show 57 < 90 from by decide)).1, (hT.2 58 (show 58 < 90 from by decide)).1, (hT.2 59 (show 59 < 90 from by decide)).1, ⟨⟨rows_none, fun t ht => by cases ht⟩, rows_none, hold_lit (lays_blk (hfTabL w) w 27 rfl), by simp [hfE], by simp [hfE], by simp [hfE], sh⟩⟩
  | 12, _ => exact ⟨_, _, _, _, _, _, (hT.2 60 (show 60 < 90 from by decide)).1, (hT.2 61 (show 61 < 90 from by decide)).1, (hT.2 62 (show 62 < 90 from by decide)).1, (hT.2 63 (show 63 < 90 from by decide)).1, (hT.2 64 (show 64 < 90 from by decide)).1, ⟨⟨rows_none, fun t ht => by cases ht⟩, rows_none, hold_lit (lays_blk (hfTabL w) w 28 rfl), by simp [hfE], by simp [hfE], by simp [hfE], sh⟩⟩
  | 13, _ => exact ⟨_, _, _, _, _, _, (hT.2 65 (show 65 < 90 from by decide)).1, (hT.2 66 (show 66 < 90 from by decide)).1, (hT.2 67 (show 67 < 90 from by decide)).1, (hT.2 68 (show 68 < 90 from by decide)).1, (hT.2 69 (show 69 < 90 from by decide)).1, ⟨⟨rows_none, fun t ht => by cases ht⟩, hold_lit (lays_blk (hfTabL w) w 29 rfl), rows_none, by simp [hfE], by simp [hfE], by simp [hfE], sh⟩⟩
  | 14, _ => exact ⟨_, _, _, _, _, _, (hT.2 70 (show 70 < 90 from by decide)).1, (hT.2 71 (show 71 < 90 from by decide)).1, (hT.2 72 (show 72 < 90 from by decide)).1, (hT.2 73 (show 73 < 90 from by decide)).1, (hT.2 74 (show 74 < 90 from by decide)).1, ⟨⟨rows_none, fun t ht => by cases ht⟩, hold_lit (lays_blk (hfTabL w) w 30 rfl), rows_none, by simp [hfE], by simp [hfE], by simp [hfE], sh⟩⟩
  | 15, _ => exact ⟨_, _, _, _, _, _, (hT.2 75 (show 75 < 90 from by decide)).1, (hT.2 76 (show 76 < 90 from by decide)).1, (hT.2 77 (show 77 < 90 from by decide)).1, (hT.2 78 (show 78 < 90 from by decide)).1, (hT.2 79 (show 79 < 90 from by decide)).1, ⟨⟨rows_none, fun t ht => by cases ht⟩, hold_lit (lays_blk (hfTabL w) w 31 rfl), rows_none, by simp [hfE], by simp [hfE], by simp [hfE], sh⟩⟩
  | 16, _ => exact ⟨_, _, _, _, _, _, (hT.2 80 (show 80 < 90 from by decide)).1, (hT.2 81 (show 81 < 90 from by decide)).1, (hT.2 82 (show 82 < 90 from by decide)).1, (hT.2 83 (show 83 < 90 from by decide)).1, (hT.2 84 (show 84 < 90 from by decide)).1, ⟨turn_lit2 (lays_blk (hfTabL w) w 36 rfl) ⟨row_lit (l := [1, 2, 3]) rfl (lays_blk (hfTabL w) w 32 rfl), row_lit (l := [1, 3]) rfl (lays_blk (hfTabL w) w 33 rfl)⟩ ⟨row_lit (l := [4]) rfl (lays_blk (hfTabL w) w 34 rfl), row_lit (l := [4, 2]) rfl (lays_blk (hfTabL w) w 35 rfl)⟩, rows_none, rows_none, by simp [hfE], by simp [hfE], by simp [hfE], sh⟩⟩
  | 17, _ => exact ⟨_, _, _, _, _, _, (hT.2 85 (show 85 < 90 from by decide)).1, (hT.2 86 (show 86 < 90 from by decide)).1, (hT.2 87 (show 87 < 90 from by decide)).1, (hT.2 88 (show 88 < 90 from by decide)).1, (hT.2 89 (show 89 < 90 from by decide)).1, ⟨turn_lit2 (lays_blk (hfTabL w) w 40 rfl) ⟨row_lit (l := [1, 2, 3]) rfl (lays_blk (hfTabL w) w 37 rfl), row_lit (l := [1, 3]) rfl (lays_blk (hfTabL w) w 38 rfl)⟩ ⟨Recs.nil, row_lit (l := [2]) rfl (lays_blk (hfTabL w) w 39 rfl)⟩, rows_none, rows_none, by simp [hfE], by simp [hfE], by simp [hfE], sh⟩⟩
  | k + 18, h => exact absurd h (by omega)
end Go.Proofs.Ytneelmmikaefgaa
