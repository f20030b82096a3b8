/- Allocations one after the other. · PlanForms: what the edits by hand make of the plan, plainly. · PlanForms: the literals of its text in memory (laid by gen_p8walk.py). · draymanlaw08's example, and PlanForms, walked (laid by gen_p8w.py). -/
import Derived.Test.YtpccoflebfblbaaBlk
import Derived.Below
import Derived.Test.YtpccoflebfblbaaZD
import Derived.Test.YtpccoflebfblbaaDLaw
import Derived.Test.YtpccoflebfblbaaKeep
namespace Go.Proofs.Ytpccoflebfblbaa
open Go.RowKit
set_option linter.unusedSimpArgs false

def lays (w : World) : List Obj → World
  | [] => w
  | b :: l => lays (w.alloc b) l
theorem lays_below {w0 : World} {B : Nat} : ∀ (l : List Obj) {w : World}, Below B w0 w → B ≤ w.heap.size → Below B w0 (lays w l)
  | [], _, h, _ => h
  | b :: l, w, h, hB => lays_below l (h.alloc hB b) (by simp; omega)
theorem lays_keep {B : Nat} {c : List Value} : ∀ (l : List Obj) {w : World}, Blk w B c → Blk (lays w l) B c
  | [], _, h => h
  | b :: l, _, h => lays_keep l (h.alloc b)
theorem lays_blk {c : Array Value} {t : TypeId} : ∀ (l : List Obj) (w : World) (k : Nat), l[k]? = some (.cells c t) → Blk (lays w l) (w.heap.size + k) c.toList
  | [], _, _, h => by simp at h
  | b :: l, w, 0, h => by
    obtain rfl : b = .cells c t := by simpa using h
    exact lays_keep l (blk_new w c t)
  | b :: l, w, k + 1, h => by
    have := lays_blk l (w.alloc b) k (by simpa using h)
    rw [show (w.alloc b).heap.size + k = w.heap.size + (k + 1) by simp; omega] at this
    exact this
end Go.Proofs.Ytpccoflebfblbaa
namespace Go.Proofs.Ytpccoflebfblbaa
open Go.RowKit
set_option linter.unusedSimpArgs false
set_option linter.unusedVariables false

theorem twiceI_eq (l : List Int) : twiceI l = decide (¬ l.Nodup) := by
  cases h : twiceI l
  · have h2 : ¬ twiceI l = true := by rw [h]; decide
    rw [twiceI_iff] at h2
    exact (decide_eq_false h2).symm
  · exact (decide_eq_true ((twiceI_iff l).1 h)).symm
theorem moved_is {d : Edit} {l : List Int} (hs : StrictI l) (h : ∀ x, x ∈ l ↔ (x ∈ befE d ∧ x ∉ aftE d) ∨ (x ∈ aftE d ∧ x ∉ befE d)) : movedE d = l :=
  strict_same (movedE_strict d) hs (fun y => by rw [movedE_mem, h])
theorem rises_is {d : Edit} {l : List Int} (hs : StrictI l) (h : ∀ x, x ∈ l ↔ x ∈ movedE d ∨ x ∈ d.locks.map Hold.n) : risesE d = l :=
  strict_same (compact_strict (sortI_rising _)) hs (fun y => by rw [risesE_mem, h])
theorem done_is {p : PlanP} {d : Edit} {m r : List Int} (hm : movedE (tidyE2 d) = m) (hr : risesE (tidyE2 d) = r) :
    doneP p d = ⟨putR p.routes d.turns, putH p.lock d.locks, putH p.ice d.ices, bump p.rv ((tidyT d.turns).map Turn.c), bump p.sv r, bump p.iv ((holdsL d.ices).map Hold.n), if 0 < m.length then wrap64 (p.pv + 1) else p.pv⟩ := by
  unfold doneP raiseP changeP
  rw [hm, hr]
  rfl
/-- the problem by hand -/
def formProb : Prob := ⟨[⟨9, 0, 99⟩, ⟨9, 0, 99⟩], [⟨0, 0, 99, 0⟩, ⟨0, 0, 99, 0⟩, ⟨0, 0, 99, 0⟩], [], [[0, 1, 2, 3], [1, 0, 4, 5], [2, 4, 0, 6], [3, 5, 6, 0]]⟩
theorem form_ok : probOk formProb = true := by decide
theorem form_new : newPlan formProb = planN 2 4 := by unfold newPlan; rw [form_ok]; rfl
def formP : PlanP := ⟨[[1, 2], []], [-1, -1, 3, -1], [-1, -1], [1, 0], [0, 1, 1, 0], [0, 0], 1⟩
def formQ : PlanP := ⟨[[2], [1]], [-1, -1, 3, -1], [-1, 0], [2, 1], [0, 1, 1, 0], [0, 1], 1⟩
theorem fit_new : PlanFit (planN 2 4) := ⟨by decide, by decide, by decide, by decide, by decide, by decide, by decide⟩
theorem fit_p : PlanFit formP := ⟨by decide, by decide, by decide, by decide, by decide, by decide, by decide⟩
theorem fit_q : PlanFit formQ := ⟨by decide, by decide, by decide, by decide, by decide, by decide, by decide⟩
def e1T (u : Value) : Edit := ⟨[⟨0, .slice none 0 0, u, [], [1, 2]⟩], [⟨2, -1, 3⟩], []⟩
theorem e1_bad (u : Value) : badP (planN 2 4) (e1T u) = false := by
  simp [badP, twiceE, twiceI_eq, thereP, turnThere, carB, stopsB, holdIn, e1T, planN, putR]
theorem e1_same (u : Value) : applySame (planN 2 4) (e1T u) = true := by
  simp [applySame, turnSame, holdSame, e1T, planN]
theorem e1_done (u : Value) : doneP (planN 2 4) (e1T u) = formP := by
  have t : tidyE2 (e1T u) = e1T u := rfl
  have hm : movedE (tidyE2 (e1T u)) = [1, 2] := moved_is (by unfold StrictI; decide) (fun x => by rw [t]; simp [befE, aftE, e1T])
  have hr : risesE (tidyE2 (e1T u)) = [1, 2] := rises_is (by unfold StrictI; decide) (fun x => by rw [hm, t]; simp [e1T] <;> omega)
  have h1 : (tidyT (e1T u).turns).map Turn.c = [0] := rfl
  have h2 : (holdsL (e1T u).ices).map Hold.n = [] := rfl
  rw [done_is hm hr, h1, h2]
  exact (PlanP.mk.injEq ..).mpr ⟨rfl, rfl, rfl, by decide +kernel, by decide +kernel, by decide +kernel, by decide +kernel⟩
def e2T (u v x : Value) : Edit := ⟨[⟨0, u, v, [1, 2], [2]⟩, ⟨1, .slice none 0 0, x, [], [1]⟩], [], [⟨1, -1, 0⟩]⟩
theorem e2_bad (u v x : Value) : badP formP (e2T u v x) = false := by
  simp [badP, twiceE, twiceI_eq, thereP, turnThere, carB, stopsB, holdIn, e2T, formP, putR]
theorem e2_same (u v x : Value) : applySame formP (e2T u v x) = true := by
  simp [applySame, turnSame, holdSame, e2T, formP]
theorem e2_done (u v x : Value) : doneP formP (e2T u v x) = formQ := by
  have t : tidyE2 (e2T u v x) = e2T u v x := rfl
  have hm : movedE (tidyE2 (e2T u v x)) = [] := moved_is (by unfold StrictI; decide) (fun y => by rw [t]; simp [befE, aftE, e2T]; omega)
  have hr : risesE (tidyE2 (e2T u v x)) = [] := rises_is (by unfold StrictI; decide) (fun y => by rw [hm, t]; simp [e2T])
  have h1 : (tidyT (e2T u v x).turns).map Turn.c = [0, 1] := rfl
  have h2 : (holdsL (e2T u v x).ices).map Hold.n = [1] := rfl
  rw [done_is hm hr, h1, h2]
  exact (PlanP.mk.injEq ..).mpr ⟨rfl, rfl, rfl, by decide +kernel, by decide +kernel, by decide +kernel, by decide +kernel⟩
/-- which error an edit of the table has -/
def RowOk (d : Edit) (e : Int) : Prop := (e = 1 ∧ badP formQ d = true) ∨ (e = 15 ∧ badP formQ d = false ∧ applySame formQ d = false)
theorem rowOk_end {d : Edit} {e n : Int} {q : PlanP} (h : RowOk d e) (hi : PApplyIs formQ d q n) : n = e ∧ q = noPlan := by
  rcases h with ⟨rfl, h1⟩ | ⟨rfl, h1, h2⟩ <;> rcases hi with ⟨a, b, c⟩ | ⟨a, b, c, f⟩ | ⟨a, b, c, f⟩
  · exact ⟨b, c⟩
  · rw [h1] at a; cases a
  · rw [h1] at a; cases a
  · rw [h1] at a; cases a
  · exact ⟨c, f⟩
  · rw [h2] at b; cases b
def n0 : Value := .slice none 0 0
def tabE (S m : Nat) : Nat → Edit
  | 0 => ⟨[⟨1 + (m : Int), n0, n0, [], []⟩], [], []⟩
  | 1 => ⟨[⟨-(m : Int), n0, n0, [], []⟩], [], []⟩
  | 2 => ⟨[⟨0, .slice (some ⟨S + 2, 0, none⟩) 1 1, .slice (some ⟨S + 3, 0, none⟩) 1 1, [2], [3 + (m : Int)]⟩], [], []⟩
  | 3 => ⟨[⟨0, .slice (some ⟨S + 5, 0, none⟩) 1 1, .slice (some ⟨S + 6, 0, none⟩) 1 1, [2], [0]⟩], [], []⟩
  | 4 => ⟨[⟨0, .slice (some ⟨S + 8, 0, none⟩) 1 1, .slice (some ⟨S + 9, 0, none⟩) 2 2, [2], [2, 1]⟩], [], []⟩
  | 5 => ⟨[⟨0, .slice (some ⟨S + 11, 0, none⟩) 1 1, .slice (some ⟨S + 12, 0, none⟩) 2 2, [2], [3, 3]⟩], [], []⟩
  | 6 => ⟨[⟨0, .slice (some ⟨S + 14, 0, none⟩) 1 1, .slice (some ⟨S + 15, 0, none⟩) 1 1, [1], [2]⟩], [], []⟩
  | 7 => ⟨[⟨0, n0, n0, [], []⟩], [], []⟩
  | 8 => ⟨[], [⟨0, -1, 1⟩], []⟩
  | 9 => ⟨[], [⟨3 + (m : Int), -1, 1⟩], []⟩
  | 10 => ⟨[], [⟨2, -1, 1⟩], []⟩
  | 11 => ⟨[], [], [⟨1 + (m : Int), -1, 1⟩]⟩
  | _ => ⟨[], [], [⟨1, -1, 1⟩]⟩
def tabN : Nat → Int
  | 6 | 7 | 10 | 12 => 15
  | _ => 1
theorem tab_ok (S m : Nat) (hm : 1 ≤ m) : ∀ k, k < 13 → RowOk (tabE S m k) (tabN k) := by
  intro k hk
  match k, hk with
  | 0, _ => exact .inl ⟨rfl, by simp [badP, twiceE, twiceI_eq, thereP, turnThere, carB, stopsB, holdIn, tabE, formQ, putR]; omega⟩
  | 1, _ => exact .inl ⟨rfl, by simp [badP, twiceE, twiceI_eq, thereP, turnThere, carB, stopsB, holdIn, tabE, formQ, putR]; omega⟩
  | 2, _ => exact .inl ⟨rfl, by simp [badP, twiceE, twiceI_eq, thereP, turnThere, carB, stopsB, holdIn, tabE, formQ, putR]; omega⟩
  | 3, _ => exact .inl ⟨rfl, by simp [badP, twiceE, twiceI_eq, thereP, turnThere, carB, stopsB, holdIn, tabE, formQ, putR]⟩
  | 4, _ => exact .inl ⟨rfl, by simp [badP, twiceE, twiceI_eq, thereP, turnThere, carB, stopsB, holdIn, tabE, formQ, putR]⟩
  | 5, _ => exact .inl ⟨rfl, by simp [badP, twiceE, twiceI_eq, thereP, turnThere, carB, stopsB, holdIn, tabE, formQ, putR]⟩
  | 6, _ => exact .inr ⟨rfl, by simp [badP, twiceE, twiceI_eq, thereP, turnThere, carB, stopsB, holdIn, tabE, formQ, putR], by simp [applySame, turnSame, holdSame, tabE, formQ]⟩
  | 7, _ => exact .inr ⟨rfl, by simp [badP, twiceE, twiceI_eq, thereP, turnThere, carB, stopsB, holdIn, tabE, formQ, putR], by simp [applySame, turnSame, holdSame, tabE, formQ]⟩
  | 8, _ => exact .inl ⟨rfl, by simp [badP, twiceE, twiceI_eq, thereP, turnThere, carB, stopsB, holdIn, tabE, formQ, putR]⟩
  | 9, _ => exact .inl ⟨rfl, by simp [badP, twiceE, twiceI_eq, thereP, turnThere, carB, stopsB, holdIn, tabE, formQ, putR]; omega⟩
  | 10, _ => exact .inr ⟨rfl, by simp [badP, twiceE, twiceI_eq, thereP, turnThere, carB, stopsB, holdIn, tabE, formQ, putR], by simp [applySame, turnSame, holdSame, tabE, formQ]⟩
  | 11, _ => exact .inl ⟨rfl, by simp [badP, twiceE, twiceI_eq, thereP, turnThere, carB, stopsB, holdIn, tabE, formQ, putR]; omega⟩
  | 12, _ => exact .inr ⟨rfl, by simp [badP, twiceE, twiceI_eq, thereP, turnThere, carB, stopsB, holdIn, tabE, formQ, putR], by simp [applySame, turnSame, holdSame, tabE, formQ]⟩
end Go.Proofs.Ytpccoflebfblbaa
namespace Go.Proofs.Ytpccoflebfblbaa
open Go.RowKit
set_option linter.unusedSimpArgs false
set_option linter.unusedVariables false

def slc (B n : Nat) : Value := .slice (some ⟨B, 0, none⟩) n n
theorem row_lit {W : World} {B n : Nat} {l : List Int} (hl : l.length = n) (h : Blk W B (ints l)) : Recs W 1 num_ (.slice (some ⟨B, 0, none⟩) n n) l := by
  have := recs_blk (cap := n) h
  rwa [hl] at this
def formL (w : World) : List Obj := [
  .cells #[.int .i64 9, .int .i64 0, .int .i64 99, .int .i64 9, .int .i64 0, .int .i64 99] 23,
  .cells #[.int .i64 0, .int .i64 0, .int .i64 99, .int .i64 0, .int .i64 0, .int .i64 0, .int .i64 99, .int .i64 0, .int .i64 0, .int .i64 0, .int .i64 99, .int .i64 0] 26,
  .cells #[.int .i64 0, .int .i64 1, .int .i64 2, .int .i64 3] 3,
  .cells #[.int .i64 1, .int .i64 0, .int .i64 4, .int .i64 5] 3,
  .cells #[.int .i64 2, .int .i64 4, .int .i64 0, .int .i64 6] 3,
  .cells #[.int .i64 3, .int .i64 5, .int .i64 6, .int .i64 0] 3,
  .cells #[.slice (some ⟨w.heap.size + 2, 0, none⟩) 4 4, .slice (some ⟨w.heap.size + 3, 0, none⟩) 4 4, .slice (some ⟨w.heap.size + 4, 0, none⟩) 4 4, .slice (some ⟨w.heap.size + 5, 0, none⟩) 4 4] 28,
  .cells #[.slice (some ⟨w.heap.size, 0, none⟩) 2 2, .slice (some ⟨w.heap.size + 1, 0, none⟩) 3 3, .slice none 0 0, .slice (some ⟨w.heap.size + 6, 0, none⟩) 4 4] 32]
theorem form_lies (w : World) : Lies (lays w (formL w)) (.agg #[.slice (some ⟨w.heap.size, 0, none⟩) 2 2, .slice (some ⟨w.heap.size + 1, 0, none⟩) 3 3, .slice none 0 0, .slice (some ⟨w.heap.size + 6, 0, none⟩) 4 4]) formProb := by
  refine ⟨_, _, _, _, rfl, ?_, ?_, Recs.nil, ?_⟩
  · exact (lays_blk (formL w) w 0 rfl).recs 3 Car.at_ formProb.cars 2 (fun k hk j hj => by
      match k, hk, j, hj with
      | 0, _, 0, _ | 0, _, 1, _ | 0, _, 2, _ | 1, _, 0, _ | 1, _, 1, _ | 1, _, 2, _ => rfl)
  · exact (lays_blk (formL w) w 1 rfl).recs 4 Stop.at_ formProb.stops 3 (fun k hk j hj => by
      match k, hk, j, hj with
      | 0, _, 0, _ | 0, _, 1, _ | 0, _, 2, _ | 0, _, 3, _ | 1, _, 0, _ | 1, _, 1, _ | 1, _, 2, _ | 1, _, 3, _ | 2, _, 0, _ | 2, _, 1, _ | 2, _, 2, _ | 2, _, 3, _ => rfl)
  · exact (lays_blk (formL w) w 6 rfl).trav formProb.travel 4 (fun k hk => by
      match k, hk with
      | 0, _ => exact ⟨_, rfl, row_lit (l := [0, 1, 2, 3]) rfl (lays_blk (formL w) w 2 rfl)⟩
      | 1, _ => exact ⟨_, rfl, row_lit (l := [1, 0, 4, 5]) rfl (lays_blk (formL w) w 3 rfl)⟩
      | 2, _ => exact ⟨_, rfl, row_lit (l := [2, 4, 0, 6]) rfl (lays_blk (formL w) w 4 rfl)⟩
      | 3, _ => exact ⟨_, rfl, row_lit (l := [3, 5, 6, 0]) rfl (lays_blk (formL w) w 5 rfl)⟩)
theorem turn_lit {W : World} {B : Nat} {t : Turn} (h : Blk W B [.int .i64 t.c, t.x, t.y]) (ho : t.ok W) : Turns W (.slice (some ⟨B, 0, none⟩) 1 1) [t] :=
  ⟨rows_blk (f := Turn.cells) (l := [t]) (by simpa [Turn.cells] using h) turn_len, fun x hx => by rw [List.mem_singleton] at hx; subst hx; exact ho⟩
theorem turn_lit2 {W : World} {B : Nat} {t s : Turn} (h : Blk W B [.int .i64 t.c, t.x, t.y, .int .i64 s.c, s.x, s.y]) (ho : t.ok W) (hs : s.ok W) : Turns W (.slice (some ⟨B, 0, none⟩) 2 2) [t, s] :=
  ⟨rows_blk (f := Turn.cells) (l := [t, s]) (by simpa [Turn.cells] using h) turn_len, fun x hx => by
    simp only [List.mem_cons, List.not_mem_nil, or_false] at hx
    rcases hx with rfl | rfl
    · exact ho
    · exact hs⟩
theorem hold_lit {W : World} {B : Nat} {h : Hold} (hb : Blk W B [.int .i64 h.n, .int .i64 h.b, .int .i64 h.a]) : Rows W 3 Hold.cells (.slice (some ⟨B, 0, none⟩) 1 1) [h] :=
  rows_blk (f := Hold.cells) (l := [h]) (by simpa [Hold.cells, holdNums, ints] using hb) hold_len
theorem ok_nil {W : World} (c : Int) : (Turn.mk c n0 n0 [] []).ok W := ⟨Recs.nil, Recs.nil⟩
/-- one edit of the table, as its row has it -/
def TRow (W : World) (T k : Nat) (d : Edit) (e : Int) : Prop := ∃ At Al Ai ct cl ci, W.cell? ⟨T, k * 4, none⟩ = some (.slice At d.turns.length ct) ∧ W.cell? ⟨T, k * 4 + 1, none⟩ = some (.slice Al d.locks.length cl) ∧ W.cell? ⟨T, k * 4 + 2, none⟩ = some (.slice Ai d.ices.length ci) ∧ W.cell? ⟨T, k * 4 + 3, none⟩ = some (.int .i64 e) ∧ EditIn W At Al Ai ct cl ci d
def FTab (W : World) (T m : Nat) : Prop := T < W.heap.size ∧ ∀ k, k < 13 → ∃ d e, RowOk d e ∧ TRow W T k d e
def tabL (m : Nat) (w : World) : List Obj := [
  .cells #[.int .i64 (1 + (m : Int)), .slice none 0 0, .slice none 0 0] 40,
  .cells #[.int .i64 (-(m : Int)), .slice none 0 0, .slice none 0 0] 40,
  .cells #[.int .i64 2] 3,
  .cells #[.int .i64 (3 + (m : Int))] 3,
  .cells #[.int .i64 0, .slice (some ⟨w.heap.size + 2, 0, none⟩) 1 1, .slice (some ⟨w.heap.size + 3, 0, none⟩) 1 1] 40,
  .cells #[.int .i64 2] 3,
  .cells #[.int .i64 0] 3,
  .cells #[.int .i64 0, .slice (some ⟨w.heap.size + 5, 0, none⟩) 1 1, .slice (some ⟨w.heap.size + 6, 0, none⟩) 1 1] 40,
  .cells #[.int .i64 2] 3,
  .cells #[.int .i64 2, .int .i64 1] 3,
  .cells #[.int .i64 0, .slice (some ⟨w.heap.size + 8, 0, none⟩) 1 1, .slice (some ⟨w.heap.size + 9, 0, none⟩) 2 2] 40,
  .cells #[.int .i64 2] 3,
  .cells #[.int .i64 3, .int .i64 3] 3,
  .cells #[.int .i64 0, .slice (some ⟨w.heap.size + 11, 0, none⟩) 1 1, .slice (some ⟨w.heap.size + 12, 0, none⟩) 2 2] 40,
  .cells #[.int .i64 1] 3,
  .cells #[.int .i64 2] 3,
  .cells #[.int .i64 0, .slice (some ⟨w.heap.size + 14, 0, none⟩) 1 1, .slice (some ⟨w.heap.size + 15, 0, none⟩) 1 1] 40,
  .cells #[.int .i64 0, .slice none 0 0, .slice none 0 0] 40,
  .cells #[.int .i64 0, .int .i64 (-1), .int .i64 1] 43,
  .cells #[.int .i64 (3 + (m : Int)), .int .i64 (-1), .int .i64 1] 43,
  .cells #[.int .i64 2, .int .i64 (-1), .int .i64 1] 43,
  .cells #[.int .i64 (1 + (m : Int)), .int .i64 (-1), .int .i64 1] 43,
  .cells #[.int .i64 1, .int .i64 (-1), .int .i64 1] 43,
  .cells #[.slice (some ⟨w.heap.size, 0, none⟩) 1 1, .slice none 0 0, .slice none 0 0, .int .i64 1, .slice (some ⟨w.heap.size + 1, 0, none⟩) 1 1, .slice none 0 0, .slice none 0 0, .int .i64 1, .slice (some ⟨w.heap.size + 4, 0, none⟩) 1 1, .slice none 0 0, .slice none 0 0, .int .i64 1, .slice (some ⟨w.heap.size + 7, 0, none⟩) 1 1, .slice none 0 0, .slice none 0 0, .int .i64 1, .slice (some ⟨w.heap.size + 10, 0, none⟩) 1 1, .slice none 0 0, .slice none 0 0, .int .i64 1, .slice (some ⟨w.heap.size + 13, 0, none⟩) 1 1, .slice none 0 0, .slice none 0 0, .int .i64 1, .slice (some ⟨w.heap.size + 16, 0, none⟩) 1 1, .slice none 0 0, .slice none 0 0, .int .i64 15, .slice (some ⟨w.heap.size + 17, 0, none⟩) 1 1, .slice none 0 0, .slice none 0 0, .int .i64 15, .slice none 0 0, .slice (some ⟨w.heap.size + 18, 0, none⟩) 1 1, .slice none 0 0, .int .i64 1, .slice none 0 0, .slice (some ⟨w.heap.size + 19, 0, none⟩) 1 1, .slice none 0 0, .int .i64 1, .slice none 0 0, .slice (some ⟨w.heap.size + 20, 0, none⟩) 1 1, .slice none 0 0, .int .i64 15, .slice none 0 0, .slice none 0 0, .slice (some ⟨w.heap.size + 21, 0, none⟩) 1 1, .int .i64 1, .slice none 0 0, .slice none 0 0, .slice (some ⟨w.heap.size + 22, 0, none⟩) 1 1, .int .i64 15] 51]
theorem FTab.below {W W' : World} {T m : Nat} (h : FTab W T m) (hb : Below W.heap.size W W') : FTab W' T m := by
  refine ⟨Nat.lt_of_lt_of_le h.1 hb.size, fun k hk => ?_⟩
  obtain ⟨d, e, h1, At, Al, Ai, ct, cl, ci, a, b, c, f, g⟩ := h.2 k hk
  exact ⟨d, e, h1, At, Al, Ai, ct, cl, ci, by rw [hb.cell h.1]; exact a, by rw [hb.cell h.1]; exact b, by rw [hb.cell h.1]; exact c, by rw [hb.cell h.1]; exact f, g.below hb⟩
set_option maxRecDepth 100000 in
set_option maxHeartbeats 2000000 in
theorem tab_lay (m : Nat) (hm : 1 ≤ m) (w : World) : FTab (lays w (tabL m w)) (w.heap.size + 23) m := by
  have hT := lays_blk (tabL m w) w 23 rfl
  have short : ∀ k, k < 13 → ∀ t ∈ (tabE w.heap.size m k).turns, t.b.length ≤ 1000000 ∧ t.a.length ≤ 1000000 := fun k hk t ht => by
    match k, hk with
    | 0, _ | 1, _ | 2, _ | 3, _ | 4, _ | 5, _ | 6, _ | 7, _ =>
      simp only [tabE, List.mem_singleton] at ht
      subst ht
      exact ⟨by simp, by simp⟩
    | 8, _ | 9, _ | 10, _ | 11, _ | 12, _ => cases ht
  refine ⟨hT.1, fun k hk => ⟨tabE w.heap.size m k, tabN k, tab_ok _ m hm k hk, ?_⟩⟩
  have sh := short k hk
  match k, hk with
  | 0, _ => exact ⟨_, _, _, _, _, _, (hT.2 0 (show 0 < 52 from by decide)).1, (hT.2 1 (show 1 < 52 from by decide)).1, (hT.2 2 (show 2 < 52 from by decide)).1, (hT.2 3 (show 3 < 52 from by decide)).1, ⟨turn_lit (lays_blk (tabL m w) w 0 rfl) (ok_nil _), rows_nil, rows_nil, by simp [tabE], by simp [tabE], by simp [tabE], sh⟩⟩
  | 1, _ => exact ⟨_, _, _, _, _, _, (hT.2 4 (show 4 < 52 from by decide)).1, (hT.2 5 (show 5 < 52 from by decide)).1, (hT.2 6 (show 6 < 52 from by decide)).1, (hT.2 7 (show 7 < 52 from by decide)).1, ⟨turn_lit (lays_blk (tabL m w) w 1 rfl) (ok_nil _), rows_nil, rows_nil, by simp [tabE], by simp [tabE], by simp [tabE], sh⟩⟩
  | 2, _ => exact ⟨_, _, _, _, _, _, (hT.2 8 (show 8 < 52 from by decide)).1, (hT.2 9 (show 9 < 52 from by decide)).1, (hT.2 10 (show 10 < 52 from by decide)).1, (hT.2 11 (show 11 < 52 from by decide)).1, ⟨turn_lit (lays_blk (tabL m w) w 4 rfl) (⟨row_lit (l := [2]) rfl (lays_blk (tabL m w) w 2 rfl), row_lit (l := [3 + (m : Int)]) rfl (lays_blk (tabL m w) w 3 rfl)⟩), rows_nil, rows_nil, by simp [tabE], by simp [tabE], by simp [tabE], sh⟩⟩
  | 3, _ => exact ⟨_, _, _, _, _, _, (hT.2 12 (show 12 < 52 from by decide)).1, (hT.2 13 (show 13 < 52 from by decide)).1, (hT.2 14 (show 14 < 52 from by decide)).1, (hT.2 15 (show 15 < 52 from by decide)).1, ⟨turn_lit (lays_blk (tabL m w) w 7 rfl) (⟨row_lit (l := [2]) rfl (lays_blk (tabL m w) w 5 rfl), row_lit (l := [0]) rfl (lays_blk (tabL m w) w 6 rfl)⟩), rows_nil, rows_nil, by simp [tabE], by simp [tabE], by simp [tabE], sh⟩⟩
  | 4, _ => exact ⟨_, _, _, _, _, _, (hT.2 16 (show 16 < 52 from by decide)).1, (hT.2 17 (show 17 < 52 from by decide)).1, (hT.2 18 (show 18 < 52 from by decide)).1, (hT.2 19 (show 19 < 52 from by decide)).1, ⟨turn_lit (lays_blk (tabL m w) w 10 rfl) (⟨row_lit (l := [2]) rfl (lays_blk (tabL m w) w 8 rfl), row_lit (l := [2, 1]) rfl (lays_blk (tabL m w) w 9 rfl)⟩), rows_nil, rows_nil, by simp [tabE], by simp [tabE], by simp [tabE], sh⟩⟩
  | 5, _ => exact ⟨_, _, _, _, _, _, (hT.2 20 (show 20 < 52 from by decide)).1, (hT.2 21 (show 21 < 52 from by decide)).1, (hT.2 22 (show 22 < 52 from by decide)).1, (hT.2 23 (show 23 < 52 from by decide)).1, ⟨turn_lit (lays_blk (tabL m w) w 13 rfl) (⟨row_lit (l := [2]) rfl (lays_blk (tabL m w) w 11 rfl), row_lit (l := [3, 3]) rfl (lays_blk (tabL m w) w 12 rfl)⟩), rows_nil, rows_nil, by simp [tabE], by simp [tabE], by simp [tabE], sh⟩⟩
  | 6, _ => exact ⟨_, _, _, _, _, _, (hT.2 24 (show 24 < 52 from by decide)).1, (hT.2 25 (show 25 < 52 from by decide)).1, (hT.2 26 (show 26 < 52 from by decide)).1, (hT.2 27 (show 27 < 52 from by decide)).1, ⟨turn_lit (lays_blk (tabL m w) w 16 rfl) (⟨row_lit (l := [1]) rfl (lays_blk (tabL m w) w 14 rfl), row_lit (l := [2]) rfl (lays_blk (tabL m w) w 15 rfl)⟩), rows_nil, rows_nil, by simp [tabE], by simp [tabE], by simp [tabE], sh⟩⟩
  | 7, _ => exact ⟨_, _, _, _, _, _, (hT.2 28 (show 28 < 52 from by decide)).1, (hT.2 29 (show 29 < 52 from by decide)).1, (hT.2 30 (show 30 < 52 from by decide)).1, (hT.2 31 (show 31 < 52 from by decide)).1, ⟨turn_lit (lays_blk (tabL m w) w 17 rfl) (ok_nil _), rows_nil, rows_nil, by simp [tabE], by simp [tabE], by simp [tabE], sh⟩⟩
  | 8, _ => exact ⟨_, _, _, _, _, _, (hT.2 32 (show 32 < 52 from by decide)).1, (hT.2 33 (show 33 < 52 from by decide)).1, (hT.2 34 (show 34 < 52 from by decide)).1, (hT.2 35 (show 35 < 52 from by decide)).1, ⟨turns_nil, hold_lit (lays_blk (tabL m w) w 18 rfl), rows_nil, by simp [tabE], by simp [tabE], by simp [tabE], sh⟩⟩
  | 9, _ => exact ⟨_, _, _, _, _, _, (hT.2 36 (show 36 < 52 from by decide)).1, (hT.2 37 (show 37 < 52 from by decide)).1, (hT.2 38 (show 38 < 52 from by decide)).1, (hT.2 39 (show 39 < 52 from by decide)).1, ⟨turns_nil, hold_lit (lays_blk (tabL m w) w 19 rfl), rows_nil, by simp [tabE], by simp [tabE], by simp [tabE], sh⟩⟩
  | 10, _ => exact ⟨_, _, _, _, _, _, (hT.2 40 (show 40 < 52 from by decide)).1, (hT.2 41 (show 41 < 52 from by decide)).1, (hT.2 42 (show 42 < 52 from by decide)).1, (hT.2 43 (show 43 < 52 from by decide)).1, ⟨turns_nil, hold_lit (lays_blk (tabL m w) w 20 rfl), rows_nil, by simp [tabE], by simp [tabE], by simp [tabE], sh⟩⟩
  | 11, _ => exact ⟨_, _, _, _, _, _, (hT.2 44 (show 44 < 52 from by decide)).1, (hT.2 45 (show 45 < 52 from by decide)).1, (hT.2 46 (show 46 < 52 from by decide)).1, (hT.2 47 (show 47 < 52 from by decide)).1, ⟨turns_nil, rows_nil, hold_lit (lays_blk (tabL m w) w 21 rfl), by simp [tabE], by simp [tabE], by simp [tabE], sh⟩⟩
  | 12, _ => exact ⟨_, _, _, _, _, _, (hT.2 48 (show 48 < 52 from by decide)).1, (hT.2 49 (show 49 < 52 from by decide)).1, (hT.2 50 (show 50 < 52 from by decide)).1, (hT.2 51 (show 51 < 52 from by decide)).1, ⟨turns_nil, rows_nil, hold_lit (lays_blk (tabL m w) w 22 rfl), by simp [tabE], by simp [tabE], by simp [tabE], sh⟩⟩
end Go.Proofs.Ytpccoflebfblbaa
namespace Go.Proofs.Ytpccoflebfblbaa
open Go.RowKit
set_option linter.unusedSimpArgs false
set_option linter.unusedVariables false

theorem pin_of {W : World} {A1 A2 A3 A4 A5 A6 : Option Addr} {c1 c2 c3 c4 c5 c6 : Nat} {p : PlanP} (h : PlanAt W (.agg #[.slice A1 p.routes.length c1, .slice A2 p.sv.length c2, .slice A3 p.routes.length c3, .slice A4 p.routes.length c4, .slice A5 p.sv.length c5, .slice A6 p.routes.length c6, .int .i64 p.pv]) p) (hf : PlanFit p) : PIn W A1 A2 A3 A4 A5 A6 c1 c2 c3 c4 c5 c6 p := by
  obtain ⟨D1, D2, D3, D4, D5, D6, g1, g2, g3, g4, g5, g6, e, hp⟩ := h.pin hf
  injection e with e
  simp only [Array.mk.injEq, List.cons.injEq, Value.slice.injEq, and_true, true_and] at e
  obtain ⟨⟨rfl, rfl⟩, ⟨rfl, rfl⟩, ⟨rfl, rfl⟩, ⟨rfl, rfl⟩, ⟨rfl, rfl⟩, ⟨rfl, rfl⟩⟩ := e
  exact hp
theorem cells7 {W : World} {g : Nat} {a0 a1 a2 a3 a4 a5 a6 : Value} {T : TypeId} (h : W.heap[g]? = some (.cells #[a0, a1, a2, a3, a4, a5, a6] T (0, 0))) : g < W.heap.size ∧ (W.cell? ⟨g, 0, none⟩ = some a0 ∧ W.cell? ⟨g, 1, none⟩ = some a1 ∧ W.cell? ⟨g, 2, none⟩ = some a2 ∧ W.cell? ⟨g, 3, none⟩ = some a3 ∧ W.cell? ⟨g, 4, none⟩ = some a4 ∧ W.cell? ⟨g, 5, none⟩ = some a5 ∧ W.cell? ⟨g, 6, none⟩ = some a6) ∧ (W.frozen? ⟨g, 0, none⟩ = false ∧ W.frozen? ⟨g, 1, none⟩ = false ∧ W.frozen? ⟨g, 2, none⟩ = false ∧ W.frozen? ⟨g, 3, none⟩ = false ∧ W.frozen? ⟨g, 4, none⟩ = false ∧ W.frozen? ⟨g, 5, none⟩ = false ∧ W.frozen? ⟨g, 6, none⟩ = false) := by
  have B := blk_of_heap h
  exact ⟨B.1, ⟨(B.2 0 (by simp)).1, (B.2 1 (by simp)).1, (B.2 2 (by simp)).1, (B.2 3 (by simp)).1, (B.2 4 (by simp)).1, (B.2 5 (by simp)).1, (B.2 6 (by simp)).1⟩, ⟨(B.2 0 (by simp)).2, (B.2 1 (by simp)).2, (B.2 2 (by simp)).2, (B.2 3 (by simp)).2, (B.2 4 (by simp)).2, (B.2 5 (by simp)).2, (B.2 6 (by simp)).2⟩⟩
def wakeP8 : Prob := ⟨[⟨0, 0, 5⟩], [⟨0, 0, 5, 0⟩], [], [[0, 1], [1, 0]]⟩
theorem wake8_ok : probOk wakeP8 = true := by decide
theorem wake8_new : newPlan wakeP8 = planN 1 2 := by unfold newPlan; rw [wake8_ok]; rfl
theorem fit_wake : PlanFit (planN 1 2) := ⟨by decide, by decide, by decide, by decide, by decide, by decide, by decide⟩
def wakeL (w : World) : List Obj := [
  .cells #[.int .i64 0, .int .i64 0, .int .i64 5] 23,
  .cells #[.int .i64 0, .int .i64 0, .int .i64 5, .int .i64 0] 26,
  .cells #[.int .i64 0, .int .i64 1] 3,
  .cells #[.int .i64 1, .int .i64 0] 3,
  .cells #[.slice (some ⟨w.heap.size + 2, 0, none⟩) 2 2, .slice (some ⟨w.heap.size + 3, 0, none⟩) 2 2] 28,
  .cells #[.slice (some ⟨w.heap.size, 0, none⟩) 1 1, .slice (some ⟨w.heap.size + 1, 0, none⟩) 1 1, .slice none 0 0, .slice (some ⟨w.heap.size + 4, 0, none⟩) 2 2] 32]
theorem wake8_lies (w : World) : Lies (lays w (wakeL w)) (.agg #[.slice (some ⟨w.heap.size, 0, none⟩) 1 1, .slice (some ⟨w.heap.size + 1, 0, none⟩) 1 1, .slice none 0 0, .slice (some ⟨w.heap.size + 4, 0, none⟩) 2 2]) wakeP8 := by
  refine ⟨_, _, _, _, rfl, ?_, ?_, Recs.nil, ?_⟩
  · exact (lays_blk (wakeL w) w 0 rfl).recs 3 Car.at_ wakeP8.cars 1 (fun k hk j hj => by
      match k, hk, j, hj with
      | 0, _, 0, _ | 0, _, 1, _ | 0, _, 2, _ => rfl)
  · exact (lays_blk (wakeL w) w 1 rfl).recs 4 Stop.at_ wakeP8.stops 1 (fun k hk j hj => by
      match k, hk, j, hj with
      | 0, _, 0, _ | 0, _, 1, _ | 0, _, 2, _ | 0, _, 3, _ => rfl)
  · exact (lays_blk (wakeL w) w 4 rfl).trav wakeP8.travel 2 (fun k hk => by
      match k, hk with
      | 0, _ => exact ⟨_, rfl, row_lit (l := [0, 1]) rfl (lays_blk (wakeL w) w 2 rfl)⟩
      | 1, _ => exact ⟨_, rfl, row_lit (l := [1, 0]) rfl (lays_blk (wakeL w) w 3 rfl)⟩)
theorem short_wake : Short wakeP8 := ⟨by decide, by decide, by decide⟩
theorem short_form : Short formProb := ⟨by decide, by decide, by decide⟩
set_option maxRecDepth 100000 in
set_option maxHeartbeats 8000000 in
theorem wakes8_any (w : World) : Calls Try.prog 14 #[] w fun e w' => e = .returned (.bool true) ∧ Below w.heap.size w w' := by
  go_enter Try.func14, Try.ntmps14
  go_upto_region 1 with (fail)
  go_cut [1] from 5 to 13 (fun bv wx => ∃ I B1 B2 B3, bv = .pointer (some ⟨I, 0, none⟩) ∧ Blk wx I [.slice (some ⟨B1, 0, none⟩) 1 1, .slice (some ⟨B2, 0, none⟩) 1 1, .slice none 0 0, .slice (some ⟨B3, 0, none⟩) 2 2] ∧ Lies wx (.agg #[.slice (some ⟨B1, 0, none⟩) 1 1, .slice (some ⟨B2, 0, none⟩) 1 1, .slice none 0 0, .slice (some ⟨B3, 0, none⟩) 2 2]) wakeP8 ∧ Below w.heap.size w wx)
  case first =>
    go_wp2_with (fail)
    go_meet
    exact ⟨_, _, _, _, rfl, lays_blk (wakeL w) w 5 rfl, wake8_lies w, lays_below (wakeL w) (Below.refl _ _) (Nat.le_refl _)⟩
  case rest =>
    obtain ⟨I, B1, B2, B3, rfl, hI, hL, hb⟩ := hcut
    obtain ⟨W1, hW1⟩ : ∃ W1, W1 = wc := ⟨_, rfl⟩
    subst hW1
    have HI := Lib.hid (fun W (hb : Below W1.heap.size W1 W) => hI.below hb)
    have HL := Lib.hid (fun W (hb : Below W1.heap.size W1 W) => hL.below hb)
    have HB0 := Lib.hid hb
    have i0 := (hI.2 0 (by simp)).1
    have i1 := (hI.2 1 (by simp)).1
    have i2 := (hI.2 2 (by simp)).1
    have i3 := (hI.2 3 (by simp)).1
    clear hI hL hb
    have KN := Lib.hid (pnewplan_any _ wakeP8 W1 (HL.out W1 (Below.refl _ _)) short_wake)
    go_wp2_with (go_at_call 5; fail)
    go_at_call 5
    refine KN.out.mono ?_
    rintro e W2 ⟨v', rfl, hN, hb2⟩
    rw [wake8_new] at hN
    obtain ⟨p0, hp0⟩ : ∃ p0, p0 = planN 1 2 := ⟨_, rfl⟩
    rw [← hp0] at hN
    have HP0 := Lib.hid hp0
    have HF0 : Hid (PlanFit p0) := Lib.hid (by rw [hp0]; exact fit_wake)
    obtain ⟨A1, A2, A3, A4, A5, A6, c1, c2, c3, c4, c5, c6, rfl, hP⟩ := hN.at_.pin HF0.out
    have HB2 := Lib.hid hb2
    have HX : Hid ((W2.alloc (.cells #[.slice A1 p0.routes.length c1, .slice A2 p0.sv.length c2, .slice A3 p0.routes.length c3, .slice A4 p0.routes.length c4, .slice A5 p0.sv.length c5, .slice A6 p0.routes.length c6, .int .i64 p0.pv] 34)).heap[W2.heap.size]? = some (.cells #[.slice A1 p0.routes.length c1, .slice A2 p0.sv.length c2, .slice A3 p0.routes.length c3, .slice A4 p0.routes.length c4, .slice A5 p0.sv.length c5, .slice A6 p0.routes.length c6, .int .i64 p0.pv] 34 (0, 0))) := Lib.hid (heap_new _ _)
    have HPI : Hid (PIn (W2.alloc (.cells #[.slice A1 p0.routes.length c1, .slice A2 p0.sv.length c2, .slice A3 p0.routes.length c3, .slice A4 p0.routes.length c4, .slice A5 p0.sv.length c5, .slice A6 p0.routes.length c6, .int .i64 p0.pv] 34)) A1 A2 A3 A4 A5 A6 c1 c2 c3 c4 c5 c6 p0) := Lib.hid (hP.below ((Below.refl _ _).alloc (Nat.le_refl _) _))
    have HB3 : Hid (Below W1.heap.size W1 (W2.alloc (.cells #[.slice A1 p0.routes.length c1, .slice A2 p0.sv.length c2, .slice A3 p0.routes.length c3, .slice A4 p0.routes.length c4, .slice A5 p0.sv.length c5, .slice A6 p0.routes.length c6, .int .i64 p0.pv] 34))) := Lib.hid (hb2.alloc hb2.size _)
    have hPge : W1.heap.size ≤ W2.heap.size := hb2.size
    clear KN hN hP hb2 hp0 i0 i1 i2 i3
    go_upto_region 3 with (fail)
    generalize W2.alloc (.cells #[.slice A1 p0.routes.length c1, .slice A2 p0.sv.length c2, .slice A3 p0.routes.length c3, .slice A4 p0.routes.length c4, .slice A5 p0.sv.length c5, .slice A6 p0.routes.length c6, .int .i64 p0.pv] 34) = W3 at *
    generalize W2.heap.size = P at *
    obtain ⟨hPl, ⟨b0, b1, b2, b3, b4, b5, b6⟩, ⟨z0, z1, z2, z3, z4, z5, z6⟩⟩ := cells7 HX.out
    have KW := Lib.hid (pwhere_any A1 A2 A3 A4 A5 A6 p0.sv.length c1 c2 c3 c4 c5 c6 p0.pv p0.routes 1 W3 HPI.out.r (by have := HF0.out.routes; omega) (fun r hr => by have := (HF0.out.route r hr).1; omega))
    have hw : whereP p0.sv.length 1 p0.routes = (-1, -1) := by rw [HP0.out]; decide
    rw [hw] at KW
    clear hw
    have r1 : ((p0.routes.length : Int) == 1) = true := by rw [HP0.out]; decide
    have r2 : ((p0.sv.length : Int) == 2) = true := by rw [HP0.out]; decide
    have r3 : (p0.routes.length == 1) = true := by rw [HP0.out]; decide
    have r4 : (p0.sv.length == 2) = true := by rw [HP0.out]; decide
    have s1 : (p0.routes.length : Int) = 1 := by rw [HP0.out]; decide
    have s2 : (p0.sv.length : Int) = 2 := by rw [HP0.out]; decide
    clear s1 s2
    go_wp2_with (go_at_call 8; fail)
    go_at_call 8
    refine KW.out.mono ?_
    rintro e W4 ⟨rfl, hb4⟩
    have HX4 := Lib.hid (heap_keep HX.out hb4)
    have HPI4 := Lib.hid (HPI.out.below hb4)
    have HB4 : Hid (Below W1.heap.size W1 W4) := Lib.hid (HB3.out.trans (hb4.mono HB3.out.size))
    have KU := Lib.hid (punass_any A1 A2 A3 A4 A5 A6 p0.sv.length c1 c2 c3 c4 c5 c6 p0.pv p0.routes W4 HPI4.out.r (by have := HF0.out.routes; omega) (fun r hr => by have := (HF0.out.route r hr).1; omega) (by have := HF0.out.sv; omega))
    have hu : unassL p0.routes (p0.sv.length - 1) = [1] := by rw [HP0.out]; decide
    rw [hu] at KU
    clear hu hb4 KW b0 b1 b2 b3 b4 b5 b6 z0 z1 z2 z3 z4 z5 z6 hPl
    obtain ⟨hPl, ⟨b0, b1, b2, b3, b4, b5, b6⟩, ⟨z0, z1, z2, z3, z4, z5, z6⟩⟩ := cells7 HX4.out
    go_wp2_with (go_at_call 12; fail)
    go_at_call 12
    refine KU.out.mono ?_
    rintro e W5 ⟨v5, rfl, ho5, hb5⟩
    have HB5 : Hid (Below W1.heap.size W1 W5) := Lib.hid (HB4.out.trans (hb5.mono HB4.out.size))
    have KS := Lib.hid (dsame_ints v5 (.slice (some ⟨W5.heap.size, 0, none⟩) 1 1) [1] (W5.alloc (.cells #[.int .i64 1] 3)) (ho5.recs.below ((Below.refl _ _).alloc (Nat.le_refl _) _)) (row_lit (l := [1]) rfl (blk_new W5 #[.int .i64 1] 3)) (by decide))
    have HB6 : Hid (Below W1.heap.size W1 (W5.alloc (.cells #[.int .i64 1] 3))) := Lib.hid (HB5.out.alloc HB5.out.size _)
    clear ho5 hb5 KU
    go_wp2_with (go_at_call 11; fail)
    go_at_call 11
    refine KS.out.mono ?_
    rintro e W6 ⟨rfl, n6, rfl⟩
    have HB7 : Hid (Below w.heap.size w _) := Lib.hid (HB0.out.trans ((below_draws HB6.out n6).mono HB0.out.size))
    go_wp2_with (fail)
    go_ret
    exact ⟨rfl, HB7.out⟩
end Go.Proofs.Ytpccoflebfblbaa
