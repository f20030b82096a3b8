/- Facts for draymanplay.Odd: numbers lie in memory, whichever they are; a problem of some numbers. -/
import Derived.Test.YteibelmgebhleaaDoorPlayPlain
namespace Go.Proofs.YteibelmgebhleaaDoor
open Go.RowKit

/-- n records of c numbers each, whichever they are, in blocks from B0 up to T -/
def NumsAt (W : World) (B0 T c : Nat) (v : Value) (n : Nat) : Prop :=
  ∃ A cap, v = .slice A n cap ∧ ∀ k, k < n → ∃ B o, A = some ⟨B, o, none⟩ ∧ B0 ≤ B ∧ B < T ∧ ∀ j, j < c → ∃ x, W.cell? ⟨B, o + k * c + j, none⟩ = some (.int .i64 x)
def RowsAt (W : World) (B0 T : Nat) (v : Value) (n : Nat) : Prop :=
  ∃ A cap, v = .slice A n cap ∧ ∀ k, k < n → ∃ B o u m, A = some ⟨B, o, none⟩ ∧ B0 ≤ B ∧ B < T ∧ W.cell? ⟨B, o + k, none⟩ = some u ∧ NumsAt W B0 T 1 u m
theorem NumsAt.keep {W W' : World} {B0 T c : Nat} {v : Value} {n : Nat} (h : NumsAt W B0 T c v n) (hc : ∀ p : Addr, B0 ≤ p.block → p.block < T → ∀ y, W.cell? p = some (.int .i64 y) → ∃ x, W'.cell? p = some (.int .i64 x)) : NumsAt W' B0 T c v n := by
  obtain ⟨A, cap, rfl, h⟩ := h
  refine ⟨A, cap, rfl, fun k hk => ?_⟩
  obtain ⟨B, o, rfl, h1, h2, h3⟩ := h k hk
  refine ⟨B, o, rfl, h1, h2, fun j hj => ?_⟩
  obtain ⟨x, hx⟩ := h3 j hj
  exact hc _ h1 h2 x hx
theorem NumsAt.nil_ {W : World} {B0 T c : Nat} {A : Option Addr} {cap : Nat} : NumsAt W B0 T c (.slice A 0 cap) 0 := ⟨A, cap, rfl, fun k hk => absurd hk (by omega)⟩
theorem set_cell {W : World} {a p : Addr} {u y z : Value} (ha : W.cell? a = some z) (hp : W.cell? p = some y) : (W.setCell a u).cell? p = some u ∨ (p ≠ a ∧ (W.setCell a u).cell? p = some y) := by
  by_cases e : p = a
  · subst e; exact .inl (World.cell?_setCell_same _ _ _ ha)
  · exact .inr ⟨e, by rw [World.cell?_setCell_other _ _ _ _ (fun h => e h.symm)]; exact hp⟩
theorem NumsAt.set_int {W : World} {B0 T c : Nat} {v : Value} {n : Nat} (h : NumsAt W B0 T c v n) {a : Addr} {z : Value} (ha : W.cell? a = some z) (m : Int) : NumsAt (W.setCell a (.int .i64 m)) B0 T c v n :=
  h.keep fun p _ _ y hy => by
    rcases set_cell (u := .int .i64 m) ha hy with h | ⟨_, h⟩
    · exact ⟨m, h⟩
    · exact ⟨y, h⟩
theorem NumsAt.set_slice {W : World} {B0 T c : Nat} {v : Value} {n : Nat} (h : NumsAt W B0 T c v n) {a : Addr} {A : Option Addr} {k l : Nat} (ha : W.cell? a = some (.slice A k l)) (u : Value) : NumsAt (W.setCell a u) B0 T c v n :=
  h.keep fun p _ _ y hy => ⟨y, by
    rw [World.cell?_setCell_other _ _ _ _ (fun e => by rw [e, hy] at ha; cases ha)]; exact hy⟩
theorem NumsAt.off {W : World} {B0 T c : Nat} {v : Value} {n : Nat} (h : NumsAt W B0 T c v n) {a : Addr} (ha : a.block < B0 ∨ T ≤ a.block) (u : Value) : NumsAt (W.setCell a u) B0 T c v n :=
  h.keep fun p h1 h2 y hy => ⟨y, by
    rw [World.cell?_setCell_other _ _ _ _ (fun e => by rw [← e] at h1 h2; omega)]; exact hy⟩
theorem NumsAt.below {W W' : World} {B0 T c : Nat} {v : Value} {n : Nat} (h : NumsAt W B0 T c v n) (hb : Below W.heap.size W W') (hT : T ≤ W.heap.size) : NumsAt W' B0 T c v n :=
  h.keep fun p _ h2 y hy => ⟨y, by rw [hb.cell (by omega)]; exact hy⟩
theorem RowsAt.set_int {W : World} {B0 T : Nat} {v : Value} {n : Nat} (h : RowsAt W B0 T v n) {a : Addr} {z : Int} (ha : W.cell? a = some (.int .i64 z)) (m : Int) : RowsAt (W.setCell a (.int .i64 m)) B0 T v n := by
  obtain ⟨A, cap, rfl, h⟩ := h
  refine ⟨A, cap, rfl, fun k hk => ?_⟩
  obtain ⟨B, o, u, q, rfl, h1, h2, h3, h4⟩ := h k hk
  refine ⟨B, o, u, q, rfl, h1, h2, ?_, h4.set_int ha m⟩
  rw [World.cell?_setCell_other _ _ _ _ (fun e => by
    rw [e, h3] at ha
    obtain ⟨A', c', rfl, _⟩ := h4
    cases ha)]
  exact h3
theorem RowsAt.set_row {W : World} {B0 T : Nat} {v : Value} {n : Nat} (h : RowsAt W B0 T v n) {a : Addr} {A : Option Addr} {k l : Nat} (ha : W.cell? a = some (.slice A k l)) {u : Value} {m : Nat} (hu : NumsAt W B0 T 1 u m) : RowsAt (W.setCell a u) B0 T v n := by
  obtain ⟨A', cap, rfl, h⟩ := h
  refine ⟨A', cap, rfl, fun k hk => ?_⟩
  obtain ⟨B, o, u', q, rfl, h1, h2, h3, h4⟩ := h k hk
  rcases set_cell (u := u) ha h3 with h | ⟨_, h⟩
  · exact ⟨B, o, u, m, rfl, h1, h2, h, hu.set_slice ha u⟩
  · exact ⟨B, o, u', q, rfl, h1, h2, h, h4.set_slice ha u⟩
theorem RowsAt.off {W : World} {B0 T : Nat} {v : Value} {n : Nat} (h : RowsAt W B0 T v n) {a : Addr} (ha : a.block < B0 ∨ T ≤ a.block) (u : Value) : RowsAt (W.setCell a u) B0 T v n := by
  obtain ⟨A', cap, rfl, h⟩ := h
  refine ⟨A', cap, rfl, fun k hk => ?_⟩
  obtain ⟨B, o, u', q, rfl, h1, h2, h3, h4⟩ := h k hk
  refine ⟨B, o, u', q, rfl, h1, h2, ?_, h4.off ha u⟩
  rw [World.cell?_setCell_other _ _ _ _ (fun e => by rw [e] at ha; simp only at ha; omega)]
  exact h3
theorem RowsAt.below {W W' : World} {B0 T : Nat} {v : Value} {n : Nat} (h : RowsAt W B0 T v n) (hb : Below W.heap.size W W') (hT : T ≤ W.heap.size) : RowsAt W' B0 T v n := by
  obtain ⟨A', cap, rfl, h⟩ := h
  refine ⟨A', cap, rfl, fun k hk => ?_⟩
  obtain ⟨B, o, u', q, rfl, h1, h2, h3, h4⟩ := h k hk
  exact ⟨B, o, u', q, rfl, h1, h2, by rw [hb.cell (show B < W.heap.size by omega)]; exact h3, h4.below hb hT⟩
/-- a cut: all but the first -/
theorem NumsAt.tail {W : World} {B0 T : Nat} {B o n cap cap' : Nat} (h : NumsAt W B0 T 1 (.slice (some ⟨B, o, none⟩) (n + 1) cap) (n + 1)) : NumsAt W B0 T 1 (.slice (some ⟨B, o + 1, none⟩) n cap') n := by
  obtain ⟨A, c, e, h⟩ := h
  refine ⟨_, _, rfl, fun k hk => ?_⟩
  obtain ⟨B', o', e', h1, h2, h3⟩ := h (k + 1) (by omega)
  obtain ⟨rfl, rfl⟩ : B = B' ∧ o = o' := by injection e with e _ _; rw [e'] at e; simpa using e
  refine ⟨B, o + 1, rfl, h1, h2, fun j hj => ?_⟩
  obtain ⟨x, hx⟩ := h3 j hj
  exact ⟨x, by rw [← hx]; congr 2; omega⟩
theorem RowsAt.tail {W : World} {B0 T : Nat} {B o n cap cap' : Nat} (h : RowsAt W B0 T (.slice (some ⟨B, o, none⟩) (n + 1) cap) (n + 1)) : RowsAt W B0 T (.slice (some ⟨B, o + 1, none⟩) n cap') n := by
  obtain ⟨A, c, e, h⟩ := h
  refine ⟨_, _, rfl, fun k hk => ?_⟩
  obtain ⟨B', o', u, m, e', h1, h2, h3, h4⟩ := h (k + 1) (by omega)
  obtain ⟨rfl, rfl⟩ : B = B' ∧ o = o' := by injection e with e _ _; rw [e'] at e; simpa using e
  exact ⟨B, o + 1, u, m, rfl, h1, h2, by rw [← h3]; congr 2; omega, h4⟩
theorem NumsAt.tail' {W : World} {B0 T : Nat} {B n cap cap' : Nat} (h : NumsAt W B0 T 1 (.slice (some ⟨B, 0, none⟩) n cap) n) (hn : 0 < n) : NumsAt W B0 T 1 (.slice (some ⟨B, 1, none⟩) (n - 1) cap') (n - 1) := by
  obtain ⟨k, rfl⟩ : ∃ k, n = k + 1 := ⟨n - 1, by omega⟩
  exact h.tail
theorem RowsAt.tail' {W : World} {B0 T : Nat} {B n cap cap' : Nat} (h : RowsAt W B0 T (.slice (some ⟨B, 0, none⟩) n cap) n) (hn : 0 < n) : RowsAt W B0 T (.slice (some ⟨B, 1, none⟩) (n - 1) cap') (n - 1) := by
  obtain ⟨k, rfl⟩ : ∃ k, n = k + 1 := ⟨n - 1, by omega⟩
  exact h.tail
/-- the number at a place -/
def valAt (W : World) (A : Option Addr) (c k j : Nat) : Int := match A with
  | some a => (match W.cell? ⟨a.block, a.off + k * c + j, none⟩ with
    | some (.int .i64 x) => x
    | _ => 0)
  | none => 0
/-- some list of records -/
theorem recs_of {α : Type} {W : World} {B0 T c : Nat} (g : α → Nat → Int) (mk : (Nat → Int) → α) (hmk : ∀ f j, j < c → g (mk f) j = f j) {v : Value} {n : Nat} (h : NumsAt W B0 T c v n) (hT : T ≤ W.heap.size) : ∃ l : List α, l.length = n ∧ Recs W c g v l := by
  obtain ⟨A, cap, rfl, h⟩ := h
  refine ⟨(List.range n).map fun k => mk (valAt W A c k), by simp, A, cap, by simp, fun k hk => ?_⟩
  obtain ⟨B, o, hA, _, h2, h3⟩ := h k (by simpa using hk)
  refine ⟨B, o, hA, by omega, fun j hj => ?_⟩
  obtain ⟨x, hx⟩ := h3 j hj
  rw [hx]
  simp only [List.getElem_map, List.getElem_range, hmk _ _ hj]
  subst hA
  simp only [valAt, hx]
theorem trav_of {W : World} {B0 T : Nat} {v : Value} {n : Nat} (h : RowsAt W B0 T v n) (hT : T ≤ W.heap.size) : ∃ l : List (List Int), l.length = n ∧ Trav W v l := by
  obtain ⟨A, cap, rfl, h⟩ := h
  have h' : ∀ k : Nat, ∃ r : List Int, k < n → ∃ B o u, A = some ⟨B, o, none⟩ ∧ B < W.heap.size ∧ W.cell? ⟨B, o + k, none⟩ = some u ∧ Recs W 1 num_ u r := by
    intro k
    by_cases hk : k < n
    · obtain ⟨B, o, u, m, e, h1, h2, h3, h4⟩ := h k hk
      obtain ⟨r, _, hr⟩ := recs_of num_ (fun f => f 0) (fun f j hj => by have e : j = 0 := (by omega); subst e; rfl) h4 hT
      exact ⟨r, fun _ => ⟨B, o, u, e, by omega, h3, hr⟩⟩
    · exact ⟨[], fun h => absurd h hk⟩
  obtain ⟨f, hf⟩ := Classical.axiomOfChoice h'
  refine ⟨(List.range n).map f, by simp, A, cap, by simp, fun k hk => ?_⟩
  have := hf k (by simpa using hk)
  simpa using this
/-- a problem of some numbers, in the variable J; the result's variable R is as it was made -/
structure OddAt (W : World) (B0 T J : Nat) (vc vs vp vt : Value) (n1 n2 n3 n4 : Nat) : Prop where
  j0 : W.cell? ⟨J, 0, none⟩ = some vc
  j1 : W.cell? ⟨J, 1, none⟩ = some vs
  j2 : W.cell? ⟨J, 2, none⟩ = some vp
  j3 : W.cell? ⟨J, 3, none⟩ = some vt
  cars : NumsAt W B0 T 3 vc n1
  stops : NumsAt W B0 T 4 vs n2
  pairs : NumsAt W B0 T 2 vp n3
  travel : RowsAt W B0 T vt n4
  top : T ≤ W.heap.size
theorem OddAt.lies {W : World} {B0 T J : Nat} {vc vs vp vt : Value} {n1 n2 n3 n4 : Nat} (h : OddAt W B0 T J vc vs vp vt n1 n2 n3 n4) : ∃ i : Prob, Lies W (.agg #[vc, vs, vp, vt]) i ∧ i.cars.length = n1 ∧ i.stops.length = n2 ∧ i.pairs.length = n3 ∧ i.travel.length = n4 := by
  obtain ⟨l1, e1, r1⟩ := recs_of Car.at_ (fun f => ⟨f 0, f 1, f 2⟩) (fun f j hj => by match j, hj with | 0, _ | 1, _ | 2, _ => rfl) h.cars h.top
  obtain ⟨l2, e2, r2⟩ := recs_of Stop.at_ (fun f => ⟨f 0, f 1, f 2, f 3⟩) (fun f j hj => by match j, hj with | 0, _ | 1, _ | 2, _ | 3, _ => rfl) h.stops h.top
  obtain ⟨l3, e3, r3⟩ := recs_of Pair.at_ (fun f => ⟨f 0, f 1⟩) (fun f j hj => by match j, hj with | 0, _ | 1, _ => rfl) h.pairs h.top
  obtain ⟨l4, e4, r4⟩ := trav_of h.travel h.top
  exact ⟨⟨l1, l2, l3, l4⟩, ⟨vc, vs, vp, vt, rfl, r1, r2, r3, r4⟩, e1, e2, e3, e4⟩
theorem OddAt.low {W : World} {B0 T J : Nat} {vc vs vp vt : Value} {n1 n2 n3 n4 : Nat} (h : OddAt W B0 T J vc vs vp vt n1 n2 n3 n4) {R : Nat} (hR : R < B0) (hJ : R ≠ J) (k : Nat) (u : Value) : OddAt (W.setCell ⟨R, k, none⟩ u) B0 T J vc vs vp vt n1 n2 n3 n4 := by
  have ho : ∀ q, (W.setCell ⟨R, k, none⟩ u).cell? ⟨J, q, none⟩ = W.cell? ⟨J, q, none⟩ := fun q => World.cell?_setCell_other _ _ _ _ (fun e => by injection e with e _ _; exact hJ e)
  exact ⟨by rw [ho]; exact h.j0, by rw [ho]; exact h.j1, by rw [ho]; exact h.j2, by rw [ho]; exact h.j3, h.cars.off (.inl hR) u, h.stops.off (.inl hR) u, h.pairs.off (.inl hR) u, h.travel.off (.inl hR) u, by simpa using h.top⟩
theorem OddAt.int {W : World} {B0 T J : Nat} {vc vs vp vt : Value} {n1 n2 n3 n4 : Nat} (h : OddAt W B0 T J vc vs vp vt n1 n2 n3 n4) {a : Addr} {z : Int} (ha : W.cell? a = some (.int .i64 z)) (hJ : a.block ≠ J) (m : Int) : OddAt (W.setCell a (.int .i64 m)) B0 T J vc vs vp vt n1 n2 n3 n4 := by
  have ho : ∀ q, (W.setCell a (.int .i64 m)).cell? ⟨J, q, none⟩ = W.cell? ⟨J, q, none⟩ := fun q => World.cell?_setCell_other _ _ _ _ (fun e => by rw [e] at hJ; exact hJ rfl)
  exact ⟨by rw [ho]; exact h.j0, by rw [ho]; exact h.j1, by rw [ho]; exact h.j2, by rw [ho]; exact h.j3, h.cars.set_int ha m, h.stops.set_int ha m, h.pairs.set_int ha m, h.travel.set_int ha m, by simpa using h.top⟩
theorem OddAt.row {W : World} {B0 T J : Nat} {vc vs vp vt : Value} {n1 n2 n3 n4 : Nat} (h : OddAt W B0 T J vc vs vp vt n1 n2 n3 n4) {a : Addr} {A : Option Addr} {k l : Nat} (ha : W.cell? a = some (.slice A k l)) (hJ : a.block ≠ J) {u : Value} {m : Nat} (hu : NumsAt W B0 T 1 u m) : OddAt (W.setCell a u) B0 T J vc vs vp vt n1 n2 n3 n4 := by
  have ho : ∀ q, (W.setCell a u).cell? ⟨J, q, none⟩ = W.cell? ⟨J, q, none⟩ := fun q => World.cell?_setCell_other _ _ _ _ (fun e => by rw [e] at hJ; exact hJ rfl)
  exact ⟨by rw [ho]; exact h.j0, by rw [ho]; exact h.j1, by rw [ho]; exact h.j2, by rw [ho]; exact h.j3, h.cars.set_slice ha u, h.stops.set_slice ha u, h.pairs.set_slice ha u, h.travel.set_row ha hu, by simpa using h.top⟩
theorem OddAt.below {W W' : World} {B0 T J : Nat} {vc vs vp vt : Value} {n1 n2 n3 n4 : Nat} (h : OddAt W B0 T J vc vs vp vt n1 n2 n3 n4) (hb : Below W.heap.size W W') (hJ : J < W.heap.size) : OddAt W' B0 T J vc vs vp vt n1 n2 n3 n4 :=
  ⟨by rw [hb.cell hJ]; exact h.j0, by rw [hb.cell hJ]; exact h.j1, by rw [hb.cell hJ]; exact h.j2, by rw [hb.cell hJ]; exact h.j3, h.cars.below hb h.top, h.stops.below hb h.top, h.pairs.below hb h.top, h.travel.below hb h.top, Nat.le_trans h.top hb.size⟩
theorem own_nums {α : Type} {w : World} {B : Nat} {e : TypeId} {c : Nat} {v : Value} {l : List α} {f : α → List Value} {g : α → Nat → Int} (h : w.ownsRow B e c v l.length (l.flatMap f)) (hf : ∀ x, (f x).length = c) (hg : ∀ x j, j < c → (f x)[j]? = some (.int .i64 (g x j))) : NumsAt w B w.heap.size c v l.length := by
  obtain ⟨A, cap, rfl, hr⟩ := own_recs h hf hg
  refine ⟨A, cap, rfl, fun k hk => ?_⟩
  obtain ⟨g', o, rfl, hg1, hg2⟩ := hr k hk
  refine ⟨g', o, rfl, (own_typed h (g := g') rfl).2, hg1, fun j hj => ⟨_, hg2 j hj⟩⟩
theorem Held.odd {W : World} {B J : Nat} {i : Prob} {vc vs vp vt : Value} {us : List Value} (h : Held W B J i vc vs vp vt us) : OddAt W B W.heap.size J vc vs vp vt i.cars.length i.stops.length i.pairs.length i.travel.length := by
  refine ⟨by rw [Lib.cell_of_heap h.box]; rfl, by rw [Lib.cell_of_heap h.box]; rfl, by rw [Lib.cell_of_heap h.box]; rfl, by rw [Lib.cell_of_heap h.box]; rfl, ?_, ?_, ?_, ?_, Nat.le_refl _⟩
  · exact own_nums h.cars (g := Car.at_) (fun x => rfl) (fun x j hj => by match j, hj with | 0, _ | 1, _ | 2, _ => rfl)
  · exact own_nums h.stops (g := Stop.at_) (fun x => rfl) (fun x j hj => by match j, hj with | 0, _ | 1, _ | 2, _ | 3, _ => rfl)
  · exact own_nums h.pairs (g := Pair.at_) (fun x => rfl) (fun x j hj => by match j, hj with | 0, _ | 1, _ => rfl)
  · obtain ⟨A, cap, rfl, hc⟩ := own_get h.travel
    refine ⟨A, cap, rfl, fun k hk => ?_⟩
    obtain ⟨b, rfl, hb, hcell⟩ := hc (by omega)
    obtain ⟨u, hu, g, cap', rfl, hg, hbl, _, _⟩ := h.rows k hk
    refine ⟨b, 0, _, i.travel[k].length, rfl, (own_typed h.travel (g := b) rfl).2, hb, by rw [Nat.zero_add]; exact hcell _ _ hu, _, _, rfl, fun q hq => ⟨g, 0, rfl, hg, hbl.1, fun j hj => ?_⟩⟩
    obtain rfl : j = 0 := by omega
    exact ⟨i.travel[k][q], by have := (hbl.2 q (by simpa [ints] using hq)).1; simpa [ints] using this⟩
/-- .. moved into a new variable J -/
theorem Held.moved {W : World} {B I : Nat} {i : Prob} {vc vs vp vt : Value} {us : List Value} (h : Held W B I i vc vs vp vt us) (hB : B ≤ W.heap.size) : Held (W.alloc (.cells #[vc, vs, vp, vt] 30)) B W.heap.size i vc vs vp vt us := by
  have h' := h.below ((Below.refl _ _).alloc (Nat.le_refl _) (.cells #[vc, vs, vp, vt] 30))
  exact ⟨hB, by unfold World.alloc; simp, h'.cars, h'.stops, h'.pairs, h'.travel, h'.rows⟩
theorem Held.moved_odd {W : World} {B I : Nat} {i : Prob} {vc vs vp vt : Value} {us : List Value} (h : Held W B I i vc vs vp vt us) : OddAt (W.alloc (.cells #[vc, vs, vp, vt] 30)) B W.heap.size W.heap.size vc vs vp vt i.cars.length i.stops.length i.pairs.length i.travel.length := by
  have hb := (Below.refl W.heap.size W).alloc (Nat.le_refl _) (.cells #[vc, vs, vp, vt] 30)
  have h' := h.odd
  exact ⟨by rw [World.cell?_alloc_new]; rfl, by rw [World.cell?_alloc_new]; rfl, by rw [World.cell?_alloc_new]; rfl, by rw [World.cell?_alloc_new]; rfl, h'.cars.below hb (Nat.le_refl _), h'.stops.below hb (Nat.le_refl _), h'.pairs.below hb (Nat.le_refl _), h'.travel.below hb (Nat.le_refl _), by simp⟩
theorem NumsAt.first {W : World} {B0 T c g n cap : Nat} (h : NumsAt W B0 T c (.slice (some ⟨g, 0, none⟩) n cap) n) (hn : 0 < n) : B0 ≤ g ∧ g < T ∧ ∀ j, j < c → ∃ x, W.cell? ⟨g, j, none⟩ = some (.int .i64 x) := by
  obtain ⟨A, c', e, h⟩ := h
  obtain ⟨B', o', e', h1, h2, h3⟩ := h 0 hn
  obtain ⟨rfl, rfl⟩ : g = B' ∧ 0 = o' := by injection e with e _ _; rw [e'] at e; simpa using e
  exact ⟨h1, h2, fun j hj => by simpa using h3 j hj⟩
theorem RowsAt.nth {W : World} {B0 T g n cap : Nat} (h : RowsAt W B0 T (.slice (some ⟨g, 0, none⟩) n cap) n) {k : Nat} (hk : k < n) : B0 ≤ g ∧ g < T ∧ ∃ u m, W.cell? ⟨g, k, none⟩ = some u ∧ NumsAt W B0 T 1 u m := by
  obtain ⟨A, c', e, h⟩ := h
  obtain ⟨B', o', u, m, e', h1, h2, h3, h4⟩ := h k hk
  obtain ⟨rfl, rfl⟩ : g = B' ∧ 0 = o' := by injection e with e _ _; rw [e'] at e; simpa using e
  exact ⟨h1, h2, u, m, by simpa using h3, h4⟩
theorem Held.put_cars {W W' : World} {B I : Nat} {i : Prob} {vc vs vp vt v' : Value} {us : List Value} (h : Held W B I i vc vs vp vt us) (x : List Car) (hown : W'.ownsRow B 58 3 v' (i.cars.length + x.length) (carCells i.cars ++ carCells x)) (hg : W.grownBy W' vc.ownBlock) :
    Held (W'.setCell ⟨I, 0, none⟩ v') B I { i with cars := i.cars ++ x } v' vs vp vt us := by
  have hI := h.typedI
  have hb := h.box_car hg
  have hI' : Typed W' I 30 := ⟨_, hb⟩
  have hrow : ∀ e, e ≠ 58 → ∀ g, vc.ownBlock = some g → ∃ t, Typed W g t ∧ t ≠ e := fun e he g hgv => ⟨58, (own_typed h.cars hgv).1, he.symm⟩
  have hrow2 : ∀ e, e ≠ 30 → ∀ g, some I = some g → ∃ t, Typed W' g t ∧ t ≠ e := fun e he g hgv => by
    injection hgv with hgv; subst hgv; exact ⟨30, hI', he.symm⟩
  have hs := grown_set W' I 0 v'
  refine ⟨h.lt, ?_, ?_, ?_, ?_, ?_, ?_⟩
  · simp [World.setCell, Array.getElem?_modify, hb]
  · have := own_keep hown hs (hrow2 _ (by decide))
    simpa [carCells, List.flatMap_append] using this
  · exact own_keep (own_keep h.stops hg (hrow _ (by decide))) hs (hrow2 _ (by decide))
  · exact own_keep (own_keep h.pairs hg (hrow _ (by decide))) hs (hrow2 _ (by decide))
  · exact own_keep (own_keep h.travel hg (hrow _ (by decide))) hs (hrow2 _ (by decide))
  · intro k hk
    obtain ⟨u, h1, h2⟩ := h.rows k hk
    exact ⟨u, h1, (h2.grown hg (hrow _ (by decide))).grown hs (hrow2 _ (by decide))⟩
theorem Held.put_stops {W W' : World} {B I : Nat} {i : Prob} {vc vs vp vt v' : Value} {us : List Value} (h : Held W B I i vc vs vp vt us) (x : List Stop) (hown : W'.ownsRow B 61 4 v' (i.stops.length + x.length) (stopCells i.stops ++ stopCells x)) (hg : W.grownBy W' vs.ownBlock) :
    Held (W'.setCell ⟨I, 1, none⟩ v') B I { i with stops := i.stops ++ x } vc v' vp vt us := by
  have hI := h.typedI
  have hb := h.box_stop hg
  have hI' : Typed W' I 30 := ⟨_, hb⟩
  have hrow : ∀ e, e ≠ 61 → ∀ g, vs.ownBlock = some g → ∃ t, Typed W g t ∧ t ≠ e := fun e he g hgv => ⟨61, (own_typed h.stops hgv).1, he.symm⟩
  have hrow2 : ∀ e, e ≠ 30 → ∀ g, some I = some g → ∃ t, Typed W' g t ∧ t ≠ e := fun e he g hgv => by
    injection hgv with hgv; subst hgv; exact ⟨30, hI', he.symm⟩
  have hs := grown_set W' I 1 v'
  refine ⟨h.lt, ?_, ?_, ?_, ?_, ?_, ?_⟩
  · simp [World.setCell, Array.getElem?_modify, hb]
  · exact own_keep (own_keep h.cars hg (hrow _ (by decide))) hs (hrow2 _ (by decide))
  · have := own_keep hown hs (hrow2 _ (by decide))
    simpa [stopCells, List.flatMap_append] using this
  · exact own_keep (own_keep h.pairs hg (hrow _ (by decide))) hs (hrow2 _ (by decide))
  · exact own_keep (own_keep h.travel hg (hrow _ (by decide))) hs (hrow2 _ (by decide))
  · intro k hk
    obtain ⟨u, h1, h2⟩ := h.rows k hk
    exact ⟨u, h1, (h2.grown hg (hrow _ (by decide))).grown hs (hrow2 _ (by decide))⟩
theorem Held.put_pairs {W W' : World} {B I : Nat} {i : Prob} {vc vs vp vt v' : Value} {us : List Value} (h : Held W B I i vc vs vp vt us) (x : List Pair) (hown : W'.ownsRow B 62 2 v' (i.pairs.length + x.length) (pairCells i.pairs ++ pairCells x)) (hg : W.grownBy W' vp.ownBlock) :
    Held (W'.setCell ⟨I, 2, none⟩ v') B I { i with pairs := i.pairs ++ x } vc vs v' vt us := by
  have hI := h.typedI
  have hb := h.box_pair hg
  have hI' : Typed W' I 30 := ⟨_, hb⟩
  have hrow : ∀ e, e ≠ 62 → ∀ g, vp.ownBlock = some g → ∃ t, Typed W g t ∧ t ≠ e := fun e he g hgv => ⟨62, (own_typed h.pairs hgv).1, he.symm⟩
  have hrow2 : ∀ e, e ≠ 30 → ∀ g, some I = some g → ∃ t, Typed W' g t ∧ t ≠ e := fun e he g hgv => by
    injection hgv with hgv; subst hgv; exact ⟨30, hI', he.symm⟩
  have hs := grown_set W' I 2 v'
  refine ⟨h.lt, ?_, ?_, ?_, ?_, ?_, ?_⟩
  · simp [World.setCell, Array.getElem?_modify, hb]
  · exact own_keep (own_keep h.cars hg (hrow _ (by decide))) hs (hrow2 _ (by decide))
  · exact own_keep (own_keep h.stops hg (hrow _ (by decide))) hs (hrow2 _ (by decide))
  · have := own_keep hown hs (hrow2 _ (by decide))
    simpa [pairCells, List.flatMap_append] using this
  · exact own_keep (own_keep h.travel hg (hrow _ (by decide))) hs (hrow2 _ (by decide))
  · intro k hk
    obtain ⟨u, h1, h2⟩ := h.rows k hk
    exact ⟨u, h1, (h2.grown hg (hrow _ (by decide))).grown hs (hrow2 _ (by decide))⟩
theorem reads_many (w : World) (l : List Value) (t : TypeId) (size n : Nat) (h : l.length = n * size) : Reads (w.alloc (.cells l.toArray t)) (w.heap.size + 1) size (some ⟨w.heap.size, 0, none⟩) n l := by
  refine ⟨h, fun _ => ⟨_, rfl, Nat.lt_succ_self _, fun j u hu => ?_⟩⟩
  have e : (⟨w.heap.size, 0, none⟩ : Addr).add j = ⟨w.heap.size, j, none⟩ := by
    unfold Addr.add; split
    · next h => rw [h]
    · simp
  rw [e, World.cell?_alloc_new]
  simpa using hu
theorem own_cap {w : World} {B : Nat} {e : TypeId} {size n c : Nat} {A : Option Addr} {xs : List Value} (h : w.ownsRow B e size (.slice A n c) n xs) : n ≤ c := by
  rcases h.2 with ⟨hv, _⟩ | ⟨g, cap, cur, hv, _, _, hnc, _⟩
  · injection hv with _ h1 h2; omega
  · injection hv with _ _ h2; omega
theorem stops_one (l : List Stop) : ∀ u ∈ stopCells l, u.oneCell' = true := by
  intro u hu
  obtain ⟨x, _, hx⟩ := List.mem_flatMap.1 hu
  exact ints_one _ u hx
def OddEnd (w : World) (e : Ending) (w' : World) : Prop := ∃ (i : Prob) (v : Value), e = .returned v ∧ Lies w' v i ∧ i.cars.length ≤ 6 ∧ i.stops.length ≤ 16 ∧ i.pairs.length ≤ 3 ∧ Below w.heap.size w w'
end Go.Proofs.YteibelmgebhleaaDoor
