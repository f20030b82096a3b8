/- trip.allThere, noneTwice, allTravel: what they answer of a problem in memory. · trip.pairsWhole: what it answers of a problem in memory. · A block whose cells are known. · Words for memory (after the guide's own page of lemmas to copy): a slice that reads as a list; append onto an owned row, whatever the source; an owned row stays where old memory stands. · A problem that a call makes in memory of its own: its four rows, grown and kept (no call of the program). · A trip that a call makes in a variable: two rows of its own, two numbers. · trip.drive: the trip, or that it can't be driven. · A region that draws its order: an operation that gives its value wherever S holds (a load, a call that leaves the world alone) may be taken first; S is asked for only till operation z, which waits for it, has come up. No program: plain laws on orders. · trip.Eval, trip.Cost: what they answer of a problem that may be. · draymankeep.Within. -/
import Derived.Test.YtgkieelacjcopaaZ02
import Derived.Deep.Cut
import Derived.Deep.CutRange
import Derived.Deep.CutBlock
import Derived.Test.YtgkieelacjcopaaZ01
import Derived.Below
import Derived.Laws.OwnMore
import Derived.Deep.AppendLies
import Derived.Deep.Draws
import Derived.Maps.AppendAt
import Derived.RegionTactic
import Derived.OwnWalk
import Derived.BigRegion
import Derived.OrdersHeld
import Derived.Deep.RegionHeld3
import Derived.StillTail
import Derived.IntWalk
namespace Go.Proofs.Ytgkieelacjcopaa
open Go.RowKit
set_option linter.unusedSimpArgs false

/-- one cell of a table of ways -/
theorem Trav.way {W : World} {v : Value} {i : Prob} (h : Trav W v i.travel) (hf : Fine i) {a b : Nat} (ha : a ≤ i.stops.length) (hb : b ≤ i.stops.length) :
    ∃ A cap B o A2 cap2 B2 o2, v = .slice A (i.stops.length + 1) cap ∧ A = some ⟨B, o, none⟩ ∧ B < W.heap.size ∧ W.cell? ⟨B, o + a, none⟩ = some (.slice A2 (i.stops.length + 1) cap2) ∧ A2 = some ⟨B2, o2, none⟩ ∧ B2 < W.heap.size ∧ W.cell? ⟨B2, o2 + b, none⟩ = some (.int .i64 (way i a b)) := by
  obtain ⟨A, cap, rfl, hc⟩ := h
  have hl := hf.travel
  obtain ⟨B, o, u, rfl, hB, hu, hr⟩ := hc a (by omega)
  have hrl := hf.rowL i.travel[a] (List.getElem_mem _)
  obtain ⟨A2, cap2, rfl, hc2⟩ := hr.num
  obtain ⟨B2, o2, rfl, hB2, hcell⟩ := hc2 b (by omega)
  refine ⟨_, cap, B, o, _, cap2, B2, o2, by rw [hl], rfl, hB, by rw [← hrl]; exact hu, rfl, hB2, ?_⟩
  rw [way_nat i (by omega) (by omega)]
  exact hcell

end Go.Proofs.Ytgkieelacjcopaa
namespace Go.Proofs.Ytgkieelacjcopaa
open Go.RowKit
set_option linter.unusedSimpArgs false

end Go.Proofs.Ytgkieelacjcopaa
namespace Go.Proofs.Ytgkieelacjcopaa
open Go.RowKit
/-- block B holds these values, none frozen -/
def Blk (W : World) (B : Nat) (l : List Value) : Prop := B < W.heap.size ∧ ∀ j (h : j < l.length), W.cell? ⟨B, j, none⟩ = some l[j] ∧ W.frozen? ⟨B, j, none⟩ = false
theorem Blk.below {W W' : World} {B : Nat} {l : List Value} (h : Blk W B l) (hb : Below W.heap.size W W') : Blk W' B l :=
  ⟨Nat.lt_of_lt_of_le h.1 hb.size, fun j hj => ⟨by rw [hb.cell h.1]; exact (h.2 j hj).1, by rw [hb.frozen h.1]; exact (h.2 j hj).2⟩⟩
theorem Blk.alloc {W : World} {B : Nat} {l : List Value} (h : Blk W B l) (o : Obj) : Blk (W.alloc o) B l := h.below ((Below.refl _ _).alloc (Nat.le_refl _) _)
theorem Blk.drew {W : World} {B : Nat} {l : List Value} (h : Blk W B l) : Blk W.drew B l := h
theorem Blk.other {W : World} {B : Nat} {l : List Value} (h : Blk W B l) {a : Addr} (ha : a.block ≠ B) (u : Value) : Blk (W.setCell a u) B l :=
  ⟨by simpa using h.1, fun j hj => ⟨by rw [World.cell?_setCell_other _ _ _ _ (by intro hh; rw [hh] at ha; exact ha rfl)]; exact (h.2 j hj).1, by rw [World.frozen?_setCell]; exact (h.2 j hj).2⟩⟩
theorem Blk.set {W : World} {B : Nat} {l : List Value} (h : Blk W B l) {k : Nat} (hk : k < l.length) (u : Value) : Blk (W.setCell ⟨B, k, none⟩ u) B (l.set k u) := by
  refine ⟨by simpa using h.1, fun j hj => ⟨?_, by rw [World.frozen?_setCell]; exact (h.2 j (by simpa using hj)).2⟩⟩
  by_cases e : j = k
  · subst e
    rw [World.cell?_setCell_same _ _ _ (h.2 j hk).1]; simp
  · rw [World.cell?_setCell_other _ _ _ _ (by intro hh; injection hh with _ h2 _; exact e h2.symm), (h.2 j (by simpa using hj)).1]
    rw [List.getElem_set_ne (by omega)]
theorem blk_new (w : World) (c : Array Value) (t : TypeId) : Blk (w.alloc (.cells c t)) w.heap.size c.toList := by
  refine ⟨by simp, fun j hj => ⟨?_, by simp [go_sem]⟩⟩
  rw [World.cell?_alloc_new]
  simp at hj ⊢
theorem blk_at {w : World} {B : Nat} (c : Array Value) (t : TypeId) (h : B = w.heap.size) : Blk (w.alloc (.cells c t)) B c.toList := h ▸ blk_new w c t
/-- a block of cells of a type -/
def Typed (W : World) (g : Nat) (t : TypeId) : Prop := ∃ cur, W.heap[g]? = some (.cells cur t (0, 0))
theorem Typed.below {W W' : World} {g : Nat} {t : TypeId} (h : Typed W g t) (hb : Below W.heap.size W W') : Typed W' g t := by
  obtain ⟨cur, h⟩ := h
  exact ⟨cur, by rw [hb.block g (Array.getElem?_eq_some_iff.1 h).1]; exact h⟩
theorem Typed.setCell {W : World} {g : Nat} {t : TypeId} (h : Typed W g t) (g' k : Nat) (u : Value) : Typed (W.setCell ⟨g', k, none⟩ u) g t := by
  obtain ⟨cur, h⟩ := h
  by_cases e : g' = g
  · subst e
    exact ⟨_, by simp [World.setCell, Array.getElem?_modify, h]; rfl⟩
  · exact ⟨cur, by rw [Below.heap_setCell _ _ _ _ (fun h => e h.symm)]; exact h⟩
theorem typed_new (w : World) (c : Array Value) (t : TypeId) : Typed (w.alloc (.cells c t)) w.heap.size t := ⟨c, by unfold World.alloc; simp⟩
theorem Blk.heap {W W' : World} {B : Nat} {l : List Value} (h : Blk W B l) (he : W'.heap[B]? = W.heap[B]?) (hs : W.heap.size ≤ W'.heap.size) : Blk W' B l :=
  ⟨Nat.lt_of_lt_of_le h.1 hs, fun j hj => ⟨by rw [World.cell?_of_block (w := W) he]; exact (h.2 j hj).1, by rw [World.frozen?_of_block (w := W) he]; exact (h.2 j hj).2⟩⟩
/-- records out of a block -/
theorem Blk.recs {α : Type} {W : World} {B : Nat} {l : List Value} (h : Blk W B l) (c : Nat) (g : α → Nat → Int) (xs : List α) (cap : Nat)
    (hl : ∀ k (hk : k < xs.length) j, j < c → l[k * c + j]? = some (.int .i64 (g xs[k] j))) : Recs W c g (.slice (some ⟨B, 0, none⟩) xs.length cap) xs := by
  refine ⟨_, _, rfl, fun k hk => ⟨B, 0, rfl, h.1, fun j hj => ?_⟩⟩
  have h1 := hl k hk j hj
  obtain ⟨h2, h3⟩ := List.getElem?_eq_some_iff.1 h1
  rw [Nat.zero_add, (h.2 _ h2).1, h3]
theorem Blk.trav {W : World} {B : Nat} {l : List Value} (h : Blk W B l) (xs : List (List Int)) (cap : Nat) (hl : ∀ k (hk : k < xs.length), ∃ u, l[k]? = some u ∧ Recs W 1 num_ u xs[k]) : Trav W (.slice (some ⟨B, 0, none⟩) xs.length cap) xs := by
  refine ⟨_, _, rfl, fun k hk => ?_⟩
  obtain ⟨u, h1, hr⟩ := hl k hk
  obtain ⟨h2, h3⟩ := List.getElem?_eq_some_iff.1 h1
  exact ⟨B, 0, u, rfl, h.1, by rw [Nat.zero_add, (h.2 _ h2).1, h3], hr⟩
def ints (l : List Int) : List Value := l.map fun n => .int .i64 n
theorem Blk.car {W : World} {B : Nat} {a b c : Int} (h : Blk W B (ints [a, b, c])) (cap : Nat) : Recs W 3 Car.at_ (.slice (some ⟨B, 0, none⟩) 1 cap) [⟨a, b, c⟩] :=
  h.recs 3 Car.at_ [⟨a, b, c⟩] cap fun k hk j hj => by
    match k, hk, j, hj with
    | 0, _, 0, _ | 0, _, 1, _ | 0, _, 2, _ => rfl
theorem Blk.stop2 {W : World} {B : Nat} {a b c d e f g i : Int} (h : Blk W B (ints [a, b, c, d, e, f, g, i])) (cap : Nat) : Recs W 4 Stop.at_ (.slice (some ⟨B, 0, none⟩) 2 cap) [⟨a, b, c, d⟩, ⟨e, f, g, i⟩] :=
  h.recs 4 Stop.at_ [⟨a, b, c, d⟩, ⟨e, f, g, i⟩] cap fun k hk j hj => by
    match k, hk, j, hj with
    | 0, _, 0, _ | 0, _, 1, _ | 0, _, 2, _ | 0, _, 3, _ | 1, _, 0, _ | 1, _, 1, _ | 1, _, 2, _ | 1, _, 3, _ => rfl
theorem Blk.pair {W : World} {B : Nat} {a b : Int} (h : Blk W B (ints [a, b])) (cap : Nat) : Recs W 2 Pair.at_ (.slice (some ⟨B, 0, none⟩) 1 cap) [⟨a, b⟩] :=
  h.recs 2 Pair.at_ [⟨a, b⟩] cap fun k hk j hj => by
    match k, hk, j, hj with
    | 0, _, 0, _ | 0, _, 1, _ => rfl
theorem Blk.row3 {W : World} {B : Nat} {a b c : Int} (h : Blk W B (ints [a, b, c])) (cap : Nat) : Recs W 1 num_ (.slice (some ⟨B, 0, none⟩) 3 cap) [a, b, c] :=
  h.recs 1 num_ [a, b, c] cap fun k hk j hj => by
    match k, hk, j, hj with
    | 0, _, 0, _ | 1, _, 0, _ | 2, _, 0, _ => rfl
theorem Recs.nil {α : Type} {W : World} {c : Nat} {g : α → Nat → Int} {A : Option Addr} {cap : Nat} : Recs W c g (.slice A 0 cap) ([] : List α) := ⟨A, cap, rfl, fun k hk => absurd hk (by simp)⟩
theorem Trav.nil {W : World} {A : Option Addr} {cap : Nat} : Trav W (.slice A 0 cap) [] := ⟨A, cap, rfl, fun k hk => absurd hk (by simp)⟩
end Go.Proofs.Ytgkieelacjcopaa
namespace Go.Proofs.Ytgkieelacjcopaa
open Go.RowKit
theorem block_of_add (a : Addr) (n : Nat) : (a.add n).block = a.block := by unfold Addr.add; split <;> rfl
theorem add_of_add (a : Addr) (i j : Nat) : (a.add i).add j = a.add (i + j) := by
  unfold Addr.add
  by_cases hi : i = 0 <;> by_cases hj : j = 0 <;> simp [hi, hj, Nat.add_assoc]

def Reads (w : World) (B size : Nat) (A : Option Addr) (n : Nat) (xs : List Value) : Prop :=
  xs.length = n * size ∧ (0 < n → ∃ ad, A = some ad ∧ ad.block < B ∧ ∀ j u, xs[j]? = some u → w.cell? (ad.add j) = some u)

section
variable {w w' : World} {B B' size n : Nat} {A : Option Addr} {xs : List Value}
theorem Reads.none_ : Reads w B size A 0 [] := ⟨by simp, fun h => absurd h (by omega)⟩
theorem Reads.at_ {k : Nat} (h : Reads w B 1 A n xs) (hk : k < n) : ∃ ad u, A = some ad ∧ ad.block < B ∧ xs[k]? = some u ∧ w.cell? (ad.add k) = some u := by
  obtain ⟨ad, e, hb, hc⟩ := h.2 (by omega)
  have hl : k < xs.length := by have := h.1; omega
  exact ⟨ad, xs[k], e, hb, List.getElem?_eq_getElem hl, hc k _ (List.getElem?_eq_getElem hl)⟩
theorem Reads.keep (h : Reads w B size A n xs) (hk : ∀ p : Addr, p.block < B → w'.cell? p = w.cell? p) : Reads w' B size A n xs :=
  ⟨h.1, fun hn => by
    obtain ⟨ad, e, hb, hc⟩ := h.2 hn
    exact ⟨ad, e, hb, fun j u hu => (hk _ (by rw [block_of_add]; exact hb)).trans (hc j u hu)⟩⟩
theorem Reads.more (h : Reads w B size A n xs) (hB : B ≤ B') : Reads w B' size A n xs :=
  ⟨h.1, fun hn => by
    obtain ⟨ad, e, hb, hc⟩ := h.2 hn
    exact ⟨ad, e, by omega, hc⟩⟩
theorem Reads.below (h : Reads w B size A n xs) (hb : Below B w w') : Reads w' B size A n xs := h.keep fun _ hp => hb.cell hp
theorem Reads.drew (h : Reads w B size A n xs) : Reads w.drew B size A n xs := h
theorem Reads.drewN (h : Reads w B size A n xs) (k : Nat) : Reads (w.drewN k) B size A n xs := h
theorem Reads.alloc (h : Reads w B size A n xs) (hB : B ≤ w.heap.size) (o : Obj) : Reads (w.alloc o) B size A n xs := h.keep fun p hp => World.cell?_alloc_lt w o p (by omega)
theorem Reads.setCell (h : Reads w B size A n xs) {p : Addr} (hB : B ≤ p.block) (u : Value) : Reads (w.setCell p u) B size A n xs :=
  h.keep fun q hq => World.cell?_setCell_other w p q u (fun e => by subst e; omega)
theorem Reads.grown (h : Reads w B size A n xs) {row : Option Nat} (hg : w.grownBy w' row) (hB : B ≤ w.heap.size) (hr : ∀ g, row = some g → B ≤ g) : Reads w' B size A n xs :=
  h.keep fun p hp => World.cell?_of_block (hg.block p.block (by omega) (fun e => by have := hr _ e.symm; omega))
theorem Reads.cut (h : Reads w B size A n xs) {k cap : Nat} (hk : k ≤ n) (hc : n ≤ cap) :
    Reads w B size (if cap = k then A else A.map (·.add (k * size))) (n - k) (xs.drop (k * size)) := by
  refine ⟨by rw [List.length_drop, h.1, Nat.sub_mul], fun hn => ?_⟩
  obtain ⟨ad, rfl, hb, hcell⟩ := h.2 (by omega)
  rw [if_neg (by omega)]
  refine ⟨ad.add (k * size), rfl, by rw [block_of_add]; exact hb, fun j u hu => ?_⟩
  rw [add_of_add]
  exact hcell _ u (by rw [← hu, List.getElem?_drop])
theorem Reads.of_own {base : Nat} {e : TypeId} {c : Nat} (h : w.ownsRow base e size (.slice A n c) n xs) : Reads w w.heap.size size A n xs := by
  refine ⟨h.1, fun hn => ?_⟩
  obtain ⟨g, cap, hv, _, hlt⟩ := h.form hn
  have hA : A = some ⟨g, 0, none⟩ := by injection hv
  subst hA
  exact ⟨_, rfl, hlt, h.cells (g := g) rfl⟩
end
section
variable {P : Program} (w : World)

theorem run_append_of_nil (base : Nat) (t ty e : TypeId) (i : TypeInfo) (size : Nat) (ht : P.underlying t = some (.slice e)) (hi : P.info? e = some i)
    (v : Value) (n : Nat) (xs : List Value) (hown : w.ownsRow base e size v n xs) (c : Nat) : (Builtin.append_ #[t, t] ty #[v, .slice none 0 c]).run P w = .ok v w := by
  rcases hown.2 with ⟨rfl, rfl⟩ | ⟨g, cap, cur, rfl, _, _, hnc, _⟩
  · simp [Builtin.append_, run_underlying ht, sizeOf, typeInfo, hi, Builtin.lenOf, Builtin.firstCells]
  · simp [Builtin.append_, run_underlying ht, sizeOf, typeInfo, hi, Builtin.lenOf, Builtin.firstCells, hnc, storeCells]

theorem run_append_any (base : Nat) (t ty e : TypeId) (i : TypeInfo) (z : Value) (size bytes : Nat) (ht : P.underlying t = some (.slice e)) (hi : P.info? e = some i) (hz : i.zero = some z)
    (hsize : i.size = size) (hby : i.bytes = bytes) (hzs : z.cells.size = size) (hsz : 0 < size)
    (v : Value) (n : Nat) (xs : List Value) (hown : w.ownsRow base e size v n xs)
    (B : Nat) (A : Option Addr) (m c : Nat) (news : List Value) (hr : Reads w B size A m news) (h1 : ∀ u ∈ news, u.oneCell' = true)
    (h63 : n + m ≤ maxLen) (hbytes : (n + m) * bytes ≤ 140737488355328) (hbase : base ≤ w.heap.size) :
    ∃ v' w', (Builtin.append_ #[t, t] ty #[v, .slice A m c]).run P w = .ok v' w' ∧ w'.ownsRow base e size v' (n + m) (xs ++ news) ∧ w.grownBy w' v.ownBlock ∧
      (v'.ownBlock = v.ownBlock ∨ v'.ownBlock = some w.heap.size) := by
  rcases A with _ | ad
  · have hm : m = 0 := by
      rcases Nat.eq_zero_or_pos m with h0 | h0
      · exact h0
      · obtain ⟨ad, h, _⟩ := hr.2 h0
        cases h
    subst hm
    have hn : news = [] := List.eq_nil_of_length_eq_zero (by simpa using hr.1)
    subst hn
    exact ⟨v, w, run_append_of_nil w base t ty e i size ht hi v n xs hown c, by simpa using hown, World.grownBy.refl w _, .inl rfl⟩
  · have hcells : ∀ j u, news[j]? = some u → w.cell? (ad.add j) = some u := by
      intro j u hu
      rcases Nat.eq_zero_or_pos m with h0 | h0
      · subst h0
        have hn : news = [] := List.eq_nil_of_length_eq_zero (by simpa using hr.1)
        subst hn
        simp at hu
      · obtain ⟨ad', h, _, hc⟩ := hr.2 h0
        injection h with h
        subst h
        exact hc j u hu
    obtain ⟨v', w', hrun, h2, h3, _, h5⟩ := run_append_own_at (P := P) w base t ty e i z size bytes ht hi hz hsize hby hzs hsz v n xs hown ad m c news hr.1 hcells h1 h63 hbytes hbase
    exact ⟨v', w', hrun, h2, h3, h5⟩

theorem wp_append_any {o : Oper} {a : Act} {K : Act → World → Prop} {Q : Exit → Act → World → Prop} (s x : Operand) (t : TypeId)
    (ho : o.op = .call { callee := .builtin .append, args := #[s, x], argTypes := #[t, t] })
    (base : Nat) (e : TypeId) (i : TypeInfo) (z : Value) (size bytes : Nat) (ht : P.underlying t = some (.slice e)) (hi : P.info? e = some i) (hz : i.zero = some z)
    (hsize : i.size = size) (hby : i.bytes = bytes) (hzs : z.cells.size = size) (hsz : 0 < size)
    (v : Value) (n : Nat) (xs : List Value) (hs : a.eval s = v) (hown : w.ownsRow base e size v n xs)
    (B : Nat) (A : Option Addr) (m c : Nat) (news : List Value) (hx : a.eval x = .slice A m c) (hr : Reads w B size A m news) (h1 : ∀ u ∈ news, u.oneCell' = true)
    (h63 : n + m ≤ maxLen) (hbytes : (n + m) * bytes ≤ 140737488355328) (hbase : base ≤ w.heap.size)
    (h : ∀ v' w', w'.ownsRow base e size v' (n + m) (xs ++ news) → w.grownBy w' v.ownBlock → (v'.ownBlock = v.ownBlock ∨ v'.ownBlock = some w.heap.size) → K (a.put o.dst v') w') : o.wp P a w K Q := by
  obtain ⟨v', w', hrun, h2, h3, h4⟩ := run_append_any (P := P) w base t o.type e i z size bytes ht hi hz hsize hby hzs hsz v n xs hown B A m c news hr h1 h63 hbytes hbase
  unfold Oper.wp execOp
  simp only [ho, resolve, invoke, builtin, Sem.run_bind, Sem.run_pure, Result.andThen_ok, List.map_toArray, List.map_cons, List.map_nil, hs, hx, hrun]
  exact h v' w' h2 h3 h4

theorem wpList_append_any {ops : Array Oper} {rest : List Oper} {o : Oper} {a : Act} {Q : Exit → Act → World → Prop} (hgd : o.guard = none) (s x : Operand) (t : TypeId)
    (ho : o.op = .call { callee := .builtin .append, args := #[s, x], argTypes := #[t, t] })
    (base : Nat) (e : TypeId) (i : TypeInfo) (z : Value) (size bytes : Nat) (ht : P.underlying t = some (.slice e)) (hi : P.info? e = some i) (hz : i.zero = some z)
    (hsize : i.size = size) (hby : i.bytes = bytes) (hzs : z.cells.size = size) (hsz : 0 < size)
    (v : Value) (n : Nat) (xs : List Value) (hs : a.eval s = v) (hown : w.ownsRow base e size v n xs)
    (B : Nat) (A : Option Addr) (m c : Nat) (news : List Value) (hx : a.eval x = .slice A m c) (hr : Reads w B size A m news) (h1 : ∀ u ∈ news, u.oneCell' = true)
    (h63 : n + m ≤ maxLen) (hbytes : (n + m) * bytes ≤ 140737488355328) (hbase : base ≤ w.heap.size)
    (h : ∀ v' w', w'.ownsRow base e size v' (n + m) (xs ++ news) → w.grownBy w' v.ownBlock → (v'.ownBlock = v.ownBlock ∨ v'.ownBlock = some w.heap.size) → wpList P ops Q rest (a.put o.dst v') w') : wpList P ops Q (o :: rest) a w :=
  wpList_plain hgd fun _ hK => wp_append_any w s x t ho base e i z size bytes ht hi hz hsize hby hzs hsz v n xs hs hown B A m c news hx hr h1 h63 hbytes hbase fun v' w' h2 h3 h4 => hK _ _ (h v' w' h2 h3 h4)

theorem step_append_any {ops : Array Oper} {o : Oper} {a : Act} {K : Act → World → Prop} {Q : Exit → Act → World → Prop} {E : Prop} (hgd : o.guard = none) (s x : Operand) (t : TypeId)
    (ho : o.op = .call { callee := .builtin .append, args := #[s, x], argTypes := #[t, t] })
    (base : Nat) (e : TypeId) (i : TypeInfo) (z : Value) (size bytes : Nat) (ht : P.underlying t = some (.slice e)) (hi : P.info? e = some i) (hz : i.zero = some z)
    (hsize : i.size = size) (hby : i.bytes = bytes) (hzs : z.cells.size = size) (hsz : 0 < size)
    (v : Value) (n : Nat) (xs : List Value) (hs : a.eval s = v) (hown : w.ownsRow base e size v n xs)
    (B : Nat) (A : Option Addr) (m c : Nat) (news : List Value) (hx : a.eval x = .slice A m c) (hr : Reads w B size A m news) (h1 : ∀ u ∈ news, u.oneCell' = true)
    (h63 : n + m ≤ maxLen) (hbytes : (n + m) * bytes ≤ 140737488355328) (hbase : base ≤ w.heap.size)
    (h : ∀ v' w', w'.ownsRow base e size v' (n + m) (xs ++ news) → w.grownBy w' v.ownBlock → (v'.ownBlock = v.ownBlock ∨ v'.ownBlock = some w.heap.size) → K (a.put o.dst v') w') :
    if Region.wanted o (yielded ops a.tmps) = true then Oper.wp P o a w K Q else E := by
  have hw : Region.wanted o (yielded ops a.tmps) = true := by simp [Region.wanted, hgd]
  rw [if_pos hw]
  exact wp_append_any w s x t ho base e i z size bytes ht hi hz hsize hby hzs hsz v n xs hs hown B A m c news hx hr h1 h63 hbytes hbase h
end
theorem only_of_below {a w : World} (h : Below a.heap.size a w) (row : Option Nat) : a.grownBy w row := ⟨h.os, h.tape, h.output, h.size, fun i hi _ => h.block i hi⟩
theorem own_below {w w' : World} {B : Nat} {e : TypeId} {size n : Nat} {v : Value} {xs : List Value} (h : w.ownsRow B e size v n xs) (hb : Below w.heap.size w w') : w'.ownsRow B e size v n xs := by
  refine h.kept (only_of_below hb none) ?_
  rcases hv : v.ownBlock with _ | k
  · exact .inl rfl
  · exact .inr (by simp)
theorem below_draws {B : Nat} {a w : World} (h : Below B a w) (n : Nat) : Below B a (w.drewN n) := ⟨h.os, h.tape, h.output, h.size, h.block⟩
theorem own_draws {w : World} {B : Nat} {e : TypeId} {size n : Nat} {v : Value} {xs : List Value} (h : w.ownsRow B e size v n xs) (k : Nat) : (w.drewN k).ownsRow B e size v n xs := own_below h (below_draws (Below.refl _ _) k)
end Go.Proofs.Ytgkieelacjcopaa
namespace Go.Proofs.Ytgkieelacjcopaa
open Go.RowKit
set_option linter.unusedSimpArgs false

def carNums (c : Car) : List Int := [c.c, c.s, c.e]
def stopNums (c : Stop) : List Int := [c.d, c.o, c.c, c.s]
def pairNums (c : Pair) : List Int := [c.a, c.b]
def noProb : Prob := ⟨[], [], [], []⟩
def carCells (l : List Car) : List Value := l.flatMap fun c => ints (carNums c)
def stopCells (l : List Stop) : List Value := l.flatMap fun c => ints (stopNums c)
def pairCells (l : List Pair) : List Value := l.flatMap fun c => ints (pairNums c)
/-- a row of numbers that stands by itself: just as long as it is (RowAt), with any room behind it (RowSome) -/
def RowAt (W : World) (B : Nat) (u : Value) (r : List Int) : Prop := ∃ g, u = .slice (some ⟨g, 0, none⟩) r.length r.length ∧ B ≤ g ∧ Blk W g (ints r) ∧ Typed W g 3
def RowSome (W : World) (B : Nat) (u : Value) (r : List Int) : Prop := ∃ g cap, u = .slice (some ⟨g, 0, none⟩) r.length cap ∧ B ≤ g ∧ Blk W g (ints r) ∧ Typed W g 3 ∧ r.length ≤ cap
theorem RowAt.some {W : World} {B : Nat} {u : Value} {r : List Int} (h : RowAt W B u r) : RowSome W B u r := by
  obtain ⟨g, h1, h2, h3, h4⟩ := h; exact ⟨g, _, h1, h2, h3, h4, Nat.le_refl _⟩
structure Held (W : World) (B I : Nat) (i : Prob) (vc vs vp vt : Value) (us : List Value) : Prop where
  lt : B ≤ I
  box : W.heap[I]? = some (.cells #[vc, vs, vp, vt] 27 (0, 0))
  cars : W.ownsRow B 58 3 vc i.cars.length (carCells i.cars)
  stops : W.ownsRow B 55 4 vs i.stops.length (stopCells i.stops)
  pairs : W.ownsRow B 70 2 vp i.pairs.length (pairCells i.pairs)
  travel : W.ownsRow B 47 1 vt i.travel.length us
  rows : ∀ k (h : k < i.travel.length), ∃ u, us[k]? = some u ∧ RowSome W B u i.travel[k]
def HeldSome (W : World) (B I : Nat) (i : Prob) : Prop := ∃ vc vs vp vt us, Held W B I i vc vs vp vt us
theorem own_typed {w : World} {B : Nat} {e : TypeId} {size n : Nat} {v : Value} {xs : List Value} (h : w.ownsRow B e size v n xs) {g : Nat} (hg : v.ownBlock = some g) : Typed w g e ∧ B ≤ g := by
  rcases h.2 with ⟨rfl, _⟩ | ⟨g', cap, cur, rfl, hb, hh, _⟩
  · simp [Value.ownBlock] at hg
  · simp [Value.ownBlock] at hg
    subst hg
    exact ⟨⟨cur, hh⟩, hb⟩
theorem typed_ne {w : World} {g g' : Nat} {e e' : TypeId} (h : Typed w g e) (h' : Typed w g' e') (hne : e ≠ e') : g ≠ g' := by
  rintro rfl
  obtain ⟨c, h⟩ := h
  obtain ⟨c', h'⟩ := h'
  rw [h] at h'
  injection h' with h'
  injection h' with _ h' _
  exact hne h'
theorem own_ne {w : World} {B B' : Nat} {e e' : TypeId} {size size' n n' : Nat} {v v' : Value} {xs xs' : List Value} (h : w.ownsRow B e size v n xs) (h' : w.ownsRow B' e' size' v' n' xs') (hne : e ≠ e') : v.ownBlock = none ∨ v.ownBlock ≠ v'.ownBlock := by
  rcases hv : v.ownBlock with _ | g
  · exact .inl rfl
  · refine .inr fun hv' => ?_
    exact typed_ne (own_typed h hv).1 (own_typed h' hv'.symm).1 hne rfl
theorem RowSome.grown {W W' : World} {B : Nat} {u : Value} {r : List Int} {row : Option Nat} (h : RowSome W B u r) (hg : W.grownBy W' row) (hrow : ∀ g, row = some g → ∃ t, Typed W g t ∧ t ≠ 3) : RowSome W' B u r := by
  obtain ⟨g, cap, rfl, hB, hbl, hty, hcp⟩ := h
  have hlt := hbl.1
  have he : W'.heap[g]? = W.heap[g]? := hg.block g hlt (fun e => by
    obtain ⟨t, ht, hne⟩ := hrow g e.symm
    exact typed_ne ht hty hne rfl)
  obtain ⟨cur, hc⟩ := hty
  exact ⟨g, cap, rfl, hB, hbl.heap he hg.size, ⟨cur, by rw [he]; exact hc⟩, hcp⟩
theorem RowSome.below {W W' : World} {B : Nat} {u : Value} {r : List Int} (h : RowSome W B u r) (hb : Below W.heap.size W W') : RowSome W' B u r := by
  obtain ⟨g, cap, rfl, hB, hbl, hty, hcp⟩ := h
  exact ⟨g, cap, rfl, hB, hbl.below hb, hty.below hb, hcp⟩
theorem Held.below {W W' : World} {B I : Nat} {i : Prob} {vc vs vp vt : Value} {us : List Value} (h : Held W B I i vc vs vp vt us) (hb : Below W.heap.size W W') : Held W' B I i vc vs vp vt us :=
  ⟨h.lt, by rw [hb.block I (Array.getElem?_eq_some_iff.1 h.box).1]; exact h.box, own_below h.cars hb, own_below h.stops hb, own_below h.pairs hb, own_below h.travel hb, fun k hk => by
    obtain ⟨u, h1, h2⟩ := h.rows k hk; exact ⟨u, h1, h2.below hb⟩⟩
theorem int_info : (Try.prog.info? 3).map (fun i => (i.zero, i.size, i.bytes)) = some (some (.int .i64 0), 1, 8) := by kernel_rfl
theorem car_info : (Try.prog.info? 58).map (fun i => (i.zero, i.size, i.bytes)) = some (some (.agg #[.int .i64 0, .int .i64 0, .int .i64 0]), 3, 24) := by kernel_rfl
theorem stop_info : (Try.prog.info? 55).map (fun i => (i.zero, i.size, i.bytes)) = some (some (.agg #[.int .i64 0, .int .i64 0, .int .i64 0, .int .i64 0]), 4, 32) := by kernel_rfl
theorem pair_info : (Try.prog.info? 70).map (fun i => (i.zero, i.size, i.bytes)) = some (some (.agg #[.int .i64 0, .int .i64 0]), 2, 16) := by kernel_rfl
theorem row_info : (Try.prog.info? 47).map (fun i => (i.zero, i.size, i.bytes)) = some (some (.slice none 0 0), 1, 24) := by kernel_rfl

theorem own_keep {w w' : World} {B : Nat} {e : TypeId} {size n : Nat} {v : Value} {xs : List Value} {row : Option Nat} (h : w.ownsRow B e size v n xs) (hg : w.grownBy w' row) (hrow : ∀ g, row = some g → ∃ t, Typed w g t ∧ t ≠ e) : w'.ownsRow B e size v n xs := by
  refine h.kept hg ?_
  rcases hv : v.ownBlock with _ | g
  · exact .inl rfl
  · refine .inr fun e2 => ?_
    obtain ⟨t, ht, hne⟩ := hrow g e2.symm
    exact typed_ne (own_typed h hv).1 ht (Ne.symm hne) rfl
theorem grown_set (w : World) (I k : Nat) (u : Value) : w.grownBy (w.setCell ⟨I, k, none⟩ u) (some I) :=
  ⟨rfl, rfl, rfl, by simp [World.setCell], fun j _ hj => Below.heap_setCell _ _ _ _ (fun e => hj (by simp [e]))⟩
theorem grown_typed {w w' : World} {g : Nat} {t : TypeId} {row : Option Nat} (h : Typed w g t) (hg : w.grownBy w' row) (hrow : some g ≠ row) : Typed w' g t := by
  obtain ⟨cur, hc⟩ := h
  exact ⟨cur, by rw [hg.block g (Array.getElem?_eq_some_iff.1 hc).1 hrow]; exact hc⟩
theorem reads_new (w : World) (l : List Value) (t : TypeId) : Reads (w.alloc (.cells l.toArray t)) (w.heap.size + 1) l.length (some ⟨w.heap.size, 0, none⟩) 1 l :=
  ⟨by simp, fun _ => ⟨_, rfl, Nat.lt_succ_self _, fun j u hu => by
    have : (⟨w.heap.size, 0, none⟩ : Addr).add j = ⟨w.heap.size, j, none⟩ := by
      unfold Addr.add; split
      · next h => rw [h]
      · simp
    rw [this, World.cell?_alloc_new]; simpa using hu⟩⟩
theorem Held.typedI {W : World} {B I : Nat} {i : Prob} {vc vs vp vt : Value} {us : List Value} (h : Held W B I i vc vs vp vt us) : Typed W I 27 := ⟨_, h.box⟩
theorem Held.box_car {W W' : World} {B I : Nat} {i : Prob} {vc vs vp vt : Value} {us : List Value} (h : Held W B I i vc vs vp vt us) (hg : W.grownBy W' vc.ownBlock) : W'.heap[I]? = some (.cells #[vc, vs, vp, vt] 27 (0, 0)) := by
  rw [hg.block I (Array.getElem?_eq_some_iff.1 h.box).1 (fun e => typed_ne (own_typed h.cars e.symm).1 h.typedI (by decide) rfl)]
  exact h.box
theorem Held.put_car {W W' : World} {B I : Nat} {i : Prob} {vc vs vp vt v' : Value} {us : List Value} (h : Held W B I i vc vs vp vt us) (x : Car) (hown : W'.ownsRow B 58 3 v' (i.cars.length + 1) (carCells i.cars ++ ints (carNums x))) (hg : W.grownBy W' vc.ownBlock) :
    HeldSome (W'.setCell ⟨I, 0, none⟩ v') B I { i with cars := i.cars ++ [x] } := by
  have hI := h.typedI
  have hb := h.box_car hg
  have hI' : Typed W' I 27 := ⟨_, hb⟩
  have hrow : ∀ e, e ≠ 58 → ∀ g, vc.ownBlock = some g → ∃ t, Typed W g t ∧ t ≠ e := fun e he g hgv => ⟨58, (own_typed h.cars hgv).1, he.symm⟩
  have hrow2 : ∀ e, e ≠ 27 → ∀ g, some I = some g → ∃ t, Typed W' g t ∧ t ≠ e := fun e he g hgv => by
    injection hgv with hgv; subst hgv; exact ⟨27, hI', he.symm⟩
  have hs := grown_set W' I 0 v'
  refine ⟨v', vs, vp, vt, us, h.lt, ?_, ?_, ?_, ?_, ?_, ?_⟩
  · simp [World.setCell, Array.getElem?_modify, hb]
  · have := own_keep hown hs (hrow2 _ (by decide))
    simpa [carCells, List.flatMap_append] using this
  · exact own_keep (own_keep h.stops hg (hrow _ (by decide))) hs (hrow2 _ (by decide))
  · exact own_keep (own_keep h.pairs hg (hrow _ (by decide))) hs (hrow2 _ (by decide))
  · exact own_keep (own_keep h.travel hg (hrow _ (by decide))) hs (hrow2 _ (by decide))
  · intro k hk
    obtain ⟨u, h1, h2⟩ := h.rows k hk
    exact ⟨u, h1, (h2.grown hg (hrow _ (by decide))).grown hs (hrow2 _ (by decide))⟩
theorem Held.box_stop {W W' : World} {B I : Nat} {i : Prob} {vc vs vp vt : Value} {us : List Value} (h : Held W B I i vc vs vp vt us) (hg : W.grownBy W' vs.ownBlock) : W'.heap[I]? = some (.cells #[vc, vs, vp, vt] 27 (0, 0)) := by
  rw [hg.block I (Array.getElem?_eq_some_iff.1 h.box).1 (fun e => typed_ne (own_typed h.stops e.symm).1 h.typedI (by decide) rfl)]
  exact h.box
theorem Held.put_stop {W W' : World} {B I : Nat} {i : Prob} {vc vs vp vt v' : Value} {us : List Value} (h : Held W B I i vc vs vp vt us) (x : Stop) (hown : W'.ownsRow B 55 4 v' (i.stops.length + 1) (stopCells i.stops ++ ints (stopNums x))) (hg : W.grownBy W' vs.ownBlock) :
    HeldSome (W'.setCell ⟨I, 1, none⟩ v') B I { i with stops := i.stops ++ [x] } := by
  have hI := h.typedI
  have hb := h.box_stop hg
  have hI' : Typed W' I 27 := ⟨_, hb⟩
  have hrow : ∀ e, e ≠ 55 → ∀ g, vs.ownBlock = some g → ∃ t, Typed W g t ∧ t ≠ e := fun e he g hgv => ⟨55, (own_typed h.stops hgv).1, he.symm⟩
  have hrow2 : ∀ e, e ≠ 27 → ∀ g, some I = some g → ∃ t, Typed W' g t ∧ t ≠ e := fun e he g hgv => by
    injection hgv with hgv; subst hgv; exact ⟨27, hI', he.symm⟩
  have hs := grown_set W' I 1 v'
  refine ⟨vc, v', vp, vt, us, h.lt, ?_, ?_, ?_, ?_, ?_, ?_⟩
  · simp [World.setCell, Array.getElem?_modify, hb]
  · exact own_keep (own_keep h.cars hg (hrow _ (by decide))) hs (hrow2 _ (by decide))
  · have := own_keep hown hs (hrow2 _ (by decide))
    simpa [stopCells, List.flatMap_append] using this
  · exact own_keep (own_keep h.pairs hg (hrow _ (by decide))) hs (hrow2 _ (by decide))
  · exact own_keep (own_keep h.travel hg (hrow _ (by decide))) hs (hrow2 _ (by decide))
  · intro k hk
    obtain ⟨u, h1, h2⟩ := h.rows k hk
    exact ⟨u, h1, (h2.grown hg (hrow _ (by decide))).grown hs (hrow2 _ (by decide))⟩
theorem Held.box_pair {W W' : World} {B I : Nat} {i : Prob} {vc vs vp vt : Value} {us : List Value} (h : Held W B I i vc vs vp vt us) (hg : W.grownBy W' vp.ownBlock) : W'.heap[I]? = some (.cells #[vc, vs, vp, vt] 27 (0, 0)) := by
  rw [hg.block I (Array.getElem?_eq_some_iff.1 h.box).1 (fun e => typed_ne (own_typed h.pairs e.symm).1 h.typedI (by decide) rfl)]
  exact h.box
theorem Held.put_pair {W W' : World} {B I : Nat} {i : Prob} {vc vs vp vt v' : Value} {us : List Value} (h : Held W B I i vc vs vp vt us) (x : Pair) (hown : W'.ownsRow B 70 2 v' (i.pairs.length + 1) (pairCells i.pairs ++ ints (pairNums x))) (hg : W.grownBy W' vp.ownBlock) :
    HeldSome (W'.setCell ⟨I, 2, none⟩ v') B I { i with pairs := i.pairs ++ [x] } := by
  have hI := h.typedI
  have hb := h.box_pair hg
  have hI' : Typed W' I 27 := ⟨_, hb⟩
  have hrow : ∀ e, e ≠ 70 → ∀ g, vp.ownBlock = some g → ∃ t, Typed W g t ∧ t ≠ e := fun e he g hgv => ⟨70, (own_typed h.pairs hgv).1, he.symm⟩
  have hrow2 : ∀ e, e ≠ 27 → ∀ g, some I = some g → ∃ t, Typed W' g t ∧ t ≠ e := fun e he g hgv => by
    injection hgv with hgv; subst hgv; exact ⟨27, hI', he.symm⟩
  have hs := grown_set W' I 2 v'
  refine ⟨vc, vs, v', vt, us, h.lt, ?_, ?_, ?_, ?_, ?_, ?_⟩
  · simp [World.setCell, Array.getElem?_modify, hb]
  · exact own_keep (own_keep h.cars hg (hrow _ (by decide))) hs (hrow2 _ (by decide))
  · exact own_keep (own_keep h.stops hg (hrow _ (by decide))) hs (hrow2 _ (by decide))
  · have := own_keep hown hs (hrow2 _ (by decide))
    simpa [pairCells, List.flatMap_append] using this
  · exact own_keep (own_keep h.travel hg (hrow _ (by decide))) hs (hrow2 _ (by decide))
  · intro k hk
    obtain ⟨u, h1, h2⟩ := h.rows k hk
    exact ⟨u, h1, (h2.grown hg (hrow _ (by decide))).grown hs (hrow2 _ (by decide))⟩
theorem Held.box_row {W W' : World} {B I : Nat} {i : Prob} {vc vs vp vt : Value} {us : List Value} (h : Held W B I i vc vs vp vt us) (hg : W.grownBy W' vt.ownBlock) : W'.heap[I]? = some (.cells #[vc, vs, vp, vt] 27 (0, 0)) := by
  rw [hg.block I (Array.getElem?_eq_some_iff.1 h.box).1 (fun e => typed_ne (own_typed h.travel e.symm).1 h.typedI (by decide) rfl)]
  exact h.box
theorem Held.put_row {W W' : World} {B I : Nat} {i : Prob} {vc vs vp vt v' : Value} {us : List Value} (h : Held W B I i vc vs vp vt us) (r : List Int) (u : Value) (hr : RowSome W B u r) (hown : W'.ownsRow B 47 1 v' (i.travel.length + 1) (us ++ [u])) (hg : W.grownBy W' vt.ownBlock) :
    HeldSome (W'.setCell ⟨I, 3, none⟩ v') B I { i with travel := i.travel ++ [r] } := by
  have hI := h.typedI
  have hb := h.box_row hg
  have hI' : Typed W' I 27 := ⟨_, hb⟩
  have hrow : ∀ e, e ≠ 47 → ∀ g, vt.ownBlock = some g → ∃ t, Typed W g t ∧ t ≠ e := fun e he g hgv => ⟨47, (own_typed h.travel hgv).1, he.symm⟩
  have hrow2 : ∀ e, e ≠ 27 → ∀ g, some I = some g → ∃ t, Typed W' g t ∧ t ≠ e := fun e he g hgv => by
    injection hgv with hgv; subst hgv; exact ⟨27, hI', he.symm⟩
  have hs := grown_set W' I 3 v'
  refine ⟨vc, vs, vp, v', us ++ [u], h.lt, ?_, ?_, ?_, ?_, ?_, ?_⟩
  · simp [World.setCell, Array.getElem?_modify, hb]
  · exact own_keep (own_keep h.cars hg (hrow _ (by decide))) hs (hrow2 _ (by decide))
  · exact own_keep (own_keep h.stops hg (hrow _ (by decide))) hs (hrow2 _ (by decide))
  · exact own_keep (own_keep h.pairs hg (hrow _ (by decide))) hs (hrow2 _ (by decide))
  · have := own_keep hown hs (hrow2 _ (by decide))
    simpa using this
  · intro k hk
    have hlen : us.length = i.travel.length := by have := h.travel.1; simpa using this
    by_cases hlt : k < i.travel.length
    · obtain ⟨u2, h1, h2⟩ := h.rows k hlt
      refine ⟨u2, by rw [List.getElem?_append_left (by omega)]; exact h1, ?_⟩
      rw [List.getElem_append_left hlt]
      exact (h2.grown hg (hrow _ (by decide))).grown hs (hrow2 _ (by decide))
    · simp at hk
      obtain rfl : k = i.travel.length := by omega
      refine ⟨u, by rw [List.getElem?_append_right (by omega), hlen]; simp, ?_⟩
      rw [List.getElem_append_right (by omega)]
      simpa using (hr.grown hg (hrow _ (by decide))).grown hs (hrow2 _ (by decide))
theorem own_slice {w : World} {B : Nat} {e : TypeId} {size n : Nat} {v : Value} {xs : List Value} (h : w.ownsRow B e size v n xs) : ∃ ao n' cap, v = .slice ao n' cap := by
  rcases h.2 with ⟨rfl, _⟩ | ⟨g, cap, cur, rfl, _⟩
  · exact ⟨_, _, _, rfl⟩
  · exact ⟨_, _, _, rfl⟩
theorem ints_one (l : List Int) : ∀ u ∈ ints l, u.oneCell' = true := by
  intro u hu
  simp only [ints, List.mem_map] at hu
  obtain ⟨x, _, rfl⟩ := hu
  rfl
theorem kept4 {w W w2 : World} {g : Nat} {row : Option Nat} {x0 x1 x2 x3 : Value} (hb : Below w.heap.size w W) (hgr : W.grownBy w2 row) (hg : g < w.heap.size) (hne : ∀ q, row = some q → g ≠ q)
    (n0 : w.cell? ⟨g, 0, none⟩ = some x0) (n1 : w.cell? ⟨g, 1, none⟩ = some x1) (n2 : w.cell? ⟨g, 2, none⟩ = some x2) (n3 : w.cell? ⟨g, 3, none⟩ = some x3) :
    w2.cell? ⟨g, 0, none⟩ = some x0 ∧ w2.cell? ⟨g, 1, none⟩ = some x1 ∧ w2.cell? ⟨g, 2, none⟩ = some x2 ∧ w2.cell? ⟨g, 3, none⟩ = some x3 := by
  have key : ∀ j, w2.cell? ⟨g, j, none⟩ = w.cell? ⟨g, j, none⟩ := fun j => by
    rw [World.cell?_of_block (w := W) (hgr.block g (Nat.lt_of_lt_of_le hg hb.size) (fun e => hne g e.symm rfl)), hb.cell hg]
  exact ⟨by rw [key]; exact n0, by rw [key]; exact n1, by rw [key]; exact n2, by rw [key]; exact n3⟩

theorem own_low {w : World} {B : Nat} {e : TypeId} {size n : Nat} {v : Value} {xs : List Value} (h : w.ownsRow B e size v n xs) {R : Nat} (hR : R < B) (j : Nat) (u : Value) : (w.setCell ⟨R, j, none⟩ u).ownsRow B e size v n xs := by
  refine h.kept (grown_set w R j u) ?_
  rcases hv : v.ownBlock with _ | g
  · exact .inl rfl
  · have := (own_typed h hv).2
    exact .inr (by intro e; injection e with e; omega)
theorem Held.low {W : World} {B I : Nat} {i : Prob} {vc vs vp vt : Value} {us : List Value} (h : Held W B I i vc vs vp vt us) {R : Nat} (hR : R < B) (j : Nat) (u : Value) : Held (W.setCell ⟨R, j, none⟩ u) B I i vc vs vp vt us := by
  have hl := h.lt
  refine ⟨h.lt, by rw [Below.heap_setCell _ _ _ _ (by simp; omega)]; exact h.box, own_low h.cars hR j u, own_low h.stops hR j u, own_low h.pairs hR j u, own_low h.travel hR j u, fun k hk => ?_⟩
  obtain ⟨x, h1, g, cap, rfl, hg, hbl, hty, hcp⟩ := h.rows k hk
  exact ⟨_, h1, g, cap, rfl, hg, hbl.other (by simp; omega) _, hty.setCell _ _ _, hcp⟩
theorem HeldSome.below {W W' : World} {B I : Nat} {i : Prob} (h : HeldSome W B I i) (hb : Below W.heap.size W W') : HeldSome W' B I i := by
  obtain ⟨vc, vs, vp, vt, us, h⟩ := h
  exact ⟨vc, vs, vp, vt, us, h.below hb⟩
theorem flat_get {α : Type} {c : Nat} {f : α → List Value} (hf : ∀ x, (f x).length = c) : ∀ (l : List α) (k j : Nat) (hk : k < l.length), j < c → (l.flatMap f)[k * c + j]? = (f l[k])[j]?
  | x :: l, 0, j, _, hj => by
    rw [List.flatMap_cons, List.getElem?_append_left (by rw [hf]; omega)]; simp
  | x :: l, k + 1, j, hk, hj => by
    have := flat_get hf l k j (by simpa using hk) hj
    rw [List.flatMap_cons, List.getElem?_append_right (by rw [hf, Nat.succ_mul]; omega), hf, show (k + 1) * c + j - c = k * c + j by rw [Nat.succ_mul]; omega, this]
    rfl
theorem own_get {w : World} {B : Nat} {e : TypeId} {size n : Nat} {v : Value} {xs : List Value} (h : w.ownsRow B e size v n xs) : ∃ A cap, v = .slice A n cap ∧ (0 < n → ∃ g, A = some ⟨g, 0, none⟩ ∧ g < w.heap.size ∧ ∀ j u, xs[j]? = some u → w.cell? ⟨g, j, none⟩ = some u) := by
  rcases h.2 with ⟨rfl, rfl⟩ | ⟨g, cap, cur, rfl, _, hg, _⟩
  · exact ⟨_, _, rfl, fun h => absurd h (by omega)⟩
  · refine ⟨_, _, rfl, fun _ => ⟨g, rfl, (Array.getElem?_eq_some_iff.1 hg).1, fun j u hu => ?_⟩⟩
    have := h.cells (g := g) rfl j u hu
    have e : (⟨g, 0, none⟩ : Addr).add j = ⟨g, j, none⟩ := by
      unfold Addr.add; split
      · next h => rw [h]
      · simp
    rwa [e] at this
theorem own_recs {α : Type} {w : World} {B : Nat} {e : TypeId} {c : Nat} {v : Value} {l : List α} {f : α → List Value} {g : α → Nat → Int} (h : w.ownsRow B e c v l.length (l.flatMap f)) (hf : ∀ x, (f x).length = c) (hg : ∀ x j, j < c → (f x)[j]? = some (.int .i64 (g x j))) : Recs w c g v l := by
  obtain ⟨A, cap, rfl, hc⟩ := own_get h
  refine ⟨A, cap, rfl, fun k hk => ?_⟩
  obtain ⟨b, rfl, hb, hcell⟩ := hc (by omega)
  refine ⟨b, 0, rfl, hb, fun j hj => ?_⟩
  rw [Nat.zero_add]
  exact hcell _ _ (by rw [flat_get hf l k j hk hj]; exact hg _ j hj)
theorem Held.lies {W : World} {B I : Nat} {i : Prob} {vc vs vp vt : Value} {us : List Value} (h : Held W B I i vc vs vp vt us) : Lies W (.agg #[vc, vs, vp, vt]) i := by
  refine ⟨vc, vs, vp, vt, rfl, ?_, ?_, ?_, ?_⟩
  · exact own_recs h.cars (fun x => rfl) (fun x j hj => by match j, hj with | 0, _ | 1, _ | 2, _ => rfl)
  · exact own_recs h.stops (fun x => rfl) (fun x j hj => by match j, hj with | 0, _ | 1, _ | 2, _ | 3, _ => rfl)
  · exact own_recs h.pairs (fun x => rfl) (fun x j hj => by match j, hj with | 0, _ | 1, _ => rfl)
  · obtain ⟨A, cap, rfl, hc⟩ := own_get h.travel
    refine ⟨A, cap, rfl, fun k hk => ?_⟩
    obtain ⟨b, rfl, hb, hcell⟩ := hc (by omega)
    obtain ⟨u, hu, g, cap', rfl, _, hbl, _⟩ := h.rows k hk
    refine ⟨b, 0, _, rfl, hb, by rw [Nat.zero_add]; exact hcell _ _ hu, ?_⟩
    exact hbl.recs 1 num_ i.travel[k] _ (fun k' hk' j hj => by
      obtain rfl : j = 0 := by omega
      simp [ints, num_, hk'])
theorem held_start (w : World) : HeldSome (w.alloc (.cells #[.slice none 0 0, .slice none 0 0, .slice none 0 0, .slice none 0 0] 27)) w.heap.size w.heap.size noProb :=
  ⟨_, _, _, _, [], Nat.le_refl _, by unfold World.alloc; simp, ⟨rfl, .inl ⟨rfl, rfl⟩⟩, ⟨rfl, .inl ⟨rfl, rfl⟩⟩, ⟨rfl, .inl ⟨rfl, rfl⟩⟩, ⟨rfl, .inl ⟨rfl, rfl⟩⟩, fun k hk => absurd hk (by simp [noProb])⟩
theorem Blk.nilR {W : World} {R : Nat} (h : Blk W R [.slice none 0 0, .slice none 0 0, .slice none 0 0, .slice none 0 0]) : (∀ j, j < 4 → W.cell? ⟨R, j, none⟩ = some (.slice none 0 0)) ∧ ∀ j, j < 4 → W.frozen? ⟨R, j, none⟩ = false :=
  ⟨fun j hj => by match j, hj with
    | 0, _ => exact (h.2 0 (by simp)).1
    | 1, _ => exact (h.2 1 (by simp)).1
    | 2, _ => exact (h.2 2 (by simp)).1
    | 3, _ => exact (h.2 3 (by simp)).1, fun j hj => (h.2 j (by simpa using hj)).2⟩
end Go.Proofs.Ytgkieelacjcopaa
namespace Go.Proofs.Ytgkieelacjcopaa
open Go.RowKit
set_option linter.unusedSimpArgs false

structure TB (W : World) (S T : Nat) (ty : TypeId) (va vl : Value) (arr load : List Int) (c h : Int) : Prop where
  box : W.heap[T]? = some (.cells #[va, vl, .int .i64 c, .int .i64 h] ty (0, 0))
  arr : W.ownsRow S 3 1 va arr.length (ints arr)
  load : W.ownsRow S 3 1 vl load.length (ints load)
  dis : ∀ g, va.ownBlock = some g → vl.ownBlock ≠ some g
  typ : ty ≠ 3
theorem TB.lt {W : World} {S T : Nat} {ty : TypeId} {va vl : Value} {arr load : List Int} {c h : Int} (H : TB W S T ty va vl arr load c h) : T < W.heap.size := (Array.getElem?_eq_some_iff.1 H.box).1
theorem TB.typed {W : World} {S T : Nat} {ty : TypeId} {va vl : Value} {arr load : List Int} {c h : Int} (H : TB W S T ty va vl arr load c h) : Typed W T ty := ⟨_, H.box⟩
theorem TB.below {W W' : World} {S T : Nat} {ty : TypeId} {va vl : Value} {arr load : List Int} {c h : Int} (H : TB W S T ty va vl arr load c h) (hb : Below W.heap.size W W') : TB W' S T ty va vl arr load c h :=
  ⟨by rw [hb.block T H.lt]; exact H.box, own_below H.arr hb, own_below H.load hb, H.dis, H.typ⟩
theorem TB.cells {W : World} {S T : Nat} {ty : TypeId} {va vl : Value} {arr load : List Int} {c h : Int} (H : TB W S T ty va vl arr load c h) :
    W.cell? ⟨T, 0, none⟩ = some va ∧ W.cell? ⟨T, 1, none⟩ = some vl ∧ W.cell? ⟨T, 2, none⟩ = some (.int .i64 c) ∧ W.cell? ⟨T, 3, none⟩ = some (.int .i64 h) ∧ ∀ j, W.frozen? ⟨T, j, none⟩ = false :=
  ⟨by rw [Lib.cell_of_heap H.box]; rfl, by rw [Lib.cell_of_heap H.box]; rfl, by rw [Lib.cell_of_heap H.box]; rfl, by rw [Lib.cell_of_heap H.box]; rfl, fun j => Lib.frozen_of_heap H.box j⟩
theorem own_lt {w : World} {B : Nat} {e : TypeId} {size n : Nat} {v : Value} {xs : List Value} (h : w.ownsRow B e size v n xs) {g : Nat} (hg : v.ownBlock = some g) : g < w.heap.size := by
  obtain ⟨⟨cur, hc⟩, _⟩ := own_typed h hg
  exact (Array.getElem?_eq_some_iff.1 hc).1
theorem TB.put_arr {W W2 : World} {S T : Nat} {ty : TypeId} {va vl v' : Value} {arr load : List Int} {c h x : Int} (H : TB W S T ty va vl arr load c h) (hown : W2.ownsRow S 3 1 v' (arr.length + 1) (ints arr ++ [.int .i64 x])) (hg : W.grownBy W2 va.ownBlock) (hob : v'.ownBlock = va.ownBlock ∨ v'.ownBlock = some W.heap.size) :
    TB (W2.setCell ⟨T, 0, none⟩ v') S T ty v' vl (arr ++ [x]) load c h := by
  have hT : Typed W2 T ty := by
    refine grown_typed H.typed hg ?_
    intro e
    exact typed_ne (own_typed H.arr e.symm).1 H.typed (Ne.symm H.typ) rfl
  have hb : W2.heap[T]? = some (.cells #[va, vl, .int .i64 c, .int .i64 h] ty (0, 0)) := by
    rw [hg.block T H.lt (fun e => typed_ne (own_typed H.arr e.symm).1 H.typed (Ne.symm H.typ) rfl)]; exact H.box
  have hs := grown_set W2 T 0 v'
  have hrow : ∀ g, some T = some g → ∃ t, Typed W2 g t ∧ t ≠ 3 := fun g hgv => by
    injection hgv with hgv; subst hgv; exact ⟨ty, hT, H.typ⟩
  refine ⟨by simp [World.setCell, Array.getElem?_modify, hb], ?_, ?_, fun g hv hl => ?_, H.typ⟩
  · have := own_keep hown hs hrow
    simpa [ints] using this
  · refine own_keep (H.load.kept hg ?_) hs hrow
    rcases hv : vl.ownBlock with _ | g
    · exact .inl rfl
    · exact .inr fun e => H.dis g e.symm hv
  · rcases hob with e | e
    · exact H.dis g (by rw [← e]; exact hv) hl
    · rw [e] at hv; injection hv with hv
      have := own_lt H.load hl
      omega
theorem TB.put_load {W W2 : World} {S T : Nat} {ty : TypeId} {va vl v' : Value} {arr load : List Int} {c h x : Int} (H : TB W S T ty va vl arr load c h) (hown : W2.ownsRow S 3 1 v' (load.length + 1) (ints load ++ [.int .i64 x])) (hg : W.grownBy W2 vl.ownBlock) (hob : v'.ownBlock = vl.ownBlock ∨ v'.ownBlock = some W.heap.size) :
    TB (W2.setCell ⟨T, 1, none⟩ v') S T ty va v' arr (load ++ [x]) c h := by
  have hT : Typed W2 T ty := by
    refine grown_typed H.typed hg ?_
    intro e
    exact typed_ne (own_typed H.load e.symm).1 H.typed (Ne.symm H.typ) rfl
  have hb : W2.heap[T]? = some (.cells #[va, vl, .int .i64 c, .int .i64 h] ty (0, 0)) := by
    rw [hg.block T H.lt (fun e => typed_ne (own_typed H.load e.symm).1 H.typed (Ne.symm H.typ) rfl)]; exact H.box
  have hs := grown_set W2 T 1 v'
  have hrow : ∀ g, some T = some g → ∃ t, Typed W2 g t ∧ t ≠ 3 := fun g hgv => by
    injection hgv with hgv; subst hgv; exact ⟨ty, hT, H.typ⟩
  refine ⟨by simp [World.setCell, Array.getElem?_modify, hb], ?_, ?_, fun g hv hl => ?_, H.typ⟩
  · refine own_keep (H.arr.kept hg ?_) hs hrow
    rcases hv : va.ownBlock with _ | g
    · exact .inl rfl
    · exact .inr fun e => H.dis g hv e.symm
  · have := own_keep hown hs hrow
    simpa [ints] using this
  · rcases hob with e | e
    · exact H.dis g hv (by rw [← e]; exact hl)
    · rw [e] at hl; injection hl with hl
      have := own_lt H.arr hv
      omega
theorem TB.at_arr {W W2 : World} {S T : Nat} {ty : TypeId} {va vl : Value} {arr load : List Int} {c h : Int} (H : TB W S T ty va vl arr load c h) (hg : W.grownBy W2 va.ownBlock) : T < W2.heap.size ∧ W2.cell? ⟨T, 0, none⟩ = some va ∧ W2.frozen? ⟨T, 0, none⟩ = false := by
  have hb : W2.heap[T]? = some (.cells #[va, vl, .int .i64 c, .int .i64 h] ty (0, 0)) := by
    rw [hg.block T H.lt (fun e => typed_ne (own_typed H.arr e.symm).1 H.typed (Ne.symm H.typ) rfl)]; exact H.box
  exact ⟨(Array.getElem?_eq_some_iff.1 hb).1, by rw [Lib.cell_of_heap hb]; rfl, Lib.frozen_of_heap hb 0⟩
theorem TB.at_load {W W2 : World} {S T : Nat} {ty : TypeId} {va vl : Value} {arr load : List Int} {c h : Int} (H : TB W S T ty va vl arr load c h) (hg : W.grownBy W2 vl.ownBlock) : T < W2.heap.size ∧ W2.cell? ⟨T, 1, none⟩ = some vl ∧ W2.frozen? ⟨T, 1, none⟩ = false := by
  have hb : W2.heap[T]? = some (.cells #[va, vl, .int .i64 c, .int .i64 h] ty (0, 0)) := by
    rw [hg.block T H.lt (fun e => typed_ne (own_typed H.load e.symm).1 H.typed (Ne.symm H.typ) rfl)]; exact H.box
  exact ⟨(Array.getElem?_eq_some_iff.1 hb).1, by rw [Lib.cell_of_heap hb]; rfl, Lib.frozen_of_heap hb 1⟩
theorem TB.put_cost {W : World} {S T : Nat} {ty : TypeId} {va vl : Value} {arr load : List Int} {c h : Int} (H : TB W S T ty va vl arr load c h) (x : Int) : TB (W.setCell ⟨T, 2, none⟩ (.int .i64 x)) S T ty va vl arr load x h := by
  have hs := grown_set W T 2 (.int .i64 x)
  have hrow : ∀ g, some T = some g → ∃ t, Typed W g t ∧ t ≠ 3 := fun g hgv => by
    injection hgv with hgv; subst hgv; exact ⟨ty, H.typed, H.typ⟩
  exact ⟨by simp [World.setCell, Array.getElem?_modify, H.box], own_keep H.arr hs hrow, own_keep H.load hs hrow, H.dis, H.typ⟩
theorem TB.put_home {W : World} {S T : Nat} {ty : TypeId} {va vl : Value} {arr load : List Int} {c h : Int} (H : TB W S T ty va vl arr load c h) (x : Int) : TB (W.setCell ⟨T, 3, none⟩ (.int .i64 x)) S T ty va vl arr load c x := by
  have hs := grown_set W T 3 (.int .i64 x)
  have hrow : ∀ g, some T = some g → ∃ t, Typed W g t ∧ t ≠ 3 := fun g hgv => by
    injection hgv with hgv; subst hgv; exact ⟨ty, H.typed, H.typ⟩
  exact ⟨by simp [World.setCell, Array.getElem?_modify, H.box], own_keep H.arr hs hrow, own_keep H.load hs hrow, H.dis, H.typ⟩
/-- a cell elsewhere is set -/
theorem TB.low {W : World} {S T : Nat} {ty : TypeId} {va vl : Value} {arr load : List Int} {c h : Int} (H : TB W S T ty va vl arr load c h) {R : Nat} (hR : R < T) (hRS : R < S) (j : Nat) (u : Value) : TB (W.setCell ⟨R, j, none⟩ u) S T ty va vl arr load c h := by
  have key : ∀ {v : Value} {l : List Int}, W.ownsRow S 3 1 v l.length (ints l) → (W.setCell ⟨R, j, none⟩ u).ownsRow S 3 1 v l.length (ints l) := fun h => own_low h hRS j u
  exact ⟨by rw [Below.heap_setCell _ _ _ _ (by simp; omega)]; exact H.box, key H.arr, key H.load, H.dis, H.typ⟩
theorem tb_new (w : World) {ty : TypeId} (h : ty ≠ 3) (S : Nat) : TB (w.alloc (.cells #[.slice none 0 0, .slice none 0 0, .int .i64 0, .int .i64 0] ty)) S w.heap.size ty (.slice none 0 0) (.slice none 0 0) [] [] 0 0 :=
  ⟨by unfold World.alloc; simp, ⟨rfl, .inl ⟨rfl, rfl⟩⟩, ⟨rfl, .inl ⟨rfl, rfl⟩⟩, fun g hg => (by cases hg), h⟩
/-- a variable of the call's own, of another type than the rows -/
def LB (W : World) (Q : Nat) (t : TypeId) (l : List Value) : Prop := Blk W Q l ∧ Typed W Q t
theorem lb_new (w : World) (c : Array Value) (t : TypeId) : LB (w.alloc (.cells c t)) w.heap.size t c.toList := ⟨blk_new w c t, typed_new w c t⟩
theorem LB.below {W W' : World} {Q : Nat} {t : TypeId} {l : List Value} (h : LB W Q t l) (hb : Below W.heap.size W W') : LB W' Q t l := ⟨h.1.below hb, h.2.below hb⟩
theorem LB.grown {W W' : World} {Q : Nat} {t : TypeId} {l : List Value} {row : Option Nat} (h : LB W Q t l) (hg : W.grownBy W' row) (hrow : ∀ g, row = some g → ∃ t', Typed W g t' ∧ t' ≠ t) : LB W' Q t l := by
  have hne : some Q ≠ row := fun e => by
    obtain ⟨t', h1, h2⟩ := hrow Q e.symm
    exact typed_ne h1 h.2 h2 rfl
  exact ⟨h.1.heap (hg.block Q h.1.1 hne) hg.size, grown_typed h.2 hg hne⟩
theorem LB.other {W : World} {Q : Nat} {t : TypeId} {l : List Value} (h : LB W Q t l) {R : Nat} (hR : R ≠ Q) (j : Nat) (u : Value) : LB (W.setCell ⟨R, j, none⟩ u) Q t l := ⟨h.1.other hR u, h.2.setCell _ _ _⟩
theorem own_row_typed {w : World} {B : Nat} {n : Nat} {v : Value} {xs : List Value} (h : w.ownsRow B 3 1 v n xs) {t : TypeId} (ht : 3 ≠ t) : ∀ g, v.ownBlock = some g → ∃ t', Typed w g t' ∧ t' ≠ t := fun _ hg => ⟨_, (own_typed h hg).1, ht⟩
/-- a slice in memory from block B on -/
def Fresh (B : Nat) (A : Option Addr) : Prop := ∀ ad, A = some ad → B ≤ ad.block
theorem Fresh.mono {B C : Nat} {A : Option Addr} (h : Fresh B A) (hC : C ≤ B) : Fresh C A := fun ad e => Nat.le_trans hC (h ad e)
/-- an owned row of numbers, as a slice of numbers -/
theorem own_nums {w : World} {B : Nat} {v : Value} {l : List Int} (h : w.ownsRow B 3 1 v l.length (ints l)) : ∃ A cap, v = .slice A l.length cap ∧ l.length ≤ cap ∧ Recs w 1 num_ v l ∧ Fresh B A := by
  have hR : Recs w 1 num_ v l := by
    obtain ⟨A, cap, rfl, hc⟩ := own_get h
    refine ⟨A, cap, rfl, fun k hk => ?_⟩
    obtain ⟨b, rfl, hb, hcell⟩ := hc (by omega)
    refine ⟨b, 0, rfl, hb, fun j hj => ?_⟩
    obtain rfl : j = 0 := by omega
    rw [Nat.zero_add, Nat.mul_one, Nat.add_zero]
    exact hcell _ _ (by simp [ints, num_, hk])
  rcases h.2 with ⟨rfl, h0⟩ | ⟨g, cap, cur, rfl, hBg, _, hn, _⟩
  · exact ⟨none, 0, by rw [h0], by omega, hR, fun ad h => by cases h⟩
  · exact ⟨_, cap, rfl, hn, hR, fun ad h => by cases h; exact hBg⟩
end Go.Proofs.Ytgkieelacjcopaa
namespace Go.Proofs.Ytgkieelacjcopaa
open Go.RowKit
set_option linter.unusedSimpArgs false

/-- what a call answers: a trip in new memory and true, or nothing and false -/
def TripIs (w : World) (t : Option TripR) (e : Ending) (w' : World) : Prop := Below w.heap.size w w' ∧
  ((t = none ∧ e = .returned (.tuple #[.agg #[.slice none 0 0, .slice none 0 0, .int .i64 0, .int .i64 0], .bool false])) ∨
   ∃ r A1 c1 A2 c2, t = some r ∧ e = .returned (.tuple #[.agg #[.slice A1 r.arr.length c1, .slice A2 r.load.length c2, .int .i64 r.cost, .int .i64 r.home], .bool true]) ∧
     r.arr.length ≤ c1 ∧ r.load.length ≤ c2 ∧ Recs w' 1 num_ (.slice A1 r.arr.length c1) r.arr ∧ Recs w' 1 num_ (.slice A2 r.load.length c2) r.load ∧ Fresh w.heap.size A1 ∧ Fresh w.heap.size A2)
def tripOf (i : Prob) (c : Car) (l : List Int) : Option TripR := (driveL i c 0 c.s 0 l).map fun d => ⟨d.arr, d.load, costL i 0 l, d.home⟩
theorem nil4 {W : World} {R : Nat} (h : Blk W R [.slice none 0 0, .slice none 0 0, .int .i64 0, .int .i64 0]) :
    W.cell? ⟨R, 0, none⟩ = some (.slice none 0 0) ∧ W.cell? ⟨R, 1, none⟩ = some (.slice none 0 0) ∧ W.cell? ⟨R, 2, none⟩ = some (.int .i64 0) ∧ W.cell? ⟨R, 3, none⟩ = some (.int .i64 0) ∧
    W.frozen? ⟨R, 0, none⟩ = false ∧ W.frozen? ⟨R, 1, none⟩ = false ∧ W.frozen? ⟨R, 2, none⟩ = false ∧ W.frozen? ⟨R, 3, none⟩ = false :=
  ⟨(h.2 0 (by simp)).1, (h.2 1 (by simp)).1, (h.2 2 (by simp)).1, (h.2 3 (by simp)).1, (h.2 0 (by simp)).2, (h.2 1 (by simp)).2, (h.2 2 (by simp)).2, (h.2 3 (by simp)).2⟩
/-- the call's own variables at their places -/
structure Base (W : World) (S K R T : Nat) (vc vs vp vt : Value) (c : Car) : Prop where
  size : T < W.heap.size
  st : S < T
  kt : K < T
  rt : R < T
  box : Blk W S [vc, vs, vp, vt]
  car : Blk W K [.int .i64 c.c, .int .i64 c.s, .int .i64 c.e]
  res : Blk W R [.slice none 0 0, .slice none 0 0, .int .i64 0, .int .i64 0]
theorem cell_up {W W' : World} {C B k : Nat} {v : Value} (hb : Below C W W') (hC : B < C) (h : W.cell? ⟨B, k, none⟩ = some v) : W'.cell? ⟨B, k, none⟩ = some v := by rw [hb.cell hC]; exact h
theorem Blk.keep {W W' : World} {B C : Nat} {l : List Value} (h : Blk W B l) (hb : Below C W W') (hC : B < C) : Blk W' B l :=
  ⟨Nat.lt_of_lt_of_le h.1 hb.size, fun j hj => ⟨by rw [hb.cell hC]; exact (h.2 j hj).1, by rw [hb.frozen hC]; exact (h.2 j hj).2⟩⟩
theorem Base.keep {W W' : World} {S K R T : Nat} {vc vs vp vt : Value} {c : Car} (h : Base W S K R T vc vs vp vt c) (hb : Below T W W') : Base W' S K R T vc vs vp vt c :=
  ⟨Nat.lt_of_lt_of_le h.size hb.size, h.st, h.kt, h.rt, h.box.keep hb h.st, h.car.keep hb h.kt, h.res.keep hb h.rt⟩
theorem Blk.c0 {W : World} {B : Nat} {a : Value} {l : List Value} (h : Blk W B (a :: l)) : W.cell? ⟨B, 0, none⟩ = some a := (h.2 0 (by simp)).1
theorem Blk.c1 {W : World} {B : Nat} {a b : Value} {l : List Value} (h : Blk W B (a :: b :: l)) : W.cell? ⟨B, 1, none⟩ = some b := (h.2 1 (by simp)).1
theorem Blk.c2 {W : World} {B : Nat} {a b c : Value} {l : List Value} (h : Blk W B (a :: b :: c :: l)) : W.cell? ⟨B, 2, none⟩ = some c := (h.2 2 (by simp)).1
theorem Blk.c3 {W : World} {B : Nat} {a b c d : Value} {l : List Value} (h : Blk W B (a :: b :: c :: d :: l)) : W.cell? ⟨B, 3, none⟩ = some d := (h.2 3 (by simp)).1

theorem Lies.stop {W : World} {vc vs vp vt : Value} {i : Prob} (h : Lies W (.agg #[vc, vs, vp, vt]) i) {q : Nat} (hq : q < i.stops.length) : ∃ A cap B o, vs = .slice A i.stops.length cap ∧ A = some ⟨B, o, none⟩ ∧ B < W.heap.size ∧
    W.cell? ⟨B, o + q * 4, none⟩ = some (.int .i64 (stopAt i ((q : Int) + 1)).d) ∧ W.cell? ⟨B, o + q * 4 + 1, none⟩ = some (.int .i64 (stopAt i ((q : Int) + 1)).o) ∧
    W.cell? ⟨B, o + q * 4 + 2, none⟩ = some (.int .i64 (stopAt i ((q : Int) + 1)).c) ∧ W.cell? ⟨B, o + q * 4 + 3, none⟩ = some (.int .i64 (stopAt i ((q : Int) + 1)).s) := by
  obtain ⟨_, _, _, _, e, _, ⟨A, cap, hv, hc⟩, _, _⟩ := h
  injection e with e
  injection e with e
  injection e with _ e
  injection e with e _
  subst e
  obtain ⟨B, o, hA, hB, hcell⟩ := hc q hq
  rw [stopAt_nat i hq]
  exact ⟨A, cap, B, o, hv, hA, hB, hcell 0 (by omega), hcell 1 (by omega), hcell 2 (by omega), hcell 3 (by omega)⟩

end Go.Proofs.Ytgkieelacjcopaa
namespace Go.Proofs.Ytgkieelacjcopaa

section
variable {P : Program} {ops : Array Oper} {Q : Exit → Act → World → Prop} {md : Region.Mode} {S : World → Prop} {z : Nat}

/-- in state a, wherever S holds, o leaves v in its place and the world alone -/
def Gives (P : Program) (ops : Array Oper) (Q : Exit → Act → World → Prop) (S : World → Prop) (o : Oper) (v : Value) (a : Act) : Prop :=
  Region.wanted o (yielded ops a.tmps) = true ∧ ∀ w, S w → ∀ (K : Act → World → Prop) (a' : Act), execOp a'.eval o = execOp a.eval o → K (a'.put o.dst v) w → Oper.wp P o a' w K Q
theorem gives_value {o : Oper} {v : Value} {a : Act} (hw : Region.wanted o (yielded ops a.tmps) = true) (h : ∀ w, S w → (execOp a.eval o).run P w = .ok (.value v) w) : Gives P ops Q S o v a :=
  ⟨hw, fun w hS K a' he hK => by unfold Oper.wp; rw [he, h w hS]; exact hK⟩
theorem gives_call {o : Oper} {v : Value} {a : Act} {f : FuncId} {args : Array Value} (hw : Region.wanted o (yielded ops a.tmps) = true) (h : ∀ w, (execOp a.eval o).run P w = .ok (.enter f args) w)
    (hc : ∀ w, S w → Calls P f args w fun e w' => e = .returned v ∧ w = w') : Gives P ops Q S o v a :=
  ⟨hw, fun w hS K a' he hK => by
    unfold Oper.wp
    rw [he, h w]
    simp only [Oper.upon]
    refine (hc w hS).mono ?_
    rintro e w' ⟨rfl, rfl⟩
    exact hK⟩
theorem Gives.same {o : Oper} {v : Value} {a a' : Act} (h : Gives P ops Q S o v a) (he : execOp a'.eval o = execOp a.eval o) (hw : Region.wanted o (yielded ops a'.tmps) = Region.wanted o (yielded ops a.tmps)) : Gives P ops Q S o v a' :=
  ⟨hw.trans h.1, fun w hS K a2 h2 hK => h.2 w hS K a2 (h2.trans he) hK⟩
theorem wpOp_swap {j : Nat} {oi oj : Oper} {v : Value} (hj : ops[j]? = some oj) (hap : oi.apart ops oj = true) (hsi : ∀ cs b, oi.op ≠ .select cs b) (hsj : ∀ cs b, oj.op ≠ .select cs b)
    (hQ : ∀ c a w, Q (.panic c) (a.put oi.dst v) w → Q (.panic c) a w) {K : Act → World → Prop} {a : Act} {w : World} (hg : Gives P ops Q S oi v a) (h : wpOp P ops Q j K (a.put oi.dst v) w) :
    wpOp P ops Q j (fun a' w' => Gives P ops Q S oi v a' ∧ K (a'.put oi.dst v) w') a w := by
  obtain ⟨h1, h2, h3⟩ := Oper.apart_spec hap
  have keep : ∀ (b : Act), Gives P ops Q S oi v b → ∀ u, Gives P ops Q S oi v (b.put oj.dst u) := fun b hb u => hb.same (execOp_put oi hsi b oj.dst u h3) (wanted_put oi b oj.dst u h3)
  unfold wpOp at *
  simp only [hj] at *
  rw [wanted_put oj a oi.dst v h1] at h
  split
  · rename_i hw
    simp only [hw, if_true] at h
    rcases h with h | ⟨hasks, hlets⟩
    · refine .inl ?_
      unfold Oper.wp at *
      rw [execOp_put oj hsj a oi.dst v h1] at h
      generalize (execOp a.eval oj).run P w = r at *
      cases r with
      | ok n w' =>
        cases n <;> simp only [Oper.upon] at h ⊢
        case value u => exact ⟨keep a hg u, by rw [← Act.put_comm a v u h2]; exact h⟩
        case skip => exact ⟨keep a hg _, by rw [← Act.put_comm a v undef h2]; exact h⟩
        case defer d =>
          refine ⟨keep _ (hg.same (a' := { a with defers := d :: a.defers }) rfl rfl) _, ?_⟩
          rw [← Act.put_comm _ v undef h2, ← Act.put_defers]
          exact h
        case enter f args =>
          refine Calls.mono h fun e w'' he => ?_
          cases e with
          | returned u => exact ⟨keep a hg u, by rw [← Act.put_comm a v u h2]; exact he⟩
          | panicked c => exact hQ _ _ _ he
          | outgrown => exact he
        case row row args => exact Rows.mono h fun u w'' he => ⟨keep a hg u, by rw [← Act.put_comm a v u h2]; exact he⟩
      | halt x w' =>
        cases x <;> simp only [Oper.upon] at h ⊢
        case panic u => exact hQ _ _ _ h
    · exact .inr ⟨by unfold Oper.asks at *; rw [execOp_put oj hsj a oi.dst v h1] at hasks; exact hasks, hlets⟩
  · rename_i hw
    simp only [hw] at h
    exact ⟨keep a hg _, by rw [← Act.put_comm a v undef h2]; exact h⟩

/-- whatever order is picked from here on; S holds behind each operation but z -/
def wpAnyZ (P : Program) (md : Region.Mode) (ops : Array Oper) (Q : Exit → Act → World → Prop) (S : World → Prop) (z : Nat) : Nat → Array Bool → Act → World → Prop
  | 0, listed, a, w => Region.ready md ops listed = [] ∧ Q .normal a w
  | fuel + 1, listed, a, w => (Region.ready md ops listed = [] → Q .normal a w) ∧ ∀ i ∈ Region.ready md ops listed, wpOp P ops Q i (fun a' w' => (i ≠ z → S w') ∧ wpAnyZ P md ops Q S z fuel (listed.setIfInBounds i true) a' w') a w
theorem wpAny_of_z : ∀ (fuel : Nat) (listed : Array Bool) (a : Act) (w : World), wpAnyZ P md ops Q S z fuel listed a w → wpAny P md ops Q fuel listed a w
  | 0, _, _, _, h => h
  | fuel + 1, _, _, _, h => ⟨h.1, fun i hi => wpOp_mono (fun a' w' h' => wpAny_of_z fuel _ a' w' h'.2) (h.2 i hi)⟩
theorem wpAnyZ_first {i : Nat} {oi oz : Oper} {v : Value} (hi : ops[i]? = some oi) (hsel : ∀ (j : Nat) (o : Oper) cs b, ops[j]? = some o → o.op ≠ .select cs b)
    (hQ : ∀ c a w, Q (.panic c) (a.put oi.dst v) w → Q (.panic c) a w) (hz : ops[z]? = some oz) (hwait : ∃ e ∈ oz.after, Region.binds md e = true ∧ e.on = i) :
    ∀ (fuel : Nat) (listed : Array Bool) (a : Act) (w : World),
      (∀ j oj, ops[j]? = some oj → j ≠ i → listed.getD j true = false → (∀ e ∈ oj.after, Region.binds md e = true → e.on ≠ i) → oi.apart ops oj = true) →
      i ∈ Region.ready md ops listed → Gives P ops Q S oi v a → S w →
      wpAnyZ P md ops Q S z fuel (listed.setIfInBounds i true) (a.put oi.dst v) w → wpAnyZ P md ops Q S z (fuel + 1) listed a w := by
  intro fuel
  have here : ∀ {K : Act → World → Prop} {a : Act} {w : World}, Gives P ops Q S oi v a → S w → K (a.put oi.dst v) w → wpOp P ops Q i K a w := fun {K a w} hg hS hK => by
    unfold wpOp
    simp only [hi, hg.1, if_true]
    exact .inl (hg.2 w hS K a rfl hK)
  have waits : ∀ {listed : Array Bool} {j : Nat} {oj : Oper}, i ∈ Region.ready md ops listed → (∀ e ∈ oj.after, Region.binds md e = true → listed.getD e.on false = true) → ∀ e ∈ oj.after, Region.binds md e = true → e.on ≠ i := fun {listed j oj} hr hall e he hb heq => by
    have h1 := hall e he hb
    have h0 := (mem_ready.1 hr).1
    rw [heq] at h1
    rcases Nat.lt_or_ge i listed.size with h' | h'
    · simp [h'] at h0 h1; rw [h0] at h1; cases h1
    · simp [Array.getElem?_eq_none h'] at h1
  induction fuel with
  | zero =>
    intro listed a w _ hr hg hS H
    refine ⟨fun h => (by rw [h] at hr; cases hr), fun j hj => ?_⟩
    by_cases hji : j = i
    · subst hji; exact here hg hS ⟨fun _ => hS, H⟩
    · have := ready_mono hj hji
      rw [H.1] at this
      cases this
  | succ fuel ih =>
    intro listed a w hfree hr hg hS H
    refine ⟨fun h => (by rw [h] at hr; cases hr), fun j hj => ?_⟩
    by_cases hji : j = i
    · subst hji; exact here hg hS ⟨fun _ => hS, H⟩
    · have h1 := H.2 j (ready_mono hj hji)
      obtain ⟨hjun, oj, hoj, hall⟩ := mem_ready.1 hj
      have hnot := waits (j := j) hr hall
      have hjz : j ≠ z := by
        rintro rfl
        obtain rfl : oj = oz := Option.some.inj (hoj.symm.trans hz)
        obtain ⟨e, he, hb, heq⟩ := hwait
        exact hnot e he hb heq
      have h2 := wpOp_swap hoj (hfree j oj hoj hji hjun hnot) (fun cs b => hsel i oi cs b hi) (fun cs b => hsel j oj cs b hoj) hQ hg h1
      have hfree' : ∀ k ok, ops[k]? = some ok → k ≠ i → (listed.setIfInBounds j true).getD k true = false → (∀ e ∈ ok.after, Region.binds md e = true → e.on ≠ i) → oi.apart ops ok = true := fun k ok hk hki hun hno => by
        refine hfree k ok hk hki ?_ hno
        by_cases hjk : j = k
        · subst hjk; exact hjun
        · rw [getD_set_ne true hjk] at hun; exact hun
      refine wpOp_mono (fun a' w' h3 => ⟨h3.2.1, ih (listed.setIfInBounds j true) a' w' hfree' (ready_mono hr (Ne.symm hji)) h3.1 (h3.2.1 hjz) ?_⟩) h2
      rw [Array.setIfInBounds_comm _ _ hji]
      exact h3.2.2
theorem wpAnyZ_take {i : Nat} {oi oz : Oper} {v : Value} {fuel : Nat} {listed : Array Bool} {a : Act} {w : World} (hi : ops[i]? = some oi) (hs : Region.noSelect ops = true) (hf : Region.free md ops listed i = true)
    (hr : (Region.ready md ops listed).contains i = true) (hz : ops[z]? = some oz) (hwt : Region.waitsFor md ops z i = true) (hQ : ∀ c a w, Q (.panic c) (a.put oi.dst v) w → Q (.panic c) a w)
    (hg : Gives P ops Q S oi v a) (hS : S w) (h : wpAnyZ P md ops Q S z fuel (listed.setIfInBounds i true) (a.put oi.dst v) w) : wpAnyZ P md ops Q S z (fuel + 1) listed a w := by
  obtain ⟨oj, hoj, hw⟩ := Region.waitsFor_spec hwt
  obtain rfl : oj = oz := Option.some.inj (hoj.symm.trans hz)
  exact wpAnyZ_first hi (Region.noSelect_spec hs) hQ hz hw fuel listed a w (Region.free_spec hi hf) (by simpa using hr) hg hS h
/-- the way on from operation i -/
def ZStep (P : Program) (md : Region.Mode) (ops : Array Oper) (Q : Exit → Act → World → Prop) (S : World → Prop) (z fuel : Nat) (listed : Array Bool) (a : Act) (w : World) (i : Nat) : Prop :=
  wpOp P ops Q i (fun a' w' => (i ≠ z → S w') ∧ wpAnyZ P md ops Q S z fuel (listed.setIfInBounds i true) a' w') a w
theorem zstep {fuel i : Nat} {o : Oper} {listed : Array Bool} {a : Act} {w : World} (ho : ops[i]? = some o)
    (h : ∀ K' : Act → World → Prop, Shut (∀ a w, (i ≠ z → S w) → ((i ≠ z → S w) → wpAnyZ P md ops Q S z fuel (listed.setIfInBounds i true) a w) → K' a w) → if Region.wanted o (yielded ops a.tmps) = true then Oper.wp P o a w K' Q else K' (a.put o.dst undef) w) :
    ZStep P md ops Q S z fuel listed a w i := wpOp_step ho (fun K' hK => h K' (fun a w hS hW => hK a w ⟨hS, hW hS⟩))
theorem wpAnyZ_one {fuel i : Nat} {listed : Array Bool} {a : Act} {w : World} (hr : Region.ready md ops listed = [i]) (h : ZStep P md ops Q S z fuel listed a w i) : wpAnyZ P md ops Q S z (fuel + 1) listed a w :=
  ⟨(fun h0 => by rw [hr] at h0; cases h0), (fun k hk => by rw [hr, List.mem_singleton] at hk; subst hk; exact h)⟩
theorem wpAnyZ_two {fuel i j : Nat} {listed : Array Bool} {a : Act} {w : World} (hr : Region.ready md ops listed = [i, j]) (h1 : ZStep P md ops Q S z fuel listed a w i) (h2 : ZStep P md ops Q S z fuel listed a w j) : wpAnyZ P md ops Q S z (fuel + 1) listed a w :=
  ⟨(fun h0 => by rw [hr] at h0; cases h0), fun k hk => by
    rw [hr, List.mem_cons, List.mem_singleton] at hk
    rcases hk with rfl | rfl
    · exact h1
    · exact h2⟩
theorem wpAnyZ_done {listed : Array Bool} {a : Act} {w : World} (hr : Region.ready md ops listed = []) (h : Q .normal a w) : ∀ fuel, wpAnyZ P md ops Q S z fuel listed a w
  | 0 => ⟨hr, h⟩
  | _ + 1 => ⟨fun _ => h, by rw [hr]; simp⟩
theorem wp_region_z {id : Nat} {a : Act} {w : World} (hm : P.follows .mixedOrders = true) (hS : S w.drew) (h : S w.drew → wpAnyZ P .any ops Q S z ops.size (Array.replicate ops.size false) a w.drew) : (Code.region id ops true).wp P Q a w :=
  wp_region_any hm (wpAny_of_z _ _ _ _ (h hS))
end
end Go.Proofs.Ytgkieelacjcopaa
namespace Go.Proofs.Ytgkieelacjcopaa
open Go.RowKit
set_option linter.unusedSimpArgs false

/-- a trip's answer, part by part, its rows in memory from block C on -/
structure TripV (W : World) (C : Nat) (t : Option TripR) (A1 : Option Addr) (n1 c1 : Nat) (A2 : Option Addr) (n2 c2 : Nat) (c h : Int) (ok : Bool) : Prop where
  no : ok = false → t = none ∧ A1 = none ∧ n1 = 0 ∧ c1 = 0 ∧ A2 = none ∧ n2 = 0 ∧ c2 = 0 ∧ c = 0 ∧ h = 0
  yes : ok = true → ∃ r, t = some r ∧ n1 = r.arr.length ∧ n2 = r.load.length ∧ c = r.cost ∧ h = r.home ∧ n1 ≤ c1 ∧ n2 ≤ c2 ∧ Recs W 1 num_ (.slice A1 r.arr.length c1) r.arr ∧ Recs W 1 num_ (.slice A2 r.load.length c2) r.load
  f1 : Fresh C A1
  f2 : Fresh C A2
theorem TripV.below {W W' : World} {C : Nat} {t : Option TripR} {A1 A2 : Option Addr} {n1 c1 n2 c2 : Nat} {c h : Int} {ok : Bool} (H : TripV W C t A1 n1 c1 A2 n2 c2 c h ok) (hb : Below W.heap.size W W') : TripV W' C t A1 n1 c1 A2 n2 c2 c h ok :=
  ⟨H.no, fun e => by
    obtain ⟨r, h1, h2, h3, h4, h5, h6, h7, h8, h9⟩ := H.yes e
    exact ⟨r, h1, h2, h3, h4, h5, h6, h7, h8.below hb, h9.below hb⟩, H.f1, H.f2⟩
theorem TripIs.parts {w w' : World} {t : Option TripR} {e : Ending} (H : TripIs w t e w') : Below w.heap.size w w' ∧ ∃ A1 n1 c1 A2 n2 c2 c h ok, e = .returned (.tuple #[.agg #[.slice A1 n1 c1, .slice A2 n2 c2, .int .i64 c, .int .i64 h], .bool ok]) ∧ TripV w' w.heap.size t A1 n1 c1 A2 n2 c2 c h ok := by
  obtain ⟨hb, ⟨rfl, rfl⟩ | ⟨r, A1, c1, A2, c2, rfl, rfl, h1, h2, h3, h4, h5, h6⟩⟩ := H
  · exact ⟨hb, none, 0, 0, none, 0, 0, 0, 0, false, rfl, fun _ => ⟨rfl, rfl, rfl, rfl, rfl, rfl, rfl, rfl, rfl⟩, fun h => (by cases h), fun _ h => (by cases h), fun _ h => (by cases h)⟩
  · exact ⟨hb, A1, _, c1, A2, _, c2, _, _, true, rfl, fun h => (by cases h), fun _ => ⟨r, rfl, rfl, rfl, rfl, rfl, h1, h2, h3, h4⟩, h5, h6⟩
theorem TripV.is {w w' : World} {C : Nat} {t : Option TripR} {A1 A2 : Option Addr} {n1 c1 n2 c2 : Nat} {c h : Int} {ok : Bool} (H : TripV w' C t A1 n1 c1 A2 n2 c2 c h ok) (hC : w.heap.size ≤ C) (hb : Below w.heap.size w w') : TripIs w t (.returned (.tuple #[.agg #[.slice A1 n1 c1, .slice A2 n2 c2, .int .i64 c, .int .i64 h], .bool ok])) w' := by
  have g1 := H.f1
  have g2 := H.f2
  cases ok with
  | false =>
    obtain ⟨rfl, rfl, rfl, rfl, rfl, rfl, rfl, rfl, rfl⟩ := H.no rfl
    exact ⟨hb, .inl ⟨rfl, rfl⟩⟩
  | true =>
    obtain ⟨r, rfl, rfl, rfl, rfl, rfl, h6, h7, h8, h9⟩ := H.yes rfl
    exact ⟨hb, .inr ⟨r, A1, c1, A2, c2, rfl, rfl, h6, h7, h8, h9, g1.mono hC, g2.mono hC⟩⟩
theorem Recs.low {α : Type} {W : World} {c C : Nat} {g : α → Nat → Int} {A : Option Addr} {n cap : Nat} {l : List α} {R : Nat} (h : Recs W c g (.slice A n cap) l) (hf : Fresh C A) (hR : R < C) (j : Nat) (u : Value) : Recs (W.setCell ⟨R, j, none⟩ u) c g (.slice A n cap) l := by
  obtain ⟨A', cap', e, h⟩ := h
  injection e with e1 e2 e3
  subst e1 e2 e3
  refine ⟨A, cap, rfl, fun k hk => ?_⟩
  obtain ⟨B, o, rfl, hB, hc⟩ := h k hk
  have := hf _ rfl
  simp only at this
  exact ⟨B, o, rfl, by simpa using hB, fun m hm => by rw [World.cell?_setCell_other _ _ _ _ (by intro hh; injection hh with h1 _ _; omega)]; exact hc m hm⟩
theorem TripV.low {W : World} {C : Nat} {t : Option TripR} {A1 A2 : Option Addr} {n1 c1 n2 c2 : Nat} {c h : Int} {ok : Bool} (H : TripV W C t A1 n1 c1 A2 n2 c2 c h ok) {R : Nat} (hR : R < C) (j : Nat) (u : Value) : TripV (W.setCell ⟨R, j, none⟩ u) C t A1 n1 c1 A2 n2 c2 c h ok :=
  ⟨H.no, fun e => by
    obtain ⟨r, h1, h2, h3, h4, h5, h6, h7, h8, h9⟩ := H.yes e
    exact ⟨r, h1, h2, h3, h4, h5, h6, h7, h8.low H.f1 hR j u, h9.low H.f2 hR j u⟩, H.f1, H.f2⟩
theorem there_in {i : Prob} (hf : Fine i) {l : List Int} (h : thereB i l = true) : ∀ x ∈ l, 1 ≤ x ∧ x ≤ 10 := by
  intro x hx
  unfold thereB at h
  rw [List.all_eq_true] at h
  have := inB_iff.1 (h x hx)
  have := hf.stops
  omega
theorem mate_bound {i : Prob} (hf : Fine i) (x : Int) : 0 ≤ mateL x i.pairs ∧ mateL x i.pairs ≤ 10 := by
  have hs := hf.stops
  have key : ∀ (ps : List Pair), (∀ p ∈ ps, 1 ≤ p.a ∧ p.a ≤ i.stops.length ∧ 1 ≤ p.b ∧ p.b ≤ i.stops.length) → 0 ≤ mateL x ps ∧ mateL x ps ≤ 10 := by
    intro ps
    induction ps with
    | nil => intro _; simp [mateL]
    | cons p l ih =>
      intro h
      have h1 := h p (by simp)
      have h2 := ih (fun q hq => h q (by simp [hq]))
      simp only [mateL]
      split
      · omega
      · split
        · omega
        · exact h2
  exact key i.pairs hf.pairF
theorem Lies.car {W : World} {vc vs vp vt : Value} {i : Prob} (h : Lies W (.agg #[vc, vs, vp, vt]) i) {q : Nat} (hq : q < i.cars.length) : ∃ A cap B o, vc = .slice A i.cars.length cap ∧ A = some ⟨B, o, none⟩ ∧ B < W.heap.size ∧
    W.cell? ⟨B, o + q * 3, none⟩ = some (.int .i64 (carAt i (q : Int)).c) ∧ W.cell? ⟨B, o + q * 3 + 1, none⟩ = some (.int .i64 (carAt i (q : Int)).s) ∧
    W.cell? ⟨B, o + q * 3 + 2, none⟩ = some (.int .i64 (carAt i (q : Int)).e) := by
  obtain ⟨_, _, _, _, e, ⟨A, cap, hv, hc⟩, _, _, _⟩ := h
  injection e with e
  injection e with e
  injection e with e _
  subst e
  obtain ⟨B, o, hA, hB, hcell⟩ := hc q hq
  rw [carAt_nat i hq]
  exact ⟨A, cap, B, o, hv, hA, hB, hcell 0 (by omega), hcell 1 (by omega), hcell 2 (by omega)⟩
theorem carAt_bounds {i : Prob} (h : Fine i) (c : Int) : 0 ≤ (carAt i c).c ∧ (carAt i c).c ≤ 60 ∧ 0 ≤ (carAt i c).s ∧ (carAt i c).s ≤ 1000 ∧ (carAt i c).e ≤ 1000 := by
  unfold carAt
  cases hk : i.cars[c.toNat]? with
  | none => simp
  | some r =>
    have := h.carF r (List.mem_of_getElem? hk)
    simp only [Option.getD_some]
    omega

end Go.Proofs.Ytgkieelacjcopaa
namespace Go.Proofs.Ytgkieelacjcopaa
open Go.RowKit
theorem ret_int {k : IntKind} {a b : Int} (h : a = b) : Ending.returned (.int k a) = .returned (.int k b) := by rw [h]
def withinI (v n : Int) : Int := if n < 1 then 0 else v % n
theorem within_neg {v n : Int} (h : 1 ≤ n) (hn : n ≤ 9223372036854775807) (hv : v.tmod n < 0) : wrap64 (v.tmod n + n) = withinI v n := by
  unfold withinI
  rw [if_neg (by omega)]
  have hm := Int.tmod_eq_emod (a := v) (b := n)
  have hl := Int.lt_tmod_of_pos v (b := n) (by omega)
  have b := Int.emod_lt_of_pos v (b := n) (by omega)
  have a := Int.emod_nonneg v (b := n) (by omega)
  have e : v % n = v.tmod n + n := by
    rw [hm] at hv ⊢
    split at hv
    · omega
    · next hc => rw [if_neg hc]; omega
  rw [e]
  unfold wrap64; omega
theorem within_pos {v n : Int} (h : 1 ≤ n) (hv : 0 ≤ v.tmod n) : v.tmod n = withinI v n := by
  unfold withinI
  rw [if_neg (by omega)]
  have hm := Int.tmod_eq_emod (a := v) (b := n)
  have b := Int.emod_lt_of_pos v (b := n) (by omega)
  rw [hm] at hv ⊢
  split
  · omega
  · next hc => rw [if_neg hc] at hv; omega
theorem withinI_bounds {v n : Int} (hn : 1 ≤ n) : 0 ≤ withinI v n ∧ withinI v n < n := by
  unfold withinI
  rw [if_neg (by omega)]
  exact ⟨Int.emod_nonneg v (by omega), Int.emod_lt_of_pos v (by omega)⟩
set_option maxHeartbeats 400000 in
theorem within_any (v n : Int) (w : World) (h1 : 1 ≤ n) (h2 : n ≤ 9223372036854775807) :
    Calls Try.prog 12 #[.int .i64 v, .int .i64 n] w fun e w' => e = .returned (.int .i64 (withinI v n)) ∧ w = w' := by
  go_enter Try.func12, Try.ntmps12
  go_wp2
  · go_ret
    exact ⟨ret_int (within_neg h1 h2 ‹_›), rfl⟩
  · go_ret
    exact ⟨ret_int (within_pos h1 ‹_›), rfl⟩

end Go.Proofs.Ytgkieelacjcopaa
