/- Plain facts, no Go: problems, and whether one may be. -/
import Derived.KernelRfl
namespace Go.Proofs.Ytneelmmikaefgaa

structure Car where
  c : Int
  s : Int
  e : Int
deriving DecidableEq
structure Stop where
  d : Int
  o : Int
  c : Int
  s : Int
deriving DecidableEq
structure Pair where
  a : Int
  b : Int
deriving DecidableEq
structure Prob where
  cars : List Car
  stops : List Stop
  pairs : List Pair
  travel : List (List Int)
deriving DecidableEq

def inB (n low high : Int) : Bool := decide (low ≤ n) && decide (n ≤ high)
theorem inB_iff {n low high : Int} : inB n low high = true ↔ low ≤ n ∧ n ≤ high := by simp [inB]
theorem inB_no {n low high : Int} : inB n low high = false ↔ n < low ∨ high < n := by
  cases h : inB n low high
  · simp; simp [inB] at h; omega
  · simp; rw [inB_iff] at h; omega
def carOk (x : Car) : Bool := inB x.c 0 60 && inB x.s 0 x.e && decide (x.e ≤ 1000)
def stopOk (x : Stop) : Bool := inB x.d (-20) 20 && inB x.s 0 1000 && inB x.o 0 x.c && decide (x.c ≤ 1000)
def carsOk (l : List Car) : Bool := inB l.length 1 3 && l.all carOk
def stopsOk (l : List Stop) : Bool := decide (l.length ≤ 10) && l.all stopOk
def demand (st : List Stop) (x : Int) : Int := ((st[(x - 1).toNat]?).map (·.d)).getD 0
def pairOk (st : List Stop) (seen : List Int) (p : Pair) : Bool :=
  inB p.a 1 st.length && !seen.contains p.a && (inB p.b 1 st.length && !(p.a :: seen).contains p.b) && (decide (0 ≤ demand st p.a) && decide (demand st p.b = - demand st p.a))
def pairsFrom (st : List Stop) : List Int → List Pair → Bool
  | _, [] => true
  | seen, p :: l => pairOk st seen p && pairsFrom st (p.b :: p.a :: seen) l
def rowOk (size : Nat) (from_ : Nat) (r : List Int) : Bool := decide (r.length = size) && (r[from_]?.getD 0 == 0) && r.all fun t => inB t 0 1000
def rowsFrom (size : Nat) : Nat → List (List Int) → Bool
  | _, [] => true
  | k, r :: l => rowOk size k r && rowsFrom size (k + 1) l
def travelOk (size : Nat) (l : List (List Int)) : Bool := decide (l.length = size) && rowsFrom size 0 l
def probOk (i : Prob) : Bool := carsOk i.cars && stopsOk i.stops && pairsFrom i.stops [] i.pairs && travelOk (i.stops.length + 1) i.travel

theorem stopsOk_at {l : List Stop} (h : stopsOk l = true) {k : Nat} (hk : k < l.length) : stopOk l[k] = true := by
  simp only [stopsOk, Bool.and_eq_true, List.all_eq_true] at h
  exact h.2 _ (List.getElem_mem _)
theorem stopOk_d {x : Stop} (h : stopOk x = true) : -20 ≤ x.d ∧ x.d ≤ 20 := by
  simp only [stopOk, Bool.and_eq_true, inB_iff] at h
  omega
theorem stopsOk_len {l : List Stop} (h : stopsOk l = true) : l.length ≤ 10 := by
  simp only [stopsOk, Bool.and_eq_true, decide_eq_true_eq] at h
  exact h.1
theorem demand_at {st : List Stop} {x : Int} (h1 : 1 ≤ x) (h2 : x ≤ st.length) : ∃ (k : Nat) (h : k < st.length), x = (k : Int) + 1 ∧ demand st x = st[k].d := by
  refine ⟨(x - 1).toNat, by omega, by omega, ?_⟩
  unfold demand
  rw [List.getElem?_eq_getElem (show (x - 1).toNat < st.length by omega)]
  rfl
/-- drop by one -/
theorem drop_at {α : Type} {l : List α} {k : Nat} (h : k < l.length) : l.drop k = l[k] :: l.drop (k + 1) := List.drop_eq_getElem_cons h
theorem all_drop {α : Type} {p : α → Bool} {l : List α} {k : Nat} (h : k < l.length) : (l.drop k).all p = (p l[k] && (l.drop (k + 1)).all p) := by rw [drop_at h, List.all_cons]
theorem rowsFrom_drop {size : Nat} {l : List (List Int)} {k : Nat} (h : k < l.length) : rowsFrom size k (l.drop k) = (rowOk size k l[k] && rowsFrom size (k + 1) (l.drop (k + 1))) := by rw [drop_at h]; rfl
theorem pairsFrom_drop {st : List Stop} {seen : List Int} {l : List Pair} {k : Nat} (h : k < l.length) : pairsFrom st seen (l.drop k) = (pairOk st seen l[k] && pairsFrom st (l[k].b :: l[k].a :: seen) (l.drop (k + 1))) := by rw [drop_at h]; rfl
theorem rowOk_at {size k : Nat} {r : List Int} (h : k < r.length) : rowOk size k r = (decide (r.length = size) && (r[k] == 0) && r.all fun t => inB t 0 1000) := by
  unfold rowOk; rw [List.getElem?_eq_getElem h]; rfl
theorem rowOk_size {size k : Nat} {r : List Int} (h : r.length ≠ size) : rowOk size k r = false := by simp [rowOk, h]
theorem demand_nat (st : List Stop) {k : Nat} (h : k < st.length) : demand st ((k : Int) + 1) = st[k].d := by
  unfold demand
  rw [show ((k : Int) + 1 - 1).toNat = k by omega, List.getElem?_eq_getElem h]
  rfl
theorem bool_no {b : Bool} (h : ¬ b = true) : b = false := by simpa using h
end Go.Proofs.Ytneelmmikaefgaa
