/- draymanplay.Inst as a function of its list: which problem it makes. -/
import Derived.Test.YtkheepedjoimmaaPlayNum
import Derived.Test.YtkheepedjoimmaaPlayPlain4
namespace Go.Proofs.Ytkheepedjoimmaa
open Go.RowKit

def capsF (r : Nat) : Int := ([20, 60, 9, 30] : List Int)[r]?.getD 0
def endsF (r : Nat) : Int := ([1000, 200, 90, 60] : List Int)[r]?.getD 0
def spansF (r : Nat) : Int := ([900, 60, 25, 8] : List Int)[r]?.getD 0
def carF (l : List Int) (k : Nat) : Car := ⟨capsF (withinI (numF l (1 + k)) 4).toNat, withinI (IntKind.i64.wrap ((numF l (1 + k)).tdiv 4)) 9, endsF (withinI (IntKind.i64.wrap ((numF l (1 + k)).tdiv 36)) 4).toNat⟩
def stopF (l : List Int) (k : Nat) : Stop := ⟨if withinI (numF l (5 + k)) 9 = 8 then -1 - withinI (wrap64 ((numF l (5 + k)).tdiv 9)) 4 else withinI (numF l (5 + k)) 8, withinI (wrap64 ((numF l (5 + k)).tdiv 8)) 30,
  withinI (wrap64 ((numF l (5 + k)).tdiv 8)) 30 + spansF (withinI (IntKind.i64.wrap ((numF l (5 + k)).tdiv 7)) 4).toNat, withinI (wrap64 ((numF l (5 + k)).tdiv 240)) 6⟩
def stopsF (l : List Int) (m : Nat) : List Stop := (List.range m).map (stopF l)
def pairStep (l : List Int) (s : List Stop × List Pair) (k : Nat) : List Stop × List Pair :=
  if withinI (numF l (15 + k)) 2 = 1 then (setD (setD s.1 (2 * k + 1) (withinI (numF l (16 + k)) 9)) (2 * k) (-withinI (numF l (16 + k)) 9), s.2 ++ [⟨2 * (k : Int) + 2, 2 * (k : Int) + 1⟩])
  else (setD (setD s.1 (2 * k) (withinI (numF l (16 + k)) 9)) (2 * k + 1) (-withinI (numF l (16 + k)) 9), s.2 ++ [⟨2 * (k : Int) + 1, 2 * (k : Int) + 2⟩])
def pairsF (l : List Int) (st : List Stop) : Nat → List Stop × List Pair
  | 0 => (st, [])
  | k + 1 => pairStep l (pairsF l st k) k
def pairsN (l : List Int) (m : Nat) : Nat := min (withinI (numF l 14) 3).toNat (m / 2)
def cellF (l : List Int) (a b : Nat) : Int := if a = b then 0 else 1 + withinI (numF l (20 + 3 * a + 5 * b)) 14
def wayF (l : List Int) (m a : Nat) : List Int := (List.range m).map (cellF l a)
/-- the problem of a list -/
def playI (l : List Int) : Prob := ⟨(List.range (1 + (withinI (numF l 0) 3).toNat)).map (carF l), (pairsF l (stopsF l (2 + (withinI (numF l 4) 7).toNat)) (pairsN l (2 + (withinI (numF l 4) 7).toNat))).1,
  (pairsF l (stopsF l (2 + (withinI (numF l 4) 7).toNat)) (pairsN l (2 + (withinI (numF l 4) 7).toNat))).2, (List.range (3 + (withinI (numF l 4) 7).toNat)).map (wayF l (3 + (withinI (numF l 4) 7).toNat))⟩
def CarsTo (l : List Int) (cs : List Car) : Prop := cs.all carOk = true ∧ cs = (List.range cs.length).map (carF l) ∧ (cs.length : Int) ≤ 1 + withinI (numF l 0) 3
theorem range_snoc {α : Type} {xs : List α} {f : Nat → α} {x : α} (h : xs = (List.range xs.length).map f) (hx : x = f xs.length) : xs ++ [x] = (List.range (xs ++ [x]).length).map f := by
  rw [List.length_append, List.length_singleton, List.range_succ, List.map_append, ← h, hx]; rfl
theorem CarsTo.more {l : List Int} {cs : List Car} (h : CarsTo l cs) {k : Nat} (hk : cs.length = k) {c : Car} (hc : carOk c = true ∧ c = carF l k) (h0 : (k : Int) < 1 + withinI (numF l 0) 3) : CarsTo l (cs ++ [c]) := by
  subst hk
  exact ⟨by rw [List.all_append, h.1, List.all_cons, hc.1]; rfl, range_snoc h.2.1 hc.2, by rw [List.length_append, List.length_singleton]; omega⟩
theorem cars_nil (l : List Int) (h : 0 ≤ withinI (numF l 0) 3) : CarsTo l [] := ⟨rfl, rfl, by simp; omega⟩
def StopsTo (l : List Int) (st : List Stop) : Prop := st.all stopOk = true ∧ st = (List.range st.length).map (stopF l)
theorem StopsTo.more {l : List Int} {st : List Stop} (h : StopsTo l st) {k : Nat} (hk : st.length = k) {c : Stop} (hc : stopOk c = true ∧ c = stopF l k) : StopsTo l (st ++ [c]) := by
  subst hk
  exact ⟨by rw [List.all_append, h.1, List.all_cons, hc.1]; rfl, range_snoc h.2 hc.2⟩
theorem carF_eq {l : List Int} {k : Nat} {n x1 x2 x3 : Int} {r1 r3 : Nat} (hn : NumF l (1 + k) n) (h1 : withinI n 4 = (r1 : Int)) (hx1 : x1 = capsF r1) (h2 : withinI (IntKind.i64.wrap (n.tdiv 4)) 9 = x2) (h3 : withinI (IntKind.i64.wrap (n.tdiv 36)) 4 = (r3 : Int)) (hx3 : x3 = endsF r3) : (⟨x1, x2, x3⟩ : Car) = carF l k := by
  unfold carF
  rw [← hn.2, h1, h2, h3, hx1, hx3]; rfl
theorem stopF_eq {l : List Int} {k : Nat} {d a2 cl a3 : Int} (h2 : a2 = withinI (wrap64 ((numF l (5 + k)).tdiv 8)) 30) (hc : cl = withinI (wrap64 ((numF l (5 + k)).tdiv 8)) 30 + spansF (withinI (IntKind.i64.wrap ((numF l (5 + k)).tdiv 7)) 4).toNat)
    (h3 : a3 = withinI (wrap64 ((numF l (5 + k)).tdiv 240)) 6) (hd : d = if withinI (numF l (5 + k)) 9 = 8 then -1 - withinI (wrap64 ((numF l (5 + k)).tdiv 9)) 4 else withinI (numF l (5 + k)) 8) : (⟨d, a2, cl, a3⟩ : Stop) = stopF l k := by
  unfold stopF; rw [h2, hc, h3, hd]
structure PairsTo (l : List Int) (m k : Nat) (st : List Stop) (ps : List Pair) : Prop where
  ok : pairsFrom st [] ps = true
  eq : (st, ps) = pairsF l (stopsF l m) k
  few : (k : Int) ≤ withinI (numF l 14) 3
  fit : 2 * k ≤ m
def PairsDone (l : List Int) (m : Nat) (st : List Stop) (ps : List Pair) : Prop := pairsFrom st [] ps = true ∧ (st, ps) = pairsF l (stopsF l m) (pairsN l m)
theorem pairs_none {l : List Int} {m : Nat} {st : List Stop} (h : StopsTo l st) (hm : st.length = m) (h0 : 0 ≤ withinI (numF l 14) 3) : PairsTo l m 0 st [] := by
  subst hm
  exact ⟨rfl, by unfold pairsF stopsF; rw [← h.2], by simpa using h0, by omega⟩
theorem PairsTo.doneA {l : List Int} {m k : Nat} {st : List Stop} {ps : List Pair} (h : PairsTo l m k st ps) (hk : ¬ (k : Int) < withinI (numF l 14) 3) : PairsDone l m st ps := by
  have h1 := h.few; have h2 := h.fit
  have : pairsN l m = k := by unfold pairsN; omega
  exact ⟨h.ok, by rw [this]; exact h.eq⟩
theorem PairsTo.doneB {l : List Int} {m k : Nat} {st : List Stop} {ps : List Pair} (h : PairsTo l m k st ps) (hk : ¬ 2 * k + 2 ≤ m) : PairsDone l m st ps := by
  have h1 := h.few; have h2 := h.fit
  have : pairsN l m = k := by unfold pairsN; omega
  exact ⟨h.ok, by rw [this]; exact h.eq⟩
theorem PairsTo.moreA {l : List Int} {m k d : Nat} {st : List Stop} {ps : List Pair} (h : PairsTo l m k st ps) (h0 : (k : Int) < withinI (numF l 14) 3) (h2 : 2 * k + 2 ≤ m) (h6 : withinI (numF l (15 + k)) 2 = 1) (hd : withinI (numF l (16 + k)) 9 = (d : Int))
    (hok : pairsFrom (setD (setD st (2 * k + 1) d) (2 * k) (-(d : Int))) [] (ps ++ [⟨2 * (k : Int) + 2, 2 * (k : Int) + 1⟩]) = true) : PairsTo l m (k + 1) (setD (setD st (2 * k + 1) d) (2 * k) (-(d : Int))) (ps ++ [⟨2 * (k : Int) + 2, 2 * (k : Int) + 1⟩]) :=
  ⟨hok, by unfold pairsF pairStep; rw [if_pos h6, ← h.eq, hd], by omega, by omega⟩
theorem PairsTo.moreB {l : List Int} {m k d : Nat} {st : List Stop} {ps : List Pair} (h : PairsTo l m k st ps) (h0 : (k : Int) < withinI (numF l 14) 3) (h2 : 2 * k + 2 ≤ m) (h6 : ¬ withinI (numF l (15 + k)) 2 = 1) (hd : withinI (numF l (16 + k)) 9 = (d : Int))
    (hok : pairsFrom (setD (setD st (2 * k) d) (2 * k + 1) (-(d : Int))) [] (ps ++ [⟨2 * (k : Int) + 1, 2 * (k : Int) + 2⟩]) = true) : PairsTo l m (k + 1) (setD (setD st (2 * k) d) (2 * k + 1) (-(d : Int))) (ps ++ [⟨2 * (k : Int) + 1, 2 * (k : Int) + 2⟩]) :=
  ⟨hok, by unfold pairsF pairStep; rw [if_neg h6, ← h.eq, hd], by omega, by omega⟩
def WaysTo (l : List Int) (m : Nat) (tr : List (List Int)) : Prop := rowsFrom m 0 tr = true ∧ tr = (List.range tr.length).map (wayF l m)
theorem WaysTo.more {l : List Int} {m : Nat} {tr : List (List Int)} (h : WaysTo l m tr) {a : Nat} (ha : tr.length = a) {r : List Int} (hr : rowOk m a r = true) (he : r = wayF l m a) : WaysTo l m (tr ++ [r]) := by
  subst ha
  exact ⟨by rw [rowsFrom_snoc, h.1, Bool.true_and, Nat.zero_add]; exact hr, range_snoc h.2 he⟩
def RowToF (l : List Int) (a b : Nat) (r : List Int) : Prop := RowTo a b r ∧ r = wayF l b a
theorem rowToF_nil (l : List Int) (a : Nat) : RowToF l a 0 [] := ⟨rowTo_nil a, rfl⟩
theorem RowToF.more {l : List Int} {a b : Nat} {r : List Int} (h : RowToF l a b r) {t : Int} (h0 : 0 ≤ t) (h1 : t ≤ 14) (ht : a = b → t = 0) (hq : t = cellF l a b) : RowToF l a (b + 1) (r ++ [t]) :=
  ⟨h.1.more h0 h1 ht, by unfold wayF; rw [List.range_succ, List.map_append, h.2, hq]; rfl⟩
theorem made_eq {l : List Int} {r0 r4 : Nat} {cs : List Car} {st : List Stop} {ps : List Pair} {tr : List (List Int)} (h0 : withinI (numF l 0) 3 = (r0 : Int)) (h4 : withinI (numF l 4) 7 = (r4 : Int)) (hc : CarsTo l cs) (hk : ¬ cs.length < 1 + r0)
    (hp : PairsDone l (2 + r4) st ps) (ht : WaysTo l (3 + r4) tr) (hl : tr.length = 3 + r4) : (⟨cs, st, ps, tr⟩ : Prob) = playI l := by
  have hc3 := hc.2.2
  have hlen : cs.length = 1 + r0 := by omega
  have e1 := hc.2.1
  rw [hlen] at e1
  have e2 := ht.2
  rw [hl] at e2
  unfold playI
  rw [h0, h4, Int.toNat_natCast, Int.toNat_natCast, ← hp.2, ← e1, ← e2]
def PlayEndF (l : List Int) (w : World) (e : Ending) (w' : World) : Prop := ∃ vc vs vp vt us I, e = .returned (.agg #[vc, vs, vp, vt]) ∧ Held w' w.heap.size I (playI l) vc vs vp vt us ∧ probOk (playI l) = true ∧ 2 ≤ (playI l).stops.length ∧ (playI l).stops.length ≤ 8 ∧ (playI l).pairs.length ≤ 2 ∧ Below w.heap.size w w'
theorem within_num (l : List Int) (k : Nat) (n : Int) (h : 1 ≤ n) : 0 ≤ withinI (numF l k) n := (withinI_bounds h).1
end Go.Proofs.Ytkheepedjoimmaa
