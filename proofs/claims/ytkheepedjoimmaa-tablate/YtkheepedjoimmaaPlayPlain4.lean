/- Plain facts for draymanplay.Inst: stops whose demands are set for a pair; a cell of an owned row set. -/
import Derived.Test.YtkheepedjoimmaaOwn
namespace Go.Proofs.Ytkheepedjoimmaa
open Go.RowKit

def setD (st : List Stop) (k : Nat) (d : Int) : List Stop := st.modify k fun x => { x with d := d }
theorem setD_len (st : List Stop) (k : Nat) (d : Int) : (setD st k d).length = st.length := by simp [setD]
theorem setD_get {st : List Stop} {k j : Nat} {d : Int} (h : j < (setD st k d).length) : (setD st k d)[j] = if k = j then { st[j]'(by simpa [setD_len] using h) with d := d } else st[j]'(by simpa [setD_len] using h) := by
  simp only [setD, List.getElem_modify]
theorem setD_ok {st : List Stop} (h : st.all stopOk = true) {k : Nat} {d : Int} (h1 : -20 ≤ d) (h2 : d ≤ 20) : (setD st k d).all stopOk = true := by
  rw [List.all_eq_true] at h ⊢
  intro x hx
  obtain ⟨j, hj, rfl⟩ := List.getElem_of_mem hx
  have hj' : j < st.length := by simpa [setD_len] using hj
  have h0 := h st[j] (List.getElem_mem _)
  rw [setD_get hj]
  split
  · simp only [stopOk, inB, Bool.and_eq_true, decide_eq_true_eq] at h0 ⊢
    exact ⟨⟨⟨⟨h1, h2⟩, h0.1.1.2⟩, h0.1.2⟩, h0.2⟩
  · exact h0
theorem demand_setD {st : List Stop} {k : Nat} {d x : Int} (hx : 1 ≤ x) (hk : k < st.length) : demand (setD st k d) x = if x = (k : Int) + 1 then d else demand st x := by
  unfold demand setD
  rw [List.getElem?_modify]
  by_cases e : x = (k : Int) + 1
  · subst e
    rw [show ((k : Int) + 1 - 1).toNat = k by omega, List.getElem?_eq_getElem hk]
    simp
  · rw [if_neg e]
    have hk' : ¬ k = x.toNat - 1 := by omega
    cases h : st[(x - 1).toNat]? with
    | none => rfl
    | some y => simp [hk']
theorem stopCells_len (st : List Stop) : (stopCells st).length = st.length * 4 := by
  induction st with
  | nil => rfl
  | cons x l ih => simp only [stopCells, List.flatMap_cons, List.length_append, List.length_cons] at ih ⊢; rw [ih]; simp [ints, stopNums]; omega
theorem stopCells_setD : ∀ (st : List Stop) (k : Nat) (d : Int), k < st.length → stopCells (setD st k d) = (stopCells st).set (k * 4) (.int .i64 d)
  | x :: l, 0, d, _ => by simp [stopCells, setD, ints, stopNums]
  | x :: l, k + 1, d, h => by
    have := stopCells_setD l k d (by simpa using h)
    simp only [stopCells, setD, List.modify_succ_cons, List.flatMap_cons] at this ⊢
    rw [this, List.set_append, if_neg (by simp [ints, stopNums]; omega)]
    congr 2
    simp [ints, stopNums]; omega
theorem own_mono {w : World} {B B' : Nat} {e : TypeId} {size n : Nat} {v : Value} {xs : List Value} (h : w.ownsRow B e size v n xs) (hB : B' ≤ B) : w.ownsRow B' e size v n xs := by
  refine ⟨h.1, ?_⟩
  rcases h.2 with h2 | ⟨g, cap, cur, h1, h2, h3⟩
  · exact .inl h2
  · exact .inr ⟨g, cap, cur, h1, Nat.le_trans hB h2, h3⟩
theorem own_set {w : World} {B : Nat} {e : TypeId} {size n : Nat} {A : Option Addr} {cap : Nat} {xs : List Value} (h : w.ownsRow B e size (.slice A n cap) n xs) {g j : Nat} (hg : A = some ⟨g, 0, none⟩) (u : Value) :
    (w.setCell ⟨g, j, none⟩ u).ownsRow B e size (.slice A n cap) n (xs.set j u) := by
  subst hg
  refine ⟨by rw [List.length_set]; exact h.1, .inr ?_⟩
  rcases h.2 with ⟨hv, _⟩ | ⟨g', cap', cur, hv, hB, hh, hnc, hm, hs, ht⟩
  · cases hv
  · obtain ⟨rfl, rfl⟩ : g = g' ∧ cap = cap' := by injection hv with h1 _ h2; injection h1 with h1; injection h1 with h1; exact ⟨h1, h2⟩
    refine ⟨g, cap, cur.setIfInBounds j u, rfl, hB, ?_, hnc, hm, by simpa using hs, ?_⟩
    · simp [World.setCell, Array.getElem?_modify, hh]
    · rw [Array.toList_setIfInBounds, List.take_set, ht]
theorem pairsFrom_snoc (st : List Stop) (p : Pair) : ∀ (l : List Pair) (seen : List Int), pairsFrom st seen (l ++ [p]) = (pairsFrom st seen l && pairOk st (l.foldl (fun s q => q.b :: q.a :: s) seen) p)
  | [], seen => by simp [pairsFrom]
  | q :: l, seen => by
    simp only [List.cons_append, pairsFrom, List.foldl_cons]
    rw [pairsFrom_snoc st p l, Bool.and_assoc]
theorem pairOk_same {st st' : List Stop} {seen : List Int} {p : Pair} (hl : st'.length = st.length) (ha : demand st' p.a = demand st p.a) (hb : demand st' p.b = demand st p.b) : pairOk st' seen p = pairOk st seen p := by
  unfold pairOk; rw [hl, ha, hb]
theorem pairsFrom_same {st st' : List Stop} (hl : st'.length = st.length) : ∀ {l : List Pair} {seen : List Int}, (∀ p ∈ l, demand st' p.a = demand st p.a ∧ demand st' p.b = demand st p.b) → pairsFrom st' seen l = pairsFrom st seen l
  | [], _, _ => rfl
  | q :: l, seen, h => by
    simp only [pairsFrom]
    rw [pairOk_same hl (h q (by simp)).1 (h q (by simp)).2, pairsFrom_same hl (fun p hp => h p (by simp [hp]))]
theorem fold_mem {ps : List Pair} {m : Int} : ∀ {seen : List Int}, (∀ x ∈ seen, x ≤ m) → (∀ p ∈ ps, p.a ≤ m ∧ p.b ≤ m) → ∀ x ∈ ps.foldl (fun s q => q.b :: q.a :: s) seen, x ≤ m := by
  induction ps with
  | nil => intro seen h _; exact h
  | cons q l ih =>
    intro seen h hp
    refine ih (fun x hx => ?_) (fun p hpl => hp p (by simp [hpl]))
    have := hp q (by simp)
    rcases List.mem_cons.1 hx with rfl | hx
    · exact this.2
    · rcases List.mem_cons.1 hx with rfl | hx
      · exact this.1
      · exact h x hx
theorem pairs_more {st st' : List Stop} {ps : List Pair} {k : Nat} {d a b : Int} (hl : st'.length = st.length) (hk : 2 * k + 2 ≤ st.length) (hd : 0 ≤ d) (hpf : pairsFrom st [] ps = true)
    (hpb : ∀ p ∈ ps, 1 ≤ p.a ∧ p.a ≤ 2 * k ∧ 1 ≤ p.b ∧ p.b ≤ 2 * k) (ha1 : 2 * (k : Int) + 1 ≤ a) (ha2 : a ≤ 2 * (k : Int) + 2) (hb1 : 2 * (k : Int) + 1 ≤ b) (hb2 : b ≤ 2 * (k : Int) + 2) (hab : a ≠ b)
    (hda : demand st' a = d) (hdb : demand st' b = -d) (hdx : ∀ x : Int, 1 ≤ x → x ≤ 2 * k → demand st' x = demand st x) : pairsFrom st' [] (ps ++ [⟨a, b⟩]) = true := by
  rw [pairsFrom_snoc, pairsFrom_same hl (fun p hp => ⟨hdx _ (hpb p hp).1 (hpb p hp).2.1, hdx _ (hpb p hp).2.2.1 (hpb p hp).2.2.2⟩), hpf, Bool.true_and]
  have hm := fold_mem (ps := ps) (m := 2 * k) (seen := []) (fun x hx => by simp at hx) (fun p hp => ⟨(hpb p hp).2.1, (hpb p hp).2.2.2⟩)
  generalize ps.foldl (fun s q => q.b :: q.a :: s) [] = seen at hm
  have h1 : seen.contains a = false := by rw [Bool.eq_false_iff]; intro h; have := hm a (by simpa using h); omega
  have h2 : seen.contains b = false := by rw [Bool.eq_false_iff]; intro h; have := hm b (by simpa using h); omega
  have h3 : (a :: seen).contains b = false := by
    rw [List.contains_cons, h2, Bool.or_false]
    simpa using fun h => hab h.symm
  unfold pairOk
  simp only [hl, hda, hdb, h1, h3]
  simp [inB]
  omega
theorem Held.set_stop {W : World} {B I : Nat} {i : Prob} {vc vp vt : Value} {us : List Value} {g n cap : Nat} (h : Held W B I i vc (.slice (some ⟨g, 0, none⟩) n cap) vp vt us) (hn : n = i.stops.length) {k : Nat} (hk : k < i.stops.length) (d : Int) :
    Held (W.setCell ⟨g, k * 4, none⟩ (.int .i64 d)) B I { i with stops := setD i.stops k d } vc (.slice (some ⟨g, 0, none⟩) n cap) vp vt us := by
  subst hn
  have hg := own_typed h.stops (g := g) rfl
  have hI := h.typedI
  have hne : g ≠ I := typed_ne hg.1 hI (by decide)
  have hs := grown_set W g (k * 4) (.int .i64 d)
  have hrow : ∀ e, e ≠ 48 → ∀ q, some g = some q → ∃ t, Typed W q t ∧ t ≠ e := fun e he q hq => by
    injection hq with hq; subst hq; exact ⟨48, hg.1, he.symm⟩
  refine ⟨h.lt, by rw [Below.heap_setCell _ _ _ _ (by simpa using fun e => hne e.symm)]; exact h.box, own_keep h.cars hs (hrow _ (by decide)), ?_, own_keep h.pairs hs (hrow _ (by decide)), own_keep h.travel hs (hrow _ (by decide)), fun j hj => ?_⟩
  · have := own_set h.stops (g := g) (j := k * 4) rfl (.int .i64 d)
    rw [← stopCells_setD _ _ _ hk] at this
    simpa [setD_len] using this
  · obtain ⟨u, h1, h2⟩ := h.rows j hj
    exact ⟨u, h1, h2.grown hs (hrow _ (by decide))⟩
def PlayEnd (w : World) (e : Ending) (w' : World) : Prop := ∃ i vc vs vp vt us I, e = .returned (.agg #[vc, vs, vp, vt]) ∧ Held w' w.heap.size I i vc vs vp vt us ∧ probOk i = true ∧ 2 ≤ i.stops.length ∧ i.stops.length ≤ 8 ∧ i.pairs.length ≤ 2 ∧ Below w.heap.size w w'
def RowTo (a b : Nat) (r : List Int) : Prop := r.length = b ∧ (∀ x ∈ r, 0 ≤ x ∧ x ≤ 14) ∧ r[a]?.getD 0 = 0
theorem rowTo_nil (a : Nat) : RowTo a 0 [] := ⟨rfl, fun x hx => by simp at hx, rfl⟩
theorem RowTo.more {a b : Nat} {r : List Int} (h : RowTo a b r) {t : Int} (h0 : 0 ≤ t) (h1 : t ≤ 14) (ht : a = b → t = 0) : RowTo a (b + 1) (r ++ [t]) := by
  obtain ⟨hl, ha, hz⟩ := h
  refine ⟨by simp [hl], fun x hx => ?_, ?_⟩
  · rcases List.mem_append.1 hx with hx | hx
    · exact ha x hx
    · simp at hx; subst hx; exact ⟨h0, h1⟩
  · by_cases e : a < b
    · rw [List.getElem?_append_left (by omega)]; exact hz
    · rw [List.getElem?_append_right (by omega), hl]
      by_cases e2 : a = b
      · subst e2; simp [ht rfl]
      · rw [List.getElem?_eq_none (by simp; omega)]; rfl
theorem RowTo.ok {a m : Nat} {r : List Int} (h : RowTo a m r) : rowOk m a r = true := by
  obtain ⟨hl, ha, hz⟩ := h
  simp only [rowOk, hz, hl, Bool.and_eq_true, decide_eq_true_eq, List.all_eq_true, inB]
  exact ⟨⟨trivial, by rfl⟩, fun x hx => by have := ha x hx; omega⟩
theorem rowsFrom_snoc (size : Nat) (r : List Int) : ∀ (k : Nat) (l : List (List Int)), rowsFrom size k (l ++ [r]) = (rowsFrom size k l && rowOk size (k + l.length) r)
  | k, [] => by simp [rowsFrom]
  | k, q :: l => by
    simp only [List.cons_append, rowsFrom, List.length_cons]
    rw [rowsFrom_snoc size r (k + 1) l, Bool.and_assoc, show k + 1 + l.length = k + (l.length + 1) by omega]
theorem own_row {w : World} {B : Nat} {v : Value} {r : List Int} {n : Nat} (h : w.ownsRow B 3 1 v n (ints r)) (hn : n = r.length) (hp : 0 < r.length) : RowSome w B v r := by
  subst hn
  obtain ⟨A, cap, rfl, hget⟩ := own_get h
  obtain ⟨g, rfl, hg, hc⟩ := hget hp
  have ht := own_typed h (g := g) rfl
  have hcp : r.length ≤ cap := by
    rcases h.2 with ⟨hv, _⟩ | ⟨g', cap', cur, hv, _, _, hnc, _⟩
    · injection hv with _ h1 h2; omega
    · injection hv with _ _ h2; omega
  refine ⟨g, cap, rfl, ht.2, ⟨hg, fun j hj => ?_⟩, ht.1, hcp⟩
  obtain ⟨cur, hcur⟩ := ht.1
  exact ⟨hc j _ (List.getElem?_eq_getElem hj), Lib.frozen_of_heap hcur j⟩
theorem Held.mono {W : World} {B B' I : Nat} {i : Prob} {vc vs vp vt : Value} {us : List Value} (h : Held W B I i vc vs vp vt us) (hB : B' ≤ B) : Held W B' I i vc vs vp vt us := by
  refine ⟨Nat.le_trans hB h.lt, h.box, own_mono h.cars hB, own_mono h.stops hB, own_mono h.pairs hB, own_mono h.travel hB, fun k hk => ?_⟩
  obtain ⟨u, h1, g, cap, h2, h3, h4⟩ := h.rows k hk
  exact ⟨u, h1, g, cap, h2, Nat.le_trans hB h3, h4⟩
theorem probOk_made {cs : List Car} {st : List Stop} {ps : List Pair} {tr : List (List Int)} (h1 : 1 ≤ cs.length) (h2 : cs.length ≤ 3) (hc : cs.all carOk = true) (hs : st.length ≤ 8) (hsa : st.all stopOk = true) (hpf : pairsFrom st [] ps = true) (htl : tr.length = st.length + 1) (hr : rowsFrom (st.length + 1) 0 tr = true) : probOk ⟨cs, st, ps, tr⟩ = true := by
  simp only [probOk, carsOk, stopsOk, travelOk, hc, hsa, hpf, hr, Bool.and_true, Bool.and_eq_true, decide_eq_true_eq, inB]
  omega
end Go.Proofs.Ytkheepedjoimmaa
