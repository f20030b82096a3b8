/- TripBegins, plain: a problem with more room drives what the other drove; a beginning's arrivals and loads. -/
import Derived.Test.YtkheepedjoimmaaTripTwo
namespace Go.Proofs.Ytkheepedjoimmaa
open Go.RowKit

/-- the same stops and ways but for closings -/
structure Alike (i j : Prob) : Prop where
  travel : j.travel = i.travel
  stops : j.stops.length = i.stops.length
  at_ : ∀ x, (stopAt j x).d = (stopAt i x).d ∧ (stopAt j x).o = (stopAt i x).o ∧ (stopAt j x).s = (stopAt i x).s
theorem Alike.way {i j : Prob} (h : Alike i j) (a b : Int) : way j a b = way i a b := by unfold Proofs.Ytkheepedjoimmaa.way; rw [h.travel]
theorem Alike.begun {i j : Prob} (h : Alike i j) (a b c : Int) : begun j a b c = begun i a b c := by unfold Proofs.Ytkheepedjoimmaa.begun; rw [h.way, (h.at_ c).2.1]
theorem Alike.there {i j : Prob} (h : Alike i j) (l : List Int) : thereB j l = thereB i l := by unfold thereB; rw [h.stops]
theorem Alike.cost {i j : Prob} (h : Alike i j) : ∀ (l : List Int) (a : Int), costL j a l = costL i a l
  | [], a => h.way a 0
  | s :: l, a => by show Proofs.Ytkheepedjoimmaa.way j a s + costL j s l = _; rw [h.way, h.cost l s]; rfl
theorem drive_roomy {i j : Prob} {ci cj : Car} (h : Alike i j) (hc : ∀ x, (stopAt i x).c ≤ (stopAt j x).c) (h1 : ci.c ≤ cj.c) (h2 : ci.e ≤ cj.e) : ∀ {l : List Int} {last left ld : Int} {d : Drive}, driveL i ci last left ld l = some d → driveL j cj last left ld l = some d
  | [], last, left, ld, d, hd => by
    unfold driveL at hd ⊢
    rw [h.way]
    split at hd
    · cases hd
    · next hn => rw [if_neg (by omega)]; exact hd
  | s :: l, last, left, ld, d, hd => by
    unfold driveL at hd ⊢
    rw [h.begun, (h.at_ s).1, (h.at_ s).2.2]
    split at hd
    · cases hd
    · next hn =>
      have h3 := hc s
      rw [if_neg (by omega)]
      rw [Option.map_eq_some_iff] at hd ⊢
      obtain ⟨a, h4, h5⟩ := hd
      exact ⟨a, drive_roomy h hc h1 h2 h4, h5⟩
theorem drive_take {i j : Prob} {ci cj : Car} (h : Alike i j) : ∀ {l : List Int} {last left ld : Int} {k : Nat} {d v : Drive}, driveL i ci last left ld l = some d → driveL j cj last left ld (l.take k) = some v → v.arr = d.arr.take k ∧ v.load = d.load.take k
  | l, last, left, ld, 0, d, v, _, hv => by
    rw [List.take_zero] at hv
    unfold driveL at hv
    split at hv
    · cases hv
    · cases hv; exact ⟨rfl, rfl⟩
  | [], last, left, ld, k + 1, d, v, hd, hv => by
    rw [List.take_nil] at hv
    unfold driveL at hd hv
    split at hv
    · cases hv
    · split at hd
      · cases hd
      · cases hv; cases hd; exact ⟨rfl, rfl⟩
  | s :: l, last, left, ld, k + 1, d, v, hd, hv => by
    rw [List.take_succ_cons] at hv
    unfold driveL at hd hv
    rw [h.begun, (h.at_ s).1, (h.at_ s).2.2] at hv
    split at hv
    · cases hv
    · split at hd
      · cases hd
      · rw [Option.map_eq_some_iff] at hd hv
        obtain ⟨a, h4, rfl⟩ := hd
        obtain ⟨b, h5, rfl⟩ := hv
        obtain ⟨e1, e2⟩ := drive_take h h4 h5
        simp only [Drive.more, List.cons_append, List.nil_append, List.take_succ_cons, e1, e2]
        exact ⟨trivial, trivial⟩
theorem eval_roomy {i j : Prob} {c : Int} (h : Alike i j) (hl : j.cars.length = i.cars.length) (hp : i.pairs = []) (hq : j.pairs = []) (hc : ∀ x, (stopAt i x).c ≤ (stopAt j x).c) (h1 : (carAt i c).c ≤ (carAt j c).c) (h2 : (carAt i c).e ≤ (carAt j c).e) (h3 : (carAt j c).s = (carAt i c).s) {l : List Int} {t : TripR}
    (ht : evalL i c l = some t) : evalL j c l = some t := by
  unfold evalL at ht ⊢
  rw [hl, h.there, hq, ← hp, h.cost, h3]
  split at ht
  · next hcond =>
    rw [if_pos hcond]
    rw [Option.map_eq_some_iff] at ht ⊢
    obtain ⟨d, h4, h5⟩ := ht
    exact ⟨d, drive_roomy h hc h1 h2 h4, h5⟩
  · cases ht
theorem eval_take {i j : Prob} {c : Int} (h : Alike i j) (h3 : (carAt j c).s = (carAt i c).s) {l : List Int} {k : Nat} {t v : TripR} (ht : evalL i c l = some t) (hv : evalL j c (l.take k) = some v) : v.arr = t.arr.take k ∧ v.load = t.load.take k := by
  unfold evalL at ht hv
  rw [h3] at hv
  split at ht
  · split at hv
    · rw [Option.map_eq_some_iff] at ht hv
      obtain ⟨d, h4, rfl⟩ := ht
      obtain ⟨e, h5, rfl⟩ := hv
      exact drive_take h h4 h5
    · cases hv
  · cases ht
theorem eval_len {i : Prob} {c : Int} {l : List Int} {t : TripR} (ht : evalL i c l = some t) : t.arr.length = l.length ∧ t.load.length = l.length := by
  unfold evalL at ht
  split at ht
  · rw [Option.map_eq_some_iff] at ht
    obtain ⟨d, h4, rfl⟩ := ht
    exact drive_len h4
  · cases ht

def setCap (cs : List Car) (k : Nat) (u : Int) : List Car := cs.modify k fun x => { x with c := u }
def setEnd (cs : List Car) (k : Nat) (u : Int) : List Car := cs.modify k fun x => { x with e := u }
def setClose (st : List Stop) (k : Nat) (u : Int) : List Stop := st.modify k fun x => { x with c := u }
theorem carCells_len (st : List Car) : (carCells st).length = st.length * 3 := by
  induction st with
  | nil => rfl
  | cons x l ih => simp only [carCells, List.flatMap_cons, List.length_append, List.length_cons] at ih ⊢; rw [ih]; simp [ints, carNums]; omega
theorem carCells_cap : ∀ (st : List Car) (k : Nat) (d : Int), k < st.length → carCells (setCap st k d) = (carCells st).set (k * 3) (.int .i64 d)
  | x :: l, 0, d, _ => by simp [carCells, setCap, ints, carNums]
  | x :: l, k + 1, d, h => by
    have := carCells_cap l k d (by simpa using h)
    simp only [carCells, setCap, List.modify_succ_cons, List.flatMap_cons] at this ⊢
    rw [this, List.set_append, if_neg (by simp [ints, carNums]; omega)]
    congr 2
    simp [ints, carNums]; omega
theorem carCells_end : ∀ (st : List Car) (k : Nat) (d : Int), k < st.length → carCells (setEnd st k d) = (carCells st).set (k * 3 + 2) (.int .i64 d)
  | x :: l, 0, d, _ => by simp [carCells, setEnd, ints, carNums]
  | x :: l, k + 1, d, h => by
    have := carCells_end l k d (by simpa using h)
    simp only [carCells, setEnd, List.modify_succ_cons, List.flatMap_cons] at this ⊢
    rw [this, List.set_append, if_neg (by simp [ints, carNums]; omega)]
    congr 2
    simp [ints, carNums]; omega
theorem stopCells_close : ∀ (st : List Stop) (k : Nat) (d : Int), k < st.length → stopCells (setClose st k d) = (stopCells st).set (k * 4 + 2) (.int .i64 d)
  | x :: l, 0, d, _ => by simp [stopCells, setClose, ints, stopNums]
  | x :: l, k + 1, d, h => by
    have := stopCells_close l k d (by simpa using h)
    simp only [stopCells, setClose, List.modify_succ_cons, List.flatMap_cons] at this ⊢
    rw [this, List.set_append, if_neg (by simp [ints, stopNums]; omega)]
    congr 2
    simp [ints, stopNums]; omega
theorem carCells_at : ∀ (st : List Car) (k : Nat) (h : k < st.length), (carCells st)[k * 3]? = some (.int .i64 st[k].c) ∧ (carCells st)[k * 3 + 2]? = some (.int .i64 st[k].e)
  | x :: l, 0, _ => by simp [carCells, ints, carNums]
  | x :: l, k + 1, h => by
    have := carCells_at l k (by simpa using h)
    simp only [carCells, List.flatMap_cons, List.getElem_cons_succ] at this ⊢
    rw [List.getElem?_append_right (by simp [ints, carNums]; omega), List.getElem?_append_right (by simp [ints, carNums]; omega)]
    rw [show (k + 1) * 3 - (ints (carNums x)).length = k * 3 by simp [ints, carNums]; omega, show (k + 1) * 3 + 2 - (ints (carNums x)).length = k * 3 + 2 by simp [ints, carNums]; omega]
    exact this
theorem stopCells_at : ∀ (st : List Stop) (k : Nat) (h : k < st.length), (stopCells st)[k * 4 + 2]? = some (.int .i64 st[k].c)
  | x :: l, 0, _ => by simp [stopCells, ints, stopNums]
  | x :: l, k + 1, h => by
    have := stopCells_at l k (by simpa using h)
    simp only [stopCells, List.flatMap_cons, List.getElem_cons_succ] at this ⊢
    rw [List.getElem?_append_right (by simp [ints, stopNums]; omega)]
    rw [show (k + 1) * 4 + 2 - (ints (stopNums x)).length = k * 4 + 2 by simp [ints, stopNums]; omega]
    exact this
/-- cars with more room, later ends -/
def Wider (cs cs' : List Car) : Prop := cs'.length = cs.length ∧ ∀ k (h : k < cs.length) (h' : k < cs'.length), cs[k].c ≤ cs'[k].c ∧ cs'[k].c ≤ 60 ∧ cs'[k].s = cs[k].s ∧ cs[k].e ≤ cs'[k].e ∧ cs'[k].e ≤ 1000
def Later (st st' : List Stop) : Prop := st'.length = st.length ∧ ∀ k (h : k < st.length) (h' : k < st'.length), st'[k].d = st[k].d ∧ st'[k].o = st[k].o ∧ st'[k].s = st[k].s ∧ st[k].c ≤ st'[k].c ∧ st'[k].c ≤ 1000
theorem wider_refl {i : Prob} (h : Fine i) : Wider i.cars i.cars := ⟨rfl, fun k h1 _ => by have := h.carF _ (List.getElem_mem h1); omega⟩
theorem later_refl {i : Prob} (h : Fine i) : Later i.stops i.stops := ⟨rfl, fun k h1 _ => by have := h.stopF _ (List.getElem_mem h1); omega⟩
theorem Wider.cap {cs cs' : List Car} (h : Wider cs cs') {k : Nat} (hk : k < cs'.length) {u : Int} (h1 : cs'[k].c ≤ u) (h2 : u ≤ 60) : Wider cs (setCap cs' k u) := by
  refine ⟨by simp [setCap, h.1], fun m hm hm' => ?_⟩
  have h3 := h.2 m hm (by simpa [setCap] using hm')
  simp only [setCap, List.getElem_modify]
  split
  · next e => subst e; simp only; omega
  · exact h3
theorem Wider.end_ {cs cs' : List Car} (h : Wider cs cs') {k : Nat} (hk : k < cs'.length) {u : Int} (h1 : cs'[k].e ≤ u) (h2 : u ≤ 1000) : Wider cs (setEnd cs' k u) := by
  refine ⟨by simp [setEnd, h.1], fun m hm hm' => ?_⟩
  have h3 := h.2 m hm (by simpa [setEnd] using hm')
  simp only [setEnd, List.getElem_modify]
  split
  · next e => subst e; simp only; omega
  · exact h3
theorem Later.close {st st' : List Stop} (h : Later st st') {k : Nat} (hk : k < st'.length) {u : Int} (h1 : st'[k].c ≤ u) (h2 : u ≤ 1000) : Later st (setClose st' k u) := by
  refine ⟨by simp [setClose, h.1], fun m hm hm' => ?_⟩
  have h3 := h.2 m hm (by simpa [setClose] using hm')
  simp only [setClose, List.getElem_modify]
  split
  · next e => subst e; simp only; omega
  · exact h3
theorem alike_of {i : Prob} {cs : List Car} {st : List Stop} (h : Later i.stops st) : Alike { i with pairs := [] } ⟨cs, st, [], i.travel⟩ ∧ ∀ x, (stopAt { i with pairs := [] } x).c ≤ (stopAt ⟨cs, st, [], i.travel⟩ x).c := by
  have key : ∀ x, (stopAt ⟨cs, st, [], i.travel⟩ x).d = (stopAt { i with pairs := [] } x).d ∧ (stopAt ⟨cs, st, [], i.travel⟩ x).o = (stopAt { i with pairs := [] } x).o ∧ (stopAt ⟨cs, st, [], i.travel⟩ x).s = (stopAt { i with pairs := [] } x).s ∧ (stopAt { i with pairs := [] } x).c ≤ (stopAt ⟨cs, st, [], i.travel⟩ x).c := by
    intro x
    unfold stopAt
    simp only
    by_cases hx : (x - 1).toNat < i.stops.length
    · have h1 := h.2 _ hx (by rw [h.1]; exact hx)
      rw [List.getElem?_eq_getElem hx, List.getElem?_eq_getElem (by rw [h.1]; exact hx)]
      simp only [Option.getD_some]
      omega
    · have hl := h.1
      rw [List.getElem?_eq_none (by omega), List.getElem?_eq_none (by omega)]
      simp
  exact ⟨⟨rfl, h.1, fun x => ⟨(key x).1, (key x).2.1, (key x).2.2.1⟩⟩, fun x => (key x).2.2.2⟩
theorem roomy_ok {i : Prob} (hok : probOk i = true) (hs : i.stops.length ≤ 8) {cs : List Car} {st : List Stop} (hc : Wider i.cars cs) (h : Later i.stops st) : probOk ⟨cs, st, [], i.travel⟩ = true := by
  have hf := fine_of hok
  have h1 := hc.1
  have h2 := h.1
  have h3 := hf.cars
  have htr : rowsFrom (i.stops.length + 1) 0 i.travel = true := by
    simp only [probOk, travelOk, Bool.and_eq_true] at hok; exact hok.2.2
  refine probOk_made (by omega) (by omega) ?_ (by omega) ?_ rfl (by rw [h2]; exact hf.travel) (by rw [h2]; exact htr)
  · rw [List.all_eq_true]
    intro x hx
    obtain ⟨k, hk, rfl⟩ := List.getElem_of_mem hx
    have a := hc.2 k (by omega) hk
    have b := hf.carF _ (List.getElem_mem (show k < i.cars.length by omega))
    simp only [carOk, inB, Bool.and_eq_true, decide_eq_true_eq]
    omega
  · rw [List.all_eq_true]
    intro x hx
    obtain ⟨k, hk, rfl⟩ := List.getElem_of_mem hx
    have a := h.2 k (by omega) hk
    have b := hf.stopF _ (List.getElem_mem (show k < i.stops.length by omega))
    simp only [stopOk, inB, Bool.and_eq_true, decide_eq_true_eq]
    omega
theorem no_pairs_ok {i : Prob} (hok : probOk i = true) (hs : i.stops.length ≤ 8) : probOk { i with pairs := [] } = true := roomy_ok hok hs (wider_refl (fine_of hok)) (later_refl (fine_of hok))
theorem roomy_eval {i : Prob} {cs : List Car} {st : List Stop} (hc : Wider i.cars cs) (h : Later i.stops st) {c : Nat} (hcl : c < i.cars.length) {l : List Int} {t : TripR} (ht : evalL { i with pairs := [] } c l = some t) : evalL ⟨cs, st, [], i.travel⟩ c l = some t := by
  have ha := alike_of (cs := cs) h
  have h1 := hc.2 c hcl (by rw [hc.1]; exact hcl)
  have e1 : carAt { i with pairs := [] } (c : Int) = i.cars[c] := carAt_nat { i with pairs := [] } hcl
  have e2 : carAt ⟨cs, st, [], i.travel⟩ (c : Int) = cs[c]'(by rw [hc.1]; exact hcl) := carAt_nat ⟨cs, st, [], i.travel⟩ (by simp only; rw [hc.1]; exact hcl)
  refine eval_roomy ha.1 hc.1 rfl rfl ha.2 ?_ ?_ ?_ ht
  · rw [e1, e2]; omega
  · rw [e1, e2]; omega
  · rw [e1, e2]; exact h1.2.2.1
theorem begin_eval {i : Prob} {cs : List Car} {st : List Stop} (hc : Wider i.cars cs) (h : Later i.stops st) {c : Nat} (hcl : c < i.cars.length) {l : List Int} {k : Nat} {t v : TripR} (ht : evalL { i with pairs := [] } c l = some t) (hv : evalL ⟨cs, st, [], i.travel⟩ c (l.take k) = some v) : v.arr = t.arr.take k ∧ v.load = t.load.take k := by
  have ha := alike_of (cs := cs) h
  have h1 := hc.2 c hcl (by rw [hc.1]; exact hcl)
  have e1 : carAt { i with pairs := [] } (c : Int) = i.cars[c] := carAt_nat { i with pairs := [] } hcl
  have e2 : carAt ⟨cs, st, [], i.travel⟩ (c : Int) = cs[c]'(by rw [hc.1]; exact hcl) := carAt_nat ⟨cs, st, [], i.travel⟩ (by simp only; rw [hc.1]; exact hcl)
  exact eval_take ha.1 (by rw [e1, e2]; exact h1.2.2.1) ht hv

theorem Held.set_cars {W : World} {B I : Nat} {i : Prob} {vs vp vt : Value} {us : List Value} {g n cap : Nat} (h : Held W B I i (.slice (some ⟨g, 0, none⟩) n cap) vs vp vt us) (hn : n = i.cars.length) {j : Nat} {u : Value} {cs : List Car} (hl : cs.length = i.cars.length) (hc : carCells cs = (carCells i.cars).set j u) :
    Held (W.setCell ⟨g, j, none⟩ u) B I { i with cars := cs } (.slice (some ⟨g, 0, none⟩) n cap) vs vp vt us := by
  subst hn
  have hg := own_typed h.cars (g := g) rfl
  have hI := h.typedI
  have hne : g ≠ I := typed_ne hg.1 hI (by decide)
  have hs := grown_set W g j u
  have hrow : ∀ e, e ≠ 52 → ∀ q, some g = some q → ∃ t, Typed W q t ∧ t ≠ e := fun e he q hq => by
    injection hq with hq; subst hq; exact ⟨52, hg.1, he.symm⟩
  refine ⟨h.lt, by rw [Below.heap_setCell _ _ _ _ (by simpa using fun e => hne e.symm)]; exact h.box, ?_, own_keep h.stops hs (hrow _ (by decide)), own_keep h.pairs hs (hrow _ (by decide)), own_keep h.travel hs (hrow _ (by decide)), fun j hj => ?_⟩
  · have := own_set h.cars (g := g) (j := j) rfl u
    rw [← hc] at this
    simpa [hl] using this
  · obtain ⟨u, h1, h2⟩ := h.rows j hj
    exact ⟨u, h1, h2.grown hs (hrow _ (by decide))⟩
theorem Held.set_stops {W : World} {B I : Nat} {i : Prob} {vc vp vt : Value} {us : List Value} {g n cap : Nat} (h : Held W B I i vc (.slice (some ⟨g, 0, none⟩) n cap) vp vt us) (hn : n = i.stops.length) {j : Nat} {u : Value} {st : List Stop} (hl : st.length = i.stops.length) (hc : stopCells st = (stopCells i.stops).set j u) :
    Held (W.setCell ⟨g, j, none⟩ u) B I { i with stops := st } vc (.slice (some ⟨g, 0, none⟩) n cap) vp vt us := by
  subst hn
  have hg := own_typed h.stops (g := g) rfl
  have hI := h.typedI
  have hne : g ≠ I := typed_ne hg.1 hI (by decide)
  have hs := grown_set W g j u
  have hrow : ∀ e, e ≠ 48 → ∀ q, some g = some q → ∃ t, Typed W q t ∧ t ≠ e := fun e he q hq => by
    injection hq with hq; subst hq; exact ⟨48, hg.1, he.symm⟩
  refine ⟨h.lt, by rw [Below.heap_setCell _ _ _ _ (by simpa using fun e => hne e.symm)]; exact h.box, own_keep h.cars hs (hrow _ (by decide)), ?_, own_keep h.pairs hs (hrow _ (by decide)), own_keep h.travel hs (hrow _ (by decide)), fun j hj => ?_⟩
  · have := own_set h.stops (g := g) (j := j) rfl u
    rw [← hc] at this
    simpa [hl] using this
  · obtain ⟨u, h1, h2⟩ := h.rows j hj
    exact ⟨u, h1, h2.grown hs (hrow _ (by decide))⟩
theorem Lies.no_pairs {W : World} {vc vs vp vt : Value} {i : Prob} (h : Lies W (.agg #[vc, vs, vp, vt]) i) : Lies W (.agg #[vc, vs, .slice none 0 0, vt]) { i with pairs := [] } := by
  obtain ⟨a, b, c, d, e, h1, h2, _, h4⟩ := h
  injection e with e
  injection e with e
  injection e with e1 e
  injection e with e2 e
  injection e with e3 e
  injection e with e4 _
  subst e1 e2 e3 e4
  exact ⟨_, _, _, _, rfl, h1, h2, Recs.nil, h4⟩
theorem TripV.some_ {W : World} {C : Nat} {t : Option TripR} {A1 A2 : Option Addr} {n1 c1 n2 c2 : Nat} {c h : Int} {ok : Bool} (H : TripV W C t A1 n1 c1 A2 n2 c2 c h ok) {r : TripR} (ht : t = some r) : ok = true ∧ n1 = r.arr.length ∧ n2 = r.load.length ∧ c = r.cost ∧ h = r.home ∧ Recs W 1 num_ (.slice A1 r.arr.length c1) r.arr ∧ Recs W 1 num_ (.slice A2 r.load.length c2) r.load := by
  cases ok
  · have := (H.no rfl).1
    rw [ht] at this; cases this
  · obtain ⟨r', h1, h2, h3, h4, h5, _, _, h8, h9⟩ := H.yes rfl
    rw [ht] at h1; cases h1
    exact ⟨rfl, h2, h3, h4, h5, h8, h9⟩
theorem Recs.begin {W : World} {A : Option Addr} {cap : Nat} {l : List Int} (h : Recs W 1 num_ (.slice A l.length cap) l) {k : Nat} (hk : k ≤ l.length) (cap' : Nat) : Recs W 1 num_ (.slice A k cap') (l.take k) := by
  obtain ⟨A', c', e, hc⟩ := h
  injection e with e1 _ e3
  subst e1 e3
  refine ⟨A, cap', by simp [Nat.min_eq_left hk], fun m hm => ?_⟩
  have hm' : m < l.length := by simp at hm; omega
  obtain ⟨B, o, h1, h2, h3⟩ := hc m hm'
  exact ⟨B, o, h1, h2, fun j hj => by rw [List.getElem_take]; exact h3 j hj⟩
end Go.Proofs.Ytkheepedjoimmaa
