/- Plain facts, no Go: the text of a problem. -/
import Derived.Test.YteibelmgebhleaaDoorLines
namespace Go.Proofs.YteibelmgebhleaaDoor

def carNums (c : Car) : List Int := [c.c, c.s, c.e]
def stopNums (c : Stop) : List Int := [c.d, c.o, c.c, c.s]
def pairNums (c : Pair) : List Int := [c.a, c.b]
def carsText (l : List Car) : List UInt8 := l.flatMap fun c => lineText 0 (carNums c)
def stopsText (l : List Stop) : List UInt8 := l.flatMap fun c => lineText 1 (stopNums c)
def pairsText (l : List Pair) : List UInt8 := l.flatMap fun c => lineText 2 (pairNums c)
def rowsText (l : List (List Int)) : List UInt8 := l.flatMap fun c => lineText 3 c
def probText (i : Prob) : List UInt8 := carsText i.cars ++ (stopsText i.stops ++ (pairsText i.pairs ++ rowsText i.travel))
theorem flat_snoc {α : Type} (f : α → List UInt8) (l : List α) {k : Nat} (h : k < l.length) : (l.take (k + 1)).flatMap f = (l.take k).flatMap f ++ f l[k] := by
  rw [List.take_succ_eq_append_getElem h, List.flatMap_append, List.flatMap_singleton]
theorem flat_len {α : Type} {f : α → List UInt8} {M : Nat} : ∀ {l : List α}, (∀ x ∈ l, (f x).length ≤ M) → (l.flatMap f).length ≤ M * l.length
  | [], _ => by simp
  | x :: l, h => by
    have h1 := flat_len (l := l) (f := f) (M := M) (fun y hy => h y (by simp [hy]))
    have h2 := h x (by simp)
    simp only [List.flatMap_cons, List.length_append, List.length_cons]
    rw [Nat.mul_succ]; omega
theorem line_len {k : Nat} {ns : List Int} (h : ∀ n ∈ ns, Fit n) : (lineText k ns).length ≤ 22 * ns.length + 5 := by
  have h1 := nameL_len k
  have h2 := numsL_len h
  simp only [lineText, List.length_append, List.length_cons, List.length_nil]; omega
theorem fit_small {n : Int} (h1 : -1000 ≤ n) (h2 : n ≤ 1000) : Fit n := ⟨by omega, by omega⟩
theorem car_fit {c : Car} (h : carOk c = true) : ∀ n ∈ carNums c, Fit n := by
  simp only [carOk, Bool.and_eq_true, inB_iff, decide_eq_true_eq] at h
  intro n hn
  simp only [carNums, List.mem_cons, List.not_mem_nil, or_false] at hn
  rcases hn with rfl | rfl | rfl <;> exact fit_small (by omega) (by omega)
theorem stop_fit {c : Stop} (h : stopOk c = true) : ∀ n ∈ stopNums c, Fit n := by
  simp only [stopOk, Bool.and_eq_true, inB_iff, decide_eq_true_eq] at h
  intro n hn
  simp only [stopNums, List.mem_cons, List.not_mem_nil, or_false] at hn
  rcases hn with rfl | rfl | rfl | rfl <;> exact fit_small (by omega) (by omega)
theorem pairs_in {st : List Stop} : ∀ {l : List Pair} {seen : List Int}, pairsFrom st seen l = true → ∀ p ∈ l, 1 ≤ p.a ∧ p.a ≤ st.length ∧ 1 ≤ p.b ∧ p.b ≤ st.length
  | [], _, _, p, hp => by simp at hp
  | q :: l, seen, h, p, hp => by
    simp only [pairsFrom, Bool.and_eq_true] at h
    rcases List.mem_cons.1 hp with rfl | hp
    · have h1 := h.1
      simp only [pairOk, Bool.and_eq_true, inB_iff] at h1
      omega
    · exact pairs_in h.2 p hp
theorem rows_in {size : Nat} : ∀ {l : List (List Int)} {k : Nat}, rowsFrom size k l = true → ∀ r ∈ l, r.length = size ∧ ∀ n ∈ r, 0 ≤ n ∧ n ≤ 1000
  | [], _, _, r, hr => by simp at hr
  | q :: l, k, h, r, hr => by
    simp only [rowsFrom, Bool.and_eq_true] at h
    rcases List.mem_cons.1 hr with rfl | hr
    · have h1 := h.1
      simp only [rowOk, Bool.and_eq_true, decide_eq_true_eq, List.all_eq_true, inB_iff] at h1
      exact ⟨h1.1.1, fun n hn => h1.2 n hn⟩
    · exact rows_in h.2 r hr
/-- what a problem that may be has -/
structure Fine (i : Prob) : Prop where
  cars : 1 ≤ i.cars.length ∧ i.cars.length ≤ 3
  stops : i.stops.length ≤ 10
  travel : i.travel.length = i.stops.length + 1
  carF : ∀ c ∈ i.cars, ∀ n ∈ carNums c, Fit n
  stopF : ∀ c ∈ i.stops, ∀ n ∈ stopNums c, Fit n
  pairF : ∀ c ∈ i.pairs, ∀ n ∈ pairNums c, Fit n
  rowF : ∀ c ∈ i.travel, ∀ n ∈ c, Fit n
  rowL : ∀ c ∈ i.travel, c.length = i.stops.length + 1
theorem fine_of {i : Prob} (h : probOk i = true) : Fine i := by
  simp only [probOk, carsOk, stopsOk, travelOk, Bool.and_eq_true, decide_eq_true_eq, inB_iff, List.all_eq_true] at h
  obtain ⟨⟨⟨⟨h1, h2⟩, h3, h4⟩, h5⟩, h6, h7⟩ := h
  refine ⟨by omega, h3, h6, fun c hc => car_fit (h2 c hc), fun c hc => stop_fit (h4 c hc), fun c hc n hn => ?_, fun c hc n hn => ?_, fun c hc => (rows_in h7 c hc).1⟩
  · have := pairs_in h5 c hc
    simp only [pairNums, List.mem_cons, List.not_mem_nil, or_false] at hn
    rcases hn with rfl | rfl <;> exact fit_small (by omega) (by omega)
  · have := (rows_in h7 c hc).2 n hn
    exact fit_small (by omega) (by omega)
theorem Fine.lenC {i : Prob} (h : Fine i) (k : Nat) : (carsText (i.cars.take k)).length ≤ 213 := by
  have h1 : (carsText (i.cars.take k)).length ≤ 71 * (i.cars.take k).length := flat_len fun x hx => by
    have := line_len (k := 0) (h.carF x (List.mem_of_mem_take hx)); simpa [carNums] using this
  have h2 : (i.cars.take k).length ≤ 3 := by have := h.cars; simp; omega
  omega
theorem Fine.lenS {i : Prob} (h : Fine i) (k : Nat) : (stopsText (i.stops.take k)).length ≤ 930 := by
  have h1 : (stopsText (i.stops.take k)).length ≤ 93 * (i.stops.take k).length := flat_len fun x hx => by
    have := line_len (k := 1) (h.stopF x (List.mem_of_mem_take hx)); simpa [stopNums] using this
  have h2 : (i.stops.take k).length ≤ 10 := by have := h.stops; simp; omega
  omega
theorem Fine.lenP {i : Prob} (h : Fine i) (k : Nat) (hp : i.pairs.length ≤ 1000000) : (pairsText (i.pairs.take k)).length ≤ 49000000 := by
  have h1 : (pairsText (i.pairs.take k)).length ≤ 49 * (i.pairs.take k).length := flat_len fun x hx => by
    have := line_len (k := 2) (h.pairF x (List.mem_of_mem_take hx)); simpa [pairNums] using this
  have h2 : (i.pairs.take k).length ≤ 1000000 := by simp; omega
  omega
theorem Fine.lenR {i : Prob} (h : Fine i) (k : Nat) : (rowsText (i.travel.take k)).length ≤ 2717 := by
  have h1 : (rowsText (i.travel.take k)).length ≤ 247 * (i.travel.take k).length := flat_len fun x hx => by
    have h3 := line_len (k := 3) (h.rowF x (List.mem_of_mem_take hx))
    have h4 := h.rowL x (List.mem_of_mem_take hx)
    have := h.stops
    omega
  have h2 : (i.travel.take k).length ≤ 11 := by have := h.travel; have := h.stops; simp; omega
  omega
end Go.Proofs.YteibelmgebhleaaDoor
