/- Plain facts of a problem that may be: its bounds, its pairs. -/
import Derived.Test.YtpccoflebfblbaaMates
namespace Go.Proofs.Ytpccoflebfblbaa

theorem pairs_in {st : List Stop} : ∀ {l : List Pair} {seen : List Int}, pairsFrom st seen l = true → ∀ p ∈ l, 1 ≤ p.a ∧ p.a ≤ st.length ∧ 1 ≤ p.b ∧ p.b ≤ st.length
  | [], _, _, p, hp => by simp at hp
  | q :: l, seen, h, p, hp => by
    simp only [pairsFrom, Bool.and_eq_true] at h
    rcases List.mem_cons.1 hp with rfl | hp
    · have h1 := h.1
      simp only [pairOk, Bool.and_eq_true, inB_iff] at h1
      omega
    · exact pairs_in h.2 p hp
theorem rows_in {size : Nat} : ∀ {l : List (List Int)} {k : Nat}, rowsFrom size k l = true → ∀ r ∈ l, r.length = size ∧ ∀ n ∈ r, 0 ≤ n ∧ n ≤ 1000
  | [], _, _, r, hr => by simp at hr
  | q :: l, k, h, r, hr => by
    simp only [rowsFrom, Bool.and_eq_true] at h
    rcases List.mem_cons.1 hr with rfl | hr
    · have h1 := h.1
      simp only [rowOk, Bool.and_eq_true, decide_eq_true_eq, List.all_eq_true, inB_iff] at h1
      exact ⟨h1.1.1, fun n hn => h1.2 n hn⟩
    · exact rows_in h.2 r hr
/-- what a problem that may be has -/
structure Fine (i : Prob) : Prop where
  cars : 1 ≤ i.cars.length ∧ i.cars.length ≤ 3
  stops : i.stops.length ≤ 10
  travel : i.travel.length = i.stops.length + 1
  carF : ∀ c ∈ i.cars, 0 ≤ c.c ∧ c.c ≤ 60 ∧ 0 ≤ c.s ∧ c.s ≤ c.e ∧ c.e ≤ 1000
  stopF : ∀ c ∈ i.stops, -20 ≤ c.d ∧ c.d ≤ 20 ∧ 0 ≤ c.s ∧ c.s ≤ 1000 ∧ 0 ≤ c.o ∧ c.o ≤ c.c ∧ c.c ≤ 1000
  pairF : ∀ p ∈ i.pairs, 1 ≤ p.a ∧ p.a ≤ i.stops.length ∧ 1 ≤ p.b ∧ p.b ≤ i.stops.length
  rowF : ∀ c ∈ i.travel, ∀ n ∈ c, 0 ≤ n ∧ n ≤ 1000
  rowL : ∀ c ∈ i.travel, c.length = i.stops.length + 1
theorem fine_of {i : Prob} (h : probOk i = true) : Fine i := by
  simp only [probOk, carsOk, stopsOk, travelOk, Bool.and_eq_true, decide_eq_true_eq, inB_iff, List.all_eq_true] at h
  obtain ⟨⟨⟨⟨h1, h2⟩, h3, h4⟩, h5⟩, h6, h7⟩ := h
  refine ⟨by omega, h3, h6, fun c hc => ?_, fun c hc => ?_, pairs_in h5, fun c hc n hn => (rows_in h7 c hc).2 n hn, fun c hc => (rows_in h7 c hc).1⟩
  · have := h2 c hc
    simp only [carOk, Bool.and_eq_true, inB_iff, decide_eq_true_eq] at this
    omega
  · have := h4 c hc
    simp only [stopOk, Bool.and_eq_true, inB_iff, decide_eq_true_eq] at this
    omega
/-- all that pairs name -/
def flatP : List Pair → List Int
  | [] => []
  | p :: l => p.a :: p.b :: flatP l
theorem flatP_len : ∀ l : List Pair, (flatP l).length = 2 * l.length
  | [] => rfl
  | p :: l => by simp only [flatP, List.length_cons, flatP_len l]; omega
theorem flat_of {st : List Stop} : ∀ {l : List Pair} {seen : List Int}, pairsFrom st seen l = true → (flatP l).Nodup ∧ ∀ x ∈ flatP l, x ∉ seen ∧ 1 ≤ x ∧ x ≤ st.length
  | [], _, _ => ⟨List.nodup_nil, fun x hx => by simp [flatP] at hx⟩
  | p :: l, seen, h => by
    simp only [pairsFrom, Bool.and_eq_true] at h
    obtain ⟨g1, g2⟩ := flat_of h.2
    have h1 := h.1
    simp only [pairOk, Bool.and_eq_true, inB_iff, Bool.not_eq_true', List.contains_eq_mem, decide_eq_false_iff_not] at h1
    obtain ⟨⟨⟨ha, ha2⟩, hb, hb2⟩, _⟩ := h1
    refine ⟨?_, fun x hx => ?_⟩
    · simp only [flatP, List.nodup_cons, List.mem_cons]
      refine ⟨fun e => ?_, fun e => (g2 _ e).1 (by simp), g1⟩
      rcases e with e | e
      · exact hb2 (by simp [e])
      · exact (g2 _ e).1 (by simp)
    · simp only [flatP, List.mem_cons] at hx
      rcases hx with rfl | rfl | hx
      · exact ⟨ha2, ha⟩
      · exact ⟨fun e => hb2 (by simp [e]), hb⟩
      · obtain ⟨q1, q2⟩ := g2 x hx
        exact ⟨fun e => q1 (by simp [e]), q2⟩
theorem mate_out {x : Int} : ∀ {l : List Pair}, x ∉ flatP l → mateL x l = 0 ∧ firstL x l = false
  | [], _ => ⟨rfl, rfl⟩
  | p :: l, h => by
    simp only [flatP, List.mem_cons, not_or] at h
    obtain ⟨h1, h2⟩ := mate_out h.2.2
    have e1 : ¬ p.a = x := fun e => h.1 e.symm
    have e2 : ¬ p.b = x := fun e => h.2.1 e.symm
    simp only [mateL, firstL, e1, e2, if_false, h1, h2, and_self]
theorem mate_in {x : Int} : ∀ {l : List Pair}, (flatP l).Nodup → x ∈ flatP l → ∃ y ∈ flatP l, mateL x l = y ∧ mateL y l = x ∧ y ≠ x ∧ firstL x l ≠ firstL y l
  | [], _, h => by simp [flatP] at h
  | p :: l, hn, h => by
    simp only [flatP, List.nodup_cons, List.mem_cons, not_or] at hn h
    obtain ⟨⟨h1, h2⟩, h3, h4⟩ := hn
    have h1' : ¬ p.b = p.a := fun e => h1 e.symm
    rcases h with rfl | rfl | h
    · exact ⟨p.b, by simp [flatP], by simp [mateL], by simp [mateL, h1], h1', by simp [firstL, h1, (mate_out h3).2]⟩
    · exact ⟨p.a, by simp [flatP], by simp [mateL, h1], by simp [mateL], h1, by simp [firstL, h1, (mate_out h3).2]⟩
    · obtain ⟨y, hy, e1, e2, e3, e4⟩ := mate_in h4 h
      have x1 : ¬ p.a = x := fun e => h2 (e ▸ h)
      have x2 : ¬ p.b = x := fun e => h3 (e ▸ h)
      have y1 : ¬ p.a = y := fun e => h2 (e ▸ hy)
      have y2 : ¬ p.b = y := fun e => h3 (e ▸ hy)
      exact ⟨y, by simp [flatP, hy], by simp [mateL, x1, x2, e1], by simp [mateL, y1, y2, e2], e3, by simpa [firstL, x1, y1] using e4⟩
end Go.Proofs.Ytpccoflebfblbaa
