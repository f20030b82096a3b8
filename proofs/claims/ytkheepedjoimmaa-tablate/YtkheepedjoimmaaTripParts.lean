/- trip.allThere, noneTwice, allTravel: what they answer of a problem in memory. -/
import Derived.Test.YtkheepedjoimmaaTripPlain
namespace Go.Proofs.Ytkheepedjoimmaa
open Go.RowKit
set_option linter.unusedSimpArgs false

/-- one cell of a table of ways -/
theorem Trav.way {W : World} {v : Value} {i : Prob} (h : Trav W v i.travel) (hf : Fine i) {a b : Nat} (ha : a ≤ i.stops.length) (hb : b ≤ i.stops.length) :
    ∃ A cap B o A2 cap2 B2 o2, v = .slice A (i.stops.length + 1) cap ∧ A = some ⟨B, o, none⟩ ∧ B < W.heap.size ∧ W.cell? ⟨B, o + a, none⟩ = some (.slice A2 (i.stops.length + 1) cap2) ∧ A2 = some ⟨B2, o2, none⟩ ∧ B2 < W.heap.size ∧ W.cell? ⟨B2, o2 + b, none⟩ = some (.int .i64 (way i a b)) := by
  obtain ⟨A, cap, rfl, hc⟩ := h
  have hl := hf.travel
  obtain ⟨B, o, u, rfl, hB, hu, hr⟩ := hc a (by omega)
  have hrl := hf.rowL i.travel[a] (List.getElem_mem _)
  obtain ⟨A2, cap2, rfl, hc2⟩ := hr.num
  obtain ⟨B2, o2, rfl, hB2, hcell⟩ := hc2 b (by omega)
  refine ⟨_, cap, B, o, _, cap2, B2, o2, by rw [hl], rfl, hB, by rw [← hrl]; exact hu, rfl, hB2, ?_⟩
  rw [way_nat i (by omega) (by omega)]
  exact hcell

end Go.Proofs.Ytkheepedjoimmaa
