/- A problem in a variable: one way, one stop, one car of it. -/
import Derived.Test.YtkheepedjoimmaaTripRow
namespace Go.Proofs.Ytkheepedjoimmaa
open Go.RowKit

theorem said_trav {W : World} {A1 A2 A3 A4 : Option Addr} {c1 c2 c3 c4 : Nat} {i : Prob} (h : Said W A1 A2 A3 A4 c1 c2 c3 c4 i) : Trav W (.slice A4 i.travel.length c4) i.travel := by
  obtain ⟨a, b, c, d, e, _, _, _, hT⟩ := h
  injection e with e
  injection e with e
  injection e with _ e
  injection e with _ e
  injection e with _ e
  injection e with e _
  rw [e]
  exact hT
theorem said_way {W : World} {A1 A2 A3 A4 : Option Addr} {c1 c2 c3 c4 : Nat} {i : Prob} (h : Said W A1 A2 A3 A4 c1 c2 c3 c4 i) (hf : Fine i) {a b : Nat} (ha : a ≤ i.stops.length) (hb : b ≤ i.stops.length) :
    ∃ B o cap2 B2 o2, A4 = some ⟨B, o, none⟩ ∧ B < W.heap.size ∧ W.cell? ⟨B, o + a, none⟩ = some (.slice (some ⟨B2, o2, none⟩) (i.stops.length + 1) cap2) ∧ B2 < W.heap.size ∧ W.cell? ⟨B2, o2 + b, none⟩ = some (.int .i64 (way i a b)) := by
  obtain ⟨A, cap, B, o, X2, cap2, B2, o2, e, rfl, hB, h1, rfl, hB2, h2⟩ := (said_trav h).way hf ha hb
  injection e with e _ _
  exact ⟨B, o, cap2, B2, o2, e, hB, h1, hB2, h2⟩
theorem said_stop {W : World} {A1 A2 A3 A4 : Option Addr} {c1 c2 c3 c4 : Nat} {i : Prob} (h : Said W A1 A2 A3 A4 c1 c2 c3 c4 i) {q : Nat} (hq : q < i.stops.length) : ∃ B o, A2 = some ⟨B, o, none⟩ ∧ B < W.heap.size ∧
    W.cell? ⟨B, o + q * 4, none⟩ = some (.int .i64 (stopAt i ((q : Int) + 1)).d) ∧ W.cell? ⟨B, o + q * 4 + 1, none⟩ = some (.int .i64 (stopAt i ((q : Int) + 1)).o) ∧
    W.cell? ⟨B, o + q * 4 + 2, none⟩ = some (.int .i64 (stopAt i ((q : Int) + 1)).c) ∧ W.cell? ⟨B, o + q * 4 + 3, none⟩ = some (.int .i64 (stopAt i ((q : Int) + 1)).s) := by
  obtain ⟨A, cap, B, o, e, rfl, hB, h1⟩ := Lies.stop h hq
  injection e with e _ _
  exact ⟨B, o, e, hB, h1⟩
theorem said_car {W : World} {A1 A2 A3 A4 : Option Addr} {c1 c2 c3 c4 : Nat} {i : Prob} (h : Said W A1 A2 A3 A4 c1 c2 c3 c4 i) {q : Nat} (hq : q < i.cars.length) : ∃ B o, A1 = some ⟨B, o, none⟩ ∧ B < W.heap.size ∧
    W.cell? ⟨B, o + q * 3, none⟩ = some (.int .i64 (carAt i (q : Int)).c) ∧ W.cell? ⟨B, o + q * 3 + 1, none⟩ = some (.int .i64 (carAt i (q : Int)).s) ∧ W.cell? ⟨B, o + q * 3 + 2, none⟩ = some (.int .i64 (carAt i (q : Int)).e) := by
  obtain ⟨A, cap, B, o, e, rfl, hB, h1⟩ := Lies.car h hq
  injection e with e _ _
  exact ⟨B, o, e, hB, h1⟩
theorem said_pair {W : World} {A1 A2 A3 A4 : Option Addr} {c1 c2 c3 c4 : Nat} {i : Prob} (h : Said W A1 A2 A3 A4 c1 c2 c3 c4 i) {q : Nat} (hq : q < i.pairs.length) : ∃ B o, A3 = some ⟨B, o, none⟩ ∧ B < W.heap.size ∧
    W.cell? ⟨B, o + q * 2, none⟩ = some (.int .i64 i.pairs[q].a) ∧ W.cell? ⟨B, o + q * 2 + 1, none⟩ = some (.int .i64 i.pairs[q].b) := by
  obtain ⟨a, b, c, d, e, _, _, ⟨A, cap, hv, hP⟩, _⟩ := h
  injection e with e
  injection e with e
  injection e with _ e
  injection e with _ e
  injection e with e _
  obtain ⟨B, o, rfl, hB, hc⟩ := hP q hq
  rw [hv] at e
  injection e with e _ _
  exact ⟨B, o, e, hB, hc 0 (by omega), hc 1 (by omega)⟩
end Go.Proofs.Ytkheepedjoimmaa
