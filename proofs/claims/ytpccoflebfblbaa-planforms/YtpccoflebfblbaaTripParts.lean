/- trip.allThere, noneTwice, allTravel: what they answer of a problem in memory. -/
import Derived.Test.YtpccoflebfblbaaTripPlain
namespace Go.Proofs.Ytpccoflebfblbaa
open Go.RowKit
set_option linter.unusedSimpArgs false

set_option maxRecDepth 100000 in
set_option maxHeartbeats 2000000 in
theorem there_any (v u : Value) (i : Prob) (l : List Int) (w : World) (h : Lies w v i) (hr : Recs w 1 num_ u l) (hl : l.length ≤ 1099511627776) (hs : i.stops.length ≤ 1099511627776) :
    Calls Try.prog 57 #[v, u] w fun e w' => e = .returned (.bool (thereB i l)) ∧ Below w.heap.size w w' := by
  obtain ⟨vc, vs, vp, vt, rfl, _, ⟨A1, c1, rfl, _⟩, _, _⟩ := h
  obtain ⟨A, cap, rfl, hc⟩ := hr.num
  have HC := Lib.hid hc
  clear hc hr
  unfold thereB
  go_enter Try.func57, Try.ntmps57
  go_wp2
  go_loopw [9] (fun c wr => ∃ k : Nat, k ≤ l.length ∧ c = .int .i64 k ∧ (l.all fun s => inB s 1 i.stops.length) = ((l.drop k).all fun s => inB s 1 i.stops.length) ∧ Below w.heap.size w wr ∧ wr.cell? ⟨w.heap.size, 1, none⟩ = some (.slice A1 i.stops.length c1) ∧ w.heap.size < wr.heap.size) (fun c _ => l.length - (intOf c).toNat)
  case atStart => exact ⟨0, Nat.zero_le _, rfl, rfl, (Below.refl _ _).alloc (Nat.le_refl _) _, by simp, by simp⟩
  case round =>
    obtain ⟨k, hk, rfl, he, hb, hx, hz⟩ := hrel
    have HX := Lib.hid hx
    by_cases hlt : k < l.length
    · obtain ⟨B, o, rfl, hB, hcell⟩ := HC.out k hlt
      rw [all_drop hlt] at he
      have c0 : wr.cell? ⟨B, o + k, none⟩ = some (.int .i64 l[k]) := by rw [hb.cell hB]; exact hcell
      have HE := Lib.hid he
      have HB := Lib.hid hb
      clear he hb hcell
      generalize l[k] = s at *
      rcases (show (s < 1 ∧ inB s 1 i.stops.length = false) ∨ (1 ≤ s ∧ (i.stops.length : Int) < s ∧ inB s 1 i.stops.length = false) ∨ (1 ≤ s ∧ s ≤ (i.stops.length : Int) ∧ inB s 1 i.stops.length = true) by
        rw [inB_no, inB_iff]; omega) with ⟨h1, h2⟩ | ⟨h1, h2, h3⟩ | ⟨h1, h2, h3⟩
      · have HT := Lib.hid h2
        clear h2
        go_wp2
        go_ret
        exact ⟨ret_bb (by rw [HE.out, HT.out]; rfl), HB.out⟩
      · have HT := Lib.hid h3
        clear h3
        go_wp2
        go_ret
        exact ⟨ret_bb (by rw [HE.out, HT.out]; rfl), HB.out⟩
      · have HT := Lib.hid h3
        clear h3
        go_wp2
        go_roundw
        case rel => exact ⟨k + 1, by omega, by go_num, by rw [HE.out, HT.out]; rfl, HB.out, HX.out, hz⟩
        case measure => simp [intOf]; omega
    · have : l.drop k = [] := List.drop_eq_nil_of_le (by omega)
      rw [this] at he
      have HE := Lib.hid he
      have HB := Lib.hid hb
      clear he hb this
      go_wp2
      go_ret
      exact ⟨ret_bb (by rw [HE.out]; rfl), HB.out⟩

/-- one cell of a table of ways -/
theorem Trav.way {W : World} {v : Value} {i : Prob} (h : Trav W v i.travel) (hf : Fine i) {a b : Nat} (ha : a ≤ i.stops.length) (hb : b ≤ i.stops.length) :
    ∃ A cap B o A2 cap2 B2 o2, v = .slice A (i.stops.length + 1) cap ∧ A = some ⟨B, o, none⟩ ∧ B < W.heap.size ∧ W.cell? ⟨B, o + a, none⟩ = some (.slice A2 (i.stops.length + 1) cap2) ∧ A2 = some ⟨B2, o2, none⟩ ∧ B2 < W.heap.size ∧ W.cell? ⟨B2, o2 + b, none⟩ = some (.int .i64 (way i a b)) := by
  obtain ⟨A, cap, rfl, hc⟩ := h
  have hl := hf.travel
  obtain ⟨B, o, u, rfl, hB, hu, hr⟩ := hc a (by omega)
  have hrl := hf.rowL i.travel[a] (List.getElem_mem _)
  obtain ⟨A2, cap2, rfl, hc2⟩ := hr.num
  obtain ⟨B2, o2, rfl, hB2, hcell⟩ := hc2 b (by omega)
  refine ⟨_, cap, B, o, _, cap2, B2, o2, by rw [hl], rfl, hB, by rw [← hrl]; exact hu, rfl, hB2, ?_⟩
  rw [way_nat i (by omega) (by omega)]
  exact hcell

set_option maxRecDepth 100000 in
set_option maxHeartbeats 2000000 in
theorem travel_sum (v u : Value) (i : Prob) (l : List Int) (w : World) (h : Lies w v i) (hf : Fine i) (hr : Recs w 1 num_ u l) (hl : l.length ≤ 1000000) (ht : thereB i l = true) :
    Calls Try.prog 58 #[v, u] w fun e w' => e = .returned (.int .i64 (costL i 0 l)) ∧ Below w.heap.size w w' := by
  obtain ⟨vc, vs, vp, vt, rfl, _, _, _, hT⟩ := h
  obtain ⟨A, cap, rfl, hc⟩ := hr.num
  have HC := Lib.hid hc
  have HT := Lib.hid ht
  have HTR := Lib.hid hT
  have HF := Lib.hid hf
  have hst := hf.stops
  clear hc hr ht hT hf
  go_enter Try.func58, Try.ntmps58
  go_wp2
  go_loopw [5, 6, 11] (fun sv lv c wr => ∃ (k q : Nat) (sum : Int), k ≤ l.length ∧ q ≤ i.stops.length ∧ sv = .int .i64 sum ∧ lv = .int .i64 q ∧ c = .int .i64 k ∧ costL i 0 l = sum + costL i q (l.drop k) ∧ 0 ≤ sum ∧ sum ≤ 1000 * (k : Int) ∧ Below w.heap.size w wr ∧ wr.cell? ⟨w.heap.size, 3, none⟩ = some vt ∧ w.heap.size < wr.heap.size) (fun _ _ c _ => l.length - (intOf c).toNat)
  case atStart => exact ⟨0, 0, 0, Nat.zero_le _, Nat.zero_le _, rfl, rfl, rfl, by simp, by omega, by omega, (Below.refl _ _).alloc (Nat.le_refl _) _, by simp, by simp⟩
  case round =>
    obtain ⟨k, q, sum, hk, hq, rfl, rfl, rfl, he, hs0, hs1, hb, hx, hz⟩ := hrel
    have HX := Lib.hid hx
    by_cases hlt : k < l.length
    · obtain ⟨B, o, rfl, hB, hcell⟩ := HC.out k hlt
      rw [costL_drop hlt] at he
      have c0 : wr.cell? ⟨B, o + k, none⟩ = some (.int .i64 l[k]) := by rw [hb.cell hB]; exact hcell
      obtain ⟨p, hp, hpe⟩ := thereB_at HT.out hlt
      rw [hpe] at c0 he
      have hwb := way_bounds HF.out (q : Int) ((p : Int) + 1)
      obtain ⟨A1, c1, B1, o1, A2, c2, B2, o2, rfl, rfl, hB1, d1, rfl, hB2, d2⟩ := (HTR.out.below hb).way HF.out (a := q) (b := p + 1) hq (by omega)
      rw [show ((p + 1 : Nat) : Int) = (p : Int) + 1 by omega] at d2
      have HE := Lib.hid he
      have HB := Lib.hid hb
      clear he hb hcell hpe
      generalize way i (q : Int) ((p : Int) + 1) = y at *
      go_wp2
      go_roundw
      case rel => exact ⟨k + 1, p + 1, sum + y, by omega, by omega, by go_num, by go_num, by go_num, by rw [HE.out]; simp only [Int.natCast_add, Int.natCast_one]; omega, by omega, by omega, HB.out, HX.out, hz⟩
      case measure => simp [intOf]; omega
    · have : l.drop k = [] := List.drop_eq_nil_of_le (by omega)
      rw [this] at he
      have hwb := way_bounds HF.out (q : Int) 0
      obtain ⟨A1, c1, B1, o1, A2, c2, B2, o2, rfl, rfl, hB1, d1, rfl, hB2, d2⟩ := (HTR.out.below hb).way HF.out (a := q) (b := 0) hq (by omega)
      have HE := Lib.hid he
      have HB := Lib.hid hb
      clear he hb this
      simp only [Int.natCast_zero, Nat.add_zero] at d2
      simp only [costL] at HE
      generalize way i (q : Int) 0 = y at *
      go_wp2
      go_ret
      exact ⟨ret_i (by rw [HE.out]), HB.out⟩
end Go.Proofs.Ytpccoflebfblbaa
