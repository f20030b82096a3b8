/- inst.Print: the text of a problem that may be; else nothing and the error. -/
import Derived.Test.YteibelmgebhleaaDoorPrintPlain
import Derived.Test.YteibelmgebhleaaDoorInstChk
import Derived.Test.YteibelmgebhleaaDoorBlk
namespace Go.Proofs.YteibelmgebhleaaDoor
open Go.RowKit

theorem stay_new {B b k : Nat} {w : World} {l : List Int} {t : TypeId} {fz : Nat × Nat} (h : w.heap[k]? = some (.cells (ints l).toArray t fz)) (ht : t ≠ 5) (hk : k ≠ b) (cap : Nat) : Stay B b w (.slice (some ⟨k, 0, none⟩) l.length cap) l := by
  intro w' _ hk'
  have h1 := hk' k _ h (by simpa using hk) (fun c f e => by injection e with _ e2 _; exact ht e2)
  have hlt : k < w'.heap.size := (Array.getElem?_eq_some_iff.1 h1).1
  refine ⟨_, _, rfl, fun j hj => ⟨k, 0, rfl, hlt, fun m hm => ?_⟩⟩
  rw [Lib.cell_of_heap h1]
  obtain rfl : m = 0 := by omega
  simp [ints, num_, hj]
theorem heap_new (w : World) (o : Obj) : (w.alloc o).heap[w.heap.size]? = some o := by unfold World.alloc; simp
theorem heap_at {w : World} {k : Nat} (o : Obj) (h : k = w.heap.size) : (w.alloc o).heap[k]? = some o := h ▸ heap_new w o
theorem isB_new (w : World) : IsB w.heap.size w.heap.size [] (w.alloc (.cells #[.pointer none, .slice none 0 0] 56)) := by
  refine .inl ⟨Nat.le_refl _, .slice none 0 0, heap_new _ _, ⟨rfl, .inl ⟨rfl, rfl⟩⟩, by simp [Value.ownBlock]⟩
theorem ret_sv {a b : ByteArray} {n : Int} (h : a = b) : Ending.returned (.tuple #[.string a, .int .i64 n]) = .returned (.tuple #[.string b, .int .i64 n]) := by rw [h]

set_option maxRecDepth 100000 in
set_option maxHeartbeats 4000000 in
theorem print_bad (v : Value) (i : Prob) (w : World) (h : Lies w v i) (hs : Short i) (hp : probOk i = false) :
    Calls Tryd.prog 7 #[v] w fun e w' => e = .returned (.tuple #[.string ⟨#[]⟩, .int .i64 1]) ∧ Below w.heap.size w w' := by
  have h' := h
  obtain ⟨vc, vs, vp, vt, rfl, _⟩ := h'
  have HL := Lib.hid h
  clear h
  go_enter Tryd.func7, Tryd.ntmps7
  go_wp2_with (go_at_call 18; fail)
  (with_reducible refine (check_bad (i := i) ?_ hs hp).mono ?_)
  · exact HL.out.below ((Below.refl _ _).alloc (Nat.le_refl _) _)
  rintro e w1 ⟨rfl, hb1⟩
  have HB1 := Lib.hid hb1
  clear hb1
  go_wp2
  go_ret2
  exact ⟨rfl, ((Below.refl _ _).alloc (Nat.le_refl _) _).trans (HB1.out.mono (by simp))⟩

set_option maxRecDepth 100000 in
set_option maxHeartbeats 4000000 in
theorem print_good (B0 : Nat) (v : Value) (i : Prob) (w : World) (h : Lies w v i) (hs : Short i) (hp : probOk i = true) (hpl : i.pairs.length ≤ 1000000) (hn : Names w) (h0 : 0 < w.heap.size) (hB0 : B0 ≤ w.heap.size) (ht : Tab B0 w) :
    Calls Tryd.prog 7 #[v] w fun e w' => e = .returned (.tuple #[.string (ofL (probText i)), .int .i64 0]) ∧ Below w.heap.size w w' := by
  have h' := h
  obtain ⟨vc, vs, vp, vt, rfl, r1, r2, r3, r4⟩ := h'
  have HL := Lib.hid h
  have HF := Lib.hid (fine_of hp)
  have HP := Lib.hid hp
  have HN := Lib.hid hn
  have HT := Lib.hid ht
  obtain ⟨Ac, capc, rfl, hc⟩ := r1
  obtain ⟨As, caps, rfl, hst⟩ := r2
  obtain ⟨Ap, capp, rfl, hpr⟩ := r3
  obtain ⟨At, capt, rfl, htr⟩ := r4
  have HC := Lib.hid hc
  have HS := Lib.hid hst
  have HPR := Lib.hid hpr
  have HTR := Lib.hid htr
  have n1 := (fine_of hp).cars
  have n2 := (fine_of hp).stops
  have n3 : i.travel.length ≤ 11 := by have := (fine_of hp).travel; omega
  clear h hp hn ht hc hst hpr htr
  go_enter Tryd.func7, Tryd.ntmps7
  go_wp2_with (go_at_call 18; fail)
  (with_reducible refine (check_ok (i := i) ?_ hs HP.out).mono ?_)
  · exact HL.out.below ((Below.refl _ _).alloc (Nat.le_refl _) _)
  rintro e w1 ⟨rfl, hb1⟩
  have HB1 := Lib.hid (((Below.refl _ _).alloc (Nat.le_refl _) _).trans (hb1.mono (by simp)) : Below w.heap.size w w1)
  have d0 : w1.cell? ⟨w.heap.size, 0, none⟩ = some (.slice Ac i.cars.length capc) := by rw [hb1.cell (by simp)]; simp
  have d1 : w1.cell? ⟨w.heap.size, 1, none⟩ = some (.slice As i.stops.length caps) := by rw [hb1.cell (by simp)]; simp
  have d2 : w1.cell? ⟨w.heap.size, 2, none⟩ = some (.slice Ap i.pairs.length capp) := by rw [hb1.cell (by simp)]; simp
  have d3 : w1.cell? ⟨w.heap.size, 3, none⟩ = some (.slice At i.travel.length capt) := by rw [hb1.cell (by simp)]; simp
  have hz : w.heap.size < w1.heap.size := by have := hb1.size; simp at this; omega
  clear hb1
  go_wp2
  go_loopw [22] (fun c wr => ∃ k : Nat, k ≤ i.cars.length ∧ c = .int .i64 k ∧ IsB w1.heap.size w1.heap.size (Lib.byteCells (([] : List UInt8) ++ carsText (i.cars.take k))) wr ∧ Below w1.heap.size w1 wr) (fun c _ => i.cars.length - (intOf c).toNat)
  case atStart => exact ⟨0, Nat.zero_le _, rfl, isB_new w1, (Below.refl _ _).alloc (Nat.le_refl _) _⟩
  case round =>
    obtain ⟨k, hk, rfl, hi, hb⟩ := hrel
    have HI := Lib.hid hi
    have HB := Lib.hid hb
    have hsz := hb.size
    clear hi hb
    by_cases hlt : k < i.cars.length
    · have HW : Hid (Below w.heap.size w wr) := HB1.out.trans (HB.out.mono (by omega))
      obtain ⟨B, o, rfl, hB, hcell⟩ := HC.out k hlt
      have c0 : wr.cell? ⟨B, o + k * 3, none⟩ = some (.int .i64 i.cars[k].c) := by rw [HW.out.cell hB]; exact hcell 0 (by omega)
      have c1 : wr.cell? ⟨B, o + k * 3 + 1, none⟩ = some (.int .i64 i.cars[k].s) := by rw [HW.out.cell hB]; exact hcell 1 (by omega)
      have c2 : wr.cell? ⟨B, o + k * 3 + 2, none⟩ = some (.int .i64 i.cars[k].e) := by rw [HW.out.cell hB]; exact hcell 2 (by omega)
      have HX := Lib.hid (flat_snoc (fun c => lineText 0 (carNums c)) i.cars hlt)
      have HFX := Lib.hid (HF.out.carF i.cars[k] (List.getElem_mem _))
      clear hcell d0 d1 d2 d3
      generalize i.cars[k] = x at *
      go_wp2_with (go_at_call 23; fail)
      (with_reducible refine (line_lit 0 B0 w1.heap.size w1.heap.size 0 (Lib.byteCells (([] : List UInt8) ++ carsText (i.cars.take k))) _ (carNums x) _ rfl (by omega) HFX.out ?_ ?_ ?_ ?_ ?_ ?_ ?_ ?_).mono ?_)
      · exact stay_new (l := carNums x) (t := 3) (fz := (0, 0)) (heap_at _ (by simp)) (by decide) (by omega) _
      · exact isB_below HI.out (Below.alloc (Below.alloc (Below.refl _ _) (Nat.le_refl _) _) (by simp) _)
      · exact HN.out.below (HW.out.trans ((Below.alloc (Below.alloc (Below.refl _ _) (Nat.le_refl _) _) (by simp) _).mono (by have := HW.out.size; omega))) (by omega)
      · simp; omega
      · omega
      · exact HT.out.on ((HW.out.trans ((Below.alloc (Below.alloc (Below.refl _ _) (Nat.le_refl _) _) (by simp) _).mono (by have := HW.out.size; omega))).mono hB0)
      · simp [carNums]
      · have L0 := HF.out.lenC i.cars.length; have L1 := HF.out.lenS i.stops.length; have L2 := HF.out.lenP i.pairs.length hpl; rw [List.take_length] at L0 L1 L2; have L3 := HF.out.lenC k; simp only [Lib.byteCells_length, List.length_append]; simp [carNums]; omega
      rintro e w2 ⟨rfl, hi2, hb2, hk2⟩
      have HI2 := Lib.hid hi2
      have HB2 := Lib.hid (((HB.out.alloc (by omega) _).alloc (by simp; omega) _).trans hb2)
      clear hi2 hb2 hk2
      go_wp2
      go_roundw
      case rel => exact ⟨k + 1, by omega, by go_num, by have := HI2.out; rw [← Lib.byteCells_append] at this; unfold carsText; rw [HX.out]; simpa [carsText, List.append_assoc] using this, HB2.out⟩
      case measure => simp [intOf]; omega
    · obtain rfl : k = i.cars.length := by omega
      rw [List.take_length] at HI
      have HW : Hid (Below w.heap.size w wr) := HB1.out.trans (HB.out.mono (by omega))
      have g0 : wr.cell? ⟨w.heap.size, 0, none⟩ = some (.slice Ac i.cars.length capc) := by rw [HB.out.cell hz]; exact d0
      have g1 : wr.cell? ⟨w.heap.size, 1, none⟩ = some (.slice As i.stops.length caps) := by rw [HB.out.cell hz]; exact d1
      have g2 : wr.cell? ⟨w.heap.size, 2, none⟩ = some (.slice Ap i.pairs.length capp) := by rw [HB.out.cell hz]; exact d2
      have g3 : wr.cell? ⟨w.heap.size, 3, none⟩ = some (.slice At i.travel.length capt) := by rw [HB.out.cell hz]; exact d3
      go_wp2
      clear g0 g1 g2 g3
      go_loopw [38] (fun c wr => ∃ k : Nat, k ≤ i.stops.length ∧ c = .int .i64 k ∧ IsB w1.heap.size w1.heap.size (Lib.byteCells (carsText i.cars ++ stopsText (i.stops.take k))) wr ∧ Below w1.heap.size w1 wr) (fun c _ => i.stops.length - (intOf c).toNat)
      case atStart => exact ⟨0, Nat.zero_le _, rfl, by simpa [stopsText] using HI.out, HB.out⟩
      case round =>
        obtain ⟨k, hk, rfl, hi, hb⟩ := hrel
        have HI := Lib.hid hi
        have HB := Lib.hid hb
        have hsz := hb.size
        clear hi hb
        by_cases hlt : k < i.stops.length
        · have HW : Hid (Below w.heap.size w wr) := HB1.out.trans (HB.out.mono (by omega))
          obtain ⟨B, o, rfl, hB, hcell⟩ := HS.out k hlt
          have c0 : wr.cell? ⟨B, o + k * 4, none⟩ = some (.int .i64 i.stops[k].d) := by rw [HW.out.cell hB]; exact hcell 0 (by omega)
          have c1 : wr.cell? ⟨B, o + k * 4 + 1, none⟩ = some (.int .i64 i.stops[k].o) := by rw [HW.out.cell hB]; exact hcell 1 (by omega)
          have c2 : wr.cell? ⟨B, o + k * 4 + 2, none⟩ = some (.int .i64 i.stops[k].c) := by rw [HW.out.cell hB]; exact hcell 2 (by omega)
          have c3 : wr.cell? ⟨B, o + k * 4 + 3, none⟩ = some (.int .i64 i.stops[k].s) := by rw [HW.out.cell hB]; exact hcell 3 (by omega)
          have HX := Lib.hid (flat_snoc (fun c => lineText 1 (stopNums c)) i.stops hlt)
          have HFX := Lib.hid (HF.out.stopF i.stops[k] (List.getElem_mem _))
          clear hcell d0 d1 d2 d3
          generalize i.stops[k] = x at *
          go_wp2_with (go_at_call 23; fail)
          (with_reducible refine (line_lit 1 B0 w1.heap.size w1.heap.size 1 (Lib.byteCells (carsText i.cars ++ stopsText (i.stops.take k))) _ (stopNums x) _ rfl (by omega) HFX.out ?_ ?_ ?_ ?_ ?_ ?_ ?_ ?_).mono ?_)
          · exact stay_new (l := stopNums x) (t := 3) (fz := (0, 0)) (heap_at _ (by simp)) (by decide) (by omega) _
          · exact isB_below HI.out (Below.alloc (Below.alloc (Below.refl _ _) (Nat.le_refl _) _) (by simp) _)
          · exact HN.out.below (HW.out.trans ((Below.alloc (Below.alloc (Below.refl _ _) (Nat.le_refl _) _) (by simp) _).mono (by have := HW.out.size; omega))) (by omega)
          · simp; omega
          · omega
          · exact HT.out.on ((HW.out.trans ((Below.alloc (Below.alloc (Below.refl _ _) (Nat.le_refl _) _) (by simp) _).mono (by have := HW.out.size; omega))).mono hB0)
          · simp [stopNums]
          · have L0 := HF.out.lenC i.cars.length; have L1 := HF.out.lenS i.stops.length; have L2 := HF.out.lenP i.pairs.length hpl; rw [List.take_length] at L0 L1 L2; have L3 := HF.out.lenS k; simp only [Lib.byteCells_length, List.length_append]; simp [stopNums]; omega
          rintro e w2 ⟨rfl, hi2, hb2, hk2⟩
          have HI2 := Lib.hid hi2
          have HB2 := Lib.hid (((HB.out.alloc (by omega) _).alloc (by simp; omega) _).trans hb2)
          clear hi2 hb2 hk2
          go_wp2
          go_roundw
          case rel => exact ⟨k + 1, by omega, by go_num, by have := HI2.out; rw [← Lib.byteCells_append] at this; unfold stopsText; rw [HX.out]; simpa [stopsText, List.append_assoc] using this, HB2.out⟩
          case measure => simp [intOf]; omega
        · obtain rfl : k = i.stops.length := by omega
          rw [List.take_length] at HI
          have HW : Hid (Below w.heap.size w wr) := HB1.out.trans (HB.out.mono (by omega))
          have g0 : wr.cell? ⟨w.heap.size, 0, none⟩ = some (.slice Ac i.cars.length capc) := by rw [HB.out.cell hz]; exact d0
          have g1 : wr.cell? ⟨w.heap.size, 1, none⟩ = some (.slice As i.stops.length caps) := by rw [HB.out.cell hz]; exact d1
          have g2 : wr.cell? ⟨w.heap.size, 2, none⟩ = some (.slice Ap i.pairs.length capp) := by rw [HB.out.cell hz]; exact d2
          have g3 : wr.cell? ⟨w.heap.size, 3, none⟩ = some (.slice At i.travel.length capt) := by rw [HB.out.cell hz]; exact d3
          go_wp2
          clear g0 g1 g2 g3
          go_loopw [56] (fun c wr => ∃ k : Nat, k ≤ i.pairs.length ∧ c = .int .i64 k ∧ IsB w1.heap.size w1.heap.size (Lib.byteCells (carsText i.cars ++ stopsText i.stops ++ pairsText (i.pairs.take k))) wr ∧ Below w1.heap.size w1 wr) (fun c _ => i.pairs.length - (intOf c).toNat)
          case atStart => exact ⟨0, Nat.zero_le _, rfl, by simpa [pairsText] using HI.out, HB.out⟩
          case round =>
            obtain ⟨k, hk, rfl, hi, hb⟩ := hrel
            have HI := Lib.hid hi
            have HB := Lib.hid hb
            have hsz := hb.size
            clear hi hb
            by_cases hlt : k < i.pairs.length
            · have HW : Hid (Below w.heap.size w wr) := HB1.out.trans (HB.out.mono (by omega))
              obtain ⟨B, o, rfl, hB, hcell⟩ := HPR.out k hlt
              have c0 : wr.cell? ⟨B, o + k * 2, none⟩ = some (.int .i64 i.pairs[k].a) := by rw [HW.out.cell hB]; exact hcell 0 (by omega)
              have c1 : wr.cell? ⟨B, o + k * 2 + 1, none⟩ = some (.int .i64 i.pairs[k].b) := by rw [HW.out.cell hB]; exact hcell 1 (by omega)
              have HX := Lib.hid (flat_snoc (fun c => lineText 2 (pairNums c)) i.pairs hlt)
              have HFX := Lib.hid (HF.out.pairF i.pairs[k] (List.getElem_mem _))
              clear hcell d0 d1 d2 d3
              generalize i.pairs[k] = x at *
              go_wp2_with (go_at_call 23; fail)
              (with_reducible refine (line_lit 2 B0 w1.heap.size w1.heap.size 2 (Lib.byteCells (carsText i.cars ++ stopsText i.stops ++ pairsText (i.pairs.take k))) _ (pairNums x) _ rfl (by omega) HFX.out ?_ ?_ ?_ ?_ ?_ ?_ ?_ ?_).mono ?_)
              · exact stay_new (l := pairNums x) (t := 3) (fz := (0, 0)) (heap_at _ (by simp)) (by decide) (by omega) _
              · exact isB_below HI.out (Below.alloc (Below.alloc (Below.refl _ _) (Nat.le_refl _) _) (by simp) _)
              · exact HN.out.below (HW.out.trans ((Below.alloc (Below.alloc (Below.refl _ _) (Nat.le_refl _) _) (by simp) _).mono (by have := HW.out.size; omega))) (by omega)
              · simp; omega
              · omega
              · exact HT.out.on ((HW.out.trans ((Below.alloc (Below.alloc (Below.refl _ _) (Nat.le_refl _) _) (by simp) _).mono (by have := HW.out.size; omega))).mono hB0)
              · simp [pairNums]
              · have L0 := HF.out.lenC i.cars.length; have L1 := HF.out.lenS i.stops.length; have L2 := HF.out.lenP i.pairs.length hpl; rw [List.take_length] at L0 L1 L2; have L3 := HF.out.lenP k hpl; simp only [Lib.byteCells_length, List.length_append]; simp [pairNums]; omega
              rintro e w2 ⟨rfl, hi2, hb2, hk2⟩
              have HI2 := Lib.hid hi2
              have HB2 := Lib.hid (((HB.out.alloc (by omega) _).alloc (by simp; omega) _).trans hb2)
              clear hi2 hb2 hk2
              go_wp2
              go_roundw
              case rel => exact ⟨k + 1, by omega, by go_num, by have := HI2.out; rw [← Lib.byteCells_append] at this; unfold pairsText; rw [HX.out]; simpa [pairsText, List.append_assoc] using this, HB2.out⟩
              case measure => simp [intOf]; omega
            · obtain rfl : k = i.pairs.length := by omega
              rw [List.take_length] at HI
              have HW : Hid (Below w.heap.size w wr) := HB1.out.trans (HB.out.mono (by omega))
              have g0 : wr.cell? ⟨w.heap.size, 0, none⟩ = some (.slice Ac i.cars.length capc) := by rw [HB.out.cell hz]; exact d0
              have g1 : wr.cell? ⟨w.heap.size, 1, none⟩ = some (.slice As i.stops.length caps) := by rw [HB.out.cell hz]; exact d1
              have g2 : wr.cell? ⟨w.heap.size, 2, none⟩ = some (.slice Ap i.pairs.length capp) := by rw [HB.out.cell hz]; exact d2
              have g3 : wr.cell? ⟨w.heap.size, 3, none⟩ = some (.slice At i.travel.length capt) := by rw [HB.out.cell hz]; exact d3
              go_wp2
              clear g0 g1 g2 g3
              go_loopw [70] (fun c wr => ∃ k : Nat, k ≤ i.travel.length ∧ c = .int .i64 k ∧ IsB w1.heap.size w1.heap.size (Lib.byteCells (carsText i.cars ++ stopsText i.stops ++ pairsText i.pairs ++ rowsText (i.travel.take k))) wr ∧ Below w1.heap.size w1 wr) (fun c _ => i.travel.length - (intOf c).toNat)
              case atStart => exact ⟨0, Nat.zero_le _, rfl, by simpa [rowsText] using HI.out, HB.out⟩
              case round =>
                obtain ⟨k, hk, rfl, hi, hb⟩ := hrel
                have HI := Lib.hid hi
                have HB := Lib.hid hb
                have hsz := hb.size
                clear hi hb
                by_cases hlt : k < i.travel.length
                · have HW : Hid (Below w.heap.size w wr) := HB1.out.trans (HB.out.mono (by omega))
                  obtain ⟨B, o, u, rfl, hB, hu, hrow⟩ := HTR.out k hlt
                  have c0 : wr.cell? ⟨B, o + k, none⟩ = some u := by rw [HW.out.cell hB]; exact hu
                  have HU := Lib.hid hrow
                  have hxl : i.travel[k].length ≤ 11 := by have := HF.out.rowL i.travel[k] (List.getElem_mem _); omega
                  have HX := Lib.hid (flat_snoc (fun c => lineText 3 c) i.travel hlt)
                  have HFX := Lib.hid (HF.out.rowF i.travel[k] (List.getElem_mem _))
                  clear hu hrow d0 d1 d2 d3
                  generalize i.travel[k] = x at *
                  obtain ⟨Au, capu, rfl, hdrop⟩ : ∃ A cap, u = .slice A x.length cap ∧ True := by obtain ⟨A, cap, e, _⟩ := HU.out; exact ⟨A, cap, e, trivial⟩
                  clear hdrop
                  go_wp2_with (go_at_call 23; fail)
                  (with_reducible refine (line_lit 3 B0 w1.heap.size w1.heap.size 3 (Lib.byteCells (carsText i.cars ++ stopsText i.stops ++ pairsText i.pairs ++ rowsText (i.travel.take k))) _ x _ rfl (by omega) HFX.out ?_ ?_ ?_ ?_ ?_ ?_ ?_ ?_).mono ?_)
                  · intro w' hbb _; exact HU.out.below (HW.out.trans (hbb.mono (by omega)))
                  · exact HI.out
                  · exact HN.out.below HW.out (by omega)
                  · omega
                  · omega
                  · exact HT.out.on (HW.out.mono hB0)
                  · omega
                  · have L0 := HF.out.lenC i.cars.length; have L1 := HF.out.lenS i.stops.length; have L2 := HF.out.lenP i.pairs.length hpl; rw [List.take_length] at L0 L1 L2; have L3 := HF.out.lenR k; simp only [Lib.byteCells_length, List.length_append]; simp; omega
                  rintro e w2 ⟨rfl, hi2, hb2, hk2⟩
                  have HI2 := Lib.hid hi2
                  have HB2 := Lib.hid (HB.out.trans hb2)
                  clear hi2 hb2 hk2
                  go_wp2
                  go_roundw
                  case rel => exact ⟨k + 1, by omega, by go_num, by have := HI2.out; rw [← Lib.byteCells_append] at this; unfold rowsText; rw [HX.out]; simpa [rowsText, List.append_assoc] using this, HB2.out⟩
                  case measure => simp [intOf]; omega
                · obtain rfl : k = i.travel.length := by omega
                  rw [List.take_length] at HI
                  have HW : Hid (Below w.heap.size w wr) := HB1.out.trans (HB.out.mono (by omega))
                  have g0 : wr.cell? ⟨w.heap.size, 0, none⟩ = some (.slice Ac i.cars.length capc) := by rw [HB.out.cell hz]; exact d0
                  have g1 : wr.cell? ⟨w.heap.size, 1, none⟩ = some (.slice As i.stops.length caps) := by rw [HB.out.cell hz]; exact d1
                  have g2 : wr.cell? ⟨w.heap.size, 2, none⟩ = some (.slice Ap i.pairs.length capp) := by rw [HB.out.cell hz]; exact d2
                  have g3 : wr.cell? ⟨w.heap.size, 3, none⟩ = some (.slice At i.travel.length capt) := by rw [HB.out.cell hz]; exact d3
                  clear g0 g1 g2 g3
                  have hB3 : w1.heap.size ≤ wr.heap.size := by omega
                  go_wp2_with (go_at_call 24; fail)
                  (with_reducible refine (Builder_String_any_k _ _ _ _ HI.out hB3).mono ?_)
                  rintro e w2 ⟨rfl, _, hb2, _⟩
                  have HB2 := Lib.hid (HW.out.trans (hb2.mono (by omega)))
                  clear hb2
                  go_wp2
                  go_ret2
                  exact ⟨ret_sv (by show ofL _ = ofL _; rw [show probText i = ([] : List UInt8) ++ probText i from rfl]; simp [probText]), HB2.out⟩
end Go.Proofs.YteibelmgebhleaaDoor
