/- draymanref01.PrintInst: the text of a problem that may be; else nothing and false. -/
import Derived.Test.YteibelmgebhleaaDoorRefChk
import Derived.Test.YteibelmgebhleaaDoorPrintPlain
import Derived.Test.YteibelmgebhleaaDoorDigs
namespace Go.Proofs.YteibelmgebhleaaDoor
open Go.RowKit
set_option linter.unusedSimpArgs false
set_option maxRecDepth 100000

set_option maxHeartbeats 4000000 in
theorem refPrint_bad (v : Value) (i : Prob) (w : World) (h : Lies w v i) (hs : Short i) (hp : probOk i = false) :
    Calls Tryd.prog 17 #[v] w fun e w' => e = .returned (.tuple #[.string ⟨#[]⟩, .bool false]) ∧ Below w.heap.size w w' := by
  have h' := h
  obtain ⟨vc, vs, vp, vt, rfl, _⟩ := h'
  have HL := Lib.hid h
  clear h
  go_enter Tryd.func17, Tryd.ntmps17
  go_wp2_with (go_at_call 16; fail)
  (with_reducible refine (refCheck_any _ i _ ?_ hs).mono ?_)
  · exact HL.out.below ((Below.refl _ _).alloc (Nat.le_refl _) _)
  rw [hp]
  rintro e w1 ⟨rfl, hb1⟩
  have HB1 := Lib.hid hb1
  clear hb1
  go_wp2
  go_ret2
  exact ⟨rfl, ((Below.refl _ _).alloc (Nat.le_refl _) _).trans (HB1.out.mono (by simp))⟩

theorem app3 {c d0 d1 d2 : ByteArray} {a b e : Int} (h0 : d0 = digs a) (h1 : d1 = digs b) (h2 : d2 = digs e) :
    (c ++ ((⟨#[99, 97, 114, 32]⟩ : ByteArray) ++ d0 ++ ⟨#[32]⟩ ++ d1 ++ ⟨#[32]⟩ ++ d2 ++ ⟨#[10]⟩)).data.toList = c.data.toList ++ lineText 0 [a, b, e] := by
  subst h0 h1 h2
  simp [ByteArray.data_append, digs, ofL, lineText, numsL, nameL]
theorem app4 {c d0 d1 d2 d3 : ByteArray} {a b e f : Int} (h0 : d0 = digs a) (h1 : d1 = digs b) (h2 : d2 = digs e) (h3 : d3 = digs f) :
    (c ++ ((⟨#[115, 116, 111, 112, 32]⟩ : ByteArray) ++ d0 ++ ⟨#[32]⟩ ++ d1 ++ ⟨#[32]⟩ ++ d2 ++ ⟨#[32]⟩ ++ d3 ++ ⟨#[10]⟩)).data.toList = c.data.toList ++ lineText 1 [a, b, e, f] := by
  subst h0 h1 h2 h3
  simp [ByteArray.data_append, digs, ofL, lineText, numsL, nameL]
theorem app2 {c d0 d1 : ByteArray} {a b : Int} (h0 : d0 = digs a) (h1 : d1 = digs b) :
    (c ++ ((⟨#[112, 97, 105, 114, 32]⟩ : ByteArray) ++ d0 ++ ⟨#[32]⟩ ++ d1 ++ ⟨#[10]⟩)).data.toList = c.data.toList ++ lineText 2 [a, b] := by
  subst h0 h1
  simp [ByteArray.data_append, digs, ofL, lineText, numsL, nameL]
theorem digs_call {n : Int} (hn : Fit n) (d : ByteArray) (hd : d = digs n) (w : World) :
    Calls Tryd.prog 33 #[.int .i64 n] w fun e w' => e = .returned (.string d) ∧ w' = w := by
  subst hd; exact (refDigits_any n w hn).mono (fun _ _ h => ⟨h.1, h.2.symm⟩)

set_option maxHeartbeats 8000000 in
theorem refPrint_good (v : Value) (i : Prob) (w : World) (h : Lies w v i) (hs : Short i) (hp : probOk i = true) (hpl : i.pairs.length ≤ 1000000) :
    Calls Tryd.prog 17 #[v] w fun e w' => e = .returned (.tuple #[.string (ofL (probText i)), .bool true]) ∧ Below w.heap.size w w' := by
  have h' := h
  obtain ⟨vc, vs, vp, vt, rfl, r1, r2, r3, r4⟩ := h'
  have HL := Lib.hid h
  have HF := Lib.hid (fine_of hp)
  obtain ⟨Ac, capc, rfl, hc⟩ := r1
  obtain ⟨As, caps, rfl, hst⟩ := r2
  obtain ⟨Ap, capp, rfl, hpr⟩ := r3
  obtain ⟨At, capt, rfl, htr⟩ := r4
  have HC := Lib.hid hc
  have HS := Lib.hid hst
  have HPR := Lib.hid hpr
  have HTR := Lib.hid htr
  have n1 := (fine_of hp).cars
  have n2 := (fine_of hp).stops
  have n3 : i.travel.length ≤ 11 := by have := (fine_of hp).travel; omega
  clear h hc hst hpr htr
  go_enter Tryd.func17, Tryd.ntmps17
  go_wp2_with (go_at_call 16; fail)
  (with_reducible refine (refCheck_any _ i _ ?_ hs).mono ?_)
  · exact HL.out.below ((Below.refl _ _).alloc (Nat.le_refl _) _)
  rw [hp]
  rintro e w1 ⟨rfl, hb1⟩
  have HB1 := Lib.hid (((Below.refl _ _).alloc (Nat.le_refl _) _).trans (hb1.mono (by simp)) : Below w.heap.size w w1)
  have d0 : w1.cell? ⟨w.heap.size, 0, none⟩ = some (.slice Ac i.cars.length capc) := by rw [hb1.cell (by simp)]; simp
  have D1 := Lib.hid (show w1.cell? ⟨w.heap.size, 1, none⟩ = some (.slice As i.stops.length caps) by rw [hb1.cell (by simp)]; simp)
  have D2 := Lib.hid (show w1.cell? ⟨w.heap.size, 2, none⟩ = some (.slice Ap i.pairs.length capp) by rw [hb1.cell (by simp)]; simp)
  have D3 := Lib.hid (show w1.cell? ⟨w.heap.size, 3, none⟩ = some (.slice At i.travel.length capt) by rw [hb1.cell (by simp)]; simp)
  have hz : w.heap.size < w1.heap.size := by have := hb1.size; simp at this; omega
  clear hb1 hp
  go_wp2
  clear d0
  go_loopw [4, 21] (fun s t wr => ∃ (k : Nat) (c : ByteArray), k ≤ i.cars.length ∧ t = .int .i64 k ∧ s = .string c ∧ c.data.toList = carsText (i.cars.take k) ∧ Below w1.heap.size w1 wr) (fun _ t _ => i.cars.length - (intOf t).toNat)
  case atStart => exact ⟨0, _, Nat.zero_le _, rfl, rfl, rfl, Below.refl _ _⟩
  case round =>
    obtain ⟨k, c, hk, rfl, rfl, htx, hb⟩ := hrel
    have HB := Lib.hid hb
    have HW : Hid (Below w.heap.size w wr) := HB1.out.trans (hb.mono (by omega))
    have hcs : c.size ≤ 213 := by rw [← data_len, htx]; exact HF.out.lenC k
    have HTX := Lib.hid htx
    clear hb htx
    by_cases hlt : k < i.cars.length
    · obtain ⟨B, o, rfl, hB, hcell⟩ := HC.out k hlt
      have c0 : wr.cell? ⟨B, o + k * 3, none⟩ = some (.int .i64 i.cars[k].c) := by rw [HW.out.cell hB]; exact hcell 0 (by omega)
      have c1 : wr.cell? ⟨B, o + k * 3 + 1, none⟩ = some (.int .i64 i.cars[k].s) := by rw [HW.out.cell hB]; exact hcell 1 (by omega)
      have c2 : wr.cell? ⟨B, o + k * 3 + 2, none⟩ = some (.int .i64 i.cars[k].e) := by rw [HW.out.cell hB]; exact hcell 2 (by omega)
      have HX := Lib.hid (flat_snoc (fun c => lineText 0 (carNums c)) i.cars hlt)
      have HFX := Lib.hid (HF.out.carF i.cars[k] (List.getElem_mem _))
      clear hcell
      generalize i.cars[k] = x at *
      obtain ⟨xc, xs, xe⟩ := x
      simp only at c0 c1 c2
      have f0 := HFX.out xc (by simp [carNums])
      have f1 := HFX.out xs (by simp [carNums])
      have f2 := HFX.out xe (by simp [carNums])
      obtain ⟨x0, hx0⟩ : ∃ d, d = digs xc := ⟨_, rfl⟩
      obtain ⟨x1, hx1⟩ : ∃ d, d = digs xs := ⟨_, rfl⟩
      obtain ⟨x2, hx2⟩ : ∃ d, d = digs xe := ⟨_, rfl⟩
      have l0 : x0.size ≤ 21 := by rw [hx0]; exact digs_size f0
      have l1 : x1.size ≤ 21 := by rw [hx1]; exact digs_size f1
      have l2 : x2.size ≤ 21 := by rw [hx2]; exact digs_size f2
      have K0 := Lib.hid (fun W => digs_call f0 x0 hx0 W)
      have K1 := Lib.hid (fun W => digs_call f1 x1 hx1 W)
      have K2 := Lib.hid (fun W => digs_call f2 x2 hx2 W)
      have HA := Lib.hid (app3 (c := c) hx0 hx1 hx2)
      clear hx0 hx1 hx2 f0 f1 f2
      go_wp2
      go_quiet (first
        | (go_at_call 33; (with_reducible exact Calls.quiet_of_same (K0.out _)))
        | (go_at_call 33; (with_reducible exact Calls.quiet_of_same (K1.out _)))
        | (go_at_call 33; (with_reducible exact Calls.quiet_of_same (K2.out _))))
      go_wp2
      go_roundw
      case rel => exact ⟨k + 1, _, by omega, by go_num, rfl, by rw [HA.out, HTX.out]; unfold carsText; rw [HX.out]; rfl, below_draws' (HB.out.alloc HB.out.size _) _⟩
      case measure => simp [intOf]; omega
    · obtain rfl : k = i.cars.length := by omega
      have htx := HTX.out
      rw [List.take_length] at htx
      have d1 : wr.cell? ⟨w.heap.size, 1, none⟩ = some (.slice As i.stops.length caps) := by rw [HB.out.cell hz]; exact D1.out
      have HT0 := Lib.hid htx
      clear htx HTX
      go_wp2
      clear d1
      go_loopw [4, 46] (fun s t wr => ∃ (k : Nat) (c : ByteArray), k ≤ i.stops.length ∧ t = .int .i64 k ∧ s = .string c ∧ c.data.toList = carsText i.cars ++ stopsText (i.stops.take k) ∧ Below w1.heap.size w1 wr) (fun _ t _ => i.stops.length - (intOf t).toNat)
      case atStart => exact ⟨0, _, Nat.zero_le _, rfl, rfl, by rw [HT0.out]; simp [stopsText], HB.out⟩
      case round =>
        clear HW HB HT0 hlt hk hcs
        obtain ⟨k, c, hk, rfl, rfl, htx, hb⟩ := hrel
        have HB := Lib.hid hb
        have HW : Hid (Below w.heap.size w wr) := HB1.out.trans (hb.mono (by omega))
        have hcs : c.size ≤ 1143 := by
          have h1 := HF.out.lenC i.cars.length
          have h2 := HF.out.lenS k
          rw [List.take_length] at h1
          rw [← data_len, htx, List.length_append]; omega
        have HTX := Lib.hid htx
        clear hb htx
        by_cases hlt : k < i.stops.length
        · obtain ⟨B, o, rfl, hB, hcell⟩ := HS.out k hlt
          have c0 : wr.cell? ⟨B, o + k * 4, none⟩ = some (.int .i64 i.stops[k].d) := by rw [HW.out.cell hB]; exact hcell 0 (by omega)
          have c1 : wr.cell? ⟨B, o + k * 4 + 1, none⟩ = some (.int .i64 i.stops[k].o) := by rw [HW.out.cell hB]; exact hcell 1 (by omega)
          have c2 : wr.cell? ⟨B, o + k * 4 + 2, none⟩ = some (.int .i64 i.stops[k].c) := by rw [HW.out.cell hB]; exact hcell 2 (by omega)
          have c3 : wr.cell? ⟨B, o + k * 4 + 3, none⟩ = some (.int .i64 i.stops[k].s) := by rw [HW.out.cell hB]; exact hcell 3 (by omega)
          have HX := Lib.hid (flat_snoc (fun c => lineText 1 (stopNums c)) i.stops hlt)
          have HFX := Lib.hid (HF.out.stopF i.stops[k] (List.getElem_mem _))
          clear hcell
          generalize i.stops[k] = x at *
          obtain ⟨xd, xo, xc, xs⟩ := x
          simp only at c0 c1 c2 c3
          have f0 := HFX.out xd (by simp [stopNums])
          have f1 := HFX.out xo (by simp [stopNums])
          have f2 := HFX.out xc (by simp [stopNums])
          have f3 := HFX.out xs (by simp [stopNums])
          obtain ⟨x0, hx0⟩ : ∃ d, d = digs xd := ⟨_, rfl⟩
          obtain ⟨x1, hx1⟩ : ∃ d, d = digs xo := ⟨_, rfl⟩
          obtain ⟨x2, hx2⟩ : ∃ d, d = digs xc := ⟨_, rfl⟩
          obtain ⟨x3, hx3⟩ : ∃ d, d = digs xs := ⟨_, rfl⟩
          have l0 : x0.size ≤ 21 := by rw [hx0]; exact digs_size f0
          have l1 : x1.size ≤ 21 := by rw [hx1]; exact digs_size f1
          have l2 : x2.size ≤ 21 := by rw [hx2]; exact digs_size f2
          have l3 : x3.size ≤ 21 := by rw [hx3]; exact digs_size f3
          have K0 := Lib.hid (fun W => digs_call f0 x0 hx0 W)
          have K1 := Lib.hid (fun W => digs_call f1 x1 hx1 W)
          have K2 := Lib.hid (fun W => digs_call f2 x2 hx2 W)
          have K3 := Lib.hid (fun W => digs_call f3 x3 hx3 W)
          have HA := Lib.hid (app4 (c := c) hx0 hx1 hx2 hx3)
          clear hx0 f0 hx1 f1 hx2 f2 hx3 f3
          go_wp2
          go_quiet (first
            | (go_at_call 33; (with_reducible exact Calls.quiet_of_same (K0.out _)))
            | (go_at_call 33; (with_reducible exact Calls.quiet_of_same (K1.out _)))
            | (go_at_call 33; (with_reducible exact Calls.quiet_of_same (K2.out _)))
            | (go_at_call 33; (with_reducible exact Calls.quiet_of_same (K3.out _))))
          go_wp2
          go_roundw
          case rel => exact ⟨k + 1, _, by omega, by go_num, rfl, by rw [HA.out, HTX.out]; unfold stopsText; rw [HX.out, List.append_assoc]; rfl, below_draws' (HB.out.alloc HB.out.size _) _⟩
          case measure => simp [intOf]; omega
        · obtain rfl : k = i.stops.length := by omega
          have htx := HTX.out
          rw [List.take_length] at htx
          have d2 : wr.cell? ⟨w.heap.size, 2, none⟩ = some (.slice Ap i.pairs.length capp) := by rw [HB.out.cell hz]; exact D2.out
          have HT0 := Lib.hid htx
          clear htx HTX
          go_wp2
          clear d2
          go_loopw [4, 76] (fun s t wr => ∃ (k : Nat) (c : ByteArray), k ≤ i.pairs.length ∧ t = .int .i64 k ∧ s = .string c ∧ c.data.toList = carsText i.cars ++ (stopsText i.stops ++ pairsText (i.pairs.take k)) ∧ Below w1.heap.size w1 wr) (fun _ t _ => i.pairs.length - (intOf t).toNat)
          case atStart => exact ⟨0, _, Nat.zero_le _, rfl, rfl, by rw [HT0.out]; simp [pairsText], HB.out⟩
          case round =>
            clear HW HB HT0 hlt hk hcs
            obtain ⟨k, c, hk, rfl, rfl, htx, hb⟩ := hrel
            have HB := Lib.hid hb
            have HW : Hid (Below w.heap.size w wr) := HB1.out.trans (hb.mono (by omega))
            have hcs : c.size ≤ 49001143 := by
              have h1 := HF.out.lenC i.cars.length
              have h2 := HF.out.lenS i.stops.length
              have h3 := HF.out.lenP k hpl
              rw [List.take_length] at h1 h2
              rw [← data_len, htx, List.length_append, List.length_append]; omega
            have HTX := Lib.hid htx
            clear hb htx
            by_cases hlt : k < i.pairs.length
            · obtain ⟨B, o, rfl, hB, hcell⟩ := HPR.out k hlt
              have c0 : wr.cell? ⟨B, o + k * 2, none⟩ = some (.int .i64 i.pairs[k].a) := by rw [HW.out.cell hB]; exact hcell 0 (by omega)
              have c1 : wr.cell? ⟨B, o + k * 2 + 1, none⟩ = some (.int .i64 i.pairs[k].b) := by rw [HW.out.cell hB]; exact hcell 1 (by omega)
              have HX := Lib.hid (flat_snoc (fun c => lineText 2 (pairNums c)) i.pairs hlt)
              have HFX := Lib.hid (HF.out.pairF i.pairs[k] (List.getElem_mem _))
              clear hcell
              generalize i.pairs[k] = x at *
              obtain ⟨xa, xb⟩ := x
              simp only at c0 c1
              have f0 := HFX.out xa (by simp [pairNums])
              have f1 := HFX.out xb (by simp [pairNums])
              obtain ⟨x0, hx0⟩ : ∃ d, d = digs xa := ⟨_, rfl⟩
              obtain ⟨x1, hx1⟩ : ∃ d, d = digs xb := ⟨_, rfl⟩
              have l0 : x0.size ≤ 21 := by rw [hx0]; exact digs_size f0
              have l1 : x1.size ≤ 21 := by rw [hx1]; exact digs_size f1
              have K0 := Lib.hid (fun W => digs_call f0 x0 hx0 W)
              have K1 := Lib.hid (fun W => digs_call f1 x1 hx1 W)
              have HA := Lib.hid (app2 (c := c) hx0 hx1)
              clear hx0 f0 hx1 f1
              go_wp2
              go_quiet (first
                | (go_at_call 33; (with_reducible exact Calls.quiet_of_same (K0.out _)))
                | (go_at_call 33; (with_reducible exact Calls.quiet_of_same (K1.out _))))
              go_wp2
              go_roundw
              case rel => exact ⟨k + 1, _, by omega, by go_num, rfl, by rw [HA.out, HTX.out]; unfold pairsText; rw [HX.out]; simp only [List.append_assoc]; rfl, below_draws' (HB.out.alloc HB.out.size _) _⟩
              case measure => simp [intOf]; omega
            · obtain rfl : k = i.pairs.length := by omega
              have htx := HTX.out
              rw [List.take_length] at htx
              have d3 : wr.cell? ⟨w.heap.size, 3, none⟩ = some (.slice At i.travel.length capt) := by rw [HB.out.cell hz]; exact D3.out
              have HT0 := Lib.hid htx
              clear htx HTX
              go_wp2
              clear d3
              go_loopw [4, 96] (fun s t wr => ∃ (k : Nat) (c : ByteArray), k ≤ i.travel.length ∧ t = .int .i64 k ∧ s = .string c ∧ c.data.toList = carsText i.cars ++ (stopsText i.stops ++ (pairsText i.pairs ++ rowsText (i.travel.take k))) ∧ Below w1.heap.size w1 wr) (fun _ t _ => i.travel.length - (intOf t).toNat)
              case atStart => exact ⟨0, _, Nat.zero_le _, rfl, rfl, by rw [HT0.out]; simp [rowsText], HB.out⟩
              case round =>
                clear HW HB HT0 hlt hk hcs
                obtain ⟨k, c, hk, rfl, rfl, htx, hb⟩ := hrel
                have HB := Lib.hid hb
                have HW : Hid (Below w.heap.size w wr) := HB1.out.trans (hb.mono (by omega))
                have hcs : c.size ≤ 49010000 := by
                  have h1 := HF.out.lenC i.cars.length
                  have h2 := HF.out.lenS i.stops.length
                  have h3 := HF.out.lenP i.pairs.length hpl
                  have h4 := HF.out.lenR k
                  rw [List.take_length] at h1 h2 h3
                  rw [← data_len, htx, List.length_append, List.length_append, List.length_append]; omega
                have HTX := Lib.hid htx
                clear hb htx
                by_cases hlt : k < i.travel.length
                · obtain ⟨B, o, u, rfl, hB, hu, hrow⟩ := HTR.out k hlt
                  have c0 : wr.cell? ⟨B, o + k, none⟩ = some u := by rw [HW.out.cell hB]; exact hu
                  obtain ⟨A2, cap2, rfl, hcell⟩ := (hrow.below HW.out).num
                  have HL2 := Lib.hid hcell
                  have HX := Lib.hid (flat_snoc (fun c => lineText 3 c) i.travel hlt)
                  have HFX := Lib.hid (HF.out.rowF i.travel[k] (List.getElem_mem _))
                  have hrl := HF.out.rowL i.travel[k] (List.getElem_mem _)
                  clear hcell hu hrow
                  generalize i.travel[k] = r at *
                  have hr11 : r.length ≤ 11 := by omega
                  clear hrl
                  go_wp2
                  clear c0
                  go_loopw [4, 104] (fun s t wr' => ∃ (j : Nat) (c' : ByteArray), j ≤ r.length ∧ t = .int .i64 j ∧ s = .string c' ∧ c'.data.toList = c.data.toList ++ (nameL 3 ++ numsL (r.take j)) ∧ wr' = wr) (fun _ t _ => r.length - (intOf t).toNat)
                  case atStart => exact ⟨0, _, Nat.zero_le _, rfl, rfl, by simp [ByteArray.data_append, numsL, nameL], rfl⟩
                  case round =>
                    rename_i wz
                    obtain ⟨j, c', hj, rfl, rfl, htx, rfl⟩ := hrel
                    have hcs' : c'.size ≤ 49020000 := by
                      have h1 := numsL_len (ns := r.take j) (fun n hn => HFX.out n (List.mem_of_mem_take hn))
                      have h2 : (r.take j).length ≤ 11 := by simp; omega
                      have h3 : c.data.toList.length = c.size := data_len c
                      rw [← data_len, htx, List.length_append, List.length_append]
                      have h4 := nameL_len 3
                      omega
                    have HT2 := Lib.hid htx
                    clear htx
                    by_cases hjl : j < r.length
                    · obtain ⟨B3, o3, rfl, hB3, e3⟩ := HL2.out j hjl
                      have f0 := HFX.out r[j] (List.getElem_mem _)
                      have HTK := Lib.hid (show numsL (r.take (j + 1)) = numsL (r.take j) ++ (32 :: Lib.itoa r[j]) by rw [List.take_succ_eq_append_getElem hjl, numsL_snoc])
                      generalize r[j] = x at *
                      obtain ⟨x0, hx0⟩ : ∃ d, d = digs x := ⟨_, rfl⟩
                      have l0 : x0.size ≤ 21 := by rw [hx0]; exact digs_size f0
                      have K0 := Lib.hid (fun W => digs_call f0 x0 hx0 W)
                      have HA : Hid ((c' ++ ((⟨#[32]⟩ : ByteArray) ++ x0)).data.toList = c'.data.toList ++ (32 :: Lib.itoa x)) := by
                        show _ = _
                        rw [hx0]; simp [ByteArray.data_append, digs, ofL]
                      clear hx0 f0
                      go_wp2_with (go_at_call 33; fail)
                      (with_reducible refine (K0.out _).mono ?_)
                      rintro e w' ⟨rfl, rfl⟩
                      go_wp2
                      go_roundw
                      case rel => exact ⟨j + 1, _, by omega, by go_num, rfl, by rw [HA.out, HT2.out, HTK.out]; simp only [List.append_assoc], trivial⟩
                      case measure => simp [intOf]; omega
                    · obtain rfl : j = r.length := by omega
                      have htx := HT2.out
                      rw [List.take_length] at htx
                      have HT3 : Hid ((c' ++ (⟨#[10]⟩ : ByteArray)).data.toList = c.data.toList ++ lineText 3 r) := by
                        show _ = _
                        rw [ByteArray.data_append, Array.toList_append, htx]; simp [lineText]
                      clear htx HT2
                      go_wp2
                      go_roundw
                      case rel => exact ⟨k + 1, _, by omega, by go_num, rfl, by rw [HT3.out, HTX.out]; unfold rowsText; rw [HX.out]; simp only [List.append_assoc], HB.out⟩
                      case measure => simp [intOf]; omega
                · obtain rfl : k = i.travel.length := by omega
                  have htx := HTX.out
                  rw [List.take_length] at htx
                  have HT0 : Hid (c = ofL (probText i)) := by
                    show _ = _
                    apply Go.WideShapes.bytes_inj
                    rw [ofL_toList, htx]; rfl
                  clear htx HTX
                  go_wp2
                  go_ret2
                  exact ⟨by rw [HT0.out]; rfl, HW.out⟩
end Go.Proofs.YteibelmgebhleaaDoor
