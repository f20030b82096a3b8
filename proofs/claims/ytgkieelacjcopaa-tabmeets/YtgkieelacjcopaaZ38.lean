/- A row's beginning, a row's end, as slices. · The walk of TabMeets: for any rows of numbers and any car the law returns true; old memory stands. -/
import Derived.Test.YtgkieelacjcopaaZ17
import Derived.Test.YtgkieelacjcopaaZ31
namespace Go.Proofs.Ytgkieelacjcopaa
open Go.RowKit
set_option linter.unusedSimpArgs false

theorem el_int : Try.prog.underlying 47 = some (.slice (Try.prog.elem 47)) := by kernel_rfl
theorem sz_int (W : World) : (sizeOf (Try.prog.elem 47)).run Try.prog W = .ok 1 W := by kernel_rfl
theorem add_addr (B o k : Nat) : (⟨B, o, none⟩ : Addr).add k = ⟨B, o + k, none⟩ := by unfold Addr.add; split <;> simp_all
theorem slice_h (A : Option Addr) (cap : Nat) (r : List Int) {j : Nat} (hj : j ≤ r.length) (hc : r.length ≤ cap) : ∃ A' cap', (∀ W, (Instr.slice 47 (.slice A r.length cap) none (some (.int .i64 (j : Int))) none).run Try.prog W = .ok (.slice A' (r.take j).length cap') W) ∧
    ∀ W, Recs W 1 num_ (.slice A r.length cap) r → Recs W 1 num_ (.slice A' (r.take j).length cap') (r.take j) := by
  have hl : (r.take j).length = j := by rw [List.length_take]; omega
  refine ⟨(if cap = 0 then A else A.map (·.add (0 * 1))), cap, fun W => ?_, fun W h => ?_⟩
  · rw [run_slice_h (P := Try.prog) W 47 A r.length cap el_int .i64 (j : Int) (by omega) (by omega), sz_int, hl]
    rfl
  · obtain ⟨A2, cap2, he, hcl⟩ := h.num
    obtain ⟨rfl, rfl⟩ : A = A2 ∧ cap = cap2 := by injection he with a _ b; exact ⟨a, b⟩
    have := Recs.begin h hj cap
    rw [hl]
    by_cases h0 : cap = 0
    · rw [if_pos h0]; exact this
    · rw [if_neg h0]
      by_cases hr : 0 < r.length
      · obtain ⟨B, o, rfl, _, _⟩ := hcl 0 hr
        rw [Option.map_some, add_addr]
        exact this
      · have : r.take j = [] := by rw [List.eq_nil_iff_length_eq_zero, hl]; omega
        rw [this, show j = 0 by omega]
        exact Recs.nil
theorem slice_l (A : Option Addr) (cap : Nat) (r : List Int) {k : Nat} (hk : k ≤ r.length) (hc : r.length ≤ cap) : ∃ A' cap', (∀ W, (Instr.slice 47 (.slice A r.length cap) (some (.int .i64 (k : Int))) none none).run Try.prog W = .ok (.slice A' (r.drop k).length cap') W) ∧
    ∀ W, Recs W 1 num_ (.slice A r.length cap) r → Recs W 1 num_ (.slice A' (r.drop k).length cap') (r.drop k) := by
  have hl : (r.drop k).length = r.length - k := List.length_drop
  refine ⟨(if cap = k then A else A.map (·.add (k * 1))), cap - k, fun W => ?_, fun W h => ?_⟩
  · rw [run_slice_l (P := Try.prog) W 47 A r.length cap el_int .i64 (k : Int) (by omega) (by omega), sz_int, hl]
    rfl
  · obtain ⟨A2, cap2, he, hcl⟩ := h.num
    obtain ⟨rfl, rfl⟩ : A = A2 ∧ cap = cap2 := by injection he with a _ b; exact ⟨a, b⟩
    by_cases hr : k < r.length
    · obtain ⟨B, o, rfl, hB, _⟩ := hcl k hr
      rw [if_neg (by omega), Option.map_some, add_addr]
      refine ⟨_, _, rfl, fun m hm => ?_⟩
      obtain ⟨B', o', e', hB', hx⟩ := hcl (k + m) (by omega)
      injection e' with e'
      injection e' with e1 e2 _
      subst e1 e2
      refine ⟨B, o + k * 1, rfl, hB, fun q hq => ?_⟩
      obtain rfl : q = 0 := by omega
      rw [show o + k * 1 + m * 1 + 0 = o + (k + m) by omega, hx]
      simp [num_]
    · have : r.drop k = [] := List.drop_eq_nil_of_le (by omega)
      rw [this]
      exact Recs.nil
end Go.Proofs.Ytgkieelacjcopaa
namespace Go.Proofs.Ytgkieelacjcopaa
open Go.RowKit
set_option linter.unusedSimpArgs false

/-- the variable i, the rows r and s, the heads of r, the tails of s -/
structure M5 (w W : World) (I : Nat) (A1 A2 A3 A4 : Option Addr) (c1 c2 c3 c4 : Nat) (i : Prob) (A : Option Addr) (cap : Nat) (r : List Int) (E : Option Addr) (ecap : Nat) (s : List Int) (c : Int) (gh gt : Nat) : Prop where
  two : Two w W I A1 A2 A3 A4 c1 c2 c3 c4 i A cap r
  row2 : Recs W 1 num_ (.slice E s.length ecap) s
  hr : RowC W gh 7 (fun k => headC (headL i c (r.take k))) (r.length + 1)
  tr : RowC W gt 8 (fun k => tailC (tailL i c (s.drop k))) (s.length + 1)
theorem M5.on {w W W' : World} {I : Nat} {A1 A2 A3 A4 : Option Addr} {c1 c2 c3 c4 : Nat} {i : Prob} {A E : Option Addr} {cap ecap : Nat} {r s : List Int} {c : Int} {gh gt : Nat} (h : M5 w W I A1 A2 A3 A4 c1 c2 c3 c4 i A cap r E ecap s c gh gt) (hb : Below W.heap.size W W') : M5 w W' I A1 A2 A3 A4 c1 c2 c3 c4 i A cap r E ecap s c gh gt :=
  ⟨h.two.on hb, h.row2.below hb, h.hr.below hb, h.tr.below hb⟩
theorem trip_meet {W : World} {C : Nat} {ev : Option TripR} {A1 A2 : Option Addr} {n1 c1 n2 c2 : Nat} {cc hh mc : Int} {ok mo : Bool} (h : TripV W C ev A1 n1 c1 A2 n2 c2 cc hh ok) (hm : (ev = none ∧ mc = 0 ∧ mo = false) ∨ ∃ t, ev = some t ∧ mc = t.cost ∧ mo = true) : ok = mo ∧ cc = mc ∧ (ok = false → mc = 0) := by
  cases ok with
  | false =>
    obtain ⟨e, _, _, _, _, _, _, e2, _⟩ := h.no rfl
    rcases hm with ⟨_, m1, m2⟩ | ⟨t, m1, _, _⟩
    · exact ⟨m2.symm, by rw [e2, m1], fun _ => m1⟩
    · rw [e] at m1; cases m1
  | true =>
    obtain ⟨t, e, _, _, e2, _⟩ := h.yes rfl
    rcases hm with ⟨m1, _, _⟩ | ⟨t', m1, m2, m3⟩
    · rw [e] at m1; cases m1
    · rw [e] at m1
      injection m1 with m1
      subst m1
      exact ⟨m3.symm, by rw [e2, m2], fun h => by cases h⟩
theorem ints_app (a b : List Int) : ints a ++ ints b = ints (a ++ b) := by simp [ints]
set_option maxRecDepth 100000 in
set_option maxHeartbeats 16000000 in
theorem meets5_walk (v u u2 : Value) (l row row2 : List Int) (car : Int) (w : World) (h : Recs w 1 num_ v l) (hl : l.length ≤ 9223372036854775807) (hr : Recs w 1 num_ u row) (hrl : row.length ≤ 9223372036854775807) (hr2 : Recs w 1 num_ u2 row2) (hrl2 : row2.length ≤ 9223372036854775807) :
    Calls Try.prog 7 #[v, u, u2, .int .i64 car] w fun e w' => e = .returned (.bool true) ∧ Below w.heap.size w w' := by
  have HU2 := Lib.hid hr2
  clear hr2
  have HP := Lib.hid (play_said v l w h hl)
  have HU := Lib.hid hr
  clear h hr
  go_enter Try.func7, Try.ntmps7
  go_wp2_with (go_at_call 19; fail)
  (with_reducible refine (HP.out).mono ?_)
  rintro e w1 ⟨i, A1, A2, A3, A4, c1, c2, c3, c4, rfl, hs1, hok, hs2, hs8, hp2, hb1⟩
  have HOK := Lib.hid hok
  have HF := Lib.hid (fine_of hok)
  have HM := Lib.hid (mated_of hok)
  have BX1 := Lib.hid (box_new hs1 27)
  have HB1 := Lib.hid (hb1.alloc hb1.size (.cells #[.slice A1 i.cars.length c1, .slice A2 i.stops.length c2, .slice A3 i.pairs.length c3, .slice A4 i.travel.length c4] 27))
  have hcar := (fine_of hok).cars
  clear hok hs1 hb1 HP
  go_upto_region 2 with (fail)
  generalize w1.alloc (.cells #[.slice A1 i.cars.length c1, .slice A2 i.stops.length c2, .slice A3 i.pairs.length c3, .slice A4 i.travel.length c4] 27) = wa at *
  generalize w1.heap.size = I at *
  have k0 := BX1.out.b0
  have k1 := BX1.out.b1
  have k2 := BX1.out.b2
  have k3 := BX1.out.b3
  have hIz := BX1.out.lt
  obtain ⟨cn, hcn, hcnl⟩ := within_nat car i.cars.length (by omega)
  have K0 := Lib.hid (fun W => within_q car i.cars.length W (by omega) (by omega) _ hcn)
  clear hcn
  go_wp2_with (go_at_call 12; fail)
  (with_reducible refine (K0.out _).mono ?_)
  rintro e w2 ⟨rfl, hww⟩
  replace hww := hww.symm
  subst hww
  clear K0
  clear k0 k1 k2 k3 hIz
  have SS : Hid (∀ W, Below wa.heap.size wa W → W.cell? ⟨I, 0, none⟩ = some (.slice A1 i.cars.length c1) ∧ W.cell? ⟨I, 1, none⟩ = some (.slice A2 i.stops.length c2) ∧ W.cell? ⟨I, 2, none⟩ = some (.slice A3 i.pairs.length c3) ∧ W.cell? ⟨I, 3, none⟩ = some (.slice A4 i.travel.length c4)) := fun W hB => ⟨(BX1.out.below hB).b0, (BX1.out.below hB).b1, (BX1.out.below hB).b2, (BX1.out.below hB).b3⟩
  have K1 : Hid (∀ W, Below wa.heap.size wa W → Calls Try.prog 20 #[.agg #[.slice A1 i.cars.length c1, .slice A2 i.stops.length c2, .slice A3 i.pairs.length c3, .slice A4 i.travel.length c4], u] W (RowEnd W)) := fun W hB => row_any _ _ i row W (BX1.out.lies.below hB) HOK.out (by omega) hs2 ((HU.out.below HB1.out).below hB) hrl
  have K2 : Hid (∀ W, Below wa.heap.size wa W → Calls Try.prog 20 #[.agg #[.slice A1 i.cars.length c1, .slice A2 i.stops.length c2, .slice A3 i.pairs.length c3, .slice A4 i.travel.length c4], u2] W (RowEnd W)) := fun W hB => row_any _ _ i row2 W (BX1.out.lies.below hB) HOK.out (by omega) hs2 ((HU2.out.below HB1.out).below hB) hrl2
  go_upto_region 3 with (fail)
  refine wp_region_z (S := (fun W => W.cell? ⟨I, 0, none⟩ = some (.slice A1 i.cars.length c1) ∧ W.cell? ⟨I, 1, none⟩ = some (.slice A2 i.stops.length c2) ∧ W.cell? ⟨I, 2, none⟩ = some (.slice A3 i.pairs.length c3) ∧ W.cell? ⟨I, 3, none⟩ = some (.slice A4 i.travel.length c4))) (z := 8) (by kernel_rfl) (SS.out _ (Below.refl wa.heap.size wa).drew) (fun hH => ?_)
  refine wpAnyZ_takeS (i := 0) (v := ?_) rfl (by kernel_rfl) (by kernel_rfl) (by kernel_rfl) (by kernel_rfl) (fun _ _ _ h => h) (gives_value (by rfl) ?_) (by assumption) ?_
  rotate_left
  · intro w hSw
    (try dsimp only at hSw)
    go_simp
    (try with_reducible rfl)
  (try simp only [Act.put, List.getElem_toArray, List.getElem_cons_succ, List.getElem_cons_zero, List.setIfInBounds_toArray, List.set_cons_zero, List.set_cons_succ])
  refine wpAnyZ_takeS (i := 1) (v := ?_) rfl (by kernel_rfl) (by kernel_rfl) (by kernel_rfl) (by kernel_rfl) (fun _ _ _ h => h) (gives_value (by rfl) ?_) (by assumption) ?_
  rotate_left
  · intro w hSw
    (try dsimp only at hSw)
    go_simp
    (try with_reducible rfl)
  (try simp only [Act.put, List.getElem_toArray, List.getElem_cons_succ, List.getElem_cons_zero, List.setIfInBounds_toArray, List.set_cons_zero, List.set_cons_succ])
  refine wpAnyZ_takeS (i := 3) (v := ?_) rfl (by kernel_rfl) (by kernel_rfl) (by kernel_rfl) (by kernel_rfl) (fun _ _ _ h => h) (gives_value (by rfl) ?_) (by assumption) ?_
  rotate_left
  · intro w hSw
    (try dsimp only at hSw)
    go_simp
    (try with_reducible rfl)
  (try simp only [Act.put, List.getElem_toArray, List.getElem_cons_succ, List.getElem_cons_zero, List.setIfInBounds_toArray, List.set_cons_zero, List.set_cons_succ])
  refine wpAnyZ_takeS (i := 4) (v := ?_) rfl (by kernel_rfl) (by kernel_rfl) (by kernel_rfl) (by kernel_rfl) (fun _ _ _ h => h) (gives_value (by rfl) ?_) (by assumption) ?_
  rotate_left
  · intro w hSw
    (try dsimp only at hSw)
    go_simp
    (try with_reducible rfl)
  (try simp only [Act.put, List.getElem_toArray, List.getElem_cons_succ, List.getElem_cons_zero, List.setIfInBounds_toArray, List.set_cons_zero, List.set_cons_succ])
  refine wpAnyZ_one (i := 2) (by kernel_rfl) ?_
  refine zstep rfl (fun K hK => ?_)
  go_simp
  (with_reducible refine (K1.out _ (Below.refl wa.heap.size wa).drew).mono ?_)
  rintro e w2 ⟨r, A, cap, rfl, hr14, hrc, hrx, hrr, hrf, hb⟩
  have HBw2 := Lib.hid (((Below.refl wa.heap.size wa).drew).trans hb)
  have RR2 := Lib.hid hrr
  have HRX := Lib.hid hrx
  clear hrr hrf hrx
  clear hb
  refine hK.out _ _ (fun _ => SS.out _ HBw2.out) (fun hH => ?_)
  replace hH := hH (by decide)
  clear hK K
  (try simp only [Act.put, List.getElem_toArray, List.getElem_cons_succ, List.getElem_cons_zero, List.setIfInBounds_toArray, List.set_cons_zero, List.set_cons_succ])
  refine wpAnyZ_one (i := 5) (by kernel_rfl) ?_
  refine zstep rfl (fun K hK => ?_)
  go_simp
  (with_reducible refine (K2.out _ HBw2.out).mono ?_)
  rintro e w3 ⟨s, E, ecap, rfl, hs14, hsc, hsx, hsr, hsf, hb⟩
  have HBw3 := Lib.hid (HBw2.out.trans (hb.mono HBw2.out.size))
  have RS3 := Lib.hid hsr
  have RR3 := Lib.hid (RR2.out.below hb)
  have HSX := Lib.hid hsx
  clear hsr hsf hsx RR2
  clear hb
  refine hK.out _ _ (fun _ => SS.out _ HBw3.out) (fun hH => ?_)
  replace hH := hH (by decide)
  clear hK K
  (try simp only [Act.put, List.getElem_toArray, List.getElem_cons_succ, List.getElem_cons_zero, List.setIfInBounds_toArray, List.set_cons_zero, List.set_cons_succ])
  refine wpAnyZ_takeS (i := 6) (v := ?_) rfl (by kernel_rfl) (by kernel_rfl) (by kernel_rfl) (by kernel_rfl) (fun _ _ _ h => h) (gives_value (by rfl) ?_) (by assumption) ?_
  rotate_left
  · intro w hSw
    (try dsimp only at hSw)
    go_simp
    (try with_reducible rfl)
  (try simp only [Act.put, List.getElem_toArray, List.getElem_cons_succ, List.getElem_cons_zero, List.setIfInBounds_toArray, List.set_cons_zero, List.set_cons_succ])
  refine wpAnyZ_takeS (i := 7) (v := ?_) rfl (by kernel_rfl) (by kernel_rfl) (by kernel_rfl) (by kernel_rfl) (fun _ _ _ h => h) (gives_value (by rfl) ?_) (by assumption) ?_
  rotate_left
  · intro w hSw
    (try dsimp only at hSw)
    go_simp
    (try with_reducible rfl)
  (try simp only [Act.put, List.getElem_toArray, List.getElem_cons_succ, List.getElem_cons_zero, List.setIfInBounds_toArray, List.set_cons_zero, List.set_cons_succ])
  refine wpAnyZ_done (by kernel_rfl) ?_ _
  clear hH
  have TW := Lib.hid (⟨HB1.out.trans (HBw3.out.mono HB1.out.size), BX1.out.below HBw3.out, RR3.out⟩ : Two w w3 I A1 A2 A3 A4 c1 c2 c3 c4 i A cap r)
  clear SS K1 K2 BX1 HB1 HU HU2 RR3 HBw2 HBw3
  have HRX2 : Hid (∀ x ∈ r, -1000000 ≤ x ∧ x ≤ 1000000) := fun x hx => by have := HRX.out x hx; omega
  have HSX2 : Hid (∀ x ∈ s, -1000000 ≤ x ∧ x ≤ 1000000) := fun x hx => by have := HSX.out x hx; omega
  clear HRX HSX
  have SS : Hid (∀ W, Below w3.heap.size w3 W → W.cell? ⟨I, 0, none⟩ = some (.slice A1 i.cars.length c1) ∧ W.cell? ⟨I, 1, none⟩ = some (.slice A2 i.stops.length c2) ∧ W.cell? ⟨I, 2, none⟩ = some (.slice A3 i.pairs.length c3) ∧ W.cell? ⟨I, 3, none⟩ = some (.slice A4 i.travel.length c4)) := fun W hB => ⟨(TW.out.box.below hB).b0, (TW.out.box.below hB).b1, (TW.out.box.below hB).b2, (TW.out.box.below hB).b3⟩
  have hc : inB (cn : Int) 0 (i.cars.length - 1) = true := inB_iff.2 ⟨by omega, by omega⟩
  have K1 : Hid (∀ W, Below w3.heap.size w3 W → Calls Try.prog 10 #[.agg #[.slice A1 i.cars.length c1, .slice A2 i.stops.length c2, .slice A3 i.pairs.length c3, .slice A4 i.travel.length c4], .int .i64 cn, .slice A r.length cap] W fun e w' => ∃ g, e = .returned (.slice (some ⟨g, 0, none⟩) (r.length + 1) (r.length + 1)) ∧ W.heap.size ≤ g ∧ RowC w' g 7 (fun k => headC (headL i cn (r.take k))) (r.length + 1) ∧ Below W.heap.size W w') := fun W hB => pheads_in _ _ i cn r W (TW.out.box.lies.below hB) HOK.out (by omega) (TW.out.row.below hB) (by omega) hc
  have K2 : Hid (∀ W, Below w3.heap.size w3 W → Calls Try.prog 11 #[.agg #[.slice A1 i.cars.length c1, .slice A2 i.stops.length c2, .slice A3 i.pairs.length c3, .slice A4 i.travel.length c4], .int .i64 cn, .slice E s.length ecap] W fun e w' => ∃ g, e = .returned (.slice (some ⟨g, 0, none⟩) (s.length + 1) (s.length + 1)) ∧ W.heap.size ≤ g ∧ RowC w' g 8 (fun k => tailC (tailL i cn (s.drop k))) (s.length + 1) ∧ Below W.heap.size W w') := fun W hB => ptails_in _ _ i cn s W (TW.out.box.lies.below hB) HOK.out (by omega) (RS3.out.below hB) (by omega) hc
  have HC := Lib.hid hc
  clear hc
  go_upto_region 4 with (fail)
  refine wp_region_z (S := (fun W => W.cell? ⟨I, 0, none⟩ = some (.slice A1 i.cars.length c1) ∧ W.cell? ⟨I, 1, none⟩ = some (.slice A2 i.stops.length c2) ∧ W.cell? ⟨I, 2, none⟩ = some (.slice A3 i.pairs.length c3) ∧ W.cell? ⟨I, 3, none⟩ = some (.slice A4 i.travel.length c4))) (z := 10) (by kernel_rfl) (SS.out _ (Below.refl w3.heap.size w3).drew) (fun hH => ?_)
  refine wpAnyZ_takeS (i := 0) (v := ?_) rfl (by kernel_rfl) (by kernel_rfl) (by kernel_rfl) (by kernel_rfl) (fun _ _ _ h => h) (gives_value (by rfl) ?_) (by assumption) ?_
  rotate_left
  · intro w hSw
    (try dsimp only at hSw)
    go_simp
    (try with_reducible rfl)
  (try simp only [Act.put, List.getElem_toArray, List.getElem_cons_succ, List.getElem_cons_zero, List.setIfInBounds_toArray, List.set_cons_zero, List.set_cons_succ])
  refine wpAnyZ_takeS (i := 1) (v := ?_) rfl (by kernel_rfl) (by kernel_rfl) (by kernel_rfl) (by kernel_rfl) (fun _ _ _ h => h) (gives_value (by rfl) ?_) (by assumption) ?_
  rotate_left
  · intro w hSw
    (try dsimp only at hSw)
    go_simp
    (try with_reducible rfl)
  (try simp only [Act.put, List.getElem_toArray, List.getElem_cons_succ, List.getElem_cons_zero, List.setIfInBounds_toArray, List.set_cons_zero, List.set_cons_succ])
  refine wpAnyZ_takeS (i := 2) (v := ?_) rfl (by kernel_rfl) (by kernel_rfl) (by kernel_rfl) (by kernel_rfl) (fun _ _ _ h => h) (gives_value (by rfl) ?_) (by assumption) ?_
  rotate_left
  · intro w hSw
    (try dsimp only at hSw)
    go_simp
    (try with_reducible rfl)
  (try simp only [Act.put, List.getElem_toArray, List.getElem_cons_succ, List.getElem_cons_zero, List.setIfInBounds_toArray, List.set_cons_zero, List.set_cons_succ])
  refine wpAnyZ_takeS (i := 4) (v := ?_) rfl (by kernel_rfl) (by kernel_rfl) (by kernel_rfl) (by kernel_rfl) (fun _ _ _ h => h) (gives_value (by rfl) ?_) (by assumption) ?_
  rotate_left
  · intro w hSw
    (try dsimp only at hSw)
    go_simp
    (try with_reducible rfl)
  (try simp only [Act.put, List.getElem_toArray, List.getElem_cons_succ, List.getElem_cons_zero, List.setIfInBounds_toArray, List.set_cons_zero, List.set_cons_succ])
  refine wpAnyZ_takeS (i := 5) (v := ?_) rfl (by kernel_rfl) (by kernel_rfl) (by kernel_rfl) (by kernel_rfl) (fun _ _ _ h => h) (gives_value (by rfl) ?_) (by assumption) ?_
  rotate_left
  · intro w hSw
    (try dsimp only at hSw)
    go_simp
    (try with_reducible rfl)
  (try simp only [Act.put, List.getElem_toArray, List.getElem_cons_succ, List.getElem_cons_zero, List.setIfInBounds_toArray, List.set_cons_zero, List.set_cons_succ])
  refine wpAnyZ_takeS (i := 6) (v := ?_) rfl (by kernel_rfl) (by kernel_rfl) (by kernel_rfl) (by kernel_rfl) (fun _ _ _ h => h) (gives_value (by rfl) ?_) (by assumption) ?_
  rotate_left
  · intro w hSw
    (try dsimp only at hSw)
    go_simp
    (try with_reducible rfl)
  (try simp only [Act.put, List.getElem_toArray, List.getElem_cons_succ, List.getElem_cons_zero, List.setIfInBounds_toArray, List.set_cons_zero, List.set_cons_succ])
  refine wpAnyZ_one (i := 3) (by kernel_rfl) ?_
  refine zstep rfl (fun K hK => ?_)
  go_simp
  (with_reducible refine (K1.out _ (Below.refl w3.heap.size w3).drew).mono ?_)
  rintro e w5 ⟨gh, rfl, hgh, hrh, hb⟩
  have HBw5 := Lib.hid (((Below.refl w3.heap.size w3).drew).trans hb)
  have RH5 := Lib.hid hrh
  clear hrh hgh
  clear hb
  refine hK.out _ _ (fun _ => SS.out _ HBw5.out) (fun hH => ?_)
  replace hH := hH (by decide)
  clear hK K
  (try simp only [Act.put, List.getElem_toArray, List.getElem_cons_succ, List.getElem_cons_zero, List.setIfInBounds_toArray, List.set_cons_zero, List.set_cons_succ])
  refine wpAnyZ_one (i := 7) (by kernel_rfl) ?_
  refine zstep rfl (fun K hK => ?_)
  go_simp
  (with_reducible refine (K2.out _ HBw5.out).mono ?_)
  rintro e w6 ⟨gt, rfl, hgt, hrt, hb⟩
  have HBw6 := Lib.hid (HBw5.out.trans (hb.mono HBw5.out.size))
  have RT6 := Lib.hid hrt
  have RH6 := Lib.hid (RH5.out.below hb)
  clear hrt hgt RH5
  clear hb
  refine hK.out _ _ (fun _ => SS.out _ HBw6.out) (fun hH => ?_)
  replace hH := hH (by decide)
  clear hK K
  (try simp only [Act.put, List.getElem_toArray, List.getElem_cons_succ, List.getElem_cons_zero, List.setIfInBounds_toArray, List.set_cons_zero, List.set_cons_succ])
  refine wpAnyZ_takeS (i := 8) (v := ?_) rfl (by kernel_rfl) (by kernel_rfl) (by kernel_rfl) (by kernel_rfl) (fun _ _ _ h => h) (gives_value (by rfl) ?_) (by assumption) ?_
  rotate_left
  · intro w hSw
    (try dsimp only at hSw)
    go_simp
    (try with_reducible rfl)
  (try simp only [Act.put, List.getElem_toArray, List.getElem_cons_succ, List.getElem_cons_zero, List.setIfInBounds_toArray, List.set_cons_zero, List.set_cons_succ])
  refine wpAnyZ_takeS (i := 9) (v := ?_) rfl (by kernel_rfl) (by kernel_rfl) (by kernel_rfl) (by kernel_rfl) (fun _ _ _ h => h) (gives_value (by rfl) ?_) (by assumption) ?_
  rotate_left
  · intro w hSw
    (try dsimp only at hSw)
    go_simp
    (try with_reducible rfl)
  (try simp only [Act.put, List.getElem_toArray, List.getElem_cons_succ, List.getElem_cons_zero, List.setIfInBounds_toArray, List.set_cons_zero, List.set_cons_succ])
  refine wpAnyZ_done (by kernel_rfl) ?_ _
  clear hH
  have M5a := Lib.hid (⟨TW.out.on HBw6.out, RS3.out.below HBw6.out, RH6.out, RT6.out⟩ : M5 w w6 I A1 A2 A3 A4 c1 c2 c3 c4 i A cap r E ecap s cn gh gt)
  clear SS K1 K2 TW RS3 RH6 RT6 HBw5 HBw6
  have tl : (((r.length + 1 : Nat) : Int) != (r.length : Int) + 1) = false := by simp
  have twl : IntKind.i64.wrap ((r.length : Int) + 1) = (r.length : Int) + 1 := IntWalk.i64_in _ (by omega)
  have tl2 : (((s.length + 1 : Nat) : Int) != (s.length : Int) + 1) = false := by simp
  have twl2 : IntKind.i64.wrap ((s.length : Int) + 1) = (s.length : Int) + 1 := IntWalk.i64_in _ (by omega)
  obtain ⟨i0, hi0, hz0, hz1, hz2⟩ := info_parts int_info
  go_wp2
  clear tl twl tl2 twl2
  go_loopw [57] (fun kv wr => ∃ j : Nat, j ≤ r.length + 1 ∧ kv = .int .i64 j ∧ Below w6.heap.size w6 wr) (fun kv _ => r.length + 1 - (intOf kv).toNat)
  case atStart => exact ⟨0, Nat.zero_le _, rfl, Below.refl _ _⟩
  case round =>
    obtain ⟨j, hj, rfl, hbr⟩ := hrel
    have HBr := Lib.hid hbr
    have M5r := Lib.hid (M5a.out.on hbr)
    clear hbr
    by_cases hlt : j < r.length + 1
    · have n1 : (j : Int) < ((r.length + 1 : Nat) : Int) := by omega
      have n1' : (j : Int) < (r.length : Int) + 1 := by omega
      go_wp2
      clear n1 n1'
      go_loopw [62] (fun kv wr => ∃ k : Nat, k ≤ s.length + 1 ∧ kv = .int .i64 k ∧ Below w6.heap.size w6 wr) (fun kv _ => s.length + 1 - (intOf kv).toNat)
      case atStart => exact ⟨0, Nat.zero_le _, rfl, HBr.out⟩
      case round =>
        obtain ⟨k, hk, rfl, hbs⟩ := hrel
        have HBs := Lib.hid hbs
        have M5s := Lib.hid (M5a.out.on hbs)
        clear hbs
        by_cases hkl : k < s.length + 1
        · obtain ⟨x0, x1, x2, x3, x4, x5, x6, hxV, hxC⟩ := head_form (headL i cn (r.take j))
          obtain ⟨y0, y1, y2, y3, y4, y5, y6, y7, hyV, hyC⟩ := tail_form (tailL i cn (s.drop k))
          obtain ⟨mc, mo, hmV, hmE⟩ : ∃ mc mo, meetV ((evalL i cn (r.take j ++ s.drop k)).map (·.cost)) = .tuple #[.int .i64 mc, .bool mo] ∧ ((evalL i cn (r.take j ++ s.drop k) = none ∧ mc = 0 ∧ mo = false) ∨ ∃ t, evalL i cn (r.take j ++ s.drop k) = some t ∧ mc = t.cost ∧ mo = true) := by
            cases evalL i cn (r.take j ++ s.drop k) with
            | none => exact ⟨0, false, rfl, .inl ⟨rfl, rfl, rfl⟩⟩
            | some t => exact ⟨t.cost, true, rfl, .inr ⟨t, rfl, rfl, rfl⟩⟩
          have K1 : Hid (∀ W, Below wr.heap.size wr W → Calls Try.prog 13 #[.agg #[.slice A1 i.cars.length c1, .slice A2 i.stops.length c2, .slice A3 i.pairs.length c3, .slice A4 i.travel.length c4], .int .i64 cn, .agg #[.bool x0, .int .i64 x1, .int .i64 x2, .int .i64 x3, .int .u32 x4, .int .u32 x5, .int .i64 x6], .agg #[.bool y0, .int .i64 y1, .int .i64 y2, .int .i64 y3, .int .i64 y4, .int .u32 y5, .int .u32 y6, .int .i64 y7]] W fun e w' => e = .returned (.tuple #[.int .i64 mc, .bool mo]) ∧ Below W.heap.size W w') := fun W hB => by
            have := pmeet_any _ i cn (headL i cn (r.take j)) (tailL i cn (s.drop k)) W (M5s.out.two.box.lies.below hB) HOK.out (by omega) (head_bd HF.out HM.out (by omega) (by omega)) (fun hc => tail_bd' HF.out HM.out hc (by omega))
            rw [if_pos HC.out, meet_eval HM.out (carAt_bounds HF.out cn).1 HC.out, hmV, hxV, hyV] at this; exact this
          have HME := Lib.hid hmE
          have SS : Hid (∀ W, Below wr.heap.size wr W → W.cell? ⟨I, 0, none⟩ = some (.slice A1 i.cars.length c1) ∧ W.cell? ⟨I, 1, none⟩ = some (.slice A2 i.stops.length c2) ∧ W.cell? ⟨I, 2, none⟩ = some (.slice A3 i.pairs.length c3) ∧ W.cell? ⟨I, 3, none⟩ = some (.slice A4 i.travel.length c4) ∧ W.cell? ⟨gh, j * 7, none⟩ = some (.bool x0) ∧ W.cell? ⟨gh, j * 7 + 1, none⟩ = some (.int .i64 x1) ∧ W.cell? ⟨gh, j * 7 + 2, none⟩ = some (.int .i64 x2) ∧ W.cell? ⟨gh, j * 7 + 3, none⟩ = some (.int .i64 x3) ∧ W.cell? ⟨gh, j * 7 + 4, none⟩ = some (.int .u32 x4) ∧ W.cell? ⟨gh, j * 7 + 5, none⟩ = some (.int .u32 x5) ∧ W.cell? ⟨gh, j * 7 + 6, none⟩ = some (.int .i64 x6) ∧ W.cell? ⟨gt, k * 8, none⟩ = some (.bool y0) ∧ W.cell? ⟨gt, k * 8 + 1, none⟩ = some (.int .i64 y1) ∧ W.cell? ⟨gt, k * 8 + 2, none⟩ = some (.int .i64 y2) ∧ W.cell? ⟨gt, k * 8 + 3, none⟩ = some (.int .i64 y3) ∧ W.cell? ⟨gt, k * 8 + 4, none⟩ = some (.int .i64 y4) ∧ W.cell? ⟨gt, k * 8 + 5, none⟩ = some (.int .u32 y5) ∧ W.cell? ⟨gt, k * 8 + 6, none⟩ = some (.int .u32 y6) ∧ W.cell? ⟨gt, k * 8 + 7, none⟩ = some (.int .i64 y7)) := fun W hB => by
            have X := M5s.out.on hB
            obtain ⟨a0, a1, a2, a3, a4, a5, a6⟩ := X.hr.at7 (k := j) (by omega) hxC
            obtain ⟨d0, d1, d2, d3, d4, d5, d6, d7⟩ := X.tr.at8 (k := k) hkl hyC
            exact ⟨X.two.box.b0, X.two.box.b1, X.two.box.b2, X.two.box.b3, a0, a1, a2, a3, a4, a5, a6, d0, d1, d2, d3, d4, d5, d6, d7⟩
          clear hxV hxC hyV hyC hmV hmE
          have n1 : (j : Int) < ((r.length + 1 : Nat) : Int) := by omega
          have n1' : (j : Int) < (r.length : Int) + 1 := by omega
          have n0 : (0 : Int) ≤ (j : Int) := by omega
          have n2 : (j : Int).toNat = j := by omega
          have m1 : (k : Int) < ((s.length + 1 : Nat) : Int) := by omega
          have m1' : (k : Int) < (s.length : Int) + 1 := by omega
          have m0 : (0 : Int) ≤ (k : Int) := by omega
          have m2 : (k : Int).toNat = k := by omega
          go_upto_region 13 with (fail)
          refine wp_region_z (S := (fun W => W.cell? ⟨I, 0, none⟩ = some (.slice A1 i.cars.length c1) ∧ W.cell? ⟨I, 1, none⟩ = some (.slice A2 i.stops.length c2) ∧ W.cell? ⟨I, 2, none⟩ = some (.slice A3 i.pairs.length c3) ∧ W.cell? ⟨I, 3, none⟩ = some (.slice A4 i.travel.length c4) ∧ W.cell? ⟨gh, j * 7, none⟩ = some (.bool x0) ∧ W.cell? ⟨gh, j * 7 + 1, none⟩ = some (.int .i64 x1) ∧ W.cell? ⟨gh, j * 7 + 2, none⟩ = some (.int .i64 x2) ∧ W.cell? ⟨gh, j * 7 + 3, none⟩ = some (.int .i64 x3) ∧ W.cell? ⟨gh, j * 7 + 4, none⟩ = some (.int .u32 x4) ∧ W.cell? ⟨gh, j * 7 + 5, none⟩ = some (.int .u32 x5) ∧ W.cell? ⟨gh, j * 7 + 6, none⟩ = some (.int .i64 x6) ∧ W.cell? ⟨gt, k * 8, none⟩ = some (.bool y0) ∧ W.cell? ⟨gt, k * 8 + 1, none⟩ = some (.int .i64 y1) ∧ W.cell? ⟨gt, k * 8 + 2, none⟩ = some (.int .i64 y2) ∧ W.cell? ⟨gt, k * 8 + 3, none⟩ = some (.int .i64 y3) ∧ W.cell? ⟨gt, k * 8 + 4, none⟩ = some (.int .i64 y4) ∧ W.cell? ⟨gt, k * 8 + 5, none⟩ = some (.int .u32 y5) ∧ W.cell? ⟨gt, k * 8 + 6, none⟩ = some (.int .u32 y6) ∧ W.cell? ⟨gt, k * 8 + 7, none⟩ = some (.int .i64 y7))) (z := 16) (by kernel_rfl) (SS.out _ (Below.refl wr.heap.size wr).drew) (fun hH => ?_)
          refine wpAnyZ_takeS (i := 0) (v := ?_) rfl (by kernel_rfl) (by kernel_rfl) (by kernel_rfl) (by kernel_rfl) (fun _ _ _ h => h) (gives_value (by rfl) ?_) (by assumption) ?_
          rotate_left
          · intro w hSw
            (try dsimp only at hSw)
            go_simp
            (try with_reducible rfl)
          (try simp only [Act.put, List.getElem_toArray, List.getElem_cons_succ, List.getElem_cons_zero, List.setIfInBounds_toArray, List.set_cons_zero, List.set_cons_succ])
          refine wpAnyZ_takeS (i := 1) (v := ?_) rfl (by kernel_rfl) (by kernel_rfl) (by kernel_rfl) (by kernel_rfl) (fun _ _ _ h => h) (gives_value (by rfl) ?_) (by assumption) ?_
          rotate_left
          · intro w hSw
            (try dsimp only at hSw)
            go_simp
            (try with_reducible rfl)
          (try simp only [Act.put, List.getElem_toArray, List.getElem_cons_succ, List.getElem_cons_zero, List.setIfInBounds_toArray, List.set_cons_zero, List.set_cons_succ])
          refine wpAnyZ_takeS (i := 2) (v := ?_) rfl (by kernel_rfl) (by kernel_rfl) (by kernel_rfl) (by kernel_rfl) (fun _ _ _ h => h) (gives_value (by rfl) ?_) (by assumption) ?_
          rotate_left
          · intro w hSw
            (try dsimp only at hSw)
            go_simp
            (try with_reducible rfl)
          (try simp only [Act.put, List.getElem_toArray, List.getElem_cons_succ, List.getElem_cons_zero, List.setIfInBounds_toArray, List.set_cons_zero, List.set_cons_succ])
          refine wpAnyZ_takeS (i := 3) (v := ?_) rfl (by kernel_rfl) (by kernel_rfl) (by kernel_rfl) (by kernel_rfl) (fun _ _ _ h => h) (gives_value (by rfl) ?_) (by assumption) ?_
          rotate_left
          · intro w hSw
            (try dsimp only at hSw)
            go_simp
            (try with_reducible rfl)
          (try simp only [Act.put, List.getElem_toArray, List.getElem_cons_succ, List.getElem_cons_zero, List.setIfInBounds_toArray, List.set_cons_zero, List.set_cons_succ])
          refine wpAnyZ_takeS (i := 4) (v := ?_) rfl (by kernel_rfl) (by kernel_rfl) (by kernel_rfl) (by kernel_rfl) (fun _ _ _ h => h) (gives_value (by rfl) ?_) (by assumption) ?_
          rotate_left
          · intro w hSw
            (try dsimp only at hSw)
            go_simp
            (try with_reducible rfl)
          (try simp only [Act.put, List.getElem_toArray, List.getElem_cons_succ, List.getElem_cons_zero, List.setIfInBounds_toArray, List.set_cons_zero, List.set_cons_succ])
          refine wpAnyZ_takeS (i := 5) (v := ?_) rfl (by kernel_rfl) (by kernel_rfl) (by kernel_rfl) (by kernel_rfl) (fun _ _ _ h => h) (gives_value (by rfl) ?_) (by assumption) ?_
          rotate_left
          · intro w hSw
            (try dsimp only at hSw)
            go_simp
            (try with_reducible rfl)
          (try simp only [Act.put, List.getElem_toArray, List.getElem_cons_succ, List.getElem_cons_zero, List.setIfInBounds_toArray, List.set_cons_zero, List.set_cons_succ])
          refine wpAnyZ_takeS (i := 6) (v := ?_) rfl (by kernel_rfl) (by kernel_rfl) (by kernel_rfl) (by kernel_rfl) (fun _ _ _ h => h) (gives_value (by rfl) ?_) (by assumption) ?_
          rotate_left
          · intro w hSw
            (try dsimp only at hSw)
            go_simp
            (try with_reducible rfl)
          (try simp only [Act.put, List.getElem_toArray, List.getElem_cons_succ, List.getElem_cons_zero, List.setIfInBounds_toArray, List.set_cons_zero, List.set_cons_succ])
          refine wpAnyZ_takeS (i := 7) (v := ?_) rfl (by kernel_rfl) (by kernel_rfl) (by kernel_rfl) (by kernel_rfl) (fun _ _ _ h => h) (gives_value (by rfl) ?_) (by assumption) ?_
          rotate_left
          · intro w hSw
            (try dsimp only at hSw)
            go_simp
            (try with_reducible rfl)
          (try simp only [Act.put, List.getElem_toArray, List.getElem_cons_succ, List.getElem_cons_zero, List.setIfInBounds_toArray, List.set_cons_zero, List.set_cons_succ])
          refine wpAnyZ_takeS (i := 8) (v := ?_) rfl (by kernel_rfl) (by kernel_rfl) (by kernel_rfl) (by kernel_rfl) (fun _ _ _ h => h) (gives_value (by rfl) ?_) (by assumption) ?_
          rotate_left
          · intro w hSw
            (try dsimp only at hSw)
            go_simp
            (try with_reducible rfl)
          (try simp only [Act.put, List.getElem_toArray, List.getElem_cons_succ, List.getElem_cons_zero, List.setIfInBounds_toArray, List.set_cons_zero, List.set_cons_succ])
          refine wpAnyZ_takeS (i := 9) (v := ?_) rfl (by kernel_rfl) (by kernel_rfl) (by kernel_rfl) (by kernel_rfl) (fun _ _ _ h => h) (gives_value (by rfl) ?_) (by assumption) ?_
          rotate_left
          · intro w hSw
            (try dsimp only at hSw)
            go_simp
            (try with_reducible rfl)
          (try simp only [Act.put, List.getElem_toArray, List.getElem_cons_succ, List.getElem_cons_zero, List.setIfInBounds_toArray, List.set_cons_zero, List.set_cons_succ])
          refine wpAnyZ_one (i := 10) (by kernel_rfl) ?_
          refine zstep rfl (fun K hK => ?_)
          go_simp
          (with_reducible refine (K1.out _ (Below.refl wr.heap.size wr).drew).mono ?_)
          rintro e w7 ⟨rfl, hb⟩
          have HB7 := Lib.hid (((Below.refl wr.heap.size wr).drew).trans hb)
          clear hb
          refine hK.out _ _ (fun _ => SS.out _ HB7.out) (fun hH => ?_)
          replace hH := hH (by decide)
          clear hK K
          (try simp only [Act.put, List.getElem_toArray, List.getElem_cons_succ, List.getElem_cons_zero, List.setIfInBounds_toArray, List.set_cons_zero, List.set_cons_succ])
          refine wpAnyZ_takeS (i := 11) (v := ?_) rfl (by kernel_rfl) (by kernel_rfl) (by kernel_rfl) (by kernel_rfl) (fun _ _ _ h => h) (gives_value (by rfl) ?_) (by assumption) ?_
          rotate_left
          · intro w hSw
            (try dsimp only at hSw)
            go_simp
            (try with_reducible rfl)
          (try simp only [Act.put, List.getElem_toArray, List.getElem_cons_succ, List.getElem_cons_zero, List.setIfInBounds_toArray, List.set_cons_zero, List.set_cons_succ])
          refine wpAnyZ_takeS (i := 12) (v := ?_) rfl (by kernel_rfl) (by kernel_rfl) (by kernel_rfl) (by kernel_rfl) (fun _ _ _ h => h) (gives_value (by rfl) ?_) (by assumption) ?_
          rotate_left
          · intro w hSw
            (try dsimp only at hSw)
            go_simp
            (try with_reducible rfl)
          (try simp only [Act.put, List.getElem_toArray, List.getElem_cons_succ, List.getElem_cons_zero, List.setIfInBounds_toArray, List.set_cons_zero, List.set_cons_succ])
          refine wpAnyZ_takeS (i := 13) (v := ?_) rfl (by kernel_rfl) (by kernel_rfl) (by kernel_rfl) (by kernel_rfl) (fun _ _ _ h => h) (gives_value (by rfl) ?_) (by assumption) ?_
          rotate_left
          · intro w hSw
            (try dsimp only at hSw)
            go_simp
            (try with_reducible rfl)
          (try simp only [Act.put, List.getElem_toArray, List.getElem_cons_succ, List.getElem_cons_zero, List.setIfInBounds_toArray, List.set_cons_zero, List.set_cons_succ])
          refine wpAnyZ_takeS (i := 14) (v := ?_) rfl (by kernel_rfl) (by kernel_rfl) (by kernel_rfl) (by kernel_rfl) (fun _ _ _ h => h) (gives_value (by rfl) ?_) (by assumption) ?_
          rotate_left
          · intro w hSw
            (try dsimp only at hSw)
            go_simp
            (try with_reducible rfl)
          (try simp only [Act.put, List.getElem_toArray, List.getElem_cons_succ, List.getElem_cons_zero, List.setIfInBounds_toArray, List.set_cons_zero, List.set_cons_succ])
          refine wpAnyZ_takeS (i := 15) (v := ?_) rfl (by kernel_rfl) (by kernel_rfl) (by kernel_rfl) (by kernel_rfl) (fun _ _ _ h => h) (gives_value (by rfl) ?_) (by assumption) ?_
          rotate_left
          · intro w hSw
            (try dsimp only at hSw)
            go_simp
            (try with_reducible rfl)
          (try simp only [Act.put, List.getElem_toArray, List.getElem_cons_succ, List.getElem_cons_zero, List.setIfInBounds_toArray, List.set_cons_zero, List.set_cons_succ])
          refine wpAnyZ_done (by kernel_rfl) ?_ _
          have M57 := Lib.hid (M5s.out.on HB7.out)
          have HB8 := Lib.hid (HBs.out.trans (HB7.out.mono HBs.out.size))
          clear hH SS K1 M5s HB7 HBs
          obtain ⟨A5, cap5, hsl1, hre1⟩ := slice_h A cap r (show j ≤ r.length by omega) hrc
          obtain ⟨A6, cap6, hsl2, hre2⟩ := slice_l E ecap s (show k ≤ s.length by omega) hsc
          have SL1 := Lib.hid hsl1
          have SL2 := Lib.hid hsl2
          have RE1 := Lib.hid hre1
          have RE2 := Lib.hid hre2
          clear hsl1 hre1 hsl2 hre2
          have hx1 : (r.take j).length ≤ 14 := by rw [List.length_take]; omega
          have hx2 : (s.drop k).length ≤ 14 := by rw [List.length_drop]; omega
          have HXX : Hid (∀ x ∈ r.take j ++ s.drop k, -1000000 ≤ x ∧ x ≤ 1000000) := fun x hx => by
            rcases List.mem_append.1 hx with hx | hx
            · exact HRX2.out x (List.mem_of_mem_take hx)
            · exact HSX2.out x (List.mem_of_mem_drop hx)
          have SS : Hid (∀ W, Below w7.heap.size w7 W → W.cell? ⟨I, 0, none⟩ = some (.slice A1 i.cars.length c1) ∧ W.cell? ⟨I, 1, none⟩ = some (.slice A2 i.stops.length c2) ∧ W.cell? ⟨I, 2, none⟩ = some (.slice A3 i.pairs.length c3) ∧ W.cell? ⟨I, 3, none⟩ = some (.slice A4 i.travel.length c4)) := fun W hB => ⟨(M57.out.two.box.below hB).b0, (M57.out.two.box.below hB).b1, (M57.out.two.box.below hB).b2, (M57.out.two.box.below hB).b3⟩
          have RP : Hid (∀ W, Below w7.heap.size w7 W → Recs W 1 num_ (.slice A5 (r.take j).length cap5) (r.take j) ∧ Recs W 1 num_ (.slice A6 (s.drop k).length cap6) (s.drop k)) := fun W hB => ⟨RE1.out W (M57.out.two.row.below hB), RE2.out W (M57.out.row2.below hB)⟩
          have KE : Hid (∀ (W : World) (u : Value), Below w7.heap.size w7 W → Recs W 1 num_ u (r.take j ++ s.drop k) → Calls Try.prog 21 #[.agg #[.slice A1 i.cars.length c1, .slice A2 i.stops.length c2, .slice A3 i.pairs.length c3, .slice A4 i.travel.length c4], .int .i64 cn, u] W (TripIs W (evalL i cn (r.take j ++ s.drop k)))) := fun W u hB hu => refEval_any _ _ i cn _ W (M57.out.two.box.lies.below hB) HOK.out (by omega) hu (by rw [List.length_append]; omega) HXX.out
          generalize hX : r.take j = X at *
          generalize hY : s.drop k = Y at *
          clear hX hY
          go_upto_region 14 with (fail)
          go_cut [18, 19] from 79 to 92 (fun tv iv wx => ∃ (T : Nat) (is : Bool), tv = .pointer (some ⟨T, 0, none⟩) ∧ iv = .bool is ∧ T < wx.heap.size ∧ wx.cell? ⟨T, 2, none⟩ = some (.int .i64 mc) ∧ is = mo ∧ (is = false → mc = 0) ∧ Below w7.heap.size w7 wx)
          case first =>
            as_aux_lemma =>
              refine wp_region_z (S := (fun W => W.cell? ⟨I, 0, none⟩ = some (.slice A1 i.cars.length c1) ∧ W.cell? ⟨I, 1, none⟩ = some (.slice A2 i.stops.length c2) ∧ W.cell? ⟨I, 2, none⟩ = some (.slice A3 i.pairs.length c3) ∧ W.cell? ⟨I, 3, none⟩ = some (.slice A4 i.travel.length c4))) (z := 17) (by kernel_rfl) (SS.out _ (Below.refl w7.heap.size w7).drew) (fun hH => ?_)
              refine wpAnyZ_takeS (i := 0) (v := ?_) rfl (by kernel_rfl) (by kernel_rfl) (by kernel_rfl) (by kernel_rfl) (fun _ _ _ h => h) (gives_value (by rfl) ?_) (by assumption) ?_
              rotate_left
              · intro w hSw
                (try dsimp only at hSw)
                go_simp
                (try with_reducible rfl)
              (try simp only [Act.put, List.getElem_toArray, List.getElem_cons_succ, List.getElem_cons_zero, List.setIfInBounds_toArray, List.set_cons_zero, List.set_cons_succ])
              refine wpAnyZ_takeS (i := 1) (v := ?_) rfl (by kernel_rfl) (by kernel_rfl) (by kernel_rfl) (by kernel_rfl) (fun _ _ _ h => h) (gives_value (by rfl) ?_) (by assumption) ?_
              rotate_left
              · intro w hSw
                (try dsimp only at hSw)
                go_simp
                (try with_reducible rfl)
              (try simp only [Act.put, List.getElem_toArray, List.getElem_cons_succ, List.getElem_cons_zero, List.setIfInBounds_toArray, List.set_cons_zero, List.set_cons_succ])
              refine wpAnyZ_takeS (i := 2) (v := ?_) rfl (by kernel_rfl) (by kernel_rfl) (by kernel_rfl) (by kernel_rfl) (fun _ _ _ h => h) (gives_value (by rfl) ?_) (by assumption) ?_
              rotate_left
              · intro w hSw
                (try dsimp only at hSw)
                go_simp
                (try with_reducible rfl)
              (try simp only [Act.put, List.getElem_toArray, List.getElem_cons_succ, List.getElem_cons_zero, List.setIfInBounds_toArray, List.set_cons_zero, List.set_cons_succ])
              refine wpAnyZ_takeS (i := 3) (v := ?_) rfl (by kernel_rfl) (by kernel_rfl) (by kernel_rfl) (by kernel_rfl) (fun _ _ _ h => h) (gives_value (by rfl) ?_) (by assumption) ?_
              rotate_left
              · intro w hSw
                (try dsimp only at hSw)
                go_simp
                (try with_reducible rfl)
              (try simp only [Act.put, List.getElem_toArray, List.getElem_cons_succ, List.getElem_cons_zero, List.setIfInBounds_toArray, List.set_cons_zero, List.set_cons_succ])
              refine wpAnyZ_takeS (i := 4) (v := .slice A5 X.length cap5) rfl (by kernel_rfl) (by kernel_rfl) (by kernel_rfl) (by kernel_rfl) (fun _ _ _ h => h) (gives_value (by rfl) ?_) (by assumption) ?_
              · intro w hSw
                have q := SL1.out w
                clear hSw
                go_simp
              (try simp only [Act.put, List.getElem_toArray, List.getElem_cons_succ, List.getElem_cons_zero, List.setIfInBounds_toArray, List.set_cons_zero, List.set_cons_succ])
              refine wpAnyZ_takeS (i := 6) (v := ?_) rfl (by kernel_rfl) (by kernel_rfl) (by kernel_rfl) (by kernel_rfl) (fun _ _ _ h => h) (gives_value (by rfl) ?_) (by assumption) ?_
              rotate_left
              · intro w hSw
                (try dsimp only at hSw)
                go_simp
                (try with_reducible rfl)
              (try simp only [Act.put, List.getElem_toArray, List.getElem_cons_succ, List.getElem_cons_zero, List.setIfInBounds_toArray, List.set_cons_zero, List.set_cons_succ])
              refine wpAnyZ_takeS (i := 7) (v := ?_) rfl (by kernel_rfl) (by kernel_rfl) (by kernel_rfl) (by kernel_rfl) (fun _ _ _ h => h) (gives_value (by rfl) ?_) (by assumption) ?_
              rotate_left
              · intro w hSw
                (try dsimp only at hSw)
                go_simp
                (try with_reducible rfl)
              (try simp only [Act.put, List.getElem_toArray, List.getElem_cons_succ, List.getElem_cons_zero, List.setIfInBounds_toArray, List.set_cons_zero, List.set_cons_succ])
              refine wpAnyZ_takeS (i := 8) (v := .slice A6 Y.length cap6) rfl (by kernel_rfl) (by kernel_rfl) (by kernel_rfl) (by kernel_rfl) (fun _ _ _ h => h) (gives_value (by rfl) ?_) (by assumption) ?_
              · intro w hSw
                have q := SL2.out w
                clear hSw
                go_simp
              (try simp only [Act.put, List.getElem_toArray, List.getElem_cons_succ, List.getElem_cons_zero, List.setIfInBounds_toArray, List.set_cons_zero, List.set_cons_succ])
              refine wpAnyZ_two (i := 5) (j := 14) (by kernel_rfl) ?_ ?_
              · refine zstep rfl (fun K hK => ?_)
                refine step_append_any _ rfl (.const (.slice none 0 0)) (.tmp 84) 47 rfl w7.heap.size 3 i0 _ 1 8 Try.underlying47 hi0 hz0 hz1 hz2 rfl (by decide) (.slice none 0 0) 0 [] (by rfl) ⟨rfl, .inl ⟨rfl, rfl⟩⟩ w7.drew.heap.size A5 X.length cap5 (ints X) (by rfl) (RP.out _ ((Below.refl w7.heap.size w7).drew)).1.reads (ints_one X) (by unfold maxLen; omega) (by omega) ((Below.refl w7.heap.size w7).drew).size ?_
                intro v' p5 hown' hgrow hob
                rw [Nat.zero_add, List.nil_append] at hown'
                have HSp5 : Hid (Below w7.drew.heap.size w7.drew p5) := (Below.refl _ _).grown hgrow (Nat.le_refl _) (fun g hg => by cases hg)
                have HBp5 := Lib.hid (((Below.refl w7.heap.size w7).drew).trans (HSp5.out.mono ((Below.refl w7.heap.size w7).drew).size))
                have OWp5 := Lib.hid hown'
                clear hown' hgrow hob
                refine hK.out _ _ (fun _ => SS.out _ HBp5.out) (fun hH => ?_)
                replace hH := hH (by decide)
                clear hK K
                (try simp only [Act.put, List.getElem_toArray, List.getElem_cons_succ, List.getElem_cons_zero, List.setIfInBounds_toArray, List.set_cons_zero, List.set_cons_succ])
                refine wpAnyZ_two (i := 9) (j := 14) (by kernel_rfl) ?_ ?_
                · refine zstep rfl (fun K hK => ?_)
                  refine step_append_any _ rfl (.tmp 85) (.tmp 88) 47 rfl w7.heap.size 3 i0 _ 1 8 Try.underlying47 hi0 hz0 hz1 hz2 rfl (by decide) v' X.length (ints X) (by rfl) (OWp5.out) p5.heap.size A6 Y.length cap6 (ints Y) (by rfl) (RP.out _ HBp5.out).2.reads (ints_one Y) (by unfold maxLen; omega) (by omega) HBp5.out.size ?_
                  intro v2 p9 hown2 hgrow hob
                  rw [ints_app, ← List.length_append] at hown2
                  have HBp9 := Lib.hid (HBp5.out.grown hgrow HBp5.out.size (fun g hg => (own_typed (OWp5.out) hg).2))
                  obtain ⟨AE, ecp, rfl, hec, hrE, hfE⟩ := own_nums hown2
                  rw [List.length_append] at hrE
                  have REp9 := Lib.hid hrE
                  clear hown2 hgrow hob hrE hfE hec
                  refine hK.out _ _ (fun _ => SS.out _ HBp9.out) (fun hH => ?_)
                  replace hH := hH (by decide)
                  clear hK K
                  (try simp only [Act.put, List.getElem_toArray, List.getElem_cons_succ, List.getElem_cons_zero, List.setIfInBounds_toArray, List.set_cons_zero, List.set_cons_succ])
                  refine wpAnyZ_two (i := 10) (j := 14) (by kernel_rfl) ?_ ?_
                  · refine zstep rfl (fun K hK => ?_)
                    go_simp
                    (with_reducible refine (KE.out _ _ HBp9.out REp9.out).mono ?_)
                    rintro e p12 hti
                    obtain ⟨hb, D1, n1, d1, D2, n2, d2, cc, hh, ok, rfl, htv⟩ := hti.parts
                    have HQ := Lib.hid (trip_meet htv HME.out)
                    have HBp12 := Lib.hid (HBp9.out.trans (hb.mono HBp9.out.size))
                    clear hti htv hb
                    refine hK.out _ _ (fun _ => SS.out _ HBp12.out) (fun hH => ?_)
                    replace hH := hH (by decide)
                    clear hK K
                    (try simp only [Act.put, List.getElem_toArray, List.getElem_cons_succ, List.getElem_cons_zero, List.setIfInBounds_toArray, List.set_cons_zero, List.set_cons_succ])
                    refine wpAnyZ_takeS (i := 11) (v := ?_) rfl (by kernel_rfl) (by kernel_rfl) (by kernel_rfl) (by kernel_rfl) (fun _ _ _ h => h) (gives_value (by rfl) ?_) (by assumption) ?_
                    rotate_left
                    · intro w hSw
                      (try dsimp only at hSw)
                      go_simp
                      (try with_reducible rfl)
                    (try simp only [Act.put, List.getElem_toArray, List.getElem_cons_succ, List.getElem_cons_zero, List.setIfInBounds_toArray, List.set_cons_zero, List.set_cons_succ])
                    refine wpAnyZ_takeS (i := 12) (v := ?_) rfl (by kernel_rfl) (by kernel_rfl) (by kernel_rfl) (by kernel_rfl) (fun _ _ _ h => h) (gives_value (by rfl) ?_) (by assumption) ?_
                    rotate_left
                    · intro w hSw
                      (try dsimp only at hSw)
                      go_simp
                      (try with_reducible rfl)
                    (try simp only [Act.put, List.getElem_toArray, List.getElem_cons_succ, List.getElem_cons_zero, List.setIfInBounds_toArray, List.set_cons_zero, List.set_cons_succ])
                    refine wpAnyZ_takeS (i := 13) (v := ?_) rfl (by kernel_rfl) (by kernel_rfl) (by kernel_rfl) (by kernel_rfl) (fun _ _ _ h => h) (gives_value (by rfl) ?_) (by assumption) ?_
                    rotate_left
                    · intro w hSw
                      (try dsimp only at hSw)
                      go_simp
                      (try with_reducible rfl)
                    (try simp only [Act.put, List.getElem_toArray, List.getElem_cons_succ, List.getElem_cons_zero, List.setIfInBounds_toArray, List.set_cons_zero, List.set_cons_succ])
                    refine wpAnyZ_one (i := 14) (by kernel_rfl) ?_
                    refine zstep rfl (fun K hK => ?_)
                    go_simp
                    have HBp13 : Hid (Below w7.heap.size w7 (p12.alloc (.cells #[.slice none 0 0, .slice none 0 0, .int .i64 0, .int .i64 0] 51))) := (HBp12.out.alloc HBp12.out.size (.cells #[.slice none 0 0, .slice none 0 0, .int .i64 0, .int .i64 0] 51))
                    have HSp13 : Hid (Below p12.heap.size p12 (p12.alloc (.cells #[.slice none 0 0, .slice none 0 0, .int .i64 0, .int .i64 0] 51))) := ((Below.refl p12.heap.size p12).alloc (Nat.le_refl _) (.cells #[.slice none 0 0, .slice none 0 0, .int .i64 0, .int .i64 0] 51))
                    have BTp13 : Hid (Blk (p12.alloc (.cells #[.slice none 0 0, .slice none 0 0, .int .i64 0, .int .i64 0] 51)) p12.heap.size #[.slice none 0 0, .slice none 0 0, .int .i64 0, .int .i64 0].toList) := (blk_new p12 #[.slice none 0 0, .slice none 0 0, .int .i64 0, .int .i64 0] 51)
                    have TYp13 : Hid (Typed (p12.alloc (.cells #[.slice none 0 0, .slice none 0 0, .int .i64 0, .int .i64 0] 51)) p12.heap.size 51) := typed_new p12 #[.slice none 0 0, .slice none 0 0, .int .i64 0, .int .i64 0] 51
                    refine hK.out _ _ (fun _ => SS.out _ HBp13.out) (fun hH => ?_)
                    replace hH := hH (by decide)
                    clear hK K
                    (try simp only [Act.put, List.getElem_toArray, List.getElem_cons_succ, List.getElem_cons_zero, List.setIfInBounds_toArray, List.set_cons_zero, List.set_cons_succ])
                    generalize (p12.alloc (.cells #[.slice none 0 0, .slice none 0 0, .int .i64 0, .int .i64 0] 51)) = p13 at *
                    refine wpAnyZ_one (i := 15) (by kernel_rfl) ?_
                    refine zstep rfl (fun K hK => ?_)
                    have hTl : w7.heap.size ≤ p12.heap.size := HBp12.out.size
                    have g0 := BTp13.out.cell (j := 0) rfl
                    have f0 := (BTp13.out.2 0 (by simp)).2
                    have g1 := BTp13.out.cell (j := 1) rfl
                    have f1 := (BTp13.out.2 1 (by simp)).2
                    have g2 := BTp13.out.cell (j := 2) rfl
                    have f2 := (BTp13.out.2 2 (by simp)).2
                    have g3 := BTp13.out.cell (j := 3) rfl
                    have f3 := (BTp13.out.2 3 (by simp)).2
                    have hGl := BTp13.out.1
                    go_simp
                    clear g0 g1 g2 g3 f0 f1 f2 f3 hGl
                    have HBz := Lib.hid (below4 HBp13.out hTl (.slice D1 n1 d1) (.slice D2 n2 d2) (.int .i64 cc) (.int .i64 hh))
                    have BTz := Lib.hid (box4 BTp13.out (.slice D1 n1 d1) (.slice D2 n2 d2) (.int .i64 cc) (.int .i64 hh))
                    refine hK.out _ _ (fun _ => SS.out _ HBz.out) (fun hH => ?_)
                    replace hH := hH (by decide)
                    clear hK K
                    (try simp only [Act.put, List.getElem_toArray, List.getElem_cons_succ, List.getElem_cons_zero, List.setIfInBounds_toArray, List.set_cons_zero, List.set_cons_succ])
                    refine wpAnyZ_takeS (i := 16) (v := ?_) rfl (by kernel_rfl) (by kernel_rfl) (by kernel_rfl) (by kernel_rfl) (fun _ _ _ h => h) (gives_value (by rfl) ?_) (by assumption) ?_
                    rotate_left
                    · intro w hSw
                      (try dsimp only at hSw)
                      go_simp
                      (try with_reducible rfl)
                    (try simp only [Act.put, List.getElem_toArray, List.getElem_cons_succ, List.getElem_cons_zero, List.setIfInBounds_toArray, List.set_cons_zero, List.set_cons_succ])
                    refine wpAnyZ_done (by kernel_rfl) ?_ _
                    clear hH
                    go_wp2_with fail
                    go_meet
                    exact ⟨_, ok, rfl, rfl, BTz.out.1, by rw [← HQ.out.2.1]; exact BTz.out.cell (j := 2) rfl, HQ.out.1, HQ.out.2.2, HBz.out⟩
                  · refine zstep rfl (fun K hK => ?_)
                    go_simp
                    have HBp10 : Hid (Below w7.heap.size w7 (p9.alloc (.cells #[.slice none 0 0, .slice none 0 0, .int .i64 0, .int .i64 0] 51))) := (HBp9.out.alloc HBp9.out.size (.cells #[.slice none 0 0, .slice none 0 0, .int .i64 0, .int .i64 0] 51))
                    have HSp10 : Hid (Below p9.heap.size p9 (p9.alloc (.cells #[.slice none 0 0, .slice none 0 0, .int .i64 0, .int .i64 0] 51))) := ((Below.refl p9.heap.size p9).alloc (Nat.le_refl _) (.cells #[.slice none 0 0, .slice none 0 0, .int .i64 0, .int .i64 0] 51))
                    have BTp10 : Hid (Blk (p9.alloc (.cells #[.slice none 0 0, .slice none 0 0, .int .i64 0, .int .i64 0] 51)) p9.heap.size #[.slice none 0 0, .slice none 0 0, .int .i64 0, .int .i64 0].toList) := (blk_new p9 #[.slice none 0 0, .slice none 0 0, .int .i64 0, .int .i64 0] 51)
                    have TYp10 : Hid (Typed (p9.alloc (.cells #[.slice none 0 0, .slice none 0 0, .int .i64 0, .int .i64 0] 51)) p9.heap.size 51) := typed_new p9 #[.slice none 0 0, .slice none 0 0, .int .i64 0, .int .i64 0] 51
                    refine hK.out _ _ (fun _ => SS.out _ HBp10.out) (fun hH => ?_)
                    replace hH := hH (by decide)
                    clear hK K
                    (try simp only [Act.put, List.getElem_toArray, List.getElem_cons_succ, List.getElem_cons_zero, List.setIfInBounds_toArray, List.set_cons_zero, List.set_cons_succ])
                    generalize (p9.alloc (.cells #[.slice none 0 0, .slice none 0 0, .int .i64 0, .int .i64 0] 51)) = p10 at *
                    have REp10 := Lib.hid (REp9.out.below HSp10.out)
                    refine wpAnyZ_one (i := 10) (by kernel_rfl) ?_
                    refine zstep rfl (fun K hK => ?_)
                    go_simp
                    (with_reducible refine (KE.out _ _ HBp10.out REp10.out).mono ?_)
                    rintro e p11 hti
                    obtain ⟨hb, D1, n1, d1, D2, n2, d2, cc, hh, ok, rfl, htv⟩ := hti.parts
                    have HQ := Lib.hid (trip_meet htv HME.out)
                    have HBp11 := Lib.hid (HBp10.out.trans (hb.mono HBp10.out.size))
                    have BTp11 := Lib.hid (BTp10.out.below hb)
                    clear hti htv hb
                    refine hK.out _ _ (fun _ => SS.out _ HBp11.out) (fun hH => ?_)
                    replace hH := hH (by decide)
                    clear hK K
                    (try simp only [Act.put, List.getElem_toArray, List.getElem_cons_succ, List.getElem_cons_zero, List.setIfInBounds_toArray, List.set_cons_zero, List.set_cons_succ])
                    refine wpAnyZ_takeS (i := 11) (v := ?_) rfl (by kernel_rfl) (by kernel_rfl) (by kernel_rfl) (by kernel_rfl) (fun _ _ _ h => h) (gives_value (by rfl) ?_) (by assumption) ?_
                    rotate_left
                    · intro w hSw
                      (try dsimp only at hSw)
                      go_simp
                      (try with_reducible rfl)
                    (try simp only [Act.put, List.getElem_toArray, List.getElem_cons_succ, List.getElem_cons_zero, List.setIfInBounds_toArray, List.set_cons_zero, List.set_cons_succ])
                    refine wpAnyZ_takeS (i := 12) (v := ?_) rfl (by kernel_rfl) (by kernel_rfl) (by kernel_rfl) (by kernel_rfl) (fun _ _ _ h => h) (gives_value (by rfl) ?_) (by assumption) ?_
                    rotate_left
                    · intro w hSw
                      (try dsimp only at hSw)
                      go_simp
                      (try with_reducible rfl)
                    (try simp only [Act.put, List.getElem_toArray, List.getElem_cons_succ, List.getElem_cons_zero, List.setIfInBounds_toArray, List.set_cons_zero, List.set_cons_succ])
                    refine wpAnyZ_takeS (i := 13) (v := ?_) rfl (by kernel_rfl) (by kernel_rfl) (by kernel_rfl) (by kernel_rfl) (fun _ _ _ h => h) (gives_value (by rfl) ?_) (by assumption) ?_
                    rotate_left
                    · intro w hSw
                      (try dsimp only at hSw)
                      go_simp
                      (try with_reducible rfl)
                    (try simp only [Act.put, List.getElem_toArray, List.getElem_cons_succ, List.getElem_cons_zero, List.setIfInBounds_toArray, List.set_cons_zero, List.set_cons_succ])
                    refine wpAnyZ_one (i := 15) (by kernel_rfl) ?_
                    refine zstep rfl (fun K hK => ?_)
                    have hTl : w7.heap.size ≤ p9.heap.size := HBp9.out.size
                    have g0 := BTp11.out.cell (j := 0) rfl
                    have f0 := (BTp11.out.2 0 (by simp)).2
                    have g1 := BTp11.out.cell (j := 1) rfl
                    have f1 := (BTp11.out.2 1 (by simp)).2
                    have g2 := BTp11.out.cell (j := 2) rfl
                    have f2 := (BTp11.out.2 2 (by simp)).2
                    have g3 := BTp11.out.cell (j := 3) rfl
                    have f3 := (BTp11.out.2 3 (by simp)).2
                    have hGl := BTp11.out.1
                    go_simp
                    clear g0 g1 g2 g3 f0 f1 f2 f3 hGl
                    have HBz := Lib.hid (below4 HBp11.out hTl (.slice D1 n1 d1) (.slice D2 n2 d2) (.int .i64 cc) (.int .i64 hh))
                    have BTz := Lib.hid (box4 BTp11.out (.slice D1 n1 d1) (.slice D2 n2 d2) (.int .i64 cc) (.int .i64 hh))
                    refine hK.out _ _ (fun _ => SS.out _ HBz.out) (fun hH => ?_)
                    replace hH := hH (by decide)
                    clear hK K
                    (try simp only [Act.put, List.getElem_toArray, List.getElem_cons_succ, List.getElem_cons_zero, List.setIfInBounds_toArray, List.set_cons_zero, List.set_cons_succ])
                    refine wpAnyZ_takeS (i := 16) (v := ?_) rfl (by kernel_rfl) (by kernel_rfl) (by kernel_rfl) (by kernel_rfl) (fun _ _ _ h => h) (gives_value (by rfl) ?_) (by assumption) ?_
                    rotate_left
                    · intro w hSw
                      (try dsimp only at hSw)
                      go_simp
                      (try with_reducible rfl)
                    (try simp only [Act.put, List.getElem_toArray, List.getElem_cons_succ, List.getElem_cons_zero, List.setIfInBounds_toArray, List.set_cons_zero, List.set_cons_succ])
                    refine wpAnyZ_done (by kernel_rfl) ?_ _
                    clear hH
                    go_wp2_with fail
                    go_meet
                    exact ⟨_, ok, rfl, rfl, BTz.out.1, by rw [← HQ.out.2.1]; exact BTz.out.cell (j := 2) rfl, HQ.out.1, HQ.out.2.2, HBz.out⟩
                · refine zstep rfl (fun K hK => ?_)
                  go_simp
                  have HBp6 : Hid (Below w7.heap.size w7 (p5.alloc (.cells #[.slice none 0 0, .slice none 0 0, .int .i64 0, .int .i64 0] 51))) := (HBp5.out.alloc HBp5.out.size (.cells #[.slice none 0 0, .slice none 0 0, .int .i64 0, .int .i64 0] 51))
                  have HSp6 : Hid (Below p5.heap.size p5 (p5.alloc (.cells #[.slice none 0 0, .slice none 0 0, .int .i64 0, .int .i64 0] 51))) := ((Below.refl p5.heap.size p5).alloc (Nat.le_refl _) (.cells #[.slice none 0 0, .slice none 0 0, .int .i64 0, .int .i64 0] 51))
                  have BTp6 : Hid (Blk (p5.alloc (.cells #[.slice none 0 0, .slice none 0 0, .int .i64 0, .int .i64 0] 51)) p5.heap.size #[.slice none 0 0, .slice none 0 0, .int .i64 0, .int .i64 0].toList) := (blk_new p5 #[.slice none 0 0, .slice none 0 0, .int .i64 0, .int .i64 0] 51)
                  have TYp6 : Hid (Typed (p5.alloc (.cells #[.slice none 0 0, .slice none 0 0, .int .i64 0, .int .i64 0] 51)) p5.heap.size 51) := typed_new p5 #[.slice none 0 0, .slice none 0 0, .int .i64 0, .int .i64 0] 51
                  refine hK.out _ _ (fun _ => SS.out _ HBp6.out) (fun hH => ?_)
                  replace hH := hH (by decide)
                  clear hK K
                  (try simp only [Act.put, List.getElem_toArray, List.getElem_cons_succ, List.getElem_cons_zero, List.setIfInBounds_toArray, List.set_cons_zero, List.set_cons_succ])
                  generalize (p5.alloc (.cells #[.slice none 0 0, .slice none 0 0, .int .i64 0, .int .i64 0] 51)) = p6 at *
                  refine wpAnyZ_one (i := 9) (by kernel_rfl) ?_
                  refine zstep rfl (fun K hK => ?_)
                  refine step_append_any _ rfl (.tmp 85) (.tmp 88) 47 rfl w7.heap.size 3 i0 _ 1 8 Try.underlying47 hi0 hz0 hz1 hz2 rfl (by decide) v' X.length (ints X) (by rfl) ((own_below OWp5.out HSp6.out)) p6.heap.size A6 Y.length cap6 (ints Y) (by rfl) (RP.out _ HBp6.out).2.reads (ints_one Y) (by unfold maxLen; omega) (by omega) HBp6.out.size ?_
                  intro v2 p7 hown2 hgrow hob
                  rw [ints_app, ← List.length_append] at hown2
                  have HBp7 := Lib.hid (HBp6.out.grown hgrow HBp6.out.size (fun g hg => (own_typed ((own_below OWp5.out HSp6.out)) hg).2))
                  have BTp7 : Hid (Blk p7 (p5.heap.size) #[.slice none 0 0, .slice none 0 0, .int .i64 0, .int .i64 0].toList) := BTp6.out.heap (hgrow.block _ BTp6.out.1 (fun e => typed_ne (own_typed ((own_below OWp5.out HSp6.out)) e.symm).1 TYp6.out (by decide) rfl)) hgrow.size
                  obtain ⟨AE, ecp, rfl, hec, hrE, hfE⟩ := own_nums hown2
                  rw [List.length_append] at hrE
                  have REp7 := Lib.hid hrE
                  clear hown2 hgrow hob hrE hfE hec
                  refine hK.out _ _ (fun _ => SS.out _ HBp7.out) (fun hH => ?_)
                  replace hH := hH (by decide)
                  clear hK K
                  (try simp only [Act.put, List.getElem_toArray, List.getElem_cons_succ, List.getElem_cons_zero, List.setIfInBounds_toArray, List.set_cons_zero, List.set_cons_succ])
                  refine wpAnyZ_one (i := 10) (by kernel_rfl) ?_
                  refine zstep rfl (fun K hK => ?_)
                  go_simp
                  (with_reducible refine (KE.out _ _ HBp7.out REp7.out).mono ?_)
                  rintro e p8 hti
                  obtain ⟨hb, D1, n1, d1, D2, n2, d2, cc, hh, ok, rfl, htv⟩ := hti.parts
                  have HQ := Lib.hid (trip_meet htv HME.out)
                  have HBp8 := Lib.hid (HBp7.out.trans (hb.mono HBp7.out.size))
                  have BTp8 := Lib.hid (BTp7.out.below hb)
                  clear hti htv hb
                  refine hK.out _ _ (fun _ => SS.out _ HBp8.out) (fun hH => ?_)
                  replace hH := hH (by decide)
                  clear hK K
                  (try simp only [Act.put, List.getElem_toArray, List.getElem_cons_succ, List.getElem_cons_zero, List.setIfInBounds_toArray, List.set_cons_zero, List.set_cons_succ])
                  refine wpAnyZ_takeS (i := 11) (v := ?_) rfl (by kernel_rfl) (by kernel_rfl) (by kernel_rfl) (by kernel_rfl) (fun _ _ _ h => h) (gives_value (by rfl) ?_) (by assumption) ?_
                  rotate_left
                  · intro w hSw
                    (try dsimp only at hSw)
                    go_simp
                    (try with_reducible rfl)
                  (try simp only [Act.put, List.getElem_toArray, List.getElem_cons_succ, List.getElem_cons_zero, List.setIfInBounds_toArray, List.set_cons_zero, List.set_cons_succ])
                  refine wpAnyZ_takeS (i := 12) (v := ?_) rfl (by kernel_rfl) (by kernel_rfl) (by kernel_rfl) (by kernel_rfl) (fun _ _ _ h => h) (gives_value (by rfl) ?_) (by assumption) ?_
                  rotate_left
                  · intro w hSw
                    (try dsimp only at hSw)
                    go_simp
                    (try with_reducible rfl)
                  (try simp only [Act.put, List.getElem_toArray, List.getElem_cons_succ, List.getElem_cons_zero, List.setIfInBounds_toArray, List.set_cons_zero, List.set_cons_succ])
                  refine wpAnyZ_takeS (i := 13) (v := ?_) rfl (by kernel_rfl) (by kernel_rfl) (by kernel_rfl) (by kernel_rfl) (fun _ _ _ h => h) (gives_value (by rfl) ?_) (by assumption) ?_
                  rotate_left
                  · intro w hSw
                    (try dsimp only at hSw)
                    go_simp
                    (try with_reducible rfl)
                  (try simp only [Act.put, List.getElem_toArray, List.getElem_cons_succ, List.getElem_cons_zero, List.setIfInBounds_toArray, List.set_cons_zero, List.set_cons_succ])
                  refine wpAnyZ_one (i := 15) (by kernel_rfl) ?_
                  refine zstep rfl (fun K hK => ?_)
                  have hTl : w7.heap.size ≤ p5.heap.size := HBp5.out.size
                  have g0 := BTp8.out.cell (j := 0) rfl
                  have f0 := (BTp8.out.2 0 (by simp)).2
                  have g1 := BTp8.out.cell (j := 1) rfl
                  have f1 := (BTp8.out.2 1 (by simp)).2
                  have g2 := BTp8.out.cell (j := 2) rfl
                  have f2 := (BTp8.out.2 2 (by simp)).2
                  have g3 := BTp8.out.cell (j := 3) rfl
                  have f3 := (BTp8.out.2 3 (by simp)).2
                  have hGl := BTp8.out.1
                  go_simp
                  clear g0 g1 g2 g3 f0 f1 f2 f3 hGl
                  have HBz := Lib.hid (below4 HBp8.out hTl (.slice D1 n1 d1) (.slice D2 n2 d2) (.int .i64 cc) (.int .i64 hh))
                  have BTz := Lib.hid (box4 BTp8.out (.slice D1 n1 d1) (.slice D2 n2 d2) (.int .i64 cc) (.int .i64 hh))
                  refine hK.out _ _ (fun _ => SS.out _ HBz.out) (fun hH => ?_)
                  replace hH := hH (by decide)
                  clear hK K
                  (try simp only [Act.put, List.getElem_toArray, List.getElem_cons_succ, List.getElem_cons_zero, List.setIfInBounds_toArray, List.set_cons_zero, List.set_cons_succ])
                  refine wpAnyZ_takeS (i := 16) (v := ?_) rfl (by kernel_rfl) (by kernel_rfl) (by kernel_rfl) (by kernel_rfl) (fun _ _ _ h => h) (gives_value (by rfl) ?_) (by assumption) ?_
                  rotate_left
                  · intro w hSw
                    (try dsimp only at hSw)
                    go_simp
                    (try with_reducible rfl)
                  (try simp only [Act.put, List.getElem_toArray, List.getElem_cons_succ, List.getElem_cons_zero, List.setIfInBounds_toArray, List.set_cons_zero, List.set_cons_succ])
                  refine wpAnyZ_done (by kernel_rfl) ?_ _
                  clear hH
                  go_wp2_with fail
                  go_meet
                  exact ⟨_, ok, rfl, rfl, BTz.out.1, by rw [← HQ.out.2.1]; exact BTz.out.cell (j := 2) rfl, HQ.out.1, HQ.out.2.2, HBz.out⟩
              · refine zstep rfl (fun K hK => ?_)
                go_simp
                have HBp1 : Hid (Below w7.heap.size w7 (w7.alloc (.cells #[.slice none 0 0, .slice none 0 0, .int .i64 0, .int .i64 0] 51)).drew) := ((Below.refl w7.heap.size w7).alloc (Nat.le_refl _) (.cells #[.slice none 0 0, .slice none 0 0, .int .i64 0, .int .i64 0] 51)).drew
                have HSp1 : Hid (Below w7.heap.size w7 (w7.alloc (.cells #[.slice none 0 0, .slice none 0 0, .int .i64 0, .int .i64 0] 51)).drew) := ((Below.refl w7.heap.size w7).alloc (Nat.le_refl _) (.cells #[.slice none 0 0, .slice none 0 0, .int .i64 0, .int .i64 0] 51)).drew
                have BTp1 : Hid (Blk (w7.alloc (.cells #[.slice none 0 0, .slice none 0 0, .int .i64 0, .int .i64 0] 51)).drew w7.heap.size #[.slice none 0 0, .slice none 0 0, .int .i64 0, .int .i64 0].toList) := (blk_new w7 #[.slice none 0 0, .slice none 0 0, .int .i64 0, .int .i64 0] 51).drew
                have TYp1 : Hid (Typed (w7.alloc (.cells #[.slice none 0 0, .slice none 0 0, .int .i64 0, .int .i64 0] 51)).drew w7.heap.size 51) := typed_new w7 #[.slice none 0 0, .slice none 0 0, .int .i64 0, .int .i64 0] 51
                refine hK.out _ _ (fun _ => SS.out _ HBp1.out) (fun hH => ?_)
                replace hH := hH (by decide)
                clear hK K
                (try simp only [Act.put, List.getElem_toArray, List.getElem_cons_succ, List.getElem_cons_zero, List.setIfInBounds_toArray, List.set_cons_zero, List.set_cons_succ])
                generalize (w7.alloc (.cells #[.slice none 0 0, .slice none 0 0, .int .i64 0, .int .i64 0] 51)).drew = p1 at *
                refine wpAnyZ_one (i := 5) (by kernel_rfl) ?_
                refine zstep rfl (fun K hK => ?_)
                refine step_append_any _ rfl (.const (.slice none 0 0)) (.tmp 84) 47 rfl w7.heap.size 3 i0 _ 1 8 Try.underlying47 hi0 hz0 hz1 hz2 rfl (by decide) (.slice none 0 0) 0 [] (by rfl) ⟨rfl, .inl ⟨rfl, rfl⟩⟩ p1.heap.size A5 X.length cap5 (ints X) (by rfl) (RP.out _ HBp1.out).1.reads (ints_one X) (by unfold maxLen; omega) (by omega) HBp1.out.size ?_
                intro v' p2 hown' hgrow hob
                rw [Nat.zero_add, List.nil_append] at hown'
                have HSp2 : Hid (Below p1.heap.size p1 p2) := (Below.refl _ _).grown hgrow (Nat.le_refl _) (fun g hg => by cases hg)
                have HBp2 := Lib.hid (HBp1.out.trans (HSp2.out.mono HBp1.out.size))
                have OWp2 := Lib.hid hown'
                have BTp2 := Lib.hid (BTp1.out.below HSp2.out)
                have TYp2 := Lib.hid (TYp1.out.below HSp2.out)
                clear hown' hgrow hob
                refine hK.out _ _ (fun _ => SS.out _ HBp2.out) (fun hH => ?_)
                replace hH := hH (by decide)
                clear hK K
                (try simp only [Act.put, List.getElem_toArray, List.getElem_cons_succ, List.getElem_cons_zero, List.setIfInBounds_toArray, List.set_cons_zero, List.set_cons_succ])
                refine wpAnyZ_one (i := 9) (by kernel_rfl) ?_
                refine zstep rfl (fun K hK => ?_)
                refine step_append_any _ rfl (.tmp 85) (.tmp 88) 47 rfl w7.heap.size 3 i0 _ 1 8 Try.underlying47 hi0 hz0 hz1 hz2 rfl (by decide) v' X.length (ints X) (by rfl) (OWp2.out) p2.heap.size A6 Y.length cap6 (ints Y) (by rfl) (RP.out _ HBp2.out).2.reads (ints_one Y) (by unfold maxLen; omega) (by omega) HBp2.out.size ?_
                intro v2 p3 hown2 hgrow hob
                rw [ints_app, ← List.length_append] at hown2
                have HBp3 := Lib.hid (HBp2.out.grown hgrow HBp2.out.size (fun g hg => (own_typed (OWp2.out) hg).2))
                have BTp3 : Hid (Blk p3 (w7.heap.size) #[.slice none 0 0, .slice none 0 0, .int .i64 0, .int .i64 0].toList) := BTp2.out.heap (hgrow.block _ BTp2.out.1 (fun e => typed_ne (own_typed (OWp2.out) e.symm).1 TYp2.out (by decide) rfl)) hgrow.size
                obtain ⟨AE, ecp, rfl, hec, hrE, hfE⟩ := own_nums hown2
                rw [List.length_append] at hrE
                have REp3 := Lib.hid hrE
                clear hown2 hgrow hob hrE hfE hec
                refine hK.out _ _ (fun _ => SS.out _ HBp3.out) (fun hH => ?_)
                replace hH := hH (by decide)
                clear hK K
                (try simp only [Act.put, List.getElem_toArray, List.getElem_cons_succ, List.getElem_cons_zero, List.setIfInBounds_toArray, List.set_cons_zero, List.set_cons_succ])
                refine wpAnyZ_one (i := 10) (by kernel_rfl) ?_
                refine zstep rfl (fun K hK => ?_)
                go_simp
                (with_reducible refine (KE.out _ _ HBp3.out REp3.out).mono ?_)
                rintro e p4 hti
                obtain ⟨hb, D1, n1, d1, D2, n2, d2, cc, hh, ok, rfl, htv⟩ := hti.parts
                have HQ := Lib.hid (trip_meet htv HME.out)
                have HBp4 := Lib.hid (HBp3.out.trans (hb.mono HBp3.out.size))
                have BTp4 := Lib.hid (BTp3.out.below hb)
                clear hti htv hb
                refine hK.out _ _ (fun _ => SS.out _ HBp4.out) (fun hH => ?_)
                replace hH := hH (by decide)
                clear hK K
                (try simp only [Act.put, List.getElem_toArray, List.getElem_cons_succ, List.getElem_cons_zero, List.setIfInBounds_toArray, List.set_cons_zero, List.set_cons_succ])
                refine wpAnyZ_takeS (i := 11) (v := ?_) rfl (by kernel_rfl) (by kernel_rfl) (by kernel_rfl) (by kernel_rfl) (fun _ _ _ h => h) (gives_value (by rfl) ?_) (by assumption) ?_
                rotate_left
                · intro w hSw
                  (try dsimp only at hSw)
                  go_simp
                  (try with_reducible rfl)
                (try simp only [Act.put, List.getElem_toArray, List.getElem_cons_succ, List.getElem_cons_zero, List.setIfInBounds_toArray, List.set_cons_zero, List.set_cons_succ])
                refine wpAnyZ_takeS (i := 12) (v := ?_) rfl (by kernel_rfl) (by kernel_rfl) (by kernel_rfl) (by kernel_rfl) (fun _ _ _ h => h) (gives_value (by rfl) ?_) (by assumption) ?_
                rotate_left
                · intro w hSw
                  (try dsimp only at hSw)
                  go_simp
                  (try with_reducible rfl)
                (try simp only [Act.put, List.getElem_toArray, List.getElem_cons_succ, List.getElem_cons_zero, List.setIfInBounds_toArray, List.set_cons_zero, List.set_cons_succ])
                refine wpAnyZ_takeS (i := 13) (v := ?_) rfl (by kernel_rfl) (by kernel_rfl) (by kernel_rfl) (by kernel_rfl) (fun _ _ _ h => h) (gives_value (by rfl) ?_) (by assumption) ?_
                rotate_left
                · intro w hSw
                  (try dsimp only at hSw)
                  go_simp
                  (try with_reducible rfl)
                (try simp only [Act.put, List.getElem_toArray, List.getElem_cons_succ, List.getElem_cons_zero, List.setIfInBounds_toArray, List.set_cons_zero, List.set_cons_succ])
                refine wpAnyZ_one (i := 15) (by kernel_rfl) ?_
                refine zstep rfl (fun K hK => ?_)
                have hTl : w7.heap.size ≤ w7.heap.size := Nat.le_refl _
                have g0 := BTp4.out.cell (j := 0) rfl
                have f0 := (BTp4.out.2 0 (by simp)).2
                have g1 := BTp4.out.cell (j := 1) rfl
                have f1 := (BTp4.out.2 1 (by simp)).2
                have g2 := BTp4.out.cell (j := 2) rfl
                have f2 := (BTp4.out.2 2 (by simp)).2
                have g3 := BTp4.out.cell (j := 3) rfl
                have f3 := (BTp4.out.2 3 (by simp)).2
                have hGl := BTp4.out.1
                go_simp
                clear g0 g1 g2 g3 f0 f1 f2 f3 hGl
                have HBz := Lib.hid (below4 HBp4.out hTl (.slice D1 n1 d1) (.slice D2 n2 d2) (.int .i64 cc) (.int .i64 hh))
                have BTz := Lib.hid (box4 BTp4.out (.slice D1 n1 d1) (.slice D2 n2 d2) (.int .i64 cc) (.int .i64 hh))
                refine hK.out _ _ (fun _ => SS.out _ HBz.out) (fun hH => ?_)
                replace hH := hH (by decide)
                clear hK K
                (try simp only [Act.put, List.getElem_toArray, List.getElem_cons_succ, List.getElem_cons_zero, List.setIfInBounds_toArray, List.set_cons_zero, List.set_cons_succ])
                refine wpAnyZ_takeS (i := 16) (v := ?_) rfl (by kernel_rfl) (by kernel_rfl) (by kernel_rfl) (by kernel_rfl) (fun _ _ _ h => h) (gives_value (by rfl) ?_) (by assumption) ?_
                rotate_left
                · intro w hSw
                  (try dsimp only at hSw)
                  go_simp
                  (try with_reducible rfl)
                (try simp only [Act.put, List.getElem_toArray, List.getElem_cons_succ, List.getElem_cons_zero, List.setIfInBounds_toArray, List.set_cons_zero, List.set_cons_succ])
                refine wpAnyZ_done (by kernel_rfl) ?_ _
                clear hH
                go_wp2_with fail
                go_meet
                exact ⟨_, ok, rfl, rfl, BTz.out.1, by rw [← HQ.out.2.1]; exact BTz.out.cell (j := 2) rfl, HQ.out.1, HQ.out.2.2, HBz.out⟩
          case rest =>
            as_aux_lemma =>
              obtain ⟨T, is, rfl, rfl, hT, hcell, his, hz, hb9⟩ := hcut
              have HB9 := Lib.hid (HB8.out.trans (hb9.mono HB8.out.size))
              subst his
              clear HME hb9 SS RP KE SL1 SL2 RE1 RE2 HXX M57
              cases is
              · obtain rfl : mc = 0 := hz rfl
                go_wp2
                go_roundw
                case rel => exact ⟨k + 1, by omega, by go_num, HB9.out⟩
                case measure => simp [intOf]; omega
              · have tc : (mc != mc) = false := by simp
                go_wp2
                go_roundw
                case rel => exact ⟨k + 1, by omega, by go_num, HB9.out⟩
                case measure => simp [intOf]; omega
        · obtain rfl : k = s.length + 1 := by omega
          have tt : decide (((s.length + 1 : Nat) : Int) < ((s.length + 1 : Nat) : Int)) = false := by simp
          go_wp2
          go_roundw
          case rel => exact ⟨j + 1, by omega, by go_num, HBs.out⟩
          case measure => simp [intOf]; omega
    · obtain rfl : j = r.length + 1 := by omega
      have tt : decide (((r.length + 1 : Nat) : Int) < ((r.length + 1 : Nat) : Int)) = false := by simp
      go_wp2_with (go_at_call 18; fail)
      (with_reducible refine (wakes5_any _).mono ?_)
      rintro e wz ⟨rfl, hb⟩
      have TZ := Lib.hid (M5r.out.on hb)
      clear hb
      go_wp2
      go_ret
      exact ⟨rfl, TZ.out.two.below⟩
end Go.Proofs.Ytgkieelacjcopaa
