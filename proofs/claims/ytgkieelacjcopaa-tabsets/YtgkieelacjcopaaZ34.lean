/- Plain facts, no Go: the sets of heads and tails, gathered place by place (stage 5). · The walk of TabSets: for any rows of numbers and any car the law returns true; old memory stands. -/
import Derived.Test.YtgkieelacjcopaaZ07
import Derived.Test.YtgkieelacjcopaaZ17
namespace Go.Proofs.Ytgkieelacjcopaa

/-- the digits of r's numbers at the places of P, of the first n -/
def orN (P : Nat → Bool) (r : List Int) : Nat → Nat
  | 0 => 0
  | n + 1 => if P n = true then orN P r n ||| digit (r[n]?.getD 0) else orN P r n
theorem orN_bit {P : Nat → Bool} {r : List Int} {b : Nat} : ∀ {n : Nat}, (orN P r n).testBit b = true ↔ ∃ m, m < n ∧ P m = true ∧ (r[m]?.getD 0).toNat = b
  | 0 => by simp [orN]
  | n + 1 => by
    unfold orN
    rw [if_bit, orN_bit (n := n)]
    constructor
    · rintro (⟨m, h1, h2, h3⟩ | ⟨h2, h3⟩)
      · exact ⟨m, by omega, h2, h3⟩
      · exact ⟨n, by omega, h2, h3⟩
    · rintro ⟨m, h1, h2, h3⟩
      by_cases e : m = n
      · subst e; exact .inr ⟨h2, h3⟩
      · exact .inl ⟨m, by omega, h2, h3⟩
theorem orN_lt {P : Nat → Bool} {r : List Int} (h : ∀ m, P m = true → r[m]?.getD 0 ≤ 10) : ∀ n : Nat, orN P r n < 2048
  | 0 => by simp [orN]
  | n + 1 => by
    unfold orN
    split
    · next e => exact Nat.or_lt_two_pow (n := 11) (orN_lt h n) (digit_lt (h n e))
    · exact orN_lt h n
def ahP (i : Prob) (r : List Int) (k : Nat) (m : Nat) : Bool := inB (r[m]?.getD 0) 1 i.stops.length && decide (m < k)
def beP (i : Prob) (r : List Int) (k : Nat) (m : Nat) : Bool := inB (r[m]?.getD 0) 1 i.stops.length && !decide (m < k)
theorem getD_at {r : List Int} {m : Nat} (h : m < r.length) : r[m]?.getD 0 = r[m] := by rw [List.getElem?_eq_getElem h]; rfl
theorem head_bits {i : Prob} {c : Int} {r : List Int} : ∀ {k : Nat} {h : HeadP}, k ≤ r.length → headL i c (r.take k) = some h → (∀ m, m < k → inB (r[m]?.getD 0) 1 i.stops.length = true) ∧ ∀ b, h.set.testBit b = true ↔ ∃ m, m < k ∧ (r[m]?.getD 0).toNat = b
  | 0, h, _, hh => by
    rw [List.take_zero] at hh
    injection hh with hh; subst hh
    exact ⟨fun m hm => by omega, fun b => by simp [beginH]⟩
  | k + 1, h, hk, hh => by
    rw [head_step (by omega)] at hh
    obtain ⟨g, h1, h2⟩ := Option.bind_eq_some_iff.1 hh
    obtain ⟨⟨a1, _⟩, o, _, rfl⟩ := ext_some.1 h2
    obtain ⟨i1, i2⟩ := head_bits (by omega) h1
    have e := getD_at (r := r) (m := k) (by omega)
    refine ⟨fun m hm => ?_, fun b => ?_⟩
    · by_cases q : m = k
      · subst q; rw [e]; exact a1
      · exact i1 m (by omega)
    · simp only
      rw [Nat.testBit_or, Bool.or_eq_true_iff, i2, test_digit, decide_eq_true_eq]
      constructor
      · rintro (⟨m, m1, m2⟩ | q)
        · exact ⟨m, by omega, m2⟩
        · exact ⟨k, by omega, by rw [e]; exact q⟩
      · rintro ⟨m, m1, m2⟩
        by_cases q : m = k
        · subst q; rw [e] at m2; exact .inr m2
        · exact .inl ⟨m, by omega, m2⟩
theorem tail_bits {i : Prob} {c : Int} {r : List Int} : ∀ (n : Nat) {k : Nat} {t : TailP}, r.length = k + n → tailL i c (r.drop k) = some t → (∀ m, k ≤ m → m < r.length → inB (r[m]?.getD 0) 1 i.stops.length = true) ∧ ∀ b, t.set.testBit b = true ↔ ∃ m, k ≤ m ∧ m < r.length ∧ (r[m]?.getD 0).toNat = b
  | 0, k, t, hk, ht => by
    rw [List.drop_eq_nil_of_le (by omega)] at ht
    injection ht with ht; subst ht
    exact ⟨fun m h1 h2 => by omega, fun b => by
      simp only [endT, Nat.zero_testBit]
      exact ⟨fun h => (by cases h), fun ⟨m, h1, h2, _⟩ => (by omega)⟩⟩
  | n + 1, k, t, hk, ht => by
    rw [tail_step (by omega)] at ht
    obtain ⟨g, h1, h2⟩ := Option.bind_eq_some_iff.1 ht
    obtain ⟨⟨a1, _⟩, o, _, rfl⟩ := bef_some.1 h2
    obtain ⟨i1, i2⟩ := tail_bits n (by omega) h1
    have e := getD_at (r := r) (m := k) (by omega)
    refine ⟨fun m m1 m2 => ?_, fun b => ?_⟩
    · by_cases q : m = k
      · subst q; rw [e]; exact a1
      · exact i1 m (by omega) m2
    · simp only
      rw [Nat.testBit_or, Bool.or_eq_true_iff, i2, test_digit, decide_eq_true_eq]
      constructor
      · rintro (⟨m, m1, m2, m3⟩ | q)
        · exact ⟨m, by omega, m2, m3⟩
        · exact ⟨k, by omega, by omega, by rw [e]; exact q⟩
      · rintro ⟨m, m1, m2, m3⟩
        by_cases q : m = k
        · subst q; rw [e] at m3; exact .inr m3
        · exact .inl ⟨m, by omega, m2, m3⟩
theorem head_ah {i : Prob} {c : Int} {r : List Int} {k : Nat} {h : HeadP} (hk : k ≤ r.length) (hh : headL i c (r.take k) = some h) : h.set = orN (ahP i r k) r r.length := by
  obtain ⟨h1, h2⟩ := head_bits hk hh
  refine Nat.eq_of_testBit_eq fun b => Bool.eq_iff_iff.2 ?_
  rw [h2, orN_bit]
  constructor
  · rintro ⟨m, m1, m2⟩
    exact ⟨m, by omega, by unfold ahP; rw [h1 m m1]; simpa using m1, m2⟩
  · rintro ⟨m, m1, m2, m3⟩
    unfold ahP at m2
    rw [Bool.and_eq_true, decide_eq_true_eq] at m2
    exact ⟨m, m2.2, m3⟩
theorem tail_be {i : Prob} {c : Int} {r : List Int} {k : Nat} {t : TailP} (hk : k ≤ r.length) (ht : tailL i c (r.drop k) = some t) : t.set = orN (beP i r k) r r.length := by
  obtain ⟨h1, h2⟩ := tail_bits (r.length - k) (by omega) ht
  refine Nat.eq_of_testBit_eq fun b => Bool.eq_iff_iff.2 ?_
  rw [h2, orN_bit]
  constructor
  · rintro ⟨m, m1, m2, m3⟩
    exact ⟨m, by omega, by unfold beP; rw [h1 m m1 m2]; simpa using m1, m3⟩
  · rintro ⟨m, m1, m2, m3⟩
    unfold beP at m2
    rw [Bool.and_eq_true] at m2
    have := m2.2
    simp at this
    exact ⟨m, this, m1, m3⟩
theorem ah_lt {i : Prob} (hs : i.stops.length ≤ 10) (r : List Int) (k n : Nat) : orN (ahP i r k) r n < 2048 := orN_lt (fun m h => by
  unfold ahP at h
  rw [Bool.and_eq_true, inB_iff] at h
  omega) n
theorem be_lt {i : Prob} (hs : i.stops.length ≤ 10) (r : List Int) (k n : Nat) : orN (beP i r k) r n < 2048 := orN_lt (fun m h => by
  unfold beP at h
  rw [Bool.and_eq_true, inB_iff] at h
  omega) n
end Go.Proofs.Ytgkieelacjcopaa
namespace Go.Proofs.Ytgkieelacjcopaa
open Go.RowKit
set_option linter.unusedSimpArgs false

theorem rowNum5 {W : World} {A : Option Addr} {cap : Nat} {r : List Int} (h : Recs W 1 num_ (.slice A r.length cap) r) {k : Nat} (hk : k < r.length) : ∃ B o, A = some ⟨B, o, none⟩ ∧ B < W.heap.size ∧ W.cell? ⟨B, o + k, none⟩ = some (.int .i64 r[k]) := by
  obtain ⟨A', cap', he, hcl⟩ := h.num
  obtain ⟨rfl, rfl⟩ : A = A' ∧ cap = cap' := by injection he with a _ b; exact ⟨a, b⟩
  exact hcl k hk
theorem dig_shl {n : Nat} (h : n ≤ 11) : (2 : Int) ^ n % 4294967296 = ((digit (n : Int) : Nat) : Int) := by
  have h1 : (2 : Nat) ^ n ≤ 2 ^ 11 := Nat.pow_le_pow_right (by omega) h
  have h2 : ((2 ^ n : Nat) : Int) = (2 : Int) ^ n := by simp
  unfold digit
  rw [← h2, show ((n : Int)).toNat = n from rfl]
  generalize (2 : Nat) ^ n = m at *
  omega
theorem no_bits {S : Nat} {s : Int} (hS : S < 4294967296) (hs : s ≤ 11) : (Go.bits .and .u32 (S : Int) (digit s : Int) == 0) = !hasD S s := by
  have := bits_has hS hs
  rw [← this]; simp [bne]
set_option maxRecDepth 100000 in
set_option maxHeartbeats 16000000 in
theorem sets5_walk (v u : Value) (l row : List Int) (car : Int) (w : World) (h : Recs w 1 num_ v l) (hl : l.length ≤ 9223372036854775807) (hr : Recs w 1 num_ u row) (hrl : row.length ≤ 9223372036854775807) :
    Calls Try.prog 8 #[v, u, .int .i64 car] w fun e w' => e = .returned (.bool true) ∧ Below w.heap.size w w' := by
  have HP := Lib.hid (play_said v l w h hl)
  have HU := Lib.hid hr
  clear h hr
  go_enter Try.func8, Try.ntmps8
  go_wp2_with (go_at_call 19; fail)
  (with_reducible refine (HP.out).mono ?_)
  rintro e w1 ⟨i, A1, A2, A3, A4, c1, c2, c3, c4, rfl, hs1, hok, hs2, hs8, hp2, hb1⟩
  have HOK := Lib.hid hok
  have HF := Lib.hid (fine_of hok)
  have HM := Lib.hid (mated_of hok)
  have BX1 := Lib.hid (box_new hs1 27)
  have HB1 := Lib.hid (hb1.alloc hb1.size (.cells #[.slice A1 i.cars.length c1, .slice A2 i.stops.length c2, .slice A3 i.pairs.length c3, .slice A4 i.travel.length c4] 27))
  have hcar := (fine_of hok).cars
  clear hok hs1 hb1 HP
  go_upto_region 2 with (fail)
  generalize w1.alloc (.cells #[.slice A1 i.cars.length c1, .slice A2 i.stops.length c2, .slice A3 i.pairs.length c3, .slice A4 i.travel.length c4] 27) = wa at *
  generalize w1.heap.size = I at *
  have k0 := BX1.out.b0
  have k1 := BX1.out.b1
  have k2 := BX1.out.b2
  have k3 := BX1.out.b3
  have hIz := BX1.out.lt
  obtain ⟨cn, hcn, hcnl⟩ := within_nat car i.cars.length (by omega)
  have K0 := Lib.hid (fun W => within_q car i.cars.length W (by omega) (by omega) _ hcn)
  clear hcn
  go_wp2_with (go_at_call 12; fail)
  (with_reducible refine (K0.out _).mono ?_)
  rintro e w2 ⟨rfl, hww⟩
  replace hww := hww.symm
  subst hww
  clear K0
  clear k0 k1 k2 k3 hIz
  have k0 := BX1.out.b0
  have k1 := BX1.out.b1
  have k2 := BX1.out.b2
  have k3 := BX1.out.b3
  have hIz := BX1.out.lt
  go_wp2_with (go_at_call 20; fail)
  (with_reducible refine (row_any _ _ i row wa BX1.out.lies HOK.out (by omega) hs2 (HU.out.below HB1.out) hrl).mono ?_)
  rintro e w2 ⟨r, A, cap, rfl, hr14, hrc, hrx, hrr, hrf, hb2⟩
  have TW := Lib.hid (⟨HB1.out.trans (hb2.mono HB1.out.size), BX1.out.below hb2, hrr⟩ : Two w w2 I A1 A2 A3 A4 c1 c2 c3 c4 i A cap r)
  have HRX := Lib.hid hrx
  clear hb2 hrr hrf hrx BX1 HB1 HU
  clear k0 k1 k2 k3 hIz
  clear HRX
  have hst := HF.out.stops
  have SS : Hid (∀ W, Below w2.heap.size w2 W → W.cell? ⟨I, 0, none⟩ = some (.slice A1 i.cars.length c1) ∧ W.cell? ⟨I, 1, none⟩ = some (.slice A2 i.stops.length c2) ∧ W.cell? ⟨I, 2, none⟩ = some (.slice A3 i.pairs.length c3) ∧ W.cell? ⟨I, 3, none⟩ = some (.slice A4 i.travel.length c4)) := fun W hB => ⟨(TW.out.box.below hB).b0, (TW.out.box.below hB).b1, (TW.out.box.below hB).b2, (TW.out.box.below hB).b3⟩
  have hc : inB (cn : Int) 0 (i.cars.length - 1) = true := inB_iff.2 ⟨by omega, by omega⟩
  have K1 : Hid (∀ W, Below w2.heap.size w2 W → Calls Try.prog 10 #[.agg #[.slice A1 i.cars.length c1, .slice A2 i.stops.length c2, .slice A3 i.pairs.length c3, .slice A4 i.travel.length c4], .int .i64 cn, .slice A r.length cap] W fun e w' => ∃ g, e = .returned (.slice (some ⟨g, 0, none⟩) (r.length + 1) (r.length + 1)) ∧ W.heap.size ≤ g ∧ RowC w' g 7 (fun k => headC (headL i cn (r.take k))) (r.length + 1) ∧ Below W.heap.size W w') := fun W hB => pheads_in _ _ i cn r W (TW.out.box.lies.below hB) HOK.out (by omega) (TW.out.row.below hB) (by omega) hc
  have K2 : Hid (∀ W, Below w2.heap.size w2 W → Calls Try.prog 11 #[.agg #[.slice A1 i.cars.length c1, .slice A2 i.stops.length c2, .slice A3 i.pairs.length c3, .slice A4 i.travel.length c4], .int .i64 cn, .slice A r.length cap] W fun e w' => ∃ g, e = .returned (.slice (some ⟨g, 0, none⟩) (r.length + 1) (r.length + 1)) ∧ W.heap.size ≤ g ∧ RowC w' g 8 (fun k => tailC (tailL i cn (r.drop k))) (r.length + 1) ∧ Below W.heap.size W w') := fun W hB => ptails_in _ _ i cn r W (TW.out.box.lies.below hB) HOK.out (by omega) (TW.out.row.below hB) (by omega) hc
  have HC := Lib.hid hc
  clear hc
  go_upto_region 4 with (fail)
  refine wp_region_z (S := (fun W => W.cell? ⟨I, 0, none⟩ = some (.slice A1 i.cars.length c1) ∧ W.cell? ⟨I, 1, none⟩ = some (.slice A2 i.stops.length c2) ∧ W.cell? ⟨I, 2, none⟩ = some (.slice A3 i.pairs.length c3) ∧ W.cell? ⟨I, 3, none⟩ = some (.slice A4 i.travel.length c4))) (z := 10) (by kernel_rfl) (SS.out _ (Below.refl w2.heap.size w2).drew) (fun hH => ?_)
  refine wpAnyZ_takeS (i := 0) (v := ?_) rfl (by kernel_rfl) (by kernel_rfl) (by kernel_rfl) (by kernel_rfl) (fun _ _ _ h => h) (gives_value (by rfl) ?_) (by assumption) ?_
  rotate_left
  · intro w hSw
    (try dsimp only at hSw)
    go_simp
    (try with_reducible rfl)
  (try simp only [Act.put, List.getElem_toArray, List.getElem_cons_succ, List.getElem_cons_zero, List.setIfInBounds_toArray, List.set_cons_zero, List.set_cons_succ])
  refine wpAnyZ_takeS (i := 1) (v := ?_) rfl (by kernel_rfl) (by kernel_rfl) (by kernel_rfl) (by kernel_rfl) (fun _ _ _ h => h) (gives_value (by rfl) ?_) (by assumption) ?_
  rotate_left
  · intro w hSw
    (try dsimp only at hSw)
    go_simp
    (try with_reducible rfl)
  (try simp only [Act.put, List.getElem_toArray, List.getElem_cons_succ, List.getElem_cons_zero, List.setIfInBounds_toArray, List.set_cons_zero, List.set_cons_succ])
  refine wpAnyZ_takeS (i := 2) (v := ?_) rfl (by kernel_rfl) (by kernel_rfl) (by kernel_rfl) (by kernel_rfl) (fun _ _ _ h => h) (gives_value (by rfl) ?_) (by assumption) ?_
  rotate_left
  · intro w hSw
    (try dsimp only at hSw)
    go_simp
    (try with_reducible rfl)
  (try simp only [Act.put, List.getElem_toArray, List.getElem_cons_succ, List.getElem_cons_zero, List.setIfInBounds_toArray, List.set_cons_zero, List.set_cons_succ])
  refine wpAnyZ_takeS (i := 4) (v := ?_) rfl (by kernel_rfl) (by kernel_rfl) (by kernel_rfl) (by kernel_rfl) (fun _ _ _ h => h) (gives_value (by rfl) ?_) (by assumption) ?_
  rotate_left
  · intro w hSw
    (try dsimp only at hSw)
    go_simp
    (try with_reducible rfl)
  (try simp only [Act.put, List.getElem_toArray, List.getElem_cons_succ, List.getElem_cons_zero, List.setIfInBounds_toArray, List.set_cons_zero, List.set_cons_succ])
  refine wpAnyZ_takeS (i := 5) (v := ?_) rfl (by kernel_rfl) (by kernel_rfl) (by kernel_rfl) (by kernel_rfl) (fun _ _ _ h => h) (gives_value (by rfl) ?_) (by assumption) ?_
  rotate_left
  · intro w hSw
    (try dsimp only at hSw)
    go_simp
    (try with_reducible rfl)
  (try simp only [Act.put, List.getElem_toArray, List.getElem_cons_succ, List.getElem_cons_zero, List.setIfInBounds_toArray, List.set_cons_zero, List.set_cons_succ])
  refine wpAnyZ_takeS (i := 6) (v := ?_) rfl (by kernel_rfl) (by kernel_rfl) (by kernel_rfl) (by kernel_rfl) (fun _ _ _ h => h) (gives_value (by rfl) ?_) (by assumption) ?_
  rotate_left
  · intro w hSw
    (try dsimp only at hSw)
    go_simp
    (try with_reducible rfl)
  (try simp only [Act.put, List.getElem_toArray, List.getElem_cons_succ, List.getElem_cons_zero, List.setIfInBounds_toArray, List.set_cons_zero, List.set_cons_succ])
  refine wpAnyZ_one (i := 3) (by kernel_rfl) ?_
  refine zstep rfl (fun K hK => ?_)
  go_simp
  (with_reducible refine (K1.out _ (Below.refl w2.heap.size w2).drew).mono ?_)
  rintro e w5 ⟨gh, rfl, hgh, hrh, hb⟩
  have HBw5 := Lib.hid (((Below.refl w2.heap.size w2).drew).trans hb)
  have RH5 := Lib.hid hrh
  clear hrh hgh
  clear hb
  refine hK.out _ _ (fun _ => SS.out _ HBw5.out) (fun hH => ?_)
  replace hH := hH (by decide)
  clear hK K
  (try simp only [Act.put, List.getElem_toArray, List.getElem_cons_succ, List.getElem_cons_zero, List.setIfInBounds_toArray, List.set_cons_zero, List.set_cons_succ])
  refine wpAnyZ_one (i := 7) (by kernel_rfl) ?_
  refine zstep rfl (fun K hK => ?_)
  go_simp
  (with_reducible refine (K2.out _ HBw5.out).mono ?_)
  rintro e w6 ⟨gt, rfl, hgt, hrt, hb⟩
  have HBw6 := Lib.hid (HBw5.out.trans (hb.mono HBw5.out.size))
  have RT6 := Lib.hid hrt
  have RH6 := Lib.hid (RH5.out.below hb)
  clear hrt hgt RH5
  clear hb
  refine hK.out _ _ (fun _ => SS.out _ HBw6.out) (fun hH => ?_)
  replace hH := hH (by decide)
  clear hK K
  (try simp only [Act.put, List.getElem_toArray, List.getElem_cons_succ, List.getElem_cons_zero, List.setIfInBounds_toArray, List.set_cons_zero, List.set_cons_succ])
  refine wpAnyZ_takeS (i := 8) (v := ?_) rfl (by kernel_rfl) (by kernel_rfl) (by kernel_rfl) (by kernel_rfl) (fun _ _ _ h => h) (gives_value (by rfl) ?_) (by assumption) ?_
  rotate_left
  · intro w hSw
    (try dsimp only at hSw)
    go_simp
    (try with_reducible rfl)
  (try simp only [Act.put, List.getElem_toArray, List.getElem_cons_succ, List.getElem_cons_zero, List.setIfInBounds_toArray, List.set_cons_zero, List.set_cons_succ])
  refine wpAnyZ_takeS (i := 9) (v := ?_) rfl (by kernel_rfl) (by kernel_rfl) (by kernel_rfl) (by kernel_rfl) (fun _ _ _ h => h) (gives_value (by rfl) ?_) (by assumption) ?_
  rotate_left
  · intro w hSw
    (try dsimp only at hSw)
    go_simp
    (try with_reducible rfl)
  (try simp only [Act.put, List.getElem_toArray, List.getElem_cons_succ, List.getElem_cons_zero, List.setIfInBounds_toArray, List.set_cons_zero, List.set_cons_succ])
  refine wpAnyZ_done (by kernel_rfl) ?_ _
  clear hH
  have T5a := Lib.hid (⟨TW.out.on HBw6.out, RH6.out, RT6.out⟩ : T5 w w6 I A1 A2 A3 A4 c1 c2 c3 c4 i A cap r cn gh gt)
  clear SS K1 K2 TW RH6 RT6 HBw5 HBw6
  have tl : (((r.length + 1 : Nat) : Int) != (r.length : Int) + 1) = false := by simp
  have twl : IntKind.i64.wrap ((r.length : Int) + 1) = (r.length : Int) + 1 := IntWalk.i64_in _ (by omega)
  go_wp2
  clear tl twl
  go_loopw [56] (fun kv wr => ∃ k : Nat, k ≤ r.length + 1 ∧ kv = .int .i64 k ∧ Below w6.heap.size w6 wr) (fun kv _ => r.length + 1 - (intOf kv).toNat)
  case atStart => exact ⟨0, Nat.zero_le _, rfl, Below.refl _ _⟩
  case round =>
    obtain ⟨k, hk, rfl, hbr⟩ := hrel
    have HBr := Lib.hid hbr
    have T5r := Lib.hid (T5a.out.on hbr)
    clear hbr
    by_cases hlt : k < r.length + 1
    · have n1 : (k : Int) < ((r.length + 1 : Nat) : Int) := by omega
      have n1' : (k : Int) < (r.length : Int) + 1 := by omega
      go_wp2
      clear n1 n1'
      go_loopw [12, 13, 61] (fun av bv jv wr => ∃ j : Nat, j ≤ r.length ∧ jv = .int .i64 j ∧ av = .int .u32 (orN (ahP i r k) r j : Nat) ∧ bv = .int .u32 (orN (beP i r k) r j : Nat) ∧ Below w6.heap.size w6 wr) (fun _ _ jv _ => r.length - (intOf jv).toNat)
      case atStart => exact ⟨0, Nat.zero_le _, rfl, rfl, rfl, HBr.out⟩
      case round =>
        obtain ⟨j, hj, rfl, rfl, rfl, hbs⟩ := hrel
        have HBs := Lib.hid hbs
        have T5s := Lib.hid (T5a.out.on hbs)
        clear hbs
        by_cases hjl : j < r.length
        · obtain ⟨B, o, rfl, hB, d0⟩ := rowNum5 T5s.out.two.row hjl
          have a1 : Hid (orN (ahP i r k) r (j + 1) = if ahP i r k j = true then orN (ahP i r k) r j ||| digit (r[j]?.getD 0) else orN (ahP i r k) r j) := rfl
          have a2 : Hid (orN (beP i r k) r (j + 1) = if beP i r k j = true then orN (beP i r k) r j ||| digit (r[j]?.getD 0) else orN (beP i r k) r j) := rfl
          have p1 : Hid (ahP i r k j = (inB r[j] 1 i.stops.length && decide (j < k))) := by show _ = _; unfold ahP; rw [getD_at hjl]
          have p2 : Hid (beP i r k j = (inB r[j] 1 i.stops.length && !decide (j < k))) := by show _ = _; unfold beP; rw [getD_at hjl]
          rw [getD_at hjl] at a1 a2
          have b1 := ah_lt hst r k j
          have b2 := be_lt hst r k j
          generalize orN (ahP i r k) r j = ah at *
          generalize orN (beP i r k) r j = be at *
          have k1 := T5s.out.two.box.b1
          have hIz := T5s.out.two.box.lt
          have m0 : (j : Int) < (r.length : Int) := by omega
          have m1 : (0 : Int) ≤ (j : Int) := by omega
          have m2 : (j : Int).toNat = j := by omega
          generalize r[j] = s at *
          by_cases hv : inB s 1 i.stops.length = true
          · have hs := inB_iff.1 hv
            obtain ⟨n, rfl⟩ : ∃ n : Nat, s = (n : Int) := ⟨s.toNat, by omega⟩
            rw [hv] at p1 p2
            have t1 : decide ((n : Int) < 1) = false := by simp; omega
            have t2 : decide ((i.stops.length : Int) < (n : Int)) = false := by simp; omega
            have hu : (n : Int) % 18446744073709551616 = (n : Int) := by omega
            have hsh := dig_shl (n := n) (by omega)
            have hdl : digit (n : Int) < 2048 := digit_lt (by omega)
            have o1 : Go.bits .or .u32 (ah : Int) (digit (n : Int) : Int) = ((ah ||| digit (n : Int) : Nat) : Int) := u32_or (by omega) (by omega)
            have o2 : Go.bits .or .u32 (be : Int) (digit (n : Int) : Int) = ((be ||| digit (n : Int) : Nat) : Int) := u32_or (by omega) (by omega)
            generalize digit (n : Int) = dg at *
            clear hv
            by_cases hjk : j < k
            · as_aux_lemma =>
                have t3 : decide ((j : Int) < (k : Int)) = true := by simp; omega
                have t3' : decide (j < k) = true := by simp; omega
                have f1 : Hid (orN (ahP i r k) r (j + 1) = ah ||| dg) := by show _ = _; rw [a1.out, p1.out]; simp [hjk]
                have f2 : Hid (orN (beP i r k) r (j + 1) = be) := by show _ = _; rw [a2.out, p2.out]; simp [hjk]
                clear a1 a2 p1 p2 hjk
                go_wp2
                go_roundw
                case rel => exact ⟨j + 1, by omega, by go_num, by rw [f1.out], by rw [f2.out], HBs.out⟩
                case measure => simp [intOf]; omega
            · as_aux_lemma =>
                have t3 : decide ((j : Int) < (k : Int)) = false := by simp; omega
                have t3' : decide (j < k) = false := by simp; omega
                have f1 : Hid (orN (ahP i r k) r (j + 1) = ah) := by show _ = _; rw [a1.out, p1.out]; simp [hjk]
                have f2 : Hid (orN (beP i r k) r (j + 1) = be ||| dg) := by show _ = _; rw [a2.out, p2.out]; simp [hjk]
                clear a1 a2 p1 p2 hjk
                go_wp2
                go_roundw
                case rel => exact ⟨j + 1, by omega, by go_num, by rw [f1.out], by rw [f2.out], HBs.out⟩
                case measure => simp [intOf]; omega
          · have hv' : inB s 1 i.stops.length = false := by simpa using hv
            rw [hv'] at p1 p2
            have f1 : Hid (orN (ahP i r k) r (j + 1) = ah) := by show _ = _; rw [a1.out, p1.out]; simp
            have f2 : Hid (orN (beP i r k) r (j + 1) = be) := by show _ = _; rw [a2.out, p2.out]; simp
            clear a1 a2 p1 p2 hv
            rcases inB_no.1 hv' with hs | hs
            · as_aux_lemma =>
                have t1 : decide (s < 1) = true := by simp; omega
                clear hv'
                go_wp2
                go_roundw
                case rel => exact ⟨j + 1, by omega, by go_num, by rw [f1.out], by rw [f2.out], HBs.out⟩
                case measure => simp [intOf]; omega
            · as_aux_lemma =>
                have t2 : decide ((i.stops.length : Int) < s) = true := by simp; omega
                clear hv'
                by_cases hs1 : s < 1
                · have t1 : decide (s < 1) = true := by simpa using hs1
                  go_wp2
                  go_roundw
                  case rel => exact ⟨j + 1, by omega, by go_num, by rw [f1.out], by rw [f2.out], HBs.out⟩
                  case measure => simp [intOf]; omega
                · have t1 : decide (s < 1) = false := by simpa using hs1
                  go_wp2
                  go_roundw
                  case rel => exact ⟨j + 1, by omega, by go_num, by rw [f1.out], by rw [f2.out], HBs.out⟩
                  case measure => simp [intOf]; omega
        · obtain rfl : j = r.length := by omega
          have tj : decide ((r.length : Int) < (r.length : Int)) = false := by simp
          have hab := ah_lt hst r k r.length
          have hbb := be_lt hst r k r.length
          have HAH : Hid (∀ h, headL i cn (r.take k) = some h → h.set = orN (ahP i r k) r r.length ∧ h.opn = openH (orN (ahP i r k) r r.length) i.pairs) := fun h hh => by
            have e := head_ah (show k ≤ r.length by omega) hh
            exact ⟨e, by rw [← e]; exact (head_agrees HM.out HF.out hh).opn⟩
          have HBE : Hid (∀ t, tailL i cn (r.drop k) = some t → t.set = orN (beP i r k) r r.length ∧ t.need = needH (orN (beP i r k) r r.length) i.pairs) := fun t ht => by
            have e := tail_be (show k ≤ r.length by omega) ht
            exact ⟨e, by rw [← e]; exact (tail_agrees HM.out HF.out ht).need⟩
          generalize orN (ahP i r k) r r.length = ah at *
          generalize orN (beP i r k) r r.length = be at *
          have k2 := T5s.out.two.box.b2
          have hIz := T5s.out.two.box.lt
          go_wp2
          clear k2 hIz
          go_loopw [14, 15, 92] (fun ov nv c wr => ∃ m : Nat, m ≤ i.pairs.length ∧ c = .int .i64 m ∧ ov = .int .u32 (openH ah (i.pairs.take m) : Nat) ∧ nv = .int .u32 (needH be (i.pairs.take m) : Nat) ∧ Below w6.heap.size w6 wr) (fun _ _ c _ => i.pairs.length - (intOf c).toNat)
          case atStart => exact ⟨0, Nat.zero_le _, rfl, rfl, rfl, HBs.out⟩
          case round =>
            obtain ⟨m, hm, rfl, rfl, rfl, hbp⟩ := hrel
            have HBp := Lib.hid hbp
            have T5p := Lib.hid (T5a.out.on hbp)
            clear hbp
            by_cases hml : m < i.pairs.length
            · obtain ⟨B, o, rfl, hB, d0, d1⟩ := said_pair T5p.out.two.box.lies hml
              have hpf := HF.out.pairF _ (List.getElem_mem hml)
              have ho := open_lt (S := ah) (l := i.pairs.take m) (fun p hp => by have := HF.out.pairF p (List.mem_of_mem_take hp); omega)
              have hn := need_lt' (S := be) (l := i.pairs.take m) (fun p hp => by have := HF.out.pairF p (List.mem_of_mem_take hp); omega)
              have HO : Hid (openH ah (i.pairs.take (m + 1)) = openF ah (openH ah (i.pairs.take m)) i.pairs[m]) := fold_take hml
              have HN : Hid (needH be (i.pairs.take (m + 1)) = needF be (needH be (i.pairs.take m)) i.pairs[m]) := fold_take hml
              generalize i.pairs[m] = p at *
              obtain ⟨pa, pb⟩ := p
              simp only at d0 d1 hpf
              unfold openF at HO
              unfold needF at HN
              simp only at HO HN
              generalize openH ah (i.pairs.take m) = oo at *
              generalize needH be (i.pairs.take m) = nn at *
              obtain ⟨na, rfl⟩ : ∃ n : Nat, pa = (n : Int) := ⟨pa.toNat, by omega⟩
              obtain ⟨nb, rfl⟩ : ∃ n : Nat, pb = (n : Int) := ⟨pb.toNat, by omega⟩
              have hua : (na : Int) % 18446744073709551616 = (na : Int) := by omega
              have hub : (nb : Int) % 18446744073709551616 = (nb : Int) := by omega
              have hsa := dig_shl (n := na) (by omega)
              have hsb := dig_shl (n := nb) (by omega)
              have hda : digit (na : Int) < 2048 := digit_lt (by omega)
              have b1 : Go.bits .or .u32 (oo : Int) (digit (na : Int) : Int) = ((oo ||| digit (na : Int) : Nat) : Int) := u32_or (by omega) (by omega)
              have b2 : Go.bits .or .u32 (nn : Int) (digit (na : Int) : Int) = ((nn ||| digit (na : Int) : Nat) : Int) := u32_or (by omega) (by omega)
              have h1 := bits_has (S := ah) (s := (na : Int)) (by omega) (by omega)
              have h2 := no_bits (S := ah) (s := (nb : Int)) (by omega) (by omega)
              have h3 := bits_has (S := be) (s := (nb : Int)) (by omega) (by omega)
              have h4 := no_bits (S := be) (s := (na : Int)) (by omega) (by omega)
              generalize hasD ah (na : Int) = x1 at *
              generalize hasD ah (nb : Int) = x2 at *
              generalize hasD be (nb : Int) = x3 at *
              generalize hasD be (na : Int) = x4 at *
              generalize digit (na : Int) = da at *
              generalize digit (nb : Int) = db at *
              have k2 := T5p.out.two.box.b2
              have hIz := T5p.out.two.box.lt
              go_upto_region 22 with (fail)
              go_quiet (fail)
              have HBq := Lib.hid (below_draws' (HBp.out.alloc HBp.out.size (.cells #[.int .i64 (na : Int), .int .i64 (nb : Int)] 70)) nq)
              clear d0 d1 k2 hIz
              cases x1 <;> cases x2 <;> cases x3 <;> cases x4 <;> simp only [Bool.not_true, Bool.not_false, true_and, and_true, and_self, and_false, false_and, if_true, if_false, reduceCtorEq] at HO HN h1 h2 h3 h4
              all_goals as_aux_lemma =>
                go_wp2
                go_roundw
                all_goals first
                  | exact ⟨m + 1, by omega, by go_num, by rw [HO.out], by rw [HN.out], HBq.out⟩
                  | (simp [intOf]; omega)
            · obtain rfl : m = i.pairs.length := by omega
              have tm : decide ((i.pairs.length : Int) < (i.pairs.length : Int)) = false := by simp
              rw [List.take_length]
              have n1 : (k : Int) < ((r.length + 1 : Nat) : Int) := by omega
              have n1' : (k : Int) < (r.length : Int) + 1 := by omega
              have n0 : (0 : Int) ≤ (k : Int) := by omega
              have n2 : (k : Int).toNat = k := by omega
              have zh := T5p.out.hr.1
              have zt := T5p.out.tr.1
              cases hh : headL i cn (r.take k) with
              | none =>
                obtain ⟨p0, p1, p2, p3, p4, p5, p6⟩ := T5p.out.hr.at7 (k := k) hlt (show headC (headL i cn (r.take k)) = _ by rw [hh]; rfl)
                cases ht : tailL i cn (r.drop k) with
                | none =>
                  as_aux_lemma =>
                    obtain ⟨q0, q1, q2, q3, q4, q5, q6, q7⟩ := T5p.out.tr.at8 (k := k) hlt (show tailC (tailL i cn (r.drop k)) = _ by rw [ht]; rfl)
                    clear hh ht HAH HBE
                    generalize openH ah i.pairs = oo at *
                    generalize needH be i.pairs = nn at *
                    go_wp2
                    go_roundw
                    case rel => exact ⟨k + 1, by omega, by go_num, HBp.out⟩
                    case measure => simp [intOf]; omega
                | some tt =>
                  as_aux_lemma =>
                    obtain ⟨e1, e2⟩ := HBE.out _ ht
                    obtain ⟨q0, q1, q2, q3, q4, q5, q6, q7⟩ := T5p.out.tr.at8 (k := k) hlt (show tailC (tailL i cn (r.drop k)) = _ by rw [ht]; rfl)
                    rw [e1] at q6
                    rw [e2] at q5
                    have ws : ((be : Int) != (be : Int)) = false := by simp
                    have wo : (((needH be i.pairs : Nat) : Int) != ((needH be i.pairs : Nat) : Int)) = false := by simp
                    clear e1 e2
                    clear hh ht HAH HBE
                    generalize openH ah i.pairs = oo at *
                    generalize needH be i.pairs = nn at *
                    go_wp2
                    go_roundw
                    case rel => exact ⟨k + 1, by omega, by go_num, HBp.out⟩
                    case measure => simp [intOf]; omega
              | some hd =>
                obtain ⟨e1, e2⟩ := HAH.out _ hh
                obtain ⟨p0, p1, p2, p3, p4, p5, p6⟩ := T5p.out.hr.at7 (k := k) hlt (show headC (headL i cn (r.take k)) = _ by rw [hh]; rfl)
                rw [e1] at p5
                rw [e2] at p4
                have vs : ((ah : Int) != (ah : Int)) = false := by simp
                have vo : (((openH ah i.pairs : Nat) : Int) != ((openH ah i.pairs : Nat) : Int)) = false := by simp
                clear e1 e2
                cases ht : tailL i cn (r.drop k) with
                | none =>
                  as_aux_lemma =>
                    obtain ⟨q0, q1, q2, q3, q4, q5, q6, q7⟩ := T5p.out.tr.at8 (k := k) hlt (show tailC (tailL i cn (r.drop k)) = _ by rw [ht]; rfl)
                    clear hh ht HAH HBE
                    generalize openH ah i.pairs = oo at *
                    generalize needH be i.pairs = nn at *
                    go_wp2
                    go_roundw
                    case rel => exact ⟨k + 1, by omega, by go_num, HBp.out⟩
                    case measure => simp [intOf]; omega
                | some tt =>
                  as_aux_lemma =>
                    obtain ⟨e1, e2⟩ := HBE.out _ ht
                    obtain ⟨q0, q1, q2, q3, q4, q5, q6, q7⟩ := T5p.out.tr.at8 (k := k) hlt (show tailC (tailL i cn (r.drop k)) = _ by rw [ht]; rfl)
                    rw [e1] at q6
                    rw [e2] at q5
                    have ws : ((be : Int) != (be : Int)) = false := by simp
                    have wo : (((needH be i.pairs : Nat) : Int) != ((needH be i.pairs : Nat) : Int)) = false := by simp
                    clear e1 e2
                    clear hh ht HAH HBE
                    generalize openH ah i.pairs = oo at *
                    generalize needH be i.pairs = nn at *
                    go_wp2
                    go_roundw
                    case rel => exact ⟨k + 1, by omega, by go_num, HBp.out⟩
                    case measure => simp [intOf]; omega
    · obtain rfl : k = r.length + 1 := by omega
      have tt : decide (((r.length + 1 : Nat) : Int) < ((r.length + 1 : Nat) : Int)) = false := by simp
      go_wp2_with (go_at_call 18; fail)
      (with_reducible refine (wakes5_any _).mono ?_)
      rintro e wz ⟨rfl, hb⟩
      have TZ := Lib.hid (T5r.out.on hb)
      clear hb
      go_wp2
      go_ret
      exact ⟨rfl, TZ.out.two.below⟩
end Go.Proofs.Ytgkieelacjcopaa
