/- tab.digit, has, stopThere, stopsOnly, carThere, halves, sums, isSecond: what they answer. · tab.halves, sums, isSecond: what they answer. · Heads and tails as values; the variables of one call (stage 5). · An operation whose guard is off may be left out first (beside Orders). · Rows of heads and tails: made whole, written place by place (stage 5). -/
import Derived.Test.YtgkieelacjcopaaZ07
import Derived.Test.YtgkieelacjcopaaZ06
import Derived.Deep.QuietTactic
import Derived.BigQuiet
import Derived.Test.YtgkieelacjcopaaZ03
namespace Go.Proofs.Ytgkieelacjcopaa
open Go.RowKit
set_option linter.unusedSimpArgs false

theorem digit_lt' {s : Int} (h : s ≤ 11) : digit s < 4096 := by
  unfold digit
  have : 2 ^ s.toNat ≤ 2 ^ 11 := Nat.pow_le_pow_right (by omega) (by omega)
  omega
set_option maxRecDepth 100000 in
theorem digit_any (s : Int) (w : World) (h0 : 0 ≤ s) (h : s ≤ 11) : Calls Try.prog 43 #[.int .i64 s] w fun e w' => e = .returned (.int .u32 (digit s : Nat)) ∧ w' = w := by
  obtain ⟨n, rfl⟩ : ∃ n : Nat, s = (n : Int) := ⟨s.toNat, by omega⟩
  have hn : n ≤ 11 := by omega
  have hm : (n : Int) % 4294967296 = (n : Int) := by omega
  have hlt : (2 : Int) ^ n % 4294967296 = ((2 ^ n : Nat) : Int) := by
    have h1 : (2 : Nat) ^ n ≤ 2 ^ 11 := Nat.pow_le_pow_right (by omega) hn
    have h2 : ((2 ^ n : Nat) : Int) = (2 : Int) ^ n := by simp
    rw [← h2]
    generalize (2 : Nat) ^ n = m at *
    omega
  clear h0 h
  go_enter Try.func43, Try.ntmps43
  go_wp2
  go_ret
  exact ⟨by simp [digit, hlt, hm], rfl⟩
theorem bits_has {S : Nat} {s : Int} (hS : S < 4294967296) (hs : s ≤ 11) : (Go.bits .and .u32 (S : Int) (digit s : Int) != 0) = hasD S s := by
  have := digit_lt' hs
  rw [u32_and hS (by omega)]
  cases h : hasD S s
  · rw [and_none h]; rfl
  · have := and_some h; simpa using this
set_option maxRecDepth 100000 in
theorem has_any (S : Nat) (s : Int) (w : World) (hS : S < 4294967296) (h0 : 0 ≤ s) (h : s ≤ 11) : Calls Try.prog 42 #[.int .u32 (S : Nat), .int .i64 s] w fun e w' => e = .returned (.bool (hasD S s)) ∧ w' = w := by
  have K := Lib.hid (fun W => digit_any s W h0 h)
  have HB := Lib.hid (bits_has hS h)
  clear h0 h hS
  go_enter Try.func42, Try.ntmps42
  go_wp2_with (go_at_call 43; fail)
  (with_reducible refine (K.out _).mono ?_)
  rintro e w1 ⟨rfl, rfl⟩
  go_wp2
  go_ret
  exact ⟨by rw [HB.out]; rfl, rfl⟩
set_option maxRecDepth 100000 in
theorem stopThere_any (v : Value) (i : Prob) (s : Int) (w : World) (h : Lies w v i) :
    Calls Try.prog 41 #[v, .int .i64 s] w fun e w' => e = .returned (.bool (inB s 1 i.stops.length)) ∧ Below w.heap.size w w' := by
  obtain ⟨vc, vs, vp, vt, rfl, _, ⟨A, cap, rfl, _⟩, _⟩ := h
  by_cases h1 : 1 ≤ s
  · by_cases h2 : s ≤ i.stops.length
    · have HE : Hid (inB s 1 i.stops.length = true) := inB_iff.2 ⟨h1, h2⟩
      go_enter Try.func41, Try.ntmps41
      go_wp2
      go_ret
      exact ⟨by rw [HE.out]; rfl, (Below.refl _ _).alloc (Nat.le_refl _) _⟩
    · have HE : Hid (inB s 1 i.stops.length = false) := inB_no.2 (by omega)
      have t2 : decide (s ≤ (i.stops.length : Int)) = false := by simpa using h2
      go_enter Try.func41, Try.ntmps41
      go_wp2
      go_ret
      exact ⟨by rw [HE.out]; rfl, (Below.refl _ _).alloc (Nat.le_refl _) _⟩
  · have HE : Hid (inB s 1 i.stops.length = false) := inB_no.2 (by omega)
    have t1 : decide (1 ≤ s) = false := by simpa using h1
    go_enter Try.func41, Try.ntmps41
    go_wp2
    go_ret
    exact ⟨by rw [HE.out]; rfl, (Below.refl _ _).alloc (Nat.le_refl _) _⟩
set_option maxRecDepth 100000 in
theorem carThere_any (v : Value) (i : Prob) (c : Int) (w : World) (h : Lies w v i) (hok : probOk i = true) (hp : i.pairs.length ≤ 1000000) :
    Calls Try.prog 26 #[v, .int .i64 c] w fun e w' => e = .returned (.bool (inB c 0 (i.cars.length - 1))) ∧ Below w.heap.size w w' := by
  obtain ⟨A1, A2, A3, A4, c1, c2, c3, c4, rfl, hs⟩ := h.said
  have hcl := (fine_of hok).cars
  have HS := Lib.hid (short_of hok hp)
  have BX0 := Lib.hid (box_new hs 27)
  have HB0 := Lib.hid ((Below.refl w.heap.size w).alloc (Nat.le_refl _) (.cells #[.slice A1 i.cars.length c1, .slice A2 i.stops.length c2, .slice A3 i.pairs.length c3, .slice A4 i.travel.length c4] 27))
  have K : Hid (∀ W, Below w.heap.size w W → Calls Try.prog 40 #[.agg #[.slice A1 i.cars.length c1, .slice A2 i.stops.length c2, .slice A3 i.pairs.length c3, .slice A4 i.travel.length c4]] W fun e w' => e = .returned (.int .i64 0) ∧ Below W.heap.size W w') := fun W hB => check_ok (Lies.below hs hB) HS.out hok
  obtain ⟨b, hb⟩ : ∃ b, inB c 0 (i.cars.length - 1) = b := ⟨_, rfl⟩
  have HC := Lib.hid hb
  rw [hb]
  clear hs h hok hb
  go_enter Try.func26, Try.ntmps26
  go_upto_region 1 with (fail)
  generalize w.alloc (.cells #[.slice A1 i.cars.length c1, .slice A2 i.stops.length c2, .slice A3 i.pairs.length c3, .slice A4 i.travel.length c4] 27) = wa at *
  have k0 := BX0.out.b0
  have k1 := BX0.out.b1
  have k2 := BX0.out.b2
  have k3 := BX0.out.b3
  have hIz := BX0.out.lt
  go_wp2_with (go_at_call 40; fail)
  (with_reducible refine (K.out _ HB0.out).mono ?_)
  rintro e w1 ⟨rfl, hb1⟩
  have HB1 := Lib.hid (HB0.out.trans (hb1.mono HB0.out.size))
  have BI := Lib.hid (BX0.out.below hb1)
  clear hb1 k0 k1 k2 k3 hIz BX0
  have k0 := BI.out.b0
  have hIz := BI.out.lt
  by_cases h1 : 0 ≤ c
  · by_cases h2 : c < i.cars.length
    · have HE : Hid (b = true) := by show _ = _; rw [← HC.out]; exact inB_iff.2 ⟨h1, by omega⟩
      go_wp2
      go_ret
      exact ⟨by rw [HE.out]; rfl, HB1.out⟩
    · have HE : Hid (b = false) := by show _ = _; rw [← HC.out]; exact inB_no.2 (by omega)
      have t2 : decide (c < (i.cars.length : Int)) = false := by simpa using h2
      go_wp2
      go_ret
      exact ⟨by rw [HE.out]; rfl, HB1.out⟩
  · have HE : Hid (b = false) := by show _ = _; rw [← HC.out]; exact inB_no.2 (by omega)
    have t1 : decide (0 ≤ c) = false := by simpa using h1
    go_wp2
    go_ret
    exact ⟨by rw [HE.out]; rfl, HB1.out⟩
theorem all_bit {n k : Nat} (hn : n ≤ 10) : (2 ^ (n + 1) - 2).testBit k = (decide (1 ≤ k) && decide (k ≤ n)) := by
  by_cases hk : k < 12
  · have h1 : ∀ n : Fin 11, ∀ k : Fin 12, (2 ^ (n.1 + 1) - 2).testBit k.1 = (decide (1 ≤ k.1) && decide (k.1 ≤ n.1)) := by decide
    exact h1 ⟨n, by omega⟩ ⟨k, hk⟩
  · have h2 : 2 ^ (n + 1) ≤ 2 ^ k := Nat.pow_le_pow_right (by omega) (by omega)
    have h3 : 0 < 2 ^ k := Nat.two_pow_pos k
    rw [Nat.testBit_lt_two_pow (by omega)]
    simp; omega
theorem andNot_zero {a b : Nat} (h : ∀ k, a.testBit k = true → b.testBit k = true) : Go.bits .andNot .u32 (a : Int) (b : Int) = 0 := by
  show IntKind.u32.wrap ((BitVec.ofNat 32 a &&& ~~~ BitVec.ofNat 32 b).toNat : Int) = _
  have e : (BitVec.ofNat 32 a &&& ~~~ BitVec.ofNat 32 b).toNat = 0 := by
    refine Nat.eq_of_testBit_eq fun k => ?_
    rw [BitVec.testBit_toNat, BitVec.getLsbD_and, BitVec.getLsbD_not, BitVec.getLsbD_ofNat, BitVec.getLsbD_ofNat, Nat.zero_testBit]
    have := h k
    cases h1 : a.testBit k <;> cases h2 : b.testBit k <;> simp_all
  rw [e]; exact u32_wrap (n := 0) (by omega)
set_option maxRecDepth 100000 in
theorem stopsOnly_any (v : Value) (i : Prob) (S : Nat) (w : World) (h : Lies w v i) (hst : i.stops.length ≤ 10) (h0 : S.testBit 0 = false) (ht : ∀ x : Int, 1 ≤ x → hasD S x = true → x ≤ i.stops.length) :
    Calls Try.prog 45 #[v, .int .u32 (S : Nat)] w fun e w' => e = .returned (.bool true) ∧ Below w.heap.size w w' := by
  obtain ⟨vc, vs, vp, vt, rfl, _, ⟨A, cap, rfl, _⟩, _⟩ := h
  have K1 := Lib.hid (fun W => digit_any ((i.stops.length : Int) + 1) W (by omega) (by omega))
  have K2 := Lib.hid (fun W => digit_any 1 W (by omega) (by omega))
  have e1 : (digit ((i.stops.length : Int) + 1) : Int) - (digit 1 : Int) = ((2 ^ (i.stops.length + 1) - 2 : Nat) : Int) := by
    have h2 : 2 ^ 1 ≤ 2 ^ (i.stops.length + 1) := Nat.pow_le_pow_right (by omega) (by omega)
    unfold digit
    rw [show ((i.stops.length : Int) + 1).toNat = i.stops.length + 1 by omega, show (1 : Int).toNat = 1 from rfl]
    omega
  have e2 : (2 ^ (i.stops.length + 1) - 2 : Nat) < 2048 := by
    have h2 : 2 ^ (i.stops.length + 1) ≤ 2 ^ 11 := Nat.pow_le_pow_right (by omega) (by omega)
    omega
  have HA : Hid (Go.bits .andNot .u32 (S : Int) ((2 ^ (i.stops.length + 1) - 2 : Nat) : Int) = 0) := andNot_zero (fun k hk => by
    rw [all_bit hst]
    have hk0 : k ≠ 0 := fun e => by subst e; rw [h0] at hk; cases hk
    have := ht (k : Int) (by omega) (by unfold hasD; simpa using hk)
    simp; omega)
  generalize digit ((i.stops.length : Int) + 1) = d1 at *
  generalize digit 1 = d2 at *
  generalize (2 ^ (i.stops.length + 1) - 2 : Nat) = m at *
  have hw : ((d1 : Int) - (d2 : Int)) % 4294967296 = (m : Int) := by omega
  have HA' := HA.out
  clear ht h0
  go_enter Try.func45, Try.ntmps45
  go_wp2_with (go_at_call 43; fail)
  (with_reducible refine (K1.out _).mono ?_)
  rintro e w1 ⟨rfl, rfl⟩
  go_wp2_with (go_at_call 43; fail)
  (with_reducible refine (K2.out _).mono ?_)
  rintro e w1 ⟨rfl, rfl⟩
  go_wp2
  go_ret
  exact ⟨rfl, (Below.refl _ _).alloc (Nat.le_refl _) _⟩
end Go.Proofs.Ytgkieelacjcopaa
namespace Go.Proofs.Ytgkieelacjcopaa
open Go.RowKit
set_option linter.unusedSimpArgs false

theorem fold_take {β : Type} {f : β → Pair → β} {b : β} {l : List Pair} {k : Nat} (h : k < l.length) : (l.take (k + 1)).foldl f b = f ((l.take k).foldl f b) l[k] := by rw [List.take_succ_eq_append_getElem h, List.foldl_append]; rfl
theorem fold_lt {f : Nat → Pair → Nat} (hf : ∀ a p, p.a ≤ 10 → a < 2048 → f a p < 2048) : ∀ (l : List Pair) (a : Nat), (∀ p ∈ l, p.a ≤ 10) → a < 2048 → l.foldl f a < 2048
  | [], a, _, h => h
  | p :: l, a, hl, h => fold_lt hf l _ (fun q hq => hl q (by simp [hq])) (hf a p (hl p (by simp)) h)
theorem open_lt {S : Nat} {l : List Pair} (h : ∀ p ∈ l, p.a ≤ 10) : openH S l < 2048 := fold_lt (fun a p hp ha => by
  unfold openF; split
  · exact Nat.or_lt_two_pow (n := 11) ha (digit_lt hp)
  · exact ha) l 0 h (by omega)
theorem need_lt' {S : Nat} {l : List Pair} (h : ∀ p ∈ l, p.a ≤ 10) : needH S l < 2048 := fold_lt (fun a p hp ha => by
  unfold needF; split
  · exact Nat.or_lt_two_pow (n := 11) ha (digit_lt hp)
  · exact ha) l 0 h (by omega)
set_option maxRecDepth 100000 in
set_option maxHeartbeats 4000000 in
theorem halves_any (v : Value) (i : Prob) (S : Nat) (w : World) (h : Lies w v i) (hf : Fine i) (hp : i.pairs.length ≤ 1000000) (hS : S < 2048) :
    Calls Try.prog 44 #[v, .int .u32 (S : Nat)] w fun e w' => e = .returned (.tuple #[.int .u32 (openH S i.pairs : Nat), .int .u32 (needH S i.pairs : Nat)]) ∧ Below w.heap.size w w' := by
  obtain ⟨vc, vs, vp, vt, rfl, _, _, ⟨A, cap, rfl, hc⟩, _⟩ := h
  have HC := Lib.hid hc
  have HF := Lib.hid hf
  have hst := hf.stops
  clear hc hf
  go_enter Try.func44, Try.ntmps44
  go_wp2
  go_loopw [4, 5, 13] (fun ov nv c wr => ∃ k : Nat, k ≤ i.pairs.length ∧ c = .int .i64 k ∧ ov = .int .u32 (openH S (i.pairs.take k) : Nat) ∧ nv = .int .u32 (needH S (i.pairs.take k) : Nat) ∧ Below w.heap.size w wr) (fun _ _ c _ => i.pairs.length - (intOf c).toNat)
  case atStart => exact ⟨0, Nat.zero_le _, rfl, rfl, rfl, (Below.refl _ _).alloc (Nat.le_refl _) _⟩
  case round =>
    obtain ⟨k, hk, rfl, rfl, rfl, hb⟩ := hrel
    by_cases hlt : k < i.pairs.length
    · obtain ⟨B, o, rfl, hB, hcell⟩ := HC.out k hlt
      have c0 : wr.cell? ⟨B, o + k * 2, none⟩ = some (.int .i64 i.pairs[k].a) := by rw [hb.cell hB]; exact hcell 0 (by omega)
      have c1 : wr.cell? ⟨B, o + k * 2 + 1, none⟩ = some (.int .i64 i.pairs[k].b) := by rw [hb.cell hB]; exact hcell 1 (by omega)
      have hpf := HF.out.pairF _ (List.getElem_mem hlt)
      have ho := open_lt (S := S) (l := i.pairs.take k) (fun p hp => by have := HF.out.pairF p (List.mem_of_mem_take hp); omega)
      have hn := need_lt' (S := S) (l := i.pairs.take k) (fun p hp => by have := HF.out.pairF p (List.mem_of_mem_take hp); omega)
      have HO : Hid (openH S (i.pairs.take (k + 1)) = openF S (openH S (i.pairs.take k)) i.pairs[k]) := fold_take hlt
      have HN : Hid (needH S (i.pairs.take (k + 1)) = needF S (needH S (i.pairs.take k)) i.pairs[k]) := fold_take hlt
      have HB := Lib.hid hb
      clear hb hcell
      generalize i.pairs[k] = p at *
      obtain ⟨a, b⟩ := p
      simp only at c0 c1 hpf
      generalize openH S (i.pairs.take k) = oo at *
      generalize needH S (i.pairs.take k) = nn at *
      have K1 := Lib.hid (fun W => has_any S a W (by omega) (by omega) (by omega))
      have K2 := Lib.hid (fun W => has_any S b W (by omega) (by omega) (by omega))
      have KD := Lib.hid (fun W => digit_any a W (by omega) (by omega))
      have hd : digit a < 2048 := digit_lt (by omega)
      have b1 : Go.bits .or .u32 (oo : Int) (digit a : Int) = ((oo ||| digit a : Nat) : Int) := u32_or (by omega) (by omega)
      have b2 : Go.bits .or .u32 (nn : Int) (digit a : Int) = ((nn ||| digit a : Nat) : Int) := u32_or (by omega) (by omega)
      unfold openF at HO
      unfold needF at HN
      simp only at HO HN
      generalize digit a = da at *
      cases hA : hasD S a <;> cases hBb : hasD S b <;> rw [hA] at K1 <;> rw [hBb] at K2 <;> simp only [hA, hBb, true_and, and_true, and_self, and_false, false_and, if_true, if_false, reduceCtorEq] at HO HN <;> clear hA hBb
      all_goals
        go_wp2
        go_quiet (first
          | (go_at_call 42; (with_reducible exact Calls.quiet_of_same (K1.out _)))
          | (go_at_call 42; (with_reducible exact Calls.quiet_of_same (K2.out _))))
        first
        | (go_wp2_with (go_at_call 43; fail)
           (with_reducible refine (KD.out _).mono ?_)
           rintro e w1 ⟨rfl, rfl⟩
           go_wp2)
        | go_wp2
        go_roundw
      all_goals first
        | exact ⟨k + 1, by omega, by go_num, by rw [HO.out], by rw [HN.out], below_draws' (HB.out.alloc HB.out.size _) _⟩
        | (simp [intOf]; omega)
    · obtain rfl : k = i.pairs.length := by omega
      rw [List.take_length]
      have HB := Lib.hid hb
      clear hb
      go_wp2
      exact bodyPost_ret (v := .tuple #[.int .u32 (openH S i.pairs : Nat), .int .u32 (needH S i.pairs : Nat)]) (by simp [results, Try.results44, go_sem]) rfl ⟨rfl, HB.out⟩
set_option maxRecDepth 100000 in
set_option maxHeartbeats 4000000 in
theorem sums_any (v : Value) (i : Prob) (S : Nat) (w : World) (h : Lies w v i) (hf : Fine i) (hS : S < 2048) :
    Calls Try.prog 47 #[v, .int .u32 (S : Nat)] w fun e w' => e = .returned (.tuple #[.int .i64 (sumN mx0 i S i.stops.length), .int .i64 (sumN mn0 i S i.stops.length), .int .i64 (sumN srv i S i.stops.length)]) ∧ Below w.heap.size w w' := by
  have HL := Lib.hid h
  obtain ⟨vc, vs, vp, vt, rfl, _, ⟨A, cap, rfl, hc⟩, _⟩ := h
  have HC := Lib.hid hc
  have HF := Lib.hid hf
  have hst := hf.stops
  clear hc hf
  go_enter Try.func47, Try.ntmps47
  go_wp2
  go_loopw [4, 5, 6, 12] (fun lv uv sv c wr => ∃ k : Nat, k ≤ i.stops.length ∧ c = .int .i64 k ∧ lv = .int .i64 (sumN mx0 i S k) ∧ uv = .int .i64 (sumN mn0 i S k) ∧ sv = .int .i64 (sumN srv i S k) ∧ Below w.heap.size w wr) (fun _ _ _ c _ => i.stops.length - (intOf c).toNat)
  case atStart => exact ⟨0, Nat.zero_le _, rfl, rfl, rfl, rfl, (Below.refl _ _).alloc (Nat.le_refl _) _⟩
  case round =>
    obtain ⟨k, hk, rfl, rfl, rfl, rfl, hb⟩ := hrel
    by_cases hlt : k < i.stops.length
    · obtain ⟨B, o, rfl, hB, hcell⟩ := HC.out k hlt
      have c0 : wr.cell? ⟨B, o + k * 4, none⟩ = some (.int .i64 i.stops[k].d) := by rw [hb.cell hB]; exact hcell 0 (by omega)
      have c1 : wr.cell? ⟨B, o + k * 4 + 1, none⟩ = some (.int .i64 i.stops[k].o) := by rw [hb.cell hB]; exact hcell 1 (by omega)
      have c2 : wr.cell? ⟨B, o + k * 4 + 2, none⟩ = some (.int .i64 i.stops[k].c) := by rw [hb.cell hB]; exact hcell 2 (by omega)
      have c3 : wr.cell? ⟨B, o + k * 4 + 3, none⟩ = some (.int .i64 i.stops[k].s) := by rw [hb.cell hB]; exact hcell 3 (by omega)
      have hsf := HF.out.stopF _ (List.getElem_mem hlt)
      have e1 := sumN_le (f := mx0) (i := i) (S := S) (a := 0) (b := 20) (by omega) (by omega) (fun x => by have := stopAt_bounds HF.out x; unfold mx0; omega) k
      have e2 := sumN_le (f := mn0) (i := i) (S := S) (a := -20) (b := 0) (by omega) (by omega) (fun x => by have := stopAt_bounds HF.out x; unfold mn0; omega) k
      have e3 := sumN_le (f := srv) (i := i) (S := S) (a := 0) (b := 1000) (by omega) (by omega) (fun x => by have := stopAt_bounds HF.out x; unfold srv; omega) k
      have H1 : Hid (sumN mx0 i S (k + 1) = sumN mx0 i S k + if hasD S ((k : Int) + 1) = true then max 0 i.stops[k].d else 0) := by show _ = _; rw [← stopAt_nat i hlt]; rfl
      have H2 : Hid (sumN mn0 i S (k + 1) = sumN mn0 i S k + if hasD S ((k : Int) + 1) = true then min 0 i.stops[k].d else 0) := by show _ = _; rw [← stopAt_nat i hlt]; rfl
      have H3 : Hid (sumN srv i S (k + 1) = sumN srv i S k + if hasD S ((k : Int) + 1) = true then i.stops[k].s else 0) := by show _ = _; rw [← stopAt_nat i hlt]; rfl
      have HB := Lib.hid hb
      clear hb hcell
      generalize i.stops[k] = p at *
      obtain ⟨sd, so, sc, ss⟩ := p
      simp only at c0 c1 c2 c3 hsf H1 H2 H3
      generalize sumN mx0 i S k = s1 at *
      generalize sumN mn0 i S k = s2 at *
      generalize sumN srv i S k = s3 at *
      have K1 := Lib.hid (fun W => has_any S ((k : Int) + 1) W (by omega) (by omega) (by omega))
      cases hA : hasD S ((k : Int) + 1)
      · rw [hA] at K1
        simp only [hA, Int.add_zero, if_false, reduceCtorEq] at H1 H2 H3
        clear hA
        go_wp2_with (go_at_call 42; fail)
        (with_reducible refine (K1.out _).mono ?_)
        rintro e w1 ⟨rfl, rfl⟩
        go_wp2
        go_roundw
        case rel => exact ⟨k + 1, by omega, by go_num, by first | (rw [H1.out]; done) | (rw [H1.out]; congr 1; split <;> omega), by first | (rw [H2.out]; done) | (rw [H2.out]; congr 1; split <;> omega), by first | (rw [H3.out]; done) | (rw [H3.out]; congr 1; split <;> omega), HB.out.alloc HB.out.size _⟩
        case measure => simp [intOf]; omega
      · rw [hA] at K1
        simp only [hA, if_true] at H1 H2 H3
        clear hA
        go_wp2_with (go_at_call 42; fail)
        (with_reducible refine (K1.out _).mono ?_)
        rintro e w1 ⟨rfl, rfl⟩
        rcases Int.le_total 0 sd with hd | hd
        · have m1 : max 0 sd = sd := by omega
          have m2 : min 0 sd = 0 := by omega
          rw [m1] at H1
          rw [m2, Int.add_zero] at H2
          clear m1 m2
          go_wp2
          go_roundw
          case rel => exact ⟨k + 1, by omega, by go_num, by first | (rw [H1.out]; done) | (rw [H1.out]; congr 1; split <;> omega), by first | (rw [H2.out]; done) | (rw [H2.out]; congr 1; split <;> omega), by first | (rw [H3.out]; done) | (rw [H3.out]; congr 1; split <;> omega), HB.out.alloc HB.out.size _⟩
          case measure => simp [intOf]; omega
        · have m1 : max 0 sd = 0 := by omega
          have m2 : min 0 sd = sd := by omega
          rw [m1, Int.add_zero] at H1
          rw [m2] at H2
          clear m1 m2
          go_wp2
          go_roundw
          case rel => exact ⟨k + 1, by omega, by go_num, by first | (rw [H1.out]; done) | (rw [H1.out]; congr 1; split <;> omega), by first | (rw [H2.out]; done) | (rw [H2.out]; congr 1; split <;> omega), by first | (rw [H3.out]; done) | (rw [H3.out]; congr 1; split <;> omega), HB.out.alloc HB.out.size _⟩
          case measure => simp [intOf]; omega
    · obtain rfl : k = i.stops.length := by omega
      have HB := Lib.hid hb
      clear hb
      go_wp2
      exact bodyPost_ret (v := .tuple #[.int .i64 (sumN mx0 i S i.stops.length), .int .i64 (sumN mn0 i S i.stops.length), .int .i64 (sumN srv i S i.stops.length)]) (by simp [results, Try.results47, go_sem]) rfl ⟨rfl, HB.out⟩
end Go.Proofs.Ytgkieelacjcopaa
namespace Go.Proofs.Ytgkieelacjcopaa
open Go.RowKit
set_option linter.unusedSimpArgs false

def headV : Option HeadP → Value
  | none => .agg #[.bool false, .int .i64 0, .int .i64 0, .int .i64 0, .int .u32 0, .int .u32 0, .int .i64 0]
  | some h => .agg #[.bool true, .int .i64 h.last, .int .i64 h.leave, .int .i64 h.load, .int .u32 (h.opn : Nat), .int .u32 (h.set : Nat), .int .i64 h.cost]
/-- the call's own variables: the problem, the head, the result -/
structure ExS (w W : World) (I H R : Nat) (A1 A2 A3 A4 : Option Addr) (c1 c2 c3 c4 : Nat) (i : Prob) (hc : List Value) (zc : List Value) : Prop where
  below : Below w.heap.size w W
  box : Box W I A1 A2 A3 A4 c1 c2 c3 c4 i
  hb : Blk W H hc
  rb : Blk W R zc
theorem ExS.on {w W W' : World} {I H R : Nat} {A1 A2 A3 A4 : Option Addr} {c1 c2 c3 c4 : Nat} {i : Prob} {hc zc : List Value} (E : ExS w W I H R A1 A2 A3 A4 c1 c2 c3 c4 i hc zc) (hb : Below W.heap.size W W') : ExS w W' I H R A1 A2 A3 A4 c1 c2 c3 c4 i hc zc :=
  ⟨E.below.trans (hb.mono E.below.size), E.box.below hb, E.hb.below hb, E.rb.below hb⟩
structure FinS (w W : World) (R : Nat) (zc : List Value) : Prop where
  below : Below w.heap.size w W
  rb : Blk W R zc
theorem box7 {W : World} {Q : Nat} {a b c d e f g : Value} (h : Blk W Q [a, b, c, d, e, f, g]) (a' b' c' d' e' f' g' : Value) : Blk (((((((W.setCell ⟨Q, 0, none⟩ a').setCell ⟨Q, 1, none⟩ b').setCell ⟨Q, 2, none⟩ c').setCell ⟨Q, 3, none⟩ d').setCell ⟨Q, 4, none⟩ e').setCell ⟨Q, 5, none⟩ f').setCell ⟨Q, 6, none⟩ g') Q [a', b', c', d', e', f', g'] :=
  ((((((h.set (k := 0) (by simp) a').set (k := 1) (by simp) b').set (k := 2) (by simp) c').set (k := 3) (by simp) d').set (k := 4) (by simp) e').set (k := 5) (by simp) f').set (k := 6) (by simp) g'
theorem below7 {B : Nat} {w W : World} (h : Below B w W) {Q : Nat} (hQ : B ≤ Q) (a' b' c' d' e' f' g' : Value) : Below B w (((((((W.setCell ⟨Q, 0, none⟩ a').setCell ⟨Q, 1, none⟩ b').setCell ⟨Q, 2, none⟩ c').setCell ⟨Q, 3, none⟩ d').setCell ⟨Q, 4, none⟩ e').setCell ⟨Q, 5, none⟩ f').setCell ⟨Q, 6, none⟩ g') :=
  ((((((h.setCell (p := ⟨Q, 0, none⟩) hQ a').setCell (p := ⟨Q, 1, none⟩) hQ b').setCell (p := ⟨Q, 2, none⟩) hQ c').setCell (p := ⟨Q, 3, none⟩) hQ d').setCell (p := ⟨Q, 4, none⟩) hQ e').setCell (p := ⟨Q, 5, none⟩) hQ f').setCell (p := ⟨Q, 6, none⟩) hQ g'
def tailV : Option TailP → Value
  | none => .agg #[.bool false, .int .i64 0, .int .i64 0, .int .i64 0, .int .i64 0, .int .u32 0, .int .u32 0, .int .i64 0]
  | some t => .agg #[.bool true, .int .i64 t.first, .int .i64 t.late, .int .i64 t.low, .int .i64 t.high, .int .u32 (t.need : Nat), .int .u32 (t.set : Nat), .int .i64 t.cost]
theorem box8 {W : World} {Q : Nat} {a b c d e f g h : Value} (H : Blk W Q [a, b, c, d, e, f, g, h]) (a' b' c' d' e' f' g' h' : Value) : Blk ((((((((W.setCell ⟨Q, 0, none⟩ a').setCell ⟨Q, 1, none⟩ b').setCell ⟨Q, 2, none⟩ c').setCell ⟨Q, 3, none⟩ d').setCell ⟨Q, 4, none⟩ e').setCell ⟨Q, 5, none⟩ f').setCell ⟨Q, 6, none⟩ g').setCell ⟨Q, 7, none⟩ h') Q [a', b', c', d', e', f', g', h'] :=
  (((((((H.set (k := 0) (by simp) a').set (k := 1) (by simp) b').set (k := 2) (by simp) c').set (k := 3) (by simp) d').set (k := 4) (by simp) e').set (k := 5) (by simp) f').set (k := 6) (by simp) g').set (k := 7) (by simp) h'
theorem below8 {B : Nat} {w W : World} (H : Below B w W) {Q : Nat} (hQ : B ≤ Q) (a' b' c' d' e' f' g' h' : Value) : Below B w ((((((((W.setCell ⟨Q, 0, none⟩ a').setCell ⟨Q, 1, none⟩ b').setCell ⟨Q, 2, none⟩ c').setCell ⟨Q, 3, none⟩ d').setCell ⟨Q, 4, none⟩ e').setCell ⟨Q, 5, none⟩ f').setCell ⟨Q, 6, none⟩ g').setCell ⟨Q, 7, none⟩ h') :=
  (below7 H hQ a' b' c' d' e' f' g').setCell (p := ⟨Q, 7, none⟩) hQ h'
/-- bounds of a head -/
structure HB (i : Prob) (h : HeadP) : Prop where
  last : 0 ≤ h.last ∧ h.last ≤ i.stops.length
  leave : 0 ≤ h.leave ∧ h.leave ≤ 2000
  load : 0 ≤ h.load ∧ h.load ≤ 60
  opn : h.opn < 2048
  set : h.set < 2048
  cost : 0 ≤ h.cost ∧ h.cost ≤ 1000000
/-- bounds of a tail -/
structure TBd (i : Prob) (t : TailP) : Prop where
  first : 0 ≤ t.first ∧ t.first ≤ i.stops.length
  late : -1000000 ≤ t.late ∧ t.late ≤ 1000000
  low : -1000000 ≤ t.low ∧ t.low ≤ 0
  high : 0 ≤ t.high ∧ t.high ≤ 1000000
  need : t.need < 2048
  set : t.set < 2048
  cost : 0 ≤ t.cost ∧ t.cost ≤ 1000000
def headC : Option HeadP → List Value
  | none => #[.bool false, .int .i64 0, .int .i64 0, .int .i64 0, .int .u32 0, .int .u32 0, .int .i64 0].toList
  | some h => #[.bool true, .int .i64 h.last, .int .i64 h.leave, .int .i64 h.load, .int .u32 (h.opn : Nat), .int .u32 (h.set : Nat), .int .i64 h.cost].toList
theorem headC_len (o : Option HeadP) : (headC o).length = 7 := by cases o <;> rfl
theorem flat_len {f : Nat → List Value} {m : Nat} (hf : ∀ k, (f k).length = m) : ∀ n, ((List.range n).flatMap f).length = n * m
  | 0 => by simp
  | n + 1 => by rw [List.range_succ, List.flatMap_append, List.length_append, flat_len hf n]; simp [hf, Nat.succ_mul]
theorem flat_at {f : Nat → List Value} {m : Nat} (hf : ∀ k, (f k).length = m) : ∀ {n k j : Nat}, k < n → j < m → ((List.range n).flatMap f)[k * m + j]? = (f k)[j]?
  | n + 1, k, j, hk, hj => by
    rw [List.range_succ, List.flatMap_append]
    have hl := flat_len hf n
    by_cases e : k < n
    · have : (k + 1) * m ≤ n * m := Nat.mul_le_mul_right m e
      rw [Nat.succ_mul] at this
      rw [List.getElem?_append_left (by omega), flat_at hf e hj]
    · obtain rfl : k = n := by omega
      rw [List.getElem?_append_right (by omega), hl]
      simp
def headsC (i : Prob) (c : Int) (l : List Int) (n : Nat) : List Value := (List.range n).flatMap fun k => headC (headL i c (l.take k))
theorem headsC_succ (i : Prob) (c : Int) (l : List Int) (n : Nat) : headsC i c l (n + 1) = headsC i c l n ++ headC (headL i c (l.take n)) := by unfold headsC; rw [List.range_succ, List.flatMap_append]; simp
theorem own_new {w : World} {B : Nat} {T : TypeId} {m : Nat} {xs : List Value} (hx : xs.length = m) (hB : B ≤ w.heap.size) : (w.alloc (.cells xs.toArray T)).ownsRow B T m (.slice (some ⟨w.heap.size, 0, none⟩) 1 1) 1 xs := by
  subst hx
  refine ⟨by omega, .inr ⟨w.heap.size, 1, xs.toArray, rfl, hB, by unfold World.alloc; simp, Nat.le_refl _, (by decide : 1 ≤ maxLen), by simp, ?_⟩⟩
  rw [Nat.one_mul, List.take_of_length_le (by simp)]
theorem HBn.hb {i : Prob} {k : Nat} {h : HeadP} (H : HBn i k h) (hk : k ≤ 1000) : HB i h := ⟨H.last, H.leave, H.load, H.opn, H.set, by have := H.cost; omega⟩
end Go.Proofs.Ytgkieelacjcopaa
namespace Go.Proofs.Ytgkieelacjcopaa

section
variable {P : Program} {ops : Array Oper} {Q : Exit → Act → World → Prop} {md : Region.Mode} {S : World → Prop} {z : Nat}

theorem wpOp_swap_skip {j : Nat} {oi oj : Oper} (hj : ops[j]? = some oj) (hap : oi.apart ops oj = true) (hsj : ∀ cs b, oj.op ≠ .select cs b)
    (hQ : ∀ c a w, Q (.panic c) (a.put oi.dst undef) w → Q (.panic c) a w) {K : Act → World → Prop} {a : Act} {w : World} (hg : Region.wanted oi (yielded ops a.tmps) = false) (h : wpOp P ops Q j K (a.put oi.dst undef) w) :
    wpOp P ops Q j (fun a' w' => Region.wanted oi (yielded ops a'.tmps) = false ∧ K (a'.put oi.dst undef) w') a w := by
  obtain ⟨h1, h2, h3⟩ := Oper.apart_spec hap
  have keep : ∀ (b : Act), Region.wanted oi (yielded ops b.tmps) = false → ∀ u, Region.wanted oi (yielded ops (b.put oj.dst u).tmps) = false := fun b hb u => (wanted_put oi b oj.dst u h3).trans hb
  unfold wpOp at *
  simp only [hj] at *
  rw [wanted_put oj a oi.dst undef h1] at h
  split
  · rename_i hw
    simp only [hw, if_true] at h
    rcases h with h | ⟨hasks, hlets⟩
    · refine .inl ?_
      unfold Oper.wp at *
      rw [execOp_put oj hsj a oi.dst undef h1] at h
      generalize (execOp a.eval oj).run P w = r at *
      cases r with
      | ok n w' =>
        cases n <;> simp only [Oper.upon] at h ⊢
        case value u => exact ⟨keep a hg u, by rw [← Act.put_comm a undef u h2]; exact h⟩
        case skip => exact ⟨keep a hg _, by rw [← Act.put_comm a undef undef h2]; exact h⟩
        case defer d =>
          refine ⟨keep { a with defers := d :: a.defers } hg _, ?_⟩
          rw [← Act.put_comm _ undef undef h2, ← Act.put_defers]
          exact h
        case enter f args =>
          refine Calls.mono h fun e w'' he => ?_
          cases e with
          | returned u => exact ⟨keep a hg u, by rw [← Act.put_comm a undef u h2]; exact he⟩
          | panicked c => exact hQ _ _ _ he
          | outgrown => exact he
        case row row args => exact Rows.mono h fun u w'' he => ⟨keep a hg u, by rw [← Act.put_comm a undef u h2]; exact he⟩
      | halt x w' =>
        cases x <;> simp only [Oper.upon] at h ⊢
        case panic u => exact hQ _ _ _ h
    · exact .inr ⟨by unfold Oper.asks at *; rw [execOp_put oj hsj a oi.dst undef h1] at hasks; exact hasks, hlets⟩
  · rename_i hw
    simp only [hw] at h
    exact ⟨keep a hg _, by rw [← Act.put_comm a undef undef h2]; exact h⟩

theorem wpAnyZ_first_skip {i : Nat} {oi oz : Oper} (hi : ops[i]? = some oi) (hsel : ∀ (j : Nat) (o : Oper) cs b, ops[j]? = some o → o.op ≠ .select cs b)
    (hQ : ∀ c a w, Q (.panic c) (a.put oi.dst undef) w → Q (.panic c) a w) (hz : ops[z]? = some oz) (hwait : ∃ e ∈ oz.after, Region.binds md e = true ∧ e.on = i) :
    ∀ (fuel : Nat) (listed : Array Bool) (a : Act) (w : World),
      (∀ j oj, ops[j]? = some oj → j ≠ i → listed.getD j true = false → (∀ e ∈ oj.after, Region.binds md e = true → e.on ≠ i) → oi.apart ops oj = true) →
      i ∈ Region.ready md ops listed → Region.wanted oi (yielded ops a.tmps) = false → S w →
      wpAnyZ P md ops Q S z fuel (listed.setIfInBounds i true) (a.put oi.dst undef) w → wpAnyZ P md ops Q S z (fuel + 1) listed a w := by
  intro fuel
  have here : ∀ {K : Act → World → Prop} {a : Act} {w : World}, Region.wanted oi (yielded ops a.tmps) = false → S w → K (a.put oi.dst undef) w → wpOp P ops Q i K a w := fun {K a w} hg hS hK => by
    unfold wpOp
    simp only [hi, hg]
    exact hK
  have waits : ∀ {listed : Array Bool} {j : Nat} {oj : Oper}, i ∈ Region.ready md ops listed → (∀ e ∈ oj.after, Region.binds md e = true → listed.getD e.on false = true) → ∀ e ∈ oj.after, Region.binds md e = true → e.on ≠ i := fun {listed j oj} hr hall e he hb heq => by
    have h1 := hall e he hb
    have h0 := (mem_ready.1 hr).1
    rw [heq] at h1
    rcases Nat.lt_or_ge i listed.size with h' | h'
    · simp [h'] at h0 h1; rw [h0] at h1; cases h1
    · simp [Array.getElem?_eq_none h'] at h1
  induction fuel with
  | zero =>
    intro listed a w _ hr hg hS H
    refine ⟨fun h => (by rw [h] at hr; cases hr), fun j hj => ?_⟩
    by_cases hji : j = i
    · subst hji; exact here hg hS ⟨fun _ => hS, H⟩
    · have := ready_mono hj hji
      rw [H.1] at this
      cases this
  | succ fuel ih =>
    intro listed a w hfree hr hg hS H
    refine ⟨fun h => (by rw [h] at hr; cases hr), fun j hj => ?_⟩
    by_cases hji : j = i
    · subst hji; exact here hg hS ⟨fun _ => hS, H⟩
    · have h1 := H.2 j (ready_mono hj hji)
      obtain ⟨hjun, oj, hoj, hall⟩ := mem_ready.1 hj
      have hnot := waits (j := j) hr hall
      have hjz : j ≠ z := by
        rintro rfl
        obtain rfl : oj = oz := Option.some.inj (hoj.symm.trans hz)
        obtain ⟨e, he, hb, heq⟩ := hwait
        exact hnot e he hb heq
      have h2 := wpOp_swap_skip hoj (hfree j oj hoj hji hjun hnot) (fun cs b => hsel j oj cs b hoj) hQ hg h1
      have hfree' : ∀ k ok, ops[k]? = some ok → k ≠ i → (listed.setIfInBounds j true).getD k true = false → (∀ e ∈ ok.after, Region.binds md e = true → e.on ≠ i) → oi.apart ops ok = true := fun k ok hk hki hun hno => by
        refine hfree k ok hk hki ?_ hno
        by_cases hjk : j = k
        · subst hjk; exact hjun
        · rw [getD_set_ne true hjk] at hun; exact hun
      refine wpOp_mono (fun a' w' h3 => ⟨h3.2.1, ih (listed.setIfInBounds j true) a' w' hfree' (ready_mono hr (Ne.symm hji)) h3.1 (h3.2.1 hjz) ?_⟩) h2
      rw [Array.setIfInBounds_comm _ _ hji]
      exact h3.2.2
theorem wpAnyZ_skip {i : Nat} {oi oz : Oper} {fuel : Nat} {listed : Array Bool} {a : Act} {w : World} (hi : ops[i]? = some oi) (hs : Region.noSelect ops = true) (hf : Region.free md ops listed i = true)
    (hr : (Region.ready md ops listed).contains i = true) (hz : ops[z]? = some oz) (hwt : Region.waitsFor md ops z i = true) (hQ : ∀ c a w, Q (.panic c) (a.put oi.dst undef) w → Q (.panic c) a w)
    (hg : Region.wanted oi (yielded ops a.tmps) = false) (hS : S w) (h : wpAnyZ P md ops Q S z fuel (listed.setIfInBounds i true) (a.put oi.dst undef) w) : wpAnyZ P md ops Q S z (fuel + 1) listed a w := by
  obtain ⟨oj, hoj, hw⟩ := Region.waitsFor_spec hwt
  obtain rfl : oj = oz := Option.some.inj (hoj.symm.trans hz)
  exact wpAnyZ_first_skip hi (Region.noSelect_spec hs) hQ hz hw fuel listed a w (Region.free_spec hi hf) (by simpa using hr) hg hS h
theorem wpAnyZ_firstS {i : Nat} {oi : Oper} {v : Value} (hi : ops[i]? = some oi) (hsel : ∀ (j : Nat) (o : Oper) cs b, ops[j]? = some o → o.op ≠ .select cs b)
    (hQ : ∀ c a w, Q (.panic c) (a.put oi.dst v) w → Q (.panic c) a w) (hz : ops[z]? = none) :
    ∀ (fuel : Nat) (listed : Array Bool) (a : Act) (w : World),
      (∀ j oj, ops[j]? = some oj → j ≠ i → listed.getD j true = false → (∀ e ∈ oj.after, Region.binds md e = true → e.on ≠ i) → oi.apart ops oj = true) →
      i ∈ Region.ready md ops listed → Gives P ops Q S oi v a → S w →
      wpAnyZ P md ops Q S z fuel (listed.setIfInBounds i true) (a.put oi.dst v) w → wpAnyZ P md ops Q S z (fuel + 1) listed a w := by
  intro fuel
  have here : ∀ {K : Act → World → Prop} {a : Act} {w : World}, Gives P ops Q S oi v a → S w → K (a.put oi.dst v) w → wpOp P ops Q i K a w := fun {K a w} hg hS hK => by
    unfold wpOp
    simp only [hi, hg.1, if_true]
    exact .inl (hg.2 w hS K a rfl hK)
  have waits : ∀ {listed : Array Bool} {j : Nat} {oj : Oper}, i ∈ Region.ready md ops listed → (∀ e ∈ oj.after, Region.binds md e = true → listed.getD e.on false = true) → ∀ e ∈ oj.after, Region.binds md e = true → e.on ≠ i := fun {listed j oj} hr hall e he hb heq => by
    have h1 := hall e he hb
    have h0 := (mem_ready.1 hr).1
    rw [heq] at h1
    rcases Nat.lt_or_ge i listed.size with h' | h'
    · simp [h'] at h0 h1; rw [h0] at h1; cases h1
    · simp [Array.getElem?_eq_none h'] at h1
  induction fuel with
  | zero =>
    intro listed a w _ hr hg hS H
    refine ⟨fun h => (by rw [h] at hr; cases hr), fun j hj => ?_⟩
    by_cases hji : j = i
    · subst hji; exact here hg hS ⟨fun _ => hS, H⟩
    · have := ready_mono hj hji
      rw [H.1] at this
      cases this
  | succ fuel ih =>
    intro listed a w hfree hr hg hS H
    refine ⟨fun h => (by rw [h] at hr; cases hr), fun j hj => ?_⟩
    by_cases hji : j = i
    · subst hji; exact here hg hS ⟨fun _ => hS, H⟩
    · have h1 := H.2 j (ready_mono hj hji)
      obtain ⟨hjun, oj, hoj, hall⟩ := mem_ready.1 hj
      have hnot := waits (j := j) hr hall
      have hjz : j ≠ z := by
        rintro rfl
        rw [hz] at hoj
        cases hoj
      have h2 := wpOp_swap hoj (hfree j oj hoj hji hjun hnot) (fun cs b => hsel i oi cs b hi) (fun cs b => hsel j oj cs b hoj) hQ hg h1
      have hfree' : ∀ k ok, ops[k]? = some ok → k ≠ i → (listed.setIfInBounds j true).getD k true = false → (∀ e ∈ ok.after, Region.binds md e = true → e.on ≠ i) → oi.apart ops ok = true := fun k ok hk hki hun hno => by
        refine hfree k ok hk hki ?_ hno
        by_cases hjk : j = k
        · subst hjk; exact hjun
        · rw [getD_set_ne true hjk] at hun; exact hun
      refine wpOp_mono (fun a' w' h3 => ⟨h3.2.1, ih (listed.setIfInBounds j true) a' w' hfree' (ready_mono hr (Ne.symm hji)) h3.1 (h3.2.1 hjz) ?_⟩) h2
      rw [Array.setIfInBounds_comm _ _ hji]
      exact h3.2.2
/-- where S holds behind every operation (z is none of them) -/
theorem wpAnyZ_takeS {i : Nat} {oi : Oper} {v : Value} {fuel : Nat} {listed : Array Bool} {a : Act} {w : World} (hi : ops[i]? = some oi) (hs : Region.noSelect ops = true) (hf : Region.free md ops listed i = true)
    (hr : (Region.ready md ops listed).contains i = true) (hz : ops[z]? = none) (hQ : ∀ c a w, Q (.panic c) (a.put oi.dst v) w → Q (.panic c) a w)
    (hg : Gives P ops Q S oi v a) (hS : S w) (h : wpAnyZ P md ops Q S z fuel (listed.setIfInBounds i true) (a.put oi.dst v) w) : wpAnyZ P md ops Q S z (fuel + 1) listed a w :=
  wpAnyZ_firstS hi (Region.noSelect_spec hs) hQ hz fuel listed a w (Region.free_spec hi hf) (by simpa using hr) hg hS h
theorem wpAnyZ_first_skipS {i : Nat} {oi : Oper} (hi : ops[i]? = some oi) (hsel : ∀ (j : Nat) (o : Oper) cs b, ops[j]? = some o → o.op ≠ .select cs b)
    (hQ : ∀ c a w, Q (.panic c) (a.put oi.dst undef) w → Q (.panic c) a w) (hz : ops[z]? = none) :
    ∀ (fuel : Nat) (listed : Array Bool) (a : Act) (w : World),
      (∀ j oj, ops[j]? = some oj → j ≠ i → listed.getD j true = false → (∀ e ∈ oj.after, Region.binds md e = true → e.on ≠ i) → oi.apart ops oj = true) →
      i ∈ Region.ready md ops listed → Region.wanted oi (yielded ops a.tmps) = false → S w →
      wpAnyZ P md ops Q S z fuel (listed.setIfInBounds i true) (a.put oi.dst undef) w → wpAnyZ P md ops Q S z (fuel + 1) listed a w := by
  intro fuel
  have here : ∀ {K : Act → World → Prop} {a : Act} {w : World}, Region.wanted oi (yielded ops a.tmps) = false → S w → K (a.put oi.dst undef) w → wpOp P ops Q i K a w := fun {K a w} hg hS hK => by
    unfold wpOp
    simp only [hi, hg]
    exact hK
  have waits : ∀ {listed : Array Bool} {j : Nat} {oj : Oper}, i ∈ Region.ready md ops listed → (∀ e ∈ oj.after, Region.binds md e = true → listed.getD e.on false = true) → ∀ e ∈ oj.after, Region.binds md e = true → e.on ≠ i := fun {listed j oj} hr hall e he hb heq => by
    have h1 := hall e he hb
    have h0 := (mem_ready.1 hr).1
    rw [heq] at h1
    rcases Nat.lt_or_ge i listed.size with h' | h'
    · simp [h'] at h0 h1; rw [h0] at h1; cases h1
    · simp [Array.getElem?_eq_none h'] at h1
  induction fuel with
  | zero =>
    intro listed a w _ hr hg hS H
    refine ⟨fun h => (by rw [h] at hr; cases hr), fun j hj => ?_⟩
    by_cases hji : j = i
    · subst hji; exact here hg hS ⟨fun _ => hS, H⟩
    · have := ready_mono hj hji
      rw [H.1] at this
      cases this
  | succ fuel ih =>
    intro listed a w hfree hr hg hS H
    refine ⟨fun h => (by rw [h] at hr; cases hr), fun j hj => ?_⟩
    by_cases hji : j = i
    · subst hji; exact here hg hS ⟨fun _ => hS, H⟩
    · have h1 := H.2 j (ready_mono hj hji)
      obtain ⟨hjun, oj, hoj, hall⟩ := mem_ready.1 hj
      have hnot := waits (j := j) hr hall
      have hjz : j ≠ z := by
        rintro rfl
        rw [hz] at hoj
        cases hoj
      have h2 := wpOp_swap_skip hoj (hfree j oj hoj hji hjun hnot) (fun cs b => hsel j oj cs b hoj) hQ hg h1
      have hfree' : ∀ k ok, ops[k]? = some ok → k ≠ i → (listed.setIfInBounds j true).getD k true = false → (∀ e ∈ ok.after, Region.binds md e = true → e.on ≠ i) → oi.apart ops ok = true := fun k ok hk hki hun hno => by
        refine hfree k ok hk hki ?_ hno
        by_cases hjk : j = k
        · subst hjk; exact hjun
        · rw [getD_set_ne true hjk] at hun; exact hun
      refine wpOp_mono (fun a' w' h3 => ⟨h3.2.1, ih (listed.setIfInBounds j true) a' w' hfree' (ready_mono hr (Ne.symm hji)) h3.1 (h3.2.1 hjz) ?_⟩) h2
      rw [Array.setIfInBounds_comm _ _ hji]
      exact h3.2.2
theorem wpAnyZ_skipS {i : Nat} {oi : Oper} {fuel : Nat} {listed : Array Bool} {a : Act} {w : World} (hi : ops[i]? = some oi) (hs : Region.noSelect ops = true) (hf : Region.free md ops listed i = true)
    (hr : (Region.ready md ops listed).contains i = true) (hz : ops[z]? = none) (hQ : ∀ c a w, Q (.panic c) (a.put oi.dst undef) w → Q (.panic c) a w)
    (hg : Region.wanted oi (yielded ops a.tmps) = false) (hS : S w) (h : wpAnyZ P md ops Q S z fuel (listed.setIfInBounds i true) (a.put oi.dst undef) w) : wpAnyZ P md ops Q S z (fuel + 1) listed a w :=
  wpAnyZ_first_skipS hi (Region.noSelect_spec hs) hQ hz fuel listed a w (Region.free_spec hi hf) (by simpa using hr) hg hS h
end
end Go.Proofs.Ytgkieelacjcopaa
namespace Go.Proofs.Ytgkieelacjcopaa
open Go.RowKit
set_option linter.unusedSimpArgs false

def tailC : Option TailP → List Value
  | none => #[.bool false, .int .i64 0, .int .i64 0, .int .i64 0, .int .i64 0, .int .u32 0, .int .u32 0, .int .i64 0].toList
  | some t => #[.bool true, .int .i64 t.first, .int .i64 t.late, .int .i64 t.low, .int .i64 t.high, .int .u32 (t.need : Nat), .int .u32 (t.set : Nat), .int .i64 t.cost].toList
theorem tailC_len (o : Option TailP) : (tailC o).length = 8 := by cases o <;> rfl
theorem head_form (o : Option HeadP) : ∃ (ok : Bool) (x1 x2 x3 x4 x5 x6 : Int), headV o = .agg #[.bool ok, .int .i64 x1, .int .i64 x2, .int .i64 x3, .int .u32 x4, .int .u32 x5, .int .i64 x6] ∧ headC o = [.bool ok, .int .i64 x1, .int .i64 x2, .int .i64 x3, .int .u32 x4, .int .u32 x5, .int .i64 x6] := by
  cases o with
  | none => exact ⟨false, 0, 0, 0, 0, 0, 0, rfl, rfl⟩
  | some h => exact ⟨true, h.last, h.leave, h.load, h.opn, h.set, h.cost, rfl, rfl⟩
theorem tail_form (o : Option TailP) : ∃ (ok : Bool) (x1 x2 x3 x4 x5 x6 x7 : Int), tailV o = .agg #[.bool ok, .int .i64 x1, .int .i64 x2, .int .i64 x3, .int .i64 x4, .int .u32 x5, .int .u32 x6, .int .i64 x7] ∧ tailC o = [.bool ok, .int .i64 x1, .int .i64 x2, .int .i64 x3, .int .i64 x4, .int .u32 x5, .int .u32 x6, .int .i64 x7] := by
  cases o with
  | none => exact ⟨false, 0, 0, 0, 0, 0, 0, 0, rfl, rfl⟩
  | some h => exact ⟨true, h.first, h.late, h.low, h.high, h.need, h.set, h.cost, rfl, rfl⟩
/-- a row of n records of m cells each, in block g from its first cell on -/
def RowC (W : World) (g m : Nat) (f : Nat → List Value) (n : Nat) : Prop := g < W.heap.size ∧ ∀ k, k < n → ∀ j u, j < m → (f k)[j]? = some u → W.cell? ⟨g, k * m + j, none⟩ = some u
theorem RowC.below {W W' : World} {g m : Nat} {f : Nat → List Value} {n : Nat} (h : RowC W g m f n) (hb : Below W.heap.size W W') : RowC W' g m f n :=
  ⟨Nat.lt_of_lt_of_le h.1 hb.size, fun k hk j u hj hu => by rw [hb.cell h.1]; exact h.2 k hk j u hj hu⟩
def putAt : List Value → Nat → List Value → List Value
  | xs, _, [] => xs
  | xs, p, u :: c => putAt (xs.set p u) (p + 1) c
theorem putAt_len : ∀ (c xs : List Value) (p : Nat), (putAt xs p c).length = xs.length
  | [], _, _ => rfl
  | u :: c, xs, p => by unfold putAt; rw [putAt_len c]; simp
theorem putAt_out : ∀ (c xs : List Value) (p q : Nat), q < p ∨ p + c.length ≤ q → (putAt xs p c)[q]? = xs[q]?
  | [], _, _, _, _ => rfl
  | u :: c, xs, p, q, h => by
    have : q < p ∨ p + c.length + 1 ≤ q := by simp at h; omega
    unfold putAt
    rw [putAt_out c _ _ _ (by omega), List.getElem?_set_ne (by omega)]
theorem putAt_in : ∀ (c xs : List Value) (p j : Nat), j < c.length → p + c.length ≤ xs.length → (putAt xs p c)[p + j]? = c[j]?
  | u :: c, xs, p, 0, _, h => by
    unfold putAt
    rw [putAt_out c _ _ _ (by omega)]
    show (xs.set p u)[p]? = some u
    exact List.getElem?_set_self (by simp at h; omega)
  | u :: c, xs, p, j + 1, hj, h => by
    unfold putAt
    rw [show p + (j + 1) = p + 1 + j by omega, putAt_in c _ _ _ (by simpa using hj) (by simp at h ⊢; omega)]
    simp
/-- the row holds f's records at the places of P -/
def Holds (xs : List Value) (m : Nat) (f : Nat → List Value) (P : Nat → Prop) : Prop := ∀ k, P k → ∀ j, j < m → xs[k * m + j]? = (f k)[j]?
theorem holds_put {xs : List Value} {m n : Nat} {f : Nat → List Value} {P : Nat → Prop} (h : Holds xs m f P) (hl : xs.length = n * m) (hf : ∀ k, (f k).length = m) {k : Nat} (hk : k < n) : Holds (putAt xs (k * m) (f k)) m f (fun q => P q ∨ q = k) := by
  have h2 : k * m + m ≤ n * m := by have : (k + 1) * m ≤ n * m := Nat.mul_le_mul_right m hk; rw [Nat.succ_mul] at this; exact this
  intro q hq j hj
  by_cases e : q = k
  · subst e
    exact putAt_in _ _ _ _ (by rw [hf]; exact hj) (by rw [hf, hl]; exact h2)
  · rw [putAt_out]
    · exact h q (hq.resolve_right e) j hj
    · rw [hf]
      rcases Nat.lt_or_gt_of_ne e with e | e
      · left
        have : (q + 1) * m ≤ k * m := Nat.mul_le_mul_right m e
        rw [Nat.succ_mul] at this; omega
      · right
        have : (k + 1) * m ≤ q * m := Nat.mul_le_mul_right m e
        rw [Nat.succ_mul] at this; omega
theorem row_of {W : World} {g m n : Nat} {f : Nat → List Value} {xs : List Value} (hb : Blk W g xs) (h : Holds xs m f (fun k => k < n)) : RowC W g m f n :=
  ⟨hb.1, fun k hk j u hj hu => by
    have h1 := h k hk j hj
    rw [hu] at h1
    obtain ⟨h2, h3⟩ := List.getElem?_eq_some_iff.1 h1
    rw [(hb.2 _ h2).1, h3]⟩
theorem blk_put7 {W : World} {g : Nat} {xs : List Value} (h : Blk W g xs) {p : Nat} (hp : p + 7 ≤ xs.length) (a b c d e f g' : Value) :
    Blk (((((((W.setCell ⟨g, p, none⟩ a).setCell ⟨g, p + 1, none⟩ b).setCell ⟨g, p + 2, none⟩ c).setCell ⟨g, p + 3, none⟩ d).setCell ⟨g, p + 4, none⟩ e).setCell ⟨g, p + 5, none⟩ f).setCell ⟨g, p + 6, none⟩ g') g (putAt xs p [a, b, c, d, e, f, g']) :=
  ((((((h.set (k := p) (by omega) a).set (k := p + 1) (by simp; omega) b).set (k := p + 2) (by simp; omega) c).set (k := p + 3) (by simp; omega) d).set (k := p + 4) (by simp; omega) e).set (k := p + 5) (by simp; omega) f).set (k := p + 6) (by simp; omega) g'
theorem blk_put8 {W : World} {g : Nat} {xs : List Value} (h : Blk W g xs) {p : Nat} (hp : p + 8 ≤ xs.length) (a b c d e f g' h' : Value) :
    Blk ((((((((W.setCell ⟨g, p, none⟩ a).setCell ⟨g, p + 1, none⟩ b).setCell ⟨g, p + 2, none⟩ c).setCell ⟨g, p + 3, none⟩ d).setCell ⟨g, p + 4, none⟩ e).setCell ⟨g, p + 5, none⟩ f).setCell ⟨g, p + 6, none⟩ g').setCell ⟨g, p + 7, none⟩ h') g (putAt xs p [a, b, c, d, e, f, g', h']) :=
  (((((((h.set (k := p) (by omega) a).set (k := p + 1) (by simp; omega) b).set (k := p + 2) (by simp; omega) c).set (k := p + 3) (by simp; omega) d).set (k := p + 4) (by simp; omega) e).set (k := p + 5) (by simp; omega) f).set (k := p + 6) (by simp; omega) g').set (k := p + 7) (by simp; omega) h'
theorem below_put7 {B : Nat} {w W : World} (h : Below B w W) {g : Nat} (hg : B ≤ g) (p : Nat) (a b c d e f g' : Value) :
    Below B w (((((((W.setCell ⟨g, p, none⟩ a).setCell ⟨g, p + 1, none⟩ b).setCell ⟨g, p + 2, none⟩ c).setCell ⟨g, p + 3, none⟩ d).setCell ⟨g, p + 4, none⟩ e).setCell ⟨g, p + 5, none⟩ f).setCell ⟨g, p + 6, none⟩ g') :=
  ((((((h.setCell (p := ⟨g, p, none⟩) hg a).setCell (p := ⟨g, p + 1, none⟩) hg b).setCell (p := ⟨g, p + 2, none⟩) hg c).setCell (p := ⟨g, p + 3, none⟩) hg d).setCell (p := ⟨g, p + 4, none⟩) hg e).setCell (p := ⟨g, p + 5, none⟩) hg f).setCell (p := ⟨g, p + 6, none⟩) hg g'
theorem below_put8 {B : Nat} {w W : World} (h : Below B w W) {g : Nat} (hg : B ≤ g) (p : Nat) (a b c d e f g' h' : Value) :
    Below B w ((((((((W.setCell ⟨g, p, none⟩ a).setCell ⟨g, p + 1, none⟩ b).setCell ⟨g, p + 2, none⟩ c).setCell ⟨g, p + 3, none⟩ d).setCell ⟨g, p + 4, none⟩ e).setCell ⟨g, p + 5, none⟩ f).setCell ⟨g, p + 6, none⟩ g').setCell ⟨g, p + 7, none⟩ h') :=
  (below_put7 h hg p a b c d e f g').setCell (p := ⟨g, p + 7, none⟩) hg h'
theorem blk_cell {W : World} {g : Nat} {xs : List Value} (h : Blk W g xs) {q : Nat} {u : Value} (hu : xs[q]? = some u) : W.cell? ⟨g, q, none⟩ = some u := by
  obtain ⟨h2, h3⟩ := List.getElem?_eq_some_iff.1 hu
  rw [(h.2 _ h2).1, h3]
/-- make([]T, n) -/
theorem make_row {S E : TypeId} {z : Value} {m bytes : Nat} (hu : Try.prog.underlying S = some (.slice E)) (hi : (Try.prog.info? E).map (fun i => (i.zero, i.size, i.bytes)) = some (some z, m, bytes)) (hb : bytes ≤ 100) (n : Nat) (hn : n ≤ 1000000) (W : World) :
    (Instr.makeSlice S (.int .i64 (n : Int)) (.int .i64 (n : Int))).run Try.prog W = .ok (.slice (some ⟨W.heap.size, 0, none⟩) n n) (W.alloc (.cells (madeCells z.cells (n * m)) E)) := by
  obtain ⟨i0, hi, hz0, hz1, hz2⟩ := info_parts hi
  have hbn : bytes * n ≤ 100 * n := Nat.mul_le_mul_right n hb
  have := run_make (P := Try.prog) W S E i0 _ hu hi hz0 .i64 .i64 (n : Int) (n : Int) (by omega) (by omega) (by rw [hz2, ← Int.natCast_mul]; omega) (by omega)
  rw [this, hz1]
  simp only [Int.toNat_natCast]
theorem make_row1 {S E : TypeId} {z : Value} {m bytes : Nat} (zc : Array Value) (hzc : z.cells = zc) (hu : Try.prog.underlying S = some (.slice E)) (hi : (Try.prog.info? E).map (fun i => (i.zero, i.size, i.bytes)) = some (some z, m, bytes)) (hb : bytes ≤ 100) (n : Nat) (hn : n ≤ 10000) (W : World) :
    (Instr.makeSlice S (.int .i64 ((n : Int) + 1)) (.int .i64 ((n : Int) + 1))).run Try.prog W = .ok (.slice (some ⟨W.heap.size, 0, none⟩) (n + 1) (n + 1)) (W.alloc (.cells (madeCells zc ((n + 1) * m)) E)) := by
  subst hzc
  exact make_row hu hi hb (n + 1) (by omega) W
theorem made_len (z : Array Value) (n : Nat) : (madeCells z n).toList.length = n := by simp [madeCells]
end Go.Proofs.Ytgkieelacjcopaa
