/- tab.halves, sums, isSecond: what they answer. -/
import Derived.Test.YtkheepedjoimmaaTabLow
namespace Go.Proofs.Ytkheepedjoimmaa
open Go.RowKit
set_option linter.unusedSimpArgs false

theorem fold_take {β : Type} {f : β → Pair → β} {b : β} {l : List Pair} {k : Nat} (h : k < l.length) : (l.take (k + 1)).foldl f b = f ((l.take k).foldl f b) l[k] := by rw [List.take_succ_eq_append_getElem h, List.foldl_append]; rfl
theorem fold_lt {f : Nat → Pair → Nat} (hf : ∀ a p, p.a ≤ 10 → a < 2048 → f a p < 2048) : ∀ (l : List Pair) (a : Nat), (∀ p ∈ l, p.a ≤ 10) → a < 2048 → l.foldl f a < 2048
  | [], a, _, h => h
  | p :: l, a, hl, h => fold_lt hf l _ (fun q hq => hl q (by simp [hq])) (hf a p (hl p (by simp)) h)
theorem open_lt {S : Nat} {l : List Pair} (h : ∀ p ∈ l, p.a ≤ 10) : openH S l < 2048 := fold_lt (fun a p hp ha => by
  unfold openF; split
  · exact Nat.or_lt_two_pow (n := 11) ha (digit_lt hp)
  · exact ha) l 0 h (by omega)
theorem need_lt' {S : Nat} {l : List Pair} (h : ∀ p ∈ l, p.a ≤ 10) : needH S l < 2048 := fold_lt (fun a p hp ha => by
  unfold needF; split
  · exact Nat.or_lt_two_pow (n := 11) ha (digit_lt hp)
  · exact ha) l 0 h (by omega)
set_option maxRecDepth 100000 in
set_option maxHeartbeats 4000000 in
theorem halves_any (v : Value) (i : Prob) (S : Nat) (w : World) (h : Lies w v i) (hf : Fine i) (hp : i.pairs.length ≤ 1000000) (hS : S < 2048) :
    Calls Try.prog 52 #[v, .int .u32 (S : Nat)] w fun e w' => e = .returned (.tuple #[.int .u32 (openH S i.pairs : Nat), .int .u32 (needH S i.pairs : Nat)]) ∧ Below w.heap.size w w' := by
  obtain ⟨vc, vs, vp, vt, rfl, _, _, ⟨A, cap, rfl, hc⟩, _⟩ := h
  have HC := Lib.hid hc
  have HF := Lib.hid hf
  have hst := hf.stops
  clear hc hf
  go_enter Try.func52, Try.ntmps52
  go_wp2
  go_loopw [4, 5, 13] (fun ov nv c wr => ∃ k : Nat, k ≤ i.pairs.length ∧ c = .int .i64 k ∧ ov = .int .u32 (openH S (i.pairs.take k) : Nat) ∧ nv = .int .u32 (needH S (i.pairs.take k) : Nat) ∧ Below w.heap.size w wr) (fun _ _ c _ => i.pairs.length - (intOf c).toNat)
  case atStart => exact ⟨0, Nat.zero_le _, rfl, rfl, rfl, (Below.refl _ _).alloc (Nat.le_refl _) _⟩
  case round =>
    obtain ⟨k, hk, rfl, rfl, rfl, hb⟩ := hrel
    by_cases hlt : k < i.pairs.length
    · obtain ⟨B, o, rfl, hB, hcell⟩ := HC.out k hlt
      have c0 : wr.cell? ⟨B, o + k * 2, none⟩ = some (.int .i64 i.pairs[k].a) := by rw [hb.cell hB]; exact hcell 0 (by omega)
      have c1 : wr.cell? ⟨B, o + k * 2 + 1, none⟩ = some (.int .i64 i.pairs[k].b) := by rw [hb.cell hB]; exact hcell 1 (by omega)
      have hpf := HF.out.pairF _ (List.getElem_mem hlt)
      have ho := open_lt (S := S) (l := i.pairs.take k) (fun p hp => by have := HF.out.pairF p (List.mem_of_mem_take hp); omega)
      have hn := need_lt' (S := S) (l := i.pairs.take k) (fun p hp => by have := HF.out.pairF p (List.mem_of_mem_take hp); omega)
      have HO : Hid (openH S (i.pairs.take (k + 1)) = openF S (openH S (i.pairs.take k)) i.pairs[k]) := fold_take hlt
      have HN : Hid (needH S (i.pairs.take (k + 1)) = needF S (needH S (i.pairs.take k)) i.pairs[k]) := fold_take hlt
      have HB := Lib.hid hb
      clear hb hcell
      generalize i.pairs[k] = p at *
      obtain ⟨a, b⟩ := p
      simp only at c0 c1 hpf
      generalize openH S (i.pairs.take k) = oo at *
      generalize needH S (i.pairs.take k) = nn at *
      have K1 := Lib.hid (fun W => has_any S a W (by omega) (by omega) (by omega))
      have K2 := Lib.hid (fun W => has_any S b W (by omega) (by omega) (by omega))
      have KD := Lib.hid (fun W => digit_any a W (by omega) (by omega))
      have hd : digit a < 2048 := digit_lt (by omega)
      have b1 : Go.bits .or .u32 (oo : Int) (digit a : Int) = ((oo ||| digit a : Nat) : Int) := u32_or (by omega) (by omega)
      have b2 : Go.bits .or .u32 (nn : Int) (digit a : Int) = ((nn ||| digit a : Nat) : Int) := u32_or (by omega) (by omega)
      unfold openF at HO
      unfold needF at HN
      simp only at HO HN
      generalize digit a = da at *
      cases hA : hasD S a <;> cases hBb : hasD S b <;> rw [hA] at K1 <;> rw [hBb] at K2 <;> simp only [hA, hBb, true_and, and_true, and_self, and_false, false_and, if_true, if_false, reduceCtorEq] at HO HN <;> clear hA hBb
      all_goals
        go_wp2
        go_quiet (first
          | (go_at_call 50; (with_reducible exact Calls.quiet_of_same (K1.out _)))
          | (go_at_call 50; (with_reducible exact Calls.quiet_of_same (K2.out _))))
        first
        | (go_wp2_with (go_at_call 51; fail)
           (with_reducible refine (KD.out _).mono ?_)
           rintro e w1 ⟨rfl, rfl⟩
           go_wp2)
        | go_wp2
        go_roundw
      all_goals first
        | exact ⟨k + 1, by omega, by go_num, by rw [HO.out], by rw [HN.out], below_draws' (HB.out.alloc HB.out.size _) _⟩
        | (simp [intOf]; omega)
    · obtain rfl : k = i.pairs.length := by omega
      rw [List.take_length]
      have HB := Lib.hid hb
      clear hb
      go_wp2
      exact bodyPost_ret (v := .tuple #[.int .u32 (openH S i.pairs : Nat), .int .u32 (needH S i.pairs : Nat)]) (by simp [results, Try.results52, go_sem]) rfl ⟨rfl, HB.out⟩
set_option maxRecDepth 100000 in
set_option maxHeartbeats 4000000 in
theorem sums_any (v : Value) (i : Prob) (S : Nat) (w : World) (h : Lies w v i) (hf : Fine i) (hS : S < 2048) :
    Calls Try.prog 55 #[v, .int .u32 (S : Nat)] w fun e w' => e = .returned (.tuple #[.int .i64 (sumN mx0 i S i.stops.length), .int .i64 (sumN mn0 i S i.stops.length), .int .i64 (sumN srv i S i.stops.length)]) ∧ Below w.heap.size w w' := by
  have HL := Lib.hid h
  obtain ⟨vc, vs, vp, vt, rfl, _, ⟨A, cap, rfl, hc⟩, _⟩ := h
  have HC := Lib.hid hc
  have HF := Lib.hid hf
  have hst := hf.stops
  clear hc hf
  go_enter Try.func55, Try.ntmps55
  go_wp2
  go_loopw [4, 5, 6, 12] (fun lv uv sv c wr => ∃ k : Nat, k ≤ i.stops.length ∧ c = .int .i64 k ∧ lv = .int .i64 (sumN mx0 i S k) ∧ uv = .int .i64 (sumN mn0 i S k) ∧ sv = .int .i64 (sumN srv i S k) ∧ Below w.heap.size w wr) (fun _ _ _ c _ => i.stops.length - (intOf c).toNat)
  case atStart => exact ⟨0, Nat.zero_le _, rfl, rfl, rfl, rfl, (Below.refl _ _).alloc (Nat.le_refl _) _⟩
  case round =>
    obtain ⟨k, hk, rfl, rfl, rfl, rfl, hb⟩ := hrel
    by_cases hlt : k < i.stops.length
    · obtain ⟨B, o, rfl, hB, hcell⟩ := HC.out k hlt
      have c0 : wr.cell? ⟨B, o + k * 4, none⟩ = some (.int .i64 i.stops[k].d) := by rw [hb.cell hB]; exact hcell 0 (by omega)
      have c1 : wr.cell? ⟨B, o + k * 4 + 1, none⟩ = some (.int .i64 i.stops[k].o) := by rw [hb.cell hB]; exact hcell 1 (by omega)
      have c2 : wr.cell? ⟨B, o + k * 4 + 2, none⟩ = some (.int .i64 i.stops[k].c) := by rw [hb.cell hB]; exact hcell 2 (by omega)
      have c3 : wr.cell? ⟨B, o + k * 4 + 3, none⟩ = some (.int .i64 i.stops[k].s) := by rw [hb.cell hB]; exact hcell 3 (by omega)
      have hsf := HF.out.stopF _ (List.getElem_mem hlt)
      have e1 := sumN_le (f := mx0) (i := i) (S := S) (a := 0) (b := 20) (by omega) (by omega) (fun x => by have := stopAt_bounds HF.out x; unfold mx0; omega) k
      have e2 := sumN_le (f := mn0) (i := i) (S := S) (a := -20) (b := 0) (by omega) (by omega) (fun x => by have := stopAt_bounds HF.out x; unfold mn0; omega) k
      have e3 := sumN_le (f := srv) (i := i) (S := S) (a := 0) (b := 1000) (by omega) (by omega) (fun x => by have := stopAt_bounds HF.out x; unfold srv; omega) k
      have H1 : Hid (sumN mx0 i S (k + 1) = sumN mx0 i S k + if hasD S ((k : Int) + 1) = true then max 0 i.stops[k].d else 0) := by show _ = _; rw [← stopAt_nat i hlt]; rfl
      have H2 : Hid (sumN mn0 i S (k + 1) = sumN mn0 i S k + if hasD S ((k : Int) + 1) = true then min 0 i.stops[k].d else 0) := by show _ = _; rw [← stopAt_nat i hlt]; rfl
      have H3 : Hid (sumN srv i S (k + 1) = sumN srv i S k + if hasD S ((k : Int) + 1) = true then i.stops[k].s else 0) := by show _ = _; rw [← stopAt_nat i hlt]; rfl
      have HB := Lib.hid hb
      clear hb hcell
      generalize i.stops[k] = p at *
      obtain ⟨sd, so, sc, ss⟩ := p
      simp only at c0 c1 c2 c3 hsf H1 H2 H3
      generalize sumN mx0 i S k = s1 at *
      generalize sumN mn0 i S k = s2 at *
      generalize sumN srv i S k = s3 at *
      have K1 := Lib.hid (fun W => has_any S ((k : Int) + 1) W (by omega) (by omega) (by omega))
      cases hA : hasD S ((k : Int) + 1)
      · rw [hA] at K1
        simp only [hA, Int.add_zero, if_false, reduceCtorEq] at H1 H2 H3
        clear hA
        go_wp2_with (go_at_call 50; fail)
        (with_reducible refine (K1.out _).mono ?_)
        rintro e w1 ⟨rfl, rfl⟩
        go_wp2
        go_roundw
        case rel => exact ⟨k + 1, by omega, by go_num, by first | (rw [H1.out]; done) | (rw [H1.out]; congr 1; split <;> omega), by first | (rw [H2.out]; done) | (rw [H2.out]; congr 1; split <;> omega), by first | (rw [H3.out]; done) | (rw [H3.out]; congr 1; split <;> omega), HB.out.alloc HB.out.size _⟩
        case measure => simp [intOf]; omega
      · rw [hA] at K1
        simp only [hA, if_true] at H1 H2 H3
        clear hA
        go_wp2_with (go_at_call 50; fail)
        (with_reducible refine (K1.out _).mono ?_)
        rintro e w1 ⟨rfl, rfl⟩
        rcases Int.le_total 0 sd with hd | hd
        · have m1 : max 0 sd = sd := by omega
          have m2 : min 0 sd = 0 := by omega
          rw [m1] at H1
          rw [m2, Int.add_zero] at H2
          clear m1 m2
          go_wp2
          go_roundw
          case rel => exact ⟨k + 1, by omega, by go_num, by first | (rw [H1.out]; done) | (rw [H1.out]; congr 1; split <;> omega), by first | (rw [H2.out]; done) | (rw [H2.out]; congr 1; split <;> omega), by first | (rw [H3.out]; done) | (rw [H3.out]; congr 1; split <;> omega), HB.out.alloc HB.out.size _⟩
          case measure => simp [intOf]; omega
        · have m1 : max 0 sd = 0 := by omega
          have m2 : min 0 sd = sd := by omega
          rw [m1, Int.add_zero] at H1
          rw [m2] at H2
          clear m1 m2
          go_wp2
          go_roundw
          case rel => exact ⟨k + 1, by omega, by go_num, by first | (rw [H1.out]; done) | (rw [H1.out]; congr 1; split <;> omega), by first | (rw [H2.out]; done) | (rw [H2.out]; congr 1; split <;> omega), by first | (rw [H3.out]; done) | (rw [H3.out]; congr 1; split <;> omega), HB.out.alloc HB.out.size _⟩
          case measure => simp [intOf]; omega
    · obtain rfl : k = i.stops.length := by omega
      have HB := Lib.hid hb
      clear hb
      go_wp2
      exact bodyPost_ret (v := .tuple #[.int .i64 (sumN mx0 i S i.stops.length), .int .i64 (sumN mn0 i S i.stops.length), .int .i64 (sumN srv i S i.stops.length)]) (by simp [results, Try.results55, go_sem]) rfl ⟨rfl, HB.out⟩
end Go.Proofs.Ytkheepedjoimmaa
