/- Plain facts, no Go: what heads and tails come to beside the drive; a tail's latest time; the sets (stage 5). · Sets of stops as digits of a uint32: what the program's own operations make of them. · Plain facts, no Go: how great the numbers of heads and tails become (stage 5). · Plain facts, no Go: a set of stops tells its halves and its sums; heads and tails agree with theirs (stage 5). · TripBegins, plain: a problem with more room drives what the other drove; a beginning's arrivals and loads. · TripBegins: the second problem in memory, with more room. -/
import Derived.Test.YtgkieelacjcopaaZ02
import Derived.Test.YtgkieelacjcopaaZ06
namespace Go.Proofs.Ytgkieelacjcopaa

theorem take_snoc {r : List Int} {k : Nat} (hk : k < r.length) : r.take (k + 1) = r.take k ++ [r[k]] := by rw [List.take_succ_eq_append_getElem hk]
theorem head_step {i : Prob} {c : Int} {r : List Int} {k : Nat} (hk : k < r.length) : headL i c (r.take (k + 1)) = (headL i c (r.take k)).bind fun h => extendP i c h r[k] := by rw [take_snoc hk, headL_snoc]
theorem tail_step {i : Prob} {c : Int} {r : List Int} {k : Nat} (hk : k < r.length) : tailL i c (r.drop k) = (tailL i c (r.drop (k + 1))).bind fun t => beforeP i r[k] t := by rw [List.drop_eq_getElem_cons hk]; rfl
/-- a head beside the drive of the whole -/
theorem head_drive {i : Prob} {c : Int} {r : List Int} {t : TripR} (ht : evalL i c r = some t) : ∀ {k : Nat} {h : HeadP}, k ≤ r.length → headL i c (r.take k) = some h →
    driveL i (carAt i c) h.last h.leave h.load (r.drop k) = some ⟨t.arr.drop k, t.load.drop k, t.home⟩ ∧
    ∀ (_ : 0 < k) (h1 : k - 1 < r.length) (h2 : k - 1 < t.arr.length) (h3 : k - 1 < t.load.length), h.last = r[k - 1] ∧ h.load = t.load[k - 1] ∧ h.leave = t.arr[k - 1] + (stopAt i r[k - 1]).s
  | 0, h, _, hh => by
    have he := (eval_some ht).2.2.2.2.2.1
    rw [List.take_zero] at hh
    have : h = beginH i c := by injection hh with hh; exact hh.symm
    subst this
    exact ⟨by simpa [beginH] using he, fun hk => absurd hk (by omega)⟩
  | k + 1, h, hk, hh => by
    have hk' : k < r.length := by omega
    obtain ⟨_, _, _, _, _, _, hla, hll⟩ := eval_some ht
    rw [head_step hk'] at hh
    obtain ⟨g, h1, h2⟩ := Option.bind_eq_some_iff.1 hh
    obtain ⟨d1, _⟩ := head_drive ht (by omega) h1
    obtain ⟨e1, e2, e3, e4, e5, e6⟩ := drive_step hk' (by omega) (by omega) d1
    obtain ⟨_, o, _, rfl⟩ := ext_some.1 h2
    have hbg : begun i g.last g.leave r[k] = beginP i g r[k] := by unfold begun beginP; rw [Int.max_comm]
    refine ⟨by simp only; rw [← hbg]; exact e6, fun _ _ _ _ => ⟨by simp, by simpa using e2.symm, ?_⟩⟩
    simp only [Nat.add_sub_cancel]
    rw [e1, hbg]
theorem tail_first {i : Prob} {c : Int} {r : List Int} {k : Nat} (hk : k < r.length) {u : TailP} (hu : tailL i c (r.drop k) = some u) : u.first = r[k] ∧ (stopAt i r[k]).o ≤ u.late := by
  rw [tail_step hk] at hu
  obtain ⟨g, _, h2⟩ := Option.bind_eq_some_iff.1 hu
  obtain ⟨⟨_, _, a⟩, n, _, rfl⟩ := bef_some.1 h2
  exact ⟨rfl, a⟩
/-- wherever a route that can be driven is cut, its head and its tail meet -/
theorem cut_meet {i : Prob} (hm : Mated i) {c : Int} (hc : 0 ≤ (carAt i c).c) (hcar : inB c 0 (i.cars.length - 1) = true) {r : List Int} (k : Nat) : meetO i c (headL i c (r.take k)) (tailL i c (r.drop k)) = (evalL i c r).map (·.cost) := by
  rw [meet_eval hm hc hcar, List.take_append_drop]
theorem meetO_some {i : Prob} {c : Int} {h : Option HeadP} {t : Option TailP} {x : Int} : meetO i c h t = some x ↔ ∃ h' t', h = some h' ∧ t = some t' ∧ meetP i c h' t' = some x := by
  unfold meetO
  rw [Option.bind_eq_some_iff]
  constructor
  · rintro ⟨a, h1, h2⟩
    obtain ⟨b, h3, h4⟩ := Option.bind_eq_some_iff.1 h2
    exact ⟨a, b, h1, h3, h4⟩
  · rintro ⟨a, b, h1, h2, h3⟩
    exact ⟨a, h1, Option.bind_eq_some_iff.2 ⟨b, h2, h3⟩⟩
theorem cut_parts {i : Prob} (hm : Mated i) {c : Int} (hc : 0 ≤ (carAt i c).c) (hcar : inB c 0 (i.cars.length - 1) = true) {r : List Int} {t : TripR} (ht : evalL i c r = some t) {k : Nat} (hk : k ≤ r.length) : ∃ h u, headL i c (r.take k) = some h ∧ tailL i c (r.drop k) = some u ∧
    (∀ (_ : 0 < k) (h1 : k - 1 < r.length) (h2 : k - 1 < t.arr.length) (h3 : k - 1 < t.load.length), h.last = r[k - 1] ∧ h.load = t.load[k - 1] ∧ h.leave = t.arr[k - 1] + (stopAt i r[k - 1]).s) ∧
    ∀ (h1 : k < r.length) (h2 : k < t.arr.length), u.first = r[k] ∧ t.arr[k] ≤ u.late := by
  have h0 := cut_meet hm hc hcar (r := r) k
  rw [ht, Option.map_some] at h0
  obtain ⟨h, u, h1, h2, h3⟩ := meetO_some.1 h0
  refine ⟨h, u, h1, h2, (head_drive ht hk h1).2, fun h4 h5 => ?_⟩
  obtain ⟨e1, e2⟩ := tail_first h4 h2
  obtain ⟨_, _, _, _, _, _, _, hll⟩ := eval_some ht
  obtain ⟨d1, _⟩ := drive_step h4 h5 (by omega) (head_drive ht hk h1).1
  have m := (meet_some.1 h3).1.2.2.1
  rw [e1] at m
  refine ⟨e1, ?_⟩
  rw [d1]
  unfold begun
  omega

/-- the times of a drive alone -/
def timesOk (i : Prob) (e : Int) : Int → Int → List Int → Bool
  | last, left, [] => decide (left + way i last 0 ≤ e)
  | last, left, s :: l => decide (begun i last left s ≤ (stopAt i s).c) && timesOk i e s (begun i last left s + (stopAt i s).s) l
theorem drive_times {i : Prob} {c : Car} (hc : 0 ≤ c.c) : ∀ {l : List Int} {last left : Int}, (∀ x ∈ l, (stopAt i x).d = 0) → (driveL i c last left 0 l).isSome = timesOk i c.e last left l
  | [], last, left, _ => by
    unfold driveL timesOk
    split
    · next h => simp; omega
    · next h => simp; omega
  | s :: l, last, left, h => by
    have hd := h s (by simp)
    unfold driveL timesOk
    rw [hd]
    by_cases hb : begun i last left s ≤ (stopAt i s).c
    · rw [if_neg (by omega), Option.isSome_map, Int.add_zero, drive_times hc (fun x hx => h x (by simp [hx]))]
      simp [hb]
    · rw [if_pos (.inl (by omega))]
      simp [hb]
/-- a tail can be driven just if its first place is begun by its latest time -/
theorem late_iff {i : Prob} {c : Int} : ∀ {l : List Int} {t : TailP} (last left : Int), tailL i c l = some t → (timesOk i (carAt i c).e last left l = true ↔ left + way i last t.first ≤ t.late)
  | [], t, last, left, h => by
    injection h with h; subst h
    simp [timesOk, endT]
  | s :: l, t, last, left, h => by
    obtain ⟨g, h1, h2⟩ := Option.bind_eq_some_iff.1 (show (tailL i c l).bind (fun t => beforeP i s t) = some t from h)
    obtain ⟨⟨_, _, a⟩, n, _, rfl⟩ := bef_some.1 h2
    have ih := late_iff (l := l) s (begun i last left s + (stopAt i s).s) h1
    unfold timesOk
    rw [Bool.and_eq_true, decide_eq_true_eq, ih]
    simp only
    unfold lateP at a ⊢
    unfold begun
    omega
/-- the times of another problem that is like the one but for its first stop's opening -/
theorem times_same {i j : Prob} {e : Int} : ∀ {l : List Int} {last left : Int}, (∀ a b, way j a b = way i a b) → (∀ x ∈ l, (stopAt j x).o = (stopAt i x).o ∧ (stopAt j x).c = (stopAt i x).c ∧ (stopAt j x).s = (stopAt i x).s) → timesOk j e last left l = timesOk i e last left l
  | [], last, left, hw, _ => by unfold timesOk; rw [hw]
  | s :: l, last, left, hw, h => by
    obtain ⟨h1, h2, h3⟩ := h s (by simp)
    unfold timesOk begun
    rw [hw, h1, h2, h3, times_same hw (fun x hx => h x (by simp [hx]))]
theorem late_first {i j : Prob} {c : Int} {s : Int} {l : List Int} {t : TailP} (ht : tailL i c (s :: l) = some t) (hw : ∀ a b, way j a b = way i a b) (hl : ∀ x ∈ l, (stopAt j x).o = (stopAt i x).o ∧ (stopAt j x).c = (stopAt i x).c ∧ (stopAt j x).s = (stopAt i x).s)
    (hc : (stopAt j s).c = (stopAt i s).c) (hs : (stopAt j s).s = (stopAt i s).s) (left : Int) : timesOk j (carAt i c).e 0 left (s :: l) = true ↔ max (stopAt j s).o (left + way i 0 s) ≤ t.late := by
  obtain ⟨g, h1, h2⟩ := Option.bind_eq_some_iff.1 (show (tailL i c l).bind (fun t => beforeP i s t) = some t from ht)
  obtain ⟨⟨_, _, a⟩, n, _, rfl⟩ := bef_some.1 h2
  unfold timesOk
  rw [times_same hw hl, Bool.and_eq_true, decide_eq_true_eq, late_iff s _ h1, hc, hs]
  simp only
  unfold begun lateP
  rw [hw]
  omega

/-- a head's sets -/
theorem head_sets {i : Prob} (hm : Mated i) {c : Int} : ∀ {l : List Int} {h : HeadP}, headL i c l = some h → ∃ os, St i l.reverse os h := by
  have key : ∀ (l : List Int) (g h : HeadP) (met os : List Int), St i met os g → headFrom i c (some g) l = some h → ∃ os', St i (l.reverse ++ met) os' h := by
    intro l
    induction l with
    | nil => intro g h met os H hh; injection hh with hh; subst hh; exact ⟨os, H⟩
    | cons s l ih =>
      intro g h met os H hh
      have hh' : headFrom i c (extendP i c g s) l = some h := hh
      cases hE : extendP i c g s with
      | none => rw [hE, headFrom_none] at hh'; cases hh'
      | some g' =>
        rw [hE] at hh'
        obtain ⟨⟨a1, a2, _⟩, o, ho, rfl⟩ := ext_some.1 hE
        have hs : 1 ≤ s := by rw [inB_iff] at a1; exact a1.1
        have hmet : s ∉ met := fun e => by rw [H.set, hasD_bits hs H.pos] at a2; simp [e] at a2
        have hst := H.step hm hs hmet (g := ⟨s, beginP i g s + (stopAt i s).s, g.load + (stopAt i s).d, o, g.set ||| digit s, g.cost + way i g.last s⟩) rfl
        have : ∃ os', St i (s :: met) os' ⟨s, beginP i g s + (stopAt i s).s, g.load + (stopAt i s).d, o, g.set ||| digit s, g.cost + way i g.last s⟩ := by
          unfold opnP at ho
          split at ho
          · next h3 => injection ho with ho; exact ⟨_, hst.1 h3 ho.symm⟩
          · next h3 =>
            split at ho
            · next h4 => injection ho with ho; exact ⟨_, hst.2.1 h3 h4 ho.symm⟩
            · next h4 =>
              have h4' : firstL s i.pairs = false := by simpa using h4
              have m := hm.mate h3
              split at ho
              · next h5 =>
                injection ho with ho
                rw [H.opn, hasD_bits m.1 H.opos] at h5
                exact ⟨_, hst.2.2 h3 h4' (by simpa using h5) ho.symm⟩
              · cases ho
        obtain ⟨os', H'⟩ := this
        obtain ⟨os2, H2⟩ := ih _ h _ _ H' hh'
        refine ⟨os2, ?_⟩
        rw [List.reverse_cons, List.append_assoc]
        exact H2
  intro l h hh
  obtain ⟨os, H⟩ := key l _ h [] [] (st_begin i c) hh
  exact ⟨os, by simpa using H⟩
/-- a tail's sets: its stops; the firsts that are not on it though their seconds are -/
structure Ts (i : Prob) (met : List Int) (t : TailP) : Prop where
  set : ∀ x, 1 ≤ x → hasD t.set x = decide (x ∈ met)
  pos : ∀ x ∈ met, 1 ≤ x
  need : ∀ x, 1 ≤ x → (hasD t.need x = true ↔ firstL x i.pairs = true ∧ x ∉ met ∧ mateL x i.pairs ∈ met)
  fst : ∀ y ∈ met, firstL y i.pairs = true → mateL y i.pairs ∈ met
theorem tail_sets {i : Prob} (hm : Mated i) {c : Int} : ∀ {l : List Int} {t : TailP}, tailL i c l = some t → Ts i l t
  | [], t, h => by
    injection h with h; subst h
    exact ⟨fun x _ => by simp [endT, hasD_zero], fun x h => (by simp at h), fun x _ => by simp [endT, hasD_zero], fun y h => (by simp at h)⟩
  | s :: l, t, h => by
    obtain ⟨g, h1, h2⟩ := Option.bind_eq_some_iff.1 (show (tailL i c l).bind (fun t => beforeP i s t) = some t from h)
    have H := tail_sets hm h1
    obtain ⟨⟨a1, a2, _⟩, n, hn, rfl⟩ := bef_some.1 h2
    have hs : 1 ≤ s := by rw [inB_iff] at a1; exact a1.1
    have hmet : s ∉ l := fun e => by rw [H.set s hs] at a2; simp [e] at a2
    have hset : ∀ x, 1 ≤ x → hasD (g.set ||| digit s) x = decide (x ∈ s :: l) := fun x hx => by
      rw [hasD_or, H.set x hx, Bool.eq_iff_iff]
      simp only [Bool.or_eq_true, decide_eq_true_eq, List.mem_cons]
      constructor
      · rintro (e | e)
        · exact .inr e
        · exact .inl (by omega)
      · rintro (rfl | e)
        · exact .inr rfl
        · exact .inl e
    have hpos : ∀ x ∈ s :: l, 1 ≤ x := fun x hx => by
      rcases List.mem_cons.1 hx with rfl | hx
      · exact hs
      · exact H.pos x hx
    unfold needP at hn
    split at hn
    · next h3 =>
      injection hn with hn; subst hn
      refine ⟨hset, hpos, fun x hx => ?_, fun y hy hf => ?_⟩
      · rw [H.need x hx]
        constructor
        · rintro ⟨a, b, d⟩
          refine ⟨a, fun e => ?_, List.mem_cons_of_mem _ d⟩
          rcases List.mem_cons.1 e with rfl | e
          · exact hm.first a h3
          · exact b e
        · rintro ⟨a, b, d⟩
          refine ⟨a, fun e => b (List.mem_cons_of_mem _ e), ?_⟩
          rcases List.mem_cons.1 d with d | d
          · have m := hm.mate (hm.first a)
            rw [d, h3] at m
            omega
          · exact d
      · rcases List.mem_cons.1 hy with rfl | hy
        · exact absurd h3 (hm.first hf)
        · exact List.mem_cons_of_mem _ (H.fst y hy hf)
    · next h3 =>
      have m := hm.mate h3
      split at hn
      · next h4 =>
        injection hn with hn; subst hn
        refine ⟨hset, hpos, fun x hx => ?_, fun y hy hf => ?_⟩
        · rw [hasD_or]
          simp only [Bool.or_eq_true, decide_eq_true_eq]
          rw [H.need x hx]
          constructor
          · rintro (⟨a, b, d⟩ | e)
            · refine ⟨a, fun e => ?_, List.mem_cons_of_mem _ d⟩
              rcases List.mem_cons.1 e with rfl | e
              · rw [h4] at a; cases a
              · exact b e
            · have e' : x = mateL s i.pairs := by omega
              subst e'
              refine ⟨by rw [m.2.2.2.1, h4]; rfl, fun e => ?_, by rw [m.2.1]; simp⟩
              rcases List.mem_cons.1 e with e | e
              · exact m.2.2.1 e
              · have := H.fst _ e (by rw [m.2.2.2.1, h4]; rfl)
                rw [m.2.1] at this
                exact hmet this
          · rintro ⟨a, b, d⟩
            rcases List.mem_cons.1 d with d | d
            · have m2 := hm.mate (hm.first a)
              exact .inr (by rw [← d, m2.2.1])
            · exact .inl ⟨a, fun e => b (List.mem_cons_of_mem _ e), d⟩
        · rcases List.mem_cons.1 hy with rfl | hy
          · rw [h4] at hf; cases hf
          · exact List.mem_cons_of_mem _ (H.fst y hy hf)
      · next h4 =>
        have h4' : firstL s i.pairs = true := by simpa using h4
        split at hn
        · next h5 =>
          injection hn with hn; subst hn
          have h6 := (H.need s hs).1 h5
          refine ⟨hset, hpos, fun x hx => ?_, fun y hy hf => ?_⟩
          · rw [hasD_xor]
            by_cases e : s.toNat = x.toNat
            · have e' : s = x := by omega
              subst e'
              simp [h5]
            · have e' : ¬ x = s := fun h => e (by rw [h])
              simp only [e, decide_false, Bool.xor_false]
              rw [H.need x hx]
              constructor
              · rintro ⟨a, b, d⟩
                exact ⟨a, fun k => by rcases List.mem_cons.1 k with k | k; exact e' k; exact b k, List.mem_cons_of_mem _ d⟩
              · rintro ⟨a, b, d⟩
                refine ⟨a, fun k => b (List.mem_cons_of_mem _ k), ?_⟩
                rcases List.mem_cons.1 d with d | d
                · have m2 := hm.mate (hm.first a)
                  rw [d, a, h4'] at m2
                  exact absurd m2.2.2.2.1 (by decide)
                · exact d
          · rcases List.mem_cons.1 hy with rfl | hy
            · exact List.mem_cons_of_mem _ h6.2.2
            · exact List.mem_cons_of_mem _ (H.fst y hy hf)
        · cases hn
end Go.Proofs.Ytgkieelacjcopaa
namespace Go.Proofs.Ytgkieelacjcopaa
open Go.RowKit

theorem u32_wrap {n : Nat} (h : n < 4294967296) : IntKind.u32.wrap (n : Int) = (n : Int) := by
  have : IntKind.u32.wrap (n : Int) = (n : Int) % 4294967296 := by first | rfl | simp [go_sem] | (unfold IntKind.wrap; simp)
  rw [this]; omega
theorem u32_nat (a : Nat) : BitVec.ofInt IntKind.u32.bits (a : Int) = BitVec.ofNat 32 a := rfl
theorem u32_and {a b : Nat} (ha : a < 4294967296) (hb : b < 4294967296) : Go.bits .and .u32 (a : Int) (b : Int) = ((a &&& b : Nat) : Int) := by
  show IntKind.u32.wrap ((BitVec.ofNat 32 a &&& BitVec.ofNat 32 b).toNat : Int) = _
  rw [BitVec.toNat_and, BitVec.toNat_ofNat, BitVec.toNat_ofNat, Nat.mod_eq_of_lt (by omega), Nat.mod_eq_of_lt (by omega)]
  exact u32_wrap (Nat.lt_of_le_of_lt Nat.and_le_left ha)
theorem u32_or {a b : Nat} (ha : a < 4294967296) (hb : b < 4294967296) : Go.bits .or .u32 (a : Int) (b : Int) = ((a ||| b : Nat) : Int) := by
  show IntKind.u32.wrap ((BitVec.ofNat 32 a ||| BitVec.ofNat 32 b).toNat : Int) = _
  rw [BitVec.toNat_or, BitVec.toNat_ofNat, BitVec.toNat_ofNat, Nat.mod_eq_of_lt (by omega), Nat.mod_eq_of_lt (by omega)]
  exact u32_wrap (Nat.or_lt_two_pow (n := 32) ha hb)
theorem digit_lt {s : Int} (h : s ≤ 10) : digit s < 2048 := by
  unfold digit
  have : 2 ^ s.toNat ≤ 2 ^ 10 := Nat.pow_le_pow_right (by omega) (by omega)
  omega
theorem u32_andNot {a : Nat} {m : Int} (ha : a < 4294967296) (hm : m ≤ 10) (h : hasD a m = true) : Go.bits .andNot .u32 (a : Int) (digit m : Int) = ((a ^^^ digit m : Nat) : Int) := by
  have hd := digit_lt hm
  show IntKind.u32.wrap ((BitVec.ofNat 32 a &&& ~~~ BitVec.ofNat 32 (digit m)).toNat : Int) = _
  have e : (BitVec.ofNat 32 a &&& ~~~ BitVec.ofNat 32 (digit m)).toNat = a ^^^ digit m := by
    refine Nat.eq_of_testBit_eq fun k => ?_
    rw [BitVec.testBit_toNat, BitVec.getLsbD_and, BitVec.getLsbD_not, BitVec.getLsbD_ofNat, BitVec.getLsbD_ofNat, Nat.testBit_xor, test_digit]
    by_cases hk : k < 32
    · by_cases hmk : m.toNat = k
      · subst hmk; unfold hasD at h; simp [h]
      · simp [hk, hmk]
    · have h1 : a.testBit k = false := Nat.testBit_lt_two_pow (Nat.lt_of_lt_of_le ha (by have := Nat.pow_le_pow_right (n := 2) (by omega) (show 32 ≤ k by omega); omega))
      have h2 : ¬ m.toNat = k := by omega
      simp [hk, h1, h2]
  rw [e]
  exact u32_wrap (Nat.xor_lt_two_pow (n := 32) ha (by omega))
theorem and_digit {a : Nat} {s : Int} : a &&& digit s = 0 ↔ hasD a s = false := by
  have := @or_and_zero 0 a s
  rw [Nat.zero_or, Nat.zero_and, Nat.and_comm] at this
  rw [this]
  simp
theorem and_none {a : Nat} {s : Int} (h : hasD a s = false) : ((a &&& digit s : Nat) : Int) = 0 := by rw [and_digit.2 h]; rfl
theorem and_some {a : Nat} {s : Int} (h : hasD a s = true) : ((a &&& digit s : Nat) : Int) ≠ 0 := by
  intro e
  have : hasD a s = false := and_digit.1 (by omega)
  rw [h] at this; cases this
end Go.Proofs.Ytgkieelacjcopaa
namespace Go.Proofs.Ytgkieelacjcopaa

/-- bounds of a head of k stops -/
structure HBn (i : Prob) (k : Nat) (h : HeadP) : Prop where
  last : 0 ≤ h.last ∧ h.last ≤ i.stops.length
  leave : 0 ≤ h.leave ∧ h.leave ≤ 2000
  load : 0 ≤ h.load ∧ h.load ≤ 60
  opn : h.opn < 2048
  set : h.set < 2048
  cost : 0 ≤ h.cost ∧ h.cost ≤ 1000 * (k : Int)
structure TBn (i : Prob) (k : Nat) (t : TailP) : Prop where
  first : 0 ≤ t.first ∧ t.first ≤ i.stops.length
  late : 0 ≤ t.late ∧ t.late ≤ 1000
  low : -20 * (k : Int) ≤ t.low ∧ t.low ≤ 0
  high : 0 ≤ t.high ∧ t.high ≤ 20 * (k : Int)
  need : t.need < 2048
  set : t.set < 2048
  cost : 0 ≤ t.cost ∧ t.cost ≤ 1000 * (k : Int)
theorem opn_lt {i : Prob} (hf : Fine i) {O o : Nat} {s : Int} (hO : O < 2048) (hs : s ≤ 10) (h : opnP i O s = some o) : o < 2048 := by
  have hm := mate_bound hf s
  unfold opnP at h
  split at h
  · injection h with h; omega
  · split at h
    · injection h with h; subst h; exact Nat.or_lt_two_pow (n := 11) hO (digit_lt hs)
    · split at h
      · injection h with h; subst h; exact Nat.xor_lt_two_pow (n := 11) hO (digit_lt hm.2)
      · cases h
theorem need_lt {i : Prob} (hf : Fine i) {O o : Nat} {s : Int} (hO : O < 2048) (hs : s ≤ 10) (h : needP i O s = some o) : o < 2048 := by
  have hm := mate_bound hf s
  unfold needP at h
  split at h
  · injection h with h; omega
  · split at h
    · injection h with h; subst h; exact Nat.or_lt_two_pow (n := 11) hO (digit_lt hm.2)
    · split at h
      · injection h with h; subst h; exact Nat.xor_lt_two_pow (n := 11) hO (digit_lt hs)
      · cases h
theorem ext_hbn {i : Prob} (hf : Fine i) {c : Int} {k : Nat} {h g : HeadP} {s : Int} (H : HBn i k h) (hg : extendP i c h s = some g) : HBn i (k + 1) g := by
  obtain ⟨⟨a1, a2, a3, a4, a5⟩, o, ho, rfl⟩ := ext_some.1 hg
  have h1 := inB_iff.1 a1
  have h2 := hf.stops
  have h3 := stopAt_bounds hf s
  have h4 := carAt_bounds hf c
  have h5 := way_bounds hf h.last s
  have hc := H.cost
  refine ⟨by simp only; omega, ?_, by simp only; omega, opn_lt hf H.opn (by omega) ho, Nat.or_lt_two_pow (n := 11) H.set (digit_lt (by omega)), by simp only; omega⟩
  unfold beginP at a3 ⊢
  simp only
  omega
theorem bef_tbn {i : Prob} (hf : Fine i) {k : Nat} {t g : TailP} {s : Int} (H : TBn i k t) (hg : beforeP i s t = some g) : TBn i (k + 1) g := by
  obtain ⟨⟨a1, a2, a3⟩, n, hn, rfl⟩ := bef_some.1 hg
  have h1 := inB_iff.1 a1
  have h2 := hf.stops
  have h3 := stopAt_bounds hf s
  have h5 := way_bounds hf s t.first
  have hc := H.cost
  have hl := H.low
  have hh := H.high
  refine ⟨by simp only; omega, ?_, by simp only; omega, by simp only; omega, need_lt hf H.need (by omega) hn, Nat.or_lt_two_pow (n := 11) H.set (digit_lt (by omega)), by simp only; omega⟩
  unfold lateP at a3 ⊢
  simp only
  omega
theorem begin_hbn {i : Prob} (hf : Fine i) (c : Int) : HBn i 0 (beginH i c) := by
  have h4 := carAt_bounds hf c
  exact ⟨by simp [beginH], by simp only [beginH]; omega, by simp [beginH], by simp [beginH], by simp [beginH], by simp [beginH]⟩
theorem end_tbn {i : Prob} (hf : Fine i) {c : Int} (hc : inB c 0 (i.cars.length - 1) = true) : TBn i 0 (endT i c) := by
  have h1 := inB_iff.1 hc
  obtain ⟨cn, rfl⟩ : ∃ cn : Nat, c = (cn : Int) := ⟨c.toNat, by omega⟩
  have h2 := hf.carF _ (List.getElem_mem (show cn < i.cars.length by omega))
  have h3 := carAt_nat i (show cn < i.cars.length by omega)
  exact ⟨by simp [endT], by simp only [endT]; rw [h3]; omega, by simp [endT], by simp [endT], by simp [endT], by simp [endT], by simp [endT]⟩
theorem head_hbn {i : Prob} (hf : Fine i) {c : Int} {r : List Int} : ∀ {k : Nat} {h : HeadP}, k ≤ r.length → headL i c (r.take k) = some h → HBn i k h
  | 0, h, _, hh => by
    rw [List.take_zero] at hh
    injection hh with hh; subst hh
    exact begin_hbn hf c
  | k + 1, h, hk, hh => by
    rw [head_step (by omega)] at hh
    obtain ⟨g, h1, h2⟩ := Option.bind_eq_some_iff.1 hh
    exact ext_hbn hf (head_hbn hf (by omega) h1) h2
theorem tail_tbn {i : Prob} (hf : Fine i) {c : Int} (hc : inB c 0 (i.cars.length - 1) = true) : ∀ {l : List Int} {t : TailP}, tailL i c l = some t → TBn i l.length t
  | [], t, h => by injection h with h; subst h; exact end_tbn hf hc
  | s :: l, t, h => by
    obtain ⟨g, h1, h2⟩ := Option.bind_eq_some_iff.1 (show (tailL i c l).bind (fun t => beforeP i s t) = some t from h)
    exact bef_tbn hf (tail_tbn hf hc h1) h2
end Go.Proofs.Ytgkieelacjcopaa
namespace Go.Proofs.Ytgkieelacjcopaa

def openF (S : Nat) (a : Nat) (p : Pair) : Nat := if hasD S p.a = true ∧ hasD S p.b = false then a ||| digit p.a else a
def needF (S : Nat) (a : Nat) (p : Pair) : Nat := if hasD S p.b = true ∧ hasD S p.a = false then a ||| digit p.a else a
def openH (S : Nat) (ps : List Pair) : Nat := ps.foldl (openF S) 0
def needH (S : Nat) (ps : List Pair) : Nat := ps.foldl (needF S) 0
theorem fold_bit {f : Nat → Pair → Nat} {P : Pair → Prop} (hf : ∀ a p k, (f a p).testBit k = true ↔ a.testBit k = true ∨ (P p ∧ p.a.toNat = k)) : ∀ (ps : List Pair) (a k : Nat), (ps.foldl f a).testBit k = true ↔ a.testBit k = true ∨ ∃ p ∈ ps, P p ∧ p.a.toNat = k
  | [], a, k => by simp
  | p :: ps, a, k => by
    rw [List.foldl_cons, fold_bit hf ps, hf]
    simp only [List.mem_cons, exists_eq_or_imp]
    exact or_assoc
theorem if_bit {Q : Prop} [Decidable Q] {a : Nat} {s : Int} {k : Nat} : (if Q then a ||| digit s else a).testBit k = true ↔ a.testBit k = true ∨ (Q ∧ s.toNat = k) := by
  split
  · next h => rw [Nat.testBit_or, test_digit]; simp [h]
  · next h => simp [h]
theorem open_bit {S : Nat} {ps : List Pair} {k : Nat} : (openH S ps).testBit k = true ↔ ∃ p ∈ ps, (hasD S p.a = true ∧ hasD S p.b = false) ∧ p.a.toNat = k := by
  unfold openH
  rw [fold_bit (f := openF S) (P := fun p => hasD S p.a = true ∧ hasD S p.b = false) (fun a p k => if_bit) ps 0 k, Nat.zero_testBit]
  simp
theorem need_bit {S : Nat} {ps : List Pair} {k : Nat} : (needH S ps).testBit k = true ↔ ∃ p ∈ ps, (hasD S p.b = true ∧ hasD S p.a = false) ∧ p.a.toNat = k := by
  unfold needH
  rw [fold_bit (f := needF S) (P := fun p => hasD S p.b = true ∧ hasD S p.a = false) (fun a p k => if_bit) ps 0 k, Nat.zero_testBit]
  simp
theorem first_pair {x : Int} : ∀ {ps : List Pair}, firstL x ps = true → ∃ p ∈ ps, p.a = x
  | [], h => by cases h
  | p :: ps, h => by
    unfold firstL at h
    split at h
    · next e => exact ⟨p, by simp, e⟩
    · obtain ⟨q, h1, h2⟩ := first_pair h; exact ⟨q, by simp [h1], h2⟩
theorem Mated.pa {i : Prob} (hm : Mated i) {p : Pair} (hp : p ∈ i.pairs) : 1 ≤ p.a := hm.pos _ (flat_mem hp).1
theorem open_iff {i : Prob} (hm : Mated i) {S : Nat} {x : Int} (hx : 1 ≤ x) : hasD (openH S i.pairs) x = true ↔ firstL x i.pairs = true ∧ hasD S x = true ∧ hasD S (mateL x i.pairs) = false := by
  unfold hasD
  rw [open_bit]
  constructor
  · rintro ⟨p, hp, ⟨h1, h2⟩, h3⟩
    have := hm.pa hp
    obtain rfl : p.a = x := by omega
    obtain ⟨e1, e2, _⟩ := of_a hm.nodup hp
    rw [e1]
    exact ⟨e2, h1, h2⟩
  · rintro ⟨h1, h2, h3⟩
    obtain ⟨p, hp, rfl⟩ := first_pair h1
    obtain ⟨e1, e2, _⟩ := of_a hm.nodup hp
    rw [e1] at h3
    exact ⟨p, hp, ⟨h2, h3⟩, rfl⟩
theorem need_iff {i : Prob} (hm : Mated i) {S : Nat} {x : Int} (hx : 1 ≤ x) : hasD (needH S i.pairs) x = true ↔ firstL x i.pairs = true ∧ hasD S x = false ∧ hasD S (mateL x i.pairs) = true := by
  unfold hasD
  rw [need_bit]
  constructor
  · rintro ⟨p, hp, ⟨h1, h2⟩, h3⟩
    have := hm.pa hp
    obtain rfl : p.a = x := by omega
    obtain ⟨e1, e2, _⟩ := of_a hm.nodup hp
    rw [e1]
    exact ⟨e2, h2, h1⟩
  · rintro ⟨h1, h2, h3⟩
    obtain ⟨p, hp, rfl⟩ := first_pair h1
    obtain ⟨e1, e2, _⟩ := of_a hm.nodup hp
    rw [e1] at h3
    exact ⟨p, hp, ⟨h3, h2⟩, rfl⟩
theorem open_0 {i : Prob} (hm : Mated i) {S : Nat} : (openH S i.pairs).testBit 0 = false := by
  rw [Bool.eq_false_iff]; intro h
  obtain ⟨p, hp, _, h3⟩ := open_bit.1 h
  have := hm.pa hp
  omega
theorem need_0 {i : Prob} (hm : Mated i) {S : Nat} : (needH S i.pairs).testBit 0 = false := by
  rw [Bool.eq_false_iff]; intro h
  obtain ⟨p, hp, _, h3⟩ := need_bit.1 h
  have := hm.pa hp
  omega
theorem nat_ext_pos {A B : Nat} (h0 : A.testBit 0 = B.testBit 0) (h : ∀ x : Int, 1 ≤ x → (hasD A x = true ↔ hasD B x = true)) : A = B := by
  refine Nat.eq_of_testBit_eq fun k => ?_
  rcases Nat.eq_zero_or_pos k with rfl | hk
  · exact h0
  · have := h (k : Int) (by omega)
    unfold hasD at this
    rw [show ((k : Int)).toNat = k from rfl] at this
    exact Bool.eq_iff_iff.2 this
theorem zero_of_pos {A : Nat} (h0 : A.testBit 0 = false) (h : ∀ x : Int, 1 ≤ x → ¬ hasD A x = true) : A = 0 :=
  nat_ext_pos (by rw [h0, Nat.zero_testBit]) (fun x hx => ⟨fun e => absurd e (h x hx), fun e => by rw [hasD_zero] at e; cases e⟩)
theorem not_zero {A : Nat} (h : A = 0) (x : Int) : ¬ hasD A x = true := by rw [h, hasD_zero]; simp
theorem hasD_or' {S : Nat} {s x : Int} (hs : 1 ≤ s) (hx : 1 ≤ x) : hasD (S ||| digit s) x = true ↔ hasD S x = true ∨ s = x := by
  rw [hasD_or, Bool.or_eq_true_iff, decide_eq_true_eq]
  have : s.toNat = x.toNat ↔ s = x := by omega
  rw [this]
theorem hasD_orF {S : Nat} {s x : Int} (hs : 1 ≤ s) (hx : 1 ≤ x) : hasD (S ||| digit s) x = false ↔ hasD S x = false ∧ s ≠ x := by
  have := hasD_or' (S := S) hs hx
  cases h1 : hasD (S ||| digit s) x <;> cases h2 : hasD S x <;> simp_all
theorem hasD_xor' {S : Nat} {s x : Int} (hs : 1 ≤ s) (hx : 1 ≤ x) : hasD (S ^^^ digit s) x = true ↔ (hasD S x = true ↔ ¬ s = x) := by
  rw [hasD_xor]
  have : s.toNat = x.toNat ↔ s = x := by omega
  by_cases e : s = x <;> cases h : hasD S x <;> simp [e, this]
theorem digit_bit0 {s : Int} (hs : 1 ≤ s) : (digit s).testBit 0 = false := by rw [test_digit]; simp; omega
theorem Mated.fst {i : Prob} (hm : Mated i) {x : Int} (h : firstL x i.pairs = true) : 1 ≤ x ∧ 1 ≤ mateL x i.pairs ∧ mateL (mateL x i.pairs) i.pairs = x ∧ mateL x i.pairs ≠ x ∧ firstL (mateL x i.pairs) i.pairs = false := by
  obtain ⟨a, b, c, d, e⟩ := hm.mate (hm.first h)
  exact ⟨e, a, b, c, by rw [d, h]; rfl⟩
theorem Mated.snd {i : Prob} (hm : Mated i) {s : Int} (h : mateL s i.pairs ≠ 0) (h' : firstL s i.pairs = false) : 1 ≤ mateL s i.pairs ∧ mateL (mateL s i.pairs) i.pairs = s ∧ mateL s i.pairs ≠ s ∧ firstL (mateL s i.pairs) i.pairs = true := by
  obtain ⟨a, b, c, d, e⟩ := hm.mate h
  exact ⟨a, b, c, by rw [d, h']; rfl⟩
theorem or_bit0 {A : Nat} {s : Int} (h : A.testBit 0 = false) (hs : 1 ≤ s) : (A ||| digit s).testBit 0 = false := by rw [Nat.testBit_or, h, digit_bit0 hs]; rfl
theorem xor_bit0 {A : Nat} {s : Int} (h : A.testBit 0 = false) (hs : 1 ≤ s) : (A ^^^ digit s).testBit 0 = false := by rw [Nat.testBit_xor, h, digit_bit0 hs]; rfl
/-- what is open behind one stop more -/
theorem step_open {i : Prob} (hm : Mated i) {S : Nat} {s : Int} (hs : 1 ≤ s) (hn : hasD S s = false) (h0 : needH S i.pairs = 0) :
    opnP i (openH S i.pairs) s = if needH (S ||| digit s) i.pairs = 0 then some (openH (S ||| digit s) i.pairs) else none := by
  have hz : ∀ x, firstL x i.pairs = true → hasD S x = false → hasD S (mateL x i.pairs) = false := fun x hx h1 => by
    rw [Bool.eq_false_iff]; intro e; exact not_zero h0 x ((need_iff hm (hm.fst hx).1).2 ⟨hx, h1, e⟩)
  unfold opnP
  by_cases hmz : mateL s i.pairs = 0
  · rw [if_pos hmz]
    have h1 : ∀ x, firstL x i.pairs = true → s ≠ x ∧ s ≠ mateL x i.pairs := fun x hx => by
      obtain ⟨a1, a2, a3, a4, a5⟩ := hm.fst hx
      refine ⟨fun e => ?_, fun e => ?_⟩
      · subst e; omega
      · rw [← e, hmz] at a3; omega
    have hN : needH (S ||| digit s) i.pairs = 0 := zero_of_pos (need_0 hm) fun x hx e => by
      obtain ⟨b1, b2, b3⟩ := (need_iff hm hx).1 e
      rw [hasD_orF hs hx] at b2
      rcases (hasD_or' hs (hm.fst b1).2.1).1 b3 with b3 | b3
      · rw [hz x b1 b2.1] at b3; cases b3
      · exact (h1 x b1).2 b3
    rw [if_pos hN]
    congr 1
    refine nat_ext_pos (by rw [open_0 hm, open_0 hm]) fun x hx => ?_
    rw [open_iff hm hx, open_iff hm hx]
    constructor
    · rintro ⟨b1, b2, b3⟩
      exact ⟨b1, (hasD_or' hs hx).2 (.inl b2), (hasD_orF hs (hm.fst b1).2.1).2 ⟨b3, (h1 x b1).2⟩⟩
    · rintro ⟨b1, b2, b3⟩
      refine ⟨b1, ?_, ((hasD_orF hs (hm.fst b1).2.1).1 b3).1⟩
      rcases (hasD_or' hs hx).1 b2 with b2 | b2
      · exact b2
      · exact absurd b2 (h1 x b1).1
  · rw [if_neg hmz]
    by_cases hfs : firstL s i.pairs = true
    · rw [if_pos hfs]
      obtain ⟨a1, a2, a3, a4, a5⟩ := hm.fst hfs
      have h1 : ∀ x, firstL x i.pairs = true → s ≠ mateL x i.pairs := fun x hx e => by
        have := (hm.fst hx).2.2.2.2
        rw [← e, hfs] at this; cases this
      have hN : needH (S ||| digit s) i.pairs = 0 := zero_of_pos (need_0 hm) fun x hx e => by
        obtain ⟨b1, b2, b3⟩ := (need_iff hm hx).1 e
        rw [hasD_orF hs hx] at b2
        rcases (hasD_or' hs (hm.fst b1).2.1).1 b3 with b3 | b3
        · rw [hz x b1 b2.1] at b3; cases b3
        · exact h1 x b1 b3
      rw [if_pos hN]
      congr 1
      refine nat_ext_pos (by rw [open_0 hm, or_bit0 (open_0 hm) hs]) fun x hx => ?_
      rw [open_iff hm hx, hasD_or' hs hx, open_iff hm hx]
      constructor
      · rintro (⟨b1, b2, b3⟩ | rfl)
        · exact ⟨b1, (hasD_or' hs hx).2 (.inl b2), (hasD_orF hs (hm.fst b1).2.1).2 ⟨b3, h1 x b1⟩⟩
        · exact ⟨hfs, (hasD_or' hs hx).2 (.inr rfl), (hasD_orF hs a2).2 ⟨hz s hfs hn, fun e => a4 e.symm⟩⟩
      · rintro ⟨b1, b2, b3⟩
        rcases (hasD_or' hs hx).1 b2 with b2 | b2
        · exact .inl ⟨b1, b2, ((hasD_orF hs (hm.fst b1).2.1).1 b3).1⟩
        · exact .inr b2
    · have hfs' : firstL s i.pairs = false := by simpa using hfs
      rw [if_neg hfs]
      obtain ⟨a1, a2, a3, a4⟩ := hm.snd hmz hfs'
      have h1 : ∀ x, firstL x i.pairs = true → s ≠ x := fun x hx e => by subst e; rw [hfs'] at hx; cases hx
      have h2 : ∀ x, s = mateL x i.pairs → firstL x i.pairs = true → x = mateL s i.pairs := fun x e hx => by rw [e, (hm.fst hx).2.2.1]
      have h3 : hasD (openH S i.pairs) (mateL s i.pairs) = true ↔ hasD S (mateL s i.pairs) = true := by
        rw [open_iff hm a1, a2]; exact ⟨fun e => e.2.1, fun e => ⟨a4, e, hn⟩⟩
      by_cases hb : hasD S (mateL s i.pairs) = true
      · rw [if_pos (h3.2 hb)]
        have hN : needH (S ||| digit s) i.pairs = 0 := zero_of_pos (need_0 hm) fun x hx e => by
          obtain ⟨b1, b2, b3⟩ := (need_iff hm hx).1 e
          rw [hasD_orF hs hx] at b2
          rcases (hasD_or' hs (hm.fst b1).2.1).1 b3 with b3 | b3
          · rw [hz x b1 b2.1] at b3; cases b3
          · rw [h2 x b3 b1, hb] at b2; cases b2.1
        rw [if_pos hN]
        congr 1
        refine nat_ext_pos (by rw [open_0 hm, xor_bit0 (open_0 hm) a1]) fun x hx => ?_
        rw [open_iff hm hx, hasD_xor' a1 hx, open_iff hm hx]
        by_cases hxm : mateL s i.pairs = x
        · subst hxm
          rw [a2]
          constructor
          · intro e; exact absurd rfl (e.1 ⟨a4, hb, hn⟩)
          · rintro ⟨_, _, b3⟩
            exact absurd rfl ((hasD_orF hs hs).1 b3).2
        · constructor
          · intro e
            obtain ⟨b1, b2, b3⟩ := e.2 hxm
            exact ⟨b1, (hasD_or' hs hx).2 (.inl b2), (hasD_orF hs (hm.fst b1).2.1).2 ⟨b3, fun e => hxm (h2 x e b1).symm⟩⟩
          · rintro ⟨b1, b2, b3⟩
            refine ⟨fun _ => hxm, fun _ => ⟨b1, ?_, ((hasD_orF hs (hm.fst b1).2.1).1 b3).1⟩⟩
            rcases (hasD_or' hs hx).1 b2 with b2 | b2
            · exact b2
            · exact absurd b2 (h1 x b1)
      · have hb' : hasD S (mateL s i.pairs) = false := by simpa using hb
        rw [if_neg (fun e => hb (h3.1 e)), if_neg]
        intro e
        exact not_zero e _ ((need_iff hm a1).2 ⟨a4, (hasD_orF hs a1).2 ⟨hb', fun e => a3 e.symm⟩, by rw [a2]; exact (hasD_or' hs hs).2 (.inr rfl)⟩)
/-- what is needed ahead of one stop more -/
theorem step_need {i : Prob} (hm : Mated i) {S : Nat} {s : Int} (hs : 1 ≤ s) (hn : hasD S s = false) (h0 : openH S i.pairs = 0) :
    needP i (needH S i.pairs) s = if openH (S ||| digit s) i.pairs = 0 then some (needH (S ||| digit s) i.pairs) else none := by
  have hz : ∀ x, firstL x i.pairs = true → hasD S x = true → hasD S (mateL x i.pairs) = true := fun x hx h1 => by
    cases e : hasD S (mateL x i.pairs) with
    | true => rfl
    | false => exact absurd ((open_iff hm (hm.fst hx).1).2 ⟨hx, h1, e⟩) (not_zero h0 x)
  unfold needP
  by_cases hmz : mateL s i.pairs = 0
  · rw [if_pos hmz]
    have h1 : ∀ x, firstL x i.pairs = true → s ≠ x ∧ s ≠ mateL x i.pairs := fun x hx => by
      obtain ⟨a1, a2, a3, a4, a5⟩ := hm.fst hx
      refine ⟨fun e => ?_, fun e => ?_⟩
      · subst e; omega
      · rw [← e, hmz] at a3; omega
    have hN : openH (S ||| digit s) i.pairs = 0 := zero_of_pos (open_0 hm) fun x hx e => by
      obtain ⟨b1, b2, b3⟩ := (open_iff hm hx).1 e
      rw [hasD_orF hs (hm.fst b1).2.1] at b3
      rcases (hasD_or' hs hx).1 b2 with b2 | b2
      · rw [hz x b1 b2] at b3; cases b3.1
      · exact (h1 x b1).1 b2
    rw [if_pos hN]
    congr 1
    refine nat_ext_pos (by rw [need_0 hm, need_0 hm]) fun x hx => ?_
    rw [need_iff hm hx, need_iff hm hx]
    constructor
    · rintro ⟨b1, b2, b3⟩
      exact ⟨b1, (hasD_orF hs hx).2 ⟨b2, (h1 x b1).1⟩, (hasD_or' hs (hm.fst b1).2.1).2 (.inl b3)⟩
    · rintro ⟨b1, b2, b3⟩
      refine ⟨b1, ((hasD_orF hs hx).1 b2).1, ?_⟩
      rcases (hasD_or' hs (hm.fst b1).2.1).1 b3 with b3 | b3
      · exact b3
      · exact absurd b3 (h1 x b1).2
  · rw [if_neg hmz]
    by_cases hfs : firstL s i.pairs = false
    · rw [if_pos hfs]
      obtain ⟨a1, a2, a3, a4⟩ := hm.snd hmz hfs
      have h1 : ∀ x, firstL x i.pairs = true → s ≠ x := fun x hx e => by subst e; rw [hfs] at hx; cases hx
      have hN : openH (S ||| digit s) i.pairs = 0 := zero_of_pos (open_0 hm) fun x hx e => by
        obtain ⟨b1, b2, b3⟩ := (open_iff hm hx).1 e
        rw [hasD_orF hs (hm.fst b1).2.1] at b3
        rcases (hasD_or' hs hx).1 b2 with b2 | b2
        · rw [hz x b1 b2] at b3; cases b3.1
        · exact h1 x b1 b2
      rw [if_pos hN]
      congr 1
      refine nat_ext_pos (by rw [need_0 hm, or_bit0 (need_0 hm) a1]) fun x hx => ?_
      rw [need_iff hm hx, hasD_or' a1 hx, need_iff hm hx]
      constructor
      · rintro (⟨b1, b2, b3⟩ | rfl)
        · exact ⟨b1, (hasD_orF hs hx).2 ⟨b2, h1 x b1⟩, (hasD_or' hs (hm.fst b1).2.1).2 (.inl b3)⟩
        · refine ⟨a4, (hasD_orF hs a1).2 ⟨?_, fun e => a3 e.symm⟩, by rw [a2]; exact (hasD_or' hs hs).2 (.inr rfl)⟩
          rw [Bool.eq_false_iff]; intro e
          have := hz _ a4 e
          rw [a2, hn] at this; cases this
      · rintro ⟨b1, b2, b3⟩
        rcases (hasD_or' hs (hm.fst b1).2.1).1 b3 with b3 | b3
        · exact .inl ⟨b1, ((hasD_orF hs hx).1 b2).1, b3⟩
        · exact .inr (by rw [b3, (hm.fst b1).2.2.1])
    · have hfs' : firstL s i.pairs = true := by simpa using hfs
      rw [if_neg hfs]
      obtain ⟨a1, a2, a3, a4, a5⟩ := hm.fst hfs'
      have h1 : ∀ x, firstL x i.pairs = true → s ≠ mateL x i.pairs := fun x hx e => by
        have := (hm.fst hx).2.2.2.2
        rw [← e, hfs'] at this; cases this
      have h3 : hasD (needH S i.pairs) s = true ↔ hasD S (mateL s i.pairs) = true := by
        rw [need_iff hm hs]; exact ⟨fun e => e.2.2, fun e => ⟨hfs', hn, e⟩⟩
      by_cases hb : hasD S (mateL s i.pairs) = true
      · rw [if_pos (h3.2 hb)]
        have hN : openH (S ||| digit s) i.pairs = 0 := zero_of_pos (open_0 hm) fun x hx e => by
          obtain ⟨b1, b2, b3⟩ := (open_iff hm hx).1 e
          rw [hasD_orF hs (hm.fst b1).2.1] at b3
          rcases (hasD_or' hs hx).1 b2 with b2 | b2
          · rw [hz x b1 b2] at b3; cases b3.1
          · subst b2; rw [hb] at b3; cases b3.1
        rw [if_pos hN]
        congr 1
        refine nat_ext_pos (by rw [need_0 hm, xor_bit0 (need_0 hm) hs]) fun x hx => ?_
        rw [need_iff hm hx, hasD_xor' hs hx, need_iff hm hx]
        by_cases hxm : s = x
        · subst hxm
          constructor
          · intro e; exact absurd rfl (e.1 ⟨hfs', hn, hb⟩)
          · rintro ⟨_, b2, _⟩
            exact absurd rfl ((hasD_orF hs hs).1 b2).2
        · constructor
          · intro e
            obtain ⟨b1, b2, b3⟩ := e.2 hxm
            exact ⟨b1, (hasD_orF hs hx).2 ⟨b2, hxm⟩, (hasD_or' hs (hm.fst b1).2.1).2 (.inl b3)⟩
          · rintro ⟨b1, b2, b3⟩
            refine ⟨fun _ => hxm, fun _ => ⟨b1, ((hasD_orF hs hx).1 b2).1, ?_⟩⟩
            rcases (hasD_or' hs (hm.fst b1).2.1).1 b3 with b3 | b3
            · exact b3
            · exact absurd b3 (h1 x b1)
      · have hb' : hasD S (mateL s i.pairs) = false := by simpa using hb
        rw [if_neg (fun e => hb (h3.1 e)), if_neg]
        intro e
        exact not_zero e _ ((open_iff hm hs).2 ⟨hfs', (hasD_or' hs hs).2 (.inr rfl), (hasD_orF hs a2).2 ⟨hb', fun e => a4 e.symm⟩⟩)
/-- the sum of f over a set's stops, of the first n -/
def sumN (f : Stop → Int) (i : Prob) (S : Nat) : Nat → Int
  | 0 => 0
  | n + 1 => sumN f i S n + if hasD S ((n : Int) + 1) = true then f (stopAt i ((n : Int) + 1)) else 0
theorem sumN_or (f : Stop → Int) (i : Prob) {S : Nat} {s : Int} (hs : 1 ≤ s) (hn : hasD S s = false) : ∀ n : Nat, sumN f i (S ||| digit s) n = sumN f i S n + if s ≤ n then f (stopAt i s) else 0
  | 0 => by
    rw [if_neg (by omega)]; rfl
  | n + 1 => by
    unfold sumN
    rw [sumN_or f i hs hn n]
    by_cases e : s = (n : Int) + 1
    · subst e
      rw [if_pos ((hasD_or' hs hs).2 (.inr rfl)), if_neg (show ¬ hasD S ((n : Int) + 1) = true by rw [hn]; simp), if_neg (show ¬ ((n : Int) + 1 ≤ (n : Int)) by omega), if_pos (show (n : Int) + 1 ≤ ((n + 1 : Nat) : Int) by omega), Int.add_zero]
    · have : hasD (S ||| digit s) ((n : Int) + 1) = hasD S ((n : Int) + 1) := by
        rw [Bool.eq_iff_iff, hasD_or' hs (by omega)]
        exact ⟨fun h => h.elim id (fun h => absurd h e), .inl⟩
      rw [this]
      by_cases h : s ≤ n
      · rw [if_pos h, if_pos (show s ≤ ((n + 1 : Nat) : Int) by omega)]; omega
      · rw [if_neg h, if_neg (show ¬ s ≤ ((n + 1 : Nat) : Int) by omega)]; omega
theorem sumN_zero (f : Stop → Int) (i : Prob) : ∀ n : Nat, sumN f i 0 n = 0
  | 0 => rfl
  | n + 1 => by unfold sumN; rw [sumN_zero f i n, hasD_zero]; rfl
theorem sumN_le {f : Stop → Int} {i : Prob} {S : Nat} {a b : Int} (ha : a ≤ 0) (hb : 0 ≤ b) (hf : ∀ x, a ≤ f (stopAt i x) ∧ f (stopAt i x) ≤ b) : ∀ n : Nat, a * n ≤ sumN f i S n ∧ sumN f i S n ≤ b * n
  | 0 => by simp [sumN]
  | n + 1 => by
    have := sumN_le ha hb hf (S := S) n
    have h := hf ((n : Int) + 1)
    unfold sumN
    rw [Int.natCast_succ, Int.mul_add, Int.mul_add]
    split <;> omega
def mx0 (x : Stop) : Int := max 0 x.d
def mn0 (x : Stop) : Int := min 0 x.d
def srv (x : Stop) : Int := x.s
/-- the landed extend, told plainly -/
def extC (i : Prob) (cap : Int) (h : HeadP) (s : Int) : Option HeadP :=
  if inB s 1 i.stops.length = true ∧ hasD h.set s = false then
    if needH (h.set ||| digit s) i.pairs ≠ 0 ∨ (stopAt i s).c < max (stopAt i s).o (h.leave + way i h.last s) ∨ h.load + (stopAt i s).d < 0 ∨ cap < h.load + (stopAt i s).d then none
    else some ⟨s, max (stopAt i s).o (h.leave + way i h.last s) + (stopAt i s).s, h.load + (stopAt i s).d, openH (h.set ||| digit s) i.pairs, h.set ||| digit s, h.cost + way i h.last s⟩
  else none
def befC (i : Prob) (s : Int) (t : TailP) : Option TailP :=
  if inB s 1 i.stops.length = true ∧ hasD t.set s = false then
    if openH (t.set ||| digit s) i.pairs ≠ 0 ∨ lateP i s t < (stopAt i s).o then none
    else some ⟨s, lateP i s t, min 0 ((stopAt i s).d + t.low), max 0 ((stopAt i s).d + t.high), needH (t.set ||| digit s) i.pairs, t.set ||| digit s, way i s t.first + t.cost⟩
  else none
theorem ext_code {i : Prob} (hm : Mated i) {c : Int} {h : HeadP} (h1 : h.opn = openH h.set i.pairs) (h2 : needH h.set i.pairs = 0) (s : Int) : extC i (carAt i c).c h s = extendP i c h s := by
  unfold extC extendP
  by_cases ha : inB s 1 i.stops.length = true ∧ hasD h.set s = false
  · rw [if_pos ha, h1, step_open hm (inB_iff.1 ha.1).1 ha.2 h2]
    by_cases hE : ExtOk i c h s
    · rw [if_pos hE]
      obtain ⟨_, _, b1, b2, b3⟩ := hE
      unfold beginP at b1 ⊢
      by_cases hN : needH (h.set ||| digit s) i.pairs = 0
      · rw [if_pos hN, if_neg, Option.map_some, Int.max_comm (stopAt i s).o]
        rintro (q | q | q | q)
        · exact q hN
        all_goals omega
      · rw [if_neg hN, if_pos (.inl hN)]; rfl
    · rw [if_neg hE, if_pos]
      by_cases hN : needH (h.set ||| digit s) i.pairs = 0
      · exact .inr (Decidable.byContradiction fun q => hE ⟨ha.1, ha.2, by unfold beginP; omega, by omega, by omega⟩)
      · exact .inl hN
  · rw [if_neg ha, if_neg (fun e => ha ⟨e.1, e.2.1⟩)]
theorem bef_code {i : Prob} (hm : Mated i) {t : TailP} (h1 : t.need = needH t.set i.pairs) (h2 : openH t.set i.pairs = 0) (s : Int) : befC i s t = beforeP i s t := by
  unfold befC beforeP
  by_cases ha : inB s 1 i.stops.length = true ∧ hasD t.set s = false
  · rw [if_pos ha, h1, step_need hm (inB_iff.1 ha.1).1 ha.2 h2]
    by_cases hE : BefOk i s t
    · rw [if_pos hE]
      obtain ⟨_, _, b1⟩ := hE
      by_cases hN : openH (t.set ||| digit s) i.pairs = 0
      · rw [if_pos hN, if_neg, Option.map_some, Int.add_comm (way i s t.first)]
        rintro (q | q)
        · exact q hN
        · omega
      · rw [if_neg hN, if_pos (.inl hN)]; rfl
    · rw [if_neg hE, if_pos]
      by_cases hN : openH (t.set ||| digit s) i.pairs = 0
      · exact .inr (Decidable.byContradiction fun q => hE ⟨ha.1, ha.2, by omega⟩)
      · exact .inl hN
  · rw [if_neg ha, if_neg (fun e => ha ⟨e.1, e.2.1⟩)]
/-- a head of some stops agrees with its set -/
structure HdB (i : Prob) (c : Int) (h : HeadP) : Prop where
  last : inB h.last 1 i.stops.length = true
  has : hasD h.set h.last = true
  fst : firstL h.last i.pairs = true → hasD h.opn h.last = true
  lo : (stopAt i h.last).o + (stopAt i h.last).s ≤ h.leave
  hi : h.leave ≤ (stopAt i h.last).c + (stopAt i h.last).s
structure HdA (i : Prob) (c : Int) (h : HeadP) : Prop where
  opn : h.opn = openH h.set i.pairs
  need : needH h.set i.pairs = 0
  bit0 : h.set.testBit 0 = false
  top : ∀ x : Int, 1 ≤ x → hasD h.set x = true → x ≤ i.stops.length
  load : h.load = sumN mx0 i h.set i.stops.length + sumN mn0 i h.set i.stops.length
  cap : 0 ≤ h.load ∧ h.load ≤ (carAt i c).c
  cost : 0 ≤ h.cost ∧ h.cost ≤ h.leave - (carAt i c).s - sumN srv i h.set i.stops.length
  rest : h = beginH i c ∨ HdB i c h
structure TlB (i : Prob) (t : TailP) : Prop where
  first : inB t.first 1 i.stops.length = true
  has : hasD t.set t.first = true
  snd : mateL t.first i.pairs ≠ 0 → firstL t.first i.pairs = false → hasD t.need (mateL t.first i.pairs) = true
  lo : (stopAt i t.first).o ≤ t.late
  hi : t.late ≤ (stopAt i t.first).c
structure TlA (i : Prob) (c : Int) (t : TailP) : Prop where
  need : t.need = needH t.set i.pairs
  opn : openH t.set i.pairs = 0
  bit0 : t.set.testBit 0 = false
  top : ∀ x : Int, 1 ≤ x → hasD t.set x = true → x ≤ i.stops.length
  low : sumN mn0 i t.set i.stops.length ≤ t.low ∧ t.low ≤ min 0 (sumN mx0 i t.set i.stops.length + sumN mn0 i t.set i.stops.length)
  high : max 0 (sumN mx0 i t.set i.stops.length + sumN mn0 i t.set i.stops.length) ≤ t.high ∧ t.high ≤ sumN mx0 i t.set i.stops.length
  cost : 0 ≤ t.cost ∧ t.cost ≤ (carAt i c).e - t.late - sumN srv i t.set i.stops.length
  rest : t = endT i c ∨ TlB i t
theorem halves_none {i : Prob} (hm : Mated i) : openH 0 i.pairs = 0 ∧ needH 0 i.pairs = 0 :=
  ⟨zero_of_pos (open_0 hm) (fun x hx e => absurd ((open_iff hm hx).1 e).2.1 (by rw [hasD_zero]; simp)),
   zero_of_pos (need_0 hm) (fun x hx e => absurd ((need_iff hm hx).1 e).2.2 (by rw [hasD_zero]; simp))⟩
theorem begin_agrees {i : Prob} (hm : Mated i) {c : Int} (hc : 0 ≤ (carAt i c).c) : HdA i c (beginH i c) := by
  have h1 := halves_none hm
  refine ⟨h1.1.symm, h1.2, Nat.zero_testBit _, fun x _ h => ?_, ?_, ⟨Int.le_refl _, hc⟩, ⟨Int.le_refl _, ?_⟩, .inl rfl⟩
  · simp only [beginH, hasD_zero] at h; cases h
  · simp only [beginH, sumN_zero]; rfl
  · simp only [beginH, sumN_zero]; omega
theorem end_agrees {i : Prob} (hm : Mated i) {c : Int} : TlA i c (endT i c) := by
  have h1 := halves_none hm
  refine ⟨h1.2.symm, h1.1, Nat.zero_testBit _, fun x _ h => ?_, ?_, ?_, ⟨Int.le_refl _, ?_⟩, .inl rfl⟩
  · simp only [endT, hasD_zero] at h; cases h
  · simp only [endT, sumN_zero]; omega
  · simp only [endT, sumN_zero]; omega
  · simp only [endT, sumN_zero]; omega
theorem ext_agrees {i : Prob} (hm : Mated i) (hf : Fine i) {c : Int} {h g : HeadP} {s : Int} (H : HdA i c h) (hg : extendP i c h s = some g) : HdA i c g := by
  have hx := hg
  rw [← ext_code hm H.opn H.need s] at hx
  obtain ⟨⟨a1, a2, a3, a4, a5⟩, o, ho, rfl⟩ := ext_some.1 hg
  have h1 := inB_iff.1 a1
  have hw := way_bounds hf h.last s
  have hN : needH (h.set ||| digit s) i.pairs = 0 := by
    unfold extC at hx
    rw [if_pos ⟨a1, a2⟩] at hx
    split at hx
    · cases hx
    · next e => exact Decidable.byContradiction fun q => e (.inl q)
  have hO : o = openH (h.set ||| digit s) i.pairs := by
    rw [H.opn, step_open hm h1.1 a2 H.need, if_pos hN] at ho
    injection ho with ho; exact ho.symm
  have e1 := sumN_or mx0 i h1.1 a2 i.stops.length
  have e2 := sumN_or mn0 i h1.1 a2 i.stops.length
  have e3 := sumN_or srv i h1.1 a2 i.stops.length
  rw [if_pos h1.2, show mx0 (stopAt i s) = max 0 (stopAt i s).d from rfl] at e1
  rw [if_pos h1.2, show mn0 (stopAt i s) = min 0 (stopAt i s).d from rfl] at e2
  rw [if_pos h1.2, show srv (stopAt i s) = (stopAt i s).s from rfl] at e3
  have hl := H.load
  have hco := H.cost
  unfold beginP at a3
  refine ⟨hO, hN, or_bit0 H.bit0 h1.1, fun x hx h => ?_, ?_, ⟨a4, a5⟩, ⟨?_, ?_⟩, .inr ⟨a1, (hasD_or' h1.1 h1.1).2 (.inr rfl), fun hfs => ?_, ?_, ?_⟩⟩
  · rcases (hasD_or' h1.1 hx).1 h with h | h
    · exact H.top x hx h
    · rw [← h]; exact h1.2
  · simp only; rw [e1, e2]; omega
  · simp only; omega
  · simp only [beginP]; rw [e3]; omega
  · simp only at hfs ⊢
    unfold opnP at ho
    rw [if_neg (hm.first hfs), if_pos hfs] at ho
    injection ho with ho
    rw [← ho, hasD_or]; simp
  · simp only [beginP]; omega
  · simp only [beginP]; omega
theorem bef_agrees {i : Prob} (hm : Mated i) (hf : Fine i) {c : Int} {t g : TailP} {s : Int} (H : TlA i c t) (hg : beforeP i s t = some g) : TlA i c g := by
  have hx := hg
  rw [← bef_code hm H.need H.opn s] at hx
  obtain ⟨⟨a1, a2, a3⟩, n, hn, rfl⟩ := bef_some.1 hg
  have h1 := inB_iff.1 a1
  have hw := way_bounds hf s t.first
  have hN : openH (t.set ||| digit s) i.pairs = 0 := by
    unfold befC at hx
    rw [if_pos ⟨a1, a2⟩] at hx
    split at hx
    · cases hx
    · next e => exact Decidable.byContradiction fun q => e (.inl q)
  have hO : n = needH (t.set ||| digit s) i.pairs := by
    rw [H.need, step_need hm h1.1 a2 H.opn, if_pos hN] at hn
    injection hn with hn; exact hn.symm
  have e1 := sumN_or mx0 i h1.1 a2 i.stops.length
  have e2 := sumN_or mn0 i h1.1 a2 i.stops.length
  have e3 := sumN_or srv i h1.1 a2 i.stops.length
  rw [if_pos h1.2, show mx0 (stopAt i s) = max 0 (stopAt i s).d from rfl] at e1
  rw [if_pos h1.2, show mn0 (stopAt i s) = min 0 (stopAt i s).d from rfl] at e2
  rw [if_pos h1.2, show srv (stopAt i s) = (stopAt i s).s from rfl] at e3
  have hl := H.low
  have hh := H.high
  have hco := H.cost
  unfold lateP at a3
  refine ⟨hO, hN, or_bit0 H.bit0 h1.1, fun x hx h => ?_, ?_, ?_, ⟨?_, ?_⟩, .inr ⟨a1, (hasD_or' h1.1 h1.1).2 (.inr rfl), fun hm0 hfs => ?_, ?_, ?_⟩⟩
  · rcases (hasD_or' h1.1 hx).1 h with h | h
    · exact H.top x hx h
    · rw [← h]; exact h1.2
  · simp only; rw [e1, e2]; omega
  · simp only; rw [e1, e2]; omega
  · simp only; omega
  · simp only [lateP]; rw [e3]; omega
  · simp only at hfs hm0 ⊢
    unfold needP at hn
    rw [if_neg hm0, if_pos hfs] at hn
    injection hn with hn
    rw [← hn, hasD_or]; simp
  · simp only [lateP]; omega
  · simp only [lateP]; omega
theorem head_agrees {i : Prob} (hm : Mated i) (hf : Fine i) {c : Int} : ∀ {l : List Int} {h : HeadP}, headL i c l = some h → HdA i c h := by
  have key : ∀ (l : List Int) (o : Option HeadP) (h : HeadP), (∀ g, o = some g → HdA i c g) → headFrom i c o l = some h → HdA i c h := by
    intro l
    induction l with
    | nil => intro o h ho hl; exact ho h hl
    | cons s l ih =>
      intro o h ho hl
      refine ih (o.bind fun h => extendP i c h s) h (fun g hg => ?_) hl
      obtain ⟨g', h1, h2⟩ := Option.bind_eq_some_iff.1 hg
      exact ext_agrees hm hf (ho g' h1) h2
  intro l h hl
  refine key l _ h (fun g hg => ?_) hl
  injection hg with hg; subst hg
  exact begin_agrees hm (carAt_bounds hf c).1
theorem tail_agrees {i : Prob} (hm : Mated i) (hf : Fine i) {c : Int} : ∀ {l : List Int} {t : TailP}, tailL i c l = some t → TlA i c t
  | [], t, h => by injection h with h; subst h; exact end_agrees hm
  | s :: l, t, h => by
    obtain ⟨g, h1, h2⟩ := Option.bind_eq_some_iff.1 (show (tailL i c l).bind (fun t => beforeP i s t) = some t from h)
    exact bef_agrees hm hf (tail_agrees hm hf h1) h2
theorem head_zero {i : Prob} {c : Int} {h : HeadP} (H : HdA i c h) : (h.set = 0 ∧ h = beginH i c) ∨ (h.set ≠ 0 ∧ HdB i c h) := by
  rcases H.rest with rfl | B
  · exact .inl ⟨rfl, rfl⟩
  · exact .inr ⟨fun e => not_zero e _ B.has, B⟩
theorem tail_zero {i : Prob} {c : Int} {t : TailP} (H : TlA i c t) : (t.set = 0 ∧ t = endT i c) ∨ (t.set ≠ 0 ∧ TlB i t) := by
  rcases H.rest with rfl | B
  · exact .inl ⟨rfl, rfl⟩
  · exact .inr ⟨fun e => not_zero e _ B.has, B⟩
theorem mated_of {i : Prob} (h : probOk i = true) : Mated i := ⟨(pairs_of h).1, (pairs_of h).2⟩
end Go.Proofs.Ytgkieelacjcopaa
namespace Go.Proofs.Ytgkieelacjcopaa
open Go.RowKit

/-- the same stops and ways but for closings -/
structure Alike (i j : Prob) : Prop where
  travel : j.travel = i.travel
  stops : j.stops.length = i.stops.length
  at_ : ∀ x, (stopAt j x).d = (stopAt i x).d ∧ (stopAt j x).o = (stopAt i x).o ∧ (stopAt j x).s = (stopAt i x).s
theorem Alike.way {i j : Prob} (h : Alike i j) (a b : Int) : way j a b = way i a b := by unfold Proofs.Ytgkieelacjcopaa.way; rw [h.travel]
theorem Alike.begun {i j : Prob} (h : Alike i j) (a b c : Int) : begun j a b c = begun i a b c := by unfold Proofs.Ytgkieelacjcopaa.begun; rw [h.way, (h.at_ c).2.1]
theorem Alike.there {i j : Prob} (h : Alike i j) (l : List Int) : thereB j l = thereB i l := by unfold thereB; rw [h.stops]
theorem Alike.cost {i j : Prob} (h : Alike i j) : ∀ (l : List Int) (a : Int), costL j a l = costL i a l
  | [], a => h.way a 0
  | s :: l, a => by show Proofs.Ytgkieelacjcopaa.way j a s + costL j s l = _; rw [h.way, h.cost l s]; rfl
theorem drive_roomy {i j : Prob} {ci cj : Car} (h : Alike i j) (hc : ∀ x, (stopAt i x).c ≤ (stopAt j x).c) (h1 : ci.c ≤ cj.c) (h2 : ci.e ≤ cj.e) : ∀ {l : List Int} {last left ld : Int} {d : Drive}, driveL i ci last left ld l = some d → driveL j cj last left ld l = some d
  | [], last, left, ld, d, hd => by
    unfold driveL at hd ⊢
    rw [h.way]
    split at hd
    · cases hd
    · next hn => rw [if_neg (by omega)]; exact hd
  | s :: l, last, left, ld, d, hd => by
    unfold driveL at hd ⊢
    rw [h.begun, (h.at_ s).1, (h.at_ s).2.2]
    split at hd
    · cases hd
    · next hn =>
      have h3 := hc s
      rw [if_neg (by omega)]
      rw [Option.map_eq_some_iff] at hd ⊢
      obtain ⟨a, h4, h5⟩ := hd
      exact ⟨a, drive_roomy h hc h1 h2 h4, h5⟩
theorem drive_take {i j : Prob} {ci cj : Car} (h : Alike i j) : ∀ {l : List Int} {last left ld : Int} {k : Nat} {d v : Drive}, driveL i ci last left ld l = some d → driveL j cj last left ld (l.take k) = some v → v.arr = d.arr.take k ∧ v.load = d.load.take k
  | l, last, left, ld, 0, d, v, _, hv => by
    rw [List.take_zero] at hv
    unfold driveL at hv
    split at hv
    · cases hv
    · cases hv; exact ⟨rfl, rfl⟩
  | [], last, left, ld, k + 1, d, v, hd, hv => by
    rw [List.take_nil] at hv
    unfold driveL at hd hv
    split at hv
    · cases hv
    · split at hd
      · cases hd
      · cases hv; cases hd; exact ⟨rfl, rfl⟩
  | s :: l, last, left, ld, k + 1, d, v, hd, hv => by
    rw [List.take_succ_cons] at hv
    unfold driveL at hd hv
    rw [h.begun, (h.at_ s).1, (h.at_ s).2.2] at hv
    split at hv
    · cases hv
    · split at hd
      · cases hd
      · rw [Option.map_eq_some_iff] at hd hv
        obtain ⟨a, h4, rfl⟩ := hd
        obtain ⟨b, h5, rfl⟩ := hv
        obtain ⟨e1, e2⟩ := drive_take h h4 h5
        simp only [Drive.more, List.cons_append, List.nil_append, List.take_succ_cons, e1, e2]
        exact ⟨trivial, trivial⟩
theorem eval_roomy {i j : Prob} {c : Int} (h : Alike i j) (hl : j.cars.length = i.cars.length) (hp : i.pairs = []) (hq : j.pairs = []) (hc : ∀ x, (stopAt i x).c ≤ (stopAt j x).c) (h1 : (carAt i c).c ≤ (carAt j c).c) (h2 : (carAt i c).e ≤ (carAt j c).e) (h3 : (carAt j c).s = (carAt i c).s) {l : List Int} {t : TripR}
    (ht : evalL i c l = some t) : evalL j c l = some t := by
  unfold evalL at ht ⊢
  rw [hl, h.there, hq, ← hp, h.cost, h3]
  split at ht
  · next hcond =>
    rw [if_pos hcond]
    rw [Option.map_eq_some_iff] at ht ⊢
    obtain ⟨d, h4, h5⟩ := ht
    exact ⟨d, drive_roomy h hc h1 h2 h4, h5⟩
  · cases ht
theorem eval_take {i j : Prob} {c : Int} (h : Alike i j) (h3 : (carAt j c).s = (carAt i c).s) {l : List Int} {k : Nat} {t v : TripR} (ht : evalL i c l = some t) (hv : evalL j c (l.take k) = some v) : v.arr = t.arr.take k ∧ v.load = t.load.take k := by
  unfold evalL at ht hv
  rw [h3] at hv
  split at ht
  · split at hv
    · rw [Option.map_eq_some_iff] at ht hv
      obtain ⟨d, h4, rfl⟩ := ht
      obtain ⟨e, h5, rfl⟩ := hv
      exact drive_take h h4 h5
    · cases hv
  · cases ht
theorem eval_len {i : Prob} {c : Int} {l : List Int} {t : TripR} (ht : evalL i c l = some t) : t.arr.length = l.length ∧ t.load.length = l.length := by
  unfold evalL at ht
  split at ht
  · rw [Option.map_eq_some_iff] at ht
    obtain ⟨d, h4, rfl⟩ := ht
    exact drive_len h4
  · cases ht

def setCap (cs : List Car) (k : Nat) (u : Int) : List Car := cs.modify k fun x => { x with c := u }
def setEnd (cs : List Car) (k : Nat) (u : Int) : List Car := cs.modify k fun x => { x with e := u }
def setClose (st : List Stop) (k : Nat) (u : Int) : List Stop := st.modify k fun x => { x with c := u }
theorem carCells_len (st : List Car) : (carCells st).length = st.length * 3 := by
  induction st with
  | nil => rfl
  | cons x l ih => simp only [carCells, List.flatMap_cons, List.length_append, List.length_cons] at ih ⊢; rw [ih]; simp [ints, carNums]; omega
theorem carCells_cap : ∀ (st : List Car) (k : Nat) (d : Int), k < st.length → carCells (setCap st k d) = (carCells st).set (k * 3) (.int .i64 d)
  | x :: l, 0, d, _ => by simp [carCells, setCap, ints, carNums]
  | x :: l, k + 1, d, h => by
    have := carCells_cap l k d (by simpa using h)
    simp only [carCells, setCap, List.modify_succ_cons, List.flatMap_cons] at this ⊢
    rw [this, List.set_append, if_neg (by simp [ints, carNums]; omega)]
    congr 2
    simp [ints, carNums]; omega
theorem carCells_end : ∀ (st : List Car) (k : Nat) (d : Int), k < st.length → carCells (setEnd st k d) = (carCells st).set (k * 3 + 2) (.int .i64 d)
  | x :: l, 0, d, _ => by simp [carCells, setEnd, ints, carNums]
  | x :: l, k + 1, d, h => by
    have := carCells_end l k d (by simpa using h)
    simp only [carCells, setEnd, List.modify_succ_cons, List.flatMap_cons] at this ⊢
    rw [this, List.set_append, if_neg (by simp [ints, carNums]; omega)]
    congr 2
    simp [ints, carNums]; omega
theorem stopCells_close : ∀ (st : List Stop) (k : Nat) (d : Int), k < st.length → stopCells (setClose st k d) = (stopCells st).set (k * 4 + 2) (.int .i64 d)
  | x :: l, 0, d, _ => by simp [stopCells, setClose, ints, stopNums]
  | x :: l, k + 1, d, h => by
    have := stopCells_close l k d (by simpa using h)
    simp only [stopCells, setClose, List.modify_succ_cons, List.flatMap_cons] at this ⊢
    rw [this, List.set_append, if_neg (by simp [ints, stopNums]; omega)]
    congr 2
    simp [ints, stopNums]; omega
theorem carCells_at : ∀ (st : List Car) (k : Nat) (h : k < st.length), (carCells st)[k * 3]? = some (.int .i64 st[k].c) ∧ (carCells st)[k * 3 + 2]? = some (.int .i64 st[k].e)
  | x :: l, 0, _ => by simp [carCells, ints, carNums]
  | x :: l, k + 1, h => by
    have := carCells_at l k (by simpa using h)
    simp only [carCells, List.flatMap_cons, List.getElem_cons_succ] at this ⊢
    rw [List.getElem?_append_right (by simp [ints, carNums]; omega), List.getElem?_append_right (by simp [ints, carNums]; omega)]
    rw [show (k + 1) * 3 - (ints (carNums x)).length = k * 3 by simp [ints, carNums]; omega, show (k + 1) * 3 + 2 - (ints (carNums x)).length = k * 3 + 2 by simp [ints, carNums]; omega]
    exact this
theorem stopCells_at : ∀ (st : List Stop) (k : Nat) (h : k < st.length), (stopCells st)[k * 4 + 2]? = some (.int .i64 st[k].c)
  | x :: l, 0, _ => by simp [stopCells, ints, stopNums]
  | x :: l, k + 1, h => by
    have := stopCells_at l k (by simpa using h)
    simp only [stopCells, List.flatMap_cons, List.getElem_cons_succ] at this ⊢
    rw [List.getElem?_append_right (by simp [ints, stopNums]; omega)]
    rw [show (k + 1) * 4 + 2 - (ints (stopNums x)).length = k * 4 + 2 by simp [ints, stopNums]; omega]
    exact this
/-- cars with more room, later ends -/
def Wider (cs cs' : List Car) : Prop := cs'.length = cs.length ∧ ∀ k (h : k < cs.length) (h' : k < cs'.length), cs[k].c ≤ cs'[k].c ∧ cs'[k].c ≤ 60 ∧ cs'[k].s = cs[k].s ∧ cs[k].e ≤ cs'[k].e ∧ cs'[k].e ≤ 1000
def Later (st st' : List Stop) : Prop := st'.length = st.length ∧ ∀ k (h : k < st.length) (h' : k < st'.length), st'[k].d = st[k].d ∧ st'[k].o = st[k].o ∧ st'[k].s = st[k].s ∧ st[k].c ≤ st'[k].c ∧ st'[k].c ≤ 1000
theorem wider_refl {i : Prob} (h : Fine i) : Wider i.cars i.cars := ⟨rfl, fun k h1 _ => by have := h.carF _ (List.getElem_mem h1); omega⟩
theorem later_refl {i : Prob} (h : Fine i) : Later i.stops i.stops := ⟨rfl, fun k h1 _ => by have := h.stopF _ (List.getElem_mem h1); omega⟩
theorem Wider.cap {cs cs' : List Car} (h : Wider cs cs') {k : Nat} (hk : k < cs'.length) {u : Int} (h1 : cs'[k].c ≤ u) (h2 : u ≤ 60) : Wider cs (setCap cs' k u) := by
  refine ⟨by simp [setCap, h.1], fun m hm hm' => ?_⟩
  have h3 := h.2 m hm (by simpa [setCap] using hm')
  simp only [setCap, List.getElem_modify]
  split
  · next e => subst e; simp only; omega
  · exact h3
theorem Wider.end_ {cs cs' : List Car} (h : Wider cs cs') {k : Nat} (hk : k < cs'.length) {u : Int} (h1 : cs'[k].e ≤ u) (h2 : u ≤ 1000) : Wider cs (setEnd cs' k u) := by
  refine ⟨by simp [setEnd, h.1], fun m hm hm' => ?_⟩
  have h3 := h.2 m hm (by simpa [setEnd] using hm')
  simp only [setEnd, List.getElem_modify]
  split
  · next e => subst e; simp only; omega
  · exact h3
theorem Later.close {st st' : List Stop} (h : Later st st') {k : Nat} (hk : k < st'.length) {u : Int} (h1 : st'[k].c ≤ u) (h2 : u ≤ 1000) : Later st (setClose st' k u) := by
  refine ⟨by simp [setClose, h.1], fun m hm hm' => ?_⟩
  have h3 := h.2 m hm (by simpa [setClose] using hm')
  simp only [setClose, List.getElem_modify]
  split
  · next e => subst e; simp only; omega
  · exact h3
theorem alike_of {i : Prob} {cs : List Car} {st : List Stop} (h : Later i.stops st) : Alike { i with pairs := [] } ⟨cs, st, [], i.travel⟩ ∧ ∀ x, (stopAt { i with pairs := [] } x).c ≤ (stopAt ⟨cs, st, [], i.travel⟩ x).c := by
  have key : ∀ x, (stopAt ⟨cs, st, [], i.travel⟩ x).d = (stopAt { i with pairs := [] } x).d ∧ (stopAt ⟨cs, st, [], i.travel⟩ x).o = (stopAt { i with pairs := [] } x).o ∧ (stopAt ⟨cs, st, [], i.travel⟩ x).s = (stopAt { i with pairs := [] } x).s ∧ (stopAt { i with pairs := [] } x).c ≤ (stopAt ⟨cs, st, [], i.travel⟩ x).c := by
    intro x
    unfold stopAt
    simp only
    by_cases hx : (x - 1).toNat < i.stops.length
    · have h1 := h.2 _ hx (by rw [h.1]; exact hx)
      rw [List.getElem?_eq_getElem hx, List.getElem?_eq_getElem (by rw [h.1]; exact hx)]
      simp only [Option.getD_some]
      omega
    · have hl := h.1
      rw [List.getElem?_eq_none (by omega), List.getElem?_eq_none (by omega)]
      simp
  exact ⟨⟨rfl, h.1, fun x => ⟨(key x).1, (key x).2.1, (key x).2.2.1⟩⟩, fun x => (key x).2.2.2⟩
theorem roomy_ok {i : Prob} (hok : probOk i = true) (hs : i.stops.length ≤ 8) {cs : List Car} {st : List Stop} (hc : Wider i.cars cs) (h : Later i.stops st) : probOk ⟨cs, st, [], i.travel⟩ = true := by
  have hf := fine_of hok
  have h1 := hc.1
  have h2 := h.1
  have h3 := hf.cars
  have htr : rowsFrom (i.stops.length + 1) 0 i.travel = true := by
    simp only [probOk, travelOk, Bool.and_eq_true] at hok; exact hok.2.2
  refine probOk_made (by omega) (by omega) ?_ (by omega) ?_ rfl (by rw [h2]; exact hf.travel) (by rw [h2]; exact htr)
  · rw [List.all_eq_true]
    intro x hx
    obtain ⟨k, hk, rfl⟩ := List.getElem_of_mem hx
    have a := hc.2 k (by omega) hk
    have b := hf.carF _ (List.getElem_mem (show k < i.cars.length by omega))
    simp only [carOk, inB, Bool.and_eq_true, decide_eq_true_eq]
    omega
  · rw [List.all_eq_true]
    intro x hx
    obtain ⟨k, hk, rfl⟩ := List.getElem_of_mem hx
    have a := h.2 k (by omega) hk
    have b := hf.stopF _ (List.getElem_mem (show k < i.stops.length by omega))
    simp only [stopOk, inB, Bool.and_eq_true, decide_eq_true_eq]
    omega
theorem no_pairs_ok {i : Prob} (hok : probOk i = true) (hs : i.stops.length ≤ 8) : probOk { i with pairs := [] } = true := roomy_ok hok hs (wider_refl (fine_of hok)) (later_refl (fine_of hok))
theorem roomy_eval {i : Prob} {cs : List Car} {st : List Stop} (hc : Wider i.cars cs) (h : Later i.stops st) {c : Nat} (hcl : c < i.cars.length) {l : List Int} {t : TripR} (ht : evalL { i with pairs := [] } c l = some t) : evalL ⟨cs, st, [], i.travel⟩ c l = some t := by
  have ha := alike_of (cs := cs) h
  have h1 := hc.2 c hcl (by rw [hc.1]; exact hcl)
  have e1 : carAt { i with pairs := [] } (c : Int) = i.cars[c] := carAt_nat { i with pairs := [] } hcl
  have e2 : carAt ⟨cs, st, [], i.travel⟩ (c : Int) = cs[c]'(by rw [hc.1]; exact hcl) := carAt_nat ⟨cs, st, [], i.travel⟩ (by simp only; rw [hc.1]; exact hcl)
  refine eval_roomy ha.1 hc.1 rfl rfl ha.2 ?_ ?_ ?_ ht
  · rw [e1, e2]; omega
  · rw [e1, e2]; omega
  · rw [e1, e2]; exact h1.2.2.1
theorem begin_eval {i : Prob} {cs : List Car} {st : List Stop} (hc : Wider i.cars cs) (h : Later i.stops st) {c : Nat} (hcl : c < i.cars.length) {l : List Int} {k : Nat} {t v : TripR} (ht : evalL { i with pairs := [] } c l = some t) (hv : evalL ⟨cs, st, [], i.travel⟩ c (l.take k) = some v) : v.arr = t.arr.take k ∧ v.load = t.load.take k := by
  have ha := alike_of (cs := cs) h
  have h1 := hc.2 c hcl (by rw [hc.1]; exact hcl)
  have e1 : carAt { i with pairs := [] } (c : Int) = i.cars[c] := carAt_nat { i with pairs := [] } hcl
  have e2 : carAt ⟨cs, st, [], i.travel⟩ (c : Int) = cs[c]'(by rw [hc.1]; exact hcl) := carAt_nat ⟨cs, st, [], i.travel⟩ (by simp only; rw [hc.1]; exact hcl)
  exact eval_take ha.1 (by rw [e1, e2]; exact h1.2.2.1) ht hv

theorem Held.set_cars {W : World} {B I : Nat} {i : Prob} {vs vp vt : Value} {us : List Value} {g n cap : Nat} (h : Held W B I i (.slice (some ⟨g, 0, none⟩) n cap) vs vp vt us) (hn : n = i.cars.length) {j : Nat} {u : Value} {cs : List Car} (hl : cs.length = i.cars.length) (hc : carCells cs = (carCells i.cars).set j u) :
    Held (W.setCell ⟨g, j, none⟩ u) B I { i with cars := cs } (.slice (some ⟨g, 0, none⟩) n cap) vs vp vt us := by
  subst hn
  have hg := own_typed h.cars (g := g) rfl
  have hI := h.typedI
  have hne : g ≠ I := typed_ne hg.1 hI (by decide)
  have hs := grown_set W g j u
  have hrow : ∀ e, e ≠ 58 → ∀ q, some g = some q → ∃ t, Typed W q t ∧ t ≠ e := fun e he q hq => by
    injection hq with hq; subst hq; exact ⟨58, hg.1, he.symm⟩
  refine ⟨h.lt, by rw [Below.heap_setCell _ _ _ _ (by simpa using fun e => hne e.symm)]; exact h.box, ?_, own_keep h.stops hs (hrow _ (by decide)), own_keep h.pairs hs (hrow _ (by decide)), own_keep h.travel hs (hrow _ (by decide)), fun j hj => ?_⟩
  · have := own_set h.cars (g := g) (j := j) rfl u
    rw [← hc] at this
    simpa [hl] using this
  · obtain ⟨u, h1, h2⟩ := h.rows j hj
    exact ⟨u, h1, h2.grown hs (hrow _ (by decide))⟩
theorem Held.set_stops {W : World} {B I : Nat} {i : Prob} {vc vp vt : Value} {us : List Value} {g n cap : Nat} (h : Held W B I i vc (.slice (some ⟨g, 0, none⟩) n cap) vp vt us) (hn : n = i.stops.length) {j : Nat} {u : Value} {st : List Stop} (hl : st.length = i.stops.length) (hc : stopCells st = (stopCells i.stops).set j u) :
    Held (W.setCell ⟨g, j, none⟩ u) B I { i with stops := st } vc (.slice (some ⟨g, 0, none⟩) n cap) vp vt us := by
  subst hn
  have hg := own_typed h.stops (g := g) rfl
  have hI := h.typedI
  have hne : g ≠ I := typed_ne hg.1 hI (by decide)
  have hs := grown_set W g j u
  have hrow : ∀ e, e ≠ 55 → ∀ q, some g = some q → ∃ t, Typed W q t ∧ t ≠ e := fun e he q hq => by
    injection hq with hq; subst hq; exact ⟨55, hg.1, he.symm⟩
  refine ⟨h.lt, by rw [Below.heap_setCell _ _ _ _ (by simpa using fun e => hne e.symm)]; exact h.box, own_keep h.cars hs (hrow _ (by decide)), ?_, own_keep h.pairs hs (hrow _ (by decide)), own_keep h.travel hs (hrow _ (by decide)), fun j hj => ?_⟩
  · have := own_set h.stops (g := g) (j := j) rfl u
    rw [← hc] at this
    simpa [hl] using this
  · obtain ⟨u, h1, h2⟩ := h.rows j hj
    exact ⟨u, h1, h2.grown hs (hrow _ (by decide))⟩
theorem Lies.no_pairs {W : World} {vc vs vp vt : Value} {i : Prob} (h : Lies W (.agg #[vc, vs, vp, vt]) i) : Lies W (.agg #[vc, vs, .slice none 0 0, vt]) { i with pairs := [] } := by
  obtain ⟨a, b, c, d, e, h1, h2, _, h4⟩ := h
  injection e with e
  injection e with e
  injection e with e1 e
  injection e with e2 e
  injection e with e3 e
  injection e with e4 _
  subst e1 e2 e3 e4
  exact ⟨_, _, _, _, rfl, h1, h2, Recs.nil, h4⟩
theorem TripV.some_ {W : World} {C : Nat} {t : Option TripR} {A1 A2 : Option Addr} {n1 c1 n2 c2 : Nat} {c h : Int} {ok : Bool} (H : TripV W C t A1 n1 c1 A2 n2 c2 c h ok) {r : TripR} (ht : t = some r) : ok = true ∧ n1 = r.arr.length ∧ n2 = r.load.length ∧ c = r.cost ∧ h = r.home ∧ Recs W 1 num_ (.slice A1 r.arr.length c1) r.arr ∧ Recs W 1 num_ (.slice A2 r.load.length c2) r.load := by
  cases ok
  · have := (H.no rfl).1
    rw [ht] at this; cases this
  · obtain ⟨r', h1, h2, h3, h4, h5, _, _, h8, h9⟩ := H.yes rfl
    rw [ht] at h1; cases h1
    exact ⟨rfl, h2, h3, h4, h5, h8, h9⟩
theorem Recs.begin {W : World} {A : Option Addr} {cap : Nat} {l : List Int} (h : Recs W 1 num_ (.slice A l.length cap) l) {k : Nat} (hk : k ≤ l.length) (cap' : Nat) : Recs W 1 num_ (.slice A k cap') (l.take k) := by
  obtain ⟨A', c', e, hc⟩ := h
  injection e with e1 _ e3
  subst e1 e3
  refine ⟨A, cap', by simp [Nat.min_eq_left hk], fun m hm => ?_⟩
  have hm' : m < l.length := by simp at hm; omega
  obtain ⟨B, o, h1, h2, h3⟩ := hc m hm'
  exact ⟨B, o, h1, h2, fun j hj => by rw [List.getElem_take]; exact h3 j hj⟩
end Go.Proofs.Ytgkieelacjcopaa
namespace Go.Proofs.Ytgkieelacjcopaa
open Go.RowKit

theorem Blk.cell {W : World} {B : Nat} {l : List Value} (h : Blk W B l) {j : Nat} {u : Value} (hu : l[j]? = some u) : W.cell? ⟨B, j, none⟩ = some u := by
  obtain ⟨h1, rfl⟩ := List.getElem?_eq_some_iff.1 hu
  exact (h.2 j h1).1
theorem box4' {W : World} {Q : Nat} {a b c d : Value} (h : Blk W Q [a, b, c, d]) (a' b' c' d' : Value) : Blk ((((W.setCell ⟨Q, 0, none⟩ a').setCell ⟨Q, 1, none⟩ b').setCell ⟨Q, 2, none⟩ c').setCell ⟨Q, 3, none⟩ d') Q [a', b', c', d'] :=
  (((h.set (k := 0) (by simp) a').set (k := 1) (by simp) b').set (k := 2) (by simp) c').set (k := 3) (by simp) d'
def PlayIs (i : Prob) (w : World) (e : Ending) (w' : World) : Prop := ∃ vc vs vp vt us I, e = .returned (.agg #[vc, vs, vp, vt]) ∧ Held w' w.heap.size I i vc vs vp vt us ∧ probOk i = true ∧ 2 ≤ i.stops.length ∧ i.stops.length ≤ 8 ∧ i.pairs.length ≤ 2 ∧ Below w.heap.size w w'
theorem play_is (v : Value) (l : List Int) (w : World) (h : Recs w 1 num_ v l) (hl : l.length ≤ 9223372036854775807) : Calls Try.prog 19 #[v] w (PlayIs (playI l) w) := play_carsF v l w h hl
/-- the second problem in its variable J: its cars and stops as they stand, no pairs -/
structure JS (wb : World) (I J gc cC gs cS : Nat) (vp : Value) (At : Option Addr) (cT : Nat) (us : List Value) (i : Prob) (W : World) (cs : List Car) (st : List Stop) : Prop where
  held : Held W wb.heap.size I { i with cars := cs, stops := st } (.slice (some ⟨gc, 0, none⟩) i.cars.length cC) (.slice (some ⟨gs, 0, none⟩) i.stops.length cS) vp (.slice At i.travel.length cT) us
  box : Blk W J [.slice (some ⟨gc, 0, none⟩) i.cars.length cC, .slice (some ⟨gs, 0, none⟩) i.stops.length cS, .slice none 0 0, .slice At i.travel.length cT]
  cj : gc ≠ J
  sj : gs ≠ J
  below : Below wb.heap.size wb W
  wider : Wider i.cars cs
  later : Later i.stops st
section
variable {wb : World} {I J gc cC gs cS : Nat} {vp : Value} {At : Option Addr} {cT : Nat} {us : List Value} {i : Prob} {W : World} {cs : List Car} {st : List Stop}
theorem JS.on {W' : World} (h : JS wb I J gc cC gs cS vp At cT us i W cs st) (hb : Below W.heap.size W W') : JS wb I J gc cC gs cS vp At cT us i W' cs st :=
  ⟨h.held.below hb, h.box.below hb, h.cj, h.sj, h.below.trans (hb.mono h.below.size), h.wider, h.later⟩
theorem JS.lies (h : JS wb I J gc cC gs cS vp At cT us i W cs st) : Lies W (.agg #[.slice (some ⟨gc, 0, none⟩) i.cars.length cC, .slice (some ⟨gs, 0, none⟩) i.stops.length cS, .slice none 0 0, .slice At i.travel.length cT]) ⟨cs, st, [], i.travel⟩ := h.held.lies.no_pairs
theorem JS.gcz (h : JS wb I J gc cC gs cS vp At cT us i W cs st) : wb.heap.size ≤ gc ∧ gc < W.heap.size := ⟨(own_typed h.held.cars (g := gc) rfl).2, by obtain ⟨cur, hc⟩ := (own_typed h.held.cars (g := gc) rfl).1; exact (Array.getElem?_eq_some_iff.1 hc).1⟩
theorem JS.gsz (h : JS wb I J gc cC gs cS vp At cT us i W cs st) : wb.heap.size ≤ gs ∧ gs < W.heap.size := ⟨(own_typed h.held.stops (g := gs) rfl).2, by obtain ⟨cur, hc⟩ := (own_typed h.held.stops (g := gs) rfl).1; exact (Array.getElem?_eq_some_iff.1 hc).1⟩
theorem JS.thawC (h : JS wb I J gc cC gs cS vp At cT us i W cs st) (j : Nat) : W.frozen? ⟨gc, j, none⟩ = false := own_thaw h.held.cars (g := gc) rfl j
theorem JS.thawS (h : JS wb I J gc cC gs cS vp At cT us i W cs st) (j : Nat) : W.frozen? ⟨gs, j, none⟩ = false := own_thaw h.held.stops (g := gs) rfl j
theorem JS.car (h : JS wb I J gc cC gs cS vp At cT us i W cs st) {k : Nat} (hk : k < cs.length) : W.cell? ⟨gc, k * 3, none⟩ = some (.int .i64 cs[k].c) ∧ W.cell? ⟨gc, k * 3 + 2, none⟩ = some (.int .i64 cs[k].e) := by
  obtain ⟨A, cap, e, hg⟩ := own_get h.held.cars
  injection e with e1 _ _
  obtain ⟨g, rfl, _, hc⟩ := hg (by simp only; omega)
  injection e1 with e1; injection e1 with e1; subst e1
  exact ⟨hc _ _ (carCells_at cs k hk).1, hc _ _ (carCells_at cs k hk).2⟩
theorem JS.stop (h : JS wb I J gc cC gs cS vp At cT us i W cs st) {k : Nat} (hk : k < st.length) : W.cell? ⟨gs, k * 4 + 2, none⟩ = some (.int .i64 st[k].c) := by
  obtain ⟨A, cap, e, hg⟩ := own_get h.held.stops
  injection e with e1 _ _
  obtain ⟨g, rfl, _, hc⟩ := hg (by simp only; omega)
  injection e1 with e1; injection e1 with e1; subst e1
  exact hc _ _ (stopCells_at st k hk)
theorem JS.cap (h : JS wb I J gc cC gs cS vp At cT us i W cs st) {k : Nat} (hk : k < cs.length) {u : Int} (h1 : cs[k].c ≤ u) (h2 : u ≤ 60) : JS wb I J gc cC gs cS vp At cT us i (W.setCell ⟨gc, k * 3, none⟩ (.int .i64 u)) (setCap cs k u) st :=
  ⟨h.held.set_cars (cs := setCap cs k u) h.wider.1.symm (by simp [setCap]) (carCells_cap cs k u hk), h.box.other h.cj _, h.cj, h.sj, h.below.setCell (p := ⟨gc, k * 3, none⟩) h.gcz.1 _, h.wider.cap hk h1 h2, h.later⟩
theorem JS.end_ (h : JS wb I J gc cC gs cS vp At cT us i W cs st) {k : Nat} (hk : k < cs.length) {u : Int} (h1 : cs[k].e ≤ u) (h2 : u ≤ 1000) : JS wb I J gc cC gs cS vp At cT us i (W.setCell ⟨gc, k * 3 + 2, none⟩ (.int .i64 u)) (setEnd cs k u) st :=
  ⟨h.held.set_cars (cs := setEnd cs k u) h.wider.1.symm (by simp [setEnd]) (carCells_end cs k u hk), h.box.other h.cj _, h.cj, h.sj, h.below.setCell (p := ⟨gc, k * 3 + 2, none⟩) h.gcz.1 _, h.wider.end_ hk h1 h2, h.later⟩
theorem JS.close (h : JS wb I J gc cC gs cS vp At cT us i W cs st) {k : Nat} (hk : k < st.length) {u : Int} (h1 : st[k].c ≤ u) (h2 : u ≤ 1000) : JS wb I J gc cC gs cS vp At cT us i (W.setCell ⟨gs, k * 4 + 2, none⟩ (.int .i64 u)) cs (setClose st k u) :=
  ⟨h.held.set_stops (st := setClose st k u) h.later.1.symm (by simp [setClose]) (stopCells_close st k u hk), h.box.other h.sj _, h.cj, h.sj, h.below.setCell (p := ⟨gs, k * 4 + 2, none⟩) h.gsz.1 _, h.wider, h.later.close hk h1 h2⟩
end
/-- the smaller of two, as the walk says it -/
theorem min_grow {x a m : Int} (ha : 0 ≤ a) (hx : x ≤ m) : x ≤ (if m < x + a then m else x + a) ∧ (if m < x + a then m else x + a) ≤ m := by split <;> omega
end Go.Proofs.Ytgkieelacjcopaa
