/- Plain facts, no Go: what heads and tails come to beside the drive; a tail's latest time; the sets (stage 5). -/
import Derived.Test.YtkheepedjoimmaaTabEval
import Derived.Test.YtkheepedjoimmaaTripTwo
namespace Go.Proofs.Ytkheepedjoimmaa

theorem take_snoc {r : List Int} {k : Nat} (hk : k < r.length) : r.take (k + 1) = r.take k ++ [r[k]] := by rw [List.take_succ_eq_append_getElem hk]
theorem head_step {i : Prob} {c : Int} {r : List Int} {k : Nat} (hk : k < r.length) : headL i c (r.take (k + 1)) = (headL i c (r.take k)).bind fun h => extendP i c h r[k] := by rw [take_snoc hk, headL_snoc]
theorem tail_step {i : Prob} {c : Int} {r : List Int} {k : Nat} (hk : k < r.length) : tailL i c (r.drop k) = (tailL i c (r.drop (k + 1))).bind fun t => beforeP i r[k] t := by rw [List.drop_eq_getElem_cons hk]; rfl
/-- a head beside the drive of the whole -/
theorem head_drive {i : Prob} {c : Int} {r : List Int} {t : TripR} (ht : evalL i c r = some t) : ∀ {k : Nat} {h : HeadP}, k ≤ r.length → headL i c (r.take k) = some h →
    driveL i (carAt i c) h.last h.leave h.load (r.drop k) = some ⟨t.arr.drop k, t.load.drop k, t.home⟩ ∧
    ∀ (_ : 0 < k) (h1 : k - 1 < r.length) (h2 : k - 1 < t.arr.length) (h3 : k - 1 < t.load.length), h.last = r[k - 1] ∧ h.load = t.load[k - 1] ∧ h.leave = t.arr[k - 1] + (stopAt i r[k - 1]).s
  | 0, h, _, hh => by
    have he := (eval_some ht).2.2.2.2.2.1
    rw [List.take_zero] at hh
    have : h = beginH i c := by injection hh with hh; exact hh.symm
    subst this
    exact ⟨by simpa [beginH] using he, fun hk => absurd hk (by omega)⟩
  | k + 1, h, hk, hh => by
    have hk' : k < r.length := by omega
    obtain ⟨_, _, _, _, _, _, hla, hll⟩ := eval_some ht
    rw [head_step hk'] at hh
    obtain ⟨g, h1, h2⟩ := Option.bind_eq_some_iff.1 hh
    obtain ⟨d1, _⟩ := head_drive ht (by omega) h1
    obtain ⟨e1, e2, e3, e4, e5, e6⟩ := drive_step hk' (by omega) (by omega) d1
    obtain ⟨_, o, _, rfl⟩ := ext_some.1 h2
    have hbg : begun i g.last g.leave r[k] = beginP i g r[k] := by unfold begun beginP; rw [Int.max_comm]
    refine ⟨by simp only; rw [← hbg]; exact e6, fun _ _ _ _ => ⟨by simp, by simpa using e2.symm, ?_⟩⟩
    simp only [Nat.add_sub_cancel]
    rw [e1, hbg]
theorem tail_first {i : Prob} {c : Int} {r : List Int} {k : Nat} (hk : k < r.length) {u : TailP} (hu : tailL i c (r.drop k) = some u) : u.first = r[k] ∧ (stopAt i r[k]).o ≤ u.late := by
  rw [tail_step hk] at hu
  obtain ⟨g, _, h2⟩ := Option.bind_eq_some_iff.1 hu
  obtain ⟨⟨_, _, a⟩, n, _, rfl⟩ := bef_some.1 h2
  exact ⟨rfl, a⟩
/-- wherever a route that can be driven is cut, its head and its tail meet -/
theorem cut_meet {i : Prob} (hm : Mated i) {c : Int} (hc : 0 ≤ (carAt i c).c) (hcar : inB c 0 (i.cars.length - 1) = true) {r : List Int} (k : Nat) : meetO i c (headL i c (r.take k)) (tailL i c (r.drop k)) = (evalL i c r).map (·.cost) := by
  rw [meet_eval hm hc hcar, List.take_append_drop]
theorem meetO_some {i : Prob} {c : Int} {h : Option HeadP} {t : Option TailP} {x : Int} : meetO i c h t = some x ↔ ∃ h' t', h = some h' ∧ t = some t' ∧ meetP i c h' t' = some x := by
  unfold meetO
  rw [Option.bind_eq_some_iff]
  constructor
  · rintro ⟨a, h1, h2⟩
    obtain ⟨b, h3, h4⟩ := Option.bind_eq_some_iff.1 h2
    exact ⟨a, b, h1, h3, h4⟩
  · rintro ⟨a, b, h1, h2, h3⟩
    exact ⟨a, h1, Option.bind_eq_some_iff.2 ⟨b, h2, h3⟩⟩
theorem cut_parts {i : Prob} (hm : Mated i) {c : Int} (hc : 0 ≤ (carAt i c).c) (hcar : inB c 0 (i.cars.length - 1) = true) {r : List Int} {t : TripR} (ht : evalL i c r = some t) {k : Nat} (hk : k ≤ r.length) : ∃ h u, headL i c (r.take k) = some h ∧ tailL i c (r.drop k) = some u ∧
    (∀ (_ : 0 < k) (h1 : k - 1 < r.length) (h2 : k - 1 < t.arr.length) (h3 : k - 1 < t.load.length), h.last = r[k - 1] ∧ h.load = t.load[k - 1] ∧ h.leave = t.arr[k - 1] + (stopAt i r[k - 1]).s) ∧
    ∀ (h1 : k < r.length) (h2 : k < t.arr.length), u.first = r[k] ∧ t.arr[k] ≤ u.late := by
  have h0 := cut_meet hm hc hcar (r := r) k
  rw [ht, Option.map_some] at h0
  obtain ⟨h, u, h1, h2, h3⟩ := meetO_some.1 h0
  refine ⟨h, u, h1, h2, (head_drive ht hk h1).2, fun h4 h5 => ?_⟩
  obtain ⟨e1, e2⟩ := tail_first h4 h2
  obtain ⟨_, _, _, _, _, _, _, hll⟩ := eval_some ht
  obtain ⟨d1, _⟩ := drive_step h4 h5 (by omega) (head_drive ht hk h1).1
  have m := (meet_some.1 h3).1.2.2.1
  rw [e1] at m
  refine ⟨e1, ?_⟩
  rw [d1]
  unfold begun
  omega

/-- the times of a drive alone -/
def timesOk (i : Prob) (e : Int) : Int → Int → List Int → Bool
  | last, left, [] => decide (left + way i last 0 ≤ e)
  | last, left, s :: l => decide (begun i last left s ≤ (stopAt i s).c) && timesOk i e s (begun i last left s + (stopAt i s).s) l
theorem drive_times {i : Prob} {c : Car} (hc : 0 ≤ c.c) : ∀ {l : List Int} {last left : Int}, (∀ x ∈ l, (stopAt i x).d = 0) → (driveL i c last left 0 l).isSome = timesOk i c.e last left l
  | [], last, left, _ => by
    unfold driveL timesOk
    split
    · next h => simp; omega
    · next h => simp; omega
  | s :: l, last, left, h => by
    have hd := h s (by simp)
    unfold driveL timesOk
    rw [hd]
    by_cases hb : begun i last left s ≤ (stopAt i s).c
    · rw [if_neg (by omega), Option.isSome_map, Int.add_zero, drive_times hc (fun x hx => h x (by simp [hx]))]
      simp [hb]
    · rw [if_pos (.inl (by omega))]
      simp [hb]
/-- a tail can be driven just if its first place is begun by its latest time -/
theorem late_iff {i : Prob} {c : Int} : ∀ {l : List Int} {t : TailP} (last left : Int), tailL i c l = some t → (timesOk i (carAt i c).e last left l = true ↔ left + way i last t.first ≤ t.late)
  | [], t, last, left, h => by
    injection h with h; subst h
    simp [timesOk, endT]
  | s :: l, t, last, left, h => by
    obtain ⟨g, h1, h2⟩ := Option.bind_eq_some_iff.1 (show (tailL i c l).bind (fun t => beforeP i s t) = some t from h)
    obtain ⟨⟨_, _, a⟩, n, _, rfl⟩ := bef_some.1 h2
    have ih := late_iff (l := l) s (begun i last left s + (stopAt i s).s) h1
    unfold timesOk
    rw [Bool.and_eq_true, decide_eq_true_eq, ih]
    simp only
    unfold lateP at a ⊢
    unfold begun
    omega
/-- the times of another problem that is like the one but for its first stop's opening -/
theorem times_same {i j : Prob} {e : Int} : ∀ {l : List Int} {last left : Int}, (∀ a b, way j a b = way i a b) → (∀ x ∈ l, (stopAt j x).o = (stopAt i x).o ∧ (stopAt j x).c = (stopAt i x).c ∧ (stopAt j x).s = (stopAt i x).s) → timesOk j e last left l = timesOk i e last left l
  | [], last, left, hw, _ => by unfold timesOk; rw [hw]
  | s :: l, last, left, hw, h => by
    obtain ⟨h1, h2, h3⟩ := h s (by simp)
    unfold timesOk begun
    rw [hw, h1, h2, h3, times_same hw (fun x hx => h x (by simp [hx]))]
theorem late_first {i j : Prob} {c : Int} {s : Int} {l : List Int} {t : TailP} (ht : tailL i c (s :: l) = some t) (hw : ∀ a b, way j a b = way i a b) (hl : ∀ x ∈ l, (stopAt j x).o = (stopAt i x).o ∧ (stopAt j x).c = (stopAt i x).c ∧ (stopAt j x).s = (stopAt i x).s)
    (hc : (stopAt j s).c = (stopAt i s).c) (hs : (stopAt j s).s = (stopAt i s).s) (left : Int) : timesOk j (carAt i c).e 0 left (s :: l) = true ↔ max (stopAt j s).o (left + way i 0 s) ≤ t.late := by
  obtain ⟨g, h1, h2⟩ := Option.bind_eq_some_iff.1 (show (tailL i c l).bind (fun t => beforeP i s t) = some t from ht)
  obtain ⟨⟨_, _, a⟩, n, _, rfl⟩ := bef_some.1 h2
  unfold timesOk
  rw [times_same hw hl, Bool.and_eq_true, decide_eq_true_eq, late_iff s _ h1, hc, hs]
  simp only
  unfold begun lateP
  rw [hw]
  omega

/-- a head's sets -/
theorem head_sets {i : Prob} (hm : Mated i) {c : Int} : ∀ {l : List Int} {h : HeadP}, headL i c l = some h → ∃ os, St i l.reverse os h := by
  have key : ∀ (l : List Int) (g h : HeadP) (met os : List Int), St i met os g → headFrom i c (some g) l = some h → ∃ os', St i (l.reverse ++ met) os' h := by
    intro l
    induction l with
    | nil => intro g h met os H hh; injection hh with hh; subst hh; exact ⟨os, H⟩
    | cons s l ih =>
      intro g h met os H hh
      have hh' : headFrom i c (extendP i c g s) l = some h := hh
      cases hE : extendP i c g s with
      | none => rw [hE, headFrom_none] at hh'; cases hh'
      | some g' =>
        rw [hE] at hh'
        obtain ⟨⟨a1, a2, _⟩, o, ho, rfl⟩ := ext_some.1 hE
        have hs : 1 ≤ s := by rw [inB_iff] at a1; exact a1.1
        have hmet : s ∉ met := fun e => by rw [H.set, hasD_bits hs H.pos] at a2; simp [e] at a2
        have hst := H.step hm hs hmet (g := ⟨s, beginP i g s + (stopAt i s).s, g.load + (stopAt i s).d, o, g.set ||| digit s, g.cost + way i g.last s⟩) rfl
        have : ∃ os', St i (s :: met) os' ⟨s, beginP i g s + (stopAt i s).s, g.load + (stopAt i s).d, o, g.set ||| digit s, g.cost + way i g.last s⟩ := by
          unfold opnP at ho
          split at ho
          · next h3 => injection ho with ho; exact ⟨_, hst.1 h3 ho.symm⟩
          · next h3 =>
            split at ho
            · next h4 => injection ho with ho; exact ⟨_, hst.2.1 h3 h4 ho.symm⟩
            · next h4 =>
              have h4' : firstL s i.pairs = false := by simpa using h4
              have m := hm.mate h3
              split at ho
              · next h5 =>
                injection ho with ho
                rw [H.opn, hasD_bits m.1 H.opos] at h5
                exact ⟨_, hst.2.2 h3 h4' (by simpa using h5) ho.symm⟩
              · cases ho
        obtain ⟨os', H'⟩ := this
        obtain ⟨os2, H2⟩ := ih _ h _ _ H' hh'
        refine ⟨os2, ?_⟩
        rw [List.reverse_cons, List.append_assoc]
        exact H2
  intro l h hh
  obtain ⟨os, H⟩ := key l _ h [] [] (st_begin i c) hh
  exact ⟨os, by simpa using H⟩
/-- a tail's sets: its stops; the firsts that are not on it though their seconds are -/
structure Ts (i : Prob) (met : List Int) (t : TailP) : Prop where
  set : ∀ x, 1 ≤ x → hasD t.set x = decide (x ∈ met)
  pos : ∀ x ∈ met, 1 ≤ x
  need : ∀ x, 1 ≤ x → (hasD t.need x = true ↔ firstL x i.pairs = true ∧ x ∉ met ∧ mateL x i.pairs ∈ met)
  fst : ∀ y ∈ met, firstL y i.pairs = true → mateL y i.pairs ∈ met
theorem tail_sets {i : Prob} (hm : Mated i) {c : Int} : ∀ {l : List Int} {t : TailP}, tailL i c l = some t → Ts i l t
  | [], t, h => by
    injection h with h; subst h
    exact ⟨fun x _ => by simp [endT, hasD_zero], fun x h => (by simp at h), fun x _ => by simp [endT, hasD_zero], fun y h => (by simp at h)⟩
  | s :: l, t, h => by
    obtain ⟨g, h1, h2⟩ := Option.bind_eq_some_iff.1 (show (tailL i c l).bind (fun t => beforeP i s t) = some t from h)
    have H := tail_sets hm h1
    obtain ⟨⟨a1, a2, _⟩, n, hn, rfl⟩ := bef_some.1 h2
    have hs : 1 ≤ s := by rw [inB_iff] at a1; exact a1.1
    have hmet : s ∉ l := fun e => by rw [H.set s hs] at a2; simp [e] at a2
    have hset : ∀ x, 1 ≤ x → hasD (g.set ||| digit s) x = decide (x ∈ s :: l) := fun x hx => by
      rw [hasD_or, H.set x hx, Bool.eq_iff_iff]
      simp only [Bool.or_eq_true, decide_eq_true_eq, List.mem_cons]
      constructor
      · rintro (e | e)
        · exact .inr e
        · exact .inl (by omega)
      · rintro (rfl | e)
        · exact .inr rfl
        · exact .inl e
    have hpos : ∀ x ∈ s :: l, 1 ≤ x := fun x hx => by
      rcases List.mem_cons.1 hx with rfl | hx
      · exact hs
      · exact H.pos x hx
    unfold needP at hn
    split at hn
    · next h3 =>
      injection hn with hn; subst hn
      refine ⟨hset, hpos, fun x hx => ?_, fun y hy hf => ?_⟩
      · rw [H.need x hx]
        constructor
        · rintro ⟨a, b, d⟩
          refine ⟨a, fun e => ?_, List.mem_cons_of_mem _ d⟩
          rcases List.mem_cons.1 e with rfl | e
          · exact hm.first a h3
          · exact b e
        · rintro ⟨a, b, d⟩
          refine ⟨a, fun e => b (List.mem_cons_of_mem _ e), ?_⟩
          rcases List.mem_cons.1 d with d | d
          · have m := hm.mate (hm.first a)
            rw [d, h3] at m
            omega
          · exact d
      · rcases List.mem_cons.1 hy with rfl | hy
        · exact absurd h3 (hm.first hf)
        · exact List.mem_cons_of_mem _ (H.fst y hy hf)
    · next h3 =>
      have m := hm.mate h3
      split at hn
      · next h4 =>
        injection hn with hn; subst hn
        refine ⟨hset, hpos, fun x hx => ?_, fun y hy hf => ?_⟩
        · rw [hasD_or]
          simp only [Bool.or_eq_true, decide_eq_true_eq]
          rw [H.need x hx]
          constructor
          · rintro (⟨a, b, d⟩ | e)
            · refine ⟨a, fun e => ?_, List.mem_cons_of_mem _ d⟩
              rcases List.mem_cons.1 e with rfl | e
              · rw [h4] at a; cases a
              · exact b e
            · have e' : x = mateL s i.pairs := by omega
              subst e'
              refine ⟨by rw [m.2.2.2.1, h4]; rfl, fun e => ?_, by rw [m.2.1]; simp⟩
              rcases List.mem_cons.1 e with e | e
              · exact m.2.2.1 e
              · have := H.fst _ e (by rw [m.2.2.2.1, h4]; rfl)
                rw [m.2.1] at this
                exact hmet this
          · rintro ⟨a, b, d⟩
            rcases List.mem_cons.1 d with d | d
            · have m2 := hm.mate (hm.first a)
              exact .inr (by rw [← d, m2.2.1])
            · exact .inl ⟨a, fun e => b (List.mem_cons_of_mem _ e), d⟩
        · rcases List.mem_cons.1 hy with rfl | hy
          · rw [h4] at hf; cases hf
          · exact List.mem_cons_of_mem _ (H.fst y hy hf)
      · next h4 =>
        have h4' : firstL s i.pairs = true := by simpa using h4
        split at hn
        · next h5 =>
          injection hn with hn; subst hn
          have h6 := (H.need s hs).1 h5
          refine ⟨hset, hpos, fun x hx => ?_, fun y hy hf => ?_⟩
          · rw [hasD_xor]
            by_cases e : s.toNat = x.toNat
            · have e' : s = x := by omega
              subst e'
              simp [h5]
            · have e' : ¬ x = s := fun h => e (by rw [h])
              simp only [e, decide_false, Bool.xor_false]
              rw [H.need x hx]
              constructor
              · rintro ⟨a, b, d⟩
                exact ⟨a, fun k => by rcases List.mem_cons.1 k with k | k; exact e' k; exact b k, List.mem_cons_of_mem _ d⟩
              · rintro ⟨a, b, d⟩
                refine ⟨a, fun k => b (List.mem_cons_of_mem _ k), ?_⟩
                rcases List.mem_cons.1 d with d | d
                · have m2 := hm.mate (hm.first a)
                  rw [d, a, h4'] at m2
                  exact absurd m2.2.2.2.1 (by decide)
                · exact d
          · rcases List.mem_cons.1 hy with rfl | hy
            · exact List.mem_cons_of_mem _ h6.2.2
            · exact List.mem_cons_of_mem _ (H.fst y hy hf)
        · cases hn
end Go.Proofs.Ytkheepedjoimmaa
