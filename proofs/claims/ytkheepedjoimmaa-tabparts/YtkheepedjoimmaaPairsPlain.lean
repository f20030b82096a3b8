/- Plain facts, no Go: pairs on a route, by counting what is open, and by places. -/
import Derived.Test.YtkheepedjoimmaaTripPlain
namespace Go.Proofs.Ytkheepedjoimmaa

theorem mem_flat {x : Int} : ∀ {ps : List Pair}, x ∈ flatP ps → ∃ p ∈ ps, x = p.a ∨ x = p.b
  | [], h => by simp [flatP] at h
  | q :: l, h => by
    simp only [flatP, List.mem_cons] at h
    rcases h with rfl | rfl | h
    · exact ⟨q, by simp, .inl rfl⟩
    · exact ⟨q, by simp, .inr rfl⟩
    · obtain ⟨p, hp, h⟩ := mem_flat h
      exact ⟨p, by simp [hp], h⟩
theorem flat_mem {p : Pair} : ∀ {ps : List Pair}, p ∈ ps → p.a ∈ flatP ps ∧ p.b ∈ flatP ps
  | [], h => by simp at h
  | q :: l, h => by
    simp only [flatP, List.mem_cons] at h ⊢
    rcases h with rfl | h
    · exact ⟨.inl rfl, .inr (.inl rfl)⟩
    · have := flat_mem h
      exact ⟨.inr (.inr this.1), .inr (.inr this.2)⟩
def sgn (s : Int) : List Pair → Int
  | [] => 0
  | p :: l => (if p.a = s then 1 else 0) - (if p.b = s then 1 else 0) + sgn s l
theorem sgn_out {s : Int} : ∀ {ps : List Pair}, s ∉ flatP ps → sgn s ps = 0
  | [], _ => rfl
  | q :: l, h => by
    simp only [flatP, List.mem_cons, not_or] at h
    rw [sgn, sgn_out h.2.2, if_neg (fun e => h.1 e.symm), if_neg (fun e => h.2.1 e.symm)]; rfl
theorem of_a {p : Pair} : ∀ {ps : List Pair}, (flatP ps).Nodup → p ∈ ps → mateL p.a ps = p.b ∧ firstL p.a ps = true ∧ sgn p.a ps = 1
  | [], _, h => by simp at h
  | q :: l, hn, h => by
    simp only [flatP, List.nodup_cons, List.mem_cons, not_or] at hn
    obtain ⟨⟨h1, h2⟩, h3, h4⟩ := hn
    rcases List.mem_cons.1 h with rfl | h
    · refine ⟨by simp [mateL], by simp [firstL], ?_⟩
      rw [sgn, sgn_out h2, if_pos rfl, if_neg (fun e => h1 e.symm)]; rfl
    · obtain ⟨e1, e2, e3⟩ := of_a h4 h
      have hm := flat_mem h
      have n1 : ¬ q.a = p.a := fun e => h2 (e ▸ hm.1)
      have n2 : ¬ q.b = p.a := fun e => h3 (e ▸ hm.1)
      refine ⟨by simp [mateL, n1, n2, e1], by simp [firstL, n1, e2], ?_⟩
      rw [sgn, e3, if_neg n1, if_neg n2]; rfl
theorem of_b {p : Pair} : ∀ {ps : List Pair}, (flatP ps).Nodup → p ∈ ps → mateL p.b ps = p.a ∧ firstL p.b ps = false ∧ sgn p.b ps = -1
  | [], _, h => by simp at h
  | q :: l, hn, h => by
    simp only [flatP, List.nodup_cons, List.mem_cons, not_or] at hn
    obtain ⟨⟨h1, h2⟩, h3, h4⟩ := hn
    rcases List.mem_cons.1 h with rfl | h
    · have e := mate_out h3
      refine ⟨by simp [mateL, h1], by simp [firstL, h1, e.2], ?_⟩
      rw [sgn, sgn_out h3, if_neg h1, if_pos rfl]; rfl
    · obtain ⟨e1, e2, e3⟩ := of_b h4 h
      have hm := flat_mem h
      have n1 : ¬ q.a = p.b := fun e => h2 (e ▸ hm.2)
      have n2 : ¬ q.b = p.b := fun e => h3 (e ▸ hm.2)
      refine ⟨by simp [mateL, n1, n2, e1], by simp [firstL, n1, e2], ?_⟩
      rw [sgn, e3, if_neg n1, if_neg n2]; rfl
def opN (m : List Int) : List Pair → Int
  | [] => 0
  | p :: l => (if p.a ∈ m then 1 else 0) - (if p.b ∈ m then 1 else 0) + opN m l
theorem opN_cons {s : Int} {m : List Int} (h : s ∉ m) : ∀ (ps : List Pair), opN (s :: m) ps = opN m ps + sgn s ps
  | [] => rfl
  | p :: l => by
    have e1 : (if p.a ∈ s :: m then (1 : Int) else 0) = (if p.a ∈ m then 1 else 0) + (if p.a = s then 1 else 0) := by
      by_cases ha : p.a = s
      · rw [ha]; simp [h]
      · simp [ha]
    have e2 : (if p.b ∈ s :: m then (1 : Int) else 0) = (if p.b ∈ m then 1 else 0) + (if p.b = s then 1 else 0) := by
      by_cases ha : p.b = s
      · rw [ha]; simp [h]
      · simp [ha]
    simp only [opN, sgn]
    rw [e1, e2, opN_cons h l]
    omega
def goodL (ps : List Pair) : List Int → List Int → Prop
  | _, [] => True
  | met, s :: l => (∀ p ∈ ps, p.b = s → p.a ∈ met) ∧ goodL ps (s :: met) l
theorem pairsL_good {ps : List Pair} (hn : (flatP ps).Nodup) (h0 : ∀ x ∈ flatP ps, 1 ≤ x) : ∀ (l met : List Int), l.Nodup → (∀ x ∈ l, x ∉ met) → (pairsL ps met (opN met ps) l = true ↔ goodL ps met l ∧ opN (l.reverse ++ met) ps = 0)
  | [], met, _, _ => by simp [pairsL, goodL]
  | s :: l, met, hl, hd => by
    rw [List.nodup_cons] at hl
    have hs : s ∉ met := hd s (by simp)
    have ih := pairsL_good hn h0 l (s :: met) hl.2 (fun x hx hm => by
      rcases List.mem_cons.1 hm with rfl | hm
      · exact hl.1 hx
      · exact hd x (by simp [hx]) hm)
    rw [opN_cons hs] at ih
    have hr : (s :: l).reverse ++ met = l.reverse ++ s :: met := by simp
    rw [hr]
    simp only [goodL]
    rw [pairsL]
    by_cases hf : s ∈ flatP ps
    · obtain ⟨p, hp, rfl | rfl⟩ := mem_flat hf
      · obtain ⟨e1, e2, e3⟩ := of_a hn hp
        have hb := h0 _ (flat_mem hp).2
        rw [e1, e2, if_neg (by omega), if_pos rfl]
        rw [e3] at ih
        rw [ih, and_assoc]
        refine ⟨fun h => ⟨fun p' hp' e => ?_, h⟩, fun h => h.2⟩
        have := (of_b hn hp').2.1
        rw [e, e2] at this
        cases this
      · obtain ⟨e1, e2, e3⟩ := of_b hn hp
        have ha := h0 _ (flat_mem hp).1
        rw [e1, e2, if_neg (by omega), if_neg (by decide)]
        rw [e3, ← Int.sub_eq_add_neg] at ih
        have key : (∀ p' ∈ ps, p'.b = p.b → p'.a ∈ met) ↔ p.a ∈ met := by
          refine ⟨fun h => h p hp rfl, fun h p' hp' e => ?_⟩
          have := (of_b hn hp').1
          rw [e, e1] at this
          rw [← this]; exact h
        have hne : p.a ≠ p.b := fun e => by
          have := (of_a hn hp).2.1
          rw [e, e2] at this
          cases this
        rw [key]
        by_cases hm : p.a ∈ met
        · rw [if_pos (by simp [hm]), ih]
          simp [hm]
        · rw [if_neg (by simp [hm, hne])]
          simp [hm]
    · obtain ⟨e1, e2⟩ := mate_out hf
      rw [e1, if_pos rfl]
      rw [sgn_out hf, Int.add_zero] at ih
      rw [ih, and_assoc]
      refine ⟨fun h => ⟨fun p' hp' e => absurd (e ▸ (flat_mem hp').2) hf, h⟩, fun h => h.2⟩
theorem idx_tail {s x : Int} {l : List Int} (h : s ≠ x) : (s :: l).idxOf x = l.idxOf x + 1 := by
  rw [List.idxOf_cons, show (s == x) = false by simpa using h]
  rfl
theorem good_iff {ps : List Pair} : ∀ (l met : List Int), l.Nodup → (goodL ps met l ↔ ∀ p ∈ ps, p.b ∈ l → p.a ∈ met ∨ (p.a ∈ l ∧ l.idxOf p.a < l.idxOf p.b))
  | [], met, _ => by simp [goodL]
  | s :: l, met, hl => by
    rw [List.nodup_cons] at hl
    simp only [goodL]
    rw [good_iff l (s :: met) hl.2]
    constructor
    · rintro ⟨h1, h2⟩ p hp hb
      by_cases e : p.b = s
      · exact .inl (h1 p hp e)
      · have hb' : p.b ∈ l := by simpa [e] using hb
        have ib : (s :: l).idxOf p.b = l.idxOf p.b + 1 := idx_tail (fun h => e h.symm)
        rcases h2 p hp hb' with h | ⟨h, hi⟩
        · rcases List.mem_cons.1 h with h | h
          · exact .inr ⟨by simp [h], by rw [ib, h]; simp⟩
          · exact .inl h
        · by_cases ea : p.a = s
          · exact .inr ⟨by simp [ea], by rw [ib, ea]; simp⟩
          · refine .inr ⟨by simp [h], ?_⟩
            rw [ib, idx_tail (fun h => ea h.symm)]
            omega
    · intro H
      refine ⟨fun p hp e => ?_, fun p hp hb => ?_⟩
      · rcases H p hp (by simp [e]) with h | ⟨_, h⟩
        · exact h
        · rw [e] at h; simp at h
      · have e : p.b ≠ s := fun e => hl.1 (e ▸ hb)
        have ib : (s :: l).idxOf p.b = l.idxOf p.b + 1 := idx_tail (fun h => e h.symm)
        rcases H p hp (by simp [hb]) with h | ⟨h, hi⟩
        · exact .inl (by simp [h])
        · rcases List.mem_cons.1 h with h | h
          · exact .inl (by simp [h])
          · by_cases ea : p.a = s
            · exact .inl (by simp [ea])
            · refine .inr ⟨h, ?_⟩
              rw [ib, idx_tail (fun h => ea h.symm)] at hi
              omega
theorem opN_zero {m : List Int} : ∀ {ps : List Pair}, (∀ p ∈ ps, p.b ∈ m → p.a ∈ m) → 0 ≤ opN m ps ∧ (opN m ps = 0 ↔ ∀ p ∈ ps, (p.a ∈ m ↔ p.b ∈ m))
  | [], _ => by simp [opN]
  | q :: l, h => by
    obtain ⟨i1, i2⟩ := opN_zero (ps := l) (fun p hp => h p (by simp [hp]))
    have hq := h q (by simp)
    simp only [opN, List.mem_cons, forall_eq_or_imp]
    by_cases ha : q.a ∈ m
    · by_cases hb : q.b ∈ m
      · simp only [ha, hb, if_true]
        exact ⟨by omega, by rw [← i2]; simp⟩
      · simp only [ha, hb, if_true, if_false]
        refine ⟨by omega, ⟨fun e => by omega, fun e => absurd (e.1.1 trivial) (by simp)⟩⟩
    · have hb : q.b ∉ m := fun e => ha (hq e)
      simp only [ha, hb, if_false]
      exact ⟨by omega, by rw [← i2]; simp⟩
/-- both of a pair are there, the first one ahead, or none -/
def PairsOn (ps : List Pair) (l : List Int) : Prop := ∀ p ∈ ps, (p.a ∈ l ↔ p.b ∈ l) ∧ (p.a ∈ l → l.idxOf p.a < l.idxOf p.b)
theorem pairsL_on {ps : List Pair} (hn : (flatP ps).Nodup) (h0 : ∀ x ∈ flatP ps, 1 ≤ x) {l : List Int} (hl : l.Nodup) : pairsL ps [] 0 l = true ↔ PairsOn ps l := by
  have h1 := pairsL_good hn h0 l [] hl (fun x _ h => by simp at h)
  have h2 : opN [] ps = 0 := by
    have : ∀ qs : List Pair, opN [] qs = 0 := fun qs => by
      induction qs with
      | nil => rfl
      | cons q l ih => simp [opN, ih]
    exact this ps
  rw [h2, good_iff l [] hl] at h1
  rw [h1, List.append_nil]
  unfold PairsOn
  constructor
  · rintro ⟨h3, h4⟩
    have h5 : ∀ p ∈ ps, p.b ∈ l.reverse → p.a ∈ l.reverse := fun p hp hb => by
      rcases h3 p hp (by simpa using hb) with h | h
      · simp at h
      · simpa using h.1
    have h6 := (opN_zero h5).2.1 h4
    intro p hp
    have h7 := h6 p hp
    simp only [List.mem_reverse] at h7
    refine ⟨h7, fun ha => ?_⟩
    rcases h3 p hp (h7.1 ha) with h | h
    · simp at h
    · exact h.2
  · intro H
    refine ⟨fun p hp hb => .inr ⟨(H p hp).1.2 hb, (H p hp).2 ((H p hp).1.2 hb)⟩, ?_⟩
    have h5 : ∀ p ∈ ps, p.b ∈ l.reverse → p.a ∈ l.reverse := fun p hp hb => by
      simp only [List.mem_reverse] at hb ⊢
      exact (H p hp).1.2 hb
    exact (opN_zero h5).2.2 (fun p hp => by simp only [List.mem_reverse]; exact (H p hp).1)
theorem pairs_of {i : Prob} (h : probOk i = true) : (flatP i.pairs).Nodup ∧ ∀ x ∈ flatP i.pairs, 1 ≤ x := by
  simp only [probOk, Bool.and_eq_true] at h
  obtain ⟨h1, h2⟩ := flat_of h.1.2
  exact ⟨h1, fun x hx => (h2 x hx).2.1⟩
end Go.Proofs.Ytkheepedjoimmaa
