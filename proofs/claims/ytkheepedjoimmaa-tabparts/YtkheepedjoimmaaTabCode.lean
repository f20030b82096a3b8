/- Plain facts, no Go: a set of stops tells its halves and its sums; heads and tails agree with theirs (stage 5). -/
import Derived.Test.YtkheepedjoimmaaTabBounds
namespace Go.Proofs.Ytkheepedjoimmaa

def openF (S : Nat) (a : Nat) (p : Pair) : Nat := if hasD S p.a = true ∧ hasD S p.b = false then a ||| digit p.a else a
def needF (S : Nat) (a : Nat) (p : Pair) : Nat := if hasD S p.b = true ∧ hasD S p.a = false then a ||| digit p.a else a
def openH (S : Nat) (ps : List Pair) : Nat := ps.foldl (openF S) 0
def needH (S : Nat) (ps : List Pair) : Nat := ps.foldl (needF S) 0
theorem fold_bit {f : Nat → Pair → Nat} {P : Pair → Prop} (hf : ∀ a p k, (f a p).testBit k = true ↔ a.testBit k = true ∨ (P p ∧ p.a.toNat = k)) : ∀ (ps : List Pair) (a k : Nat), (ps.foldl f a).testBit k = true ↔ a.testBit k = true ∨ ∃ p ∈ ps, P p ∧ p.a.toNat = k
  | [], a, k => by simp
  | p :: ps, a, k => by
    rw [List.foldl_cons, fold_bit hf ps, hf]
    simp only [List.mem_cons, exists_eq_or_imp]
    exact or_assoc
theorem if_bit {Q : Prop} [Decidable Q] {a : Nat} {s : Int} {k : Nat} : (if Q then a ||| digit s else a).testBit k = true ↔ a.testBit k = true ∨ (Q ∧ s.toNat = k) := by
  split
  · next h => rw [Nat.testBit_or, test_digit]; simp [h]
  · next h => simp [h]
theorem open_bit {S : Nat} {ps : List Pair} {k : Nat} : (openH S ps).testBit k = true ↔ ∃ p ∈ ps, (hasD S p.a = true ∧ hasD S p.b = false) ∧ p.a.toNat = k := by
  unfold openH
  rw [fold_bit (f := openF S) (P := fun p => hasD S p.a = true ∧ hasD S p.b = false) (fun a p k => if_bit) ps 0 k, Nat.zero_testBit]
  simp
theorem need_bit {S : Nat} {ps : List Pair} {k : Nat} : (needH S ps).testBit k = true ↔ ∃ p ∈ ps, (hasD S p.b = true ∧ hasD S p.a = false) ∧ p.a.toNat = k := by
  unfold needH
  rw [fold_bit (f := needF S) (P := fun p => hasD S p.b = true ∧ hasD S p.a = false) (fun a p k => if_bit) ps 0 k, Nat.zero_testBit]
  simp
theorem first_pair {x : Int} : ∀ {ps : List Pair}, firstL x ps = true → ∃ p ∈ ps, p.a = x
  | [], h => by cases h
  | p :: ps, h => by
    unfold firstL at h
    split at h
    · next e => exact ⟨p, by simp, e⟩
    · obtain ⟨q, h1, h2⟩ := first_pair h; exact ⟨q, by simp [h1], h2⟩
theorem Mated.pa {i : Prob} (hm : Mated i) {p : Pair} (hp : p ∈ i.pairs) : 1 ≤ p.a := hm.pos _ (flat_mem hp).1
theorem open_iff {i : Prob} (hm : Mated i) {S : Nat} {x : Int} (hx : 1 ≤ x) : hasD (openH S i.pairs) x = true ↔ firstL x i.pairs = true ∧ hasD S x = true ∧ hasD S (mateL x i.pairs) = false := by
  unfold hasD
  rw [open_bit]
  constructor
  · rintro ⟨p, hp, ⟨h1, h2⟩, h3⟩
    have := hm.pa hp
    obtain rfl : p.a = x := by omega
    obtain ⟨e1, e2, _⟩ := of_a hm.nodup hp
    rw [e1]
    exact ⟨e2, h1, h2⟩
  · rintro ⟨h1, h2, h3⟩
    obtain ⟨p, hp, rfl⟩ := first_pair h1
    obtain ⟨e1, e2, _⟩ := of_a hm.nodup hp
    rw [e1] at h3
    exact ⟨p, hp, ⟨h2, h3⟩, rfl⟩
theorem need_iff {i : Prob} (hm : Mated i) {S : Nat} {x : Int} (hx : 1 ≤ x) : hasD (needH S i.pairs) x = true ↔ firstL x i.pairs = true ∧ hasD S x = false ∧ hasD S (mateL x i.pairs) = true := by
  unfold hasD
  rw [need_bit]
  constructor
  · rintro ⟨p, hp, ⟨h1, h2⟩, h3⟩
    have := hm.pa hp
    obtain rfl : p.a = x := by omega
    obtain ⟨e1, e2, _⟩ := of_a hm.nodup hp
    rw [e1]
    exact ⟨e2, h2, h1⟩
  · rintro ⟨h1, h2, h3⟩
    obtain ⟨p, hp, rfl⟩ := first_pair h1
    obtain ⟨e1, e2, _⟩ := of_a hm.nodup hp
    rw [e1] at h3
    exact ⟨p, hp, ⟨h3, h2⟩, rfl⟩
theorem open_0 {i : Prob} (hm : Mated i) {S : Nat} : (openH S i.pairs).testBit 0 = false := by
  rw [Bool.eq_false_iff]; intro h
  obtain ⟨p, hp, _, h3⟩ := open_bit.1 h
  have := hm.pa hp
  omega
theorem need_0 {i : Prob} (hm : Mated i) {S : Nat} : (needH S i.pairs).testBit 0 = false := by
  rw [Bool.eq_false_iff]; intro h
  obtain ⟨p, hp, _, h3⟩ := need_bit.1 h
  have := hm.pa hp
  omega
theorem nat_ext_pos {A B : Nat} (h0 : A.testBit 0 = B.testBit 0) (h : ∀ x : Int, 1 ≤ x → (hasD A x = true ↔ hasD B x = true)) : A = B := by
  refine Nat.eq_of_testBit_eq fun k => ?_
  rcases Nat.eq_zero_or_pos k with rfl | hk
  · exact h0
  · have := h (k : Int) (by omega)
    unfold hasD at this
    rw [show ((k : Int)).toNat = k from rfl] at this
    exact Bool.eq_iff_iff.2 this
theorem zero_of_pos {A : Nat} (h0 : A.testBit 0 = false) (h : ∀ x : Int, 1 ≤ x → ¬ hasD A x = true) : A = 0 :=
  nat_ext_pos (by rw [h0, Nat.zero_testBit]) (fun x hx => ⟨fun e => absurd e (h x hx), fun e => by rw [hasD_zero] at e; cases e⟩)
theorem not_zero {A : Nat} (h : A = 0) (x : Int) : ¬ hasD A x = true := by rw [h, hasD_zero]; simp
theorem hasD_or' {S : Nat} {s x : Int} (hs : 1 ≤ s) (hx : 1 ≤ x) : hasD (S ||| digit s) x = true ↔ hasD S x = true ∨ s = x := by
  rw [hasD_or, Bool.or_eq_true_iff, decide_eq_true_eq]
  have : s.toNat = x.toNat ↔ s = x := by omega
  rw [this]
theorem hasD_orF {S : Nat} {s x : Int} (hs : 1 ≤ s) (hx : 1 ≤ x) : hasD (S ||| digit s) x = false ↔ hasD S x = false ∧ s ≠ x := by
  have := hasD_or' (S := S) hs hx
  cases h1 : hasD (S ||| digit s) x <;> cases h2 : hasD S x <;> simp_all
theorem hasD_xor' {S : Nat} {s x : Int} (hs : 1 ≤ s) (hx : 1 ≤ x) : hasD (S ^^^ digit s) x = true ↔ (hasD S x = true ↔ ¬ s = x) := by
  rw [hasD_xor]
  have : s.toNat = x.toNat ↔ s = x := by omega
  by_cases e : s = x <;> cases h : hasD S x <;> simp [e, this]
theorem digit_bit0 {s : Int} (hs : 1 ≤ s) : (digit s).testBit 0 = false := by rw [test_digit]; simp; omega
theorem Mated.fst {i : Prob} (hm : Mated i) {x : Int} (h : firstL x i.pairs = true) : 1 ≤ x ∧ 1 ≤ mateL x i.pairs ∧ mateL (mateL x i.pairs) i.pairs = x ∧ mateL x i.pairs ≠ x ∧ firstL (mateL x i.pairs) i.pairs = false := by
  obtain ⟨a, b, c, d, e⟩ := hm.mate (hm.first h)
  exact ⟨e, a, b, c, by rw [d, h]; rfl⟩
theorem Mated.snd {i : Prob} (hm : Mated i) {s : Int} (h : mateL s i.pairs ≠ 0) (h' : firstL s i.pairs = false) : 1 ≤ mateL s i.pairs ∧ mateL (mateL s i.pairs) i.pairs = s ∧ mateL s i.pairs ≠ s ∧ firstL (mateL s i.pairs) i.pairs = true := by
  obtain ⟨a, b, c, d, e⟩ := hm.mate h
  exact ⟨a, b, c, by rw [d, h']; rfl⟩
theorem or_bit0 {A : Nat} {s : Int} (h : A.testBit 0 = false) (hs : 1 ≤ s) : (A ||| digit s).testBit 0 = false := by rw [Nat.testBit_or, h, digit_bit0 hs]; rfl
theorem xor_bit0 {A : Nat} {s : Int} (h : A.testBit 0 = false) (hs : 1 ≤ s) : (A ^^^ digit s).testBit 0 = false := by rw [Nat.testBit_xor, h, digit_bit0 hs]; rfl
/-- what is open behind one stop more -/
theorem step_open {i : Prob} (hm : Mated i) {S : Nat} {s : Int} (hs : 1 ≤ s) (hn : hasD S s = false) (h0 : needH S i.pairs = 0) :
    opnP i (openH S i.pairs) s = if needH (S ||| digit s) i.pairs = 0 then some (openH (S ||| digit s) i.pairs) else none := by
  have hz : ∀ x, firstL x i.pairs = true → hasD S x = false → hasD S (mateL x i.pairs) = false := fun x hx h1 => by
    rw [Bool.eq_false_iff]; intro e; exact not_zero h0 x ((need_iff hm (hm.fst hx).1).2 ⟨hx, h1, e⟩)
  unfold opnP
  by_cases hmz : mateL s i.pairs = 0
  · rw [if_pos hmz]
    have h1 : ∀ x, firstL x i.pairs = true → s ≠ x ∧ s ≠ mateL x i.pairs := fun x hx => by
      obtain ⟨a1, a2, a3, a4, a5⟩ := hm.fst hx
      refine ⟨fun e => ?_, fun e => ?_⟩
      · subst e; omega
      · rw [← e, hmz] at a3; omega
    have hN : needH (S ||| digit s) i.pairs = 0 := zero_of_pos (need_0 hm) fun x hx e => by
      obtain ⟨b1, b2, b3⟩ := (need_iff hm hx).1 e
      rw [hasD_orF hs hx] at b2
      rcases (hasD_or' hs (hm.fst b1).2.1).1 b3 with b3 | b3
      · rw [hz x b1 b2.1] at b3; cases b3
      · exact (h1 x b1).2 b3
    rw [if_pos hN]
    congr 1
    refine nat_ext_pos (by rw [open_0 hm, open_0 hm]) fun x hx => ?_
    rw [open_iff hm hx, open_iff hm hx]
    constructor
    · rintro ⟨b1, b2, b3⟩
      exact ⟨b1, (hasD_or' hs hx).2 (.inl b2), (hasD_orF hs (hm.fst b1).2.1).2 ⟨b3, (h1 x b1).2⟩⟩
    · rintro ⟨b1, b2, b3⟩
      refine ⟨b1, ?_, ((hasD_orF hs (hm.fst b1).2.1).1 b3).1⟩
      rcases (hasD_or' hs hx).1 b2 with b2 | b2
      · exact b2
      · exact absurd b2 (h1 x b1).1
  · rw [if_neg hmz]
    by_cases hfs : firstL s i.pairs = true
    · rw [if_pos hfs]
      obtain ⟨a1, a2, a3, a4, a5⟩ := hm.fst hfs
      have h1 : ∀ x, firstL x i.pairs = true → s ≠ mateL x i.pairs := fun x hx e => by
        have := (hm.fst hx).2.2.2.2
        rw [← e, hfs] at this; cases this
      have hN : needH (S ||| digit s) i.pairs = 0 := zero_of_pos (need_0 hm) fun x hx e => by
        obtain ⟨b1, b2, b3⟩ := (need_iff hm hx).1 e
        rw [hasD_orF hs hx] at b2
        rcases (hasD_or' hs (hm.fst b1).2.1).1 b3 with b3 | b3
        · rw [hz x b1 b2.1] at b3; cases b3
        · exact h1 x b1 b3
      rw [if_pos hN]
      congr 1
      refine nat_ext_pos (by rw [open_0 hm, or_bit0 (open_0 hm) hs]) fun x hx => ?_
      rw [open_iff hm hx, hasD_or' hs hx, open_iff hm hx]
      constructor
      · rintro (⟨b1, b2, b3⟩ | rfl)
        · exact ⟨b1, (hasD_or' hs hx).2 (.inl b2), (hasD_orF hs (hm.fst b1).2.1).2 ⟨b3, h1 x b1⟩⟩
        · exact ⟨hfs, (hasD_or' hs hx).2 (.inr rfl), (hasD_orF hs a2).2 ⟨hz s hfs hn, fun e => a4 e.symm⟩⟩
      · rintro ⟨b1, b2, b3⟩
        rcases (hasD_or' hs hx).1 b2 with b2 | b2
        · exact .inl ⟨b1, b2, ((hasD_orF hs (hm.fst b1).2.1).1 b3).1⟩
        · exact .inr b2
    · have hfs' : firstL s i.pairs = false := by simpa using hfs
      rw [if_neg hfs]
      obtain ⟨a1, a2, a3, a4⟩ := hm.snd hmz hfs'
      have h1 : ∀ x, firstL x i.pairs = true → s ≠ x := fun x hx e => by subst e; rw [hfs'] at hx; cases hx
      have h2 : ∀ x, s = mateL x i.pairs → firstL x i.pairs = true → x = mateL s i.pairs := fun x e hx => by rw [e, (hm.fst hx).2.2.1]
      have h3 : hasD (openH S i.pairs) (mateL s i.pairs) = true ↔ hasD S (mateL s i.pairs) = true := by
        rw [open_iff hm a1, a2]; exact ⟨fun e => e.2.1, fun e => ⟨a4, e, hn⟩⟩
      by_cases hb : hasD S (mateL s i.pairs) = true
      · rw [if_pos (h3.2 hb)]
        have hN : needH (S ||| digit s) i.pairs = 0 := zero_of_pos (need_0 hm) fun x hx e => by
          obtain ⟨b1, b2, b3⟩ := (need_iff hm hx).1 e
          rw [hasD_orF hs hx] at b2
          rcases (hasD_or' hs (hm.fst b1).2.1).1 b3 with b3 | b3
          · rw [hz x b1 b2.1] at b3; cases b3
          · rw [h2 x b3 b1, hb] at b2; cases b2.1
        rw [if_pos hN]
        congr 1
        refine nat_ext_pos (by rw [open_0 hm, xor_bit0 (open_0 hm) a1]) fun x hx => ?_
        rw [open_iff hm hx, hasD_xor' a1 hx, open_iff hm hx]
        by_cases hxm : mateL s i.pairs = x
        · subst hxm
          rw [a2]
          constructor
          · intro e; exact absurd rfl (e.1 ⟨a4, hb, hn⟩)
          · rintro ⟨_, _, b3⟩
            exact absurd rfl ((hasD_orF hs hs).1 b3).2
        · constructor
          · intro e
            obtain ⟨b1, b2, b3⟩ := e.2 hxm
            exact ⟨b1, (hasD_or' hs hx).2 (.inl b2), (hasD_orF hs (hm.fst b1).2.1).2 ⟨b3, fun e => hxm (h2 x e b1).symm⟩⟩
          · rintro ⟨b1, b2, b3⟩
            refine ⟨fun _ => hxm, fun _ => ⟨b1, ?_, ((hasD_orF hs (hm.fst b1).2.1).1 b3).1⟩⟩
            rcases (hasD_or' hs hx).1 b2 with b2 | b2
            · exact b2
            · exact absurd b2 (h1 x b1)
      · have hb' : hasD S (mateL s i.pairs) = false := by simpa using hb
        rw [if_neg (fun e => hb (h3.1 e)), if_neg]
        intro e
        exact not_zero e _ ((need_iff hm a1).2 ⟨a4, (hasD_orF hs a1).2 ⟨hb', fun e => a3 e.symm⟩, by rw [a2]; exact (hasD_or' hs hs).2 (.inr rfl)⟩)
/-- what is needed ahead of one stop more -/
theorem step_need {i : Prob} (hm : Mated i) {S : Nat} {s : Int} (hs : 1 ≤ s) (hn : hasD S s = false) (h0 : openH S i.pairs = 0) :
    needP i (needH S i.pairs) s = if openH (S ||| digit s) i.pairs = 0 then some (needH (S ||| digit s) i.pairs) else none := by
  have hz : ∀ x, firstL x i.pairs = true → hasD S x = true → hasD S (mateL x i.pairs) = true := fun x hx h1 => by
    cases e : hasD S (mateL x i.pairs) with
    | true => rfl
    | false => exact absurd ((open_iff hm (hm.fst hx).1).2 ⟨hx, h1, e⟩) (not_zero h0 x)
  unfold needP
  by_cases hmz : mateL s i.pairs = 0
  · rw [if_pos hmz]
    have h1 : ∀ x, firstL x i.pairs = true → s ≠ x ∧ s ≠ mateL x i.pairs := fun x hx => by
      obtain ⟨a1, a2, a3, a4, a5⟩ := hm.fst hx
      refine ⟨fun e => ?_, fun e => ?_⟩
      · subst e; omega
      · rw [← e, hmz] at a3; omega
    have hN : openH (S ||| digit s) i.pairs = 0 := zero_of_pos (open_0 hm) fun x hx e => by
      obtain ⟨b1, b2, b3⟩ := (open_iff hm hx).1 e
      rw [hasD_orF hs (hm.fst b1).2.1] at b3
      rcases (hasD_or' hs hx).1 b2 with b2 | b2
      · rw [hz x b1 b2] at b3; cases b3.1
      · exact (h1 x b1).1 b2
    rw [if_pos hN]
    congr 1
    refine nat_ext_pos (by rw [need_0 hm, need_0 hm]) fun x hx => ?_
    rw [need_iff hm hx, need_iff hm hx]
    constructor
    · rintro ⟨b1, b2, b3⟩
      exact ⟨b1, (hasD_orF hs hx).2 ⟨b2, (h1 x b1).1⟩, (hasD_or' hs (hm.fst b1).2.1).2 (.inl b3)⟩
    · rintro ⟨b1, b2, b3⟩
      refine ⟨b1, ((hasD_orF hs hx).1 b2).1, ?_⟩
      rcases (hasD_or' hs (hm.fst b1).2.1).1 b3 with b3 | b3
      · exact b3
      · exact absurd b3 (h1 x b1).2
  · rw [if_neg hmz]
    by_cases hfs : firstL s i.pairs = false
    · rw [if_pos hfs]
      obtain ⟨a1, a2, a3, a4⟩ := hm.snd hmz hfs
      have h1 : ∀ x, firstL x i.pairs = true → s ≠ x := fun x hx e => by subst e; rw [hfs] at hx; cases hx
      have hN : openH (S ||| digit s) i.pairs = 0 := zero_of_pos (open_0 hm) fun x hx e => by
        obtain ⟨b1, b2, b3⟩ := (open_iff hm hx).1 e
        rw [hasD_orF hs (hm.fst b1).2.1] at b3
        rcases (hasD_or' hs hx).1 b2 with b2 | b2
        · rw [hz x b1 b2] at b3; cases b3.1
        · exact h1 x b1 b2
      rw [if_pos hN]
      congr 1
      refine nat_ext_pos (by rw [need_0 hm, or_bit0 (need_0 hm) a1]) fun x hx => ?_
      rw [need_iff hm hx, hasD_or' a1 hx, need_iff hm hx]
      constructor
      · rintro (⟨b1, b2, b3⟩ | rfl)
        · exact ⟨b1, (hasD_orF hs hx).2 ⟨b2, h1 x b1⟩, (hasD_or' hs (hm.fst b1).2.1).2 (.inl b3)⟩
        · refine ⟨a4, (hasD_orF hs a1).2 ⟨?_, fun e => a3 e.symm⟩, by rw [a2]; exact (hasD_or' hs hs).2 (.inr rfl)⟩
          rw [Bool.eq_false_iff]; intro e
          have := hz _ a4 e
          rw [a2, hn] at this; cases this
      · rintro ⟨b1, b2, b3⟩
        rcases (hasD_or' hs (hm.fst b1).2.1).1 b3 with b3 | b3
        · exact .inl ⟨b1, ((hasD_orF hs hx).1 b2).1, b3⟩
        · exact .inr (by rw [b3, (hm.fst b1).2.2.1])
    · have hfs' : firstL s i.pairs = true := by simpa using hfs
      rw [if_neg hfs]
      obtain ⟨a1, a2, a3, a4, a5⟩ := hm.fst hfs'
      have h1 : ∀ x, firstL x i.pairs = true → s ≠ mateL x i.pairs := fun x hx e => by
        have := (hm.fst hx).2.2.2.2
        rw [← e, hfs'] at this; cases this
      have h3 : hasD (needH S i.pairs) s = true ↔ hasD S (mateL s i.pairs) = true := by
        rw [need_iff hm hs]; exact ⟨fun e => e.2.2, fun e => ⟨hfs', hn, e⟩⟩
      by_cases hb : hasD S (mateL s i.pairs) = true
      · rw [if_pos (h3.2 hb)]
        have hN : openH (S ||| digit s) i.pairs = 0 := zero_of_pos (open_0 hm) fun x hx e => by
          obtain ⟨b1, b2, b3⟩ := (open_iff hm hx).1 e
          rw [hasD_orF hs (hm.fst b1).2.1] at b3
          rcases (hasD_or' hs hx).1 b2 with b2 | b2
          · rw [hz x b1 b2] at b3; cases b3.1
          · subst b2; rw [hb] at b3; cases b3.1
        rw [if_pos hN]
        congr 1
        refine nat_ext_pos (by rw [need_0 hm, xor_bit0 (need_0 hm) hs]) fun x hx => ?_
        rw [need_iff hm hx, hasD_xor' hs hx, need_iff hm hx]
        by_cases hxm : s = x
        · subst hxm
          constructor
          · intro e; exact absurd rfl (e.1 ⟨hfs', hn, hb⟩)
          · rintro ⟨_, b2, _⟩
            exact absurd rfl ((hasD_orF hs hs).1 b2).2
        · constructor
          · intro e
            obtain ⟨b1, b2, b3⟩ := e.2 hxm
            exact ⟨b1, (hasD_orF hs hx).2 ⟨b2, hxm⟩, (hasD_or' hs (hm.fst b1).2.1).2 (.inl b3)⟩
          · rintro ⟨b1, b2, b3⟩
            refine ⟨fun _ => hxm, fun _ => ⟨b1, ((hasD_orF hs hx).1 b2).1, ?_⟩⟩
            rcases (hasD_or' hs (hm.fst b1).2.1).1 b3 with b3 | b3
            · exact b3
            · exact absurd b3 (h1 x b1)
      · have hb' : hasD S (mateL s i.pairs) = false := by simpa using hb
        rw [if_neg (fun e => hb (h3.1 e)), if_neg]
        intro e
        exact not_zero e _ ((open_iff hm hs).2 ⟨hfs', (hasD_or' hs hs).2 (.inr rfl), (hasD_orF hs a2).2 ⟨hb', fun e => a4 e.symm⟩⟩)
/-- the sum of f over a set's stops, of the first n -/
def sumN (f : Stop → Int) (i : Prob) (S : Nat) : Nat → Int
  | 0 => 0
  | n + 1 => sumN f i S n + if hasD S ((n : Int) + 1) = true then f (stopAt i ((n : Int) + 1)) else 0
theorem sumN_or (f : Stop → Int) (i : Prob) {S : Nat} {s : Int} (hs : 1 ≤ s) (hn : hasD S s = false) : ∀ n : Nat, sumN f i (S ||| digit s) n = sumN f i S n + if s ≤ n then f (stopAt i s) else 0
  | 0 => by
    rw [if_neg (by omega)]; rfl
  | n + 1 => by
    unfold sumN
    rw [sumN_or f i hs hn n]
    by_cases e : s = (n : Int) + 1
    · subst e
      rw [if_pos ((hasD_or' hs hs).2 (.inr rfl)), if_neg (show ¬ hasD S ((n : Int) + 1) = true by rw [hn]; simp), if_neg (show ¬ ((n : Int) + 1 ≤ (n : Int)) by omega), if_pos (show (n : Int) + 1 ≤ ((n + 1 : Nat) : Int) by omega), Int.add_zero]
    · have : hasD (S ||| digit s) ((n : Int) + 1) = hasD S ((n : Int) + 1) := by
        rw [Bool.eq_iff_iff, hasD_or' hs (by omega)]
        exact ⟨fun h => h.elim id (fun h => absurd h e), .inl⟩
      rw [this]
      by_cases h : s ≤ n
      · rw [if_pos h, if_pos (show s ≤ ((n + 1 : Nat) : Int) by omega)]; omega
      · rw [if_neg h, if_neg (show ¬ s ≤ ((n + 1 : Nat) : Int) by omega)]; omega
theorem sumN_zero (f : Stop → Int) (i : Prob) : ∀ n : Nat, sumN f i 0 n = 0
  | 0 => rfl
  | n + 1 => by unfold sumN; rw [sumN_zero f i n, hasD_zero]; rfl
theorem sumN_le {f : Stop → Int} {i : Prob} {S : Nat} {a b : Int} (ha : a ≤ 0) (hb : 0 ≤ b) (hf : ∀ x, a ≤ f (stopAt i x) ∧ f (stopAt i x) ≤ b) : ∀ n : Nat, a * n ≤ sumN f i S n ∧ sumN f i S n ≤ b * n
  | 0 => by simp [sumN]
  | n + 1 => by
    have := sumN_le ha hb hf (S := S) n
    have h := hf ((n : Int) + 1)
    unfold sumN
    rw [Int.natCast_succ, Int.mul_add, Int.mul_add]
    split <;> omega
def mx0 (x : Stop) : Int := max 0 x.d
def mn0 (x : Stop) : Int := min 0 x.d
def srv (x : Stop) : Int := x.s
/-- the landed extend, told plainly -/
def extC (i : Prob) (cap : Int) (h : HeadP) (s : Int) : Option HeadP :=
  if inB s 1 i.stops.length = true ∧ hasD h.set s = false then
    if needH (h.set ||| digit s) i.pairs ≠ 0 ∨ (stopAt i s).c < max (stopAt i s).o (h.leave + way i h.last s) ∨ h.load + (stopAt i s).d < 0 ∨ cap < h.load + (stopAt i s).d then none
    else some ⟨s, max (stopAt i s).o (h.leave + way i h.last s) + (stopAt i s).s, h.load + (stopAt i s).d, openH (h.set ||| digit s) i.pairs, h.set ||| digit s, h.cost + way i h.last s⟩
  else none
def befC (i : Prob) (s : Int) (t : TailP) : Option TailP :=
  if inB s 1 i.stops.length = true ∧ hasD t.set s = false then
    if openH (t.set ||| digit s) i.pairs ≠ 0 ∨ lateP i s t < (stopAt i s).o then none
    else some ⟨s, lateP i s t, min 0 ((stopAt i s).d + t.low), max 0 ((stopAt i s).d + t.high), needH (t.set ||| digit s) i.pairs, t.set ||| digit s, way i s t.first + t.cost⟩
  else none
theorem ext_code {i : Prob} (hm : Mated i) {c : Int} {h : HeadP} (h1 : h.opn = openH h.set i.pairs) (h2 : needH h.set i.pairs = 0) (s : Int) : extC i (carAt i c).c h s = extendP i c h s := by
  unfold extC extendP
  by_cases ha : inB s 1 i.stops.length = true ∧ hasD h.set s = false
  · rw [if_pos ha, h1, step_open hm (inB_iff.1 ha.1).1 ha.2 h2]
    by_cases hE : ExtOk i c h s
    · rw [if_pos hE]
      obtain ⟨_, _, b1, b2, b3⟩ := hE
      unfold beginP at b1 ⊢
      by_cases hN : needH (h.set ||| digit s) i.pairs = 0
      · rw [if_pos hN, if_neg, Option.map_some, Int.max_comm (stopAt i s).o]
        rintro (q | q | q | q)
        · exact q hN
        all_goals omega
      · rw [if_neg hN, if_pos (.inl hN)]; rfl
    · rw [if_neg hE, if_pos]
      by_cases hN : needH (h.set ||| digit s) i.pairs = 0
      · exact .inr (Decidable.byContradiction fun q => hE ⟨ha.1, ha.2, by unfold beginP; omega, by omega, by omega⟩)
      · exact .inl hN
  · rw [if_neg ha, if_neg (fun e => ha ⟨e.1, e.2.1⟩)]
theorem bef_code {i : Prob} (hm : Mated i) {t : TailP} (h1 : t.need = needH t.set i.pairs) (h2 : openH t.set i.pairs = 0) (s : Int) : befC i s t = beforeP i s t := by
  unfold befC beforeP
  by_cases ha : inB s 1 i.stops.length = true ∧ hasD t.set s = false
  · rw [if_pos ha, h1, step_need hm (inB_iff.1 ha.1).1 ha.2 h2]
    by_cases hE : BefOk i s t
    · rw [if_pos hE]
      obtain ⟨_, _, b1⟩ := hE
      by_cases hN : openH (t.set ||| digit s) i.pairs = 0
      · rw [if_pos hN, if_neg, Option.map_some, Int.add_comm (way i s t.first)]
        rintro (q | q)
        · exact q hN
        · omega
      · rw [if_neg hN, if_pos (.inl hN)]; rfl
    · rw [if_neg hE, if_pos]
      by_cases hN : openH (t.set ||| digit s) i.pairs = 0
      · exact .inr (Decidable.byContradiction fun q => hE ⟨ha.1, ha.2, by omega⟩)
      · exact .inl hN
  · rw [if_neg ha, if_neg (fun e => ha ⟨e.1, e.2.1⟩)]
/-- a head of some stops agrees with its set -/
structure HdB (i : Prob) (c : Int) (h : HeadP) : Prop where
  last : inB h.last 1 i.stops.length = true
  has : hasD h.set h.last = true
  fst : firstL h.last i.pairs = true → hasD h.opn h.last = true
  lo : (stopAt i h.last).o + (stopAt i h.last).s ≤ h.leave
  hi : h.leave ≤ (stopAt i h.last).c + (stopAt i h.last).s
structure HdA (i : Prob) (c : Int) (h : HeadP) : Prop where
  opn : h.opn = openH h.set i.pairs
  need : needH h.set i.pairs = 0
  bit0 : h.set.testBit 0 = false
  top : ∀ x : Int, 1 ≤ x → hasD h.set x = true → x ≤ i.stops.length
  load : h.load = sumN mx0 i h.set i.stops.length + sumN mn0 i h.set i.stops.length
  cap : 0 ≤ h.load ∧ h.load ≤ (carAt i c).c
  cost : 0 ≤ h.cost ∧ h.cost ≤ h.leave - (carAt i c).s - sumN srv i h.set i.stops.length
  rest : h = beginH i c ∨ HdB i c h
structure TlB (i : Prob) (t : TailP) : Prop where
  first : inB t.first 1 i.stops.length = true
  has : hasD t.set t.first = true
  snd : mateL t.first i.pairs ≠ 0 → firstL t.first i.pairs = false → hasD t.need (mateL t.first i.pairs) = true
  lo : (stopAt i t.first).o ≤ t.late
  hi : t.late ≤ (stopAt i t.first).c
structure TlA (i : Prob) (c : Int) (t : TailP) : Prop where
  need : t.need = needH t.set i.pairs
  opn : openH t.set i.pairs = 0
  bit0 : t.set.testBit 0 = false
  top : ∀ x : Int, 1 ≤ x → hasD t.set x = true → x ≤ i.stops.length
  low : sumN mn0 i t.set i.stops.length ≤ t.low ∧ t.low ≤ min 0 (sumN mx0 i t.set i.stops.length + sumN mn0 i t.set i.stops.length)
  high : max 0 (sumN mx0 i t.set i.stops.length + sumN mn0 i t.set i.stops.length) ≤ t.high ∧ t.high ≤ sumN mx0 i t.set i.stops.length
  cost : 0 ≤ t.cost ∧ t.cost ≤ (carAt i c).e - t.late - sumN srv i t.set i.stops.length
  rest : t = endT i c ∨ TlB i t
theorem halves_none {i : Prob} (hm : Mated i) : openH 0 i.pairs = 0 ∧ needH 0 i.pairs = 0 :=
  ⟨zero_of_pos (open_0 hm) (fun x hx e => absurd ((open_iff hm hx).1 e).2.1 (by rw [hasD_zero]; simp)),
   zero_of_pos (need_0 hm) (fun x hx e => absurd ((need_iff hm hx).1 e).2.2 (by rw [hasD_zero]; simp))⟩
theorem begin_agrees {i : Prob} (hm : Mated i) {c : Int} (hc : 0 ≤ (carAt i c).c) : HdA i c (beginH i c) := by
  have h1 := halves_none hm
  refine ⟨h1.1.symm, h1.2, Nat.zero_testBit _, fun x _ h => ?_, ?_, ⟨Int.le_refl _, hc⟩, ⟨Int.le_refl _, ?_⟩, .inl rfl⟩
  · simp only [beginH, hasD_zero] at h; cases h
  · simp only [beginH, sumN_zero]; rfl
  · simp only [beginH, sumN_zero]; omega
theorem end_agrees {i : Prob} (hm : Mated i) {c : Int} : TlA i c (endT i c) := by
  have h1 := halves_none hm
  refine ⟨h1.2.symm, h1.1, Nat.zero_testBit _, fun x _ h => ?_, ?_, ?_, ⟨Int.le_refl _, ?_⟩, .inl rfl⟩
  · simp only [endT, hasD_zero] at h; cases h
  · simp only [endT, sumN_zero]; omega
  · simp only [endT, sumN_zero]; omega
  · simp only [endT, sumN_zero]; omega
theorem ext_agrees {i : Prob} (hm : Mated i) (hf : Fine i) {c : Int} {h g : HeadP} {s : Int} (H : HdA i c h) (hg : extendP i c h s = some g) : HdA i c g := by
  have hx := hg
  rw [← ext_code hm H.opn H.need s] at hx
  obtain ⟨⟨a1, a2, a3, a4, a5⟩, o, ho, rfl⟩ := ext_some.1 hg
  have h1 := inB_iff.1 a1
  have hw := way_bounds hf h.last s
  have hN : needH (h.set ||| digit s) i.pairs = 0 := by
    unfold extC at hx
    rw [if_pos ⟨a1, a2⟩] at hx
    split at hx
    · cases hx
    · next e => exact Decidable.byContradiction fun q => e (.inl q)
  have hO : o = openH (h.set ||| digit s) i.pairs := by
    rw [H.opn, step_open hm h1.1 a2 H.need, if_pos hN] at ho
    injection ho with ho; exact ho.symm
  have e1 := sumN_or mx0 i h1.1 a2 i.stops.length
  have e2 := sumN_or mn0 i h1.1 a2 i.stops.length
  have e3 := sumN_or srv i h1.1 a2 i.stops.length
  rw [if_pos h1.2, show mx0 (stopAt i s) = max 0 (stopAt i s).d from rfl] at e1
  rw [if_pos h1.2, show mn0 (stopAt i s) = min 0 (stopAt i s).d from rfl] at e2
  rw [if_pos h1.2, show srv (stopAt i s) = (stopAt i s).s from rfl] at e3
  have hl := H.load
  have hco := H.cost
  unfold beginP at a3
  refine ⟨hO, hN, or_bit0 H.bit0 h1.1, fun x hx h => ?_, ?_, ⟨a4, a5⟩, ⟨?_, ?_⟩, .inr ⟨a1, (hasD_or' h1.1 h1.1).2 (.inr rfl), fun hfs => ?_, ?_, ?_⟩⟩
  · rcases (hasD_or' h1.1 hx).1 h with h | h
    · exact H.top x hx h
    · rw [← h]; exact h1.2
  · simp only; rw [e1, e2]; omega
  · simp only; omega
  · simp only [beginP]; rw [e3]; omega
  · simp only at hfs ⊢
    unfold opnP at ho
    rw [if_neg (hm.first hfs), if_pos hfs] at ho
    injection ho with ho
    rw [← ho, hasD_or]; simp
  · simp only [beginP]; omega
  · simp only [beginP]; omega
theorem bef_agrees {i : Prob} (hm : Mated i) (hf : Fine i) {c : Int} {t g : TailP} {s : Int} (H : TlA i c t) (hg : beforeP i s t = some g) : TlA i c g := by
  have hx := hg
  rw [← bef_code hm H.need H.opn s] at hx
  obtain ⟨⟨a1, a2, a3⟩, n, hn, rfl⟩ := bef_some.1 hg
  have h1 := inB_iff.1 a1
  have hw := way_bounds hf s t.first
  have hN : openH (t.set ||| digit s) i.pairs = 0 := by
    unfold befC at hx
    rw [if_pos ⟨a1, a2⟩] at hx
    split at hx
    · cases hx
    · next e => exact Decidable.byContradiction fun q => e (.inl q)
  have hO : n = needH (t.set ||| digit s) i.pairs := by
    rw [H.need, step_need hm h1.1 a2 H.opn, if_pos hN] at hn
    injection hn with hn; exact hn.symm
  have e1 := sumN_or mx0 i h1.1 a2 i.stops.length
  have e2 := sumN_or mn0 i h1.1 a2 i.stops.length
  have e3 := sumN_or srv i h1.1 a2 i.stops.length
  rw [if_pos h1.2, show mx0 (stopAt i s) = max 0 (stopAt i s).d from rfl] at e1
  rw [if_pos h1.2, show mn0 (stopAt i s) = min 0 (stopAt i s).d from rfl] at e2
  rw [if_pos h1.2, show srv (stopAt i s) = (stopAt i s).s from rfl] at e3
  have hl := H.low
  have hh := H.high
  have hco := H.cost
  unfold lateP at a3
  refine ⟨hO, hN, or_bit0 H.bit0 h1.1, fun x hx h => ?_, ?_, ?_, ⟨?_, ?_⟩, .inr ⟨a1, (hasD_or' h1.1 h1.1).2 (.inr rfl), fun hm0 hfs => ?_, ?_, ?_⟩⟩
  · rcases (hasD_or' h1.1 hx).1 h with h | h
    · exact H.top x hx h
    · rw [← h]; exact h1.2
  · simp only; rw [e1, e2]; omega
  · simp only; rw [e1, e2]; omega
  · simp only; omega
  · simp only [lateP]; rw [e3]; omega
  · simp only at hfs hm0 ⊢
    unfold needP at hn
    rw [if_neg hm0, if_pos hfs] at hn
    injection hn with hn
    rw [← hn, hasD_or]; simp
  · simp only [lateP]; omega
  · simp only [lateP]; omega
theorem head_agrees {i : Prob} (hm : Mated i) (hf : Fine i) {c : Int} : ∀ {l : List Int} {h : HeadP}, headL i c l = some h → HdA i c h := by
  have key : ∀ (l : List Int) (o : Option HeadP) (h : HeadP), (∀ g, o = some g → HdA i c g) → headFrom i c o l = some h → HdA i c h := by
    intro l
    induction l with
    | nil => intro o h ho hl; exact ho h hl
    | cons s l ih =>
      intro o h ho hl
      refine ih (o.bind fun h => extendP i c h s) h (fun g hg => ?_) hl
      obtain ⟨g', h1, h2⟩ := Option.bind_eq_some_iff.1 hg
      exact ext_agrees hm hf (ho g' h1) h2
  intro l h hl
  refine key l _ h (fun g hg => ?_) hl
  injection hg with hg; subst hg
  exact begin_agrees hm (carAt_bounds hf c).1
theorem tail_agrees {i : Prob} (hm : Mated i) (hf : Fine i) {c : Int} : ∀ {l : List Int} {t : TailP}, tailL i c l = some t → TlA i c t
  | [], t, h => by injection h with h; subst h; exact end_agrees hm
  | s :: l, t, h => by
    obtain ⟨g, h1, h2⟩ := Option.bind_eq_some_iff.1 (show (tailL i c l).bind (fun t => beforeP i s t) = some t from h)
    exact bef_agrees hm hf (tail_agrees hm hf h1) h2
theorem head_zero {i : Prob} {c : Int} {h : HeadP} (H : HdA i c h) : (h.set = 0 ∧ h = beginH i c) ∨ (h.set ≠ 0 ∧ HdB i c h) := by
  rcases H.rest with rfl | B
  · exact .inl ⟨rfl, rfl⟩
  · exact .inr ⟨fun e => not_zero e _ B.has, B⟩
theorem tail_zero {i : Prob} {c : Int} {t : TailP} (H : TlA i c t) : (t.set = 0 ∧ t = endT i c) ∨ (t.set ≠ 0 ∧ TlB i t) := by
  rcases H.rest with rfl | B
  · exact .inl ⟨rfl, rfl⟩
  · exact .inr ⟨fun e => not_zero e _ B.has, B⟩
theorem mated_of {i : Prob} (h : probOk i = true) : Mated i := ⟨(pairs_of h).1, (pairs_of h).2⟩
end Go.Proofs.Ytkheepedjoimmaa
