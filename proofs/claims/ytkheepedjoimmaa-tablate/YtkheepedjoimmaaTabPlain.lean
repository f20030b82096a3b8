/- Plain facts, no Go: heads and tails of a route, when they meet (stage 5). -/
import Derived.Test.YtkheepedjoimmaaPairsPlain
namespace Go.Proofs.Ytkheepedjoimmaa

def digit (s : Int) : Nat := 2 ^ s.toNat
def hasD (S : Nat) (s : Int) : Bool := S.testBit s.toNat
theorem test_digit (s : Int) (k : Nat) : (digit s).testBit k = decide (s.toNat = k) := by unfold digit; rw [Nat.testBit_two_pow]
theorem or_and_zero {S T : Nat} {s : Int} : (S ||| digit s) &&& T = 0 ↔ hasD T s = false ∧ S &&& T = 0 := by
  constructor
  · intro h
    have h1 : ∀ k, ((S ||| digit s) &&& T).testBit k = false := fun k => by rw [h, Nat.zero_testBit]
    refine ⟨?_, Nat.eq_of_testBit_eq fun k => ?_⟩
    · have := h1 s.toNat
      rw [Nat.testBit_and, Nat.testBit_or, test_digit] at this
      simpa [hasD] using this
    · have := h1 k
      rw [Nat.testBit_and, Nat.testBit_or] at this
      rw [Nat.testBit_and, Nat.zero_testBit]
      cases hS : S.testBit k <;> cases hT : T.testBit k <;> simp_all
  · rintro ⟨h1, h2⟩
    refine Nat.eq_of_testBit_eq fun k => ?_
    have h3 : (S &&& T).testBit k = false := by rw [h2, Nat.zero_testBit]
    rw [Nat.testBit_and] at h3
    rw [Nat.testBit_and, Nat.testBit_or, test_digit, Nat.zero_testBit]
    by_cases hk : s.toNat = k
    · subst hk; simp only [hasD] at h1; simp [h1]
    · simp [hk, h3]
theorem and_or_zero {S T : Nat} {s : Int} : S &&& (T ||| digit s) = 0 ↔ hasD S s = false ∧ S &&& T = 0 := by
  rw [Nat.and_comm, or_and_zero, Nat.and_comm T S]
theorem or_eq {O N : Nat} {s : Int} (h : hasD O s = false) : O ||| digit s = N ↔ hasD N s = true ∧ O = N ^^^ digit s := by
  constructor
  · rintro rfl
    refine ⟨by simp [hasD, Nat.testBit_or, test_digit], Nat.eq_of_testBit_eq fun k => ?_⟩
    rw [Nat.testBit_xor, Nat.testBit_or, test_digit]
    by_cases hk : s.toNat = k
    · subst hk; simp only [hasD] at h; simp [h]
    · simp [hk]
  · rintro ⟨h1, rfl⟩
    refine Nat.eq_of_testBit_eq fun k => ?_
    rw [Nat.testBit_or, Nat.testBit_xor, test_digit]
    by_cases hk : s.toNat = k
    · subst hk; simp only [hasD] at h1; simp [h1]
    · simp [hk]
theorem xor_eq {O N : Nat} {m : Int} (h : hasD N m = false) : hasD O m = true ∧ O ^^^ digit m = N ↔ O = N ||| digit m := by
  rw [eq_comm (a := O) (b := N ||| digit m), or_eq h, eq_comm (a := N)]
theorem hasD_or {S : Nat} {s x : Int} : hasD (S ||| digit s) x = (hasD S x || decide (s.toNat = x.toNat)) := by unfold hasD; rw [Nat.testBit_or, test_digit]
theorem hasD_xor {S : Nat} {s x : Int} : hasD (S ^^^ digit s) x = (hasD S x ^^ decide (s.toNat = x.toNat)) := by unfold hasD; rw [Nat.testBit_xor, test_digit]

structure HeadP where
  last : Int
  leave : Int
  load : Int
  opn : Nat
  set : Nat
  cost : Int
deriving DecidableEq
structure TailP where
  first : Int
  late : Int
  low : Int
  high : Int
  need : Nat
  set : Nat
  cost : Int
deriving DecidableEq
/-- when stop s is begun behind head h -/
def beginP (i : Prob) (h : HeadP) (s : Int) : Int := max (h.leave + way i h.last s) (stopAt i s).o
/-- what is open behind a stop; what is needed ahead of one -/
def opnP (i : Prob) (O : Nat) (s : Int) : Option Nat := if mateL s i.pairs = 0 then some O else if firstL s i.pairs = true then some (O ||| digit s) else if hasD O (mateL s i.pairs) = true then some (O ^^^ digit (mateL s i.pairs)) else none
def needP (i : Prob) (N : Nat) (s : Int) : Option Nat := if mateL s i.pairs = 0 then some N else if firstL s i.pairs = false then some (N ||| digit (mateL s i.pairs)) else if hasD N s = true then some (N ^^^ digit s) else none
def ExtOk (i : Prob) (c : Int) (h : HeadP) (s : Int) : Prop := inB s 1 i.stops.length = true ∧ hasD h.set s = false ∧ beginP i h s ≤ (stopAt i s).c ∧ 0 ≤ h.load + (stopAt i s).d ∧ h.load + (stopAt i s).d ≤ (carAt i c).c
instance (i : Prob) (c : Int) (h : HeadP) (s : Int) : Decidable (ExtOk i c h s) := by unfold ExtOk; infer_instance
def extendP (i : Prob) (c : Int) (h : HeadP) (s : Int) : Option HeadP :=
  if ExtOk i c h s then (opnP i h.opn s).map fun o => ⟨s, beginP i h s + (stopAt i s).s, h.load + (stopAt i s).d, o, h.set ||| digit s, h.cost + way i h.last s⟩ else none
def lateP (i : Prob) (s : Int) (t : TailP) : Int := min (stopAt i s).c (t.late - way i s t.first - (stopAt i s).s)
def BefOk (i : Prob) (s : Int) (t : TailP) : Prop := inB s 1 i.stops.length = true ∧ hasD t.set s = false ∧ (stopAt i s).o ≤ lateP i s t
instance (i : Prob) (s : Int) (t : TailP) : Decidable (BefOk i s t) := by unfold BefOk; infer_instance
def beforeP (i : Prob) (s : Int) (t : TailP) : Option TailP :=
  if BefOk i s t then (needP i t.need s).map fun n => ⟨s, lateP i s t, min 0 ((stopAt i s).d + t.low), max 0 ((stopAt i s).d + t.high), n, t.set ||| digit s, t.cost + way i s t.first⟩ else none
def MeetOk (i : Prob) (c : Int) (h : HeadP) (t : TailP) : Prop := h.opn = t.need ∧ h.set &&& t.set = 0 ∧ h.leave + way i h.last t.first ≤ t.late ∧ 0 ≤ h.load + t.low ∧ h.load + t.high ≤ (carAt i c).c
instance (i : Prob) (c : Int) (h : HeadP) (t : TailP) : Decidable (MeetOk i c h t) := by unfold MeetOk; infer_instance
def meetP (i : Prob) (c : Int) (h : HeadP) (t : TailP) : Option Int := if MeetOk i c h t then some (h.cost + way i h.last t.first + t.cost) else none
def meetO (i : Prob) (c : Int) (h : Option HeadP) (t : Option TailP) : Option Int := h.bind fun h => t.bind fun t => meetP i c h t
structure HInv (i : Prob) (c : Int) (h : HeadP) : Prop where
  sub : ∀ x, hasD h.opn x = true → hasD h.set x = true
  lo : 0 ≤ h.load
  hi : h.load ≤ (carAt i c).c
structure TInv (i : Prob) (t : TailP) : Prop where
  sub : ∀ x, hasD t.need x = true → ∀ s, mateL s i.pairs = x → mateL s i.pairs ≠ 0 → firstL s i.pairs = false → hasD t.set s = true
  lo : t.low ≤ 0
  hi : 0 ≤ t.high
theorem ext_some {i : Prob} {c : Int} {h g : HeadP} {s : Int} : extendP i c h s = some g ↔ ExtOk i c h s ∧ ∃ o, opnP i h.opn s = some o ∧ g = ⟨s, beginP i h s + (stopAt i s).s, h.load + (stopAt i s).d, o, h.set ||| digit s, h.cost + way i h.last s⟩ := by
  unfold extendP
  split
  · next hc =>
    rw [Option.map_eq_some_iff]
    exact ⟨fun ⟨o, h1, h2⟩ => ⟨hc, o, h1, h2.symm⟩, fun ⟨_, o, h1, h2⟩ => ⟨o, h1, h2.symm⟩⟩
  · next hc => exact ⟨fun h => (by cases h), fun h => absurd h.1 hc⟩
theorem bef_some {i : Prob} {t g : TailP} {s : Int} : beforeP i s t = some g ↔ BefOk i s t ∧ ∃ n, needP i t.need s = some n ∧ g = ⟨s, lateP i s t, min 0 ((stopAt i s).d + t.low), max 0 ((stopAt i s).d + t.high), n, t.set ||| digit s, t.cost + way i s t.first⟩ := by
  unfold beforeP
  split
  · next hc =>
    rw [Option.map_eq_some_iff]
    exact ⟨fun ⟨o, h1, h2⟩ => ⟨hc, o, h1, h2.symm⟩, fun ⟨_, o, h1, h2⟩ => ⟨o, h1, h2.symm⟩⟩
  · next hc => exact ⟨fun h => (by cases h), fun h => absurd h.1 hc⟩
theorem meet_some {i : Prob} {c : Int} {h : HeadP} {t : TailP} {x : Int} : meetP i c h t = some x ↔ MeetOk i c h t ∧ x = h.cost + way i h.last t.first + t.cost := by
  unfold meetP
  split
  · next hc => exact ⟨fun e => ⟨hc, by injection e with e; exact e.symm⟩, fun e => by rw [e.2]⟩
  · next hc => exact ⟨fun h => (by cases h), fun h => absurd h.1 hc⟩
theorem opn_need {i : Prob} {O N : Nat} {s : Int} (ho : hasD O s = false) (hn : mateL s i.pairs ≠ 0 → firstL s i.pairs = false → hasD N (mateL s i.pairs) = false) : opnP i O s = some N ↔ needP i N s = some O := by
  unfold opnP needP
  by_cases h3 : mateL s i.pairs = 0
  · rw [if_pos h3, if_pos h3]
    exact ⟨fun e => by injection e with e; rw [e], fun e => by injection e with e; rw [e]⟩
  · rw [if_neg h3, if_neg h3]
    by_cases h4 : firstL s i.pairs = true
    · rw [if_pos h4, if_neg (by rw [h4]; decide)]
      have := or_eq (N := N) ho
      split
      · next h5 => exact ⟨fun e => by injection e with e; rw [(this.1 e).2], fun e => by injection e with e; rw [this.2 ⟨h5, e.symm⟩]⟩
      · next h5 => exact ⟨fun e => by injection e with e; exact absurd (this.1 e).1 h5, fun e => by cases e⟩
    · have h4' : firstL s i.pairs = false := by simpa using h4
      rw [if_neg h4, if_pos h4']
      have := xor_eq (O := O) (hn h3 h4')
      split
      · next h5 => exact ⟨fun e => by injection e with e; rw [this.1 ⟨h5, e⟩], fun e => by injection e with e; rw [(this.2 e.symm).2]⟩
      · next h5 => exact ⟨fun e => (by cases e), fun e => by injection e with e; exact absurd (this.2 e.symm).1 h5⟩
/-- a stop may pass from the tail's front to the head's end -/
theorem meet_shift {i : Prob} {c : Int} {h : HeadP} {t : TailP} (hh : HInv i c h) (ht : TInv i t) (s : Int) : ((extendP i c h s).bind fun g => meetP i c g t) = ((beforeP i s t).bind fun g => meetP i c h g) := by
  have hlo := hh.lo
  have hhi := hh.hi
  have tlo := ht.lo
  have thi := ht.hi
  refine Option.ext fun x => ?_
  rw [Option.bind_eq_some_iff, Option.bind_eq_some_iff]
  constructor
  · rintro ⟨g, h1, h2⟩
    obtain ⟨⟨a1, a2, a3, a4, a5⟩, o, ho, rfl⟩ := ext_some.1 h1
    obtain ⟨⟨b1, b2, b3, b4, b5⟩, rfl⟩ := meet_some.1 h2
    simp only at b1 b2 b3 b4 b5
    rw [or_and_zero] at b2
    subst b1
    have h6 : hasD h.opn s = false := by rw [Bool.eq_false_iff]; intro e; rw [hh.sub s e] at a2; cases a2
    have h7 : mateL s i.pairs ≠ 0 → firstL s i.pairs = false → hasD t.need (mateL s i.pairs) = false := fun e1 e2 => by
      rw [Bool.eq_false_iff]; intro e; rw [ht.sub _ e s rfl e1 e2] at b2; cases b2.1
    unfold beginP at a3 b3
    refine ⟨_, bef_some.2 ⟨⟨a1, b2.1, by unfold lateP; omega⟩, _, (opn_need h6 h7).1 ho, rfl⟩, meet_some.2 ⟨⟨rfl, and_or_zero.2 ⟨a2, b2.2⟩, ?_, ?_, ?_⟩, ?_⟩⟩
    · simp only [lateP]; omega
    · simp only; omega
    · simp only; omega
    · simp only; omega
  · rintro ⟨g, h1, h2⟩
    obtain ⟨⟨a1, a2, a3⟩, n, hn, rfl⟩ := bef_some.1 h1
    obtain ⟨⟨b1, b2, b3, b4, b5⟩, rfl⟩ := meet_some.1 h2
    simp only at b1 b2 b3 b4 b5
    rw [and_or_zero] at b2
    subst b1
    have h6 : hasD h.opn s = false := by rw [Bool.eq_false_iff]; intro e; rw [hh.sub s e] at b2; cases b2.1
    have h7 : mateL s i.pairs ≠ 0 → firstL s i.pairs = false → hasD t.need (mateL s i.pairs) = false := fun e1 e2 => by
      rw [Bool.eq_false_iff]; intro e; rw [ht.sub _ e s rfl e1 e2] at a2; cases a2
    unfold lateP at a3 b3
    refine ⟨_, ext_some.2 ⟨⟨a1, b2.1, by unfold beginP; omega, by omega, by omega⟩, _, (opn_need h6 h7).2 hn, rfl⟩, meet_some.2 ⟨⟨rfl, or_and_zero.2 ⟨a2, b2.2⟩, ?_, ?_, ?_⟩, ?_⟩⟩
    · simp only [beginP]; omega
    · simp only; omega
    · simp only; omega
    · simp only; omega
def headFrom (i : Prob) (c : Int) (h : Option HeadP) (l : List Int) : Option HeadP := l.foldl (fun o s => o.bind fun h => extendP i c h s) h
def beginH (i : Prob) (c : Int) : HeadP := ⟨0, (carAt i c).s, 0, 0, 0, 0⟩
def endT (i : Prob) (c : Int) : TailP := ⟨0, (carAt i c).e, 0, 0, 0, 0, 0⟩
def headL (i : Prob) (c : Int) (l : List Int) : Option HeadP := headFrom i c (some (beginH i c)) l
def tailL (i : Prob) (c : Int) : List Int → Option TailP
  | [] => some (endT i c)
  | s :: l => (tailL i c l).bind fun t => beforeP i s t
theorem headL_snoc (i : Prob) (c : Int) (l : List Int) (s : Int) : headL i c (l ++ [s]) = (headL i c l).bind fun h => extendP i c h s := by
  unfold headL headFrom; rw [List.foldl_append]; rfl
theorem headFrom_none (i : Prob) (c : Int) : ∀ l, headFrom i c none l = none
  | [] => rfl
  | _ :: l => headFrom_none i c l
/-- the pairs of a problem that may be: each stop has at most one mate -/
structure Mated (i : Prob) : Prop where
  nodup : (flatP i.pairs).Nodup
  pos : ∀ x ∈ flatP i.pairs, 1 ≤ x
theorem Mated.mate {i : Prob} (h : Mated i) {s : Int} (hs : mateL s i.pairs ≠ 0) : 1 ≤ mateL s i.pairs ∧ mateL (mateL s i.pairs) i.pairs = s ∧ mateL s i.pairs ≠ s ∧ firstL (mateL s i.pairs) i.pairs = !firstL s i.pairs ∧ 1 ≤ s := by
  by_cases hm : s ∈ flatP i.pairs
  · obtain ⟨y, hy, e1, e2, e3, e4⟩ := mate_in h.nodup hm
    rw [e1]
    refine ⟨h.pos y hy, e2, e3, ?_, h.pos s hm⟩
    cases h1 : firstL s i.pairs <;> cases h2 : firstL y i.pairs <;> simp_all
  · exact absurd (mate_out hm).1 hs
theorem Mated.first {i : Prob} (h : Mated i) {s : Int} (hs : firstL s i.pairs = true) : mateL s i.pairs ≠ 0 := by
  by_cases hm : s ∈ flatP i.pairs
  · obtain ⟨y, hy, e1, _⟩ := mate_in h.nodup hm
    have := h.pos y hy
    omega
  · rw [(mate_out hm).2] at hs; cases hs
theorem ext_inv {i : Prob} {c : Int} {h g : HeadP} {s : Int} (hh : HInv i c h) (hg : extendP i c h s = some g) : HInv i c g := by
  obtain ⟨⟨a1, a2, a3, a4, a5⟩, o, ho, rfl⟩ := ext_some.1 hg
  refine ⟨fun x hx => ?_, a4, a5⟩
  simp only at hx ⊢
  rw [hasD_or]
  unfold opnP at ho
  split at ho
  · injection ho with ho; subst ho; rw [hh.sub x hx, Bool.true_or]
  · split at ho
    · injection ho with ho; subst ho
      rw [hasD_or] at hx
      rcases Bool.or_eq_true_iff.1 hx with hx | hx
      · rw [hh.sub x hx, Bool.true_or]
      · rw [hx, Bool.or_true]
    · split at ho
      · next h5 =>
        injection ho with ho; subst ho
        rw [hasD_xor] at hx
        by_cases e : (mateL s i.pairs).toNat = x.toNat
        · have : hasD h.opn x = true := by unfold hasD at h5 ⊢; rw [← e]; exact h5
          rw [hh.sub x this, Bool.true_or]
        · have : hasD h.opn x = true := by simpa [e] using hx
          rw [hh.sub x this, Bool.true_or]
      · cases ho
theorem bef_inv {i : Prob} (hm : Mated i) {t g : TailP} {s : Int} (ht : TInv i t) (hg : beforeP i s t = some g) : TInv i g := by
  obtain ⟨⟨a1, a2, a3⟩, n, hn, rfl⟩ := bef_some.1 hg
  have hs1 : 1 ≤ s := by rw [inB_iff] at a1; exact a1.1
  refine ⟨fun x hx s' h1 h2 h3 => ?_, by simp only; omega, by simp only; omega⟩
  simp only at hx ⊢
  rw [hasD_or]
  have m' := hm.mate h2
  unfold needP at hn
  split at hn
  · injection hn with hn; subst hn; rw [ht.sub x hx s' h1 h2 h3, Bool.true_or]
  · next h0 =>
    split at hn
    · injection hn with hn; subst hn
      rw [hasD_or] at hx
      rcases Bool.or_eq_true_iff.1 hx with hx | hx
      · rw [ht.sub x hx s' h1 h2 h3, Bool.true_or]
      · have m := hm.mate h0
        have e : mateL s i.pairs = mateL s' i.pairs := by have := of_decide_eq_true hx; omega
        have : s = s' := by rw [← m.2.1, e, m'.2.1]
        rw [this]; simp
    · split at hn
      · next h5 =>
        injection hn with hn; subst hn
        rw [hasD_xor] at hx
        by_cases e : s.toNat = x.toNat
        · simp only [e, decide_true] at hx
          have : hasD t.need x = true := by unfold hasD at h5 ⊢; rw [← e]; exact h5
          rw [this] at hx; cases hx
        · have : hasD t.need x = true := by simpa [e] using hx
          rw [ht.sub x this s' h1 h2 h3, Bool.true_or]
      · cases hn
theorem hasD_zero (x : Int) : hasD 0 x = false := Nat.zero_testBit _
theorem head_inv {i : Prob} {c : Int} (hc : 0 ≤ (carAt i c).c) : ∀ {l : List Int} {h : HeadP}, headL i c l = some h → HInv i c h := by
  have key : ∀ (l : List Int) (o : Option HeadP) (h : HeadP), (∀ g, o = some g → HInv i c g) → headFrom i c o l = some h → HInv i c h := by
    intro l
    induction l with
    | nil => intro o h ho hl; exact ho h hl
    | cons s l ih =>
      intro o h ho hl
      refine ih (o.bind fun h => extendP i c h s) h (fun g hg => ?_) hl
      obtain ⟨g', h1, h2⟩ := Option.bind_eq_some_iff.1 hg
      exact ext_inv (ho g' h1) h2
  intro l h hl
  refine key l _ h (fun g hg => ?_) hl
  injection hg with hg; subst hg
  exact ⟨fun x hx => (by simp only [beginH, hasD_zero] at hx; cases hx), Int.le_refl _, hc⟩
theorem tail_inv {i : Prob} (hm : Mated i) {c : Int} : ∀ {l : List Int} {t : TailP}, tailL i c l = some t → TInv i t
  | [], t, h => by
    injection h with h; subst h
    exact ⟨fun x hx => (by simp only [endT, hasD_zero] at hx; cases hx), Int.le_refl _, Int.le_refl _⟩
  | s :: l, t, h => by
    obtain ⟨g, h1, h2⟩ := Option.bind_eq_some_iff.1 h
    exact bef_inv hm (tail_inv hm h1) h2
/-- head of some stops, tail of others: the same as the head of them all, and the end -/
theorem meet_all {i : Prob} (hm : Mated i) {c : Int} (hc : 0 ≤ (carAt i c).c) : ∀ (b a : List Int), meetO i c (headL i c a) (tailL i c b) = meetO i c (headL i c (a ++ b)) (some (endT i c))
  | [], a => by rw [List.append_nil]; rfl
  | s :: b, a => by
    have ih := meet_all hm hc b (a ++ [s])
    rw [List.append_assoc, List.cons_append, List.nil_append] at ih
    rw [← ih, headL_snoc, show tailL i c (s :: b) = (tailL i c b).bind fun t => beforeP i s t from rfl]
    unfold meetO
    cases ha : headL i c a with
    | none => rfl
    | some h =>
      simp only [Option.bind_some]
      cases hb : tailL i c b with
      | none => simp
      | some t =>
        simp only [Option.bind_some]
        exact (meet_shift (head_inv hc ha) (tail_inv hm hb) s).symm
end Go.Proofs.Ytkheepedjoimmaa
