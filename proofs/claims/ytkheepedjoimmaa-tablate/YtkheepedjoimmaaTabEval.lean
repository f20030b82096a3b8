/- Plain facts, no Go: the head of all stops and the end make a route just if it can be driven (stage 5). -/
import Derived.Test.YtkheepedjoimmaaTabPlain
namespace Go.Proofs.Ytkheepedjoimmaa

def bits (l : List Int) : Nat := l.foldr (fun s a => a ||| digit s) 0
theorem hasD_bits {s : Int} (hs : 1 ≤ s) : ∀ {l : List Int}, (∀ x ∈ l, 1 ≤ x) → hasD (bits l) s = decide (s ∈ l)
  | [], _ => by simp [bits, hasD_zero]
  | x :: l, h => by
    have ih := hasD_bits hs (l := l) (fun y hy => h y (by simp [hy]))
    have hx := h x (by simp)
    rw [show bits (x :: l) = bits l ||| digit x from rfl, hasD_or, ih, Bool.eq_iff_iff]
    simp only [Bool.or_eq_true, decide_eq_true_eq, List.mem_cons]
    constructor
    · rintro (e | e)
      · exact .inr e
      · exact .inl (by omega)
    · rintro (rfl | e)
      · exact .inr rfl
      · exact .inl e
theorem bits_zero {l : List Int} (h : ∀ x ∈ l, 1 ≤ x) : bits l = 0 ↔ l = [] := by
  constructor
  · intro h0
    cases l with
    | nil => rfl
    | cons x l =>
      have := hasD_bits (h x (by simp)) h
      rw [h0, hasD_zero] at this
      simp at this
  · rintro rfl; rfl
theorem bits_erase {m : Int} : ∀ {l : List Int}, (∀ x ∈ l, 1 ≤ x) → l.Nodup → m ∈ l → bits (l.erase m) = bits l ^^^ digit m
  | l, h, hn, hm => by
    have hm1 := h m hm
    have he : ∀ x ∈ l.erase m, 1 ≤ x := fun x hx => h x (List.mem_of_mem_erase hx)
    refine Nat.eq_of_testBit_eq fun k => ?_
    by_cases hk : k = 0
    · subst hk
      have z : ∀ {l : List Int}, (∀ x ∈ l, 1 ≤ x) → (bits l).testBit 0 = false := by
        intro l
        induction l with
        | nil => intro _; exact Nat.zero_testBit _
        | cons y l ih =>
          intro hy
          have := hy y (by simp)
          rw [show bits (y :: l) = bits l ||| digit y from rfl, Nat.testBit_or, ih (fun x hx => hy x (by simp [hx])), test_digit]
          simp; omega
      rw [z he, Nat.testBit_xor, z h, test_digit]
      simp; omega
    · have e1 := hasD_bits (s := (k : Int)) (by omega) he
      have e2 := hasD_bits (s := (k : Int)) (by omega) h
      unfold hasD at e1 e2
      rw [Int.toNat_natCast] at e1 e2
      rw [e1, Nat.testBit_xor, e2, test_digit]
      by_cases e : (k : Int) = m
      · subst e; simp [hm, hn.mem_erase_iff]
      · have : ¬ m.toNat = k := by omega
        simp [this, hn.mem_erase_iff, e]
/-- a head's sets, told by its stops -/
structure St (i : Prob) (met os : List Int) (h : HeadP) : Prop where
  set : h.set = bits met
  opn : h.opn = bits os
  pos : ∀ x ∈ met, 1 ≤ x
  nd : os.Nodup
  mem : ∀ x, x ∈ os ↔ x ∈ met ∧ firstL x i.pairs = true ∧ mateL x i.pairs ∉ met
  sec : ∀ y ∈ met, mateL y i.pairs ≠ 0 → firstL y i.pairs = false → mateL y i.pairs ∈ met
theorem St.opos {i : Prob} {met os : List Int} {h : HeadP} (H : St i met os h) : ∀ x ∈ os, 1 ≤ x := fun x hx => H.pos x ((H.mem x).1 hx).1
theorem st_begin (i : Prob) (c : Int) : St i [] [] (beginH i c) := ⟨rfl, rfl, fun x h => (by simp at h), List.nodup_nil, fun x => by simp, fun x h => (by simp at h)⟩
/-- which lists are met and open behind a stop -/
theorem St.step {i : Prob} (hm : Mated i) {met os : List Int} {h : HeadP} (H : St i met os h) {s : Int} (hs : 1 ≤ s) (hn : s ∉ met) {g : HeadP} (hg : g.set = h.set ||| digit s) :
    (mateL s i.pairs = 0 → g.opn = h.opn → St i (s :: met) os g) ∧
    (mateL s i.pairs ≠ 0 → firstL s i.pairs = true → g.opn = h.opn ||| digit s → St i (s :: met) (s :: os) g) ∧
    (mateL s i.pairs ≠ 0 → firstL s i.pairs = false → mateL s i.pairs ∈ os → g.opn = h.opn ^^^ digit (mateL s i.pairs) → St i (s :: met) (os.erase (mateL s i.pairs)) g) := by
  have hset : g.set = bits (s :: met) := by rw [hg, H.set]; rfl
  have hpos : ∀ x ∈ s :: met, 1 ≤ x := fun x hx => by
    rcases List.mem_cons.1 hx with rfl | hx
    · exact hs
    · exact H.pos x hx
  refine ⟨fun h0 ho => ?_, fun h0 hf ho => ?_, fun h0 hf hmo ho => ?_⟩
  · refine ⟨hset, by rw [ho, H.opn], hpos, H.nd, fun x => ?_, fun y hy h1 h2 => ?_⟩
    · rw [H.mem x]
      constructor
      · rintro ⟨a, b, d⟩
        refine ⟨by simp [a], b, fun e => ?_⟩
        rcases List.mem_cons.1 e with e | e
        · have m := hm.mate (hm.first b)
          rw [e, h0] at m
          have := H.pos x a
          omega
        · exact d e
      · rintro ⟨a, b, d⟩
        rcases List.mem_cons.1 a with rfl | a
        · exact absurd h0 (hm.first b)
        · exact ⟨a, b, fun e => d (by simp [e])⟩
    · rcases List.mem_cons.1 hy with rfl | hy
      · exact absurd h0 h1
      · exact List.mem_cons_of_mem _ (H.sec y hy h1 h2)
  · have m := hm.mate h0
    have hmm : mateL s i.pairs ∉ met := fun e => by
      have := H.sec _ e (by rw [m.2.1]; omega) (by rw [m.2.2.2.1, hf]; rfl)
      rw [m.2.1] at this
      exact hn this
    have hso : s ∉ os := fun e => hn ((H.mem s).1 e).1
    refine ⟨hset, by rw [ho, H.opn]; rfl, hpos, List.nodup_cons.2 ⟨hso, H.nd⟩, fun x => ?_, fun y hy h1 h2 => ?_⟩
    · rw [List.mem_cons, H.mem x]
      constructor
      · rintro (rfl | ⟨a, b, d⟩)
        · exact ⟨by simp, hf, fun e => by rcases List.mem_cons.1 e with e | e; exact m.2.2.1 e; exact hmm e⟩
        · refine ⟨by simp [a], b, fun e => ?_⟩
          rcases List.mem_cons.1 e with e | e
          · have m2 := hm.mate (hm.first b)
            rw [e, hf, b] at m2
            exact absurd m2.2.2.2.1 (by decide)
          · exact d e
      · rintro ⟨a, b, d⟩
        rcases List.mem_cons.1 a with rfl | a
        · exact .inl rfl
        · exact .inr ⟨a, b, fun e => d (by simp [e])⟩
    · rcases List.mem_cons.1 hy with rfl | hy
      · rw [hf] at h2; cases h2
      · exact List.mem_cons_of_mem _ (H.sec y hy h1 h2)
  · have m := hm.mate h0
    refine ⟨hset, by rw [ho, H.opn, bits_erase H.opos H.nd hmo], hpos, H.nd.erase _, fun x => ?_, fun y hy h1 h2 => ?_⟩
    · rw [H.nd.mem_erase_iff, H.mem x]
      constructor
      · rintro ⟨k, a, b, d⟩
        refine ⟨by simp [a], b, fun e => ?_⟩
        rcases List.mem_cons.1 e with e | e
        · have m2 := hm.mate (hm.first b)
          exact k (by rw [← e, m2.2.1])
        · exact d e
      · rintro ⟨a, b, d⟩
        rcases List.mem_cons.1 a with rfl | a
        · rw [hf] at b; cases b
        · refine ⟨fun e => ?_, a, b, fun e => d (by simp [e])⟩
          subst e
          exact d (by rw [m.2.1]; simp)
    · rcases List.mem_cons.1 hy with rfl | hy
      · exact List.mem_cons_of_mem _ ((H.mem _).1 hmo).1
      · exact List.mem_cons_of_mem _ (H.sec y hy h1 h2)
theorem run_all {i : Prob} (hm : Mated i) {c : Int} : ∀ (l : List Int) (h : HeadP) (met os : List Int), St i met os h → 0 ≤ h.load → h.load ≤ (carAt i c).c →
    meetO i c (headFrom i c (some h) l) (some (endT i c)) = if (thereB i l && nodupL met l && pairsL i.pairs met os.length l) = true then (driveL i (carAt i c) h.last h.leave h.load l).map (fun _ => h.cost + costL i h.last l) else none
  | [], h, met, os, H, h0, h1 => by
    have hz := bits_zero H.opos
    show meetP i c h (endT i c) = _
    unfold driveL costL thereB nodupL pairsL
    simp only [List.all_nil, Bool.and_self, Bool.true_and, beq_iff_eq]
    refine Option.ext fun x => ?_
    rw [meet_some]
    unfold MeetOk
    simp only [endT, Nat.and_zero]
    constructor
    · rintro ⟨⟨a, _, b, _⟩, rfl⟩
      rw [H.opn, hz] at a
      subst a
      rw [if_pos (by simp), if_neg (by omega)]
      simp
    · intro hx
      split at hx
      · next ho =>
        have ho' : os = [] := List.length_eq_zero_iff.1 (by omega)
        split at hx
        · simp at hx
        · next hl =>
          simp at hx
          exact ⟨⟨by rw [H.opn, hz]; exact ho', trivial, by omega, by omega, by omega⟩, by omega⟩
      · cases hx
  | s :: l, h, met, os, H, h0, h1 => by
    show meetO i c (headFrom i c (extendP i c h s) l) (some (endT i c)) = _
    have hth : thereB i (s :: l) = (inB s 1 i.stops.length && thereB i l) := rfl
    have hnd : nodupL met (s :: l) = (!met.contains s && nodupL (s :: met) l) := rfl
    have hco : costL i h.last (s :: l) = way i h.last s + costL i s l := rfl
    have hno : meetO i c (headFrom i c none l) (some (endT i c)) = none := by rw [headFrom_none]; rfl
    have hbg : begun i h.last h.leave s = beginP i h s := by unfold begun beginP; rw [Int.max_comm]
    by_cases hin : inB s 1 i.stops.length = true
    · have hs : 1 ≤ s := by rw [inB_iff] at hin; exact hin.1
      by_cases hmet : s ∈ met
      · have hE : extendP i c h s = none := by
          unfold extendP; rw [if_neg]
          intro e
          have := e.2.1
          rw [H.set, hasD_bits hs H.pos] at this
          simp [hmet] at this
        rw [hE, hno, if_neg]
        rw [hnd]
        simp [hmet]
      · have hhas : hasD h.set s = false := by rw [H.set, hasD_bits hs H.pos]; simp [hmet]
        have hcon : met.contains s = false := by simpa using hmet
        have hdr : driveL i (carAt i c) h.last h.leave h.load (s :: l) = if (stopAt i s).c < beginP i h s ∨ h.load + (stopAt i s).d < 0 ∨ (carAt i c).c < h.load + (stopAt i s).d then none
            else (driveL i (carAt i c) s (beginP i h s + (stopAt i s).s) (h.load + (stopAt i s).d) l).map (Drive.more [beginP i h s] [h.load + (stopAt i s).d]) := by rw [← hbg]; rfl
        rw [hth, hin, hnd, hcon, hdr, hco]
        by_cases hbad : (stopAt i s).c < beginP i h s ∨ h.load + (stopAt i s).d < 0 ∨ (carAt i c).c < h.load + (stopAt i s).d
        · have hE : extendP i c h s = none := by
            unfold extendP; rw [if_neg]
            rintro ⟨_, _, a, b, d⟩
            omega
          rw [hE, hno, if_pos hbad]
          simp
        · rw [if_neg hbad]
          have hok : ExtOk i c h s := ⟨hin, hhas, by omega, by omega, by omega⟩
          unfold extendP
          rw [if_pos hok]
          have key : ∀ (o : Nat) (os' : List Int) (op' : Int), op' = os'.length → St i (s :: met) os' ⟨s, beginP i h s + (stopAt i s).s, h.load + (stopAt i s).d, o, h.set ||| digit s, h.cost + way i h.last s⟩ →
              meetO i c (headFrom i c (some ⟨s, beginP i h s + (stopAt i s).s, h.load + (stopAt i s).d, o, h.set ||| digit s, h.cost + way i h.last s⟩) l) (some (endT i c)) =
              if (true && thereB i l && (!false && nodupL (s :: met) l) && pairsL i.pairs (s :: met) op' l) = true then ((driveL i (carAt i c) s (beginP i h s + (stopAt i s).s) (h.load + (stopAt i s).d) l).map (Drive.more [beginP i h s] [h.load + (stopAt i s).d])).map (fun _ => h.cost + (way i h.last s + costL i s l)) else none := by
            intro o os' op' hop H'
            rw [run_all hm l _ _ _ H' (by simp only; omega) (by simp only; omega), hop]
            simp only [Bool.true_and, Bool.not_false, Option.map_map]
            congr 1
            rw [← Int.add_assoc]
            rfl
          have hst := fun o => H.step hm hs hmet (g := ⟨s, beginP i h s + (stopAt i s).s, h.load + (stopAt i s).d, o, h.set ||| digit s, h.cost + way i h.last s⟩) rfl
          unfold opnP
          by_cases h3 : mateL s i.pairs = 0
          · rw [if_pos h3]
            have hp : pairsL i.pairs met os.length (s :: l) = pairsL i.pairs (s :: met) os.length l := by show (if _ then _ else _) = _; rw [if_pos h3]
            rw [hp]
            exact key _ os _ rfl ((hst _).1 h3 rfl)
          · rw [if_neg h3]
            have m := hm.mate h3
            by_cases h4 : firstL s i.pairs = true
            · rw [if_pos h4]
              have hp : pairsL i.pairs met os.length (s :: l) = pairsL i.pairs (s :: met) (os.length + 1) l := by show (if _ then _ else _) = _; rw [if_neg h3, if_pos h4]
              rw [hp]
              exact key _ (s :: os) _ (by simp) ((hst _).2.1 h3 h4 rfl)
            · rw [if_neg h4]
              have h4' : firstL s i.pairs = false := by simpa using h4
              have hmo : hasD h.opn (mateL s i.pairs) = decide (mateL s i.pairs ∈ os) := by rw [H.opn, hasD_bits m.1 H.opos]
              have hmem : mateL s i.pairs ∈ os ↔ mateL s i.pairs ∈ met := by
                rw [H.mem, m.2.2.2.1, m.2.1, h4']
                simp [hmet]
              by_cases h5 : mateL s i.pairs ∈ os
              · rw [if_pos (by rw [hmo]; simpa using h5)]
                have hp : pairsL i.pairs met os.length (s :: l) = pairsL i.pairs (s :: met) (os.length - 1) l := by
                  show (if _ then _ else _) = _
                  rw [if_neg h3, if_neg h4, if_pos (by simp [hmem.1 h5])]
                rw [hp]
                have hl : (os.erase (mateL s i.pairs)).length = os.length - 1 := List.length_erase_of_mem h5
                have : 0 < os.length := List.length_pos_of_mem h5
                exact key _ (os.erase (mateL s i.pairs)) _ (by rw [hl]; omega) ((hst _).2.2 h3 h4' h5 rfl)
              · rw [if_neg (by rw [hmo]; simpa using h5)]
                have hp : pairsL i.pairs met os.length (s :: l) = false := by
                  show (if _ then _ else _) = _
                  rw [if_neg h3, if_neg h4, if_neg]
                  intro e
                  have e' : mateL s i.pairs ∈ s :: met := by simpa using e
                  rcases List.mem_cons.1 e' with e' | e'
                  · exact m.2.2.1 e'
                  · exact h5 (hmem.2 e')
                rw [hp]
                show meetO i c (headFrom i c none l) (some (endT i c)) = _
                rw [hno]
                simp
    · have hE : extendP i c h s = none := by
        unfold extendP; rw [if_neg]
        intro e; exact hin e.1
      have hin' : inB s 1 i.stops.length = false := by simpa using hin
      rw [hE, hno, hth, hin']
      simp
/-- P5.3, plain -/
theorem meet_eval {i : Prob} (hm : Mated i) {c : Int} (hc : 0 ≤ (carAt i c).c) (hcar : inB c 0 (i.cars.length - 1) = true) (a b : List Int) : meetO i c (headL i c a) (tailL i c b) = (evalL i c (a ++ b)).map (·.cost) := by
  rw [meet_all hm hc b a]
  unfold headL
  rw [run_all hm (a ++ b) (beginH i c) [] [] (st_begin i c) (Int.le_refl _) hc]
  unfold evalL
  rw [hcar]
  show (if (thereB i (a ++ b) && nodupL [] (a ++ b) && pairsL i.pairs [] 0 (a ++ b)) = true then (driveL i (carAt i c) 0 (carAt i c).s 0 (a ++ b)).map (fun _ => 0 + costL i 0 (a ++ b)) else none) = _
  rw [Bool.true_and]
  by_cases hq : (thereB i (a ++ b) && nodupL [] (a ++ b) && pairsL i.pairs [] 0 (a ++ b)) = true
  · rw [if_pos hq, if_pos hq]
    cases driveL i (carAt i c) 0 (carAt i c).s 0 (a ++ b) <;> simp
  · rw [if_neg hq, if_neg hq]; rfl
end Go.Proofs.Ytkheepedjoimmaa
