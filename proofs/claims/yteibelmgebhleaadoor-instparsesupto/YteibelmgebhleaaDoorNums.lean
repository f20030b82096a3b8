/- Plain facts, no Go: the number that a list of bytes writes, the digits of a number, and that the one is read of the other. -/
import Derived.Test.YteibelmgebhleaaDoorPlain
namespace Go.Proofs.YteibelmgebhleaaDoor
open Go.Lib

def isDig (c : UInt8) : Bool := decide (48 ≤ c.toNat) && decide (c.toNat ≤ 57)
def val (l : List UInt8) : Nat := l.foldl (fun n c => n * 10 + (c.toNat - 48)) 0
def allDig (l : List UInt8) : Bool := l.all isDig
theorem val_snoc (l : List UInt8) (c : UInt8) : val (l ++ [c]) = val l * 10 + (c.toNat - 48) := by simp [val, List.foldl_append]
theorem allDig_snoc (l : List UInt8) (c : UInt8) : allDig (l ++ [c]) = (allDig l && isDig c) := by simp [allDig]
theorem isDig_iff (c : UInt8) : isDig c = true ↔ 48 ≤ c.toNat ∧ c.toNat ≤ 57 := by simp [isDig]
theorem val_lt (l : List UInt8) : allDig l = true → val l < 10 ^ l.length := by
  refine snocInd (P := fun l => allDig l = true → val l < 10 ^ l.length) (fun _ => by decide) (fun l c ih h => ?_) l
  rw [allDig_snoc, Bool.and_eq_true] at h
  have h1 := ih h.1
  have h2 := (isDig_iff c).1 h.2
  rw [val_snoc, List.length_append, List.length_singleton, Nat.pow_succ]
  omega
theorem val_small {l : List UInt8} (h : allDig l = true) (hl : l.length ≤ 18) : val l ≤ 999999999999999999 := by
  have h1 := val_lt l h
  have h2 : 10 ^ l.length ≤ 10 ^ 18 := Nat.pow_le_pow_right (by decide) hl
  have h3 : (10 : Nat) ^ 18 = 1000000000000000000 := by decide
  omega
theorem val_smaller {l : List UInt8} (h : allDig l = true) (hl : l.length ≤ 17) : val l ≤ 99999999999999999 := by
  have h1 := val_lt l h
  have h2 : 10 ^ l.length ≤ 10 ^ 17 := Nat.pow_le_pow_right (by decide) hl
  have h3 : (10 : Nat) ^ 17 = 100000000000000000 := by decide
  omega

/-- what follows the sign -/
def bare (l : List UInt8) : List UInt8 := trimPrefix l [45]
def negL (l : List UInt8) : Bool := hasPrefix l [45]
def valOf (l : List UInt8) : Int := if allDig l then (val l : Int) else 0
def intOk (l : List UInt8) : Bool := decide (1 ≤ (bare l).length) && decide ((bare l).length ≤ 18) && !(((bare l).head? == some 48) && decide (1 < l.length)) && allDig (bare l)
def intVal (l : List UInt8) : Int := if intOk l then (if negL l then -(val (bare l) : Int) else (val (bare l) : Int)) else 0

theorem negL_cons (c : UInt8) (l : List UInt8) : negL (c :: l) = (c == 45) := by
  simp only [negL, hasPrefix, List.isPrefixOf, Bool.and_true]
  exact BEq.comm
theorem bare_minus (l : List UInt8) : bare (45 :: l) = l := by
  have : hasPrefix (45 :: l) [45] = true := negL_cons 45 l
  simp [bare, trimPrefix, this]
theorem bare_other {c : UInt8} (h : c ≠ 45) (l : List UInt8) : bare (c :: l) = c :: l := by
  have : hasPrefix (c :: l) [45] = false := by rw [show hasPrefix (c :: l) [45] = (c == 45) from negL_cons c l]; simp [h]
  simp [bare, trimPrefix, this]
theorem bare_nil : bare [] = [] := rfl
theorem negL_nil : negL [] = false := rfl

/-! digits -/
theorem decDigits_step {u : Nat} (h : 10 ≤ u) : decDigits u = decDigits (u / 10) ++ [UInt8.ofNat (48 + u % 10)] := by rw [decDigits, dif_neg (by omega)]
theorem dig_toNat {d : Nat} (h : d < 10) : (UInt8.ofNat (48 + d)).toNat = 48 + d := by simp; omega
theorem dig_is {d : Nat} (h : d < 10) : isDig (UInt8.ofNat (48 + d)) = true := by rw [isDig_iff, dig_toNat h]; omega
theorem decDigits_val (u : Nat) : allDig (decDigits u) = true ∧ val (decDigits u) = u := by
  induction u using Nat.strongRecOn with
  | _ u ih =>
    by_cases h : u < 10
    · rw [decDigits_one h]
      have := dig_toNat h
      refine ⟨by simp only [allDig, List.all_cons, List.all_nil, dig_is h, Bool.and_true], ?_⟩
      simp only [val, List.foldl_cons, List.foldl_nil, this]; omega
    · obtain ⟨h1, h2⟩ := ih (u / 10) (by omega)
      have hd : u % 10 < 10 := Nat.mod_lt _ (by decide)
      rw [decDigits_step (by omega), allDig_snoc, val_snoc, h1, h2, dig_is hd, dig_toNat hd]
      exact ⟨rfl, by omega⟩
theorem decDigits_ne (u : Nat) : decDigits u ≠ [] := by
  intro h; have := decDigits_length u; have := nDigits_pos u; rw [h] at *; simp at *; omega
theorem decDigits_head {u : Nat} (h : 1 ≤ u) : ∃ c l, decDigits u = c :: l ∧ c ≠ 48 ∧ c ≠ 45 := by
  induction u using Nat.strongRecOn with
  | _ u ih =>
    by_cases h10 : u < 10
    · refine ⟨_, _, decDigits_one h10, fun e => ?_, fun e => ?_⟩ <;> (have := congrArg UInt8.toNat e; rw [dig_toNat h10] at this; simp at this; try omega)
    · obtain ⟨c, l, e, h1, h2⟩ := ih (u / 10) (by omega) (by omega)
      exact ⟨c, l ++ _, by rw [decDigits_step (by omega), e]; rfl, h1, h2⟩
theorem decDigits_zero : decDigits 0 = [48] := decDigits_one (by decide)
theorem nDigits_le (u k : Nat) (h : u < 10 ^ (k + 1)) : nDigits u ≤ k + 1 := by
  induction k generalizing u with
  | zero => rw [nDigits_small (by simpa using h)]; exact Nat.le_refl _
  | succ k ih =>
    by_cases h10 : u < 10
    · rw [nDigits_small h10]; omega
    · rw [nDigits_big h10]
      have := ih (u / 10) (by rw [Nat.div_lt_iff_lt_mul (by decide)]; rw [Nat.pow_succ] at h; exact h)
      omega
theorem nDigits_ge (u k : Nat) (h : 10 ^ k ≤ u) : k + 1 ≤ nDigits u := by
  have h1 := lt_pow_nDigits u
  have h2 := nDigits_pos u
  apply Nat.lt_of_not_le
  intro h3
  have : 10 ^ nDigits u ≤ 10 ^ k := Nat.pow_le_pow_right (by decide) h3
  omega
theorem len18 (u : Nat) : (decDigits u).length ≤ 18 ↔ u < 1000000000000000000 := by
  rw [decDigits_length]
  have e : (10 : Nat) ^ 18 = 1000000000000000000 := by decide
  constructor
  · intro h
    apply Nat.lt_of_not_le
    intro h2
    have := nDigits_ge u 18 (by omega)
    omega
  · intro h; exact nDigits_le u 17 (by omega)
/-- what is read of a number's digits -/
theorem int_itoa (n : Int) : intOk (itoa n) = decide (-1000000000000000000 < n ∧ n < 1000000000000000000) ∧ (intOk (itoa n) = true → intVal (itoa n) = n) := by
  unfold itoa
  by_cases hn : n < 0
  · rw [if_pos hn]
    obtain ⟨c, l, e, h48, h45⟩ := decDigits_head (u := n.natAbs) (by omega)
    obtain ⟨g1, g2⟩ := decDigits_val n.natAbs
    have g3 := len18 n.natAbs
    have hb : bare (45 :: decDigits n.natAbs) = decDigits n.natAbs := bare_minus _
    have hok : intOk (45 :: decDigits n.natAbs) = decide ((decDigits n.natAbs).length ≤ 18) := by
      unfold intOk
      rw [hb, g1]
      have h1 : 1 ≤ (decDigits n.natAbs).length := by rw [e]; simp
      have h2 : ((decDigits n.natAbs).head? == some 48) = false := by rw [e]; simpa using h48
      rw [h2]; simp [h1]
    refine ⟨?_, fun h => ?_⟩
    · rw [hok, decide_eq_decide, g3]; omega
    · unfold intVal
      rw [if_pos h, hb, g2, negL_cons]; simp; omega
  · rw [if_neg hn]
    obtain ⟨g1, g2⟩ := decDigits_val n.toNat
    have g3 := len18 n.toNat
    by_cases h0 : n = 0
    · subst h0
      refine ⟨by rw [show (0 : Int).toNat = 0 from rfl, decDigits_zero]; decide, fun _ => by rw [show (0 : Int).toNat = 0 from rfl, decDigits_zero]; decide⟩
    · obtain ⟨c, l, e, h48, h45⟩ := decDigits_head (u := n.toNat) (by omega)
      have hb : bare (decDigits n.toNat) = decDigits n.toNat := by rw [e]; exact bare_other h45 l
      have hok : intOk (decDigits n.toNat) = decide ((decDigits n.toNat).length ≤ 18) := by
        unfold intOk
        rw [hb, g1]
        have h1 : 1 ≤ (decDigits n.toNat).length := by rw [e]; simp
        have h2 : ((decDigits n.toNat).head? == some 48) = false := by rw [e]; simpa using h48
        rw [h2]; simp [h1]
      refine ⟨?_, fun h => ?_⟩
      · rw [hok, decide_eq_decide, g3]; omega
      · unfold intVal
        rw [if_pos h, hb, g2]
        have : negL (decDigits n.toNat) = false := by rw [e, negL_cons]; simpa using h45
        rw [this]; simp; omega
/-- any byte that is neither a digit nor a sign makes it none -/
theorem int_spoilt {l : List UInt8} {c : UInt8} (hc : c ∈ l) (hd : isDig c = false) (hm : c ≠ 45) : intOk l = false := by
  have hb : c ∈ bare l := by
    cases l with
    | nil => cases hc
    | cons a l =>
      by_cases ha : a = 45
      · subst ha; rw [bare_minus]; rcases List.mem_cons.1 hc with h | h
        · exact absurd h hm
        · exact h
      · rw [bare_other ha]; exact hc
  have : allDig (bare l) = false := by
    rw [allDig, List.all_eq_false]; exact ⟨c, hb, by rw [hd]; decide⟩
  unfold intOk; rw [this]; simp
theorem intVal_none {l : List UInt8} (h : intOk l = false) : intVal l = 0 := by unfold intVal; rw [h]; rfl
end Go.Proofs.YteibelmgebhleaaDoor
