/- Plain facts, no Go: what a text writes as a problem. -/
import Derived.Test.YteibelmgebhleaaDoorNums
import Derived.Test.YteibelmgebhleaaDoorPrintPlain
import Derived.Lib.IndexMore
namespace Go.Proofs.YteibelmgebhleaaDoor

/-- the first line, what follows, whether it has ended -/
def cutL : List UInt8 → List UInt8 × List UInt8 × Bool
  | [] => ([], [], false)
  | c :: l => if c = 10 then ([], l, true) else (c :: (cutL l).1, (cutL l).2.1, (cutL l).2.2)
theorem cutL_none : ∀ {l : List UInt8}, (cutL l).2.2 = false → cutL l = (l, [], false)
  | [], _ => rfl
  | c :: l, h => by
    by_cases hc : c = 10
    · simp [cutL, hc] at h
    · simp only [cutL, hc, if_false] at h ⊢
      have := cutL_none h
      rw [this]
theorem index_ten : ∀ l : List UInt8, (Lib.index l [10] = -1 ∧ cutL l = (l, [], false)) ∨ (0 ≤ Lib.index l [10] ∧ cutL l = (l.take (Lib.index l [10]).toNat, l.drop ((Lib.index l [10]).toNat + 1), true))
  | [] => .inl ⟨rfl, rfl⟩
  | c :: l => by
    by_cases hc : c = 10
    · refine .inr ?_
      subst hc
      have : Lib.index (10 :: l) [10] = 0 := by simp [Lib.index, List.isPrefixOf]
      rw [this]
      exact ⟨by omega, by simp [cutL]⟩
    · have hp : ([10] : List UInt8).isPrefixOf (c :: l) = false := by simp [List.isPrefixOf]; exact fun h => hc h.symm
      rcases index_ten l with ⟨h1, h2⟩ | ⟨h1, h2⟩
      · refine .inl ⟨by simp [Lib.index, hp, h1], ?_⟩
        simp [cutL, hc, h2]
      · have h3 : Lib.index (c :: l) [10] = Lib.index l [10] + 1 := by
          have : (Lib.index l [10] == -1) = false := by simp; omega
          simp [Lib.index, hp, this]
        refine .inr ⟨by omega, ?_⟩
        rw [h3, show (Lib.index l [10] + 1).toNat = (Lib.index l [10]).toNat + 1 by omega]
        simp [cutL, hc, h2]
theorem cut_ten (l : List UInt8) : Lib.cut l [10] = cutL l := by
  unfold Lib.cut
  rcases index_ten l with ⟨h1, h2⟩ | ⟨h1, h2⟩
  · rw [if_neg (by omega), h2]
  · rw [if_pos h1, h2]; rfl
theorem cutL_len : ∀ l : List UInt8, (cutL l).1.length ≤ l.length ∧ (cutL l).2.1.length ≤ l.length ∧ (l ≠ [] → (cutL l).2.1.length < l.length)
  | [] => ⟨by simp [cutL], by simp [cutL], fun h => absurd rfl h⟩
  | c :: l => by
    obtain ⟨h1, h2, _⟩ := cutL_len l
    by_cases hc : c = 10
    · simp [cutL, hc]
    · simp [cutL, hc]; omega
def kindL (x : List UInt8) : Option Nat := if x = nameL 0 then some 0 else if x = nameL 1 then some 1 else if x = nameL 2 then some 2 else if x = nameL 3 then some 3 else none
def countOk (k n : Nat) : Bool := match k with | 0 => n == 3 | 1 => n == 4 | 2 => n == 2 | _ => decide (1 ≤ n)
def lineL (l : List UInt8) : Option (Nat × List Int) :=
  match words l with
  | [] => none
  | x :: ws => if ws.length = l.count 32 then (match kindL x with
    | none => none
    | some k => if countOk k ws.length && ws.all intOk then some (k, ws.map intVal) else none) else none
def addL (i : Prob) : Nat → List Int → Prob
  | 0, a :: b :: c :: _ => { i with cars := i.cars ++ [⟨a, b, c⟩] }
  | 1, a :: b :: c :: d :: _ => { i with stops := i.stops ++ [⟨a, b, c, d⟩] }
  | 2, a :: b :: _ => { i with pairs := i.pairs ++ [⟨a, b⟩] }
  | 3, ns => { i with travel := i.travel ++ [ns] }
  | _, _ => i
def noProb : Prob := ⟨[], [], [], []⟩
def parseF : Nat → Nat → Prob → List UInt8 → Option Prob
  | 0, _, i, _ => some i
  | n + 1, k, i, l => if l = [] then some i else if (cutL l).2.2 = false then none else
    match lineL (cutL l).1 with
    | none => none
    | some (k', ns) => if k' < k then none else parseF n k' (addL i k' ns) (cutL l).2.1
def parseL (l : List UInt8) : Option Prob := parseF l.length 0 noProb l
theorem parseF_nil (n k : Nat) (i : Prob) : parseF n k i [] = some i := by cases n <;> simp [parseF]
theorem parseF_open {n k : Nat} {i : Prob} {l : List UInt8} (hn : l.length ≤ n) (h0 : l ≠ []) (h : (cutL l).2.2 = false) : parseF n k i l = none := by
  cases n with
  | zero => exact absurd (List.eq_nil_of_length_eq_zero (by omega)) h0
  | succ n => simp [parseF, h0, h]
theorem parseF_none {n k : Nat} {i : Prob} {l : List UInt8} (hn : l.length ≤ n) (h0 : l ≠ []) (h : lineL (cutL l).1 = none) : parseF n k i l = none := by
  cases n with
  | zero => exact absurd (List.eq_nil_of_length_eq_zero (by omega)) h0
  | succ n => simp only [parseF, h0, h, if_false]; split <;> rfl
theorem parseF_back {n k k' : Nat} {i : Prob} {l : List UInt8} {ns : List Int} (hn : l.length ≤ n) (h0 : l ≠ []) (h : lineL (cutL l).1 = some (k', ns)) (hk : k' < k) : parseF n k i l = none := by
  cases n with
  | zero => exact absurd (List.eq_nil_of_length_eq_zero (by omega)) h0
  | succ n => simp only [parseF, h0, h, if_false, hk, if_true]; split <;> rfl
theorem parseF_step {n k k' : Nat} {i : Prob} {l : List UInt8} {ns : List Int} (hn : l.length ≤ n) (h0 : l ≠ []) (he : (cutL l).2.2 = true) (h : lineL (cutL l).1 = some (k', ns)) (hk : ¬ k' < k) :
    parseF n k i l = parseF (n - 1) k' (addL i k' ns) (cutL l).2.1 := by
  cases n with
  | zero => exact absurd (List.eq_nil_of_length_eq_zero (by omega)) h0
  | succ n => simp [parseF, h0, he, h, hk]
theorem kindL_lt {x : List UInt8} {k : Nat} (h : kindL x = some k) : k < 4 ∧ x = nameL k := by
  unfold kindL at h
  split at h
  · next e => cases h; exact ⟨by omega, e⟩
  · split at h
    · next e => cases h; exact ⟨by omega, e⟩
    · split at h
      · next e => cases h; exact ⟨by omega, e⟩
      · split at h
        · next e => cases h; exact ⟨by omega, e⟩
        · cases h
theorem kindL_name {k : Nat} (h : k < 4) : kindL (nameL k) = some k := by
  match k, h with
  | 0, _ | 1, _ | 2, _ | 3, _ => decide
theorem kindL_none {x : List UInt8} (h : kindL x = none) {k : Nat} (hk : k < 4) : x ≠ nameL k := by
  intro e; rw [e, kindL_name hk] at h; cases h
/-- a line that is one has as many numbers as its kind asks -/
theorem lineL_some {l : List UInt8} {k : Nat} {ns : List Int} (h : lineL l = some (k, ns)) : ∃ x ws, words l = x :: ws ∧ ws.length = l.count 32 ∧ kindL x = some k ∧ countOk k ws.length = true ∧ ws.all intOk = true ∧ ns = ws.map intVal := by
  unfold lineL at h
  split at h
  · cases h
  · next x ws hw =>
    split at h
    · next hc =>
      split at h
      · cases h
      · next k' hk' =>
        split at h
        · next hh =>
          simp only [Option.some.injEq, Prod.mk.injEq] at h
          obtain ⟨rfl, rfl⟩ := h
          rw [Bool.and_eq_true] at hh
          exact ⟨x, ws, hw, hc, hk', hh.1, hh.2, rfl⟩
        · cases h
    · cases h
end Go.Proofs.YteibelmgebhleaaDoor
