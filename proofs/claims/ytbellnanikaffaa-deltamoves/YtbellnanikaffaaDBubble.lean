/- A bubble sort's passes, by places. No program. -/
import Derived.Test.YtbellnanikaffaaDStrict
namespace Go.Proofs.Ytbellnanikaffaa
open Go.RowKit
set_option linter.unusedSimpArgs false

def swapAt (l : List Int) (j : Nat) : List Int := l.take j ++ ([l.getD (j + 1) 0, l.getD j 0] ++ l.drop (j + 2))
theorem split_at {l : List Int} {j : Nat} (h : j + 1 < l.length) : l = l.take j ++ ([l.getD j 0, l.getD (j + 1) 0] ++ l.drop (j + 2)) := by
  have h1 : l.drop j = l[j] :: l.drop (j + 1) := List.drop_eq_getElem_cons (by omega)
  have h2 : l.drop (j + 1) = l[j + 1] :: l.drop (j + 2) := List.drop_eq_getElem_cons h
  have e1 : l.getD j 0 = l[j] := by simp [List.getD, show j < l.length by omega]
  have e2 : l.getD (j + 1) 0 = l[j + 1] := by simp [List.getD, h]
  rw [e1, e2]
  show l = l.take j ++ (l[j] :: l[j + 1] :: l.drop (j + 2))
  rw [← h2, ← h1, List.take_append_drop]
theorem swap_perm {l : List Int} {j : Nat} (h : j + 1 < l.length) : (swapAt l j).Perm l := by
  unfold swapAt
  have e := split_at h
  generalize l.getD j 0 = a at *
  generalize l.getD (j + 1) 0 = b at *
  generalize l.take j = p at *
  generalize l.drop (j + 2) = q at *
  rw [e]
  exact List.Perm.append_left p (List.Perm.swap a b q)
theorem swap_len {l : List Int} {j : Nat} (h : j + 1 < l.length) : (swapAt l j).length = l.length := (swap_perm h).length_eq
theorem swap_get {l : List Int} {j : Nat} (h : j + 1 < l.length) (i : Nat) : (swapAt l j).getD i 0 = if i = j then l.getD (j + 1) 0 else if i = j + 1 then l.getD j 0 else l.getD i 0 := by
  have hp : (l.take j).length = j := by rw [List.length_take]; omega
  have e := split_at h
  have hl : ∀ k, l.getD k 0 = (l.take j ++ ([l.getD j 0, l.getD (j + 1) 0] ++ l.drop (j + 2))).getD k 0 := fun k => by rw [← e]
  unfold swapAt
  by_cases h1 : i < j
  · rw [if_neg (by omega), if_neg (by omega), hl i]
    simp [List.getD, List.getElem?_append_left (show i < (l.take j).length by omega)]
  · by_cases h2 : i = j
    · subst h2
      rw [if_pos rfl]
      simp [List.getD, List.getElem?_append_right (show (l.take i).length ≤ i by omega), hp]
    · by_cases h3 : i = j + 1
      · subst h3
        rw [if_neg (by omega), if_pos rfl]
        simp only [List.getD, List.getElem?_append_right (show (l.take j).length ≤ j + 1 by omega), hp]
        simp
      · rw [if_neg h2, if_neg h3, hl i]
        obtain ⟨q, rfl⟩ : ∃ q, i = j + (2 + q) := ⟨i - j - 2, by omega⟩
        simp only [List.getD, List.getElem?_append_right (show (l.take j).length ≤ j + (2 + q) by omega), hp, Nat.add_sub_cancel_left]
        rw [List.getElem?_append_right (by simp), List.getElem?_append_right (by simp)]
        rfl
/-- behind k passes the last k places are right -/
def PB (l : List Int) (n k : Nat) : Prop := ∀ i i', i < i' → i' < n → n - k ≤ i' → l.getD i 0 ≤ l.getD i' 0
def QB (l : List Int) (n k j : Nat) : Prop := PB l n k ∧ ∀ i, i < min j (n - k - 1) → l.getD i 0 ≤ l.getD (min j (n - k - 1)) 0
theorem PB.start (l : List Int) (n : Nat) : PB l n 0 := fun i i' _ h2 h3 => by omega
theorem QB.start {l : List Int} {n k : Nat} (h : PB l n k) : QB l n k 0 := ⟨h, fun i hi => by omega⟩
theorem QB.stay {l : List Int} {n k j : Nat} (h : QB l n k j) (hj : j + 1 < n) (hle : l.getD j 0 ≤ l.getD (j + 1) 0) : QB l n k (j + 1) := by
  refine ⟨h.1, fun i hi => ?_⟩
  rcases Nat.lt_or_ge j (n - k - 1) with hm | hm
  · have e : min (j + 1) (n - k - 1) = j + 1 := by omega
    have e0 : min j (n - k - 1) = j := by omega
    rw [e] at hi ⊢
    have hq := h.2
    rw [e0] at hq
    rcases Nat.lt_or_ge i j with h1 | h1
    · have := hq i h1; omega
    · have : i = j := by omega
      subst this; exact hle
  · have e : min (j + 1) (n - k - 1) = n - k - 1 := by omega
    have e0 : min j (n - k - 1) = n - k - 1 := by omega
    have hq := h.2
    rw [e0] at hq
    rw [e] at hi ⊢
    exact hq i hi
theorem QB.swap {l : List Int} {n k j : Nat} (h : QB l n k j) (hn : l.length = n) (hj : j + 1 < n) (hgt : l.getD (j + 1) 0 < l.getD j 0) : QB (swapAt l j) n k (j + 1) := by
  have hm : j + 1 < n - k := by
    rcases Nat.lt_or_ge (j + 1) (n - k) with h1 | h1
    · exact h1
    · have := h.1 j (j + 1) (by omega) hj h1
      omega
  have g := swap_get (l := l) (j := j) (by omega)
  have e0 : min j (n - k - 1) = j := by omega
  have hq := h.2
  rw [e0] at hq
  refine ⟨fun i i' h1 h2 h3 => ?_, fun i hi => ?_⟩
  · rw [g i, g i', if_neg (show ¬ i' = j by omega), if_neg (show ¬ i' = j + 1 by omega)]
    split
    · exact h.1 (j + 1) i' (by omega) h2 h3
    · split
      · exact h.1 j i' (by omega) h2 h3
      · exact h.1 i i' h1 h2 h3
  · have e : min (j + 1) (n - k - 1) = j + 1 := by omega
    rw [e] at hi ⊢
    rw [g i, g (j + 1), if_neg (show ¬ j + 1 = j by omega), if_pos rfl]
    split
    · omega
    · rw [if_neg (by omega)]
      exact hq i (by omega)
theorem QB.next {l : List Int} {n k j : Nat} (h : QB l n k j) (hk : k < n) (hj : ¬ j + 1 < n) : PB l n (k + 1) := by
  intro i i' h1 h2 h3
  have e0 : min j (n - k - 1) = n - k - 1 := by omega
  have hq := h.2
  rw [e0] at hq
  rcases Nat.lt_or_ge i' (n - k) with h4 | h4
  · have : i' = n - k - 1 := by omega
    subst this
    exact hq i h1
  · exact h.1 i i' h1 h2 h4
theorem PB.sorted {l : List Int} {n k : Nat} (h : PB l n k) (hn : l.length = n) (hk : n ≤ k) : l.Pairwise (· ≤ ·) := by
  rw [List.pairwise_iff_getElem]
  intro i j hi hj hij
  have := h i j hij (by omega) (by omega)
  simpa [List.getD, hi, hj] using this
theorem strict_of {l : List Int} (h : l.Pairwise (· ≤ ·)) (hn : l.Nodup) : StrictI l := by
  unfold StrictI
  rw [List.pairwise_iff_getElem] at *
  intro i j hi hj hij
  have h1 := h i j hi hj hij
  have h2 := (List.pairwise_iff_getElem.1 hn) i j hi hj hij
  omega
end Go.Proofs.Ytbellnanikaffaa
