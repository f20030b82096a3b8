/- Numbers sorted and each once. No program. -/
import Derived.Test.YtneelmmikaefgaaDLib
namespace Go.Proofs.Ytneelmmikaefgaa
open Go.RowKit
set_option linter.unusedSimpArgs false

def StrictI (l : List Int) : Prop := l.Pairwise (· < ·)
theorem sortI_rising (l : List Int) : (sortI l).Pairwise (· ≤ ·) := by
  have h := List.pairwise_mergeSort (le := fun x y : Int => decide (x ≤ y)) (fun a b c h1 h2 => by simp at *; omega) (fun a b => by simp; omega) l
  exact h.imp (fun h => by simpa using h)
theorem sortI_perm (l : List Int) : (sortI l).Perm l := List.mergeSort_perm l _
theorem sortI_mem {l : List Int} {x : Int} : x ∈ sortI l ↔ x ∈ l := (sortI_perm l).mem_iff
theorem get_toArray {s : List Int} {j : Nat} (h : j < s.length) : s.toArray[j]! = s[j] := by simp [h]
theorem compact_upto (s : List Int) (hs : s.Pairwise (· ≤ ·)) : ∀ m, m ≤ s.length → (∀ y, y ∈ Lib.compactUpTo s.toArray m ↔ y ∈ s.take m) ∧ (Lib.compactUpTo s.toArray m).Pairwise (· < ·)
  | 0, _ => by simp [Lib.compactUpTo]
  | m + 1, hm => by
    obtain ⟨ih1, ih2⟩ := compact_upto s hs m (by omega)
    have hlt : m < s.length := by omega
    rw [Lib.compactUpTo_succ, take_snoc hlt, get_toArray hlt]
    by_cases hk : Lib.keeps s.toArray m = true
    · rw [if_pos hk]
      refine ⟨fun y => by rw [List.mem_append, List.mem_append, ih1], ?_⟩
      refine List.pairwise_append.2 ⟨ih2, List.pairwise_singleton _ _, fun a ha b hb => ?_⟩
      obtain rfl := List.mem_singleton.1 hb
      have ha := (ih1 a).1 ha
      obtain ⟨i, hi, rfl⟩ := List.mem_iff_getElem.1 ha
      rw [List.length_take] at hi
      have him : i < m := by omega
      rw [List.getElem_take]
      unfold Lib.keeps at hk
      have hk := of_decide_eq_true hk
      rcases hk with h0 | h1
      · omega
      · rw [get_toArray hlt, get_toArray (by omega)] at h1
        have h2 : s[m - 1] ≤ s[m] := (List.pairwise_iff_getElem.1 hs) (m - 1) m (by omega) hlt (by omega)
        have h3 : s[i] ≤ s[m - 1] := by
          rcases Nat.lt_or_ge i (m - 1) with h | h
          · exact (List.pairwise_iff_getElem.1 hs) i (m - 1) (by omega) (by omega) h
          · have : i = m - 1 := by omega
            subst this
            exact Int.le_refl _
        omega
    · rw [if_neg hk, List.append_nil]
      refine ⟨fun y => ?_, ih2⟩
      rw [ih1, List.mem_append, List.mem_singleton]
      refine ⟨.inl, fun h => ?_⟩
      rcases h with h | rfl
      · exact h
      · unfold Lib.keeps at hk
        have hk : ¬ (m = 0 ∨ s.toArray[m]! ≠ s.toArray[m - 1]!) := fun h => hk (decide_eq_true h)
        have hm0 : m ≠ 0 := fun e => hk (.inl e)
        have he : s[m] = s[m - 1] := by
          rcases Decidable.em (s.toArray[m]! = s.toArray[m - 1]!) with h | h
          · rw [get_toArray hlt, get_toArray (by omega)] at h
            exact h
          · exact absurd (.inr h) hk
        rw [he]
        exact List.mem_iff_getElem.2 ⟨m - 1, by rw [List.length_take]; omega, by rw [List.getElem_take]⟩
theorem compact_mem {s : List Int} (hs : s.Pairwise (· ≤ ·)) {y : Int} : y ∈ Lib.compact s ↔ y ∈ s := by
  have := (compact_upto s hs s.length (Nat.le_refl _)).1 y
  rw [List.take_of_length_le (Nat.le_refl _)] at this
  exact this
theorem compact_strict {s : List Int} (hs : s.Pairwise (· ≤ ·)) : StrictI (Lib.compact s) := (compact_upto s hs s.length (Nat.le_refl _)).2
theorem strict_nodup {l : List Int} (h : StrictI l) : l.Nodup := h.imp (fun h => by omega)
theorem strict_same {a b : List Int} (ha : StrictI a) (hb : StrictI b) (h : ∀ y, y ∈ a ↔ y ∈ b) : a = b := by
  induction a generalizing b with
  | nil =>
    rcases b with _ | ⟨y, b⟩
    · rfl
    · exact absurd ((h y).2 (by simp)) (by simp)
  | cons x a ih =>
    rcases b with _ | ⟨y, b⟩
    · exact absurd ((h x).1 (by simp)) (by simp)
    · obtain ⟨a1, a2⟩ := List.pairwise_cons.1 ha
      obtain ⟨b1, b2⟩ := List.pairwise_cons.1 hb
      have hxy : x = y := by
        have h1 := (h x).1 (by simp)
        have h2 := (h y).2 (by simp)
        rcases List.mem_cons.1 h1 with h1 | h1
        · exact h1
        · rcases List.mem_cons.1 h2 with h2 | h2
          · exact h2.symm
          · have := b1 x h1
            have := a1 y h2
            omega
      subst hxy
      rw [ih a2 b2 (fun z => ?_)]
      have hz := h z
      rw [List.mem_cons, List.mem_cons] at hz
      constructor
      · intro hza
        rcases hz.1 (.inr hza) with rfl | hzb
        · have := a1 z hza; omega
        · exact hzb
      · intro hzb
        rcases hz.2 (.inr hzb) with rfl | hza
        · have := b1 z hzb; omega
        · exact hza
theorem compact_short {s : List Int} (hs : s.Pairwise (· ≤ ·)) : (Lib.compact s).length < s.length ↔ ¬ s.Nodup := by
  constructor
  · intro hl hn
    have : Lib.compact s = s := Lib.compact_all s fun j hj => by
      unfold Lib.keeps
      refine decide_eq_true ?_
      rcases Nat.eq_zero_or_pos j with h0 | h0
      · exact .inl h0
      · refine .inr ?_
        rw [get_toArray hj, get_toArray (by omega)]
        intro e
        exact absurd e ((List.pairwise_iff_getElem.1 hn) (j - 1) j (by omega) hj (by omega)).symm
    rw [this] at hl
    omega
  · intro hn
    rcases Nat.lt_or_ge (Lib.compact s).length s.length with h | h
    · exact h
    · exfalso
      have he : (Lib.compact s).length = s.length := Nat.le_antisymm (compact_len s) h
      have hall : ∀ j, j < s.length → Lib.keeps s.toArray j = true := by
        unfold Lib.compact Lib.compactUpTo at he
        rw [List.length_map] at he
        have hr : (List.range s.length).length = s.length := by simp
        have := (List.length_filter_eq_length_iff (p := Lib.keeps s.toArray) (l := List.range s.length)).1 (by rw [he, hr])
        exact fun j hj => this j (List.mem_range.2 hj)
      have h2 := compact_strict hs
      rw [Lib.compact_all s hall] at h2
      exact hn (strict_nodup h2)
/-- is one number among them twice? -/
def twiceI (l : List Int) : Bool := decide ((Lib.compact (sortI l)).length < l.length)
theorem twiceI_iff (l : List Int) : twiceI l = true ↔ ¬ l.Nodup := by
  unfold twiceI
  have h := compact_short (sortI_rising l)
  rw [sortI_length, (sortI_perm l).nodup_iff] at h
  rw [decide_eq_true_eq]
  exact h
end Go.Proofs.Ytneelmmikaefgaa
