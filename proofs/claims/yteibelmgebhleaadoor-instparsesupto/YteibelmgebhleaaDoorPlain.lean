/- Plain facts, no Go: the words of a list of bytes, the number that a list of bytes writes, the digits of a number. -/
import Derived.Lib.ItoaNum
import Derived.Lib.Strings
namespace Go.Proofs.YteibelmgebhleaaDoor

/-! words -/
theorem snocInd {P : List UInt8 → Prop} (h0 : P []) (hs : ∀ l c, P l → P (l ++ [c])) (l : List UInt8) : P l := by
  have h : ∀ r : List UInt8, P r.reverse := by
    intro r
    induction r with
    | nil => exact h0
    | cons c r ih => rw [List.reverse_cons]; exact hs _ _ ih
  simpa using h l.reverse
def push (l : List (List UInt8)) (w : List UInt8) : List (List UInt8) := if w = [] then l else l ++ [w]
theorem push_nil (l : List (List UInt8)) : push l [] = l := by simp [push]
theorem push_word (l : List (List UInt8)) {w : List UInt8} (h : w ≠ []) : push l w = l ++ [w] := by simp [push, h]
def wstep (st : List (List UInt8) × List UInt8) (c : UInt8) : List (List UInt8) × List UInt8 := if c = 32 then (push st.1 st.2, []) else (st.1, st.2 ++ [c])
def wst (l : List UInt8) : List (List UInt8) × List UInt8 := l.foldl wstep ([], [])
def words (l : List UInt8) : List (List UInt8) := push (wst l).1 (wst l).2
theorem wst_nil : wst [] = ([], []) := rfl
theorem wst_snoc (l : List UInt8) (c : UInt8) : wst (l ++ [c]) = wstep (wst l) c := by simp [wst, List.foldl_append]
theorem wst_append (l m : List UInt8) : wst (l ++ m) = m.foldl wstep (wst l) := by simp [wst, List.foldl_append]
theorem push_front (p a : List (List UInt8)) (b : List UInt8) : push (p ++ a) b = p ++ push a b := by
  unfold push; split <;> simp
theorem fold_front (p : List (List UInt8)) : ∀ (l : List UInt8) (a : List (List UInt8)) (b : List UInt8),
    l.foldl wstep (p ++ a, b) = (p ++ (l.foldl wstep (a, b)).1, (l.foldl wstep (a, b)).2)
  | [], _, _ => rfl
  | c :: l, a, b => by
    simp only [List.foldl_cons]
    by_cases h : c = 32
    · simp only [wstep, h, if_true]
      rw [push_front]
      exact fold_front p l _ _
    · simp only [wstep, h, if_false]
      exact fold_front p l _ _
theorem words_join (s t : List UInt8) : words (s ++ 32 :: t) = words s ++ words t := by
  have h : wst (s ++ 32 :: t) = (words s ++ (wst t).1, (wst t).2) := by
    rw [wst_append, List.foldl_cons]
    have : wstep (wst s) 32 = (words s ++ [], []) := by simp [wstep, words]
    rw [this, fold_front]
    rfl
  unfold words
  rw [h, push_front]
  rfl
theorem count_append (l : List (List UInt8)) (w : List UInt8) : ((push l w).map List.length).sum = (l.map List.length).sum + w.length := by
  unfold push; split
  · next h => simp [h]
  · simp
theorem words_sum (l : List UInt8) : (((wst l).1.map List.length).sum + (wst l).2.length) + (l.filter (· == 32)).length = l.length := by
  refine snocInd (P := fun l => (((wst l).1.map List.length).sum + (wst l).2.length) + (l.filter (· == 32)).length = l.length) rfl (fun l c ih => ?_) l
  rw [wst_snoc]
  by_cases h : c = 32
  · simp only [wstep, h, if_true, count_append, List.filter_append, List.length_append]
    simp
    omega
  · simp only [wstep, h, if_false, List.filter_append, List.length_append]
    simp [h]
    omega
theorem words_count (l : List UInt8) : ((words l).map List.length).sum + (l.filter (· == 32)).length = l.length := by
  rw [words, count_append]; exact words_sum l
/-- a word: not empty, no blank -/
def IsWord (w : List UInt8) : Prop := w ≠ [] ∧ ∀ c ∈ w, c ≠ 32
theorem wst_word {w : List UInt8} : (∀ c ∈ w, c ≠ 32) → ∀ a b, w.foldl wstep (a, b) = (a, b ++ w) := by
  induction w with
  | nil => intro _ a b; simp
  | cons c w ih =>
    intro h a b
    have hc : c ≠ 32 := h c (by simp)
    simp only [List.foldl_cons, wstep, hc, if_false]
    rw [ih (fun d hd => h d (by simp [hd]))]
    simp
theorem words_word {w : List UInt8} (h : IsWord w) : words w = [w] := by
  have : wst w = ([], w) := by unfold wst; rw [wst_word h.2]; rfl
  unfold words; rw [this]; simp [push, h.1]
theorem isWord_push {l : List (List UInt8)} {w : List UInt8} (hl : ∀ x ∈ l, IsWord x) (hw : ∀ c ∈ w, c ≠ 32) : ∀ x ∈ push l w, IsWord x := by
  unfold push
  split
  · exact hl
  · intro x hx
    rcases List.mem_append.1 hx with h | h
    · exact hl x h
    · rw [List.mem_singleton] at h; subst h; exact ⟨by assumption, hw⟩
theorem wst_isWord (l : List UInt8) : (∀ x ∈ (wst l).1, IsWord x) ∧ ∀ c ∈ (wst l).2, c ≠ 32 := by
  refine snocInd (P := fun l => (∀ x ∈ (wst l).1, IsWord x) ∧ ∀ c ∈ (wst l).2, c ≠ 32) ⟨by simp [wst_nil], by simp [wst_nil]⟩ (fun l c ih => ?_) l
  rw [wst_snoc]
  by_cases h : c = 32
  · simp only [wstep, h, if_true]
    exact ⟨isWord_push ih.1 ih.2, by simp⟩
  · simp only [wstep, h, if_false]
    refine ⟨ih.1, fun d hd => ?_⟩
    rcases List.mem_append.1 hd with g | g
    · exact ih.2 d g
    · rw [List.mem_singleton] at g; subst g; exact h
theorem words_isWord (l : List UInt8) : ∀ x ∈ words l, IsWord x := isWord_push (wst_isWord l).1 (wst_isWord l).2
theorem sum_one {l : List (List UInt8)} (h : ∀ x ∈ l, IsWord x) : l.length ≤ (l.map List.length).sum := by
  induction l with
  | nil => simp
  | cons x l ih =>
    have h1 := ih (fun y hy => h y (by simp [hy]))
    have h2 : 1 ≤ x.length := List.length_pos_iff.2 (h x (by simp)).1
    simp only [List.length_cons, List.map_cons, List.sum_cons]; omega
theorem wst_length (l : List UInt8) : (wst l).1.length ≤ l.length := by
  have h1 := sum_one (wst_isWord l).1
  have h2 := words_sum l
  omega
theorem words_length (l : List UInt8) : (words l).length ≤ l.length := by
  have h1 := sum_one (words_isWord l)
  have h2 := words_count l
  omega
/-- a text that ends in a blank, or is empty: all its words are done -/
theorem wst_blank {t : List UInt8} {l : List (List UInt8)} (h : wst t = (l, [])) : wst (t ++ [32]) = (l, []) := by rw [wst_snoc, h]; simp [wstep, push]
theorem wst_more {t x : List UInt8} {l : List (List UInt8)} (h : wst t = (l, [])) (hx : IsWord x) : wst (t ++ (x ++ [32])) = (l ++ [x], []) := by
  rw [← List.append_assoc, wst_snoc, wst_append, h, wst_word hx.2]
  simp [wstep, push, hx.1]
theorem words_done {t : List UInt8} {l : List (List UInt8)} (h : wst t = (l, [])) : words t = l := by unfold words; rw [h]; exact push_nil l

end Go.Proofs.YteibelmgebhleaaDoor
