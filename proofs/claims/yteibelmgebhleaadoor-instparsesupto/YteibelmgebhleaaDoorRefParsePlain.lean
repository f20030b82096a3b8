/- Plain facts for draymanref01.ParseInst: the first end of a line; words joined by single blanks; the map of kinds. -/
import Derived.Test.YteibelmgebhleaaDoorParseWalk
import Derived.Test.YteibelmgebhleaaDoorRefCheck
namespace Go.Proofs.YteibelmgebhleaaDoor
open Go.RowKit Go.Maps

theorem cutL_first : ∀ {l : List UInt8} {q : Nat} (h : q < l.length), l[q] = 10 → (∀ j, j < q → l[j]? ≠ some 10) → cutL l = (l.take q, l.drop (q + 1), true)
  | c :: l, 0, _, h10, _ => by
    simp only [List.getElem_cons_zero] at h10
    simp [cutL, h10]
  | c :: l, q + 1, h, h10, hno => by
    have hc : c ≠ 10 := fun e => hno 0 (by omega) (by simp [e])
    have ih := cutL_first (l := l) (q := q) (by simpa using h) (by simpa using h10) (fun j hj => by have := hno (j + 1) (by omega); simpa using this)
    simp [cutL, hc, ih]
theorem cutL_no : ∀ {l : List UInt8}, (∀ j, j < l.length → l[j]? ≠ some 10) → cutL l = (l, [], false)
  | [], _ => rfl
  | c :: l, hno => by
    have hc : c ≠ 10 := fun e => hno 0 (by simp) (by simp [e])
    have ih := cutL_no (l := l) (fun j hj => by have := hno (j + 1) (by simpa using hj); simpa using this)
    simp [cutL, hc, ih]
/-- words with one blank between -/
def joinL : List (List UInt8) → List UInt8
  | [] => []
  | x :: ws => x ++ ws.flatMap fun y => 32 :: y
theorem joinL_one (x : List UInt8) : joinL [x] = x := by simp [joinL]
theorem joinL_more {l : List (List UInt8)} (h : l ≠ []) (x : List UInt8) : joinL (l ++ [x]) = joinL l ++ [32] ++ x := by
  cases l with
  | nil => exact absurd rfl h
  | cons y ws => simp [joinL, List.flatMap_append]
theorem joinL_len : ∀ (l : List (List UInt8)), (joinL l).length ≤ (l.map List.length).sum + l.length
  | [] => by simp [joinL]
  | x :: ws => by
    have : (ws.flatMap fun y => 32 :: y).length = (ws.map List.length).sum + ws.length := by
      induction ws with
      | nil => simp
      | cons y ws ih => simp only [List.flatMap_cons, List.length_append, List.length_cons, List.map_cons, List.sum_cons] at ih ⊢; omega
    simp only [joinL, List.length_append, this, List.map_cons, List.sum_cons, List.length_cons]; omega
theorem first_blank : ∀ (l : List UInt8), (∀ c ∈ l, c ≠ 32) ∨ ∃ p t, l = p ++ 32 :: t ∧ ∀ c ∈ p, c ≠ 32
  | [] => .inl (by simp)
  | c :: l => by
    by_cases hc : c = 32
    · exact .inr ⟨[], l, by simp [hc], by simp⟩
    · rcases first_blank l with h | ⟨p, t, rfl, h⟩
      · refine .inl (fun d hd => ?_)
        rcases List.mem_cons.1 hd with rfl | hd
        · exact hc
        · exact h d hd
      · refine .inr ⟨c :: p, t, by simp, fun d hd => ?_⟩
        rcases List.mem_cons.1 hd with rfl | hd
        · exact hc
        · exact h d hd
theorem count_none {l : List UInt8} (h : ∀ c ∈ l, c ≠ 32) : l.count 32 = 0 := List.count_eq_zero.2 (fun hm => h 32 hm rfl)
theorem words_of {p : List UInt8} (h : ∀ c ∈ p, c ≠ 32) : (p = [] ∧ words p = []) ∨ (p ≠ [] ∧ words p = [p]) := by
  by_cases e : p = []
  · subst e; exact .inl ⟨rfl, rfl⟩
  · exact .inr ⟨e, words_word ⟨e, h⟩⟩
theorem words_joined : ∀ (n : Nat) (l : List UInt8), l.length ≤ n → (words l).length ≤ l.count 32 + 1 ∧ ((words l).length = l.count 32 + 1 → joinL (words l) = l)
  | n, l, hn => by
    rcases first_blank l with h | ⟨p, t, rfl, h⟩
    · rw [count_none h]
      rcases words_of h with ⟨rfl, e⟩ | ⟨_, e⟩
      · rw [e]; simp
      · rw [e]; exact ⟨by simp, fun _ => joinL_one _⟩
    · cases n with
      | zero => simp at hn
      | succ n =>
        obtain ⟨ih1, ih2⟩ := words_joined n t (by simp at hn; omega)
        rw [words_join]
        have hc : (p ++ 32 :: t).count 32 = t.count 32 + 1 := by rw [List.count_append, count_none h, List.count_cons_self]; omega
        rw [hc]
        rcases words_of h with ⟨rfl, e⟩ | ⟨hne, e⟩
        · rw [e]; simp only [List.nil_append]; exact ⟨by omega, fun h => by omega⟩
        · rw [e]
          refine ⟨by simp; omega, fun hl => ?_⟩
          have hl' : (words t).length = t.count 32 + 1 := by simpa using hl
          have := ih2 hl'
          have hw : words t ≠ [] := fun e => by rw [e] at hl'; simp at hl'
          cases hwt : words t with
          | nil => exact absurd hwt hw
          | cons y ws =>
            rw [hwt] at this
            rw [← this]
            simp [joinL]
theorem count_join {ws : List (List UInt8)} (h : ∀ x ∈ ws, IsWord x) : (ws.flatMap fun y => 32 :: y).count 32 = ws.length := by
  induction ws with
  | nil => simp
  | cons y ws ih =>
    have h1 := ih (fun x hx => h x (by simp [hx]))
    have h2 := count_none (h y (by simp)).2
    simp only [List.flatMap_cons, List.count_append, List.count_cons_self, h1, h2, List.length_cons]; omega
theorem join_iff {l x : List UInt8} {ws : List (List UInt8)} (h : words l = x :: ws) : joinL (x :: ws) = l ↔ ws.length = l.count 32 := by
  constructor
  · intro hj
    have hw := words_isWord l
    rw [h] at hw
    have h1 := count_join (ws := ws) (fun y hy => hw y (by simp [hy]))
    have h2 := count_none (hw x (by simp)).2
    rw [← hj]
    simp only [joinL, List.count_append, h1, h2]; omega
  · intro hc
    have := (words_joined l.length l (Nat.le_refl _)).2
    rw [h] at this
    exact this (by simp [hc])
theorem line_empty {l : List UInt8} (h : words l = []) : lineL l = none := by unfold lineL; rw [h]
theorem line_bad {l x : List UInt8} {ws : List (List UInt8)} (h : words l = x :: ws) (hb : ws.all intOk = false) : lineL l = none := by
  unfold lineL; rw [h]; simp only
  split
  · split
    · rfl
    · simp [hb]
  · rfl
theorem line_unlike {l x : List UInt8} {ws : List (List UInt8)} (h : words l = x :: ws) (hj : joinL (x :: ws) ≠ l) : lineL l = none := by
  unfold lineL; rw [h]; simp only
  rw [if_neg (fun e => hj ((join_iff h).2 e))]
theorem line_kind {l x : List UInt8} {ws : List (List UInt8)} (h : words l = x :: ws) (hj : joinL (x :: ws) = l) (ha : ws.all intOk = true) :
    lineL l = match kindL x with | none => none | some k => if countOk k ws.length then some (k, ws.map intVal) else none := by
  unfold lineL; rw [h]; simp only
  rw [if_pos ((join_iff h).1 hj)]
  cases kindL x with
  | none => rfl
  | some k => simp [ha]
/-- the kind as the reference counts it: 0, if it is none -/
def kindNum (x : List UInt8) : Int := match kindL x with | none => 0 | some k => (k : Int) + 1
theorem sum_take (l : List (List UInt8)) (j : Nat) : ((l.take j).map List.length).sum ≤ (l.map List.length).sum := by
  have : l = l.take j ++ l.drop j := (List.take_append_drop j l).symm
  conv => rhs; rw [this]
  simp only [List.map_append, List.sum_append]; omega
theorem join_take_len (l : List UInt8) (j : Nat) : (joinL ((words l).take j)).length ≤ 2 * l.length := by
  have h1 := joinL_len ((words l).take j)
  have h2 := sum_take (words l) j
  have h3 := words_count l
  have h4 := words_length l
  have h5 : ((words l).take j).length ≤ (words l).length := by simp; omega
  omega
theorem word_len {l x : List UInt8} (h : x ∈ words l) : x.length ≤ l.length := by
  have h3 := words_count l
  have : x.length ≤ ((words l).map List.length).sum := by
    have := List.append_of_mem h
    obtain ⟨a, b, e⟩ := this
    rw [e]; simp only [List.map_append, List.map_cons, List.sum_append, List.sum_cons]; omega
  omega
theorem parseF_if_back {n k k' : Nat} {i : Prob} {l : List UInt8} {b : Bool} {ns : List Int} (hn : l.length ≤ n) (h0 : l ≠ []) (h : lineL (cutL l).1 = if b then some (k', ns) else none) (hk : k' < k) : parseF n k i l = none := by
  cases b
  · exact parseF_none hn h0 (by rw [h]; rfl)
  · exact parseF_back hn h0 (by rw [h]; rfl) hk
theorem two_of {l : List Int} (h : l.length = 2) : ∃ a b, l = [a, b] := by
  match l, h with
  | [a, b], _ => exact ⟨a, b, rfl⟩
theorem three_of {l : List Int} (h : l.length = 3) : ∃ a b c, l = [a, b, c] := by
  match l, h with
  | [a, b, c], _ => exact ⟨a, b, c, rfl⟩
theorem four_of {l : List Int} (h : l.length = 4) : ∃ a b c d, l = [a, b, c, d] := by
  match l, h with
  | [a, b, c, d], _ => exact ⟨a, b, c, d, rfl⟩
end Go.Proofs.YteibelmgebhleaaDoor
