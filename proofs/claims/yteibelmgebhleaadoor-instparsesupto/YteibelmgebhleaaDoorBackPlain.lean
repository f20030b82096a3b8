/- Plain facts, no Go: a problem that may be is read of its text as it was; pairs are mates of one another. -/
import Derived.Test.YteibelmgebhleaaDoorReadLine
import Derived.Test.YteibelmgebhleaaDoorMates
namespace Go.Proofs.YteibelmgebhleaaDoor
open Lib

theorem itoa_bytes (n : Int) : ∀ c ∈ itoa n, c = 45 ∨ isDig c = true := by
  intro c hc
  unfold itoa at hc
  split at hc
  · rcases List.mem_cons.1 hc with rfl | hc
    · exact .inl rfl
    · have := (decDigits_val n.natAbs).1
      simp only [allDig, List.all_eq_true] at this
      exact .inr (this c hc)
  · have := (decDigits_val n.toNat).1
    simp only [allDig, List.all_eq_true] at this
    exact .inr (this c hc)
theorem itoa_no {n : Int} {d : UInt8} (h1 : d ≠ 45) (h2 : isDig d = false) : d ∉ itoa n := by
  intro h
  rcases itoa_bytes n d h with e | e
  · exact h1 e
  · rw [h2] at e; cases e
theorem itoa_ne (n : Int) : itoa n ≠ [] := by
  unfold itoa
  split
  · simp
  · exact decDigits_ne _
theorem itoa_word (n : Int) : IsWord (itoa n) := ⟨itoa_ne n, fun c hc e => by subst e; exact itoa_no (by decide) (by decide) hc⟩
theorem numsL_cons (n : Int) (l : List Int) : numsL (n :: l) = 32 :: (itoa n ++ numsL l) := by simp [numsL]
theorem words_nums : ∀ (ns : List Int) (x : List UInt8), words (x ++ numsL ns) = words x ++ ns.map itoa
  | [], x => by simp [numsL]
  | n :: l, x => by
    rw [numsL_cons, words_join, words_nums l, words_word (itoa_word n)]
    simp
theorem numsL_blanks : ∀ ns : List Int, (numsL ns).count 32 = ns.length
  | [] => rfl
  | n :: l => by
    rw [numsL_cons, List.count_cons_self, List.count_append, numsL_blanks l, List.count_eq_zero.2 (itoa_no (by decide) (by decide))]
    simp
theorem numsL_ten : ∀ ns : List Int, (10 : UInt8) ∉ numsL ns
  | [], h => by simp [numsL] at h
  | n :: l, h => by
    rw [numsL_cons] at h
    rcases List.mem_cons.1 h with h | h
    · exact absurd h (by decide)
    · rcases List.mem_append.1 h with h | h
      · exact itoa_no (by decide) (by decide) h
      · exact numsL_ten l h
theorem nameL_facts {k : Nat} (hk : k < 4) : words (nameL k) = [nameL k] ∧ (nameL k).count 32 = 0 ∧ (10 : UInt8) ∉ nameL k := by
  match k, hk with
  | 0, _ | 1, _ | 2, _ | 3, _ => decide
theorem cutL_at : ∀ (b r : List UInt8), (10 : UInt8) ∉ b → cutL (b ++ 10 :: r) = (b, r, true)
  | [], r, _ => by simp [cutL]
  | c :: b, r, h => by
    have h1 : ¬ c = 10 := fun e => h (by simp [e])
    have h2 := cutL_at b r (fun e => h (by simp [e]))
    simp only [List.cons_append, cutL, h1, if_false, h2]
theorem ints_back {ns : List Int} (h : ∀ n ∈ ns, -1000 ≤ n ∧ n ≤ 1000) : (ns.map itoa).all intOk = true ∧ (ns.map itoa).map intVal = ns := by
  have key : ∀ n ∈ ns, intOk (itoa n) = true := fun n hn => by
    rw [(int_itoa n).1]; have := h n hn; simp; omega
  refine ⟨by simp only [List.all_map, List.all_eq_true]; exact fun n hn => key n hn, ?_⟩
  rw [List.map_map]
  conv => rhs; rw [← List.map_id ns]
  exact List.map_congr_left fun n hn => (int_itoa n).2 (key n hn)
theorem line_back {k : Nat} (hk : k < 4) {ns : List Int} (hc : countOk k ns.length = true) (h : ∀ n ∈ ns, -1000 ≤ n ∧ n ≤ 1000) : lineL (nameL k ++ numsL ns) = some (k, ns) := by
  obtain ⟨h1, h2, _⟩ := nameL_facts hk
  obtain ⟨h3, h4⟩ := ints_back h
  have hw : words (nameL k ++ numsL ns) = nameL k :: ns.map itoa := by rw [words_nums, h1]; rfl
  have := lineL_good hw (by rw [List.count_append, h2, numsL_blanks]; simp) (kindL_name hk) (by simp only [List.length_map, hc, h3]; rfl)
  rw [h4] at this
  exact this
theorem parse_line {k k0 n : Nat} (hk : k < 4) (h0 : k0 ≤ k) {ns : List Int} (hc : countOk k ns.length = true) (h : ∀ n ∈ ns, -1000 ≤ n ∧ n ≤ 1000) (i : Prob) (r : List UInt8) (hn : (lineText k ns ++ r).length ≤ n) :
    parseF n k0 i (lineText k ns ++ r) = parseF (n - 1) k (addL i k ns) r ∧ r.length ≤ n - 1 := by
  have e : lineText k ns ++ r = (nameL k ++ numsL ns) ++ 10 :: r := by simp [lineText]
  have hcut := cutL_at (nameL k ++ numsL ns) r (fun hm => by
    rcases List.mem_append.1 hm with hm | hm
    · exact (nameL_facts hk).2.2 hm
    · exact numsL_ten ns hm)
  rw [e] at hn ⊢
  refine ⟨?_, by simp at hn; omega⟩
  have := parseF_step (k := k0) (i := i) hn (by simp) (by rw [hcut]) (by rw [hcut]; exact line_back hk hc h) (by omega)
  rw [hcut] at this
  exact this
theorem parse_lines {α : Type} (f : α → List Int) {k : Nat} (hk : k < 4) : ∀ (l : List α), (∀ x ∈ l, countOk k (f x).length = true ∧ ∀ n ∈ f x, -1000 ≤ n ∧ n ≤ 1000) → ∀ (n k0 : Nat) (i : Prob) (r : List UInt8), k0 ≤ k → (l.flatMap (fun x => lineText k (f x)) ++ r).length ≤ n →
    ∃ n' k', k' ≤ k ∧ r.length ≤ n' ∧ parseF n k0 i (l.flatMap (fun x => lineText k (f x)) ++ r) = parseF n' k' (l.foldl (fun i x => addL i k (f x)) i) r
  | [], _, n, k0, i, r, h0, hn => ⟨n, k0, h0, by simpa using hn, rfl⟩
  | x :: l, h, n, k0, i, r, h0, hn => by
    rw [List.flatMap_cons, List.append_assoc] at hn ⊢
    obtain ⟨h1, h2⟩ := parse_line hk h0 (h x (by simp)).1 (h x (by simp)).2 i _ hn
    rw [h1]
    exact parse_lines f hk l (fun y hy => h y (by simp [hy])) (n - 1) k _ r (Nat.le_refl _) h2
theorem fold_cars : ∀ (l : List Car) (i : Prob), l.foldl (fun i x => addL i 0 (carNums x)) i = { i with cars := i.cars ++ l }
  | [], i => by simp
  | x :: l, i => by rw [List.foldl_cons, fold_cars l]; simp [addL, carNums]
theorem fold_stops : ∀ (l : List Stop) (i : Prob), l.foldl (fun i x => addL i 1 (stopNums x)) i = { i with stops := i.stops ++ l }
  | [], i => by simp
  | x :: l, i => by rw [List.foldl_cons, fold_stops l]; simp [addL, stopNums]
theorem fold_pairs : ∀ (l : List Pair) (i : Prob), l.foldl (fun i x => addL i 2 (pairNums x)) i = { i with pairs := i.pairs ++ l }
  | [], i => by simp
  | x :: l, i => by rw [List.foldl_cons, fold_pairs l]; simp [addL, pairNums]
theorem fold_rows : ∀ (l : List (List Int)) (i : Prob), l.foldl (fun i x => addL i 3 x) i = { i with travel := i.travel ++ l }
  | [], i => by simp
  | x :: l, i => by rw [List.foldl_cons, fold_rows l]; simp [addL]
theorem parse_text {i : Prob} (h : probOk i = true) : parseL (probText i) = some i := by
  have hf := fine_of h
  simp only [probOk, carsOk, stopsOk, travelOk, Bool.and_eq_true, decide_eq_true_eq, inB_iff, List.all_eq_true] at h
  obtain ⟨⟨⟨⟨_, h2⟩, h3, h4⟩, h5⟩, h6, h7⟩ := h
  have kc : ∀ x ∈ i.cars, countOk 0 (carNums x).length = true ∧ ∀ n ∈ carNums x, -1000 ≤ n ∧ n ≤ 1000 := fun x hx => by
    refine ⟨rfl, fun n hn => ?_⟩
    have h := h2 x hx
    simp only [carOk, Bool.and_eq_true, inB_iff, decide_eq_true_eq] at h
    simp only [carNums, List.mem_cons, List.not_mem_nil, or_false] at hn
    rcases hn with rfl | rfl | rfl <;> omega
  have ks : ∀ x ∈ i.stops, countOk 1 (stopNums x).length = true ∧ ∀ n ∈ stopNums x, -1000 ≤ n ∧ n ≤ 1000 := fun x hx => by
    refine ⟨rfl, fun n hn => ?_⟩
    have h := h4 x hx
    simp only [stopOk, Bool.and_eq_true, inB_iff, decide_eq_true_eq] at h
    simp only [stopNums, List.mem_cons, List.not_mem_nil, or_false] at hn
    rcases hn with rfl | rfl | rfl | rfl <;> omega
  have kp : ∀ x ∈ i.pairs, countOk 2 (pairNums x).length = true ∧ ∀ n ∈ pairNums x, -1000 ≤ n ∧ n ≤ 1000 := fun x hx => by
    refine ⟨rfl, fun n hn => ?_⟩
    have := pairs_in h5 x hx
    simp only [pairNums, List.mem_cons, List.not_mem_nil, or_false] at hn
    rcases hn with rfl | rfl <;> omega
  have kr : ∀ x ∈ i.travel, countOk 3 (id x).length = true ∧ ∀ n ∈ id x, -1000 ≤ n ∧ n ≤ 1000 := fun x hx => by
    have h := rows_in h7 x hx
    refine ⟨by simp [countOk, h.1], fun n hn => ?_⟩
    have := h.2 n hn
    omega
  unfold parseL
  obtain ⟨n1, k1, a1, b1, e1⟩ := parse_lines carNums (k := 0) (by omega) i.cars kc (probText i).length 0 noProb (stopsText i.stops ++ (pairsText i.pairs ++ rowsText i.travel)) (Nat.le_refl _) (Nat.le_refl _)
  obtain ⟨n2, k2, a2, b2, e2⟩ := parse_lines stopNums (k := 1) (by omega) i.stops ks n1 k1 (i.cars.foldl (fun i x => addL i 0 (carNums x)) noProb) (pairsText i.pairs ++ rowsText i.travel) (by omega) b1
  obtain ⟨n3, k3, a3, b3, e3⟩ := parse_lines pairNums (k := 2) (by omega) i.pairs kp n2 k2 (i.stops.foldl (fun i x => addL i 1 (stopNums x)) (i.cars.foldl (fun i x => addL i 0 (carNums x)) noProb)) (rowsText i.travel) (by omega) b2
  obtain ⟨n4, k4, a4, b4, e4⟩ := parse_lines id (k := 3) (by omega) i.travel kr n3 k3 (i.pairs.foldl (fun i x => addL i 2 (pairNums x)) (i.stops.foldl (fun i x => addL i 1 (stopNums x)) (i.cars.foldl (fun i x => addL i 0 (carNums x)) noProb))) [] (by omega) (by simpa [rowsText] using b3)
  rw [List.append_nil] at e4
  refine (e1.trans (e2.trans (e3.trans (e4.trans ?_))))
  rw [parseF_nil]
  simp only [id]
  rw [fold_rows, fold_pairs, fold_stops, fold_cars]
  simp [noProb]
/-- all that pairs name -/
def flatP : List Pair → List Int
  | [] => []
  | p :: l => p.a :: p.b :: flatP l
theorem flatP_len : ∀ l : List Pair, (flatP l).length = 2 * l.length
  | [] => rfl
  | p :: l => by simp only [flatP, List.length_cons, flatP_len l]; omega
theorem flat_of {st : List Stop} : ∀ {l : List Pair} {seen : List Int}, pairsFrom st seen l = true → (flatP l).Nodup ∧ ∀ x ∈ flatP l, x ∉ seen ∧ 1 ≤ x ∧ x ≤ st.length
  | [], _, _ => ⟨List.nodup_nil, fun x hx => by simp [flatP] at hx⟩
  | p :: l, seen, h => by
    simp only [pairsFrom, Bool.and_eq_true] at h
    obtain ⟨g1, g2⟩ := flat_of h.2
    have h1 := h.1
    simp only [pairOk, Bool.and_eq_true, inB_iff, Bool.not_eq_true', List.contains_eq_mem, decide_eq_false_iff_not] at h1
    obtain ⟨⟨⟨ha, ha2⟩, hb, hb2⟩, _⟩ := h1
    refine ⟨?_, fun x hx => ?_⟩
    · simp only [flatP, List.nodup_cons, List.mem_cons]
      refine ⟨fun e => ?_, fun e => (g2 _ e).1 (by simp), g1⟩
      rcases e with e | e
      · exact hb2 (by simp [e])
      · exact (g2 _ e).1 (by simp)
    · simp only [flatP, List.mem_cons] at hx
      rcases hx with rfl | rfl | hx
      · exact ⟨ha2, ha⟩
      · exact ⟨fun e => hb2 (by simp [e]), hb⟩
      · obtain ⟨q1, q2⟩ := g2 x hx
        exact ⟨fun e => q1 (by simp [e]), q2⟩
theorem mate_out {x : Int} : ∀ {l : List Pair}, x ∉ flatP l → mateL x l = 0 ∧ firstL x l = false
  | [], _ => ⟨rfl, rfl⟩
  | p :: l, h => by
    simp only [flatP, List.mem_cons, not_or] at h
    obtain ⟨h1, h2⟩ := mate_out h.2.2
    have e1 : ¬ p.a = x := fun e => h.1 e.symm
    have e2 : ¬ p.b = x := fun e => h.2.1 e.symm
    simp only [mateL, firstL, e1, e2, if_false, h1, h2, and_self]
theorem mate_in {x : Int} : ∀ {l : List Pair}, (flatP l).Nodup → x ∈ flatP l → ∃ y ∈ flatP l, mateL x l = y ∧ mateL y l = x ∧ y ≠ x ∧ firstL x l ≠ firstL y l
  | [], _, h => by simp [flatP] at h
  | p :: l, hn, h => by
    simp only [flatP, List.nodup_cons, List.mem_cons, not_or] at hn h
    obtain ⟨⟨h1, h2⟩, h3, h4⟩ := hn
    have h1' : ¬ p.b = p.a := fun e => h1 e.symm
    rcases h with rfl | rfl | h
    · exact ⟨p.b, by simp [flatP], by simp [mateL], by simp [mateL, h1], h1', by simp [firstL, h1, (mate_out h3).2]⟩
    · exact ⟨p.a, by simp [flatP], by simp [mateL, h1], by simp [mateL], h1, by simp [firstL, h1, (mate_out h3).2]⟩
    · obtain ⟨y, hy, e1, e2, e3, e4⟩ := mate_in h4 h
      have x1 : ¬ p.a = x := fun e => h2 (e ▸ h)
      have x2 : ¬ p.b = x := fun e => h3 (e ▸ h)
      have y1 : ¬ p.a = y := fun e => h2 (e ▸ hy)
      have y2 : ¬ p.b = y := fun e => h3 (e ▸ hy)
      exact ⟨y, by simp [flatP, hy], by simp [mateL, x1, x2, e1], by simp [mateL, y1, y2, e2], e3, by simpa [firstL, x1, y1] using e4⟩
/-- how many of them are at most k -/
def upTo (l : List Int) (k : Nat) : Nat := l.countP fun x => decide (x ≤ (k : Int))
theorem upTo_step : ∀ (l : List Int) (k : Nat), upTo l (k + 1) = upTo l k + l.count ((k : Int) + 1)
  | [], k => rfl
  | x :: l, k => by
    have := upTo_step l k
    simp only [upTo, List.countP_cons, List.count_cons] at this ⊢
    rw [this]
    by_cases h : x = (k : Int) + 1
    · have h2 : ¬ x ≤ (k : Int) := by omega
      have h3 : x ≤ ((k + 1 : Nat) : Int) := by omega
      have e1 : (x == (k : Int) + 1) = true := by simpa using h
      rw [e1, decide_eq_true h3, decide_eq_false h2, if_pos rfl, if_neg (by decide)]; omega
    · have e1 : (x == (k : Int) + 1) = false := by simpa using h
      rw [e1]
      by_cases h2 : x ≤ (k : Int)
      · have h3 : x ≤ ((k + 1 : Nat) : Int) := by omega
        rw [decide_eq_true h3, decide_eq_true h2, if_pos rfl, if_neg (by decide)]; omega
      · have h3 : ¬ x ≤ ((k + 1 : Nat) : Int) := by omega
        rw [decide_eq_false h3, decide_eq_false h2, if_neg (by decide)]; omega
theorem count_one {x : Int} : ∀ {l : List Int}, l.Nodup → x ∈ l → l.count x = 1
  | [], _, h => by simp at h
  | y :: l, hn, h => by
    rw [List.nodup_cons] at hn
    rcases List.mem_cons.1 h with rfl | h
    · rw [List.count_cons_self, List.count_eq_zero.2 hn.1]
    · have hne : y ≠ x := fun e => by subst e; exact hn.1 h
      rw [List.count_cons_of_ne hne, count_one hn.2 h]
theorem upTo_all {l : List Int} {n : Nat} (h : ∀ x ∈ l, x ≤ (n : Int)) : upTo l n = l.length := by
  unfold upTo
  rw [List.countP_eq_length]
  exact fun x hx => by simpa using h x hx
theorem upTo_none {l : List Int} (h : ∀ x ∈ l, 1 ≤ x) : upTo l 0 = 0 := by
  unfold upTo
  rw [List.countP_eq_zero]
  exact fun x hx => by have := h x hx; simp; omega
theorem upTo_le (l : List Int) (k : Nat) : upTo l k ≤ l.length := List.countP_le_length
end Go.Proofs.YteibelmgebhleaaDoor
