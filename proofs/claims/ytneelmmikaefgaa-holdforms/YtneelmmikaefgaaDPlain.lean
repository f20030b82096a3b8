/- A stable insertion sort on an array is the sorted list, like ones in their order; a row of records as the library's sort holds it. No program. -/
import Derived.Test.YtneelmmikaefgaaDBits
import Derived.Shelf.SlSortCmp.InsertionK
import Derived.Sort.OwnSortedInts
namespace Go.Proofs.Ytneelmmikaefgaa
open Go.RowKit
set_option linter.unusedSimpArgs false

section
variable {α : Type} (key : α → Int)
def Rising (l : List α) : Prop := l.Pairwise fun x y => key x ≤ key y
theorem insBy_all (x : α) (l : List α) (h : ∀ y ∈ l, key y ≤ key x) : insBy key x l = l ++ [x] := by
  unfold insBy
  obtain ⟨h1, h2⟩ := while_stop (fun y => decide (key y ≤ key x)) l l.length (fun j hj _ => decide_eq_true (h _ (List.getElem_mem hj))) (Nat.le_refl _) (fun hj => absurd hj (Nat.lt_irrefl _))
  rw [h1, h2]
  simp
theorem insBy_snoc (x y : α) (h : ¬ key y ≤ key x) : ∀ l : List α, insBy key x (l ++ [y]) = insBy key x l ++ [y]
  | [] => by simp [insBy, h]
  | z :: l => by
    have ih := insBy_snoc x y h l
    unfold insBy at ih ⊢
    by_cases hz : key z ≤ key x
    · simp only [List.cons_append, List.takeWhile_cons, List.dropWhile_cons, hz, decide_true, if_true]
      rw [ih]
    · simp only [List.cons_append, List.takeWhile_cons, List.dropWhile_cons, hz, decide_false]
      simp
theorem insBy_rising (x : α) (l : List α) (h : Rising key l) : Rising key (insBy key x l) := by
  induction l with
  | nil => simp [insBy, Rising]
  | cons z l ih =>
    obtain ⟨h1, h2⟩ := List.pairwise_cons.1 h
    have ih := ih h2
    unfold Rising insBy at *
    by_cases hz : key z ≤ key x
    · simp only [List.takeWhile_cons, List.dropWhile_cons, hz, decide_true, if_true, List.cons_append]
      refine List.pairwise_cons.2 ⟨fun y hy => ?_, ih⟩
      have hm := (mem_insBy key x y l).1 hy
      rcases hm with rfl | hm
      · exact hz
      · exact h1 y hm
    · simp only [List.takeWhile_cons, List.dropWhile_cons, hz, decide_false]
      refine List.pairwise_cons.2 ⟨fun y hy => ?_, h⟩
      rcases List.mem_cons.1 hy with rfl | hy
      · omega
      · have := h1 y hy
        omega
theorem foldl_rising (l o : List α) (h : Rising key o) : Rising key (l.foldl (fun o x => insBy key x o) o) := by
  induction l generalizing o with
  | nil => exact h
  | cons x l ih => exact ih _ (insBy_rising key x o h)
theorem sortBy_rising (l : List α) : Rising key (sortBy key l) := foldl_rising key l [] List.Pairwise.nil
theorem sortBy_self {l : List α} (h : Rising key l) : sortBy key l = l := by
  unfold sortBy
  suffices H : ∀ (l o : List α), Rising key (o ++ l) → l.foldl (fun o x => insBy key x o) o = o ++ l from H l [] h
  intro l
  induction l with
  | nil => intro o _; simp
  | cons x l ih =>
    intro o ho
    have hx : ∀ y ∈ o, key y ≤ key x := fun y hy => (List.pairwise_append.1 ho).2.2 y hy x (by simp)
    rw [List.foldl_cons, insBy_all key x o hx, ih (o ++ [x]) (by simpa using ho)]
    simp
theorem sortBy_map {β : Type} (f : β → α) (l : List β) : (sortBy (fun x => key (f x)) l).map f = sortBy key (l.map f) := by
  unfold sortBy
  have ins : ∀ (x : β) (o : List β), (insBy (fun x => key (f x)) x o).map f = insBy key (f x) (o.map f) := by
    intro x o
    unfold insBy
    rw [List.map_append, List.map_cons, List.takeWhile_map, List.dropWhile_map]
    rfl
  suffices H : ∀ (l o : List β), (l.foldl (fun o x => insBy (fun x => key (f x)) x o) o).map f = (l.map f).foldl (fun o x => insBy key x o) (o.map f) from H l []
  intro l
  induction l with
  | nil => intro o; rfl
  | cons x l ih => intro o; rw [List.foldl_cons, ih, ins]; rfl
end

/-! the library's insertion sort -/
section
variable {α : Type} [Inhabited α] (key : α → Int) (lt : α → α → Bool)
theorem swp_lists (d : Array α) (p r : List α) (y x : α) (h : d.toList = p ++ y :: x :: r) : (Go.Sort.swp d (p.length + 1) p.length).toList = p ++ x :: y :: r ∧ d[p.length + 1]! = x ∧ d[p.length]! = y := by
  obtain ⟨l⟩ := d
  subst h
  have e1 : (p ++ y :: x :: r).toArray[p.length + 1]! = x := by simp [List.getElem?_append_right]
  have e2 : (p ++ y :: x :: r).toArray[p.length]! = y := by simp [List.getElem?_append_right]
  refine ⟨?_, e1, e2⟩
  unfold Go.Sort.swp
  rw [e1, e2]
  simp only [List.setIfInBounds_toArray]
  rw [List.set_append_right _ _ (by omega), List.set_append_right _ _ (by omega)]
  simp
theorem insInner_ins (hlt : ∀ x y, lt x y = decide (key x < key y)) : ∀ (n : Nat) (d : Array α) (p q : List α) (x : α), p.length = n → Rising key p → d.toList = p ++ x :: q →
    (Go.Sort.insInner lt 0 n d).toList = insBy key x p ++ q
  | 0, d, p, q, x, hn, _, hd => by
    obtain rfl : p = [] := List.length_eq_zero_iff.1 hn
    rw [Go.Sort.insInner, hd]; simp [insBy]
  | n + 1, d, p, q, x, hn, hp, hd => by
    rcases List.eq_nil_or_concat p with rfl | ⟨p', y, rfl⟩
    · simp at hn
    · rw [List.concat_eq_append] at *
      have hp' : p'.length = n := by simpa using hn
      obtain ⟨s1, s2, s3⟩ := swp_lists d p' q y x (by rw [hd]; simp)
      have hr := (List.pairwise_append.1 hp)
      rw [Go.Sort.insInner, ← hp', s2, s3, hlt]
      by_cases h : key x < key y
      · rw [if_pos (by simp [h]), insBy_snoc key x y (by omega), insInner_ins hlt p'.length _ p' (y :: q) x rfl hr.1 s1]
        simp
      · rw [if_neg (by simp [h]), hd, insBy_all key x (p' ++ [y]) (fun z hz => ?_)]
        · simp
        · rcases List.mem_append.1 hz with hz | hz
          · have := hr.2.2 z hz y (by simp)
            omega
          · have : z = y := by simpa using hz
            subst this; omega
theorem insOuter_ins (hlt : ∀ x y, lt x y = decide (key x < key y)) (l : List α) : ∀ (m i : Nat) (d : Array α), l.length - i = m → i ≤ l.length → d.toList = sortBy key (l.take i) ++ l.drop i →
    (Go.Sort.insOuter lt 0 l.length i d).toList = sortBy key l
  | 0, i, d, hm, hi, hd => by
    have : i = l.length := by omega
    subst this
    rw [Go.Sort.insOuter, if_neg (by omega), hd]; simp
  | m + 1, i, d, hm, hi, hd => by
    have hlt' : i < l.length := by omega
    rw [Go.Sort.insOuter, if_pos hlt']
    refine insOuter_ins hlt l m (i + 1) _ (by omega) (by omega) ?_
    have hdr : l.drop i = l[i] :: l.drop (i + 1) := List.drop_eq_getElem_cons hlt'
    have hl : (sortBy key (l.take i)).length = i := by rw [sortBy_length, List.length_take]; omega
    have := insInner_ins key lt hlt i d (sortBy key (l.take i)) (l.drop (i + 1)) l[i] hl (sortBy_rising key _) (by rw [hd, hdr])
    rw [this, take_snoc hlt', sortBy_snoc]
theorem insertionSort_sortBy (hlt : ∀ x y, lt x y = decide (key x < key y)) (l : List α) : Go.Sort.insertionSort lt l.toArray 0 l.toArray.size = (sortBy key l).toArray := by
  apply Array.ext'
  have hs : l.toArray.size = l.length := by simp
  unfold Go.Sort.insertionSort
  rw [hs]
  rcases Nat.eq_zero_or_pos l.length with h | h
  · have : l = [] := List.length_eq_zero_iff.1 h
    subst this
    rw [Go.Sort.insOuter]; simp [sortBy]
  · refine insOuter_ins key lt hlt l (l.length - 1) 1 _ rfl h ?_
    rcases l with _ | ⟨x, l⟩
    · simp at h
    · simp [sortBy, insBy]
end

/-! rows of records as the library's sort holds them -/
section
variable {α : Type} [Inhabited α] {enc : α → List Value} {k : Nat}
theorem flatK_list (hk : ∀ x, (enc x).length = k) (l : List α) : Go.Sort.flatK enc k l.toArray = (l.flatMap enc).toArray := by
  apply Array.ext
  · simp [flat_len hk]
  · intro t h1 h2
    have ht : t < l.length * k := by simpa using h1
    have k0 : 0 < k := by rcases Nat.eq_zero_or_pos k with h | h; (· subst h; simp at ht); exact h
    have hd : t / k < l.length := (Nat.div_lt_iff_lt_mul k0).2 ht
    have hm := Nat.mod_lt t k0
    have e : t / k * k + t % k = t := by rw [Nat.mul_comm]; exact Nat.div_add_mod t k
    have hf := flat_get hk l (t / k) (t % k) hd hm
    rw [e] at hf
    have hg := Go.Sort.get_flatK enc k l.toArray t (by simpa using ht)
    rw [getElem!_pos _ t h1] at hg
    rw [hg]
    have h3 : (l.flatMap enc)[t]? = some (l.flatMap enc).toArray[t] := by simp at h2 ⊢
    rw [h3] at hf
    have h4 : l.toArray[t / k]! = l[t / k] := by simp [hd]
    rw [h4]
    have hm' : t % k < (enc l[t / k]).length := by rw [hk]; exact hm
    rw [getElem!_pos (enc l[t / k]) (t % k) hm']
    rw [List.getElem?_eq_getElem hm'] at hf
    injection hf with hf
    exact hf.symm
theorem holds_own (hk : ∀ x, (enc x).length = k) {w : World} {g : Nat} {cur : Array Value} {e : TypeId} {l : List α} (hb : w.heap[g]? = some (.cells cur e (0, 0))) (ht : cur.toList.take (l.length * k) = l.flatMap enc) : Go.Sort.HoldsK enc k w g 0 l.toArray := by
  unfold Go.Sort.HoldsK
  rw [flatK_list hk]
  intro j hj
  have hj' : j < (l.flatMap enc).length := by simpa using hj
  have hj2 : j < l.length * k := by rw [← flat_len hk l]; exact hj'
  refine ⟨?_, by simp [World.frozen?, hb]⟩
  have h1 : (cur.toList.take (l.length * k))[j]? = (l.flatMap enc)[j]? := by rw [ht]
  rw [List.getElem?_take_of_lt hj2] at h1
  simp only [World.cell?, hb, Nat.zero_add]
  simp only [Option.isSome_none, Bool.false_eq_true, if_false]
  rw [← Array.getElem?_toList, h1, List.getElem?_eq_getElem hj', getElem!_pos _ j hj]
  simp
theorem take_put (F cur : Array Value) (h : F.size ≤ cur.size) : (Go.Sort.putCells id 0 F cur).toList.take F.size = F.toList := by
  apply List.ext_getElem?
  intro j
  by_cases hj : j < F.size
  · rw [List.getElem?_take_of_lt hj, Array.getElem?_toList]
    simp [Go.Sort.putCells, hj, show j < cur.size by omega]
  · rw [List.getElem?_take_eq_none (by omega), List.getElem?_eq_none (by simp; omega)]
theorem heap_put {w : World} {g n : Nat} {os : Array Obj} {cur : Array Value} {e : TypeId} {fr : Nat × Nat} (d : Array α) (hb : w.heap[g]? = some (.cells cur e fr)) :
    (sortWorldK enc k w g 0 n d os).heap[g]? = some (.cells (Go.Sort.putCells id 0 (Go.Sort.flatK enc k d) cur) e fr) := by
  have hg : g < w.heap.size := (Array.getElem?_eq_some_iff.1 hb).1
  unfold sortWorldK
  rw [Go.Sort.heap_grow_old _ _ (by rw [Go.Sort.size_putRowK]; exact hg)]
  simp [Go.Sort.putRowK, Go.Sort.putRow, Go.Sort.mapBlock, Go.Sort.ahead, Array.getElem?_modify, hb, Go.Sort.onCells]
theorem grownBy_put {w : World} {g n : Nat} {os : Array Obj} (d : Array α) : w.grownBy (sortWorldK enc k w g 0 n d os) (some g) := by
  refine ⟨rfl, rfl, rfl, by unfold sortWorldK; rw [Go.Sort.size_grow, Go.Sort.size_putRowK]; exact Nat.le_add_right _ _, fun b hb hne => ?_⟩
  unfold sortWorldK
  rw [Go.Sort.heap_grow_old _ _ (by rw [Go.Sort.size_putRowK]; exact hb)]
  have : g ≠ b := fun e => hne (by rw [e])
  simp [Go.Sort.putRowK, Go.Sort.putRow, Go.Sort.mapBlock, Go.Sort.ahead, Array.getElem?_modify, this]
theorem own_put (hk : ∀ x, (enc x).length = k) {w : World} {base g cap n : Nat} {e : TypeId} {os : Array Obj} {cur : Array Value} {l l' : List α} (hl : l'.length = l.length) (hbase : base ≤ g) (hb : w.heap[g]? = some (.cells cur e (0, 0)))
    (h1 : l.length ≤ cap) (h2 : cap ≤ maxLen) (h3 : cur.size = cap * k) :
    (sortWorldK enc k w g 0 n l'.toArray os).ownsRow base e k (.slice (some ⟨g, 0, none⟩) l.length cap) l.length (l'.flatMap enc) := by
  refine ⟨by rw [flat_len hk, hl], .inr ⟨g, cap, _, rfl, hbase, heap_put _ hb, h1, h2, by simp [Go.Sort.putCells, h3], ?_⟩⟩
  have hs : (Go.Sort.flatK enc k l'.toArray).size = l.length * k := by simp [hl]
  have := take_put (Go.Sort.flatK enc k l'.toArray) cur (by rw [hs, h3]; exact Nat.mul_le_mul_right _ h1)
  rw [hs] at this
  rw [this, flatK_list hk]
end
end Go.Proofs.Ytneelmmikaefgaa
