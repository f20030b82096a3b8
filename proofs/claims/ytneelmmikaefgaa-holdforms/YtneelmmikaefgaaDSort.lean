/- slices.SortStableFunc of fewer than twenty Turns or Holds: like ones in their order. -/
import Derived.Test.YtneelmmikaefgaaDLib
namespace Go.Proofs.Ytneelmmikaefgaa
open Go.RowKit
set_option linter.unusedSimpArgs false

instance : Inhabited Turn := ⟨⟨0, .slice none 0 0, .slice none 0 0, [], []⟩⟩
instance : Inhabited Hold := ⟨⟨0, 0, 0⟩⟩
def one1 (v : Value) : Value := if v.oneCell' = true then v else .slice none 0 0
theorem one1_one (v : Value) : (one1 v).oneCell' = true := by
  unfold one1
  split
  · assumption
  · rfl
theorem one1_same {v : Value} (h : v.oneCell' = true) : one1 v = v := by unfold one1; rw [if_pos h]
def Turn.enc (t : Turn) : List Value := [.int .i64 t.c, one1 t.x, one1 t.y]
theorem enc_cells {l : List Turn} (h : ∀ t ∈ l, t.x.oneCell' = true ∧ t.y.oneCell' = true) : l.flatMap Turn.enc = l.flatMap Turn.cells := by
  induction l with
  | nil => rfl
  | cons t l ih =>
    obtain ⟨h1, h2⟩ := h t (by simp)
    rw [List.flatMap_cons, List.flatMap_cons, ih (fun t ht => h t (by simp [ht]))]
    unfold Turn.enc Turn.cells
    rw [one1_same h1, one1_same h2]
theorem key_lt (x y : Int) : decide (Lib.compareInt x y < 0) = decide (x < y) := by
  unfold Lib.compareInt
  by_cases h1 : x < y
  · simp [h1]
  · by_cases h2 : y < x <;> simp [h1, h2]

set_option maxHeartbeats 1000000 in
theorem turnS_clos (x y : Turn) (W : World) : Calls Try.prog 52 #[.agg #[.int .i64 x.c, one1 x.x, one1 x.y], .agg #[.int .i64 y.c, one1 y.x, one1 y.y]] W fun e w' => e = .returned (.int .i64 (Lib.compareInt x.c y.c)) ∧ ∃ q os', w' = Go.Sort.grow (W.drewN q) os' := by
  generalize one1 x.x = x1 at *
  generalize one1 x.y = x2 at *
  generalize one1 y.x = y1 at *
  generalize one1 y.y = y2 at *
  have hcon := fun W' => cmp_Compare_int x.c y.c W'
  generalize Lib.compareInt x.c y.c = r at hcon ⊢
  go_enter Try.func52, Try.ntmps52
  go_wp2_with (go_at_call 53; refine (hcon _).mono ?_; rintro e w' ⟨rfl, rfl⟩)
  go_ret
  exact ⟨rfl, 0, _, by rw [Go.Sort.alloc_eq_grow, Go.Sort.alloc_eq_grow, Go.Sort.grow_grow]; rfl⟩
theorem turnS_ins (g cap : Nat) (cur : Array Value) (l : List Turn) (w : World) (hb : w.heap[g]? = some (.cells cur 27 (0, 0))) (ht : cur.toList.take (l.length * 3) = l.flatMap Turn.enc) (hn : l.length < 1000000) :
    Calls Try.prog 118 #[.slice (some ⟨g, 0, none⟩) l.length cap, .int .i64 0, .int .i64 (l.length : Nat), .func (.func 52) #[] #[]] w fun e w' => e = .returned (.tuple #[]) ∧ ∃ n os, w' = sortWorldK Turn.enc 3 w g 0 n (sortBy Turn.c l).toArray os := by
  have eg : ∀ args w, (callFunc 52 args).run Try.prog w = .ok (.enter 52 args) w := enters_of Try.func52 (by kernel_rfl) rfl
  have hc : CmpLays Try.prog 52 #[] Turn.enc 3 (fun x y => Lib.compareInt x.c y.c) g 0 l.toArray.size w := fun _ _ _ _ x y => turnS_clos x y _
  have h := AnyQ.insertionSortCmpFunc insT 3 (fun w => Try.isAgg27 w) (fun w => Try.sizeOf27 w) Turn.enc (fun _ => rfl) (fun x v hv => by
    simp only [Turn.enc, List.mem_cons, List.not_mem_nil, or_false] at hv
    rcases hv with rfl | rfl | rfl
    · rfl
    · exact one1_one _
    · exact one1_one _) (fun x y => Lib.compareInt x.c y.c) 52 #[] g 0 cap 0 l.toArray.size l.toArray w eg hc (holds_own (k := 3) (fun _ => rfl) hb ht) (Array.getElem?_eq_some_iff.1 hb).1 (Nat.zero_le _) (Nat.le_refl _) (by simp; omega)
  rw [insertionSort_sortBy Turn.c (ltOf fun x y => Lib.compareInt x.c y.c) (fun x y => key_lt _ _) l] at h
  have e1 : l.toArray.size = l.length := by simp
  rw [e1] at h
  exact h
set_option maxRecDepth 100000 in
set_option maxHeartbeats 2000000 in
theorem turnS_ins0 (w : World) : Calls Try.prog 118 #[.slice none 0 0, .int .i64 0, .int .i64 0, .func (.func 52) #[] #[]] w fun e w' => e = .returned (.tuple #[]) ∧ w' = w := by
  go_enter Try.func118, Try.ntmps118
  go_wp2
  refine wp_loop_rounds 1 ?_
  rw [rounds_succ]
  go_wp2
  go_end0
  exact ⟨rfl, rfl⟩
set_option maxRecDepth 100000 in
set_option maxHeartbeats 2000000 in
theorem turnS_stable (v : Value) (n : Nat) (w : World) (Q : World → Prop) (hn : n < 20)
    (K : Calls Try.prog 118 #[v, .int .i64 0, .int .i64 (n : Nat), .func (.func 52) #[] #[]] w fun e w' => e = .returned (.tuple #[]) ∧ Q w') :
    Calls Try.prog 95 #[v, .int .i64 (n : Nat), .func (.func 52) #[] #[]] w fun e w' => e = .returned (.tuple #[]) ∧ Q w' := by
  have t1 : decide ((20 : Int) ≤ (n : Int)) = false := by simp; omega
  have t2 : decide ((20 : Int) < (n : Int)) = false := by simp; omega
  have HK := Lib.hid K
  clear K
  go_enter Try.func95, Try.ntmps95
  go_wp2
  refine wp_loop_rounds 1 ?_
  rw [rounds_succ]
  go_wp2_with (go_at_call 118; refine HK.out.mono ?_; rintro e w' ⟨rfl, hQ⟩)
  refine wp_loop_rounds 1 ?_
  rw [rounds_succ]
  go_wp2
  go_end0
  exact ⟨rfl, hQ⟩
set_option maxRecDepth 100000 in
set_option maxHeartbeats 2000000 in
theorem turnS_sort (B : Nat) (v : Value) (l : List Turn) (w : World) (h : OutT B w v l) (hone : ∀ t ∈ l, t.x.oneCell' = true ∧ t.y.oneCell' = true) (hn : l.length < 20) :
    Calls Try.prog 51 #[v, .func (.func 52) #[] #[]] w fun e w' => e = .returned (.tuple #[]) ∧ OutT B w' v (sortBy Turn.c l) ∧ w.grownBy w' v.ownBlock := by
  have hs : (sortBy Turn.c l).length = l.length := sortBy_length _ _
  have KI : Calls Try.prog 118 #[v, .int .i64 0, .int .i64 (l.length : Nat), .func (.func 52) #[] #[]] w fun e w' => e = .returned (.tuple #[]) ∧ (OutT B w' v (sortBy Turn.c l) ∧ w.grownBy w' v.ownBlock) := by
    rcases h.2 with ⟨rfl, h0⟩ | ⟨g, cap, cur, rfl, hbase, hb, h1, h2, h3, h4⟩
    · have : l = [] := List.length_eq_zero_iff.1 h0
      subst this
      refine (turnS_ins0 w).mono ?_
      rintro e w' ⟨rfl, rfl⟩
      exact ⟨rfl, h, only_of_below (Below.refl _ _) _⟩
    · refine (turnS_ins g cap cur l w hb (by rw [enc_cells hone]; exact h4) (by omega)).mono ?_
      rintro e w' ⟨rfl, n, os, rfl⟩
      refine ⟨rfl, ?_, grownBy_put _⟩
      unfold OutT
      have := own_put (enc := Turn.enc) (n := n) (os := os) (l' := sortBy Turn.c l) (fun _ => rfl) hs hbase hb h1 h2 h3
      rw [hs]
      rw [enc_cells (fun t ht => hone t ((mem_sortBy _ _ _).1 ht))] at this
      exact this
  have K := turnS_stable v l.length w _ hn KI
  obtain ⟨A, cap, rfl, _⟩ := own_slice_n h
  have HK := Lib.hid K
  clear K KI h hone hs
  go_enter Try.func51, Try.ntmps51
  go_wp2_with (go_at_call 95; refine HK.out.mono ?_; rintro e w' ⟨rfl, hQ⟩)
  go_end0
  exact ⟨rfl, hQ⟩

set_option maxHeartbeats 1000000 in
theorem holdS_clos (x y : Hold) (W : World) : Calls Try.prog 55 #[.agg #[.int .i64 x.n, .int .i64 x.b, .int .i64 x.a], .agg #[.int .i64 y.n, .int .i64 y.b, .int .i64 y.a]] W fun e w' => e = .returned (.int .i64 (Lib.compareInt x.n y.n)) ∧ ∃ q os', w' = Go.Sort.grow (W.drewN q) os' := by
  have hcon := fun W' => cmp_Compare_int x.n y.n W'
  generalize Lib.compareInt x.n y.n = r at hcon ⊢
  go_enter Try.func55, Try.ntmps55
  go_wp2_with (go_at_call 53; refine (hcon _).mono ?_; rintro e w' ⟨rfl, rfl⟩)
  go_ret
  exact ⟨rfl, 0, _, by rw [Go.Sort.alloc_eq_grow, Go.Sort.alloc_eq_grow, Go.Sort.grow_grow]; rfl⟩
theorem holdS_ins (g cap : Nat) (cur : Array Value) (l : List Hold) (w : World) (hb : w.heap[g]? = some (.cells cur 35 (0, 0))) (ht : cur.toList.take (l.length * 3) = l.flatMap Hold.cells) (hn : l.length < 1000000) :
    Calls Try.prog 120 #[.slice (some ⟨g, 0, none⟩) l.length cap, .int .i64 0, .int .i64 (l.length : Nat), .func (.func 55) #[] #[]] w fun e w' => e = .returned (.tuple #[]) ∧ ∃ n os, w' = sortWorldK Hold.cells 3 w g 0 n (sortBy Hold.n l).toArray os := by
  have eg : ∀ args w, (callFunc 55 args).run Try.prog w = .ok (.enter 55 args) w := enters_of Try.func55 (by kernel_rfl) rfl
  have hc : CmpLays Try.prog 55 #[] Hold.cells 3 (fun x y => Lib.compareInt x.n y.n) g 0 l.toArray.size w := fun _ _ _ _ x y => holdS_clos x y _
  have h := AnyQ.insertionSortCmpFunc insH 3 (fun w => Try.isAgg35 w) (fun w => Try.sizeOf35 w) Hold.cells (fun _ => rfl) (fun x v hv => hold_one [x] v (by simpa using hv)) (fun x y => Lib.compareInt x.n y.n) 55 #[] g 0 cap 0 l.toArray.size l.toArray w eg hc (holds_own (k := 3) (fun _ => rfl) hb ht) (Array.getElem?_eq_some_iff.1 hb).1 (Nat.zero_le _) (Nat.le_refl _) (by simp; omega)
  rw [insertionSort_sortBy Hold.n (ltOf fun x y => Lib.compareInt x.n y.n) (fun x y => key_lt _ _) l] at h
  have e1 : l.toArray.size = l.length := by simp
  rw [e1] at h
  exact h
set_option maxRecDepth 100000 in
set_option maxHeartbeats 2000000 in
theorem holdS_ins0 (w : World) : Calls Try.prog 120 #[.slice none 0 0, .int .i64 0, .int .i64 0, .func (.func 55) #[] #[]] w fun e w' => e = .returned (.tuple #[]) ∧ w' = w := by
  go_enter Try.func120, Try.ntmps120
  go_wp2
  refine wp_loop_rounds 1 ?_
  rw [rounds_succ]
  go_wp2
  go_end0
  exact ⟨rfl, rfl⟩
set_option maxRecDepth 100000 in
set_option maxHeartbeats 2000000 in
theorem holdS_stable (v : Value) (n : Nat) (w : World) (Q : World → Prop) (hn : n < 20)
    (K : Calls Try.prog 120 #[v, .int .i64 0, .int .i64 (n : Nat), .func (.func 55) #[] #[]] w fun e w' => e = .returned (.tuple #[]) ∧ Q w') :
    Calls Try.prog 97 #[v, .int .i64 (n : Nat), .func (.func 55) #[] #[]] w fun e w' => e = .returned (.tuple #[]) ∧ Q w' := by
  have t1 : decide ((20 : Int) ≤ (n : Int)) = false := by simp; omega
  have t2 : decide ((20 : Int) < (n : Int)) = false := by simp; omega
  have HK := Lib.hid K
  clear K
  go_enter Try.func97, Try.ntmps97
  go_wp2
  refine wp_loop_rounds 1 ?_
  rw [rounds_succ]
  go_wp2_with (go_at_call 120; refine HK.out.mono ?_; rintro e w' ⟨rfl, hQ⟩)
  refine wp_loop_rounds 1 ?_
  rw [rounds_succ]
  go_wp2
  go_end0
  exact ⟨rfl, hQ⟩
set_option maxRecDepth 100000 in
set_option maxHeartbeats 2000000 in
theorem holdS_sort (B : Nat) (v : Value) (l : List Hold) (w : World) (h : OutH B w v l) (hn : l.length < 20) :
    Calls Try.prog 54 #[v, .func (.func 55) #[] #[]] w fun e w' => e = .returned (.tuple #[]) ∧ OutH B w' v (sortBy Hold.n l) ∧ w.grownBy w' v.ownBlock := by
  have hs : (sortBy Hold.n l).length = l.length := sortBy_length _ _
  have KI : Calls Try.prog 120 #[v, .int .i64 0, .int .i64 (l.length : Nat), .func (.func 55) #[] #[]] w fun e w' => e = .returned (.tuple #[]) ∧ (OutH B w' v (sortBy Hold.n l) ∧ w.grownBy w' v.ownBlock) := by
    rcases h.2 with ⟨rfl, h0⟩ | ⟨g, cap, cur, rfl, hbase, hb, h1, h2, h3, h4⟩
    · have : l = [] := List.length_eq_zero_iff.1 h0
      subst this
      refine (holdS_ins0 w).mono ?_
      rintro e w' ⟨rfl, rfl⟩
      exact ⟨rfl, h, only_of_below (Below.refl _ _) _⟩
    · refine (holdS_ins g cap cur l w hb (h4) (by omega)).mono ?_
      rintro e w' ⟨rfl, n, os, rfl⟩
      refine ⟨rfl, ?_, grownBy_put _⟩
      unfold OutH
      have := own_put (enc := Hold.cells) (n := n) (os := os) (l' := sortBy Hold.n l) (fun _ => rfl) hs hbase hb h1 h2 h3
      rw [hs]
      exact this
  have K := holdS_stable v l.length w _ hn KI
  obtain ⟨A, cap, rfl, _⟩ := own_slice_n h
  have HK := Lib.hid K
  clear K KI h hs
  go_enter Try.func54, Try.ntmps54
  go_wp2_with (go_at_call 97; refine HK.out.mono ?_; rintro e w' ⟨rfl, hQ⟩)
  go_end0
  exact ⟨rfl, hQ⟩
end Go.Proofs.Ytneelmmikaefgaa
