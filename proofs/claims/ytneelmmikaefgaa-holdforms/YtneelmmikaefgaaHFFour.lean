/- HoldForms: what holds while it releases four times (laid by gen_hforms.py). -/
import Derived.Test.YtneelmmikaefgaaHFWake
import Derived.Test.YtneelmmikaefgaaLinI
import Derived.Test.YtneelmmikaefgaaKeep
namespace Go.Proofs.Ytneelmmikaefgaa
open Go.RowKit
set_option linter.unusedSimpArgs false
set_option linter.unusedVariables false

theorem out_lit (W : World) {l : List Int} {n B : Nat} (hl : l.length = n) (hB : B ≤ W.heap.size) (hn : n ≤ maxLen) : OutI B (W.alloc (.cells (ints l).toArray 3)) (.slice (some ⟨W.heap.size, 0, none⟩) n n) l := by
  have := RowB.out (W := W.alloc (.cells (ints l).toArray 3)) (g := W.heap.size) (l := l) (heap_new W _) hB (by omega)
  rwa [hl] at this
theorem out_made (W : World) (n : Nat) {B : Nat} (hB : B ≤ W.heap.size) (hn : n ≤ maxLen) : OutI B (W.alloc (.cells (madeCells #[.int .i64 0] n) 3)) (.slice (some ⟨W.heap.size, 0, none⟩) n n) (List.replicate n 0) := by
  have e : madeCells #[.int .i64 0] n = (ints (List.replicate n 0)).toArray := by rw [← made_intsR]
  rw [e]
  exact out_lit W (by simp) hB hn
theorem routes_lit {W : World} {B : Nat} {x y : Value} (hB : B ≤ W.heap.size) (hx : OutI B W x [1, 2, 3]) (hy : OutI B W y [4]) : RoutesO B (W.alloc (.cells #[x, y, .slice none 0 0] 22)) (.slice (some ⟨W.heap.size, 0, none⟩) 3 3) hfR [] := by
  refine ⟨[x, y, .slice none 0 0], ⟨rfl, .inr ⟨_, 3, _, rfl, hB, heap_new W _, by decide, by decide, rfl, rfl⟩⟩, fun k hk => ?_⟩
  match k, hk with
  | 0, _ => exact ⟨x, rfl, World.ownsRow.alloc hx _, by simp⟩
  | 1, _ => exact ⟨y, rfl, World.ownsRow.alloc hy _, by simp⟩
  | 2, _ => exact ⟨_, rfl, World.ownsRow_nil _ _ _ _, by simp⟩
def PlanH (B : Nat) (W : World) (v : Value) : Prop := ∃ A1 A2 A3 A4 A5 A6 c1 c2 c3 c4 c5 c6, v = .agg #[.slice A1 3 c1, .slice A2 6 c2, .slice A3 3 c3, .slice A4 3 c4, .slice A5 6 c5, .slice A6 3 c6, .int .i64 0] ∧ RoutesO B W (.slice A1 3 c1) hfR [] ∧ OutI B W (.slice A2 6 c2) hfL ∧ OutI B W (.slice A3 3 c3) hfI
theorem PlanH.below {B : Nat} {W W' : World} {v : Value} (h : PlanH B W v) (hb : Below W.heap.size W W') : PlanH B W' v := by
  obtain ⟨A1, A2, A3, A4, A5, A6, c1, c2, c3, c4, c5, c6, h0, h1, h2, h3⟩ := h
  exact ⟨A1, A2, A3, A4, A5, A6, c1, c2, c3, c4, c5, c6, h0, h1.below hb, own_below h2 hb, own_below h3 hb⟩
theorem PlanH.set {B g k : Nat} {W : World} {v u : Value} {l : Array Value} (h : PlanH B W v) (hg : W.heap[g]? = some (.cells l 25 (0, 0))) : PlanH B (W.setCell ⟨g, k, none⟩ u) v := by
  obtain ⟨A1, A2, A3, A4, A5, A6, c1, c2, c3, c4, c5, c6, h0, h1, h2, h3⟩ := h
  exact ⟨A1, A2, A3, A4, A5, A6, c1, c2, c3, c4, c5, c6, h0, h1.set hg (by decide) (by decide) k u, out_set hg h2 (by decide), out_set hg h3 (by decide)⟩
theorem PlanH.of {B : Nat} {W : World} {v1 v2 v3 v4 v5 v6 : Value} (h1 : RoutesO B W v1 hfR []) (h2 : OutI B W v2 [-1, -1, 0, -1, -1, 1]) (h3 : OutI B W v3 [-1, 2, -1]) (h4 : OutI B W v4 (List.replicate 3 0)) (h5 : OutI B W v5 (List.replicate 6 0)) (h6 : OutI B W v6 (List.replicate 3 0)) : PlanH B W (.agg #[v1, v2, v3, v4, v5, v6, .int .i64 0]) := by
  obtain ⟨A1, c1, rfl⟩ := h1.slice
  obtain ⟨A2, c2, rfl, _⟩ := own_slice_n h2
  obtain ⟨A3, c3, rfl, _⟩ := own_slice_n h3
  obtain ⟨A4, c4, rfl, _⟩ := own_slice_n h4
  obtain ⟨A5, c5, rfl, _⟩ := own_slice_n h5
  obtain ⟨A6, c6, rfl, _⟩ := own_slice_n h6
  exact ⟨A1, A2, A3, A4, A5, A6, c1, c2, c3, c4, c5, c6, rfl, h1, h2, h3⟩
theorem PlanH.setAll {B g : Nat} {v : Value} : ∀ (l : List Value) (k : Nat) (W : World) (a : Array Value), W.heap[g]? = some (.cells a 25 (0, 0)) → PlanH B W v → PlanH B (setAll W g k l) v
  | [], _, _, _, _, h => h
  | x :: l, k, _, _, hg, h => PlanH.setAll l (k + 1) _ _ (heap_set hg k x) (h.set hg)
/-! the four releases: each into a variable of its own -/
def Zd : Array Value := #[.slice none 0 0, .slice none 0 0, .slice none 0 0]
def Rel (B : Nat) (W : World) (who : Int) (v : Value) : Prop := ∃ a1 a2 a3 c1 c2 c3, v = .agg #[.slice a1 0 c1, .slice a2 (relL who).length c2, .slice a3 (relI who).length c3] ∧ OutH B W (.slice a2 (relL who).length c2) (relL who) ∧ OutH B W (.slice a3 (relI who).length c3) (relI who)
theorem Rel.below {B : Nat} {W W' : World} {who : Int} {v : Value} (h : Rel B W who v) (hb : Below W.heap.size W W') : Rel B W' who v := by
  obtain ⟨a1, a2, a3, c1, c2, c3, h0, h1, h2⟩ := h
  exact ⟨a1, a2, a3, c1, c2, c3, h0, own_below h1 hb, own_below h2 hb⟩
theorem Rel.set {B g k : Nat} {W : World} {who : Int} {v u : Value} {l : Array Value} (h : Rel B W who v) (hg : W.heap[g]? = some (.cells l 31 (0, 0))) : Rel B (W.setCell ⟨g, k, none⟩ u) who v := by
  obtain ⟨a1, a2, a3, c1, c2, c3, h0, h1, h2⟩ := h
  exact ⟨a1, a2, a3, c1, c2, c3, h0, out_set hg h1 (by decide), out_set hg h2 (by decide)⟩
def aggOf : Value → Array Value | .agg a => a | _ => #[]
def Slot (B : Nat) (W : World) (v : Value) (c : Array Value) : Prop := ∃ g, v = .pointer (some ⟨g, 0, none⟩) ∧ B ≤ g ∧ W.heap[g]? = some (.cells c 31 (0, 0))
theorem Slot.below {B : Nat} {W W' : World} {v : Value} {c : Array Value} (h : Slot B W v c) (hb : Below W.heap.size W W') : Slot B W' v c := by
  obtain ⟨g, h1, h2, h3⟩ := h
  exact ⟨g, h1, h2, heap_keep h3 hb⟩
def rc : Nat → Nat | 0 => 1 | 1 => 3 | 2 => 5 | _ => 8
structure Four (W0 : World) (PV : Value) (n : Int) (m : Nat → Bool) (v : Nat → Value) (W : World) : Prop where
  hb : Below W0.heap.size W0 W
  pl : ∀ i, i ∈ [0, 2, 4, 6] → m i = true → v i = PV
  nn : m 7 = true → v 7 = .int .i64 n
  rel : ∀ j (who : Int), (j, who) ∈ [(0, 0), (1, 1), (2, 2), (3, n)] → m (rc j) = true → Rel W0.heap.size W who (v (rc j))
  slot : ∀ j, j < 4 → m (9 + j) = true → Slot W0.heap.size W (v (9 + j)) (if m (13 + j) = true then aggOf (v (rc j)) else Zd)
  apart : ∀ i j, i < 4 → j < 4 → i ≠ j → m (9 + i) = true → m (9 + j) = true → v (9 + i) ≠ v (9 + j)
  down : ∀ j, j < 4 → m (13 + j) = true → m (9 + j) = true ∧ m (rc j) = true
section
variable {W0 W W' : World} {PV u : Value} {n : Int} {m : Nat → Bool} {v : Nat → Value}
def up1 (m : Nat → Bool) (i : Nat) : Nat → Bool := fun k => k == i || m k
def up2 (v : Nat → Value) (i : Nat) (u : Value) : Nat → Value := fun k => if k = i then u else v k
theorem up1_ne {i k : Nat} (h : k ≠ i) : up1 m i k = m k := by simp [up1, h]
theorem up1_le {i k : Nat} (h : m k = true) : up1 m i k = true := by simp [up1, h]
theorem down_up {i : Nat} (h : ∀ j, j < 4 → m (13 + j) = true → m (9 + j) = true ∧ m (rc j) = true) (hi : ∀ j, j < 4 → 13 + j ≠ i) : ∀ j, j < 4 → up1 m i (13 + j) = true → up1 m i (9 + j) = true ∧ up1 m i (rc j) = true := fun j hj hm => by
  rw [up1_ne (hi j hj)] at hm
  exact ⟨up1_le (h j hj hm).1, up1_le (h j hj hm).2⟩
theorem up2_ne {i k : Nat} (h : k ≠ i) : up2 v i u k = v k := by simp [up2, h]
theorem up2_eq {i : Nat} : up2 v i u i = u := by simp [up2]
theorem rc_le (j : Nat) : rc j ≤ 8 := by unfold rc; split <;> omega
theorem Four.start (W0 : World) (PV : Value) (n : Int) (W : World) (hb : Below W0.heap.size W0 W) : Four W0 PV n (fun _ => false) (fun _ => undef) W :=
  ⟨hb, by simp, by simp, by simp, by simp, by simp, by simp⟩
theorem rel_mem {j : Nat} {who : Int} (h : (j, who) ∈ [(0, (0 : Int)), (1, 1), (2, 2), (3, n)]) : j < 4 := by
  simp only [List.mem_cons, Prod.mk.injEq, List.not_mem_nil, or_false] at h
  omega
theorem Four.plan {i : Nat} (h : Four W0 PV n m v W) (hi : i ∈ [0, 2, 4, 6]) : Four W0 PV n (up1 m i) (up2 v i PV) W := by
  have hi9 : i ≤ 6 := by simp only [List.mem_cons, List.not_mem_nil, or_false] at hi; omega
  have hrc : ∀ j, rc j ≠ i := fun j => by
    simp only [List.mem_cons, List.not_mem_nil, or_false] at hi
    unfold rc; split <;> omega
  refine ⟨h.hb, fun k hk hm => ?_, fun hm => ?_, fun j who hj hm => ?_, fun j hj hm => ?_, fun a b ha hb hab hma hmb => ?_, down_up h.down (fun j hj => by omega)⟩
  · by_cases e : k = i
    · subst e; exact up2_eq
    · rw [up1_ne e] at hm; rw [up2_ne e]; exact h.pl k hk hm
  · have e : 7 ≠ i := by simp only [List.mem_cons, List.not_mem_nil, or_false] at hi; omega
    rw [up1_ne e] at hm; rw [up2_ne e]; exact h.nn hm
  · rw [up1_ne (hrc j)] at hm; rw [up2_ne (hrc j)]; exact h.rel j who hj hm
  · rw [up1_ne (by omega)] at hm; rw [up2_ne (by omega), up1_ne (by omega), up2_ne (hrc j)]; exact h.slot j hj hm
  · rw [up1_ne (by omega)] at hma hmb; rw [up2_ne (by omega), up2_ne (by omega)]; exact h.apart a b ha hb hab hma hmb
theorem Four.num (h : Four W0 PV n m v W) : Four W0 PV n (up1 m 7) (up2 v 7 (.int .i64 n)) W := by
  have hrc : ∀ j, rc j ≠ 7 := fun j => by unfold rc; split <;> omega
  refine ⟨h.hb, fun k hk hm => ?_, fun hm => up2_eq, fun j who hj hm => ?_, fun j hj hm => ?_, fun a b ha hb hab hma hmb => ?_, down_up h.down (fun j hj => by omega)⟩
  · have e : k ≠ 7 := by simp only [List.mem_cons, List.not_mem_nil, or_false] at hk; omega
    rw [up1_ne e] at hm; rw [up2_ne e]; exact h.pl k hk hm
  · rw [up1_ne (hrc j)] at hm; rw [up2_ne (hrc j)]; exact h.rel j who hj hm
  · rw [up1_ne (by omega)] at hm; rw [up2_ne (by omega), up1_ne (by omega), up2_ne (hrc j)]; exact h.slot j hj hm
  · rw [up1_ne (by omega)] at hma hmb; rw [up2_ne (by omega), up2_ne (by omega)]; exact h.apart a b ha hb hab hma hmb
theorem Four.call {j : Nat} {who : Int} (h : Four W0 PV n m v W) (hj : (j, who) ∈ [(0, (0 : Int)), (1, 1), (2, 2), (3, n)]) (hno : m (13 + j) = false) (hb : Below W.heap.size W W') (hu : Rel W0.heap.size W' who u) : Four W0 PV n (up1 m (rc j)) (up2 v (rc j) u) W' := by
  have hr := rc_le j
  have hj4 := rel_mem hj
  have inj : ∀ a b, a < 4 → b < 4 → rc a = rc b → a = b := fun a b ha hb => by
    match a, b, ha, hb with
    | 0, 0, _, _ | 0, 1, _, _ | 0, 2, _, _ | 0, 3, _, _ | 1, 0, _, _ | 1, 1, _, _ | 1, 2, _, _ | 1, 3, _, _ | 2, 0, _, _ | 2, 1, _, _ | 2, 2, _, _ | 2, 3, _, _ | 3, 0, _, _ | 3, 1, _, _ | 3, 2, _, _ | 3, 3, _, _ => simp [rc]
  refine ⟨h.hb.trans (hb.mono h.hb.size), fun k hk hm => ?_, fun hm => ?_, fun a who' ha hm => ?_, fun a ha hm => ?_, fun a b ha hb' hab hma hmb => ?_, down_up h.down (fun j hj => by omega)⟩
  · have e : k ≠ rc j := by
      simp only [List.mem_cons, List.not_mem_nil, or_false] at hk
      unfold rc; split <;> omega
    rw [up1_ne e] at hm; rw [up2_ne e]; exact h.pl k hk hm
  · have e : 7 ≠ rc j := by unfold rc; split <;> omega
    rw [up1_ne e] at hm; rw [up2_ne e]; exact h.nn hm
  · by_cases e : a = j
    · subst e
      have : who' = who := by
        simp only [List.mem_cons, Prod.mk.injEq, List.not_mem_nil, or_false] at hj ha
        omega
      subst this
      rw [up2_eq]; exact hu
    · have e' : rc a ≠ rc j := fun e2 => e (inj a j (rel_mem ha) hj4 e2)
      rw [up1_ne e'] at hm; rw [up2_ne e']; exact (h.rel a who' ha hm).below hb
  · rw [up1_ne (by omega)] at hm; rw [up2_ne (by omega), up1_ne (by omega)]
    have hs := (h.slot a ha hm).below hb
    by_cases e : a = j
    · subst e; rw [hno] at hs ⊢; exact hs
    · rw [up2_ne (fun e2 => e (inj a j ha hj4 e2))]; exact hs
  · rw [up1_ne (by omega)] at hma hmb; rw [up2_ne (by omega), up2_ne (by omega)]; exact h.apart a b ha hb' hab hma hmb
theorem Four.alloc {j : Nat} (h : Four W0 PV n m v W) (hj : j < 4) (hno : m (13 + j) = false) : Four W0 PV n (up1 m (9 + j)) (up2 v (9 + j) (.pointer (some ⟨W.heap.size, 0, none⟩))) (W.alloc (.cells Zd 31)) := by
  have hb : Below W.heap.size W (W.alloc (.cells Zd 31)) := (Below.refl _ _).alloc (Nat.le_refl _) _
  have hrc : ∀ a, rc a ≠ 9 + j := fun a => by have := rc_le a; omega
  have far : ∀ a, a < 4 → m (9 + a) = true → v (9 + a) ≠ .pointer (some ⟨W.heap.size, 0, none⟩) := fun a ha hm e => by
    obtain ⟨g, h1, _, h3⟩ := h.slot a ha hm
    rw [e] at h1
    injection h1 with h1
    injection h1 with h1
    injection h1 with h1 _ _
    have := (Array.getElem?_eq_some_iff.1 h3).1
    omega
  refine ⟨h.hb.trans (hb.mono h.hb.size), fun k hk hm => ?_, fun hm => ?_, fun a who' ha hm => ?_, fun a ha hm => ?_, fun a b ha hb' hab hma hmb => ?_, down_up h.down (fun a ha => by omega)⟩
  · have e : k ≠ 9 + j := by simp only [List.mem_cons, List.not_mem_nil, or_false] at hk; omega
    rw [up1_ne e] at hm; rw [up2_ne e]; exact h.pl k hk hm
  · rw [up1_ne (by omega)] at hm; rw [up2_ne (by omega)]; exact h.nn hm
  · rw [up1_ne (hrc a)] at hm; rw [up2_ne (hrc a)]; exact (h.rel a who' ha hm).below hb
  · rw [up1_ne (show 13 + a ≠ 9 + j by omega), up2_ne (hrc a)]
    by_cases e : a = j
    · subst e
      rw [up2_eq, hno]
      exact ⟨_, rfl, h.hb.size, heap_new _ _⟩
    · rw [up1_ne (by omega)] at hm; rw [up2_ne (by omega)]; exact (h.slot a ha hm).below hb
  · by_cases ea : a = j
    · subst ea
      rw [up1_ne (by omega)] at hmb
      rw [up2_eq, up2_ne (by omega)]
      exact (far b hb' hmb).symm
    · rw [up1_ne (by omega)] at hma
      by_cases eb : b = j
      · subst eb
        rw [up2_eq, up2_ne (by omega)]
        exact far a ha hma
      · rw [up1_ne (by omega)] at hmb
        rw [up2_ne (by omega), up2_ne (by omega)]; exact h.apart a b ha hb' hab hma hmb
theorem Four.store {j : Nat} {who : Int} {g : Nat} {x y z : Value} (h : Four W0 PV n m v W) (hj : (j, who) ∈ [(0, (0 : Int)), (1, 1), (2, 2), (3, n)]) (hno : m (13 + j) = false) (h9 : m (9 + j) = true) (hr : m (rc j) = true) (hg : v (9 + j) = .pointer (some ⟨g, 0, none⟩)) (hx : v (rc j) = .agg #[x, y, z]) (d : Value) :
    Four W0 PV n (up1 m (13 + j)) (up2 v (13 + j) d) (((W.setCell ⟨g, 0, none⟩ x).setCell ⟨g, 1, none⟩ y).setCell ⟨g, 2, none⟩ z) := by
  have hj4 := rel_mem hj
  obtain ⟨g', e1, hB, hh⟩ := h.slot j hj4 h9
  rw [hno] at hh
  rw [hg] at e1
  injection e1 with e1
  injection e1 with e1
  injection e1 with e1 _ _
  subst e1
  obtain ⟨s1, s2, s3⟩ := set3 hh x y z
  have hrc : ∀ a, rc a ≠ 13 + j := fun a => by have := rc_le a; omega
  refine ⟨s3 _ _ h.hb hB, fun k hk hm => ?_, fun hm => ?_, fun a who' ha hm => ?_, fun a ha hm => ?_, fun a b ha hb' hab hma hmb => ?_, fun a ha hm => ?_⟩
  · have e : k ≠ 13 + j := by simp only [List.mem_cons, List.not_mem_nil, or_false] at hk; omega
    rw [up1_ne e] at hm; rw [up2_ne e]; exact h.pl k hk hm
  · rw [up1_ne (by omega)] at hm; rw [up2_ne (by omega)]; exact h.nn hm
  · rw [up1_ne (hrc a)] at hm; rw [up2_ne (hrc a)]
    obtain ⟨a1, a2, a3, c1, c2, c3, r0, r1, r2⟩ := h.rel a who' ha hm
    exact ⟨a1, a2, a3, c1, c2, c3, r0, s2 _ _ _ _ _ _ (by decide) r1, s2 _ _ _ _ _ _ (by decide) r2⟩
  · rw [up1_ne (show 9 + a ≠ 13 + j by omega)] at hm
    rw [up2_ne (show 9 + a ≠ 13 + j by omega), up2_ne (hrc a)]
    by_cases e : a = j
    · subst e
      rw [show up1 m (13 + a) (13 + a) = true by simp [up1], if_pos rfl, hx, hg]
      exact ⟨g, rfl, hB, s1⟩
    · rw [up1_ne (show 13 + a ≠ 13 + j by omega)]
      obtain ⟨q, q1, q2, q3⟩ := h.slot a ha hm
      have hne : q ≠ g := fun e2 => h.apart a j ha hj4 e hm h9 (by rw [q1, hg, e2])
      exact ⟨q, q1, q2, by rw [Below.heap_setCell _ _ _ _ (by simpa using hne), Below.heap_setCell _ _ _ _ (by simpa using hne), Below.heap_setCell _ _ _ _ (by simpa using hne)]; exact q3⟩
  · rw [up1_ne (by omega)] at hma hmb; rw [up2_ne (by omega), up2_ne (by omega)]; exact h.apart a b ha hb' hab hma hmb
  · by_cases e : a = j
    · subst e; exact ⟨up1_le h9, up1_le hr⟩
    · rw [up1_ne (by omega)] at hm; exact ⟨up1_le (h.down a ha hm).1, up1_le (h.down a ha hm).2⟩
end
def hfpF (B : Nat) : Nat → Value → World → Prop
  | 0 => fun v W => OutI B W v [1, 2, 3]
  | 1 => fun v W => OutI B W v [4]
  | 2 => fun v W => RoutesO B W v hfR []
  | 3 => fun v W => OutI B W v [-1, -1, 0, -1, -1, 1]
  | 4 => fun v W => OutI B W v [-1, 2, -1]
  | 5 => fun v W => OutI B W v (List.replicate 3 0)
  | 6 => fun v W => OutI B W v (List.replicate 6 0)
  | 7 => fun v W => OutI B W v (List.replicate 3 0)
  | 8 => fun v W => PlanH B W v
  | 9 => fun v W => ∃ g, v = .pointer (some ⟨g, 0, none⟩) ∧ B ≤ g ∧ W.heap[g]? = some (.cells #[.slice none 0 0, .slice none 0 0, .slice none 0 0, .slice none 0 0, .slice none 0 0, .slice none 0 0, .int .i64 0] 25 (0, 0))
  | _ => fun _ _ => False
def hfpD : Nat → List Nat
  | 0 => []
  | 1 => []
  | 2 => [0, 1]
  | 3 => []
  | 4 => []
  | 5 => []
  | 6 => []
  | 7 => []
  | 8 => [2, 3, 4, 5, 6, 7]
  | 9 => []
  | _ => []
def hfpN (i : Nat) : Bool := ([] : List Nat).contains i
theorem hfpF_mono {B : Nat} : ∀ i v w w', Below w.heap.size w w' → hfpF B i v w → hfpF B i v w' := by
  intro i v w w' hb h
  by_cases e0 : i = 0
  · subst e0
    exact own_below h hb
  by_cases e1 : i = 1
  · subst e1
    exact own_below h hb
  by_cases e2 : i = 2
  · subst e2
    exact RoutesO.below h hb
  by_cases e3 : i = 3
  · subst e3
    exact own_below h hb
  by_cases e4 : i = 4
  · subst e4
    exact own_below h hb
  by_cases e5 : i = 5
  · subst e5
    exact own_below h hb
  by_cases e6 : i = 6
  · subst e6
    exact own_below h hb
  by_cases e7 : i = 7
  · subst e7
    exact own_below h hb
  by_cases e8 : i = 8
  · subst e8
    exact PlanH.below h hb
  by_cases e9 : i = 9
  · subst e9
    obtain ⟨g, h1, h2, h3⟩ := h
    exact ⟨g, h1, h2, heap_keep h3 hb⟩
  exfalso
  unfold hfpF at h
  split at h <;> first | exact h | omega
end Go.Proofs.Ytneelmmikaefgaa
