/- A plan in new memory; the reference's CopyPlan. -/
import Derived.Test.YtneelmmikaefgaaRefUnass
import Derived.Test.YtneelmmikaefgaaRefFilled
import Derived.Test.YtneelmmikaefgaaLin
namespace Go.Proofs.Ytneelmmikaefgaa
open Go.RowKit
set_option linter.unusedSimpArgs false
set_option linter.unusedVariables false

theorem born_own {w w' : World} {e : TypeId} {size n : Nat} {v : Value} {xs : List Value} (h : w'.ownsRow w.heap.size e size v n xs) : Born w v w' := fun g hg => ⟨(own_typed h hg).2, (h.lt g hg).2⟩
/-- 'append([]int(nil), l...)' -/
theorem lstep_clone {ops : Array Oper} {N : Nat → Bool} {F : Nat → Value → World → Prop} {i : Nat} {a : Act} {w : World} {o : Oper} {x : Operand} (ho : ops[i]? = some o)
    (hop : o.op = .call { callee := .builtin .append, args := #[.const (.slice none 0 0), x], argTypes := #[22, 22] }) (A : Option Addr) (c : Nat) (l : List Int) (hx : a.eval x = .slice A l.length c)
    (hr : Reads w w.heap.size 1 A l.length (ints l)) (hl : l.length ≤ 1000000) (hF : ∀ v w', OutI w.heap.size w' v l → Below w.heap.size w w' → F i v w') : LinStep Try.prog ops N F i a w := by
  obtain ⟨i0, hi0, hz0, hz1, hz2⟩ := info_parts int_info
  obtain ⟨v', w', hrun, hown, hgr, hob⟩ := run_append_any (P := Try.prog) w w.heap.size 22 o.type 3 i0 _ 1 8 Try.underlying22 hi0 hz0 hz1 hz2 rfl (by decide) (.slice none 0 0) 0 [] (World.ownsRow_nil _ _ _ _) w.heap.size A l.length c (ints l) hr (ints_one _) (by unfold maxLen; omega) (by omega) (Nat.le_refl _)
  rw [Nat.zero_add, List.nil_append] at hown
  have hb : Below w.heap.size w w' := (Below.refl _ _).grown hgr (Nat.le_refl _) (fun g hg => by cases hg)
  refine lstep_new ho ?_ (hF v' w' hown hb) (fun _ => born_own hown) hb
  unfold execOp
  simp only [hop, resolve, invoke, builtin, Sem.run_bind, Sem.run_pure, Result.andThen_ok, List.map_toArray, List.map_cons, List.map_nil, hx]
  simp only [show a.eval (.const (.slice none 0 0)) = .slice none 0 0 from rfl, hrun, Result.andThen_ok]
theorem OutI.recs {B : Nat} {W : World} {v : Value} {l : List Int} (h : OutI B W v l) : Recs W 1 num_ v l := by
  have e : ints l = l.flatMap fun x => [.int .i64 x] := by simp [ints, List.map_eq_flatMap]
  unfold OutI at h
  rw [e] at h
  exact own_recs h (fun x => rfl) (fun x j hj => by obtain rfl : j = 0 := by omega
                                                    rfl)
def setAll (W : World) (g : Nat) : Nat → List Value → World
  | _, [] => W
  | k, x :: l => setAll (W.setCell ⟨g, k, none⟩ x) g (k + 1) l
def setArr (a : Array Value) : Nat → List Value → Array Value
  | _, [] => a
  | k, x :: l => setArr (a.setIfInBounds k x) (k + 1) l
theorem setAll_heap {g : Nat} {T : TypeId} : ∀ (l : List Value) (k : Nat) (W : World) (a : Array Value), W.heap[g]? = some (.cells a T (0, 0)) → (setAll W g k l).heap[g]? = some (.cells (setArr a k l) T (0, 0))
  | [], _, _, _, h => h
  | x :: l, k, _, _, h => setAll_heap l (k + 1) _ _ (heap_set h k x)
theorem setAll_own {g B : Nat} {T e : TypeId} {size n : Nat} {v : Value} {xs : List Value} (hne : T ≠ e) : ∀ (l : List Value) (k : Nat) (W : World) (a : Array Value), W.heap[g]? = some (.cells a T (0, 0)) → W.ownsRow B e size v n xs → (setAll W g k l).ownsRow B e size v n xs
  | [], _, _, _, _, ho => ho
  | x :: l, k, _, _, h, ho => setAll_own hne l (k + 1) _ _ (heap_set h k x) (out_set h ho hne)
theorem setAll_below {g B : Nat} {W0 : World} (hB : B ≤ g) : ∀ (l : List Value) (k : Nat) (W : World), Below B W0 W → Below B W0 (setAll W g k l)
  | [], _, _, hb => hb
  | x :: l, k, _, hb => setAll_below hB l (k + 1) _ (hb.setCell hB _)
theorem setArr7 (a0 a1 a2 a3 a4 a5 a6 x0 x1 x2 x3 x4 x5 x6 : Value) : setArr #[a0, a1, a2, a3, a4, a5, a6] 0 [x0, x1, x2, x3, x4, x5, x6] = #[x0, x1, x2, x3, x4, x5, x6] := by
  simp [setArr]
/-- five rows of a plan, each by itself, in blocks from B on -/
structure Five (B : Nat) (W : World) (v2 v3 v4 v5 v6 : Value) (p : PlanP) : Prop where
  lock : OutI B W v2 p.lock
  ice : OutI B W v3 p.ice
  rv : OutI B W v4 p.rv
  sv : OutI B W v5 p.sv
  iv : OutI B W v6 p.iv
  apart : [v2, v3, v4, v5, v6].Pairwise Apart2
theorem Five.below {B : Nat} {W W' : World} {v2 v3 v4 v5 v6 : Value} {p : PlanP} (h : Five B W v2 v3 v4 v5 v6 p) (hb : Below W.heap.size W W') : Five B W' v2 v3 v4 v5 v6 p :=
  ⟨own_below h.lock hb, own_below h.ice hb, own_below h.rv hb, own_below h.sv hb, own_below h.iv hb, h.apart⟩
theorem Five.kept {B : Nat} {W W' : World} {v2 v3 v4 v5 v6 : Value} {p : PlanP} (h : Five B W v2 v3 v4 v5 v6 p) {row : Option Nat} (hg : W.grownBy W' row) (hrow : ∀ g, row = some g → ∃ t, Typed W g t ∧ t ≠ 3) : Five B W' v2 v3 v4 v5 v6 p :=
  ⟨own_keep h.lock hg hrow, own_keep h.ice hg hrow, own_keep h.rv hg hrow, own_keep h.sv hg hrow, own_keep h.iv hg hrow, h.apart⟩
theorem Five.lt {B : Nat} {W : World} {v2 v3 v4 v5 v6 : Value} {p : PlanP} (h : Five B W v2 v3 v4 v5 v6 p) : ∀ x ∈ [v2, v3, v4, v5, v6], ∀ q, x.ownBlock = some q → q < W.heap.size := by
  intro x hx q hq
  simp only [List.mem_cons, List.not_mem_nil, or_false] at hx
  rcases hx with rfl | rfl | rfl | rfl | rfl
  · exact (h.lock.lt q hq).2
  · exact (h.ice.lt q hq).2
  · exact (h.rv.lt q hq).2
  · exact (h.sv.lt q hq).2
  · exact (h.iv.lt q hq).2
theorem Five.setAll {B g : Nat} {W : World} {v2 v3 v4 v5 v6 : Value} {p : PlanP} {a : Array Value} {T : TypeId} (h : Five B W v2 v3 v4 v5 v6 p) (hg : W.heap[g]? = some (.cells a T (0, 0))) (hT : T ≠ 3) (k : Nat) (l : List Value) : Five B (setAll W g k l) v2 v3 v4 v5 v6 p :=
  ⟨setAll_own hT l k W _ hg h.lock, setAll_own hT l k W _ hg h.ice, setAll_own hT l k W _ hg h.rv, setAll_own hT l k W _ hg h.sv, setAll_own hT l k W _ hg h.iv, h.apart⟩
/-- the routes of a plan in blocks from B on -/
def RoutesO (B : Nat) (W : World) (v : Value) (rs : List (List Int)) (ws : List Value) : Prop := ∃ us, W.ownsRow B 22 1 v rs.length us ∧ ∀ k (h : k < rs.length), ∃ u, us[k]? = some u ∧ OutI B W u rs[k] ∧ ∀ x ∈ ws, Apart2 u x
theorem RoutesO.below {B : Nat} {W W' : World} {v : Value} {rs : List (List Int)} {ws : List Value} (h : RoutesO B W v rs ws) (hb : Below W.heap.size W W') : RoutesO B W' v rs ws := by
  obtain ⟨us, h1, h2⟩ := h
  exact ⟨us, own_below h1 hb, fun k hk => by obtain ⟨u, a, b, c⟩ := h2 k hk; exact ⟨u, a, own_below b hb, c⟩⟩
theorem RoutesO.set {B : Nat} {W : World} {v : Value} {rs : List (List Int)} {ws : List Value} (h : RoutesO B W v rs ws) {g : Nat} {l : Array Value} {T : TypeId} (hg : W.heap[g]? = some (.cells l T (0, 0))) (h1 : T ≠ 3) (h2 : T ≠ 22) (k : Nat) (u : Value) : RoutesO B (W.setCell ⟨g, k, none⟩ u) v rs ws := by
  obtain ⟨us, a, b⟩ := h
  exact ⟨us, out_set hg a h2, fun j hj => by obtain ⟨x, c, d, e⟩ := b j hj; exact ⟨x, c, out_set hg d h1, e⟩⟩
theorem RoutesO.trav {B : Nat} {W : World} {v : Value} {rs : List (List Int)} {ws : List Value} (h : RoutesO B W v rs ws) : Trav W v rs := by
  obtain ⟨us, h1, h2⟩ := h
  obtain ⟨A, cap, rfl, hc⟩ := own_get h1
  refine ⟨A, cap, rfl, fun k hk => ?_⟩
  obtain ⟨b, rfl, hb, hcell⟩ := hc (by omega)
  obtain ⟨u, hu, ho, _⟩ := h2 k hk
  refine ⟨b, 0, u, rfl, hb, by rw [Nat.zero_add]; exact hcell _ _ hu, ?_⟩
  exact OutI.recs ho
theorem RoutesO.lower {B B' : Nat} {W : World} {v : Value} {rs : List (List Int)} {ws : List Value} (h : RoutesO B W v rs ws) (hB : B' ≤ B) : RoutesO B' W v rs ws := by
  obtain ⟨us, a, b⟩ := h
  exact ⟨us, own_lower a hB, fun j hj => by obtain ⟨x, c, d, e⟩ := b j hj; exact ⟨x, c, own_lower d hB, e⟩⟩
/-- a plan that was made in blocks from B on -/
def NewP (B : Nat) (W : World) (v : Value) (p : PlanP) : Prop := ∃ v1 v2 v3 v4 v5 v6, v = .agg #[v1, v2, v3, v4, v5, v6, .int .i64 p.pv] ∧ RoutesO B W v1 p.routes [v2, v3, v4, v5, v6] ∧ Five B W v2 v3 v4 v5 v6 p
theorem NewP.below {B : Nat} {W W' : World} {v : Value} {p : PlanP} (h : NewP B W v p) (hb : Below W.heap.size W W') : NewP B W' v p := by
  obtain ⟨v1, v2, v3, v4, v5, v6, rfl, h1, h2⟩ := h
  exact ⟨v1, v2, v3, v4, v5, v6, rfl, h1.below hb, h2.below hb⟩
theorem Five.lower {B B' : Nat} {W : World} {v2 v3 v4 v5 v6 : Value} {p : PlanP} (h : Five B W v2 v3 v4 v5 v6 p) (hB : B' ≤ B) : Five B' W v2 v3 v4 v5 v6 p :=
  ⟨own_lower h.lock hB, own_lower h.ice hB, own_lower h.rv hB, own_lower h.sv hB, own_lower h.iv hB, h.apart⟩
theorem NewP.lower {B B' : Nat} {W : World} {v : Value} {p : PlanP} (h : NewP B W v p) (hB : B' ≤ B) : NewP B' W v p := by
  obtain ⟨v1, v2, v3, v4, v5, v6, rfl, h1, h2⟩ := h
  exact ⟨v1, v2, v3, v4, v5, v6, rfl, h1.lower hB, h2.lower hB⟩
theorem NewP.at_ {B : Nat} {W : World} {v : Value} {p : PlanP} (h : NewP B W v p) : PlanAt W v p := by
  obtain ⟨v1, v2, v3, v4, v5, v6, rfl, h1, h2⟩ := h
  obtain ⟨A1, c1, rfl, t1⟩ := h1.trav
  obtain ⟨A2, c2, rfl, t2⟩ := h2.lock.recs
  obtain ⟨A3, c3, rfl, t3⟩ := h2.ice.recs
  obtain ⟨A4, c4, rfl, t4⟩ := h2.rv.recs
  obtain ⟨A5, c5, rfl, t5⟩ := h2.sv.recs
  obtain ⟨A6, c6, rfl, t6⟩ := h2.iv.recs
  exact ⟨A1, c1, A2, c2, A3, c3, A4, c4, A5, c5, A6, c6, rfl, ⟨A1, c1, rfl, t1⟩, ⟨A2, c2, rfl, t2⟩, ⟨A3, c3, rfl, t3⟩, ⟨A4, c4, rfl, t4⟩, ⟨A5, c5, rfl, t5⟩, ⟨A6, c6, rfl, t6⟩⟩
theorem RoutesO.setAll {B g : Nat} {W : World} {v : Value} {rs : List (List Int)} {ws : List Value} {a : Array Value} {T : TypeId} (h : RoutesO B W v rs ws) (hg : W.heap[g]? = some (.cells a T (0, 0))) (h1 : T ≠ 3) (h2 : T ≠ 22) (k : Nat) (l : List Value) : RoutesO B (setAll W g k l) v rs ws := by
  obtain ⟨us, a, b⟩ := h
  exact ⟨us, setAll_own h2 l k W _ hg a, fun j hj => by obtain ⟨x, c, d, e⟩ := b j hj; exact ⟨x, c, setAll_own h1 l k W _ hg d, e⟩⟩
theorem NewP.setAll {B g : Nat} {W : World} {v : Value} {p : PlanP} {a : Array Value} {T : TypeId} (h : NewP B W v p) (hg : W.heap[g]? = some (.cells a T (0, 0))) (h1 : T ≠ 3) (h2 : T ≠ 22) (k : Nat) (l : List Value) : NewP B (setAll W g k l) v p := by
  obtain ⟨v1, v2, v3, v4, v5, v6, rfl, a, b⟩ := h
  exact ⟨v1, v2, v3, v4, v5, v6, rfl, a.setAll hg h1 h2 k l, b.setAll hg h1 k l⟩
end Go.Proofs.Ytneelmmikaefgaa
