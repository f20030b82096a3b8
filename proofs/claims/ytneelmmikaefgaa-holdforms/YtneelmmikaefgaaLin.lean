/- A region that draws its order, whose operations turn nothing that was there: each is laid once, over whatever the others have made meanwhile; a list of operations on which all others wait. No program: plain laws on orders. -/
import Derived.Test.YtneelmmikaefgaaOrders
import Derived.Below
namespace Go.Proofs.Ytneelmmikaefgaa
open Go.RowKit
set_option linter.unusedSimpArgs false

section
variable {P : Program} {ops : Array Oper} {Q : Exit → Act → World → Prop} {md : Region.Mode}

def dstOf (ops : Array Oper) (i : Nat) : Option Tmp := (ops[i]?).bind (·.dst)
/-- the values of the listed operations in their places -/
def putAll (ops : Array Oper) (v : Nat → Value) : List Nat → Act → Act
  | [], a => a
  | i :: l, a => putAll ops v l (a.put (dstOf ops i) (v i))
/-- u's own block, if it has one, came up between w and w' -/
def Born (w : World) (u : Value) (w' : World) : Prop := ∀ g, u.ownBlock = some g → w.heap.size ≤ g ∧ g < w'.heap.size
def Apart2 (a b : Value) : Prop := ∀ g, a.ownBlock = some g → b.ownBlock ≠ some g
/-- operation i, in state a: it gives some value of which F holds, and turns nothing that was there -/
def LinStep (P : Program) (ops : Array Oper) (N : Nat → Bool) (F : Nat → Value → World → Prop) (i : Nat) (a : Act) (w : World) : Prop :=
  ∀ o, ops[i]? = some o → ∀ (Q : Exit → Act → World → Prop) (K : Act → World → Prop) (a' : Act), execOp a'.eval o = execOp a.eval o →
    (∀ u w', F i u w' → (N i = true → Born w u w') → Below w.heap.size w w' → K (a'.put o.dst u) w') → Oper.wp P o a' w K Q
theorem lstep_new {N : Nat → Bool} {F : Nat → Value → World → Prop} {i : Nat} {a : Act} {w w' : World} {o : Oper} {u : Value} (ho : ops[i]? = some o) (hr : (execOp a.eval o).run P w = .ok (.value u) w') (hF : F i u w') (hn : N i = true → Born w u w') (hb : Below w.heap.size w w') : LinStep P ops N F i a w := by
  intro o' ho' Q K a' he hK
  obtain rfl : o = o' := Option.some.inj (ho.symm.trans ho')
  unfold Oper.wp
  rw [he, hr]
  exact hK _ _ hF hn hb
theorem lstep_value {N : Nat → Bool} {F : Nat → Value → World → Prop} {i : Nat} {a : Act} {w w' : World} {o : Oper} {u : Value} (ho : ops[i]? = some o) (hN : N i = false) (hr : (execOp a.eval o).run P w = .ok (.value u) w') (hF : F i u w') (hb : Below w.heap.size w w') : LinStep P ops N F i a w := by
  intro o' ho' Q K a' he hK
  obtain rfl : o = o' := Option.some.inj (ho.symm.trans ho')
  unfold Oper.wp
  rw [he, hr]
  exact hK _ _ hF (fun h => by rw [hN] at h; cases h) hb
theorem lstep_call {N : Nat → Bool} {F : Nat → Value → World → Prop} {i : Nat} {a : Act} {w : World} {o : Oper} {f : FuncId} {args : Array Value} (ho : ops[i]? = some o) (hr : (execOp a.eval o).run P w = .ok (.enter f args) w)
    (hc : Calls P f args w fun e w' => ∃ u, e = .returned u ∧ F i u w' ∧ (N i = true → Born w u w') ∧ Below w.heap.size w w') : LinStep P ops N F i a w := by
  intro o' ho' Q K a' he hK
  obtain rfl : o = o' := Option.some.inj (ho.symm.trans ho')
  unfold Oper.wp
  rw [he, hr]
  refine hc.mono ?_
  rintro e w' ⟨u, rfl, hF, hn, hb⟩
  exact hK _ _ hF hn hb

/-- the checks: U in an order in which each stands behind those it waits for, no guards, places of their own, D i among those it waits for and all that it looks at -/
def anc (md : Region.Mode) (ops : Array Oper) : Nat → Nat → List Nat
  | 0, _ => []
  | n + 1, i => match ops[i]? with
    | none => []
    | some o => o.after.toList.flatMap fun e => if Region.binds md e then e.on :: anc md ops n e.on else []
def topo (md : Region.Mode) (ops : Array Oper) : List Nat → List Nat → Bool
  | _, [] => true
  | had, i :: l => (match ops[i]? with
    | none => false
    | some o => !had.contains i && (match o.guard with | none => true | _ => false) && o.after.all (fun e => !Region.binds md e || had.contains e.on)) && topo md ops (i :: had) l
def linOk (md : Region.Mode) (ops : Array Oper) (U : List Nat) (D : Nat → List Nat) : Bool :=
  topo md ops [] U && U.all (fun i => (D i).all (fun j => U.contains j && (anc md ops ops.size i).contains j)) &&
  U.all (fun i => match ops[i]? with | none => false | some o => U.all fun j => match dstOf ops j with | none => true | some d => !(o.looksAt ops).contains d || (D i).contains j) &&
  U.all (fun i => U.all fun j => i == j || match dstOf ops i with | none => true | some d => dstOf ops j != some d) &&
  (List.range ops.size).all (fun k => U.contains k || U.all fun u => (anc md ops ops.size k).contains u)

theorem putAll_snoc (v : Nat → Value) : ∀ (l : List Nat) (a : Act) (i : Nat), putAll ops v (l ++ [i]) a = (putAll ops v l a).put (dstOf ops i) (v i)
  | [], _, _ => rfl
  | _ :: l, _, i => putAll_snoc v l _ i
theorem putAll_comm (v : Nat → Value) {x : Option Tmp} {u : Value} : ∀ (l : List Nat) (a : Act), (∀ j ∈ l, ∀ d, x = some d → dstOf ops j ≠ some d) → putAll ops v l (a.put x u) = (putAll ops v l a).put x u
  | [], _, _ => rfl
  | i :: l, a, h => by
    simp only [putAll]
    rw [Act.put_comm a u (v i) (fun d hd => h i (by simp) d hd)]
    exact putAll_comm v l _ fun j hj => h j (by simp [hj])
theorem putAll_congr {v v' : Nat → Value} : ∀ (l : List Nat) (a : Act), (∀ j ∈ l, v j = v' j) → putAll ops v l a = putAll ops v' l a
  | [], _, _ => rfl
  | i :: l, a, h => by
    simp only [putAll]
    rw [h i (by simp)]
    exact putAll_congr l _ fun j hj => h j (by simp [hj])
theorem eval_putAll_no (v : Nat → Value) {x : Operand} : ∀ (l : List Nat) (a : Act), (∀ j ∈ l, ∀ d, dstOf ops j = some d → x ≠ .tmp d) → (putAll ops v l a).eval x = a.eval x
  | [], _, _ => rfl
  | i :: l, a, h => by
    simp only [putAll]
    rw [eval_putAll_no v l _ fun j hj => h j (by simp [hj])]
    exact Act.eval_put (h i (by simp))
theorem eval_put_size (a : Act) (x : Option Tmp) (u : Value) : (a.put x u).tmps.size = a.tmps.size := by
  cases x <;> simp [Act.put]
theorem putAll_size (v : Nat → Value) : ∀ (l : List Nat) (a : Act), (putAll ops v l a).tmps.size = a.tmps.size
  | [], _ => rfl
  | i :: l, a => by simp only [putAll]; rw [putAll_size v l, eval_put_size]
theorem eval_put_same {a b : Act} {d : Tmp} {u : Value} (h : a.tmps.size = b.tmps.size) : (a.put (some d) u).eval (.tmp d) = (b.put (some d) u).eval (.tmp d) := by
  simp only [Act.eval, Act.put, Array.getD_eq_getD_getElem?, Array.getElem?_setIfInBounds_self, h]
theorem eval_putAll_in (v : Nat → Value) {d : Tmp} {j : Nat} (hj : dstOf ops j = some d) : ∀ (l : List Nat) (a : Act), j ∈ l → (∀ k ∈ l, dstOf ops k = some d → k = j) → (putAll ops v l a).eval (.tmp d) = (a.put (some d) (v j)).eval (.tmp d)
  | [], _, h, _ => by cases h
  | i :: l, a, h, hu => by
    simp only [putAll]
    by_cases hm : j ∈ l
    · rw [eval_putAll_in v hj l _ hm fun k hk => hu k (by simp [hk])]
      exact eval_put_same (eval_put_size _ _ _)
    · rcases List.mem_cons.1 h with e | e
      · subst e
        rw [eval_putAll_no v l, hj]
        intro k hk d' hd' e
        injection e with e
        subst e
        exact hm (hu k (by simp [hk]) hd' ▸ hk)
      · exact absurd e hm
theorem filter_put {v : Nat → Value} {i : Nat} {u : Value} {m : Nat → Bool} {a : Act} : ∀ (U : List Nat), U.Nodup → i ∈ U → m i = false → (∀ j ∈ U, j ≠ i → ∀ d, dstOf ops i = some d → dstOf ops j ≠ some d) →
    putAll ops (fun k => if k = i then u else v k) (U.filter fun k => k == i || m k) a = (putAll ops v (U.filter m) a).put (dstOf ops i) u := by
  intro U
  induction U generalizing a with
  | nil => intro _ h; cases h
  | cons k U ih =>
    intro hn hi hm hd
    obtain ⟨h1, h2⟩ := List.nodup_cons.1 hn
    by_cases e : k = i
    · subst e
      have hf : (U.filter fun x => x == k || m x) = U.filter m := List.filter_congr fun x hx => by
        have : (x == k) = false := by simp; rintro rfl; exact h1 hx
        simp [this]
      rw [List.filter_cons, List.filter_cons, if_pos (by simp), if_neg (by simp [hm]), hf]
      simp only [putAll, if_true]
      rw [putAll_comm _ _ _ (fun j hj d hd' => hd j (List.mem_cons_of_mem _ (List.mem_filter.1 hj).1) (by rintro rfl; exact h1 (List.mem_filter.1 hj).1) d hd')]
      congr 1
      refine putAll_congr _ _ fun j hj => ?_
      rw [if_neg]
      rintro rfl
      exact h1 (List.mem_filter.1 hj).1
    · have hi' : i ∈ U := by
        rcases List.mem_cons.1 hi with h | h
        · exact absurd h.symm e
        · exact h
      have hd' : ∀ j ∈ U, j ≠ i → ∀ d, dstOf ops i = some d → dstOf ops j ≠ some d := fun j hj => hd j (List.mem_cons_of_mem _ hj)
      rw [List.filter_cons, List.filter_cons]
      cases hk : m k
      · rw [if_neg (by simp [hk, e]), if_neg (by simp)]
        exact ih h2 hi' hm hd'
      · rw [if_pos (by simp [hk]), if_pos (by simp)]
        simp only [putAll]
        rw [if_neg e]
        exact ih h2 hi' hm hd'
theorem topo_spec : ∀ (U had : List Nat), topo md ops had U = true → U.Nodup ∧ (∀ i ∈ U, i ∉ had) ∧
    ∀ (m : Nat → Bool), (∀ i ∈ had, m i = true) → (∃ i ∈ U, m i = false) → ∃ i ∈ U, m i = false ∧ ∃ o, ops[i]? = some o ∧ ∀ e ∈ o.after, Region.binds md e = true → m e.on = true
  | [], _, _ => ⟨List.nodup_nil, by simp, fun _ _ ⟨_, h, _⟩ => by cases h⟩
  | i :: l, had, h => by
    simp only [topo, Bool.and_eq_true] at h
    obtain ⟨h1, h2⟩ := h
    obtain ⟨a1, a2, a3⟩ := topo_spec l (i :: had) h2
    cases ho : ops[i]? with
    | none => rw [ho] at h1; simp at h1
    | some o =>
      rw [ho] at h1
      simp only [Bool.and_eq_true] at h1
      obtain ⟨⟨b1, _⟩, b3⟩ := h1
      have hni : i ∉ had := by simpa using b1
      refine ⟨List.nodup_cons.2 ⟨fun hi => a2 i hi (by simp), a1⟩, fun k hk => ?_, fun m hm hx => ?_⟩
      · rcases List.mem_cons.1 hk with rfl | hk
        · exact hni
        · exact fun h => a2 k hk (List.mem_cons_of_mem _ h)
      · cases hmi : m i
        · refine ⟨i, by simp, hmi, o, ho, fun e he hb => ?_⟩
          have := Array.all_eq_true'.1 b3 e he
          simp only [hb, Bool.not_true, Bool.false_or, List.contains_eq_mem, decide_eq_true_eq] at this
          exact hm _ this
        · obtain ⟨k, hk, hm0⟩ := hx
          have hk' : k ∈ l := by
            rcases List.mem_cons.1 hk with rfl | hk
            · rw [hmi] at hm0; cases hm0
            · exact hk
          obtain ⟨j, hj, c⟩ := a3 m (fun x hx => by
            rcases List.mem_cons.1 hx with rfl | hx
            · exact hmi
            · exact hm x hx) ⟨k, hk', hm0⟩
          exact ⟨j, List.mem_cons_of_mem _ hj, c⟩
theorem topo_guard : ∀ (U had : List Nat), topo md ops had U = true → ∀ i ∈ U, ∃ o, ops[i]? = some o ∧ o.guard = none
  | [], _, _ => by simp
  | i :: l, had, h => by
    simp only [topo, Bool.and_eq_true] at h
    obtain ⟨h1, h2⟩ := h
    intro k hk
    rcases List.mem_cons.1 hk with rfl | hk
    · cases ho : ops[k]? with
      | none => rw [ho] at h1; simp at h1
      | some o =>
        rw [ho] at h1
        simp only [Bool.and_eq_true] at h1
        refine ⟨o, rfl, ?_⟩
        have := h1.1.2
        cases hg : o.guard with
        | none => rfl
        | some _ => rw [hg] at this; simp at this
    · exact topo_guard l _ h2 k hk
theorem anc_in {m : Nat → Bool} (hcl : ∀ i, m i = true → ∀ o, ops[i]? = some o → ∀ e ∈ o.after, Region.binds md e = true → m e.on = true) : ∀ (n i : Nat), (∀ o, ops[i]? = some o → ∀ e ∈ o.after, Region.binds md e = true → m e.on = true) → ∀ j ∈ anc md ops n i, m j = true
  | 0, _, _ => by simp [anc]
  | n + 1, i, h => by
    intro j hj
    unfold anc at hj
    cases ho : ops[i]? with
    | none => rw [ho] at hj; simp at hj
    | some o =>
      rw [ho] at hj
      obtain ⟨e, he, hj⟩ := List.mem_flatMap.1 hj
      split at hj
      · next hb =>
        have h1 := h o ho e (by simpa using he) hb
        rcases List.mem_cons.1 hj with rfl | hj
        · exact h1
        · exact anc_in hcl n e.on (hcl _ h1) j hj
      · cases hj
/-- the listed ones as an array -/
def listOf (n : Nat) (m : Nat → Bool) : Array Bool := (Array.range n).map m
theorem listOf_get {n : Nat} {m : Nat → Bool} {j : Nat} (h : j < n) (b : Bool) : (listOf n m).getD j b = m j := by
  simp [listOf, Array.getD_eq_getD_getElem?, h]
theorem listOf_at {n : Nat} {m : Nat → Bool} {k : Nat} : (listOf n m)[k]? = if k < n then some (m k) else none := by
  by_cases h : k < n <;> simp [listOf, h]
theorem listOf_set {n : Nat} {m : Nat → Bool} {i : Nat} : (listOf n m).setIfInBounds i true = listOf n fun k => k == i || m k := by
  apply Array.ext_getElem?
  intro k
  rw [Array.getElem?_setIfInBounds, listOf_at, listOf_at]
  by_cases e : i = k
  · subst e
    by_cases h : i < n <;> simp [listOf, h]
  · rw [if_neg e]
    have : (k == i) = false := by simp; omega
    simp [this]
theorem filter_less {m : Nat → Bool} {i : Nat} : ∀ (U : List Nat), U.Nodup → i ∈ U → m i = false → (U.filter fun k => !m k).length = (U.filter fun k => !(k == i || m k)).length + 1 := by
  intro U
  induction U with
  | nil => intro _ h; cases h
  | cons x U ih =>
    intro hnd hiU hun
    obtain ⟨n1, n2⟩ := List.nodup_cons.1 hnd
    by_cases e : x = i
    · subst e
      have hf : (U.filter fun k => !(k == x || m k)) = U.filter fun k => !m k := List.filter_congr fun y hy => by
        have : (y == x) = false := by simp; rintro rfl; exact n1 hy
        simp [this]
      rw [List.filter_cons, List.filter_cons, hf, if_pos (by simp [hun]), if_neg (by simp)]
      simp
    · have hi' : i ∈ U := by
        rcases List.mem_cons.1 hiU with h | h
        · exact absurd h.symm e
        · exact h
      have h2 := ih n2 hi' hun
      cases hx : m x
      · rw [List.filter_cons, List.filter_cons, if_pos (by simp [hx]), if_pos (by simp [hx, e])]
        simp only [List.length_cons]
        omega
      · rw [List.filter_cons, List.filter_cons, if_neg (by simp [hx]), if_neg (by simp [hx])]
        exact h2
theorem wpAny_lin (U : List Nat) (D : Nat → List Nat) (N : Nat → Bool) (F : Nat → Value → World → Prop) (a0 : Act) (w0 : World) (hs : Region.noSelect ops = true) (hchk : linOk md ops U D = true)
    (hmono : ∀ i v w w', Below w.heap.size w w' → F i v w → F i v w')
    (hstep : ∀ i ∈ U, ∀ v w, Below w0.heap.size w0 w → (∀ j ∈ D i, F j (v j) w) → (∀ x ∈ D i, ∀ y ∈ D i, x ≠ y → N x = true → N y = true → Apart2 (v x) (v y)) → LinStep P ops N F i (putAll ops v (D i) a0) w)
    (hrest : ∀ v w, Below w0.heap.size w0 w → (∀ j ∈ U, F j (v j) w) → (∀ i ∈ U, ∀ j ∈ U, i ≠ j → N i = true → N j = true → Apart2 (v i) (v j)) → (∀ i ∈ U, N i = true → ∀ g, (v i).ownBlock = some g → w0.heap.size ≤ g) → wpAny P md ops Q (ops.size - U.length) (listOf ops.size fun k => U.contains k) (putAll ops v U a0) w) :
    wpAny P md ops Q ops.size (Array.replicate ops.size false) a0 w0 := by
  simp only [linOk, Bool.and_eq_true, List.all_eq_true] at hchk
  obtain ⟨⟨⟨⟨c1, c2⟩, c3⟩, c4⟩, c5⟩ := hchk
  obtain ⟨hnd, _, htop⟩ := topo_spec U [] c1
  have hgd := topo_guard U [] c1
  have hdst : ∀ i ∈ U, ∀ j ∈ U, j ≠ i → ∀ d, dstOf ops i = some d → dstOf ops j ≠ some d := fun i hi j hj hne d hd => by
    have := c4 i hi j hj
    rw [hd] at this
    simpa [Ne.symm hne] using this
  have hlen : U.length ≤ ops.size := by
    have hsub : ∀ i ∈ U, i ∈ List.range ops.size := fun i hi => by
      obtain ⟨o, ho, _⟩ := hgd i hi
      exact List.mem_range.2 (Array.getElem?_eq_some_iff.1 ho).1
    have := hnd.length_le_of_subset hsub
    simpa using this
  have main : ∀ (n : Nat) (m : Nat → Bool) (v : Nat → Value) (w : World), (U.filter fun k => !m k).length = n → (∀ k, m k = true → k ∈ U) →
      (∀ i, m i = true → ∀ o, ops[i]? = some o → ∀ e ∈ o.after, Region.binds md e = true → m e.on = true) → Below w0.heap.size w0 w → (∀ j, m j = true → F j (v j) w) →
      (∀ i j, m i = true → m j = true → i ≠ j → N i = true → N j = true → Apart2 (v i) (v j)) → (∀ i, m i = true → N i = true → ∀ g, (v i).ownBlock = some g → w0.heap.size ≤ g ∧ g < w.heap.size) →
      wpAny P md ops Q (ops.size - U.length + n) (listOf ops.size m) (putAll ops v (U.filter m) a0) w := by
    intro n
    induction n with
    | zero =>
      intro m v w hn hsub _ hb hF hap hlo
      have hall : ∀ k ∈ U, m k = true := fun k hk => by
        cases hm : m k
        · have : k ∈ U.filter fun k => !m k := List.mem_filter.2 ⟨hk, by simp [hm]⟩
          rw [List.eq_nil_of_length_eq_zero hn] at this
          cases this
        · rfl
      have em : m = fun k => U.contains k := funext fun k => by
        cases hm : m k
        · symm; simp; intro h; rw [hall k h] at hm; cases hm
        · symm; simpa using hsub k hm
      have ef : U.filter m = U := List.filter_eq_self.2 hall
      rw [ef, em]
      exact hrest v w hb (fun j hj => hF j (hall j hj)) (fun i hi j hj => hap i j (hall i hi) (hall j hj)) (fun i hi hN g hg => (hlo i (hall i hi) hN g hg).1)
    | succ n ih =>
      intro m v w hn hsub hcl hb hF hap hlo
      have hex : ∃ i ∈ U, m i = false := by
        obtain ⟨k, hk⟩ := List.exists_mem_of_length_pos (l := U.filter fun k => !m k) (by omega)
        have := List.mem_filter.1 hk
        exact ⟨k, this.1, by simpa using this.2⟩
      obtain ⟨k0, hk0, hm0, o0, ho0, hdep0⟩ := htop m (by simp) hex
      have hl : ∀ j, m j = true → j < ops.size := fun j hj => by
        obtain ⟨o, ho, _⟩ := hgd j (hsub j hj)
        exact (Array.getElem?_eq_some_iff.1 ho).1
      have hon : ∀ j, (listOf ops.size m).getD j false = true ↔ m j = true := fun j => by
        rcases Nat.lt_or_ge j ops.size with h | h
        · rw [listOf_get h]
        · constructor
          · intro h'; simp [listOf, Array.getD_eq_getD_getElem?, Nat.not_lt.2 h] at h'
          · intro h'; have := hl j h'; omega
      have hready0 : k0 ∈ Region.ready md ops (listOf ops.size m) := mem_ready.2 ⟨by rw [listOf_get (Array.getElem?_eq_some_iff.1 ho0).1]; exact hm0, o0, ho0, fun e he hbd => (hon _).2 (hdep0 e he hbd)⟩
      rw [show ops.size - U.length + (n + 1) = (ops.size - U.length + n) + 1 from rfl]
      refine ⟨(fun h => by rw [h] at hready0; cases hready0), fun i hi => ?_⟩
      obtain ⟨hun, o, ho, hdep⟩ := mem_ready.1 hi
      have hlt := (Array.getElem?_eq_some_iff.1 ho).1
      rw [listOf_get hlt] at hun
      have hdep' : ∀ o', ops[i]? = some o' → ∀ e ∈ o'.after, Region.binds md e = true → m e.on = true := fun o' ho' e he hbd => by
        obtain rfl : o = o' := Option.some.inj (ho.symm.trans ho')
        exact (hon _).1 (hdep e he hbd)
      have hanc := anc_in hcl ops.size i hdep'
      have hiU : i ∈ U := by
        have := c5 i (List.mem_range.2 hlt)
        simp only [Bool.or_eq_true, List.contains_eq_mem, decide_eq_true_eq, List.all_eq_true] at this
        rcases this with h | h
        · exact h
        · have := hanc k0 (h k0 hk0)
          rw [hm0] at this; cases this
      have hD : ∀ j ∈ D i, j ∈ U ∧ m j = true := fun j hj => by
        have := c2 i hiU j hj
        simp only [Bool.and_eq_true, List.contains_eq_mem, decide_eq_true_eq] at this
        exact ⟨this.1, hanc j this.2⟩
      obtain ⟨o', ho', hguard⟩ := hgd i hiU
      obtain rfl : o = o' := Option.some.inj (ho.symm.trans ho')
      have hst := hstep i hiU v w hb (fun j hj => hF j (hD j hj).2) (fun x hx y hy => hap x y (hD x hx).2 (hD y hy).2)
      have hw : Region.wanted o (yielded ops (putAll ops v (U.filter m) a0).tmps) = true := by simp [Region.wanted, hguard]
      unfold wpOp
      simp only [ho, hw, if_true]
      refine .inl (hst o ho Q _ _ ?_ ?_)
      · refine execOp_congr o (fun cs b => Region.noSelect_spec hs i o cs b ho) fun x hx => ?_
        cases x with
        | tmp d =>
          by_cases hd : ∃ j ∈ U, dstOf ops j = some d
          · obtain ⟨j, hj, hjd⟩ := hd
            have hlook : d ∈ o.looksAt ops := List.mem_append_left _ (List.mem_filterMap.2 ⟨.tmp d, by simpa using hx, rfl⟩)
            have hin : j ∈ D i := by
              have := c3 i hiU
              rw [ho] at this
              have := List.all_eq_true.1 this j hj
              rw [hjd] at this
              simpa [hlook] using this
            rw [eval_putAll_in v hjd _ _ (List.mem_filter.2 ⟨hj, (hD j hin).2⟩) (fun k hk hkd => by
                rcases Nat.decEq k j with h | h
                · exact absurd hkd (hdst j hj k (List.mem_filter.1 hk).1 h d hjd)
                · exact h),
              eval_putAll_in v hjd _ _ hin (fun k hk hkd => by
                rcases Nat.decEq k j with h | h
                · exact absurd hkd (hdst j hj k (hD k hk).1 h d hjd)
                · exact h)]
          · rw [eval_putAll_no v _ _ (fun j hj d' hd' e => hd ⟨j, (List.mem_filter.1 hj).1, by injection e with e; rw [e]; exact hd'⟩),
              eval_putAll_no v _ _ (fun j hj d' hd' e => hd ⟨j, (hD j hj).1, by injection e with e; rw [e]; exact hd'⟩)]
        | _ => rfl
      · intro u w' hFu hborn hbu
        have hput := filter_put (ops := ops) (v := v) (u := u) (a := a0) U hnd hiU hun (fun j hj hne => hdst i hiU j hj hne)
        have hdo : o.dst = dstOf ops i := by simp [dstOf, ho]
        rw [listOf_set, hdo, ← hput]
        have hbw : Below w.heap.size w w' := hbu
        refine ih _ _ w' ?_ ?_ ?_ (hb.trans (hbw.mono hb.size)) ?_ ?_ ?_
        · have h1 := filter_less U hnd hiU hun
          omega
        · intro k hk
          simp only [Bool.or_eq_true, beq_iff_eq] at hk
          rcases hk with rfl | hk
          · exact hiU
          · exact hsub k hk
        · intro k hk o2 ho2 e he hbd
          simp only [Bool.or_eq_true, beq_iff_eq] at hk ⊢
          rcases hk with rfl | hk
          · exact .inr (hdep' o2 ho2 e he hbd)
          · exact .inr (hcl k hk o2 ho2 e he hbd)
        · intro j hj
          simp only [Bool.or_eq_true, beq_iff_eq] at hj
          by_cases e : j = i
          · subst e
            simp only [if_true]
            exact hFu
          · simp only [e, if_false]
            rcases hj with h | h
            · exact absurd h e
            · exact hmono j _ _ _ hbw (hF j h)
        · intro x y hx hy hne hNx hNy
          simp only [Bool.or_eq_true, beq_iff_eq] at hx hy
          by_cases ex : x = i
          · by_cases ey : y = i
            · exact absurd (ex.trans ey.symm) hne
            · subst ex
              simp only [if_true, ey, if_false]
              intro g hg hg2
              have h1 := (hborn hNx g hg).1
              have h2 := (hlo y (hy.resolve_left ey) hNy g hg2).2
              omega
          · by_cases ey : y = i
            · subst ey
              simp only [if_true, ex, if_false]
              intro g hg hg2
              have h1 := (hborn hNy g hg2).1
              have h2 := (hlo x (hx.resolve_left ex) hNx g hg).2
              omega
            · simp only [ex, ey, if_false]
              exact hap x y (hx.resolve_left ex) (hy.resolve_left ey) hne hNx hNy
        · intro x hx hN g
          simp only [Bool.or_eq_true, beq_iff_eq] at hx
          by_cases ex : x = i
          · subst ex
            simp only [if_true]
            intro hg
            have h1 := hborn hN g hg
            have := hb.size
            omega
          · simp only [ex, if_false]
            intro hg
            have h1 := hlo x (hx.resolve_left ex) hN g hg
            have := hbw.size
            omega
  have h0 := main U.length (fun _ => false) (fun _ => undef) w0 (by simp) (by simp) (by simp) (Below.refl _ _) (by simp) (by simp) (by simp)
  have e1 : ops.size - U.length + U.length = ops.size := by omega
  have e2 : listOf ops.size (fun _ => false) = Array.replicate ops.size false := by
    apply Array.ext
    · simp [listOf]
    · intro k h1 h2; simp [listOf]
  have e3 : (U.filter fun _ => false) = [] := by simp
  rw [e1, e2, e3] at h0
  exact h0
theorem wp_region_lin {id : Nat} {a : Act} {w : World} (hm : P.follows .mixedOrders = true) (U : List Nat) (D : Nat → List Nat) (N : Nat → Bool) (F : Nat → Value → World → Prop) (n k : Nat) (L : Array Bool) (hs : Region.noSelect ops = true) (hchk : linOk .any ops U D = true)
    (_hn : ops.size = n) (hk : ops.size - U.length = k) (hL : listOf ops.size (fun k => U.contains k) = L)
    (hmono : ∀ i v w w', Below w.heap.size w w' → F i v w → F i v w')
    (hstep : ∀ i ∈ U, ∀ v W, Below w.heap.size w W → (∀ j ∈ D i, F j (v j) W) → (∀ x ∈ D i, ∀ y ∈ D i, x ≠ y → N x = true → N y = true → Apart2 (v x) (v y)) → LinStep P ops N F i (putAll ops v (D i) a) W)
    (hrest : ∀ v W, Below w.heap.size w W → (∀ j ∈ U, F j (v j) W) → (∀ i ∈ U, ∀ j ∈ U, i ≠ j → N i = true → N j = true → Apart2 (v i) (v j)) → (∀ i ∈ U, N i = true → ∀ g, (v i).ownBlock = some g → w.heap.size ≤ g) → wpAnyZ P .any ops Q (fun _ => True) n k L (putAll ops v U a) W) : (Code.region id ops true).wp P Q a w :=
  wp_region_any hm (wpAny_lin U D N F a w.drew hs hchk hmono (fun i hi v W hb => hstep i hi v W (by simpa using (Below.refl w.heap.size w).drew.trans hb)) (fun v W hb hF hap hlo => by rw [hk, hL]; exact wpAny_of_z (z := n) (S := fun _ => True) _ _ _ _ (hrest v W ((Below.refl w.heap.size w).drew.trans hb) hF hap (by simpa using hlo))))
end
end Go.Proofs.Ytneelmmikaefgaa
