/- A region that draws its order, by what holds of each set of operations that are done (its list of operations in an order in which it may be done; what holds is carried by one relation). No program: plain laws on orders; it stands on Lin. -/
import Derived.Test.YtneelmmikaefgaaLin
namespace Go.Proofs.Ytneelmmikaefgaa
open Go.RowKit
set_option linter.unusedSimpArgs false
set_option linter.unusedVariables false

section
variable {P : Program} {ops : Array Oper} {Q : Exit → Act → World → Prop} {md : Region.Mode}
/-- operation i, behind those of m: it gives some value, and G of one more -/
def InvStep (P : Program) (ops : Array Oper) (G : (Nat → Bool) → (Nat → Value) → World → Prop) (i : Nat) (m : Nat → Bool) (v : Nat → Value) (a : Act) (w : World) : Prop :=
  ∀ o, ops[i]? = some o → ∀ (Q : Exit → Act → World → Prop) (K : Act → World → Prop) (a' : Act), execOp a'.eval o = execOp a.eval o →
    (∀ u w', G (fun k => k == i || m k) (fun k => if k = i then u else v k) w' → K (a'.put o.dst u) w') → Oper.wp P o a' w K Q
variable {G : (Nat → Bool) → (Nat → Value) → World → Prop} {i : Nat} {m : Nat → Bool} {v : Nat → Value} {a : Act} {w : World}
theorem istep_value {w' : World} {o : Oper} {u : Value} (ho : ops[i]? = some o) (hr : (execOp a.eval o).run P w = .ok (.value u) w') (hG : G (fun k => k == i || m k) (fun k => if k = i then u else v k) w') : InvStep P ops G i m v a w := by
  intro o' ho' Q K a' he hK
  obtain rfl : o = o' := Option.some.inj (ho.symm.trans ho')
  unfold Oper.wp
  rw [he, hr]
  exact hK _ _ hG
theorem istep_skip {w' : World} {o : Oper} (ho : ops[i]? = some o) (hr : (execOp a.eval o).run P w = .ok .skip w') (hG : G (fun k => k == i || m k) (fun k => if k = i then undef else v k) w') : InvStep P ops G i m v a w := by
  intro o' ho' Q K a' he hK
  obtain rfl : o = o' := Option.some.inj (ho.symm.trans ho')
  unfold Oper.wp
  rw [he, hr]
  exact hK _ _ hG
theorem istep_call {o : Oper} {f : FuncId} {args : Array Value} (ho : ops[i]? = some o) (hr : (execOp a.eval o).run P w = .ok (.enter f args) w)
    (hc : Calls P f args w fun e w' => ∃ u, e = .returned u ∧ G (fun k => k == i || m k) (fun k => if k = i then u else v k) w') : InvStep P ops G i m v a w := by
  intro o' ho' Q K a' he hK
  obtain rfl : o = o' := Option.some.inj (ho.symm.trans ho')
  unfold Oper.wp
  rw [he, hr]
  refine hc.mono ?_
  rintro e w' ⟨u, rfl, hG⟩
  exact hK _ _ hG
theorem wpAny_inv (U : List Nat) (D : Nat → List Nat) (G : (Nat → Bool) → (Nat → Value) → World → Prop) (a0 : Act) (w0 : World) (hs : Region.noSelect ops = true) (hchk : linOk md ops U D = true)
    (hG0 : G (fun _ => false) (fun _ => undef) w0)
    (hstep : ∀ i ∈ U, ∀ m v w, m i = false → (∀ j ∈ anc md ops ops.size i, m j = true) → G m v w → InvStep P ops G i m v (putAll ops v (D i) a0) w)
    (hrest : ∀ v w, G (fun k => U.contains k) v w → wpAny P md ops Q (ops.size - U.length) (listOf ops.size fun k => U.contains k) (putAll ops v U a0) w) :
    wpAny P md ops Q ops.size (Array.replicate ops.size false) a0 w0 := by
  simp only [linOk, Bool.and_eq_true, List.all_eq_true] at hchk
  obtain ⟨⟨⟨⟨c1, c2⟩, c3⟩, c4⟩, c5⟩ := hchk
  obtain ⟨hnd, _, htop⟩ := topo_spec U [] c1
  have hgd := topo_guard U [] c1
  have hdst : ∀ i ∈ U, ∀ j ∈ U, j ≠ i → ∀ d, dstOf ops i = some d → dstOf ops j ≠ some d := fun i hi j hj hne d hd => by
    have := c4 i hi j hj
    rw [hd] at this
    simpa [Ne.symm hne] using this
  have hlen : U.length ≤ ops.size := by
    have hsub : ∀ i ∈ U, i ∈ List.range ops.size := fun i hi => by
      obtain ⟨o, ho, _⟩ := hgd i hi
      exact List.mem_range.2 (Array.getElem?_eq_some_iff.1 ho).1
    have := hnd.length_le_of_subset hsub
    simpa using this
  have main : ∀ (n : Nat) (m : Nat → Bool) (v : Nat → Value) (w : World), (U.filter fun k => !m k).length = n → (∀ k, m k = true → k ∈ U) →
      (∀ i, m i = true → ∀ o, ops[i]? = some o → ∀ e ∈ o.after, Region.binds md e = true → m e.on = true) → G m v w →
      wpAny P md ops Q (ops.size - U.length + n) (listOf ops.size m) (putAll ops v (U.filter m) a0) w := by
    intro n
    induction n with
    | zero =>
      intro m v w hn hsub _ hG
      have hall : ∀ k ∈ U, m k = true := fun k hk => by
        cases hm : m k
        · have : k ∈ U.filter fun k => !m k := List.mem_filter.2 ⟨hk, by simp [hm]⟩
          rw [List.eq_nil_of_length_eq_zero hn] at this
          cases this
        · rfl
      have em : m = fun k => U.contains k := funext fun k => by
        cases hm : m k
        · symm; simp; intro h; rw [hall k h] at hm; cases hm
        · symm; simpa using hsub k hm
      have ef : U.filter m = U := List.filter_eq_self.2 hall
      rw [ef, em]
      exact hrest v w (em ▸ hG)
    | succ n ih =>
      intro m v w hn hsub hcl hG
      have hex : ∃ i ∈ U, m i = false := by
        obtain ⟨k, hk⟩ := List.exists_mem_of_length_pos (l := U.filter fun k => !m k) (by omega)
        have := List.mem_filter.1 hk
        exact ⟨k, this.1, by simpa using this.2⟩
      obtain ⟨k0, hk0, hm0, o0, ho0, hdep0⟩ := htop m (by simp) hex
      have hl : ∀ j, m j = true → j < ops.size := fun j hj => by
        obtain ⟨o, ho, _⟩ := hgd j (hsub j hj)
        exact (Array.getElem?_eq_some_iff.1 ho).1
      have hon : ∀ j, (listOf ops.size m).getD j false = true ↔ m j = true := fun j => by
        rcases Nat.lt_or_ge j ops.size with h | h
        · rw [listOf_get h]
        · constructor
          · intro h'; simp [listOf, Array.getD_eq_getD_getElem?, Nat.not_lt.2 h] at h'
          · intro h'; have := hl j h'; omega
      have hready0 : k0 ∈ Region.ready md ops (listOf ops.size m) := mem_ready.2 ⟨by rw [listOf_get (Array.getElem?_eq_some_iff.1 ho0).1]; exact hm0, o0, ho0, fun e he hbd => (hon _).2 (hdep0 e he hbd)⟩
      rw [show ops.size - U.length + (n + 1) = (ops.size - U.length + n) + 1 from rfl]
      refine ⟨(fun h => by rw [h] at hready0; cases hready0), fun i hi => ?_⟩
      obtain ⟨hun, o, ho, hdep⟩ := mem_ready.1 hi
      have hlt := (Array.getElem?_eq_some_iff.1 ho).1
      rw [listOf_get hlt] at hun
      have hdep' : ∀ o', ops[i]? = some o' → ∀ e ∈ o'.after, Region.binds md e = true → m e.on = true := fun o' ho' e he hbd => by
        obtain rfl : o = o' := Option.some.inj (ho.symm.trans ho')
        exact (hon _).1 (hdep e he hbd)
      have hanc := anc_in hcl ops.size i hdep'
      have hiU : i ∈ U := by
        have := c5 i (List.mem_range.2 hlt)
        simp only [Bool.or_eq_true, List.contains_eq_mem, decide_eq_true_eq, List.all_eq_true] at this
        rcases this with h | h
        · exact h
        · have := hanc k0 (h k0 hk0)
          rw [hm0] at this; cases this
      have hD : ∀ j ∈ D i, j ∈ U ∧ m j = true := fun j hj => by
        have := c2 i hiU j hj
        simp only [Bool.and_eq_true, List.contains_eq_mem, decide_eq_true_eq] at this
        exact ⟨this.1, hanc j this.2⟩
      obtain ⟨o', ho', hguard⟩ := hgd i hiU
      obtain rfl : o = o' := Option.some.inj (ho.symm.trans ho')
      have hst := hstep i hiU m v w hun hanc hG
      have hw : Region.wanted o (yielded ops (putAll ops v (U.filter m) a0).tmps) = true := by simp [Region.wanted, hguard]
      unfold wpOp
      simp only [ho, hw, if_true]
      refine .inl (hst o ho Q _ _ ?_ ?_)
      · refine execOp_congr o (fun cs b => Region.noSelect_spec hs i o cs b ho) fun x hx => ?_
        cases x with
        | tmp d =>
          by_cases hd : ∃ j ∈ U, dstOf ops j = some d
          · obtain ⟨j, hj, hjd⟩ := hd
            have hlook : d ∈ o.looksAt ops := List.mem_append_left _ (List.mem_filterMap.2 ⟨.tmp d, by simpa using hx, rfl⟩)
            have hin : j ∈ D i := by
              have := c3 i hiU
              rw [ho] at this
              have := List.all_eq_true.1 this j hj
              rw [hjd] at this
              simpa [hlook] using this
            rw [eval_putAll_in v hjd _ _ (List.mem_filter.2 ⟨hj, (hD j hin).2⟩) (fun k hk hkd => by
                rcases Nat.decEq k j with h | h
                · exact absurd hkd (hdst j hj k (List.mem_filter.1 hk).1 h d hjd)
                · exact h),
              eval_putAll_in v hjd _ _ hin (fun k hk hkd => by
                rcases Nat.decEq k j with h | h
                · exact absurd hkd (hdst j hj k (hD k hk).1 h d hjd)
                · exact h)]
          · rw [eval_putAll_no v _ _ (fun j hj d' hd' e => hd ⟨j, (List.mem_filter.1 hj).1, by injection e with e; rw [e]; exact hd'⟩),
              eval_putAll_no v _ _ (fun j hj d' hd' e => hd ⟨j, (hD j hj).1, by injection e with e; rw [e]; exact hd'⟩)]
        | _ => rfl
      · intro u w' hGu
        have hput := filter_put (ops := ops) (v := v) (u := u) (a := a0) U hnd hiU hun (fun j hj hne => hdst i hiU j hj hne)
        have hdo : o.dst = dstOf ops i := by simp [dstOf, ho]
        rw [listOf_set, hdo, ← hput]
        refine ih _ _ w' ?_ ?_ ?_ hGu
        · have h1 := filter_less U hnd hiU hun
          omega
        · intro k hk
          simp only [Bool.or_eq_true, beq_iff_eq] at hk
          rcases hk with rfl | hk
          · exact hiU
          · exact hsub k hk
        · intro k hk o2 ho2 e he hbd
          simp only [Bool.or_eq_true, beq_iff_eq] at hk ⊢
          rcases hk with rfl | hk
          · exact .inr (hdep' o2 ho2 e he hbd)
          · exact .inr (hcl k hk o2 ho2 e he hbd)
  have h0 := main U.length (fun _ => false) (fun _ => undef) w0 (by simp) (by simp) (by simp) hG0
  have e1 : ops.size - U.length + U.length = ops.size := by omega
  have e2 : listOf ops.size (fun _ => false) = Array.replicate ops.size false := by
    apply Array.ext
    · simp [listOf]
    · intro k h1 h2; simp [listOf]
  have e3 : (U.filter fun _ => false) = [] := by simp
  rw [e1, e2, e3] at h0
  exact h0
theorem wp_region_inv {id : Nat} {a : Act} {w : World} (hm : P.follows .mixedOrders = true) (U : List Nat) (D : Nat → List Nat) (G : (Nat → Bool) → (Nat → Value) → World → Prop) (n k : Nat) (L : Array Bool) (hs : Region.noSelect ops = true) (hchk : linOk .any ops U D = true)
    (_hn : ops.size = n) (hk : ops.size - U.length = k) (hL : listOf ops.size (fun k => U.contains k) = L) (hG0 : G (fun _ => false) (fun _ => undef) w.drew)
    (hstep : ∀ i ∈ U, ∀ m v W, m i = false → (∀ j ∈ anc .any ops ops.size i, m j = true) → G m v W → InvStep P ops G i m v (putAll ops v (D i) a) W)
    (hrest : ∀ v W, G (fun k => U.contains k) v W → wpAnyZ P .any ops Q (fun _ => True) n k L (putAll ops v U a) W) : (Code.region id ops true).wp P Q a w :=
  wp_region_any hm (wpAny_inv U D G a w.drew hs hchk hG0 hstep (fun v W hG => by rw [hk, hL]; exact wpAny_of_z (z := n) (S := fun _ => True) _ _ _ _ (hrest v W hG)))
end
end Go.Proofs.Ytneelmmikaefgaa
