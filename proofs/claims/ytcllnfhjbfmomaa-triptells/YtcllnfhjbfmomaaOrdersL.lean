/- As Orders, where some operations may come behind a store: S holds behind every operation, ST as long as operation z (a store that all loads of ST's cells are ahead of) has not come up. -/
import Derived.Test.YtcllnfhjbfmomaaOrders
namespace Go.Proofs.Ytcllnfhjbfmomaa

section
variable {P : Program} {ops : Array Oper} {Q : Exit → Act → World → Prop} {md : Region.Mode} {R : Array Bool → World → Prop}

def wpAnyL (P : Program) (md : Region.Mode) (ops : Array Oper) (Q : Exit → Act → World → Prop) (R : Array Bool → World → Prop) : Nat → Array Bool → Act → World → Prop
  | 0, listed, a, w => Region.ready md ops listed = [] ∧ Q .normal a w
  | fuel + 1, listed, a, w => (Region.ready md ops listed = [] → Q .normal a w) ∧ ∀ i ∈ Region.ready md ops listed, wpOp P ops Q i (fun a' w' => R (listed.setIfInBounds i true) w' ∧ wpAnyL P md ops Q R fuel (listed.setIfInBounds i true) a' w') a w
theorem wpAny_of_l : ∀ (fuel : Nat) (listed : Array Bool) (a : Act) (w : World), wpAnyL P md ops Q R fuel listed a w → wpAny P md ops Q fuel listed a w
  | 0, _, _, _, h => h
  | fuel + 1, _, _, _, h => ⟨h.1, fun i hi => wpOp_mono (fun a' w' h' => wpAny_of_l fuel _ a' w' h'.2) (h.2 i hi)⟩
theorem wpAnyL_first {i : Nat} {oi : Oper} {v : Value} {G : World → Prop} {C : Array Bool → Prop} (hi : ops[i]? = some oi) (hsel : ∀ (j : Nat) (o : Oper) cs b, ops[j]? = some o → o.op ≠ .select cs b)
    (hQ : ∀ c a w, Q (.panic c) (a.put oi.dst v) w → Q (.panic c) a w) (hRi : ∀ listed w, R (listed.setIfInBounds i true) w ↔ R listed w) (hG : ∀ listed w, C listed → R listed w → G w)
    (hC : ∀ listed j oj, C listed → ops[j]? = some oj → (∀ e ∈ oj.after, Region.binds md e = true → e.on ≠ i) → C (listed.setIfInBounds j true)) :
    ∀ (fuel : Nat) (listed : Array Bool) (a : Act) (w : World),
      (∀ j oj, ops[j]? = some oj → j ≠ i → listed.getD j true = false → (∀ e ∈ oj.after, Region.binds md e = true → e.on ≠ i) → oi.apart ops oj = true) →
      i ∈ Region.ready md ops listed → Gives P ops Q G oi v a → C listed → R listed w →
      wpAnyL P md ops Q R fuel (listed.setIfInBounds i true) (a.put oi.dst v) w → wpAnyL P md ops Q R (fuel + 1) listed a w := by
  intro fuel
  have here : ∀ {K : Act → World → Prop} {a : Act} {w : World}, Gives P ops Q G oi v a → G w → K (a.put oi.dst v) w → wpOp P ops Q i K a w := fun {K a w} hg hS hK => by
    unfold wpOp
    simp only [hi, hg.1, if_true]
    exact .inl (hg.2 w hS K a rfl hK)
  have waits : ∀ {listed : Array Bool} {j : Nat} {oj : Oper}, i ∈ Region.ready md ops listed → (∀ e ∈ oj.after, Region.binds md e = true → listed.getD e.on false = true) → ∀ e ∈ oj.after, Region.binds md e = true → e.on ≠ i := fun {listed j oj} hr hall e he hb heq => by
    have h1 := hall e he hb
    have h0 := (mem_ready.1 hr).1
    rw [heq] at h1
    rcases Nat.lt_or_ge i listed.size with h' | h'
    · simp [h'] at h0 h1; rw [h0] at h1; cases h1
    · simp [Array.getElem?_eq_none h'] at h1
  induction fuel with
  | zero =>
    intro listed a w _ hr hg hCl hS H
    refine ⟨fun h => (by rw [h] at hr; cases hr), fun j hj => ?_⟩
    by_cases hji : j = i
    · subst hji; exact here hg (hG _ _ hCl hS) ⟨(hRi _ _).2 hS, H⟩
    · have := ready_mono hj hji
      rw [H.1] at this
      cases this
  | succ fuel ih =>
    intro listed a w hfree hr hg hCl hS H
    refine ⟨fun h => (by rw [h] at hr; cases hr), fun j hj => ?_⟩
    by_cases hji : j = i
    · subst hji; exact here hg (hG _ _ hCl hS) ⟨(hRi _ _).2 hS, H⟩
    · have h1 := H.2 j (ready_mono hj hji)
      obtain ⟨hjun, oj, hoj, hall⟩ := mem_ready.1 hj
      have hnot := waits (j := j) hr hall
      have h2 := wpOp_swap hoj (hfree j oj hoj hji hjun hnot) (fun cs b => hsel i oi cs b hi) (fun cs b => hsel j oj cs b hoj) hQ hg h1
      have hfree' : ∀ k ok, ops[k]? = some ok → k ≠ i → (listed.setIfInBounds j true).getD k true = false → (∀ e ∈ ok.after, Region.binds md e = true → e.on ≠ i) → oi.apart ops ok = true := fun k ok hk hki hun hno => by
        refine hfree k ok hk hki ?_ hno
        by_cases hjk : j = k
        · subst hjk; exact hjun
        · rw [getD_set_ne true hjk] at hun; exact hun
      refine wpOp_mono (fun a' w' h3 => ?_) h2
      have h4 : R (listed.setIfInBounds j true) w' := by
        have := h3.2.1
        rw [← Array.setIfInBounds_comm _ _ hji] at this
        exact (hRi _ _).1 this
      refine ⟨h4, ih (listed.setIfInBounds j true) a' w' hfree' (ready_mono hr (Ne.symm hji)) h3.1 (hC _ j oj hCl hoj hnot) h4 ?_⟩
      rw [Array.setIfInBounds_comm _ _ hji]
      exact h3.2.2
/-- S always, ST as long as z has not come up -/
def Till (z : Nat) (S ST : World → Prop) (listed : Array Bool) (w : World) : Prop := S w ∧ (listed.getD z false = false → ST w)
theorem till_set {z i : Nat} {S ST : World → Prop} (h : i ≠ z) (listed : Array Bool) (w : World) : Till z S ST (listed.setIfInBounds i true) w ↔ Till z S ST listed w := by
  unfold Till
  rw [getD_set_ne false h]
variable {S ST : World → Prop} {z : Nat}
theorem wpAnyL_take {i : Nat} {oi : Oper} {v : Value} {fuel : Nat} {listed : Array Bool} {a : Act} {w : World} (hi : ops[i]? = some oi) (hs : Region.noSelect ops = true) (hf : Region.free md ops listed i = true)
    (hr : (Region.ready md ops listed).contains i = true) (hz : (i != z) = true) (hQ : ∀ c a w, Q (.panic c) (a.put oi.dst v) w → Q (.panic c) a w)
    (hg : Gives P ops Q S oi v a) (hS : Till z S ST listed w) (h : Till z S ST (listed.setIfInBounds i true) w → wpAnyL P md ops Q (Till z S ST) fuel (listed.setIfInBounds i true) (a.put oi.dst v) w) : wpAnyL P md ops Q (Till z S ST) (fuel + 1) listed a w :=
  wpAnyL_first (C := fun _ => True) hi (Region.noSelect_spec hs) hQ (till_set (by simpa using hz)) (fun _ _ _ h => h.1) (fun _ _ _ _ _ _ => trivial) fuel listed a w (Region.free_spec hi hf) (by simpa using hr) hg trivial hS (h ((till_set (by simpa using hz) _ _).2 hS))
theorem wpAnyL_early {i : Nat} {oi oz : Oper} {v : Value} {fuel : Nat} {listed : Array Bool} {a : Act} {w : World} (hi : ops[i]? = some oi) (hs : Region.noSelect ops = true) (hf : Region.free md ops listed i = true)
    (hr : (Region.ready md ops listed).contains i = true) (hz : (i != z) = true) (hoz : ops[z]? = some oz) (hwt : Region.waitsFor md ops z i = true) (hzl : listed.getD z false = false) (hQ : ∀ c a w, Q (.panic c) (a.put oi.dst v) w → Q (.panic c) a w)
    (hg : Gives P ops Q (fun w => S w ∧ ST w) oi v a) (hS : Till z S ST listed w) (h : Till z S ST (listed.setIfInBounds i true) w → wpAnyL P md ops Q (Till z S ST) fuel (listed.setIfInBounds i true) (a.put oi.dst v) w) : wpAnyL P md ops Q (Till z S ST) (fuel + 1) listed a w := by
  obtain ⟨oj, hoj, hw⟩ := Region.waitsFor_spec hwt
  obtain rfl : oj = oz := Option.some.inj (hoj.symm.trans hoz)
  refine wpAnyL_first (C := fun l => l.getD z false = false) hi (Region.noSelect_spec hs) hQ (till_set (by simpa using hz)) (fun _ _ hc h => ⟨h.1, h.2 hc⟩) (fun l j oj' hc hj hno => ?_) fuel listed a w (Region.free_spec hi hf) (by simpa using hr) hg hzl hS (h ((till_set (by simpa using hz) _ _).2 hS))
  have hjz : j ≠ z := by
    rintro rfl
    obtain rfl : oj' = oj := Option.some.inj (hj.symm.trans hoz)
    obtain ⟨e, he, hb, heq⟩ := hw
    exact hno e he hb heq
  rw [getD_set_ne false hjz]
  exact hc
/-- the way on from operation i -/
def LStep (P : Program) (md : Region.Mode) (ops : Array Oper) (Q : Exit → Act → World → Prop) (R : Array Bool → World → Prop) (fuel : Nat) (listed : Array Bool) (a : Act) (w : World) (i : Nat) : Prop :=
  wpOp P ops Q i (fun a' w' => R (listed.setIfInBounds i true) w' ∧ wpAnyL P md ops Q R fuel (listed.setIfInBounds i true) a' w') a w
theorem lstep {fuel i : Nat} {o : Oper} {listed : Array Bool} {a : Act} {w : World} (ho : ops[i]? = some o)
    (h : ∀ K' : Act → World → Prop, Shut (∀ a w, R (listed.setIfInBounds i true) w → (R (listed.setIfInBounds i true) w → wpAnyL P md ops Q R fuel (listed.setIfInBounds i true) a w) → K' a w) → if Region.wanted o (yielded ops a.tmps) = true then Oper.wp P o a w K' Q else K' (a.put o.dst undef) w) :
    LStep P md ops Q R fuel listed a w i := wpOp_step ho (fun K' hK => h K' (fun a w hS hW => hK a w ⟨hS, hW hS⟩))
theorem wpAnyL_one {fuel i : Nat} {listed : Array Bool} {a : Act} {w : World} (hr : Region.ready md ops listed = [i]) (h : LStep P md ops Q R fuel listed a w i) : wpAnyL P md ops Q R (fuel + 1) listed a w :=
  ⟨(fun h0 => by rw [hr] at h0; cases h0), (fun k hk => by rw [hr, List.mem_singleton] at hk; subst hk; exact h)⟩
theorem wpAnyL_two {fuel i j : Nat} {listed : Array Bool} {a : Act} {w : World} (hr : Region.ready md ops listed = [i, j]) (h1 : LStep P md ops Q R fuel listed a w i) (h2 : LStep P md ops Q R fuel listed a w j) : wpAnyL P md ops Q R (fuel + 1) listed a w :=
  ⟨(fun h0 => by rw [hr] at h0; cases h0), fun k hk => by
    rw [hr, List.mem_cons, List.mem_singleton] at hk
    rcases hk with rfl | rfl
    · exact h1
    · exact h2⟩
theorem wpAnyL_done {listed : Array Bool} {a : Act} {w : World} (hr : Region.ready md ops listed = []) (h : Q .normal a w) : ∀ fuel, wpAnyL P md ops Q R fuel listed a w
  | 0 => ⟨hr, h⟩
  | _ + 1 => ⟨fun _ => h, by rw [hr]; simp⟩
theorem wp_region_l {id : Nat} {a : Act} {w : World} (hm : P.follows .mixedOrders = true) (hS : R (Array.replicate ops.size false) w.drew) (h : R (Array.replicate ops.size false) w.drew → wpAnyL P .any ops Q R ops.size (Array.replicate ops.size false) a w.drew) : (Code.region id ops true).wp P Q a w :=
  wp_region_any hm (wpAny_of_l _ _ _ _ (h hS))
end
end Go.Proofs.Ytcllnfhjbfmomaa
