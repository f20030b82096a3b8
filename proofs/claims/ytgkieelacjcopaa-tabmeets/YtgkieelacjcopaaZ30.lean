/- A map of the places of stops, as a call makes it. · A trip whose two rows are appended to, in either order, ahead of the stores. · As Orders, where some operations may come behind a store: S holds behind every operation, ST as long as operation z (a store that all loads of ST's cells are ahead of) has not come up. -/
import Derived.Test.YtgkieelacjcopaaZ06
import Derived.Test.YtgkieelacjcopaaZ02
import Derived.RowKit3
import Derived.Maps.OwnSet
import Derived.Test.YtgkieelacjcopaaZ03
namespace Go.Proofs.Ytgkieelacjcopaa
open Go.RowKit Go.Maps
set_option linter.unusedSimpArgs false
set_option maxRecDepth 100000

def pos (l : List Int) (off : Nat) (x : Int) : Int := if x ∈ l then ((l.idxOf x : Nat) : Int) + off else 0
structure Places (D : DataW Unit) (l : List Int) (off : Nat) : Prop where
  at_ : ∀ x : Int, D.atKey (.int .i64 x) (.lit (.int .i64 0)) = .lit (.int .i64 (pos l off x))
  has_ : ∀ x : Int, Maps.has D (.int .i64 x) = l.contains x
theorem places_start (off : Nat) : Places (.map []) [] off := ⟨fun x => by simp [pos]; rfl, fun _ => rfl⟩
theorem pos_snoc_same {l : List Int} {off : Nat} {s : Int} (h : s ∉ l) : pos (l ++ [s]) off s = (l.length : Int) + off := by
  unfold pos
  rw [if_pos (by simp), List.idxOf_append, if_neg h]
  simp
theorem pos_snoc_other {l : List Int} {off : Nat} {s x : Int} (h : x ≠ s) : pos (l ++ [s]) off x = pos l off x := by
  unfold pos
  by_cases hx : x ∈ l
  · rw [if_pos (by simp [hx]), if_pos hx, List.idxOf_append, if_pos hx]
  · rw [if_neg (by simp [hx, h]), if_neg hx]
theorem Places.put {D : DataW Unit} {l : List Int} {off : Nat} (h : Places D l off) (hD : IsMap D) {s : Int} (hs : s ∉ l) : Places (D.put (.int .i64 s) (.lit (.int .i64 ((l.length : Int) + off)))) (l ++ [s]) off := by
  refine ⟨fun x => ?_, fun x => ?_⟩
  · by_cases e : x = s
    · subst e
      rw [atKey_put_same hD (by simp [WideAt.IsKeyLit]), pos_snoc_same hs]
    · rw [atKey_put_other (fun h => e (Lit.int.inj h).2), h.at_ x, pos_snoc_other e]
  · by_cases e : x = s
    · subst e
      rw [has_put_same hD (by simp [WideAt.IsKeyLit])]
      simp
    · rw [has_put_other (fun h => e (Lit.int.inj h).2), h.has_ x]
      simp [e]
theorem key_int : Keyed Try.prog 3 := int_keyed Try.underlying3
theorem zero_int (w : World) : (zeroValue 3).run Try.prog w = .ok (.int .i64 0) w := by kernel_rfl
theorem wf_in {x : Int} (h1 : -1000000 ≤ x) (h2 : x ≤ 1000000) : (Lit.int .i64 x).wf = true := WalkArith.wf_i64 (by omega)
theorem look_pos {D : DataW Unit} {l : List Int} {off : Nat} {wr : World} {B n : Nat} (hown : wr.ownsMap Try.prog 3 (plainElem Try.prog 3) B n D) (h : Places D l off) {x : Int} (hw : (Lit.int .i64 x).wf = true) :
    (Instr.lookup 80 (.map (some B)) (.int .i64 x) false).run Try.prog wr = .ok (.int .i64 (pos l off x)) wr := by
  obtain ⟨c, hrun, hat, _⟩ := hown.lookup_int key_int Try.underlying80 Try.underlying3 (zero_int wr) (keyOf_int_mk Try.underlying3 hw)
  rw [h.at_ x] at hat
  rw [hrun]
  injection hat with hat
  injection hat with _ hat
  rw [hat]
theorem look_ok {D : DataW Unit} {l : List Int} {off : Nat} {wr : World} {B n : Nat} (hown : wr.ownsMap Try.prog 3 (plainElem Try.prog 3) B n D) (h : Places D l off) {x : Int} (hw : (Lit.int .i64 x).wf = true) :
    (Instr.lookup 80 (.map (some B)) (.int .i64 x) true).run Try.prog wr = .ok (.tuple #[.int .i64 (pos l off x), .bool (l.contains x)]) wr := by
  obtain ⟨v, ps, hrun, hv⟩ := hown.look_ok key_int Try.underlying80 (zero_int wr) (plainElem_int Try.underlying3 (by decide)) (keyOf_int_mk Try.underlying3 hw)
  obtain ⟨c, rfl, hc, _⟩ := plainElem_int_inv Try.underlying3 hv
  have hat := congrArg Prod.fst hc
  simp only at hat
  rw [h.at_ x] at hat
  injection hat with hat
  injection hat with _ hat
  rw [hrun, h.has_ x, hat]
/-- of a route that can be driven: the pairs, by places -/
theorem eval_on {i : Prob} {c : Int} {l : List Int} {t : TripR} (hok : probOk i = true) (h : evalL i c l = some t) : l.Nodup ∧ PairsOn i.pairs l := by
  obtain ⟨_, h2, h3, _⟩ := eval_some h
  have hn := ((nodupL_iff l []).1 h2).1
  obtain ⟨h4, h5⟩ := pairs_of hok
  exact ⟨hn, (pairsL_on h4 h5 hn).1 h3⟩
theorem pos_pair {l : List Int} {p : Pair} (h : (p.a ∈ l ↔ p.b ∈ l) ∧ (p.a ∈ l → l.idxOf p.a < l.idxOf p.b)) : (pos l 1 p.a = 0 ∧ pos l 1 p.b = 0) ∨ (0 < pos l 1 p.a ∧ 0 < pos l 1 p.b ∧ pos l 1 p.a < pos l 1 p.b) := by
  unfold pos
  by_cases ha : p.a ∈ l
  · rw [if_pos ha, if_pos (h.1.1 ha)]
    have := h.2 ha
    omega
  · rw [if_neg ha, if_neg (fun hb => ha (h.1.2 hb))]
    exact .inl ⟨rfl, rfl⟩
theorem pos_le (l : List Int) (off : Nat) (x : Int) : 0 ≤ pos l off x ∧ pos l off x ≤ (l.length : Int) + off := by
  unfold pos
  split
  · next h => have := List.idxOf_lt_length_of_mem h; omega
  · omega
def sumD (i : Prob) : List Int → Int
  | [] => 0
  | s :: l => (stopAt i s).d + sumD i l
theorem sumD_drop {i : Prob} {l : List Int} {k : Nat} (h : k < l.length) : sumD i (l.drop k) = (stopAt i l[k]).d + sumD i (l.drop (k + 1)) := by rw [drop_at h]; rfl
theorem drive_last {i : Prob} {c : Car} : ∀ {r : List Int} {last left ld : Int} {d : Drive}, driveL i c last left ld r = some d → d.load.getLastD ld = ld + sumD i r
  | [], last, left, ld, d, h => by
    simp only [driveL] at h
    split at h
    · cases h
    · cases h; simp [sumD]
  | s :: l, last, left, ld, d, h => by
    simp only [driveL] at h
    split at h
    · cases h
    · rw [Option.map_eq_some_iff] at h
      obtain ⟨d', h1, rfl⟩ := h
      have := drive_last h1
      simp only [Drive.more, List.cons_append, List.nil_append, List.getLastD_cons, sumD]
      rw [this]; omega
theorem pair_zero {st : List Stop} : ∀ {l : List Pair} {seen : List Int}, pairsFrom st seen l = true → ∀ p ∈ l, demand st p.b = - demand st p.a
  | [], _, _, p, hp => by simp at hp
  | q :: l, seen, h, p, hp => by
    simp only [pairsFrom, Bool.and_eq_true] at h
    rcases List.mem_cons.1 hp with rfl | hp
    · have h1 := h.1
      simp only [pairOk, Bool.and_eq_true, decide_eq_true_eq] at h1
      exact h1.2.2
    · exact pair_zero h.2 p hp
theorem demand_stop (i : Prob) (x : Int) : demand i.stops x = (stopAt i x).d := by
  unfold demand stopAt
  cases i.stops[(x - 1).toNat]? <;> rfl
end Go.Proofs.Ytgkieelacjcopaa
namespace Go.Proofs.Ytgkieelacjcopaa
open Go.RowKit
set_option linter.unusedSimpArgs false

structure Stt (W : World) (T : Nat) (ty : TypeId) (va vl v1 v2 : Value) (l1 l2 : List Int) (c h : Int) : Prop where
  box : W.heap[T]? = some (.cells #[va, vl, .int .i64 c, .int .i64 h] ty (0, 0))
  o1 : W.ownsRow T 3 1 v1 l1.length (ints l1)
  o2 : W.ownsRow T 3 1 v2 l2.length (ints l2)
  dis : ∀ g, v1.ownBlock = some g → v2.ownBlock ≠ some g
  typ : ty ≠ 3
theorem TB.stt {W : World} {T : Nat} {ty : TypeId} {va vl : Value} {arr load : List Int} {c h : Int} (H : TB W T T ty va vl arr load c h) : Stt W T ty va vl va vl arr load c h := ⟨H.box, H.arr, H.load, H.dis, H.typ⟩
section
variable {W W2 : World} {T : Nat} {ty : TypeId} {va vl v1 v2 v' : Value} {l1 l2 : List Int} {c h x : Int}
theorem Stt.lt (H : Stt W T ty va vl v1 v2 l1 l2 c h) : T < W.heap.size := (Array.getElem?_eq_some_iff.1 H.box).1
theorem Stt.typed (H : Stt W T ty va vl v1 v2 l1 l2 c h) : Typed W T ty := ⟨_, H.box⟩
theorem Stt.below (H : Stt W T ty va vl v1 v2 l1 l2 c h) (hb : Below W.heap.size W W2) : Stt W2 T ty va vl v1 v2 l1 l2 c h :=
  ⟨by rw [hb.block T H.lt]; exact H.box, own_below H.o1 hb, own_below H.o2 hb, H.dis, H.typ⟩
theorem Stt.cells (H : Stt W T ty va vl v1 v2 l1 l2 c h) : W.cell? ⟨T, 0, none⟩ = some va ∧ W.cell? ⟨T, 1, none⟩ = some vl ∧ W.cell? ⟨T, 2, none⟩ = some (.int .i64 c) :=
  ⟨by rw [Lib.cell_of_heap H.box]; rfl, by rw [Lib.cell_of_heap H.box]; rfl, by rw [Lib.cell_of_heap H.box]; rfl⟩
theorem Stt.thaw (H : Stt W T ty va vl v1 v2 l1 l2 c h) (j : Nat) : W.frozen? ⟨T, j, none⟩ = false := Lib.frozen_of_heap H.box j
theorem Stt.app1 (H : Stt W T ty va vl v1 v2 l1 l2 c h) (hown : W2.ownsRow T 3 1 v' (l1.length + 1) (ints l1 ++ [.int .i64 x])) (hg : W.grownBy W2 v1.ownBlock) (hob : v'.ownBlock = v1.ownBlock ∨ v'.ownBlock = some W.heap.size) :
    Stt W2 T ty va vl v' v2 (l1 ++ [x]) l2 c h := by
  refine ⟨?_, by simpa [ints] using hown, H.o2.kept hg ?_, fun g hv hl => ?_, H.typ⟩
  · rw [hg.block T H.lt (fun e => typed_ne (own_typed H.o1 e.symm).1 H.typed (Ne.symm H.typ) rfl)]; exact H.box
  · rcases hv : v2.ownBlock with _ | g
    · exact .inl rfl
    · exact .inr fun e => H.dis g e.symm hv
  · rcases hob with e | e
    · exact H.dis g (by rw [← e]; exact hv) hl
    · rw [e] at hv; injection hv with hv
      have := own_lt H.o2 hl
      omega
theorem Stt.app2 (H : Stt W T ty va vl v1 v2 l1 l2 c h) (hown : W2.ownsRow T 3 1 v' (l2.length + 1) (ints l2 ++ [.int .i64 x])) (hg : W.grownBy W2 v2.ownBlock) (hob : v'.ownBlock = v2.ownBlock ∨ v'.ownBlock = some W.heap.size) :
    Stt W2 T ty va vl v1 v' l1 (l2 ++ [x]) c h := by
  refine ⟨?_, H.o1.kept hg ?_, by simpa [ints] using hown, fun g hv hl => ?_, H.typ⟩
  · rw [hg.block T H.lt (fun e => typed_ne (own_typed H.o2 e.symm).1 H.typed (Ne.symm H.typ) rfl)]; exact H.box
  · rcases hv : v1.ownBlock with _ | g
    · exact .inl rfl
    · exact .inr fun e => H.dis g hv e.symm
  · rcases hob with e | e
    · exact H.dis g hv (by rw [← e]; exact hl)
    · rw [e] at hl; injection hl with hl
      have := own_lt H.o1 hv
      omega
theorem Stt.fin (H : Stt W T ty va vl v1 v2 l1 l2 c h) (y : Int) : TB (((W.setCell ⟨T, 0, none⟩ v1).setCell ⟨T, 1, none⟩ v2).setCell ⟨T, 2, none⟩ (.int .i64 y)) T T ty v1 v2 l1 l2 y h := by
  have hrow : ∀ (W : World), Typed W T ty → ∀ g, some T = some g → ∃ t, Typed W g t ∧ t ≠ 3 := fun W hT g hgv => by
    injection hgv with hgv; subst hgv; exact ⟨ty, hT, H.typ⟩
  have t0 := H.typed
  have t1 := t0.setCell T 0 v1
  have t2 := t1.setCell T 1 v2
  refine ⟨by simp [World.setCell, Array.getElem?_modify, H.box], ?_, ?_, H.dis, H.typ⟩
  · exact own_keep (own_keep (own_keep H.o1 (grown_set _ _ _ _) (hrow _ t0)) (grown_set _ _ _ _) (hrow _ t1)) (grown_set _ _ _ _) (hrow _ t2)
  · exact own_keep (own_keep (own_keep H.o2 (grown_set _ _ _ _) (hrow _ t0)) (grown_set _ _ _ _) (hrow _ t1)) (grown_set _ _ _ _) (hrow _ t2)
/-- a slice of one number that is about to be appended -/
structure Sl (W : World) (g : Nat) (x : Int) (v1 v2 : Value) : Prop where
  lt : g < W.heap.size
  cell : W.cell? ⟨g, 0, none⟩ = some (.int .i64 x)
  n1 : v1.ownBlock ≠ some g
  n2 : v2.ownBlock ≠ some g
variable {g : Nat} {z : Int}
theorem sl_new (H : Stt W T ty va vl v1 v2 l1 l2 c h) (z : Int) : Sl (W.alloc (.cells #[.int .i64 z] 3)) W.heap.size z v1 v2 :=
  ⟨by simp, by simp, fun e => Nat.lt_irrefl _ (own_lt H.o1 e), fun e => Nat.lt_irrefl _ (own_lt H.o2 e)⟩
theorem Sl.below (s : Sl W g z v1 v2) (hb : Below W.heap.size W W2) : Sl W2 g z v1 v2 := ⟨Nat.lt_of_lt_of_le s.lt hb.size, by rw [hb.cell s.lt]; exact s.cell, s.n1, s.n2⟩
theorem Sl.app1 (s : Sl W g z v1 v2) (hg : W.grownBy W2 v1.ownBlock) (hob : v'.ownBlock = v1.ownBlock ∨ v'.ownBlock = some W.heap.size) : Sl W2 g z v' v2 :=
  ⟨Nat.lt_of_lt_of_le s.lt hg.size, by rw [World.cell?_of_block (w := W) (hg.block g s.lt (fun e => s.n1 e.symm))]; exact s.cell, fun e => by
    rcases hob with h | h
    · exact s.n1 (by rw [← h]; exact e)
    · rw [h] at e; injection e with e; have := s.lt; omega, s.n2⟩
theorem Sl.app2 (s : Sl W g z v1 v2) (hg : W.grownBy W2 v2.ownBlock) (hob : v'.ownBlock = v2.ownBlock ∨ v'.ownBlock = some W.heap.size) : Sl W2 g z v1 v' :=
  ⟨Nat.lt_of_lt_of_le s.lt hg.size, by rw [World.cell?_of_block (w := W) (hg.block g s.lt (fun e => s.n2 e.symm))]; exact s.cell, s.n1, fun e => by
    rcases hob with h | h
    · exact s.n2 (by rw [← h]; exact e)
    · rw [h] at e; injection e with e; have := s.lt; omega⟩
theorem Sl.reads (s : Sl W g z v1 v2) : Reads W W.heap.size 1 (some ⟨g, 0, none⟩) 1 [.int .i64 z] :=
  ⟨by simp, fun _ => ⟨_, rfl, s.lt, fun j u hu => by
    match j, hu with
    | 0, hu =>
      simp at hu
      subst hu
      have : (⟨g, 0, none⟩ : Addr).add 0 = ⟨g, 0, none⟩ := by unfold Addr.add; simp
      rw [this]; exact s.cell⟩⟩
end
theorem tb_from (w : World) {ty : TypeId} (h : ty ≠ 3) (S : Nat) (x : Int) : TB (w.alloc (.cells #[.slice none 0 0, .slice none 0 0, .int .i64 0, .int .i64 x] ty)) S w.heap.size ty (.slice none 0 0) (.slice none 0 0) [] [] 0 x :=
  ⟨by unfold World.alloc; simp, ⟨rfl, .inl ⟨rfl, rfl⟩⟩, ⟨rfl, .inl ⟨rfl, rfl⟩⟩, fun g hg => (by cases hg), h⟩
end Go.Proofs.Ytgkieelacjcopaa
namespace Go.Proofs.Ytgkieelacjcopaa

section
variable {P : Program} {ops : Array Oper} {Q : Exit → Act → World → Prop} {md : Region.Mode} {R : Array Bool → World → Prop}

def wpAnyL (P : Program) (md : Region.Mode) (ops : Array Oper) (Q : Exit → Act → World → Prop) (R : Array Bool → World → Prop) : Nat → Array Bool → Act → World → Prop
  | 0, listed, a, w => Region.ready md ops listed = [] ∧ Q .normal a w
  | fuel + 1, listed, a, w => (Region.ready md ops listed = [] → Q .normal a w) ∧ ∀ i ∈ Region.ready md ops listed, wpOp P ops Q i (fun a' w' => R (listed.setIfInBounds i true) w' ∧ wpAnyL P md ops Q R fuel (listed.setIfInBounds i true) a' w') a w
theorem wpAny_of_l : ∀ (fuel : Nat) (listed : Array Bool) (a : Act) (w : World), wpAnyL P md ops Q R fuel listed a w → wpAny P md ops Q fuel listed a w
  | 0, _, _, _, h => h
  | fuel + 1, _, _, _, h => ⟨h.1, fun i hi => wpOp_mono (fun a' w' h' => wpAny_of_l fuel _ a' w' h'.2) (h.2 i hi)⟩
theorem wpAnyL_first {i : Nat} {oi : Oper} {v : Value} {G : World → Prop} {C : Array Bool → Prop} (hi : ops[i]? = some oi) (hsel : ∀ (j : Nat) (o : Oper) cs b, ops[j]? = some o → o.op ≠ .select cs b)
    (hQ : ∀ c a w, Q (.panic c) (a.put oi.dst v) w → Q (.panic c) a w) (hRi : ∀ listed w, R (listed.setIfInBounds i true) w ↔ R listed w) (hG : ∀ listed w, C listed → R listed w → G w)
    (hC : ∀ listed j oj, C listed → ops[j]? = some oj → (∀ e ∈ oj.after, Region.binds md e = true → e.on ≠ i) → C (listed.setIfInBounds j true)) :
    ∀ (fuel : Nat) (listed : Array Bool) (a : Act) (w : World),
      (∀ j oj, ops[j]? = some oj → j ≠ i → listed.getD j true = false → (∀ e ∈ oj.after, Region.binds md e = true → e.on ≠ i) → oi.apart ops oj = true) →
      i ∈ Region.ready md ops listed → Gives P ops Q G oi v a → C listed → R listed w →
      wpAnyL P md ops Q R fuel (listed.setIfInBounds i true) (a.put oi.dst v) w → wpAnyL P md ops Q R (fuel + 1) listed a w := by
  intro fuel
  have here : ∀ {K : Act → World → Prop} {a : Act} {w : World}, Gives P ops Q G oi v a → G w → K (a.put oi.dst v) w → wpOp P ops Q i K a w := fun {K a w} hg hS hK => by
    unfold wpOp
    simp only [hi, hg.1, if_true]
    exact .inl (hg.2 w hS K a rfl hK)
  have waits : ∀ {listed : Array Bool} {j : Nat} {oj : Oper}, i ∈ Region.ready md ops listed → (∀ e ∈ oj.after, Region.binds md e = true → listed.getD e.on false = true) → ∀ e ∈ oj.after, Region.binds md e = true → e.on ≠ i := fun {listed j oj} hr hall e he hb heq => by
    have h1 := hall e he hb
    have h0 := (mem_ready.1 hr).1
    rw [heq] at h1
    rcases Nat.lt_or_ge i listed.size with h' | h'
    · simp [h'] at h0 h1; rw [h0] at h1; cases h1
    · simp [Array.getElem?_eq_none h'] at h1
  induction fuel with
  | zero =>
    intro listed a w _ hr hg hCl hS H
    refine ⟨fun h => (by rw [h] at hr; cases hr), fun j hj => ?_⟩
    by_cases hji : j = i
    · subst hji; exact here hg (hG _ _ hCl hS) ⟨(hRi _ _).2 hS, H⟩
    · have := ready_mono hj hji
      rw [H.1] at this
      cases this
  | succ fuel ih =>
    intro listed a w hfree hr hg hCl hS H
    refine ⟨fun h => (by rw [h] at hr; cases hr), fun j hj => ?_⟩
    by_cases hji : j = i
    · subst hji; exact here hg (hG _ _ hCl hS) ⟨(hRi _ _).2 hS, H⟩
    · have h1 := H.2 j (ready_mono hj hji)
      obtain ⟨hjun, oj, hoj, hall⟩ := mem_ready.1 hj
      have hnot := waits (j := j) hr hall
      have h2 := wpOp_swap hoj (hfree j oj hoj hji hjun hnot) (fun cs b => hsel i oi cs b hi) (fun cs b => hsel j oj cs b hoj) hQ hg h1
      have hfree' : ∀ k ok, ops[k]? = some ok → k ≠ i → (listed.setIfInBounds j true).getD k true = false → (∀ e ∈ ok.after, Region.binds md e = true → e.on ≠ i) → oi.apart ops ok = true := fun k ok hk hki hun hno => by
        refine hfree k ok hk hki ?_ hno
        by_cases hjk : j = k
        · subst hjk; exact hjun
        · rw [getD_set_ne true hjk] at hun; exact hun
      refine wpOp_mono (fun a' w' h3 => ?_) h2
      have h4 : R (listed.setIfInBounds j true) w' := by
        have := h3.2.1
        rw [← Array.setIfInBounds_comm _ _ hji] at this
        exact (hRi _ _).1 this
      refine ⟨h4, ih (listed.setIfInBounds j true) a' w' hfree' (ready_mono hr (Ne.symm hji)) h3.1 (hC _ j oj hCl hoj hnot) h4 ?_⟩
      rw [Array.setIfInBounds_comm _ _ hji]
      exact h3.2.2
/-- S always, ST as long as z has not come up -/
def Till (z : Nat) (S ST : World → Prop) (listed : Array Bool) (w : World) : Prop := S w ∧ (listed.getD z false = false → ST w)
theorem till_set {z i : Nat} {S ST : World → Prop} (h : i ≠ z) (listed : Array Bool) (w : World) : Till z S ST (listed.setIfInBounds i true) w ↔ Till z S ST listed w := by
  unfold Till
  rw [getD_set_ne false h]
variable {S ST : World → Prop} {z : Nat}
theorem wpAnyL_take {i : Nat} {oi : Oper} {v : Value} {fuel : Nat} {listed : Array Bool} {a : Act} {w : World} (hi : ops[i]? = some oi) (hs : Region.noSelect ops = true) (hf : Region.free md ops listed i = true)
    (hr : (Region.ready md ops listed).contains i = true) (hz : (i != z) = true) (hQ : ∀ c a w, Q (.panic c) (a.put oi.dst v) w → Q (.panic c) a w)
    (hg : Gives P ops Q S oi v a) (hS : Till z S ST listed w) (h : Till z S ST (listed.setIfInBounds i true) w → wpAnyL P md ops Q (Till z S ST) fuel (listed.setIfInBounds i true) (a.put oi.dst v) w) : wpAnyL P md ops Q (Till z S ST) (fuel + 1) listed a w :=
  wpAnyL_first (C := fun _ => True) hi (Region.noSelect_spec hs) hQ (till_set (by simpa using hz)) (fun _ _ _ h => h.1) (fun _ _ _ _ _ _ => trivial) fuel listed a w (Region.free_spec hi hf) (by simpa using hr) hg trivial hS (h ((till_set (by simpa using hz) _ _).2 hS))
theorem wpAnyL_early {i : Nat} {oi oz : Oper} {v : Value} {fuel : Nat} {listed : Array Bool} {a : Act} {w : World} (hi : ops[i]? = some oi) (hs : Region.noSelect ops = true) (hf : Region.free md ops listed i = true)
    (hr : (Region.ready md ops listed).contains i = true) (hz : (i != z) = true) (hoz : ops[z]? = some oz) (hwt : Region.waitsFor md ops z i = true) (hzl : listed.getD z false = false) (hQ : ∀ c a w, Q (.panic c) (a.put oi.dst v) w → Q (.panic c) a w)
    (hg : Gives P ops Q (fun w => S w ∧ ST w) oi v a) (hS : Till z S ST listed w) (h : Till z S ST (listed.setIfInBounds i true) w → wpAnyL P md ops Q (Till z S ST) fuel (listed.setIfInBounds i true) (a.put oi.dst v) w) : wpAnyL P md ops Q (Till z S ST) (fuel + 1) listed a w := by
  obtain ⟨oj, hoj, hw⟩ := Region.waitsFor_spec hwt
  obtain rfl : oj = oz := Option.some.inj (hoj.symm.trans hoz)
  refine wpAnyL_first (C := fun l => l.getD z false = false) hi (Region.noSelect_spec hs) hQ (till_set (by simpa using hz)) (fun _ _ hc h => ⟨h.1, h.2 hc⟩) (fun l j oj' hc hj hno => ?_) fuel listed a w (Region.free_spec hi hf) (by simpa using hr) hg hzl hS (h ((till_set (by simpa using hz) _ _).2 hS))
  have hjz : j ≠ z := by
    rintro rfl
    obtain rfl : oj' = oj := Option.some.inj (hj.symm.trans hoz)
    obtain ⟨e, he, hb, heq⟩ := hw
    exact hno e he hb heq
  rw [getD_set_ne false hjz]
  exact hc
/-- the way on from operation i -/
def LStep (P : Program) (md : Region.Mode) (ops : Array Oper) (Q : Exit → Act → World → Prop) (R : Array Bool → World → Prop) (fuel : Nat) (listed : Array Bool) (a : Act) (w : World) (i : Nat) : Prop :=
  wpOp P ops Q i (fun a' w' => R (listed.setIfInBounds i true) w' ∧ wpAnyL P md ops Q R fuel (listed.setIfInBounds i true) a' w') a w
theorem lstep {fuel i : Nat} {o : Oper} {listed : Array Bool} {a : Act} {w : World} (ho : ops[i]? = some o)
    (h : ∀ K' : Act → World → Prop, Shut (∀ a w, R (listed.setIfInBounds i true) w → (R (listed.setIfInBounds i true) w → wpAnyL P md ops Q R fuel (listed.setIfInBounds i true) a w) → K' a w) → if Region.wanted o (yielded ops a.tmps) = true then Oper.wp P o a w K' Q else K' (a.put o.dst undef) w) :
    LStep P md ops Q R fuel listed a w i := wpOp_step ho (fun K' hK => h K' (fun a w hS hW => hK a w ⟨hS, hW hS⟩))
theorem wpAnyL_one {fuel i : Nat} {listed : Array Bool} {a : Act} {w : World} (hr : Region.ready md ops listed = [i]) (h : LStep P md ops Q R fuel listed a w i) : wpAnyL P md ops Q R (fuel + 1) listed a w :=
  ⟨(fun h0 => by rw [hr] at h0; cases h0), (fun k hk => by rw [hr, List.mem_singleton] at hk; subst hk; exact h)⟩
theorem wpAnyL_two {fuel i j : Nat} {listed : Array Bool} {a : Act} {w : World} (hr : Region.ready md ops listed = [i, j]) (h1 : LStep P md ops Q R fuel listed a w i) (h2 : LStep P md ops Q R fuel listed a w j) : wpAnyL P md ops Q R (fuel + 1) listed a w :=
  ⟨(fun h0 => by rw [hr] at h0; cases h0), fun k hk => by
    rw [hr, List.mem_cons, List.mem_singleton] at hk
    rcases hk with rfl | rfl
    · exact h1
    · exact h2⟩
theorem wpAnyL_done {listed : Array Bool} {a : Act} {w : World} (hr : Region.ready md ops listed = []) (h : Q .normal a w) : ∀ fuel, wpAnyL P md ops Q R fuel listed a w
  | 0 => ⟨hr, h⟩
  | _ + 1 => ⟨fun _ => h, by rw [hr]; simp⟩
theorem wp_region_l {id : Nat} {a : Act} {w : World} (hm : P.follows .mixedOrders = true) (hS : R (Array.replicate ops.size false) w.drew) (h : R (Array.replicate ops.size false) w.drew → wpAnyL P .any ops Q R ops.size (Array.replicate ops.size false) a w.drew) : (Code.region id ops true).wp P Q a w :=
  wp_region_any hm (wpAny_of_l _ _ _ _ (h hS))
end
end Go.Proofs.Ytgkieelacjcopaa
