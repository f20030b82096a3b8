/- draymanref01.within, car, Cost: what they answer. · A map of the places of stops, as a call makes it. · A trip whose two rows are appended to, in either order, ahead of the stores. · As Orders, where some operations may come behind a store: S holds behind every operation, ST as long as operation z (a store that all loads of ST's cells are ahead of) has not come up. · draymanref01.Eval, also of a problem whose stops may open behind their closing: the same trip, or that it can't be driven. -/
import Derived.Test.YtkheepedjoimmaaTripTwo
import Derived.Test.YtkheepedjoimmaaPairsPlain
import Derived.RowKit3
import Derived.Maps.OwnSet
import Derived.Test.YtkheepedjoimmaaTripBox
import Derived.Test.YtkheepedjoimmaaOrders
import Derived.StillTailTactics
namespace Go.Proofs.Ytkheepedjoimmaa
open Go.RowKit
set_option linter.unusedSimpArgs false

theorem refWithin_yes (n low high : Int) (w : World) (h : inB n low high = true) :
    Calls Try.prog 32 #[.int .i64 n, .int .i64 low, .int .i64 high] w fun e w' => e = .returned (.bool true) ∧ w' = w := by
  obtain ⟨h1, h2⟩ := inB_iff.1 h
  clear h
  go_enter Try.func32, Try.ntmps32
  go_wp2
  go_ret
  exact ⟨rfl, rfl⟩
theorem refWithin_no (n low high : Int) (w : World) (h : inB n low high = false) :
    Calls Try.prog 32 #[.int .i64 n, .int .i64 low, .int .i64 high] w fun e w' => e = .returned (.bool false) ∧ w' = w := by
  by_cases h1 : low ≤ n
  · have h2 : ¬ n ≤ high := by rcases inB_no.1 h with h | h <;> omega
    clear h
    go_enter Try.func32, Try.ntmps32
    go_wp2
    go_ret
    exact ⟨rfl, rfl⟩
  · clear h
    go_enter Try.func32, Try.ntmps32
    go_wp2
    go_ret
    exact ⟨rfl, rfl⟩
theorem refWithin_any (n low high : Int) (b : Bool) (h : inB n low high = b) (w : World) :
    Calls Try.prog 32 #[.int .i64 n, .int .i64 low, .int .i64 high] w fun e w' => e = .returned (.bool b) ∧ w' = w := by
  cases b
  · exact refWithin_no n low high w h
  · exact refWithin_yes n low high w h
theorem refCar_any (v : Value) (i : Prob) (c : Int) (b : Bool) (w : World) (h : Lies w v i) (hc : i.cars.length ≤ 1000) (hb : inB c 0 (i.cars.length - 1) = b) :
    Calls Try.prog 31 #[v, .int .i64 c] w fun e w' => e = .returned (.bool b) ∧ Below w.heap.size w w' := by
  obtain ⟨vc, vs, vp, vt, rfl, ⟨A, cap, rfl, _⟩, _⟩ := h
  have C := Lib.hid (fun W => refWithin_any c 0 ((i.cars.length : Int) - 1) b hb W)
  clear hb
  go_enter Try.func31, Try.ntmps31
  go_wp2_with (go_at_call 32; fail)
  (with_reducible refine (C.out _).mono ?_)
  rintro e w1 ⟨rfl, rfl⟩
  go_wp2
  go_ret
  exact ⟨rfl, (Below.refl _ _).alloc (Nat.le_refl _) _⟩
theorem costP_nil {i : Prob} (h : probOk i = true) : costP i [] = 0 := by
  show (if thereB i [] = true then costL i 0 [] else 0) = 0
  rw [if_pos (show thereB i [] = true from rfl)]
  exact way_diag h 0

end Go.Proofs.Ytkheepedjoimmaa
namespace Go.Proofs.Ytkheepedjoimmaa
open Go.RowKit Go.Maps
set_option linter.unusedSimpArgs false
set_option maxRecDepth 100000

def pos (l : List Int) (off : Nat) (x : Int) : Int := if x ∈ l then ((l.idxOf x : Nat) : Int) + off else 0
structure Places (D : DataW Unit) (l : List Int) (off : Nat) : Prop where
  at_ : ∀ x : Int, D.atKey (.int .i64 x) (.lit (.int .i64 0)) = .lit (.int .i64 (pos l off x))
  has_ : ∀ x : Int, Maps.has D (.int .i64 x) = l.contains x
theorem places_start (off : Nat) : Places (.map []) [] off := ⟨fun x => by simp [pos]; rfl, fun _ => rfl⟩
theorem pos_snoc_same {l : List Int} {off : Nat} {s : Int} (h : s ∉ l) : pos (l ++ [s]) off s = (l.length : Int) + off := by
  unfold pos
  rw [if_pos (by simp), List.idxOf_append, if_neg h]
  simp
theorem pos_snoc_other {l : List Int} {off : Nat} {s x : Int} (h : x ≠ s) : pos (l ++ [s]) off x = pos l off x := by
  unfold pos
  by_cases hx : x ∈ l
  · rw [if_pos (by simp [hx]), if_pos hx, List.idxOf_append, if_pos hx]
  · rw [if_neg (by simp [hx, h]), if_neg hx]
theorem Places.put {D : DataW Unit} {l : List Int} {off : Nat} (h : Places D l off) (hD : IsMap D) {s : Int} (hs : s ∉ l) : Places (D.put (.int .i64 s) (.lit (.int .i64 ((l.length : Int) + off)))) (l ++ [s]) off := by
  refine ⟨fun x => ?_, fun x => ?_⟩
  · by_cases e : x = s
    · subst e
      rw [atKey_put_same hD (by simp [WideAt.IsKeyLit]), pos_snoc_same hs]
    · rw [atKey_put_other (fun h => e (Lit.int.inj h).2), h.at_ x, pos_snoc_other e]
  · by_cases e : x = s
    · subst e
      rw [has_put_same hD (by simp [WideAt.IsKeyLit])]
      simp
    · rw [has_put_other (fun h => e (Lit.int.inj h).2), h.has_ x]
      simp [e]
theorem key_int : Keyed Try.prog 3 := int_keyed Try.underlying3
theorem zero_int (w : World) : (zeroValue 3).run Try.prog w = .ok (.int .i64 0) w := by kernel_rfl
theorem wf_in {x : Int} (h1 : -1000000 ≤ x) (h2 : x ≤ 1000000) : (Lit.int .i64 x).wf = true := WalkArith.wf_i64 (by omega)
theorem look_pos {D : DataW Unit} {l : List Int} {off : Nat} {wr : World} {B n : Nat} (hown : wr.ownsMap Try.prog 3 (plainElem Try.prog 3) B n D) (h : Places D l off) {x : Int} (hw : (Lit.int .i64 x).wf = true) :
    (Instr.lookup 71 (.map (some B)) (.int .i64 x) false).run Try.prog wr = .ok (.int .i64 (pos l off x)) wr := by
  obtain ⟨c, hrun, hat, _⟩ := hown.lookup_int key_int Try.underlying71 Try.underlying3 (zero_int wr) (keyOf_int_mk Try.underlying3 hw)
  rw [h.at_ x] at hat
  rw [hrun]
  injection hat with hat
  injection hat with _ hat
  rw [hat]
theorem look_ok {D : DataW Unit} {l : List Int} {off : Nat} {wr : World} {B n : Nat} (hown : wr.ownsMap Try.prog 3 (plainElem Try.prog 3) B n D) (h : Places D l off) {x : Int} (hw : (Lit.int .i64 x).wf = true) :
    (Instr.lookup 71 (.map (some B)) (.int .i64 x) true).run Try.prog wr = .ok (.tuple #[.int .i64 (pos l off x), .bool (l.contains x)]) wr := by
  obtain ⟨v, ps, hrun, hv⟩ := hown.look_ok key_int Try.underlying71 (zero_int wr) (plainElem_int Try.underlying3 (by decide)) (keyOf_int_mk Try.underlying3 hw)
  obtain ⟨c, rfl, hc, _⟩ := plainElem_int_inv Try.underlying3 hv
  have hat := congrArg Prod.fst hc
  simp only at hat
  rw [h.at_ x] at hat
  injection hat with hat
  injection hat with _ hat
  rw [hrun, h.has_ x, hat]
/-- of a route that can be driven: the pairs, by places -/
theorem eval_on {i : Prob} {c : Int} {l : List Int} {t : TripR} (hok : probOk i = true) (h : evalL i c l = some t) : l.Nodup ∧ PairsOn i.pairs l := by
  obtain ⟨_, h2, h3, _⟩ := eval_some h
  have hn := ((nodupL_iff l []).1 h2).1
  obtain ⟨h4, h5⟩ := pairs_of hok
  exact ⟨hn, (pairsL_on h4 h5 hn).1 h3⟩
theorem pos_pair {l : List Int} {p : Pair} (h : (p.a ∈ l ↔ p.b ∈ l) ∧ (p.a ∈ l → l.idxOf p.a < l.idxOf p.b)) : (pos l 1 p.a = 0 ∧ pos l 1 p.b = 0) ∨ (0 < pos l 1 p.a ∧ 0 < pos l 1 p.b ∧ pos l 1 p.a < pos l 1 p.b) := by
  unfold pos
  by_cases ha : p.a ∈ l
  · rw [if_pos ha, if_pos (h.1.1 ha)]
    have := h.2 ha
    omega
  · rw [if_neg ha, if_neg (fun hb => ha (h.1.2 hb))]
    exact .inl ⟨rfl, rfl⟩
theorem pos_le (l : List Int) (off : Nat) (x : Int) : 0 ≤ pos l off x ∧ pos l off x ≤ (l.length : Int) + off := by
  unfold pos
  split
  · next h => have := List.idxOf_lt_length_of_mem h; omega
  · omega
def sumD (i : Prob) : List Int → Int
  | [] => 0
  | s :: l => (stopAt i s).d + sumD i l
theorem sumD_drop {i : Prob} {l : List Int} {k : Nat} (h : k < l.length) : sumD i (l.drop k) = (stopAt i l[k]).d + sumD i (l.drop (k + 1)) := by rw [drop_at h]; rfl
theorem drive_last {i : Prob} {c : Car} : ∀ {r : List Int} {last left ld : Int} {d : Drive}, driveL i c last left ld r = some d → d.load.getLastD ld = ld + sumD i r
  | [], last, left, ld, d, h => by
    simp only [driveL] at h
    split at h
    · cases h
    · cases h; simp [sumD]
  | s :: l, last, left, ld, d, h => by
    simp only [driveL] at h
    split at h
    · cases h
    · rw [Option.map_eq_some_iff] at h
      obtain ⟨d', h1, rfl⟩ := h
      have := drive_last h1
      simp only [Drive.more, List.cons_append, List.nil_append, List.getLastD_cons, sumD]
      rw [this]; omega
theorem pair_zero {st : List Stop} : ∀ {l : List Pair} {seen : List Int}, pairsFrom st seen l = true → ∀ p ∈ l, demand st p.b = - demand st p.a
  | [], _, _, p, hp => by simp at hp
  | q :: l, seen, h, p, hp => by
    simp only [pairsFrom, Bool.and_eq_true] at h
    rcases List.mem_cons.1 hp with rfl | hp
    · have h1 := h.1
      simp only [pairOk, Bool.and_eq_true, decide_eq_true_eq] at h1
      exact h1.2.2
    · exact pair_zero h.2 p hp
theorem demand_stop (i : Prob) (x : Int) : demand i.stops x = (stopAt i x).d := by
  unfold demand stopAt
  cases i.stops[(x - 1).toNat]? <;> rfl
end Go.Proofs.Ytkheepedjoimmaa
namespace Go.Proofs.Ytkheepedjoimmaa
open Go.RowKit
set_option linter.unusedSimpArgs false

structure Stt (W : World) (T : Nat) (ty : TypeId) (va vl v1 v2 : Value) (l1 l2 : List Int) (c h : Int) : Prop where
  box : W.heap[T]? = some (.cells #[va, vl, .int .i64 c, .int .i64 h] ty (0, 0))
  o1 : W.ownsRow T 3 1 v1 l1.length (ints l1)
  o2 : W.ownsRow T 3 1 v2 l2.length (ints l2)
  dis : ∀ g, v1.ownBlock = some g → v2.ownBlock ≠ some g
  typ : ty ≠ 3
theorem TB.stt {W : World} {T : Nat} {ty : TypeId} {va vl : Value} {arr load : List Int} {c h : Int} (H : TB W T T ty va vl arr load c h) : Stt W T ty va vl va vl arr load c h := ⟨H.box, H.arr, H.load, H.dis, H.typ⟩
section
variable {W W2 : World} {T : Nat} {ty : TypeId} {va vl v1 v2 v' : Value} {l1 l2 : List Int} {c h x : Int}
theorem Stt.lt (H : Stt W T ty va vl v1 v2 l1 l2 c h) : T < W.heap.size := (Array.getElem?_eq_some_iff.1 H.box).1
theorem Stt.typed (H : Stt W T ty va vl v1 v2 l1 l2 c h) : Typed W T ty := ⟨_, H.box⟩
theorem Stt.below (H : Stt W T ty va vl v1 v2 l1 l2 c h) (hb : Below W.heap.size W W2) : Stt W2 T ty va vl v1 v2 l1 l2 c h :=
  ⟨by rw [hb.block T H.lt]; exact H.box, own_below H.o1 hb, own_below H.o2 hb, H.dis, H.typ⟩
theorem Stt.cells (H : Stt W T ty va vl v1 v2 l1 l2 c h) : W.cell? ⟨T, 0, none⟩ = some va ∧ W.cell? ⟨T, 1, none⟩ = some vl ∧ W.cell? ⟨T, 2, none⟩ = some (.int .i64 c) :=
  ⟨by rw [Lib.cell_of_heap H.box]; rfl, by rw [Lib.cell_of_heap H.box]; rfl, by rw [Lib.cell_of_heap H.box]; rfl⟩
theorem Stt.thaw (H : Stt W T ty va vl v1 v2 l1 l2 c h) (j : Nat) : W.frozen? ⟨T, j, none⟩ = false := Lib.frozen_of_heap H.box j
theorem Stt.app1 (H : Stt W T ty va vl v1 v2 l1 l2 c h) (hown : W2.ownsRow T 3 1 v' (l1.length + 1) (ints l1 ++ [.int .i64 x])) (hg : W.grownBy W2 v1.ownBlock) (hob : v'.ownBlock = v1.ownBlock ∨ v'.ownBlock = some W.heap.size) :
    Stt W2 T ty va vl v' v2 (l1 ++ [x]) l2 c h := by
  refine ⟨?_, by simpa [ints] using hown, H.o2.kept hg ?_, fun g hv hl => ?_, H.typ⟩
  · rw [hg.block T H.lt (fun e => typed_ne (own_typed H.o1 e.symm).1 H.typed (Ne.symm H.typ) rfl)]; exact H.box
  · rcases hv : v2.ownBlock with _ | g
    · exact .inl rfl
    · exact .inr fun e => H.dis g e.symm hv
  · rcases hob with e | e
    · exact H.dis g (by rw [← e]; exact hv) hl
    · rw [e] at hv; injection hv with hv
      have := own_lt H.o2 hl
      omega
theorem Stt.app2 (H : Stt W T ty va vl v1 v2 l1 l2 c h) (hown : W2.ownsRow T 3 1 v' (l2.length + 1) (ints l2 ++ [.int .i64 x])) (hg : W.grownBy W2 v2.ownBlock) (hob : v'.ownBlock = v2.ownBlock ∨ v'.ownBlock = some W.heap.size) :
    Stt W2 T ty va vl v1 v' l1 (l2 ++ [x]) c h := by
  refine ⟨?_, H.o1.kept hg ?_, by simpa [ints] using hown, fun g hv hl => ?_, H.typ⟩
  · rw [hg.block T H.lt (fun e => typed_ne (own_typed H.o2 e.symm).1 H.typed (Ne.symm H.typ) rfl)]; exact H.box
  · rcases hv : v1.ownBlock with _ | g
    · exact .inl rfl
    · exact .inr fun e => H.dis g hv e.symm
  · rcases hob with e | e
    · exact H.dis g hv (by rw [← e]; exact hl)
    · rw [e] at hl; injection hl with hl
      have := own_lt H.o1 hv
      omega
theorem Stt.fin (H : Stt W T ty va vl v1 v2 l1 l2 c h) (y : Int) : TB (((W.setCell ⟨T, 0, none⟩ v1).setCell ⟨T, 1, none⟩ v2).setCell ⟨T, 2, none⟩ (.int .i64 y)) T T ty v1 v2 l1 l2 y h := by
  have hrow : ∀ (W : World), Typed W T ty → ∀ g, some T = some g → ∃ t, Typed W g t ∧ t ≠ 3 := fun W hT g hgv => by
    injection hgv with hgv; subst hgv; exact ⟨ty, hT, H.typ⟩
  have t0 := H.typed
  have t1 := t0.setCell T 0 v1
  have t2 := t1.setCell T 1 v2
  refine ⟨by simp [World.setCell, Array.getElem?_modify, H.box], ?_, ?_, H.dis, H.typ⟩
  · exact own_keep (own_keep (own_keep H.o1 (grown_set _ _ _ _) (hrow _ t0)) (grown_set _ _ _ _) (hrow _ t1)) (grown_set _ _ _ _) (hrow _ t2)
  · exact own_keep (own_keep (own_keep H.o2 (grown_set _ _ _ _) (hrow _ t0)) (grown_set _ _ _ _) (hrow _ t1)) (grown_set _ _ _ _) (hrow _ t2)
/-- a slice of one number that is about to be appended -/
structure Sl (W : World) (g : Nat) (x : Int) (v1 v2 : Value) : Prop where
  lt : g < W.heap.size
  cell : W.cell? ⟨g, 0, none⟩ = some (.int .i64 x)
  n1 : v1.ownBlock ≠ some g
  n2 : v2.ownBlock ≠ some g
variable {g : Nat} {z : Int}
theorem sl_new (H : Stt W T ty va vl v1 v2 l1 l2 c h) (z : Int) : Sl (W.alloc (.cells #[.int .i64 z] 3)) W.heap.size z v1 v2 :=
  ⟨by simp, by simp, fun e => Nat.lt_irrefl _ (own_lt H.o1 e), fun e => Nat.lt_irrefl _ (own_lt H.o2 e)⟩
theorem Sl.below (s : Sl W g z v1 v2) (hb : Below W.heap.size W W2) : Sl W2 g z v1 v2 := ⟨Nat.lt_of_lt_of_le s.lt hb.size, by rw [hb.cell s.lt]; exact s.cell, s.n1, s.n2⟩
theorem Sl.app1 (s : Sl W g z v1 v2) (hg : W.grownBy W2 v1.ownBlock) (hob : v'.ownBlock = v1.ownBlock ∨ v'.ownBlock = some W.heap.size) : Sl W2 g z v' v2 :=
  ⟨Nat.lt_of_lt_of_le s.lt hg.size, by rw [World.cell?_of_block (w := W) (hg.block g s.lt (fun e => s.n1 e.symm))]; exact s.cell, fun e => by
    rcases hob with h | h
    · exact s.n1 (by rw [← h]; exact e)
    · rw [h] at e; injection e with e; have := s.lt; omega, s.n2⟩
theorem Sl.app2 (s : Sl W g z v1 v2) (hg : W.grownBy W2 v2.ownBlock) (hob : v'.ownBlock = v2.ownBlock ∨ v'.ownBlock = some W.heap.size) : Sl W2 g z v1 v' :=
  ⟨Nat.lt_of_lt_of_le s.lt hg.size, by rw [World.cell?_of_block (w := W) (hg.block g s.lt (fun e => s.n2 e.symm))]; exact s.cell, s.n1, fun e => by
    rcases hob with h | h
    · exact s.n2 (by rw [← h]; exact e)
    · rw [h] at e; injection e with e; have := s.lt; omega⟩
theorem Sl.reads (s : Sl W g z v1 v2) : Reads W W.heap.size 1 (some ⟨g, 0, none⟩) 1 [.int .i64 z] :=
  ⟨by simp, fun _ => ⟨_, rfl, s.lt, fun j u hu => by
    match j, hu with
    | 0, hu =>
      simp at hu
      subst hu
      have : (⟨g, 0, none⟩ : Addr).add 0 = ⟨g, 0, none⟩ := by unfold Addr.add; simp
      rw [this]; exact s.cell⟩⟩
end
theorem tb_from (w : World) {ty : TypeId} (h : ty ≠ 3) (S : Nat) (x : Int) : TB (w.alloc (.cells #[.slice none 0 0, .slice none 0 0, .int .i64 0, .int .i64 x] ty)) S w.heap.size ty (.slice none 0 0) (.slice none 0 0) [] [] 0 x :=
  ⟨by unfold World.alloc; simp, ⟨rfl, .inl ⟨rfl, rfl⟩⟩, ⟨rfl, .inl ⟨rfl, rfl⟩⟩, fun g hg => (by cases hg), h⟩
end Go.Proofs.Ytkheepedjoimmaa
namespace Go.Proofs.Ytkheepedjoimmaa

section
variable {P : Program} {ops : Array Oper} {Q : Exit → Act → World → Prop} {md : Region.Mode} {R : Array Bool → World → Prop}

def wpAnyL (P : Program) (md : Region.Mode) (ops : Array Oper) (Q : Exit → Act → World → Prop) (R : Array Bool → World → Prop) : Nat → Array Bool → Act → World → Prop
  | 0, listed, a, w => Region.ready md ops listed = [] ∧ Q .normal a w
  | fuel + 1, listed, a, w => (Region.ready md ops listed = [] → Q .normal a w) ∧ ∀ i ∈ Region.ready md ops listed, wpOp P ops Q i (fun a' w' => R (listed.setIfInBounds i true) w' ∧ wpAnyL P md ops Q R fuel (listed.setIfInBounds i true) a' w') a w
theorem wpAny_of_l : ∀ (fuel : Nat) (listed : Array Bool) (a : Act) (w : World), wpAnyL P md ops Q R fuel listed a w → wpAny P md ops Q fuel listed a w
  | 0, _, _, _, h => h
  | fuel + 1, _, _, _, h => ⟨h.1, fun i hi => wpOp_mono (fun a' w' h' => wpAny_of_l fuel _ a' w' h'.2) (h.2 i hi)⟩
theorem wpAnyL_first {i : Nat} {oi : Oper} {v : Value} {G : World → Prop} {C : Array Bool → Prop} (hi : ops[i]? = some oi) (hsel : ∀ (j : Nat) (o : Oper) cs b, ops[j]? = some o → o.op ≠ .select cs b)
    (hQ : ∀ c a w, Q (.panic c) (a.put oi.dst v) w → Q (.panic c) a w) (hRi : ∀ listed w, R (listed.setIfInBounds i true) w ↔ R listed w) (hG : ∀ listed w, C listed → R listed w → G w)
    (hC : ∀ listed j oj, C listed → ops[j]? = some oj → (∀ e ∈ oj.after, Region.binds md e = true → e.on ≠ i) → C (listed.setIfInBounds j true)) :
    ∀ (fuel : Nat) (listed : Array Bool) (a : Act) (w : World),
      (∀ j oj, ops[j]? = some oj → j ≠ i → listed.getD j true = false → (∀ e ∈ oj.after, Region.binds md e = true → e.on ≠ i) → oi.apart ops oj = true) →
      i ∈ Region.ready md ops listed → Gives P ops Q G oi v a → C listed → R listed w →
      wpAnyL P md ops Q R fuel (listed.setIfInBounds i true) (a.put oi.dst v) w → wpAnyL P md ops Q R (fuel + 1) listed a w := by
  intro fuel
  have here : ∀ {K : Act → World → Prop} {a : Act} {w : World}, Gives P ops Q G oi v a → G w → K (a.put oi.dst v) w → wpOp P ops Q i K a w := fun {K a w} hg hS hK => by
    unfold wpOp
    simp only [hi, hg.1, if_true]
    exact .inl (hg.2 w hS K a rfl hK)
  have waits : ∀ {listed : Array Bool} {j : Nat} {oj : Oper}, i ∈ Region.ready md ops listed → (∀ e ∈ oj.after, Region.binds md e = true → listed.getD e.on false = true) → ∀ e ∈ oj.after, Region.binds md e = true → e.on ≠ i := fun {listed j oj} hr hall e he hb heq => by
    have h1 := hall e he hb
    have h0 := (mem_ready.1 hr).1
    rw [heq] at h1
    rcases Nat.lt_or_ge i listed.size with h' | h'
    · simp [h'] at h0 h1; rw [h0] at h1; cases h1
    · simp [Array.getElem?_eq_none h'] at h1
  induction fuel with
  | zero =>
    intro listed a w _ hr hg hCl hS H
    refine ⟨fun h => (by rw [h] at hr; cases hr), fun j hj => ?_⟩
    by_cases hji : j = i
    · subst hji; exact here hg (hG _ _ hCl hS) ⟨(hRi _ _).2 hS, H⟩
    · have := ready_mono hj hji
      rw [H.1] at this
      cases this
  | succ fuel ih =>
    intro listed a w hfree hr hg hCl hS H
    refine ⟨fun h => (by rw [h] at hr; cases hr), fun j hj => ?_⟩
    by_cases hji : j = i
    · subst hji; exact here hg (hG _ _ hCl hS) ⟨(hRi _ _).2 hS, H⟩
    · have h1 := H.2 j (ready_mono hj hji)
      obtain ⟨hjun, oj, hoj, hall⟩ := mem_ready.1 hj
      have hnot := waits (j := j) hr hall
      have h2 := wpOp_swap hoj (hfree j oj hoj hji hjun hnot) (fun cs b => hsel i oi cs b hi) (fun cs b => hsel j oj cs b hoj) hQ hg h1
      have hfree' : ∀ k ok, ops[k]? = some ok → k ≠ i → (listed.setIfInBounds j true).getD k true = false → (∀ e ∈ ok.after, Region.binds md e = true → e.on ≠ i) → oi.apart ops ok = true := fun k ok hk hki hun hno => by
        refine hfree k ok hk hki ?_ hno
        by_cases hjk : j = k
        · subst hjk; exact hjun
        · rw [getD_set_ne true hjk] at hun; exact hun
      refine wpOp_mono (fun a' w' h3 => ?_) h2
      have h4 : R (listed.setIfInBounds j true) w' := by
        have := h3.2.1
        rw [← Array.setIfInBounds_comm _ _ hji] at this
        exact (hRi _ _).1 this
      refine ⟨h4, ih (listed.setIfInBounds j true) a' w' hfree' (ready_mono hr (Ne.symm hji)) h3.1 (hC _ j oj hCl hoj hnot) h4 ?_⟩
      rw [Array.setIfInBounds_comm _ _ hji]
      exact h3.2.2
/-- S always, ST as long as z has not come up -/
def Till (z : Nat) (S ST : World → Prop) (listed : Array Bool) (w : World) : Prop := S w ∧ (listed.getD z false = false → ST w)
theorem till_set {z i : Nat} {S ST : World → Prop} (h : i ≠ z) (listed : Array Bool) (w : World) : Till z S ST (listed.setIfInBounds i true) w ↔ Till z S ST listed w := by
  unfold Till
  rw [getD_set_ne false h]
variable {S ST : World → Prop} {z : Nat}
theorem wpAnyL_take {i : Nat} {oi : Oper} {v : Value} {fuel : Nat} {listed : Array Bool} {a : Act} {w : World} (hi : ops[i]? = some oi) (hs : Region.noSelect ops = true) (hf : Region.free md ops listed i = true)
    (hr : (Region.ready md ops listed).contains i = true) (hz : (i != z) = true) (hQ : ∀ c a w, Q (.panic c) (a.put oi.dst v) w → Q (.panic c) a w)
    (hg : Gives P ops Q S oi v a) (hS : Till z S ST listed w) (h : Till z S ST (listed.setIfInBounds i true) w → wpAnyL P md ops Q (Till z S ST) fuel (listed.setIfInBounds i true) (a.put oi.dst v) w) : wpAnyL P md ops Q (Till z S ST) (fuel + 1) listed a w :=
  wpAnyL_first (C := fun _ => True) hi (Region.noSelect_spec hs) hQ (till_set (by simpa using hz)) (fun _ _ _ h => h.1) (fun _ _ _ _ _ _ => trivial) fuel listed a w (Region.free_spec hi hf) (by simpa using hr) hg trivial hS (h ((till_set (by simpa using hz) _ _).2 hS))
theorem wpAnyL_early {i : Nat} {oi oz : Oper} {v : Value} {fuel : Nat} {listed : Array Bool} {a : Act} {w : World} (hi : ops[i]? = some oi) (hs : Region.noSelect ops = true) (hf : Region.free md ops listed i = true)
    (hr : (Region.ready md ops listed).contains i = true) (hz : (i != z) = true) (hoz : ops[z]? = some oz) (hwt : Region.waitsFor md ops z i = true) (hzl : listed.getD z false = false) (hQ : ∀ c a w, Q (.panic c) (a.put oi.dst v) w → Q (.panic c) a w)
    (hg : Gives P ops Q (fun w => S w ∧ ST w) oi v a) (hS : Till z S ST listed w) (h : Till z S ST (listed.setIfInBounds i true) w → wpAnyL P md ops Q (Till z S ST) fuel (listed.setIfInBounds i true) (a.put oi.dst v) w) : wpAnyL P md ops Q (Till z S ST) (fuel + 1) listed a w := by
  obtain ⟨oj, hoj, hw⟩ := Region.waitsFor_spec hwt
  obtain rfl : oj = oz := Option.some.inj (hoj.symm.trans hoz)
  refine wpAnyL_first (C := fun l => l.getD z false = false) hi (Region.noSelect_spec hs) hQ (till_set (by simpa using hz)) (fun _ _ hc h => ⟨h.1, h.2 hc⟩) (fun l j oj' hc hj hno => ?_) fuel listed a w (Region.free_spec hi hf) (by simpa using hr) hg hzl hS (h ((till_set (by simpa using hz) _ _).2 hS))
  have hjz : j ≠ z := by
    rintro rfl
    obtain rfl : oj' = oj := Option.some.inj (hj.symm.trans hoz)
    obtain ⟨e, he, hb, heq⟩ := hw
    exact hno e he hb heq
  rw [getD_set_ne false hjz]
  exact hc
/-- the way on from operation i -/
def LStep (P : Program) (md : Region.Mode) (ops : Array Oper) (Q : Exit → Act → World → Prop) (R : Array Bool → World → Prop) (fuel : Nat) (listed : Array Bool) (a : Act) (w : World) (i : Nat) : Prop :=
  wpOp P ops Q i (fun a' w' => R (listed.setIfInBounds i true) w' ∧ wpAnyL P md ops Q R fuel (listed.setIfInBounds i true) a' w') a w
theorem lstep {fuel i : Nat} {o : Oper} {listed : Array Bool} {a : Act} {w : World} (ho : ops[i]? = some o)
    (h : ∀ K' : Act → World → Prop, Shut (∀ a w, R (listed.setIfInBounds i true) w → (R (listed.setIfInBounds i true) w → wpAnyL P md ops Q R fuel (listed.setIfInBounds i true) a w) → K' a w) → if Region.wanted o (yielded ops a.tmps) = true then Oper.wp P o a w K' Q else K' (a.put o.dst undef) w) :
    LStep P md ops Q R fuel listed a w i := wpOp_step ho (fun K' hK => h K' (fun a w hS hW => hK a w ⟨hS, hW hS⟩))
theorem wpAnyL_one {fuel i : Nat} {listed : Array Bool} {a : Act} {w : World} (hr : Region.ready md ops listed = [i]) (h : LStep P md ops Q R fuel listed a w i) : wpAnyL P md ops Q R (fuel + 1) listed a w :=
  ⟨(fun h0 => by rw [hr] at h0; cases h0), (fun k hk => by rw [hr, List.mem_singleton] at hk; subst hk; exact h)⟩
theorem wpAnyL_two {fuel i j : Nat} {listed : Array Bool} {a : Act} {w : World} (hr : Region.ready md ops listed = [i, j]) (h1 : LStep P md ops Q R fuel listed a w i) (h2 : LStep P md ops Q R fuel listed a w j) : wpAnyL P md ops Q R (fuel + 1) listed a w :=
  ⟨(fun h0 => by rw [hr] at h0; cases h0), fun k hk => by
    rw [hr, List.mem_cons, List.mem_singleton] at hk
    rcases hk with rfl | rfl
    · exact h1
    · exact h2⟩
theorem wpAnyL_done {listed : Array Bool} {a : Act} {w : World} (hr : Region.ready md ops listed = []) (h : Q .normal a w) : ∀ fuel, wpAnyL P md ops Q R fuel listed a w
  | 0 => ⟨hr, h⟩
  | _ + 1 => ⟨fun _ => h, by rw [hr]; simp⟩
theorem wp_region_l {id : Nat} {a : Act} {w : World} (hm : P.follows .mixedOrders = true) (hS : R (Array.replicate ops.size false) w.drew) (h : R (Array.replicate ops.size false) w.drew → wpAnyL P .any ops Q R ops.size (Array.replicate ops.size false) a w.drew) : (Code.region id ops true).wp P Q a w :=
  wp_region_any hm (wpAny_of_l _ _ _ _ (h hS))
end
end Go.Proofs.Ytkheepedjoimmaa
namespace Go.Proofs.Ytkheepedjoimmaa
open Go.RowKit Go.Maps
set_option linter.unusedSimpArgs false

/-- what the reference's Eval asks of a problem -/
structure FineW (i : Prob) : Prop where
  cars : 1 ≤ i.cars.length ∧ i.cars.length ≤ 3
  stops : i.stops.length ≤ 10
  travel : i.travel.length = i.stops.length + 1
  carF : ∀ c ∈ i.cars, 0 ≤ c.c ∧ c.c ≤ 60 ∧ 0 ≤ c.s ∧ c.s ≤ c.e ∧ c.e ≤ 1000
  stopF : ∀ c ∈ i.stops, -20 ≤ c.d ∧ c.d ≤ 20 ∧ 0 ≤ c.s ∧ c.s ≤ 1000 ∧ 0 ≤ c.o ∧ c.o ≤ 2000 ∧ 0 ≤ c.c ∧ c.c ≤ 1000
  pairF : ∀ p ∈ i.pairs, 1 ≤ p.a ∧ p.a ≤ i.stops.length ∧ 1 ≤ p.b ∧ p.b ≤ i.stops.length
  rowF : ∀ c ∈ i.travel, ∀ n ∈ c, 0 ≤ n ∧ n ≤ 1000
  rowL : ∀ c ∈ i.travel, c.length = i.stops.length + 1
  nd : (flatP i.pairs).Nodup ∧ ∀ x ∈ flatP i.pairs, 1 ≤ x
theorem fineW_of {i : Prob} (h : probOk i = true) : FineW i := by
  have f := fine_of h
  exact ⟨f.cars, f.stops, f.travel, f.carF, fun c hc => by have := f.stopF c hc; omega, f.pairF, f.rowF, f.rowL, pairs_of h⟩
theorem way_boundsW {i : Prob} (h : FineW i) (a b : Int) : 0 ≤ way i a b ∧ way i a b ≤ 1000 := by
  unfold way
  cases ha : i.travel[a.toNat]? with
  | none => simp
  | some r =>
    rw [Option.getD_some]
    cases hb : r[b.toNat]? with
    | none => simp
    | some x => exact h.rowF r (List.mem_of_getElem? ha) x (List.mem_of_getElem? hb)
theorem stopAt_boundsW {i : Prob} (h : FineW i) (x : Int) : -20 ≤ (stopAt i x).d ∧ (stopAt i x).d ≤ 20 ∧ 0 ≤ (stopAt i x).s ∧ (stopAt i x).s ≤ 1000 ∧ 0 ≤ (stopAt i x).o ∧ (stopAt i x).o ≤ 2000 ∧ 0 ≤ (stopAt i x).c ∧ (stopAt i x).c ≤ 1000 := by
  unfold stopAt
  cases hk : i.stops[(x - 1).toNat]? with
  | none => simp
  | some r => exact h.stopF r (List.mem_of_getElem? hk)
theorem carAt_boundsW {i : Prob} (h : FineW i) (c : Int) : 0 ≤ (carAt i c).c ∧ (carAt i c).c ≤ 60 ∧ 0 ≤ (carAt i c).s ∧ (carAt i c).s ≤ 1000 ∧ (carAt i c).e ≤ 1000 := by
  unfold carAt
  cases hk : i.cars[c.toNat]? with
  | none => simp
  | some r =>
    have := h.carF r (List.mem_of_getElem? hk)
    simp only [Option.getD_some]
    omega
theorem Trav.wayW {W : World} {v : Value} {i : Prob} (h : Trav W v i.travel) (hf : FineW i) {a b : Nat} (ha : a ≤ i.stops.length) (hb : b ≤ i.stops.length) :
    ∃ A cap B o A2 cap2 B2 o2, v = .slice A (i.stops.length + 1) cap ∧ A = some ⟨B, o, none⟩ ∧ B < W.heap.size ∧ W.cell? ⟨B, o + a, none⟩ = some (.slice A2 (i.stops.length + 1) cap2) ∧ A2 = some ⟨B2, o2, none⟩ ∧ B2 < W.heap.size ∧ W.cell? ⟨B2, o2 + b, none⟩ = some (.int .i64 (Go.Proofs.Ytkheepedjoimmaa.way i a b)) := by
  obtain ⟨A, cap, rfl, hc⟩ := h
  have hl := hf.travel
  obtain ⟨B, o, u, rfl, hB, hu, hr⟩ := hc a (by omega)
  have hrl := hf.rowL i.travel[a] (List.getElem_mem _)
  obtain ⟨A2, cap2, rfl, hc2⟩ := hr.num
  obtain ⟨B2, o2, rfl, hB2, hcell⟩ := hc2 b (by omega)
  refine ⟨_, cap, B, o, _, cap2, B2, o2, by rw [hl], rfl, hB, by rw [← hrl]; exact hu, rfl, hB2, ?_⟩
  rw [way_nat i (by omega) (by omega)]
  exact hcell
theorem eval_onW {i : Prob} {c : Int} {l : List Int} {t : TripR} (hok : (flatP i.pairs).Nodup ∧ ∀ x ∈ flatP i.pairs, 1 ≤ x) (h : evalL i c l = some t) : l.Nodup ∧ PairsOn i.pairs l := by
  obtain ⟨_, h2, h3, _⟩ := eval_some h
  have hn := ((nodupL_iff l []).1 h2).1
  obtain ⟨h4, h5⟩ := hok
  exact ⟨hn, (pairsL_on h4 h5 hn).1 h3⟩
theorem eval_no_there {i : Prob} {c : Int} {l : List Int} {k : Nat} (hk : k < l.length) (h : inB l[k] 1 i.stops.length = false) : evalL i c l = none := by
  unfold evalL
  rw [if_neg]
  intro hc
  simp only [Bool.and_eq_true] at hc
  have ht := hc.1.1.2
  unfold thereB at ht
  rw [List.all_eq_true] at ht
  rw [ht l[k] (List.getElem_mem _)] at h
  cases h
theorem eval_no_dup {i : Prob} {c : Int} {l : List Int} {k : Nat} (hk : k < l.length) (h : l[k] ∈ l.take k) : evalL i c l = none := by
  unfold evalL
  rw [if_neg]
  intro hc
  simp only [Bool.and_eq_true] at hc
  have hn := ((nodupL_iff l []).1 hc.1.2).1
  have h2 : (l.take k ++ l.drop k).Nodup := by rw [List.take_append_drop]; exact hn
  have h3 : l[k] ∈ l.drop k := by rw [drop_at hk]; exact List.mem_cons_self
  rw [List.nodup_append] at h2
  exact h2.2.2 _ h _ h3 rfl
theorem eval_no_pair {i : Prob} {c : Int} {l : List Int} (hok : (flatP i.pairs).Nodup ∧ ∀ x ∈ flatP i.pairs, 1 ≤ x) {p : Pair} (hp : p ∈ i.pairs) (h : ¬ ((p.a ∈ l ↔ p.b ∈ l) ∧ (p.a ∈ l → l.idxOf p.a < l.idxOf p.b))) : evalL i c l = none := by
  cases he : evalL i c l with
  | none => rfl
  | some t => exact absurd ((eval_onW hok he).2 p hp) h
theorem eval_drive {i : Prob} {c : Int} {l : List Int} (hok : (flatP i.pairs).Nodup ∧ ∀ x ∈ flatP i.pairs, 1 ≤ x) (hc : inB c 0 (i.cars.length - 1) = true) (ht : thereB i l = true) (hn : l.Nodup) (hp : PairsOn i.pairs l) : evalL i c l = tripOf i (carAt i c) l := by
  obtain ⟨h4, h5⟩ := hok
  unfold evalL
  rw [hc, ht, (nodupL_iff l []).2 ⟨hn, fun _ _ h => by simp at h⟩, (pairsL_on h4 h5 hn).2 hp]
  rfl

theorem tb_ref (w : World) (S : Nat) (x : Int) : TB (w.alloc (.cells #[.slice none 0 0, .slice none 0 0, .int .i64 0, .int .i64 x] 33)) S w.heap.size 33 (.slice none 0 0) (.slice none 0 0) [] [] 0 x := tb_from w (by decide) S x
theorem idx_ne {l : List Int} {a b : Int} (ha : a ∈ l) (hne : a ≠ b) : l.idxOf a ≠ l.idxOf b := by
  intro e
  have h1 := List.idxOf_lt_length_of_mem ha
  have h2 : l[l.idxOf a] = a := List.getElem_idxOf h1
  have h3 : l.idxOf b < l.length := by rw [← e]; exact h1
  have h4 : l[l.idxOf b] = b := List.getElem_idxOf h3
  apply hne
  rw [← h2, ← h4]
  congr 1
theorem pair_cases {ps : List Pair} (hn : (flatP ps).Nodup) {p : Pair} (hp : p ∈ ps) (l : List Int) :
    (l.contains p.a = false ∧ l.contains p.b = false ∧ ((p.a ∈ l ↔ p.b ∈ l) ∧ (p.a ∈ l → l.idxOf p.a < l.idxOf p.b))) ∨
    (l.contains p.a = true ∧ l.contains p.b = true ∧ pos l 0 p.a ≤ pos l 0 p.b ∧ ((p.a ∈ l ↔ p.b ∈ l) ∧ (p.a ∈ l → l.idxOf p.a < l.idxOf p.b))) ∨
    ((l.contains p.a = true ∧ l.contains p.b = true ∧ pos l 0 p.b < pos l 0 p.a ∨ l.contains p.a = true ∧ l.contains p.b = false ∨ l.contains p.a = false ∧ l.contains p.b = true) ∧ ¬ ((p.a ∈ l ↔ p.b ∈ l) ∧ (p.a ∈ l → l.idxOf p.a < l.idxOf p.b))) := by
  have hne : p.a ≠ p.b := fun e => by
    have h1 := (of_a hn hp).2.1
    have h2 := (of_b hn hp).2.1
    rw [e, h2] at h1
    cases h1
  by_cases ha : p.a ∈ l
  · by_cases hb : p.b ∈ l
    · have hi := idx_ne ha hne
      have e1 : pos l 0 p.a = (l.idxOf p.a : Int) := by unfold pos; rw [if_pos ha]; simp
      have e2 : pos l 0 p.b = (l.idxOf p.b : Int) := by unfold pos; rw [if_pos hb]; simp
      rw [e1, e2]
      by_cases hlt : l.idxOf p.a < l.idxOf p.b
      · exact .inr (.inl ⟨by simpa using ha, by simpa using hb, by omega, ⟨⟨fun _ => hb, fun _ => ha⟩, fun _ => hlt⟩⟩)
      · exact .inr (.inr ⟨.inl ⟨by simpa using ha, by simpa using hb, by omega⟩, fun h => hlt (h.2 ha)⟩)
    · exact .inr (.inr ⟨.inr (.inl ⟨by simpa using ha, by simpa using hb⟩), fun h => hb (h.1.1 ha)⟩)
  · by_cases hb : p.b ∈ l
    · exact .inr (.inr ⟨.inr (.inr ⟨by simpa using ha, by simpa using hb⟩), fun h => ha (h.1.2 hb)⟩)
    · exact .inl ⟨by simpa using ha, by simpa using hb, ⟨⟨fun h => absurd h ha, fun h => absurd h hb⟩, fun h => absurd h ha⟩⟩

set_option maxRecDepth 100000 in
set_option maxHeartbeats 16000000 in
theorem refEvalW_any (v u : Value) (i : Prob) (c : Int) (l : List Int) (w : World) (h : Lies w v i) (hf : FineW i) (hp : i.pairs.length ≤ 1000000) (hr : Recs w 1 num_ u l) (hl : l.length ≤ 100000) (hx : ∀ x ∈ l, -1000000 ≤ x ∧ x ≤ 1000000) :
    Calls Try.prog 13 #[v, .int .i64 c, u] w (TripIs w (evalL i c l)) := by
  have h' := h
  obtain ⟨vc, vs, vp, vt, rfl, hvc, hvs, hvp, hvt⟩ := h'
  obtain ⟨A, cap, rfl, hcl⟩ := hr.num
  have hst := hf.stops
  have hcs := hf.cars.2
  have HL := Lib.hid h
  have HF := Lib.hid hf
  have HOK := Lib.hid hf.nd
  have HC := Lib.hid hcl
  have HX := Lib.hid hx
  have HPF := Lib.hid hf.pairF
  have HTR := Lib.hid hvt
  have HTL := Lib.hid hf.travel
  obtain ⟨Ac, capc, rfl, _⟩ := hvc
  obtain ⟨As, caps, rfl, _⟩ := hvs
  obtain ⟨Ap, capp, rfl, hpc⟩ := hvp
  have HPC := Lib.hid hpc
  obtain ⟨i0, hi0, hz0, hz1, hz2⟩ := info_parts int_info
  clear h hf hr hcl hx hpc hvt
  have BX := Lib.hid ((blk_new w #[.slice Ac i.cars.length capc, .slice As i.stops.length caps, .slice Ap i.pairs.length capp, vt] 28).alloc (.cells #[.slice none 0 0, .slice none 0 0, .int .i64 0, .int .i64 0] 33))
  have HB0 := Lib.hid (((Below.refl _ _).alloc (Nat.le_refl _) (.cells #[.slice Ac i.cars.length capc, .slice As i.stops.length caps, .slice Ap i.pairs.length capp, vt] 28)).alloc (by simp) (.cells #[.slice none 0 0, .slice none 0 0, .int .i64 0, .int .i64 0] 33) : Below w.heap.size w _)
  have BR := Lib.hid (blk_at (w := w.alloc (.cells #[.slice Ac i.cars.length capc, .slice As i.stops.length caps, .slice Ap i.pairs.length capp, vt] 28)) #[.slice none 0 0, .slice none 0 0, .int .i64 0, .int .i64 0] 33 (show w.heap.size + 1 = _ by simp))
  go_enter Try.func13, Try.ntmps13
  go_upto_region 1 with (fail)
  generalize (w.alloc (.cells #[.slice Ac i.cars.length capc, .slice As i.stops.length caps, .slice Ap i.pairs.length capp, vt] 28)).alloc (.cells #[.slice none 0 0, .slice none 0 0, .int .i64 0, .int .i64 0] 33) = w0 at *
  generalize hRR : w.heap.size + 1 = R at *
  have hRw : w.heap.size ≤ R := by omega
  have hRw2 : w.heap.size < R := by omega
  clear hRR
  have k0 := BX.out.c0
  have k1 := BX.out.c1
  have k2 := BX.out.c2
  have k3 := BX.out.c3
  have hz00 := BX.out.1
  have HIC : Hid (∃ b, inB c 0 (i.cars.length - 1) = b) := ⟨_, rfl⟩
  obtain ⟨icb, hicb⟩ := HIC.out
  go_wp2_with (go_at_call 31; fail)
  (with_reducible refine (refCar_any _ i c icb w0 (HL.out.below HB0.out) (by omega) hicb).mono ?_)
  rintro e w1 ⟨rfl, hb1⟩
  have HB1 := Lib.hid (HB0.out.trans (hb1.mono HB0.out.size))
  have BX1 := Lib.hid (BX.out.below hb1)
  have BR1 := Lib.hid (BR.out.below hb1)
  clear hb1 k0 k1 k2 k3 hz00 HIC
  have hRz := BR1.out.1
  have hSz := BX1.out.1
  cases icb
  · have HN : Hid (evalL i c l = none) := by show _ = _; unfold evalL; rw [hicb]; simp
    clear hicb
    obtain ⟨r0, r1, r2, r3, f0, f1, f2, f3⟩ := nil4 BR1.out
    go_wp2
    refine bodyPost_ret (v := .tuple #[.agg #[.slice none 0 0, .slice none 0 0, .int .i64 0, .int .i64 0], .bool false]) (by simp [results, Try.results13, go_sem, r0, r1, r2, r3]) rfl ⟨?_, .inl ⟨HN.out, rfl⟩⟩
    exact (((HB1.out.setCell (p := ⟨R, 0, none⟩) hRw _).setCell (p := ⟨R, 1, none⟩) hRw _).setCell (p := ⟨R, 2, none⟩) hRw _).setCell (p := ⟨R, 3, none⟩) hRw _
  · obtain ⟨cn, rfl⟩ : ∃ cn : Nat, c = (cn : Int) := by have := inB_iff.1 hicb; exact ⟨c.toNat, by omega⟩
    have hcn : cn < i.cars.length := by have := inB_iff.1 hicb; omega
    have HIB := Lib.hid hicb
    clear hicb
    have HMP := Lib.hid (World.ownsMap_made (H := Unit) w1 Try.prog 3 (plainElem Try.prog 3))
    have HBM := Lib.hid ((Below.refl _ _).alloc (Nat.le_refl _) (.map #[] 0) : Below w1.heap.size w1 _)
    have hmm := @run_makeMap Try.prog
    go_wp2
    clear hmm
    generalize w1.alloc (.map #[] 0) = wm at *
    generalize hMM : w1.heap.size = M at *
    go_loopw [35] (fun jv wr => ∃ (k m : Nat) (D : DataW Unit), k ≤ l.length ∧ jv = .int .i64 k ∧ m ≤ k ∧ wr.ownsMap Try.prog 3 (plainElem Try.prog 3) M m D ∧ Places D (l.take k) 0 ∧ (l.take k).Nodup ∧ (∀ j (hj : j < l.length), j < k → inB l[j] 1 i.stops.length = true) ∧ Below M w1 wr) (fun jv _ => l.length - (intOf jv).toNat)
    case atStart => exact ⟨0, 0, _, Nat.zero_le _, rfl, Nat.le_refl _, HMP.out, places_start 0, by simp, fun j _ h => absurd h (by omega), HBM.out⟩
    case round =>
      obtain ⟨k, m, D, hk, rfl, hm, hown, hpl, hnd, hin, hb⟩ := hrel
      have HOW := Lib.hid hown
      have HPL := Lib.hid hpl
      have HND := Lib.hid hnd
      have HIN := Lib.hid hin
      have HB := Lib.hid hb
      have hMz : M ≤ wr.heap.size := by have := hb.size; omega
      have HBw : Hid (Below w.heap.size w wr) := HB1.out.trans (hb.mono (by have := HB1.out.size; omega))
      have BXr := Lib.hid (BX1.out.keep hb (by omega))
      have BRr := Lib.hid (BR1.out.keep hb (by omega))
      clear hown hpl hnd hin hb
      have k1 := BXr.out.c1
      have k2 := BXr.out.c2
      have hzS := BXr.out.1
      by_cases hlt : k < l.length
      · as_aux_lemma =>
          obtain ⟨B, o, rfl, hB, hcell⟩ := HC.out k hlt
          have c0 : wr.cell? ⟨B, o + k, none⟩ = some (.int .i64 l[k]) := by rw [HBw.out.cell hB]; exact hcell
          have hxk := HX.out l[k] (List.getElem_mem _)
          have hwf : (Lit.int .i64 l[k]).wf = true := wf_in hxk.1 hxk.2
          have hlook := look_ok HOW.out HPL.out hwf
          have hkey := keyOf_int_mk Try.underlying3 hwf
          have hBz : B < wr.heap.size := Nat.lt_of_lt_of_le hB HBw.out.size
          clear hcell
          cases hcon : (l.take k).contains l[k]
          · have hni : l[k] ∉ l.take k := by simpa using hcon
            rw [hcon] at hlook
            cases hib : inB l[k] 1 i.stops.length
            · have HN := Lib.hid (eval_no_there (c := (cn : Int)) hlt hib)
              have C := Lib.hid (fun W => refWithin_any l[k] 1 i.stops.length false hib W)
              clear hib hcon hni
              generalize l[k] = s at *
              generalize pos (l.take k) 0 s = ps at *
              go_wp2_with (go_at_call 32; fail)
              (with_reducible refine (C.out _).mono ?_)
              rintro e w4 ⟨rfl, rfl⟩
              obtain ⟨r0, r1, r2, r3, f0, f1, f2, f3⟩ := nil4 BRr.out
              have hRzr := BRr.out.1
              go_wp2
              refine bodyPost_ret (v := .tuple #[.agg #[.slice none 0 0, .slice none 0 0, .int .i64 0, .int .i64 0], .bool false]) (by simp [results, Try.results13, go_sem, r0, r1, r2, r3]) rfl ⟨?_, .inl ⟨HN.out, rfl⟩⟩
              exact (((HBw.out.setCell (p := ⟨R, 0, none⟩) hRw _).setCell (p := ⟨R, 1, none⟩) hRw _).setCell (p := ⟨R, 2, none⟩) hRw _).setCell (p := ⟨R, 3, none⟩) hRw _
            · have C := Lib.hid (fun W => refWithin_any l[k] 1 i.stops.length true hib W)
              have HIN2 : Hid (∀ j (hj : j < l.length), j < k + 1 → inB l[j] 1 i.stops.length = true) := fun j hj hjk => by
                by_cases e : j = k
                · subst e; exact hib
                · exact HIN.out j hj (by omega)
              have HPUT := Lib.hid (HPL.out.put HOW.out.isMap hni)
              have hts : l.take (k + 1) = l.take k ++ [l[k]] := List.take_succ_eq_append_getElem hlt
              have HND2 : Hid ((l.take (k + 1)).Nodup) := by
                show List.Nodup _
                rw [hts, List.nodup_append]
                exact ⟨HND.out, by simp, fun a ha b hb e => by simp at hb; subst hb; subst e; exact hni ha⟩
              rw [← hts, show ((l.take k).length : Int) + ((0 : Nat) : Int) = (k : Int) by rw [List.length_take]; omega] at HPUT
              have HV := Lib.hid (plainElem_int (H := Unit) (P := Try.prog) Try.underlying3 (a := (k : Int)) (wf_in (by omega) (by omega)))
              clear hib hcon hni hts hwf hxk
              generalize l[k] = s at *
              generalize pos (l.take k) 0 s = ps at *
              go_wp2_with (go_at_call 32; fail)
              (with_reducible refine (C.out _).mono ?_)
              rintro e w4 ⟨rfl, rfl⟩
              go_upto_region 10 with (fail)
              go_wp2_with (at_mapUpdate; refine wpList_mapUpdate_in _ rfl _ _ _ 71 rfl 3 3 key_int Try.underlying71 _ M m D rfl HOW.out (by unfold maxLen; omega) _ _ _ rfl rfl hkey _ [] HV.out ?_; intro w6 hown6 hturn6)
              have HB6 := Lib.hid (HB.out.grown hturn6.grown (by omega) (fun k hk => by cases hk; exact Nat.le_refl _))
              have HO6 := Lib.hid hown6
              clear hown6 hturn6 hlook
              go_wp2
              go_roundw
              case rel => exact ⟨k + 1, m + 1, _, by omega, by go_num, by omega, HO6.out, HPUT.out, HND2.out, HIN2.out, HB6.out⟩
              case measure => simp [intOf]; omega
          · have hmem : l[k] ∈ l.take k := by simpa using hcon
            have HN := Lib.hid (eval_no_dup (i := i) (c := (cn : Int)) hlt hmem)
            rw [hcon] at hlook
            clear hcon hmem hwf hxk hkey
            generalize l[k] = s at *
            generalize pos (l.take k) 0 s = ps at *
            obtain ⟨r0, r1, r2, r3, f0, f1, f2, f3⟩ := nil4 BRr.out
            have hRzr := BRr.out.1
            go_wp2
            refine bodyPost_ret (v := .tuple #[.agg #[.slice none 0 0, .slice none 0 0, .int .i64 0, .int .i64 0], .bool false]) (by simp [results, Try.results13, go_sem, r0, r1, r2, r3]) rfl ⟨?_, .inl ⟨HN.out, rfl⟩⟩
            exact (((HBw.out.setCell (p := ⟨R, 0, none⟩) hRw _).setCell (p := ⟨R, 1, none⟩) hRw _).setCell (p := ⟨R, 2, none⟩) hRw _).setCell (p := ⟨R, 3, none⟩) hRw _
      · have hkl : k = l.length := by omega
        subst hkl
        have HTH : Hid (thereB i l = true) := by
          show _ = _
          unfold thereB
          rw [List.all_eq_true]
          intro x hx
          obtain ⟨j, hj, rfl⟩ := List.getElem_of_mem hx
          exact HIN.out j hj (by omega)
        rw [List.take_length] at HPL HND
        clear HIN
        have HSTA := Lib.hid (And.intro HOW.out HB.out)
        have HPFL := Lib.hid HOK.out.1
        go_wp2
        clear k1 k2 hzS HOW HB HBw BXr BRr hMz
        go_loopw [63] (fun jv wr => ∃ (j : Nat), j ≤ i.pairs.length ∧ jv = .int .i64 j ∧ wr.ownsMap Try.prog 3 (plainElem Try.prog 3) M m D ∧ (∀ q (hq : q < i.pairs.length), q < j → ((i.pairs[q].a ∈ l ↔ i.pairs[q].b ∈ l) ∧ (i.pairs[q].a ∈ l → l.idxOf i.pairs[q].a < l.idxOf i.pairs[q].b))) ∧ Below M w1 wr) (fun jv _ => i.pairs.length - (intOf jv).toNat)
        case atStart => exact ⟨0, Nat.zero_le _, rfl, HSTA.out.1, fun q _ h => absurd h (by omega), HSTA.out.2⟩
        case round =>
          clear HSTA
          obtain ⟨j, hj, rfl, hom, hgood, hb⟩ := hrel
          have HOM := Lib.hid hom
          have HGO := Lib.hid hgood
          have HB := Lib.hid hb
          have hMz : M ≤ wr.heap.size := by have := hb.size; omega
          have HBw : Hid (Below w.heap.size w wr) := HB1.out.trans (hb.mono (by have := HB1.out.size; omega))
          clear hom hgood hb
          by_cases hjl : j < i.pairs.length
          · as_aux_lemma =>
              obtain ⟨B, o, rfl, hB, hcell⟩ := HPC.out j hjl
              have c0 : wr.cell? ⟨B, o + j * 2, none⟩ = some (.int .i64 i.pairs[j].a) := by rw [HBw.out.cell hB]; exact hcell 0 (by omega)
              have c1 : wr.cell? ⟨B, o + j * 2 + 1, none⟩ = some (.int .i64 i.pairs[j].b) := by rw [HBw.out.cell hB]; exact hcell 1 (by omega)
              have hpf := HPF.out i.pairs[j] (List.getElem_mem _)
              have HCA := Lib.hid (pair_cases HPFL.out (List.getElem_mem hjl) l)
              have HNP : Hid (¬ ((i.pairs[j].a ∈ l ↔ i.pairs[j].b ∈ l) ∧ (i.pairs[j].a ∈ l → l.idxOf i.pairs[j].a < l.idxOf i.pairs[j].b)) → evalL i (cn : Int) l = none) := fun hno => eval_no_pair HOK.out (List.getElem_mem hjl) hno
              have HG2 : Hid (((i.pairs[j].a ∈ l ↔ i.pairs[j].b ∈ l) ∧ (i.pairs[j].a ∈ l → l.idxOf i.pairs[j].a < l.idxOf i.pairs[j].b)) → ∀ q (hq : q < i.pairs.length), q < j + 1 → ((i.pairs[q].a ∈ l ↔ i.pairs[q].b ∈ l) ∧ (i.pairs[q].a ∈ l → l.idxOf i.pairs[q].a < l.idxOf i.pairs[q].b))) := fun hy q hq hqj => by
                by_cases e : q = j
                · subst e; exact hy
                · exact HGO.out q hq (by omega)
              have hBz : B < wr.heap.size := Nat.lt_of_lt_of_le hB HBw.out.size
              clear hcell
              generalize i.pairs[j] = pr at *
              obtain ⟨pa, pb⟩ := pr
              simp only at hpf c0 c1 HCA HNP HG2
              have HBa := Lib.hid ((Below.refl _ _).alloc (Nat.le_refl _) (.cells #[.int .i64 pa, .int .i64 pb] 68) : Below wr.heap.size wr _)
              have BQ := Lib.hid (blk_new wr #[.int .i64 pa, .int .i64 pb] 68)
              have HOMa := Lib.hid (HOM.out.alloc (.cells #[.int .i64 pa, .int .i64 pb] 68))
              go_upto_region 15 with (fail)
              generalize wr.alloc (.cells #[.int .i64 pa, .int .i64 pb] 68) = wa at *
              have HBA : Hid (Below M w1 wa) := HB.out.trans (HBa.out.mono hMz)
              have HBAw : Hid (Below w.heap.size w wa) := HBw.out.trans (HBa.out.mono HBw.out.size)
              have BRa := Lib.hid (BR1.out.keep HBA.out (by omega))
              have b0 := BQ.out.c0
              have b1 := BQ.out.c1
              have hzQ := BQ.out.1
              have q1 := look_ok HOMa.out HPL.out (wf_in (x := pa) (by omega) (by omega))
              have q2 := look_ok HOMa.out HPL.out (wf_in (x := pb) (by omega) (by omega))
              obtain ⟨r0, r1, r2, r3, f0, f1, f2, f3⟩ := nil4 BRa.out
              have hRzr := BRa.out.1
              clear c0 c1 hBz
              generalize pos l 0 pa = xa at *
              generalize pos l 0 pb = xb at *
              rcases HCA.out with ⟨h1, h2, h3⟩ | ⟨h1, h2, h3, h4⟩ | ⟨h1, h4⟩
              · have HG3 := Lib.hid (HG2.out h3)
                rw [h1] at q1
                rw [h2] at q2
                clear h1 h2 h3
                go_wp2
                go_roundw
                case rel => exact ⟨j + 1, by omega, by go_num, HOMa.out, HG3.out, HBA.out⟩
                case measure => simp [intOf]; omega
              · have HG3 := Lib.hid (HG2.out h4)
                rw [h1] at q1
                rw [h2] at q2
                have t1 : decide (xa > xb) = false := by simp; omega
                clear h1 h2 h4
                go_wp2
                go_roundw
                case rel => exact ⟨j + 1, by omega, by go_num, HOMa.out, HG3.out, HBA.out⟩
                case measure => simp [intOf]; omega
              · have HN := Lib.hid (HNP.out h4)
                clear h4
                rcases h1 with ⟨h1, h2, h3⟩ | ⟨h1, h2⟩ | ⟨h1, h2⟩
                all_goals
                  rw [h1] at q1
                  rw [h2] at q2
                  clear h1 h2
                  go_wp2
                  refine bodyPost_ret (v := .tuple #[.agg #[.slice none 0 0, .slice none 0 0, .int .i64 0, .int .i64 0], .bool false]) (by simp [results, Try.results13, go_sem, r0, r1, r2, r3]) rfl ⟨?_, .inl ⟨HN.out, rfl⟩⟩
                  exact (((HBAw.out.setCell (p := ⟨R, 0, none⟩) hRw _).setCell (p := ⟨R, 1, none⟩) hRw _).setCell (p := ⟨R, 2, none⟩) hRw _).setCell (p := ⟨R, 3, none⟩) hRw _
          · have HPO : Hid (PairsOn i.pairs l) := fun p hp => by
              obtain ⟨q, hq, rfl⟩ := List.getElem_of_mem hp
              exact HGO.out q hq (by omega)
            have HEV := Lib.hid (eval_drive HOK.out HIB.out HTH.out HND.out HPO.out)
            have BXr := Lib.hid (BX1.out.keep HB.out (by omega))
            have BRr := Lib.hid (BR1.out.keep HB.out (by omega))
            have k0 := BXr.out.c0
            have hzS := BXr.out.1
            obtain ⟨Ac', capc', BC, oc, hv, hA, hBC, q0', q1', q2'⟩ := HL.out.car hcn
            obtain ⟨rfl, rfl⟩ : Ac = Ac' ∧ capc = capc' := by injection hv with a _ b; exact ⟨a, b⟩
            subst hA
            have q1 := cell_up HBw.out hBC q1'
            have hBCz : BC < wr.heap.size := Nat.lt_of_lt_of_le hBC HBw.out.size
            have hcb := carAt_boundsW HF.out cn
            have QC := Lib.hid (And.intro q0' (And.intro q1' q2'))
            clear q0' q1' q2' hv HGO HOM HPL
            generalize carAt i cn = cr at *
            go_upto_region 21 with (fail)
            have TB0 := Lib.hid (tb_ref wr wr.heap.size cr.s)
            have HBt := Lib.hid ((Below.refl _ _).alloc (Nat.le_refl _) (.cells #[.slice none 0 0, .slice none 0 0, .int .i64 0, .int .i64 cr.s] 33) : Below wr.heap.size wr _)
            have hRT : R < wr.heap.size := BRr.out.1
            generalize wr.alloc (.cells #[.slice none 0 0, .slice none 0 0, .int .i64 0, .int .i64 cr.s] 33) = W0 at *
            have BX0 := Lib.hid (BXr.out.below HBt.out)
            have BR0 := Lib.hid (BRr.out.below HBt.out)
            have HBw0 : Hid (Below w.heap.size w W0) := HBw.out.trans (HBt.out.mono HBw.out.size)
            generalize hTT : wr.heap.size = T at *
            have hST : w.heap.size < T := by omega
            clear k0 q1 HBt BXr BRr HBw HB hMz hTT hBCz
            have k0 := BX0.out.c0
            have q1 := cell_up HBw0.out hBC QC.out.2.1
            have hz00 : w.heap.size < W0.heap.size := BX0.out.1
            have hz01 : BC < W0.heap.size := Nat.lt_of_lt_of_le hBC HBw0.out.size
            go_wp2
            clear k0 q1
            go_loopw [20, 21, 22, 109] (fun lv dv qv cv wr => ∃ (k q : Nat) (left ld sum : Int) (arr load : List Int) (va vl : Value), k ≤ l.length ∧ q ≤ i.stops.length ∧ lv = .int .i64 left ∧ dv = .int .i64 ld ∧ qv = .int .i64 q ∧ cv = .int .i64 k ∧ 0 ≤ left ∧ left ≤ 2000 ∧ 0 ≤ ld ∧ ld ≤ 60 ∧ 0 ≤ sum ∧ sum ≤ 1000 * (k : Int) ∧ arr.length = k ∧ load.length = k ∧
              driveL i cr 0 cr.s 0 l = (driveL i cr q left ld (l.drop k)).map (Drive.more arr load) ∧ costL i 0 l = sum + costL i q (l.drop k) ∧ TB wr T T 33 va vl arr load sum cr.s ∧ Below T W0 wr) (fun _ _ _ cv _ => l.length - (intOf cv).toNat)
            case atStart => exact ⟨0, 0, cr.s, 0, 0, [], [], _, _, Nat.zero_le _, Nat.zero_le _, rfl, rfl, rfl, rfl, by omega, by omega, by omega, by omega, by omega, by omega, rfl, rfl, by rw [more_nil]; rfl, by simp, TB0.out, Below.refl _ _⟩
            case round =>
              clear TB0 hz00 hz01
              obtain ⟨k, q, left, ld, sum, arr, load, va, vl, hk, hq, rfl, rfl, rfl, rfl, hl0, hl1, hd0, hd1, hm0, hm1, ha, hb', he, hco, htb, hb⟩ := hrel
              have HA := Lib.hid ha
              have HLd := Lib.hid hb'
              have HCO := Lib.hid hco
              have TBr := Lib.hid htb
              have HBT := Lib.hid hb
              have HBW : Hid (Below w.heap.size w wr) := HBw0.out.trans (hb.mono (by omega))
              have BXr := Lib.hid (BX0.out.keep hb hST)
              have BRr := Lib.hid (BR0.out.keep hb hRT)
              have hzT := htb.lt
              have e0 := BXr.out.c0
              have e1 := BXr.out.c1
              have e3 := BXr.out.c3
              have hBCr : BC < wr.heap.size := Nat.lt_of_lt_of_le hBC HBW.out.size
              have q0 := cell_up HBW.out hBC QC.out.1
              have q2 := cell_up HBW.out hBC QC.out.2.2
              clear ha hb' htb hb hco
              by_cases hlt : k < l.length
              · as_aux_lemma =>
                  obtain ⟨B, o, rfl, hB, hcell⟩ := HC.out k hlt
                  rw [driveL_drop hlt] at he
                  rw [costL_drop hlt] at HCO
                  have c0 : wr.cell? ⟨B, o + k, none⟩ = some (.int .i64 l[k]) := by rw [HBW.out.cell hB]; exact hcell
                  obtain ⟨p, hp', hpe⟩ := thereB_at HTH.out hlt
                  rw [hpe] at c0 he HCO
                  have hwb := way_boundsW HF.out (q : Int) ((p : Int) + 1)
                  obtain ⟨X1, y1, B1, o1, X2, y2, B2, o2, rfl, rfl, hB1, d1, rfl, hB2, d2⟩ := HTR.out.wayW HF.out (a := q) (b := p + 1) hq (by omega)
                  rw [show ((p + 1 : Nat) : Int) = (p : Int) + 1 by omega] at d2
                  have SW := Lib.hid (And.intro BX0.out.c3 (And.intro (cell_up HBw0.out hB1 d1) (cell_up HBw0.out hB2 d2)))
                  replace d1 := cell_up HBW.out hB1 d1
                  replace d2 := cell_up HBW.out hB2 d2
                  obtain ⟨A4, c4, B4, o4, hv4, hA4, hB4, s0, s1, s2, s3⟩ := (HL.out.below HBW.out).stop hp'
                  obtain ⟨rfl, rfl⟩ : As = A4 ∧ caps = c4 := by injection hv4 with a _ b; exact ⟨a, b⟩
                  subst hA4
                  have hsb := stopAt_boundsW HF.out ((p : Int) + 1)
                  have HE := Lib.hid he
                  have hB1r : B1 < wr.heap.size := Nat.lt_of_lt_of_le hB1 HBW.out.size
                  have hB2r : B2 < wr.heap.size := Nat.lt_of_lt_of_le hB2 HBW.out.size
                  clear he hcell hpe hv4
                  unfold begun at HE
                  generalize stopAt i ((p : Int) + 1) = st at *
                  obtain ⟨sd, so, sc, ss⟩ := st
                  simp only at s0 s1 s2 s3 hsb HE
                  generalize way i (q : Int) ((p : Int) + 1) = y at *
                  go_upto_region 26 with (fail)
                  have BQ := Lib.hid (lb_new wr #[.int .i64 sd, .int .i64 so, .int .i64 sc, .int .i64 ss] 48)
                  have HBa := Lib.hid ((Below.refl _ _).alloc (Nat.le_refl _) (.cells #[.int .i64 sd, .int .i64 so, .int .i64 sc, .int .i64 ss] 48) : Below wr.heap.size wr _)
                  generalize wr.alloc (.cells #[.int .i64 sd, .int .i64 so, .int .i64 sc, .int .i64 ss] 48) = wa at *
                  have hzQ := BQ.out.1.1
                  have b0 := BQ.out.1.c0
                  have b1 := BQ.out.1.c1
                  have b2 := BQ.out.1.c2
                  replace e0 := cell_up HBa.out (by omega) e0
                  replace e1 := cell_up HBa.out (by omega) e1
                  replace e3 := cell_up HBa.out (by omega) e3
                  replace q0 := cell_up HBa.out (by omega) q0
                  replace d1 := cell_up HBa.out (by omega) d1
                  replace d2 := cell_up HBa.out (by omega) d2
                  clear s0 s1 s2 s3 c0 q2
                  go_quiet (fail)
                  go_upto_region 27 with (fail)
                  generalize hbe : (if left + y < so then so else left + y) = b at *
                  have hmx : max so (left + y) = b := by rw [← hbe]; split <;> omega
                  rw [hmx] at HE
                  have hb0 : 0 ≤ b := by omega
                  have hb1 : b ≤ 3000 := by omega
                  clear hbe hmx
                  by_cases hbad : sc < b ∨ ld + sd < 0 ∨ cr.c < ld + sd
                  · rw [if_pos hbad] at HE
                    have HN : Hid (evalL i (cn : Int) l = none) := by show _ = _; rw [HEV.out]; unfold tripOf; rw [HE.out]; rfl
                    have HBf := Lib.hid (below_draws' (HBW.out.trans (HBa.out.mono HBW.out.size)) nq)
                    have BRa := Lib.hid (BRr.out.below HBa.out)
                    obtain ⟨r0, r1, r2, r3, f0, f1, f2, f3⟩ := nil4 BRa.out
                    have hRzr := BRa.out.1
                    clear HE BQ
                    rcases (show sc < b ∨ (b ≤ sc ∧ ld + sd < 0) ∨ (b ≤ sc ∧ 0 ≤ ld + sd ∧ cr.c < ld + sd) by omega) with hx1 | ⟨hx1, hx2⟩ | ⟨hx1, hx2, hx3⟩
                    all_goals
                      clear hbad
                      go_wp2
                      refine bodyPost_ret (v := .tuple #[.agg #[.slice none 0 0, .slice none 0 0, .int .i64 0, .int .i64 0], .bool false]) (by simp [results, Try.results13, go_sem, r0, r1, r2, r3]) rfl ⟨?_, .inl ⟨HN.out, rfl⟩⟩
                      exact (((HBf.out.setCell (p := ⟨R, 0, none⟩) hRw _).setCell (p := ⟨R, 1, none⟩) hRw _).setCell (p := ⟨R, 2, none⟩) hRw _).setCell (p := ⟨R, 3, none⟩) hRw _
                  · rw [if_neg hbad] at HE
                    obtain ⟨hx1, hx2, hx3⟩ : b ≤ sc ∧ 0 ≤ ld + sd ∧ ld + sd ≤ cr.c := by omega
                    clear hbad
                    go_upto_region 30 with (fail)
                    clear b0 b1 b2 e0 e1 q0
                    have HBd : Hid (Below wr.heap.size wr (wa.drewN nq)) := below_draws' HBa.out nq
                    have LBd := Lib.hid (BQ.out.below (below_draws' (Below.refl _ _) nq))
                    have STd := Lib.hid ((TBr.out.below HBd.out).stt)
                    have HBdT := Lib.hid (HBT.out.trans (HBd.out.mono (by omega)))
                    replace e3 : (wa.drewN nq).cell? ⟨w.heap.size, 3, none⟩ = _ := e3
                    replace d1 : (wa.drewN nq).cell? ⟨B1, o1 + q, none⟩ = _ := d1
                    replace d2 : (wa.drewN nq).cell? ⟨B2, o2 + (p + 1), none⟩ = _ := d2
                    have hzd : wr.heap.size < (wa.drewN nq).heap.size := hzQ
                    generalize wa.drewN nq = wb at *
                    obtain ⟨xa, na, ca, rfl⟩ := own_slice STd.out.o1
                    obtain ⟨xl, nl, cl, rfl⟩ := own_slice STd.out.o2
                    have hB1T : B1 < T := by omega
                    have hB2T : B2 < T := by omega
                    have fy : IntKind.i64.wrap (sum + y) = sum + y := IntWalk.i64_in _ (by omega)
                    have z1 : (q : Int) < (i.stops.length : Int) + 1 := by omega
                    have z2 : (p : Int) + 1 < (i.stops.length : Int) + 1 := by omega
                    have z3 : (0 : Int) ≤ (p : Int) + 1 := by omega
                    have z4 : ((p : Int) + 1).toNat = p + 1 := by omega
                    go_cut [109] from 109 to 184 (fun kv wx => kv = .int .i64 k ∧ ∃ va' vl', TB wx T T 33 va' vl' (arr ++ [b]) (load ++ [ld + sd]) (sum + y) cr.s ∧ Below T W0 wx ∧ LB wx wr.heap.size 48 [.int .i64 sd, .int .i64 so, .int .i64 sc, .int .i64 ss])
                    case first =>
                      have STz : Hid (Stt wb.drew T 33 (.slice xa na ca) (.slice xl nl cl) (.slice xa na ca) (.slice xl nl cl) arr load sum cr.s) := STd.out.below ((Below.refl _ _).drew)
                      have HBz : Hid (Below T W0 wb.drew) := HBdT.out.drew
                      have HBzz : Hid (Below T wb wb.drew) := (Below.refl _ _).drew
                      have LBz := Lib.hid (LBd.out.below ((Below.refl _ _).drew))
                      refine wp_region_l (R := Till 22 (fun w' => w'.cell? ⟨w.heap.size, 3, none⟩ = some (.slice (some ⟨B1, o1, none⟩) (i.stops.length + 1) y1) ∧ w'.cell? ⟨B1, o1 + q, none⟩ = some (.slice (some ⟨B2, o2, none⟩) (i.stops.length + 1) y2) ∧ w'.cell? ⟨B2, o2 + (p + 1), none⟩ = some (.int .i64 y)) (fun w' => w'.cell? ⟨T, 0, none⟩ = some (.slice xa na ca) ∧ w'.cell? ⟨T, 1, none⟩ = some (.slice xl nl cl) ∧ w'.cell? ⟨T, 2, none⟩ = some (.int .i64 sum))) (by kernel_rfl) ⟨⟨e3, d1, d2⟩, fun _ => STz.out.cells⟩ (fun hTill => ?_)
                      replace e3 : wb.drew.cell? ⟨w.heap.size, 3, none⟩ = _ := e3
                      replace d1 : wb.drew.cell? ⟨B1, o1 + q, none⟩ = _ := d1
                      replace d2 : wb.drew.cell? ⟨B2, o2 + (p + 1), none⟩ = _ := d2
                      have hzz : wr.heap.size < wb.drew.heap.size := hzd
                      generalize wb.drew = wz at *
                      refine wpAnyL_take (i := 0) (v := ?_) rfl (by kernel_rfl) (by kernel_rfl) (by kernel_rfl) rfl (fun _ _ _ h => h) (gives_value (by rfl) ?_) (by assumption) ?_
                      rotate_left
                      · intro w hSw
                        (try dsimp only at hSw)
                        go_simp
                        (try with_reducible rfl)
                      intro hTill
                      (try simp only [Act.put, List.getElem_toArray, List.getElem_cons_succ, List.getElem_cons_zero, List.setIfInBounds_toArray, List.set_cons_zero, List.set_cons_succ])
                      refine wpAnyL_take (i := 2) (v := ?_) rfl (by kernel_rfl) (by kernel_rfl) (by kernel_rfl) rfl (fun _ _ _ h => h) (gives_value (by rfl) ?_) (by assumption) ?_
                      rotate_left
                      · intro w hSw
                        (try dsimp only at hSw)
                        go_simp
                        (try with_reducible rfl)
                      intro hTill
                      (try simp only [Act.put, List.getElem_toArray, List.getElem_cons_succ, List.getElem_cons_zero, List.setIfInBounds_toArray, List.set_cons_zero, List.set_cons_succ])
                      refine wpAnyL_take (i := 5) (v := ?_) rfl (by kernel_rfl) (by kernel_rfl) (by kernel_rfl) rfl (fun _ _ _ h => h) (gives_value (by rfl) ?_) (by assumption) ?_
                      rotate_left
                      · intro w hSw
                        (try dsimp only at hSw)
                        go_simp
                        (try with_reducible rfl)
                      intro hTill
                      (try simp only [Act.put, List.getElem_toArray, List.getElem_cons_succ, List.getElem_cons_zero, List.setIfInBounds_toArray, List.set_cons_zero, List.set_cons_succ])
                      refine wpAnyL_take (i := 7) (v := ?_) rfl (by kernel_rfl) (by kernel_rfl) (by kernel_rfl) rfl (fun _ _ _ h => h) (gives_value (by rfl) ?_) (by assumption) ?_
                      rotate_left
                      · intro w hSw
                        (try dsimp only at hSw)
                        go_simp
                        (try with_reducible rfl)
                      intro hTill
                      (try simp only [Act.put, List.getElem_toArray, List.getElem_cons_succ, List.getElem_cons_zero, List.setIfInBounds_toArray, List.set_cons_zero, List.set_cons_succ])
                      refine wpAnyL_take (i := 10) (v := ?_) rfl (by kernel_rfl) (by kernel_rfl) (by kernel_rfl) rfl (fun _ _ _ h => h) (gives_value (by rfl) ?_) (by assumption) ?_
                      rotate_left
                      · intro w hSw
                        (try dsimp only at hSw)
                        go_simp
                        (try with_reducible rfl)
                      intro hTill
                      (try simp only [Act.put, List.getElem_toArray, List.getElem_cons_succ, List.getElem_cons_zero, List.setIfInBounds_toArray, List.set_cons_zero, List.set_cons_succ])
                      refine wpAnyL_take (i := 12) (v := ?_) rfl (by kernel_rfl) (by kernel_rfl) (by kernel_rfl) rfl (fun _ _ _ h => h) (gives_value (by rfl) ?_) (by assumption) ?_
                      rotate_left
                      · intro w hSw
                        (try dsimp only at hSw)
                        go_simp
                        (try with_reducible rfl)
                      intro hTill
                      (try simp only [Act.put, List.getElem_toArray, List.getElem_cons_succ, List.getElem_cons_zero, List.setIfInBounds_toArray, List.set_cons_zero, List.set_cons_succ])
                      refine wpAnyL_take (i := 13) (v := ?_) rfl (by kernel_rfl) (by kernel_rfl) (by kernel_rfl) rfl (fun _ _ _ h => h) (gives_value (by rfl) ?_) (by assumption) ?_
                      rotate_left
                      · intro w hSw
                        (try dsimp only at hSw)
                        go_simp
                        (try with_reducible rfl)
                      intro hTill
                      (try simp only [Act.put, List.getElem_toArray, List.getElem_cons_succ, List.getElem_cons_zero, List.setIfInBounds_toArray, List.set_cons_zero, List.set_cons_succ])
                      refine wpAnyL_take (i := 14) (v := ?_) rfl (by kernel_rfl) (by kernel_rfl) (by kernel_rfl) rfl (fun _ _ _ h => h) (gives_value (by rfl) ?_) (by assumption) ?_
                      rotate_left
                      · intro w hSw
                        (try dsimp only at hSw)
                        go_simp
                        (try with_reducible rfl)
                      intro hTill
                      (try simp only [Act.put, List.getElem_toArray, List.getElem_cons_succ, List.getElem_cons_zero, List.setIfInBounds_toArray, List.set_cons_zero, List.set_cons_succ])
                      refine wpAnyL_take (i := 15) (v := ?_) rfl (by kernel_rfl) (by kernel_rfl) (by kernel_rfl) rfl (fun _ _ _ h => h) (gives_value (by rfl) ?_) (by assumption) ?_
                      rotate_left
                      · intro w hSw
                        (try dsimp only at hSw)
                        go_simp
                        (try with_reducible rfl)
                      intro hTill
                      (try simp only [Act.put, List.getElem_toArray, List.getElem_cons_succ, List.getElem_cons_zero, List.setIfInBounds_toArray, List.set_cons_zero, List.set_cons_succ])
                      refine wpAnyL_take (i := 16) (v := ?_) rfl (by kernel_rfl) (by kernel_rfl) (by kernel_rfl) rfl (fun _ _ _ h => h) (gives_value (by rfl) ?_) (by assumption) ?_
                      rotate_left
                      · intro w hSw
                        (try dsimp only at hSw)
                        go_simp
                        (try with_reducible rfl)
                      intro hTill
                      (try simp only [Act.put, List.getElem_toArray, List.getElem_cons_succ, List.getElem_cons_zero, List.setIfInBounds_toArray, List.set_cons_zero, List.set_cons_succ])
                      refine wpAnyL_take (i := 17) (v := ?_) rfl (by kernel_rfl) (by kernel_rfl) (by kernel_rfl) rfl (fun _ _ _ h => h) (gives_value (by rfl) ?_) (by assumption) ?_
                      rotate_left
                      · intro w hSw
                        (try dsimp only at hSw)
                        go_simp
                        (try with_reducible rfl)
                      intro hTill
                      (try simp only [Act.put, List.getElem_toArray, List.getElem_cons_succ, List.getElem_cons_zero, List.setIfInBounds_toArray, List.set_cons_zero, List.set_cons_succ])
                      refine wpAnyL_take (i := 18) (v := ?_) rfl (by kernel_rfl) (by kernel_rfl) (by kernel_rfl) rfl (fun _ _ _ h => h) (gives_value (by rfl) ?_) (by assumption) ?_
                      rotate_left
                      · intro w hSw
                        (try dsimp only at hSw)
                        go_simp
                        (try with_reducible rfl)
                      intro hTill
                      (try simp only [Act.put, List.getElem_toArray, List.getElem_cons_succ, List.getElem_cons_zero, List.setIfInBounds_toArray, List.set_cons_zero, List.set_cons_succ])
                      refine wpAnyL_take (i := 19) (v := ?_) rfl (by kernel_rfl) (by kernel_rfl) (by kernel_rfl) rfl (fun _ _ _ h => h) (gives_value (by rfl) ?_) (by assumption) ?_
                      rotate_left
                      · intro w hSw
                        (try dsimp only at hSw)
                        go_simp
                        (try with_reducible rfl)
                      intro hTill
                      (try simp only [Act.put, List.getElem_toArray, List.getElem_cons_succ, List.getElem_cons_zero, List.setIfInBounds_toArray, List.set_cons_zero, List.set_cons_succ])
                      refine wpAnyL_early (i := 1) (v := ?_) rfl (by kernel_rfl) (by kernel_rfl) (by kernel_rfl) rfl rfl (by kernel_rfl) (by kernel_rfl) (fun _ _ _ h => h) (gives_value (by rfl) ?_) (by assumption) ?_
                      rotate_left
                      · intro w hSw
                        (try dsimp only at hSw)
                        go_simp
                        (try with_reducible rfl)
                      intro hTill
                      (try simp only [Act.put, List.getElem_toArray, List.getElem_cons_succ, List.getElem_cons_zero, List.setIfInBounds_toArray, List.set_cons_zero, List.set_cons_succ])
                      refine wpAnyL_early (i := 6) (v := ?_) rfl (by kernel_rfl) (by kernel_rfl) (by kernel_rfl) rfl rfl (by kernel_rfl) (by kernel_rfl) (fun _ _ _ h => h) (gives_value (by rfl) ?_) (by assumption) ?_
                      rotate_left
                      · intro w hSw
                        (try dsimp only at hSw)
                        go_simp
                        (try with_reducible rfl)
                      intro hTill
                      (try simp only [Act.put, List.getElem_toArray, List.getElem_cons_succ, List.getElem_cons_zero, List.setIfInBounds_toArray, List.set_cons_zero, List.set_cons_succ])
                      refine wpAnyL_early (i := 11) (v := ?_) rfl (by kernel_rfl) (by kernel_rfl) (by kernel_rfl) rfl rfl (by kernel_rfl) (by kernel_rfl) (fun _ _ _ h => h) (gives_value (by rfl) ?_) (by assumption) ?_
                      rotate_left
                      · intro w hSw
                        (try dsimp only at hSw)
                        go_simp
                        (try with_reducible rfl)
                      intro hTill
                      (try simp only [Act.put, List.getElem_toArray, List.getElem_cons_succ, List.getElem_cons_zero, List.setIfInBounds_toArray, List.set_cons_zero, List.set_cons_succ])
                      refine wpAnyL_take (i := 20) (v := ?_) rfl (by kernel_rfl) (by kernel_rfl) (by kernel_rfl) rfl (fun _ _ _ h => h) (gives_value (by rfl) ?_) (by assumption) ?_
                      rotate_left
                      · intro w hSw
                        (try dsimp only at hSw)
                        go_simp
                        (try with_reducible rfl)
                      intro hTill
                      (try simp only [Act.put, List.getElem_toArray, List.getElem_cons_succ, List.getElem_cons_zero, List.setIfInBounds_toArray, List.set_cons_zero, List.set_cons_succ])
                      refine wpAnyL_two (i := 3) (j := 8) (by kernel_rfl) ?_ ?_
                      · refine lstep rfl (fun K hK => ?_)
                        go_simp
                        have HA1 := Lib.hid ((Below.refl _ _).alloc (Nat.le_refl _) (.cells #[.int .i64 b] 3) : Below wz.heap.size wz _)
                        have ST1 := Lib.hid (STz.out.below HA1.out)
                        have HB1 := Lib.hid (HBz.out.trans (HA1.out.mono (by have := STz.out.lt; omega)))
                        have LB1 := Lib.hid (LBz.out.below HA1.out)
                        have SN1 := Lib.hid (sl_new STz.out b)
                        refine hK.out _ _ ⟨⟨cell_up HB1.out (by omega) SW.out.1, cell_up HB1.out (by omega) SW.out.2.1, cell_up HB1.out (by omega) SW.out.2.2⟩, fun _ => ST1.out.cells⟩ (fun hTill => ?_)
                        clear hK K
                        (try simp only [Act.put, List.getElem_toArray, List.getElem_cons_succ, List.getElem_cons_zero, List.setIfInBounds_toArray, List.set_cons_zero, List.set_cons_succ])
                        generalize wz.alloc (.cells #[.int .i64 b] 3) = W1 at *
                        generalize wz.heap.size = g1 at *
                        refine wpAnyL_two (i := 4) (j := 8) (by kernel_rfl) ?_ ?_
                        · refine lstep rfl (fun K hK => ?_)
                          refine step_append_any _ rfl (.tmp 156) (.tmp 158) 22 rfl T 3 i0 _ 1 8 Try.underlying22 hi0 hz0 hz1 hz2 rfl (by decide) (.slice xa na ca) arr.length (ints arr) (by rfl) ST1.out.o1 W1.heap.size (some ⟨g1, 0, none⟩) 1 1 [.int .i64 b] (by rfl) SN1.out.reads (by intro x hx; simp at hx; subst hx; rfl) (by rw [HA.out]; unfold maxLen; omega) (by rw [HA.out]; omega) (by have := ST1.out.lt; omega) ?_
                          intro v' W2 hown' hgrow hob
                          have ST2 := Lib.hid (ST1.out.app1 hown' hgrow hob)
                          have HB2 := Lib.hid (HB1.out.grown hgrow (by have := ST1.out.lt; omega) (fun g hg => (own_typed ST1.out.o1 hg).2))
                          have LB2 := Lib.hid (LB1.out.grown hgrow (own_row_typed ST1.out.o1 (by decide)))
                          obtain ⟨xv2, nv2, cv2, rfl⟩ := own_slice hown'
                          clear hown' hgrow hob
                          refine hK.out _ _ ⟨⟨cell_up HB2.out (by omega) SW.out.1, cell_up HB2.out (by omega) SW.out.2.1, cell_up HB2.out (by omega) SW.out.2.2⟩, fun _ => ST2.out.cells⟩ (fun hTill => ?_)
                          clear hK K
                          (try simp only [Act.put, List.getElem_toArray, List.getElem_cons_succ, List.getElem_cons_zero, List.setIfInBounds_toArray, List.set_cons_zero, List.set_cons_succ])
                          refine wpAnyL_take (i := 21) (v := ?_) rfl (by kernel_rfl) (by kernel_rfl) (by kernel_rfl) rfl (fun _ _ _ h => h) (gives_value (by rfl) ?_) (by assumption) ?_
                          rotate_left
                          · intro w hSw
                            (try dsimp only at hSw)
                            go_simp
                            (try with_reducible rfl)
                          intro hTill
                          (try simp only [Act.put, List.getElem_toArray, List.getElem_cons_succ, List.getElem_cons_zero, List.setIfInBounds_toArray, List.set_cons_zero, List.set_cons_succ])
                          refine wpAnyL_one (i := 8) (by kernel_rfl) ?_
                          refine lstep rfl (fun K hK => ?_)
                          go_simp
                          have HA3 := Lib.hid ((Below.refl _ _).alloc (Nat.le_refl _) (.cells #[.int .i64 (ld + sd)] 3) : Below W2.heap.size W2 _)
                          have ST3 := Lib.hid (ST2.out.below HA3.out)
                          have HB3 := Lib.hid (HB2.out.trans (HA3.out.mono (by have := ST2.out.lt; omega)))
                          have LB3 := Lib.hid (LB2.out.below HA3.out)
                          have SN3 := Lib.hid (sl_new ST2.out (ld + sd))
                          refine hK.out _ _ ⟨⟨cell_up HB3.out (by omega) SW.out.1, cell_up HB3.out (by omega) SW.out.2.1, cell_up HB3.out (by omega) SW.out.2.2⟩, fun _ => ST3.out.cells⟩ (fun hTill => ?_)
                          clear hK K
                          (try simp only [Act.put, List.getElem_toArray, List.getElem_cons_succ, List.getElem_cons_zero, List.setIfInBounds_toArray, List.set_cons_zero, List.set_cons_succ])
                          generalize W2.alloc (.cells #[.int .i64 (ld + sd)] 3) = W3 at *
                          generalize W2.heap.size = g3 at *
                          refine wpAnyL_one (i := 9) (by kernel_rfl) ?_
                          refine lstep rfl (fun K hK => ?_)
                          refine step_append_any _ rfl (.tmp 161) (.tmp 163) 22 rfl T 3 i0 _ 1 8 Try.underlying22 hi0 hz0 hz1 hz2 rfl (by decide) (.slice xl nl cl) load.length (ints load) (by rfl) ST3.out.o2 W3.heap.size (some ⟨g3, 0, none⟩) 1 1 [.int .i64 (ld + sd)] (by rfl) SN3.out.reads (by intro x hx; simp at hx; subst hx; rfl) (by rw [HLd.out]; unfold maxLen; omega) (by rw [HLd.out]; omega) (by have := ST3.out.lt; omega) ?_
                          intro v' W4 hown' hgrow hob
                          have ST4 := Lib.hid (ST3.out.app2 hown' hgrow hob)
                          have HB4 := Lib.hid (HB3.out.grown hgrow (by have := ST3.out.lt; omega) (fun g hg => (own_typed ST3.out.o2 hg).2))
                          have LB4 := Lib.hid (LB3.out.grown hgrow (own_row_typed ST3.out.o2 (by decide)))
                          obtain ⟨xv4, nv4, cv4, rfl⟩ := own_slice hown'
                          clear hown' hgrow hob
                          refine hK.out _ _ ⟨⟨cell_up HB4.out (by omega) SW.out.1, cell_up HB4.out (by omega) SW.out.2.1, cell_up HB4.out (by omega) SW.out.2.2⟩, fun _ => ST4.out.cells⟩ (fun hTill => ?_)
                          clear hK K
                          (try simp only [Act.put, List.getElem_toArray, List.getElem_cons_succ, List.getElem_cons_zero, List.setIfInBounds_toArray, List.set_cons_zero, List.set_cons_succ])
                          have c05 := ST4.out.cells.1
                          have c15 := ST4.out.cells.2.1
                          have c25 := ST4.out.cells.2.2
                          have f05 := ST4.out.thaw 0
                          have f15 := ST4.out.thaw 1
                          have f25 := ST4.out.thaw 2
                          have hTz5 := ST4.out.lt
                          have FIN := Lib.hid (ST4.out.fin (sum + y))
                          have HBF1 := Lib.hid (HB4.out.setCell (p := ⟨T, 0, none⟩) (Nat.le_refl _) (.slice xv2 nv2 cv2))
                          have HBF2 := Lib.hid (HBF1.out.setCell (p := ⟨T, 1, none⟩) (Nat.le_refl _) (.slice xv4 nv4 cv4))
                          have HBF3 := Lib.hid (HBF2.out.setCell (p := ⟨T, 2, none⟩) (Nat.le_refl _) (.int .i64 (sum + y)))
                          have LBF := Lib.hid (((LB4.out.other (R := T) (by omega) 0 (.slice xv2 nv2 cv2)).other (R := T) (by omega) 1 (.slice xv4 nv4 cv4)).other (R := T) (by omega) 2 (.int .i64 (sum + y)))
                          refine wpAnyL_one (i := 22) (by kernel_rfl) ?_
                          refine lstep rfl (fun K hK => ?_)
                          go_simp
                          refine hK.out _ _ ⟨⟨cell_up HBF1.out (by omega) SW.out.1, cell_up HBF1.out (by omega) SW.out.2.1, cell_up HBF1.out (by omega) SW.out.2.2⟩, fun h => absurd h (by decide)⟩ (fun hTill => ?_)
                          clear hK K
                          (try simp only [Act.put, List.getElem_toArray, List.getElem_cons_succ, List.getElem_cons_zero, List.setIfInBounds_toArray, List.set_cons_zero, List.set_cons_succ])
                          refine wpAnyL_take (i := 23) (v := ?_) rfl (by kernel_rfl) (by kernel_rfl) (by kernel_rfl) rfl (fun _ _ _ h => h) (gives_value (by rfl) ?_) (by assumption) ?_
                          rotate_left
                          · intro w hSw
                            (try dsimp only at hSw)
                            go_simp
                            (try with_reducible rfl)
                          intro hTill
                          (try simp only [Act.put, List.getElem_toArray, List.getElem_cons_succ, List.getElem_cons_zero, List.setIfInBounds_toArray, List.set_cons_zero, List.set_cons_succ])
                          refine wpAnyL_one (i := 24) (by kernel_rfl) ?_
                          refine lstep rfl (fun K hK => ?_)
                          go_simp
                          refine hK.out _ _ ⟨⟨cell_up HBF2.out (by omega) SW.out.1, cell_up HBF2.out (by omega) SW.out.2.1, cell_up HBF2.out (by omega) SW.out.2.2⟩, fun h => absurd h (by decide)⟩ (fun hTill => ?_)
                          clear hK K
                          (try simp only [Act.put, List.getElem_toArray, List.getElem_cons_succ, List.getElem_cons_zero, List.setIfInBounds_toArray, List.set_cons_zero, List.set_cons_succ])
                          refine wpAnyL_take (i := 25) (v := ?_) rfl (by kernel_rfl) (by kernel_rfl) (by kernel_rfl) rfl (fun _ _ _ h => h) (gives_value (by rfl) ?_) (by assumption) ?_
                          rotate_left
                          · intro w hSw
                            (try dsimp only at hSw)
                            go_simp
                            (try with_reducible rfl)
                          intro hTill
                          (try simp only [Act.put, List.getElem_toArray, List.getElem_cons_succ, List.getElem_cons_zero, List.setIfInBounds_toArray, List.set_cons_zero, List.set_cons_succ])
                          refine wpAnyL_one (i := 26) (by kernel_rfl) ?_
                          refine lstep rfl (fun K hK => ?_)
                          go_simp
                          refine hK.out _ _ ⟨⟨cell_up HBF3.out (by omega) SW.out.1, cell_up HBF3.out (by omega) SW.out.2.1, cell_up HBF3.out (by omega) SW.out.2.2⟩, fun h => absurd h (by decide)⟩ (fun hTill => ?_)
                          clear hK K
                          (try simp only [Act.put, List.getElem_toArray, List.getElem_cons_succ, List.getElem_cons_zero, List.setIfInBounds_toArray, List.set_cons_zero, List.set_cons_succ])
                          refine wpAnyL_done (by kernel_rfl) ?_ _
                          go_wp2_with fail
                          go_meet
                          exact ⟨rfl, _, _, FIN.out, HBF3.out, LBF.out⟩
                        · refine lstep rfl (fun K hK => ?_)
                          go_simp
                          have HA6 := Lib.hid ((Below.refl _ _).alloc (Nat.le_refl _) (.cells #[.int .i64 (ld + sd)] 3) : Below W1.heap.size W1 _)
                          have ST6 := Lib.hid (ST1.out.below HA6.out)
                          have HB6 := Lib.hid (HB1.out.trans (HA6.out.mono (by have := ST1.out.lt; omega)))
                          have LB6 := Lib.hid (LB1.out.below HA6.out)
                          have SN6 := Lib.hid (sl_new ST1.out (ld + sd))
                          have S16 := Lib.hid (SN1.out.below HA6.out)
                          refine hK.out _ _ ⟨⟨cell_up HB6.out (by omega) SW.out.1, cell_up HB6.out (by omega) SW.out.2.1, cell_up HB6.out (by omega) SW.out.2.2⟩, fun _ => ST6.out.cells⟩ (fun hTill => ?_)
                          clear hK K
                          (try simp only [Act.put, List.getElem_toArray, List.getElem_cons_succ, List.getElem_cons_zero, List.setIfInBounds_toArray, List.set_cons_zero, List.set_cons_succ])
                          generalize W1.alloc (.cells #[.int .i64 (ld + sd)] 3) = W6 at *
                          generalize W1.heap.size = g6 at *
                          refine wpAnyL_one (i := 4) (by kernel_rfl) ?_
                          refine lstep rfl (fun K hK => ?_)
                          refine step_append_any _ rfl (.tmp 156) (.tmp 158) 22 rfl T 3 i0 _ 1 8 Try.underlying22 hi0 hz0 hz1 hz2 rfl (by decide) (.slice xa na ca) arr.length (ints arr) (by rfl) ST6.out.o1 W6.heap.size (some ⟨g1, 0, none⟩) 1 1 [.int .i64 b] (by rfl) S16.out.reads (by intro x hx; simp at hx; subst hx; rfl) (by rw [HA.out]; unfold maxLen; omega) (by rw [HA.out]; omega) (by have := ST6.out.lt; omega) ?_
                          intro v' W7 hown' hgrow hob
                          have ST7 := Lib.hid (ST6.out.app1 hown' hgrow hob)
                          have HB7 := Lib.hid (HB6.out.grown hgrow (by have := ST6.out.lt; omega) (fun g hg => (own_typed ST6.out.o1 hg).2))
                          have LB7 := Lib.hid (LB6.out.grown hgrow (own_row_typed ST6.out.o1 (by decide)))
                          have S27 := Lib.hid (SN6.out.app1 hgrow hob)
                          obtain ⟨xv7, nv7, cv7, rfl⟩ := own_slice hown'
                          clear hown' hgrow hob
                          refine hK.out _ _ ⟨⟨cell_up HB7.out (by omega) SW.out.1, cell_up HB7.out (by omega) SW.out.2.1, cell_up HB7.out (by omega) SW.out.2.2⟩, fun _ => ST7.out.cells⟩ (fun hTill => ?_)
                          clear hK K
                          (try simp only [Act.put, List.getElem_toArray, List.getElem_cons_succ, List.getElem_cons_zero, List.setIfInBounds_toArray, List.set_cons_zero, List.set_cons_succ])
                          refine wpAnyL_take (i := 21) (v := ?_) rfl (by kernel_rfl) (by kernel_rfl) (by kernel_rfl) rfl (fun _ _ _ h => h) (gives_value (by rfl) ?_) (by assumption) ?_
                          rotate_left
                          · intro w hSw
                            (try dsimp only at hSw)
                            go_simp
                            (try with_reducible rfl)
                          intro hTill
                          (try simp only [Act.put, List.getElem_toArray, List.getElem_cons_succ, List.getElem_cons_zero, List.setIfInBounds_toArray, List.set_cons_zero, List.set_cons_succ])
                          refine wpAnyL_one (i := 9) (by kernel_rfl) ?_
                          refine lstep rfl (fun K hK => ?_)
                          refine step_append_any _ rfl (.tmp 161) (.tmp 163) 22 rfl T 3 i0 _ 1 8 Try.underlying22 hi0 hz0 hz1 hz2 rfl (by decide) (.slice xl nl cl) load.length (ints load) (by rfl) ST7.out.o2 W7.heap.size (some ⟨g6, 0, none⟩) 1 1 [.int .i64 (ld + sd)] (by rfl) S27.out.reads (by intro x hx; simp at hx; subst hx; rfl) (by rw [HLd.out]; unfold maxLen; omega) (by rw [HLd.out]; omega) (by have := ST7.out.lt; omega) ?_
                          intro v' W8 hown' hgrow hob
                          have ST8 := Lib.hid (ST7.out.app2 hown' hgrow hob)
                          have HB8 := Lib.hid (HB7.out.grown hgrow (by have := ST7.out.lt; omega) (fun g hg => (own_typed ST7.out.o2 hg).2))
                          have LB8 := Lib.hid (LB7.out.grown hgrow (own_row_typed ST7.out.o2 (by decide)))
                          obtain ⟨xv8, nv8, cv8, rfl⟩ := own_slice hown'
                          clear hown' hgrow hob
                          refine hK.out _ _ ⟨⟨cell_up HB8.out (by omega) SW.out.1, cell_up HB8.out (by omega) SW.out.2.1, cell_up HB8.out (by omega) SW.out.2.2⟩, fun _ => ST8.out.cells⟩ (fun hTill => ?_)
                          clear hK K
                          (try simp only [Act.put, List.getElem_toArray, List.getElem_cons_succ, List.getElem_cons_zero, List.setIfInBounds_toArray, List.set_cons_zero, List.set_cons_succ])
                          have c09 := ST8.out.cells.1
                          have c19 := ST8.out.cells.2.1
                          have c29 := ST8.out.cells.2.2
                          have f09 := ST8.out.thaw 0
                          have f19 := ST8.out.thaw 1
                          have f29 := ST8.out.thaw 2
                          have hTz9 := ST8.out.lt
                          have FIN := Lib.hid (ST8.out.fin (sum + y))
                          have HBF1 := Lib.hid (HB8.out.setCell (p := ⟨T, 0, none⟩) (Nat.le_refl _) (.slice xv7 nv7 cv7))
                          have HBF2 := Lib.hid (HBF1.out.setCell (p := ⟨T, 1, none⟩) (Nat.le_refl _) (.slice xv8 nv8 cv8))
                          have HBF3 := Lib.hid (HBF2.out.setCell (p := ⟨T, 2, none⟩) (Nat.le_refl _) (.int .i64 (sum + y)))
                          have LBF := Lib.hid (((LB8.out.other (R := T) (by omega) 0 (.slice xv7 nv7 cv7)).other (R := T) (by omega) 1 (.slice xv8 nv8 cv8)).other (R := T) (by omega) 2 (.int .i64 (sum + y)))
                          refine wpAnyL_one (i := 22) (by kernel_rfl) ?_
                          refine lstep rfl (fun K hK => ?_)
                          go_simp
                          refine hK.out _ _ ⟨⟨cell_up HBF1.out (by omega) SW.out.1, cell_up HBF1.out (by omega) SW.out.2.1, cell_up HBF1.out (by omega) SW.out.2.2⟩, fun h => absurd h (by decide)⟩ (fun hTill => ?_)
                          clear hK K
                          (try simp only [Act.put, List.getElem_toArray, List.getElem_cons_succ, List.getElem_cons_zero, List.setIfInBounds_toArray, List.set_cons_zero, List.set_cons_succ])
                          refine wpAnyL_take (i := 23) (v := ?_) rfl (by kernel_rfl) (by kernel_rfl) (by kernel_rfl) rfl (fun _ _ _ h => h) (gives_value (by rfl) ?_) (by assumption) ?_
                          rotate_left
                          · intro w hSw
                            (try dsimp only at hSw)
                            go_simp
                            (try with_reducible rfl)
                          intro hTill
                          (try simp only [Act.put, List.getElem_toArray, List.getElem_cons_succ, List.getElem_cons_zero, List.setIfInBounds_toArray, List.set_cons_zero, List.set_cons_succ])
                          refine wpAnyL_one (i := 24) (by kernel_rfl) ?_
                          refine lstep rfl (fun K hK => ?_)
                          go_simp
                          refine hK.out _ _ ⟨⟨cell_up HBF2.out (by omega) SW.out.1, cell_up HBF2.out (by omega) SW.out.2.1, cell_up HBF2.out (by omega) SW.out.2.2⟩, fun h => absurd h (by decide)⟩ (fun hTill => ?_)
                          clear hK K
                          (try simp only [Act.put, List.getElem_toArray, List.getElem_cons_succ, List.getElem_cons_zero, List.setIfInBounds_toArray, List.set_cons_zero, List.set_cons_succ])
                          refine wpAnyL_take (i := 25) (v := ?_) rfl (by kernel_rfl) (by kernel_rfl) (by kernel_rfl) rfl (fun _ _ _ h => h) (gives_value (by rfl) ?_) (by assumption) ?_
                          rotate_left
                          · intro w hSw
                            (try dsimp only at hSw)
                            go_simp
                            (try with_reducible rfl)
                          intro hTill
                          (try simp only [Act.put, List.getElem_toArray, List.getElem_cons_succ, List.getElem_cons_zero, List.setIfInBounds_toArray, List.set_cons_zero, List.set_cons_succ])
                          refine wpAnyL_one (i := 26) (by kernel_rfl) ?_
                          refine lstep rfl (fun K hK => ?_)
                          go_simp
                          refine hK.out _ _ ⟨⟨cell_up HBF3.out (by omega) SW.out.1, cell_up HBF3.out (by omega) SW.out.2.1, cell_up HBF3.out (by omega) SW.out.2.2⟩, fun h => absurd h (by decide)⟩ (fun hTill => ?_)
                          clear hK K
                          (try simp only [Act.put, List.getElem_toArray, List.getElem_cons_succ, List.getElem_cons_zero, List.setIfInBounds_toArray, List.set_cons_zero, List.set_cons_succ])
                          refine wpAnyL_done (by kernel_rfl) ?_ _
                          go_wp2_with fail
                          go_meet
                          exact ⟨rfl, _, _, FIN.out, HBF3.out, LBF.out⟩
                      · refine lstep rfl (fun K hK => ?_)
                        go_simp
                        have HA10 := Lib.hid ((Below.refl _ _).alloc (Nat.le_refl _) (.cells #[.int .i64 (ld + sd)] 3) : Below wz.heap.size wz _)
                        have ST10 := Lib.hid (STz.out.below HA10.out)
                        have HB10 := Lib.hid (HBz.out.trans (HA10.out.mono (by have := STz.out.lt; omega)))
                        have LB10 := Lib.hid (LBz.out.below HA10.out)
                        have SN10 := Lib.hid (sl_new STz.out (ld + sd))
                        refine hK.out _ _ ⟨⟨cell_up HB10.out (by omega) SW.out.1, cell_up HB10.out (by omega) SW.out.2.1, cell_up HB10.out (by omega) SW.out.2.2⟩, fun _ => ST10.out.cells⟩ (fun hTill => ?_)
                        clear hK K
                        (try simp only [Act.put, List.getElem_toArray, List.getElem_cons_succ, List.getElem_cons_zero, List.setIfInBounds_toArray, List.set_cons_zero, List.set_cons_succ])
                        generalize wz.alloc (.cells #[.int .i64 (ld + sd)] 3) = W10 at *
                        generalize wz.heap.size = g10 at *
                        refine wpAnyL_one (i := 3) (by kernel_rfl) ?_
                        refine lstep rfl (fun K hK => ?_)
                        go_simp
                        have HA11 := Lib.hid ((Below.refl _ _).alloc (Nat.le_refl _) (.cells #[.int .i64 b] 3) : Below W10.heap.size W10 _)
                        have ST11 := Lib.hid (ST10.out.below HA11.out)
                        have HB11 := Lib.hid (HB10.out.trans (HA11.out.mono (by have := ST10.out.lt; omega)))
                        have LB11 := Lib.hid (LB10.out.below HA11.out)
                        have SN11 := Lib.hid (sl_new ST10.out b)
                        have S211 := Lib.hid (SN10.out.below HA11.out)
                        refine hK.out _ _ ⟨⟨cell_up HB11.out (by omega) SW.out.1, cell_up HB11.out (by omega) SW.out.2.1, cell_up HB11.out (by omega) SW.out.2.2⟩, fun _ => ST11.out.cells⟩ (fun hTill => ?_)
                        clear hK K
                        (try simp only [Act.put, List.getElem_toArray, List.getElem_cons_succ, List.getElem_cons_zero, List.setIfInBounds_toArray, List.set_cons_zero, List.set_cons_succ])
                        generalize W10.alloc (.cells #[.int .i64 b] 3) = W11 at *
                        generalize W10.heap.size = g11 at *
                        refine wpAnyL_one (i := 4) (by kernel_rfl) ?_
                        refine lstep rfl (fun K hK => ?_)
                        refine step_append_any _ rfl (.tmp 156) (.tmp 158) 22 rfl T 3 i0 _ 1 8 Try.underlying22 hi0 hz0 hz1 hz2 rfl (by decide) (.slice xa na ca) arr.length (ints arr) (by rfl) ST11.out.o1 W11.heap.size (some ⟨g11, 0, none⟩) 1 1 [.int .i64 b] (by rfl) SN11.out.reads (by intro x hx; simp at hx; subst hx; rfl) (by rw [HA.out]; unfold maxLen; omega) (by rw [HA.out]; omega) (by have := ST11.out.lt; omega) ?_
                        intro v' W12 hown' hgrow hob
                        have ST12 := Lib.hid (ST11.out.app1 hown' hgrow hob)
                        have HB12 := Lib.hid (HB11.out.grown hgrow (by have := ST11.out.lt; omega) (fun g hg => (own_typed ST11.out.o1 hg).2))
                        have LB12 := Lib.hid (LB11.out.grown hgrow (own_row_typed ST11.out.o1 (by decide)))
                        have S212 := Lib.hid (S211.out.app1 hgrow hob)
                        obtain ⟨xv12, nv12, cv12, rfl⟩ := own_slice hown'
                        clear hown' hgrow hob
                        refine hK.out _ _ ⟨⟨cell_up HB12.out (by omega) SW.out.1, cell_up HB12.out (by omega) SW.out.2.1, cell_up HB12.out (by omega) SW.out.2.2⟩, fun _ => ST12.out.cells⟩ (fun hTill => ?_)
                        clear hK K
                        (try simp only [Act.put, List.getElem_toArray, List.getElem_cons_succ, List.getElem_cons_zero, List.setIfInBounds_toArray, List.set_cons_zero, List.set_cons_succ])
                        refine wpAnyL_take (i := 21) (v := ?_) rfl (by kernel_rfl) (by kernel_rfl) (by kernel_rfl) rfl (fun _ _ _ h => h) (gives_value (by rfl) ?_) (by assumption) ?_
                        rotate_left
                        · intro w hSw
                          (try dsimp only at hSw)
                          go_simp
                          (try with_reducible rfl)
                        intro hTill
                        (try simp only [Act.put, List.getElem_toArray, List.getElem_cons_succ, List.getElem_cons_zero, List.setIfInBounds_toArray, List.set_cons_zero, List.set_cons_succ])
                        refine wpAnyL_one (i := 9) (by kernel_rfl) ?_
                        refine lstep rfl (fun K hK => ?_)
                        refine step_append_any _ rfl (.tmp 161) (.tmp 163) 22 rfl T 3 i0 _ 1 8 Try.underlying22 hi0 hz0 hz1 hz2 rfl (by decide) (.slice xl nl cl) load.length (ints load) (by rfl) ST12.out.o2 W12.heap.size (some ⟨g10, 0, none⟩) 1 1 [.int .i64 (ld + sd)] (by rfl) S212.out.reads (by intro x hx; simp at hx; subst hx; rfl) (by rw [HLd.out]; unfold maxLen; omega) (by rw [HLd.out]; omega) (by have := ST12.out.lt; omega) ?_
                        intro v' W13 hown' hgrow hob
                        have ST13 := Lib.hid (ST12.out.app2 hown' hgrow hob)
                        have HB13 := Lib.hid (HB12.out.grown hgrow (by have := ST12.out.lt; omega) (fun g hg => (own_typed ST12.out.o2 hg).2))
                        have LB13 := Lib.hid (LB12.out.grown hgrow (own_row_typed ST12.out.o2 (by decide)))
                        obtain ⟨xv13, nv13, cv13, rfl⟩ := own_slice hown'
                        clear hown' hgrow hob
                        refine hK.out _ _ ⟨⟨cell_up HB13.out (by omega) SW.out.1, cell_up HB13.out (by omega) SW.out.2.1, cell_up HB13.out (by omega) SW.out.2.2⟩, fun _ => ST13.out.cells⟩ (fun hTill => ?_)
                        clear hK K
                        (try simp only [Act.put, List.getElem_toArray, List.getElem_cons_succ, List.getElem_cons_zero, List.setIfInBounds_toArray, List.set_cons_zero, List.set_cons_succ])
                        have c014 := ST13.out.cells.1
                        have c114 := ST13.out.cells.2.1
                        have c214 := ST13.out.cells.2.2
                        have f014 := ST13.out.thaw 0
                        have f114 := ST13.out.thaw 1
                        have f214 := ST13.out.thaw 2
                        have hTz14 := ST13.out.lt
                        have FIN := Lib.hid (ST13.out.fin (sum + y))
                        have HBF1 := Lib.hid (HB13.out.setCell (p := ⟨T, 0, none⟩) (Nat.le_refl _) (.slice xv12 nv12 cv12))
                        have HBF2 := Lib.hid (HBF1.out.setCell (p := ⟨T, 1, none⟩) (Nat.le_refl _) (.slice xv13 nv13 cv13))
                        have HBF3 := Lib.hid (HBF2.out.setCell (p := ⟨T, 2, none⟩) (Nat.le_refl _) (.int .i64 (sum + y)))
                        have LBF := Lib.hid (((LB13.out.other (R := T) (by omega) 0 (.slice xv12 nv12 cv12)).other (R := T) (by omega) 1 (.slice xv13 nv13 cv13)).other (R := T) (by omega) 2 (.int .i64 (sum + y)))
                        refine wpAnyL_one (i := 22) (by kernel_rfl) ?_
                        refine lstep rfl (fun K hK => ?_)
                        go_simp
                        refine hK.out _ _ ⟨⟨cell_up HBF1.out (by omega) SW.out.1, cell_up HBF1.out (by omega) SW.out.2.1, cell_up HBF1.out (by omega) SW.out.2.2⟩, fun h => absurd h (by decide)⟩ (fun hTill => ?_)
                        clear hK K
                        (try simp only [Act.put, List.getElem_toArray, List.getElem_cons_succ, List.getElem_cons_zero, List.setIfInBounds_toArray, List.set_cons_zero, List.set_cons_succ])
                        refine wpAnyL_take (i := 23) (v := ?_) rfl (by kernel_rfl) (by kernel_rfl) (by kernel_rfl) rfl (fun _ _ _ h => h) (gives_value (by rfl) ?_) (by assumption) ?_
                        rotate_left
                        · intro w hSw
                          (try dsimp only at hSw)
                          go_simp
                          (try with_reducible rfl)
                        intro hTill
                        (try simp only [Act.put, List.getElem_toArray, List.getElem_cons_succ, List.getElem_cons_zero, List.setIfInBounds_toArray, List.set_cons_zero, List.set_cons_succ])
                        refine wpAnyL_one (i := 24) (by kernel_rfl) ?_
                        refine lstep rfl (fun K hK => ?_)
                        go_simp
                        refine hK.out _ _ ⟨⟨cell_up HBF2.out (by omega) SW.out.1, cell_up HBF2.out (by omega) SW.out.2.1, cell_up HBF2.out (by omega) SW.out.2.2⟩, fun h => absurd h (by decide)⟩ (fun hTill => ?_)
                        clear hK K
                        (try simp only [Act.put, List.getElem_toArray, List.getElem_cons_succ, List.getElem_cons_zero, List.setIfInBounds_toArray, List.set_cons_zero, List.set_cons_succ])
                        refine wpAnyL_take (i := 25) (v := ?_) rfl (by kernel_rfl) (by kernel_rfl) (by kernel_rfl) rfl (fun _ _ _ h => h) (gives_value (by rfl) ?_) (by assumption) ?_
                        rotate_left
                        · intro w hSw
                          (try dsimp only at hSw)
                          go_simp
                          (try with_reducible rfl)
                        intro hTill
                        (try simp only [Act.put, List.getElem_toArray, List.getElem_cons_succ, List.getElem_cons_zero, List.setIfInBounds_toArray, List.set_cons_zero, List.set_cons_succ])
                        refine wpAnyL_one (i := 26) (by kernel_rfl) ?_
                        refine lstep rfl (fun K hK => ?_)
                        go_simp
                        refine hK.out _ _ ⟨⟨cell_up HBF3.out (by omega) SW.out.1, cell_up HBF3.out (by omega) SW.out.2.1, cell_up HBF3.out (by omega) SW.out.2.2⟩, fun h => absurd h (by decide)⟩ (fun hTill => ?_)
                        clear hK K
                        (try simp only [Act.put, List.getElem_toArray, List.getElem_cons_succ, List.getElem_cons_zero, List.setIfInBounds_toArray, List.set_cons_zero, List.set_cons_succ])
                        refine wpAnyL_done (by kernel_rfl) ?_ _
                        go_wp2_with fail
                        go_meet
                        exact ⟨rfl, _, _, FIN.out, HBF3.out, LBF.out⟩
                    case rest =>
                      obtain ⟨rfl, va', vl', htb, hbt, hlb⟩ := hcut
                      have TBn := Lib.hid htb
                      have HBn := Lib.hid hbt
                      have b3 := hlb.1.c3
                      have hzn := hlb.1.1
                      clear htb hbt hlb
                      go_wp2
                      go_roundw
                      case rel => exact ⟨k + 1, p + 1, b + ss, ld + sd, sum + y, arr ++ [b], load ++ [ld + sd], va', vl', by omega, by omega, by go_num, by go_num, by go_num, by go_num, by omega, by omega, by omega, by omega, by omega, by omega, by rw [List.length_append, HA.out]; rfl, by rw [List.length_append, HLd.out]; rfl, by rw [HE.out, more_more]; simp only [Int.natCast_add, Int.natCast_one], by rw [HCO.out]; simp only [Int.natCast_add, Int.natCast_one]; omega, TBn.out, HBn.out⟩
                      case measure => simp [intOf]; omega
              · have : l.drop k = [] := List.drop_eq_nil_of_le (by omega)
                rw [this] at he HCO
                have hwb := way_boundsW HF.out (q : Int) 0
                obtain ⟨X1, y1, B1, o1, X2, y2, B2, o2, rfl, rfl, hB1, d1, rfl, hB2, d2⟩ := HTR.out.wayW HF.out (a := q) (b := 0) hq (by omega)
                simp only [Int.natCast_zero, Nat.add_zero] at d2
                replace d1 := cell_up HBW.out hB1 d1
                replace d2 := cell_up HBW.out hB2 d2
                have hB1T : B1 < T := by omega
                have hB2T : B2 < T := by omega
                have hB1r : B1 < wr.heap.size := by omega
                have hB2r : B2 < wr.heap.size := by omega
                have HE := Lib.hid he
                clear he this
                simp only [driveL] at HE
                simp only [costL] at HCO
                generalize way i (q : Int) 0 = y at *
                have q3 := TBr.out.cells.2.2.2.1
                have qf := TBr.out.cells.2.2.2.2 3
                have TBh := Lib.hid (TBr.out.put_home (left + y))
                have HBh := Lib.hid (HBT.out.setCell (p := ⟨T, 3, none⟩) (Nat.le_refl _) (.int .i64 (left + y)))
                have HBs := Lib.hid ((Below.refl T wr).setCell (p := ⟨T, 3, none⟩) (Nat.le_refl _) (.int .i64 (left + y)))
                go_upto_region 34 with (fail)
                have t2 := TBh.out.cells.2.2.1
                have tf := TBh.out.cells.2.2.2.2 2
                replace e3 := cell_up HBs.out hST e3
                replace d1 := cell_up HBs.out hB1T d1
                replace d2 := cell_up HBs.out hB2T d2
                generalize wr.setCell ⟨T, 3, none⟩ (.int .i64 (left + y)) = wa at *
                have TBc := Lib.hid ((TBh.out.below ((Below.refl _ _).drew)).put_cost (sum + y))
                have HBc := Lib.hid (HBh.out.drew.setCell (p := ⟨T, 2, none⟩) (Nat.le_refl _) (.int .i64 (sum + y)))
                have fy : IntKind.i64.wrap (sum + y) = sum + y := IntWalk.i64_in _ (by omega)
                have z1 : (q : Int) < (i.stops.length : Int) + 1 := by omega
                have z2 : (0 : Int) < (i.stops.length : Int) + 1 := by omega
                have hTa := TBh.out.lt
                refine wp_region_still_tail 11 (by kernel_rfl) (by kernel_rfl) ?_
                simp only [List.take_succ_cons, List.take_zero, List.drop_succ_cons, List.drop_zero]
                change wpStill _ _ wa.drew (fun a' => wpList _ _ _ _ a' wa.drew) _ _
                replace t2 := (show wa.drew.cell? ⟨T, 2, none⟩ = _ from t2)
                replace tf := (show wa.drew.frozen? ⟨T, 2, none⟩ = _ from tf)
                replace e3 := (show wa.drew.cell? ⟨w.heap.size, 3, none⟩ = _ from e3)
                replace d1 := (show wa.drew.cell? ⟨B1, o1 + q, none⟩ = _ from d1)
                replace d2 := (show wa.drew.cell? ⟨B2, o2, none⟩ = _ from d2)
                replace hTa : T < wa.drew.heap.size := hTa
                generalize wa.drew = wd at *
                repeat still_step
                refine wpStill_nil ?_
                go_upto_region 35 with (fail)
                generalize wd.setCell ⟨T, 2, none⟩ (.int .i64 (sum + y)) = we at *
                have HBwe : Hid (Below w.heap.size w we) := HBw0.out.trans (HBc.out.mono (by omega))
                have BXe := Lib.hid (BX0.out.keep HBc.out hST)
                have BRe := Lib.hid (BR0.out.keep HBc.out hRT)
                have t3 := TBc.out.cells.2.2.2.1
                have hTe := TBc.out.lt
                have m0 := BXe.out.c0
                have hze := BXe.out.1
                have hBCe : BC < we.heap.size := Nat.lt_of_lt_of_le hBC HBwe.out.size
                have m2 := cell_up HBwe.out hBC QC.out.2.2
                have z3 : (cn : Int) < (i.cars.length : Int) := by omega
                have z4 : (0 : Int) ≤ (cn : Int) := by omega
                clear t2 tf e0 e1 e3 q0 q2 d1 d2 q3 qf TBh HBh HBs TBr HBT BXr BRr
                have HCC : Hid (costL i 0 l = sum + y) := HCO.out
                go_quiet (fail)
                obtain ⟨r0, r1, r2, r3, f0, f1, f2, f3⟩ := nil4 BRe.out
                have hRze := BRe.out.1
                by_cases hbad : cr.e < left + y
                · rw [if_pos hbad] at HE
                  have HN : Hid (evalL i (cn : Int) l = none) := by show _ = _; rw [HEV.out]; unfold tripOf; rw [HE.out]; rfl
                  go_wp2
                  refine bodyPost_ret (v := .tuple #[.agg #[.slice none 0 0, .slice none 0 0, .int .i64 0, .int .i64 0], .bool false]) (by simp [results, Try.results13, go_sem, r0, r1, r2, r3]) rfl ⟨?_, .inl ⟨HN.out, rfl⟩⟩
                  exact ((((below_draws' HBwe.out nq).setCell (p := ⟨R, 0, none⟩) hRw _).setCell (p := ⟨R, 1, none⟩) hRw _).setCell (p := ⟨R, 2, none⟩) hRw _).setCell (p := ⟨R, 3, none⟩) hRw _
                · rw [if_neg hbad] at HE
                  have HN : Hid (evalL i (cn : Int) l = some ⟨arr, load, sum + y, left + y⟩) := by show _ = _; rw [HEV.out]; unfold tripOf; rw [HE.out, HCC.out]; simp [Drive.more]
                  clear HE
                  have hng : decide (left + y > cr.e) = false := by simp; omega
                  obtain ⟨t0, t1, t2, _, _⟩ := TBc.out.cells
                  have TBq := Lib.hid (TBc.out.below (below_draws' (Below.refl _ _) nq))
                  have TB7 := Lib.hid ((((TBq.out.low hRT hRT 0 va).low hRT hRT 1 vl).low hRT hRT 2 (.int .i64 (sum + y))).low hRT hRT 3 (.int .i64 (left + y)))
                  obtain ⟨xa, na, ca, rfl⟩ := own_slice TBc.out.arr
                  obtain ⟨xl, nl, cl, rfl⟩ := own_slice TBc.out.load
                  obtain ⟨X3, C3, hv1, hle1, hr1, hfr1⟩ := own_nums TB7.out.arr
                  obtain ⟨X4, C4, hv2, hle2, hr2, hfr2⟩ := own_nums TB7.out.load
                  injection hv1 with h1 h2 h3
                  subst h1 h2 h3
                  injection hv2 with h1 h2 h3
                  subst h1 h2 h3
                  have RR := Lib.hid (And.intro hr1 hr2)
                  have RF := Lib.hid (And.intro hfr1 hfr2)
                  clear hr1 hr2 hfr1 hfr2
                  go_wp2
                  refine bodyPost_ret (v := .tuple #[.agg #[.slice xa arr.length ca, .slice xl load.length cl, .int .i64 (sum + y), .int .i64 (left + y)], .bool true]) (by simp [results, Try.results13, go_sem, r0, r1, r2, r3]) rfl ⟨?_, .inr ⟨⟨arr, load, sum + y, left + y⟩, xa, ca, xl, cl, HN.out, rfl, hle1, hle2, RR.out.1, RR.out.2, RF.out.1.mono (by omega), RF.out.2.mono (by omega)⟩⟩
                  exact ((((below_draws' HBwe.out nq).setCell (p := ⟨R, 0, none⟩) hRw _).setCell (p := ⟨R, 1, none⟩) hRw _).setCell (p := ⟨R, 2, none⟩) hRw _).setCell (p := ⟨R, 3, none⟩) hRw _
end Go.Proofs.Ytkheepedjoimmaa
