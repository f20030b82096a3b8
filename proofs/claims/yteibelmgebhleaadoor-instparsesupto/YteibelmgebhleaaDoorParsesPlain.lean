/- Bytes in memory, whichever they are: a text made bytes, bytes made a text, a text laid behind bytes. -/
import Derived.Test.YteibelmgebhleaaDoorRefParse
import Derived.Lib.ConvBytes
import Derived.Lib.FrozenHead
import Derived.Laws.BytesArg
namespace Go.Proofs.YteibelmgebhleaaDoor
open Go.RowKit
set_option maxRecDepth 100000

/-- n bytes, whichever they are, in blocks from B0 on -/
def BytesAt (W : World) (B0 : Nat) (v : Value) (n : Nat) : Prop :=
  ∃ A cap, v = .slice A n cap ∧ n ≤ cap ∧ ∀ k, k < n → ∃ g o, A = some ⟨g, o, none⟩ ∧ B0 ≤ g ∧ g < W.heap.size ∧ ∃ x, W.cell? ⟨g, o + k, none⟩ = some (.int .u8 x)
theorem BytesAt.below {W W' : World} {B0 : Nat} {v : Value} {n : Nat} (h : BytesAt W B0 v n) (hb : Below W.heap.size W W') : BytesAt W' B0 v n := by
  obtain ⟨A, cap, rfl, hc, h⟩ := h
  refine ⟨A, cap, rfl, hc, fun k hk => ?_⟩
  obtain ⟨g, o, e, h1, h2, x, hx⟩ := h k hk
  exact ⟨g, o, e, h1, Nat.lt_of_lt_of_le h2 hb.size, x, by rw [hb.cell h2]; exact hx⟩
theorem BytesAt.set {W : World} {B0 : Nat} {v : Value} {n : Nat} (h : BytesAt W B0 v n) {a : Addr} {z : Value} (ha : W.cell? a = some z) (y : Int) : BytesAt (W.setCell a (.int .u8 y)) B0 v n := by
  obtain ⟨A, cap, rfl, hc, h⟩ := h
  refine ⟨A, cap, rfl, hc, fun k hk => ?_⟩
  obtain ⟨g, o, e, h1, h2, x, hx⟩ := h k hk
  refine ⟨g, o, e, h1, by simpa using h2, ?_⟩
  by_cases e' : (⟨g, o + k, none⟩ : Addr) = a
  · subst e'; exact ⟨y, World.cell?_setCell_same _ _ _ ha⟩
  · exact ⟨x, by rw [World.cell?_setCell_other _ _ _ _ (fun h => e' h.symm)]; exact hx⟩
/-- the texts that bytes make -/
theorem BytesAt.text {W : World} {B0 : Nat} {A : Option Addr} {n cap : Nat} (h : BytesAt W B0 (.slice A n cap) n) : ∃ x : ByteArray, x.size = n ∧ (convert 50 9 (.slice A n cap)).run Tryd.prog W = .ok (.string x) W := by
  obtain ⟨A', cap', e, _, h⟩ := h
  injection e with e1 _ e2
  subst e1 e2
  by_cases h0 : n = 0
  · subst h0
    cases A with
    | none => exact ⟨_, rfl, run_convert_bytes_nil W 50 5 Tryd.underlying50 Tryd.underlying5 0 cap _ Tryd.underlying9⟩
    | some a =>
      refine ⟨⟨([] : List UInt8).toArray⟩, rfl, ?_⟩
      have := run_convert_bytes_back (P := Tryd.prog) W 50 9 5 a cap [] Tryd.underlying50 Tryd.underlying5 Tryd.underlying9 (fun j hj => absurd hj (by simp))
      exact this
  · obtain ⟨g, o, hA, _⟩ := h 0 (by omega)
    subst hA
    have h' : ∀ k : Nat, ∃ x : Int, k < n → W.cell? ⟨g, o + k, none⟩ = some (.int .u8 x) := by
      intro k
      by_cases hk : k < n
      · obtain ⟨g', o', e, _, _, x, hx⟩ := h k hk
        obtain ⟨rfl, rfl⟩ : g = g' ∧ o = o' := by simpa using e
        exact ⟨x, fun _ => hx⟩
      · exact ⟨0, fun h => absurd h hk⟩
    obtain ⟨f, hf⟩ := Classical.axiomOfChoice h'
    refine ⟨strOfNums ((List.range n).map f), by simp [strOfNums_size], ?_⟩
    refine run_convert_bytes_arg W 50 5 Tryd.underlying50 Tryd.underlying5 g o n cap ((List.range n).map f) (by simp) (fun i hi => ?_) _ Tryd.underlying9
    rw [hf i hi]
    simp [List.getD, hi]
theorem BytesAt.cut {W : World} {B0 : Nat} {A : Option Addr} {n cap k : Nat} (h : BytesAt W B0 (.slice A n cap) n) (hk : k ≤ n) : BytesAt W B0 (.slice A k cap) k := by
  obtain ⟨A', cap', e, hc, h⟩ := h
  injection e with e1 _ e2
  subst e1 e2
  exact ⟨A, cap, rfl, by omega, fun j hj => h j (by omega)⟩
theorem byte_info : (Tryd.prog.info? 5).map (fun i => (i.zero, i.size, i.bytes)) = some (some (.int .u8 0), 1, 1) := by kernel_rfl
theorem own_bytes {w : World} {B : Nat} {v : Value} {n : Nat} {xs : List Value} (h : w.ownsRow B 5 1 v n xs) (hx : ∀ u ∈ xs, ∃ y, u = .int .u8 y) : BytesAt w B v n := by
  obtain ⟨A, cap, rfl, hc⟩ := own_get h
  have hcap : n ≤ cap := by
    rcases h.2 with ⟨hv, _⟩ | ⟨g', cap', cur, hv, _, _, hnc, _⟩
    · injection hv with _ h1 h2; omega
    · injection hv with _ _ h2; omega
  have hl := h.1
  refine ⟨A, cap, rfl, hcap, fun k hk => ?_⟩
  obtain ⟨g, rfl, hg, hcell⟩ := hc (by omega)
  have hkx : k < xs.length := by omega
  obtain ⟨y, hy⟩ := hx _ (List.getElem_mem hkx)
  refine ⟨g, 0, rfl, (own_typed h (g := g) rfl).2, hg, y, ?_⟩
  rw [Nat.zero_add, hcell k _ (List.getElem?_eq_getElem hkx), hy]
theorem BytesAt.reads {W : World} {B0 : Nat} {A : Option Addr} {n cap : Nat} (h : BytesAt W B0 (.slice A n cap) n) : ∃ xs, Reads W W.heap.size 1 A n xs ∧ (∀ u ∈ xs, ∃ y, u = .int .u8 y) ∧ xs.length = n := by
  obtain ⟨A', cap', e, _, h⟩ := h
  injection e with e1 _ e2
  subst e1 e2
  have h' : ∀ k : Nat, ∃ x : Int, k < n → ∃ g o, A = some ⟨g, o, none⟩ ∧ g < W.heap.size ∧ W.cell? ⟨g, o + k, none⟩ = some (.int .u8 x) := by
    intro k
    by_cases hk : k < n
    · obtain ⟨g', o', e, _, h2, x, hx⟩ := h k hk
      exact ⟨x, fun _ => ⟨g', o', e, h2, hx⟩⟩
    · exact ⟨0, fun h => absurd h hk⟩
  obtain ⟨f, hf⟩ := Classical.axiomOfChoice h'
  refine ⟨(List.range n).map (fun k => .int .u8 (f k)), ⟨by simp, fun hn => ?_⟩, fun u hu => ?_, by simp⟩
  · obtain ⟨g, o, rfl, hg, _⟩ := hf 0 hn
    refine ⟨⟨g, o, none⟩, rfl, hg, fun j u hu => ?_⟩
    have hj : j < n := by
      rcases Nat.lt_or_ge j n with h | h
      · exact h
      · rw [List.getElem?_eq_none (by simpa using h)] at hu; cases hu
    obtain ⟨g', o', e, _, hx⟩ := hf j hj
    obtain ⟨rfl, rfl⟩ : g = g' ∧ o = o' := by simpa using e
    have ha : (⟨g, o, none⟩ : Addr).add j = ⟨g, o + j, none⟩ := by unfold Addr.add; split <;> simp_all
    rw [ha, hx]
    simpa [hj] using hu
  · obtain ⟨k, _, rfl⟩ := List.mem_map.1 hu
    exact ⟨_, rfl⟩
theorem bytes_below (w : World) (s : ByteArray) : Below w.heap.size w (Lib.bytesWorld w 5 s) :=
  ⟨rfl, rfl, rfl, by rw [Lib.bytesWorld_size]; omega, fun i hi => Lib.bytesWorld_at_old w 5 s i hi⟩
/-- a text as bytes: a row of its own, whose mark lies behind it -/
def Marked (W : World) (g cap n : Nat) : Prop := ∃ cur fz, W.heap[g]? = some (.cells cur 5 fz) ∧ cur.size ≤ fz.1 ∧ cur.size = cap ∧ n ≤ cap ∧ ∀ k, k < n → ∃ x, cur.toList[k]? = some (.int .u8 x)
theorem marked_new (w : World) (s : ByteArray) : Marked (Lib.bytesWorld w 5 s) w.heap.size (grownCap w s.size 0 5) s.size := by
  have hge := grownCap_ge w s.size 0 5
  have hds : s.data.size = s.size := rfl
  refine ⟨Lib.bytesCells w 5 s, _, Lib.bytesWorld_at_new w 5 s, Nat.le_refl _, ?_, hge, fun k hk => ?_⟩
  · simp [Lib.bytesCells]; omega
  · refine ⟨(s.data[k]'(by omega)).toNat, ?_⟩
    simp only [Lib.bytesCells, Array.toList_append]
    rw [List.getElem?_append_left (by simp; omega)]
    simp [hk, hds]
theorem Marked.bytes {W : World} {g cap n : Nat} (h : Marked W g cap n) {B0 : Nat} (hB : B0 ≤ g) : BytesAt W B0 (.slice (some ⟨g, 0, none⟩) n cap) n := by
  obtain ⟨cur, fz, hg, _, _, hn, hc⟩ := h
  refine ⟨_, _, rfl, hn, fun k hk => ⟨g, 0, rfl, hB, (Array.getElem?_eq_some_iff.1 hg).1, ?_⟩⟩
  obtain ⟨x, hx⟩ := hc k hk
  exact ⟨x, by rw [Nat.zero_add, Lib.cell_of_heap hg]; simpa using hx⟩
theorem Marked.thaw {W : World} {g cap n : Nat} (h : Marked W g cap n) {k : Nat} (hk : k < cap) : W.frozen? ⟨g, k, none⟩ = false := by
  obtain ⟨cur, fz, hg, hf, hs, _, _⟩ := h
  obtain ⟨lo, hi⟩ := fz
  simp only [World.frozen?, hg, Bool.and_eq_false_iff, decide_eq_false_iff_not]
  left
  simp only at hf
  omega
theorem Marked.below {W W' : World} {g cap n : Nat} (h : Marked W g cap n) (hb : Below W.heap.size W W') : Marked W' g cap n := by
  obtain ⟨cur, fz, hg, r⟩ := h
  exact ⟨cur, fz, by rw [hb.block g (Array.getElem?_eq_some_iff.1 hg).1]; exact hg, r⟩
/-- cells stored where no mark lies -/
theorem store_marked (P : Program) (g o : Nat) (t : TypeId) (fz : Nat × Nat) : ∀ (vs : List Value) (i : Nat) (cur : Array Value) (w : World), w.heap[g]? = some (.cells cur t fz) → cur.size ≤ fz.1 → o + i + vs.length ≤ cur.size → (∀ v ∈ vs, v.oneCell' = true) →
    (storeCells ⟨g, o, none⟩ vs i).run P w = .ok () (w.setRow g (cur.toList.take (o + i) ++ vs ++ cur.toList.drop (o + i + vs.length)).toArray)
  | [], i, cur, w, hg, _, _, _ => by
    simp only [storeCells, List.append_nil, List.length_nil, Nat.add_zero, List.take_append_drop, Array.toArray_toList]
    rw [setRow_self w g cur t fz hg]
    rfl
  | v :: rest, i, cur, w, hg, hfz, hl, h1 => by
    have hi : o + i < cur.size := by simp at hl; omega
    have hadd : (⟨g, o, none⟩ : Addr).add i = ⟨g, o + i, none⟩ := by unfold Addr.add; split <;> simp_all
    have hcell : w.cell? ⟨g, o + i, none⟩ = some cur[o + i] := by simp [World.cell?, hg, hi]
    have hfro : w.frozen? ⟨g, o + i, none⟩ = false := by
      obtain ⟨lo, hi'⟩ := fz
      simp only [World.frozen?, hg, Bool.and_eq_false_iff, decide_eq_false_iff_not]
      left
      simp only at hfz
      omega
    have hst : (store ((⟨g, o, none⟩ : Addr).add i) v).run P w = .ok () (w.setRow g (cur.setIfInBounds (o + i) v)) := by
      rw [hadd, run_store P w _ v _ (h1 v (by simp)), hcell]
      simp [hfro, setCell_eq_setRow w g (o + i) cur t fz v hg]
    have ih := store_marked P g o t fz rest (i + 1) (cur.setIfInBounds (o + i) v) (w.setRow g (cur.setIfInBounds (o + i) v)) (setRow_heap w g cur _ t _ hg) (by simpa using hfz) (by simp at hl ⊢; omega) (fun x hx => h1 x (by simp [hx]))
    simp only [storeCells, Sem.run_bind, hst, Result.andThen_ok, ih, setRow_setRow]
    congr 3
    have e := list_seg_step cur.toList (o + i) v rest (by simp at hl ⊢; omega)
    simpa [Array.toList_setIfInBounds, Nat.add_assoc] using e
theorem strCells_byte (s : ByteArray) : ∀ u ∈ Lib.strCells s, ∃ y, u = .int .u8 y := by
  intro u hu
  simp only [Lib.strCells, List.mem_map] at hu
  obtain ⟨b, _, rfl⟩ := hu
  exact ⟨_, rfl⟩
/-- a text laid behind a text's bytes -/
theorem append_marked {W : World} {B0 g cap n : Nat} (h : Marked W g cap n) (hB : B0 ≤ g) (s : ByteArray) (hs : n + s.size ≤ 1099511627776) (ty : TypeId) :
    ∃ v' w', (Builtin.append_ #[50, 9] ty #[.slice (some ⟨g, 0, none⟩) n cap, .string s]).run Tryd.prog W = .ok v' w' ∧ BytesAt w' B0 v' (n + s.size) ∧ Below B0 W w' := by
  obtain ⟨i0, hi, hz0, hz1, hz2⟩ := info_parts byte_info
  have hbt := h.bytes hB
  obtain ⟨cur, fz, hg, hf, hcs, hn, hc⟩ := h
  have hgl : g < W.heap.size := (Array.getElem?_eq_some_iff.1 hg).1
  by_cases hroom : n + s.size ≤ cap
  · have hfc := Lib.run_firstCells_string (P := Tryd.prog) W 1 s
    have hst := store_marked Tryd.prog g n 5 fz (Lib.strCells s) 0 cur W hg hf (by rw [Lib.strCells_length]; omega) (Lib.strCells_oneCell s)
    simp only [Nat.add_zero, Lib.strCells_length] at hst
    refine ⟨.slice (some ⟨g, 0, none⟩) (n + s.size) cap, W.setRow g (cur.toList.take n ++ Lib.strCells s ++ cur.toList.drop (n + s.size)).toArray, ?_, ⟨_, _, rfl, hroom, fun k hk => ⟨g, 0, rfl, hB, by simpa using hgl, ?_⟩⟩, ?_⟩
    · simp [Builtin.append_, run_underlying Tryd.underlying50, run_underlying Tryd.underlying9, sizeOf, typeInfo, hi, hz1, Builtin.lenOf, hroom, hfc, Addr.add_lit, hst]
    · rw [Nat.zero_add, Lib.cell_of_heap (setRow_heap W g cur _ _ _ hg)]
      simp only [List.getElem?_toArray]
      by_cases hkn : k < n
      · obtain ⟨x, hx⟩ := hc k hkn
        refine ⟨x, ?_⟩
        rw [List.append_assoc, List.getElem?_append_left (by simp; omega), List.getElem?_take, if_pos hkn]
        exact hx
      · have hl1 : (cur.toList.take n).length = n := by simp; omega
        have hks : k - n < (Lib.strCells s).length := by rw [Lib.strCells_length]; omega
        obtain ⟨y, hy⟩ := strCells_byte s _ (List.getElem_mem hks)
        refine ⟨y, ?_⟩
        rw [List.append_assoc, List.getElem?_append_right (by rw [hl1]; omega), hl1, List.getElem?_append_left hks, List.getElem?_eq_getElem hks, hy]
    · exact ⟨rfl, rfl, rfl, by simp, fun k hk => setRow_other W g k _ (by omega)⟩
  · obtain ⟨xs, hr, hxb, hxl⟩ := hbt.reads
    have holds : ∀ j u, xs[j]? = some u → W.cell? ((⟨g, 0, none⟩ : Addr).add j) = some u := fun j u hu => by
      have hj : j < n := by rw [← hxl]; exact (List.getElem?_eq_some_iff.1 hu).1
      obtain ⟨ad, e, _, hcell⟩ := hr.2 (by omega)
      injection e with e
      subst e
      exact hcell j u hu
    have hr2 := Lib.run_append_grow_string (P := Tryd.prog) W 50 9 ty 5 i0 (.int .u8 0) Tryd.underlying50 Tryd.underlying9 hi hz0 ⟨g, 0, none⟩ n cap xs (by rw [hz1]; omega) holds s (by omega) (by omega) (by rw [hz2]; exact growslice_fits (by omega) (by omega))
    have hge := grownCap_ge W (n + s.size) cap 5
    refine ⟨_, _, hr2, ⟨_, _, rfl, hge, fun k hk => ⟨W.heap.size, 0, rfl, by omega, by simp, ?_⟩⟩, ?_⟩
    · rw [Nat.zero_add]
      have : (W.drew.alloc (.cells (xs.toArray ++ (Lib.strCells s).toArray ++ Builtin.zeroCells (Value.int .u8 0).cells (grownCap W (n + s.size) cap 5 - (n + s.size))) 5)).heap[W.heap.size]? = some (.cells (xs.toArray ++ (Lib.strCells s).toArray ++ Builtin.zeroCells (Value.int .u8 0).cells (grownCap W (n + s.size) cap 5 - (n + s.size))) 5) := heap_alloc_new W.drew _
      rw [Lib.cell_of_heap this]
      have hsl := Lib.strCells_length s
      by_cases hkn : k < n
      · obtain ⟨y, hy⟩ := hxb _ (List.getElem_mem (show k < xs.length by omega))
        refine ⟨y, ?_⟩
        rw [Array.getElem?_append_left (by simp; omega), Array.getElem?_append_left (by simp; omega)]
        simp only [List.getElem?_toArray]
        rw [List.getElem?_eq_getElem (by omega), hy]
      · have hks : k - n < (Lib.strCells s).length := by omega
        obtain ⟨y, hy⟩ := strCells_byte s _ (List.getElem_mem hks)
        refine ⟨y, ?_⟩
        rw [Array.getElem?_append_left (by simp; omega), Array.getElem?_append_right (by simp; omega)]
        simp only [List.getElem?_toArray, List.size_toArray, hxl]
        rw [List.getElem?_eq_getElem hks, hy]
    · exact ((Below.refl B0 W).drew).alloc (by simp; omega) _
theorem wpList_run_append {P : Program} (w : World) {ops : Array Oper} {rest : List Oper} {o : Oper} {a : Act} {Q : Exit → Act → World → Prop} (hgd : o.guard = none) (sl x : Operand) (t u : TypeId)
    (ho : o.op = .call { callee := .builtin .append, args := #[sl, x], argTypes := #[t, u] }) (v y : Value) (hs : a.eval sl = v) (hx : a.eval x = y) (v' : Value) (w' : World) (hr : (Builtin.append_ #[t, u] o.type #[v, y]).run P w = .ok v' w')
    (h : wpList P ops Q rest (a.put o.dst v') w') : wpList P ops Q (o :: rest) a w := by
  refine wpList_plain hgd fun K hK => ?_
  unfold Oper.wp execOp
  simp only [ho, resolve, invoke, builtin, Sem.run_bind, Sem.run_pure, Result.andThen_ok, List.map_toArray, List.map_cons, List.map_nil, hs, hx, hr]
  exact hK _ _ h
theorem step_run_append {P : Program} {w : World} {ops : Array Oper} {o : Oper} {a : Act} {K : Act → World → Prop} {Q : Exit → Act → World → Prop} {E : Prop} (hgd : o.guard = none) (sl x : Operand) (t u : TypeId)
    (ho : o.op = .call { callee := .builtin .append, args := #[sl, x], argTypes := #[t, u] }) (v y : Value) (hs : a.eval sl = v) (hx : a.eval x = y) (v' : Value) (w' : World) (hr : (Builtin.append_ #[t, u] o.type #[v, y]).run P w = .ok v' w')
    (h : K (a.put o.dst v') w') : if Region.wanted o (yielded ops a.tmps) = true then Oper.wp P o a w K Q else E := by
  have hw : Region.wanted o (yielded ops a.tmps) = true := by simp [Region.wanted, hgd]
  rw [if_pos hw]
  unfold Oper.wp execOp
  simp only [ho, resolve, invoke, builtin, Sem.run_bind, Sem.run_pure, Result.andThen_ok, List.map_toArray, List.map_cons, List.map_nil, hs, hx, hr]
  exact h
theorem BytesAt.drop {W : World} {B0 : Nat} {g n cap k c' : Nat} (h : BytesAt W B0 (.slice (some ⟨g, 0, none⟩) n cap) n) (hk : k ≤ n) (hc' : n - k ≤ c') : BytesAt W B0 (.slice (some ⟨g, k, none⟩) (n - k) c') (n - k) := by
  obtain ⟨A', cap', e, hc, h⟩ := h
  refine ⟨_, _, rfl, hc', fun j hj => ?_⟩
  obtain ⟨g', o', e', h1, h2, x, hx⟩ := h (k + j) (by omega)
  injection e with e _ _
  rw [e'] at e
  obtain ⟨rfl, rfl⟩ : g = g' ∧ 0 = o' := by simpa using e
  exact ⟨g, k, rfl, h1, h2, x, by rw [← hx]; congr 2; omega⟩
theorem bytes_one {xs : List Value} (h : ∀ u ∈ xs, ∃ y, u = .int .u8 y) : ∀ u ∈ xs, u.oneCell' = true := fun u hu => by
  obtain ⟨y, rfl⟩ := h u hu; rfl
theorem bytes_app {xs ys : List Value} (h1 : ∀ u ∈ xs, ∃ y, u = .int .u8 y) (h2 : ∀ u ∈ ys, ∃ y, u = .int .u8 y) : ∀ u ∈ xs ++ ys, ∃ y, u = .int .u8 y := fun u hu => by
  rcases List.mem_append.1 hu with h | h
  · exact h1 u h
  · exact h2 u h
end Go.Proofs.YteibelmgebhleaaDoor
