/- A plan in a variable, its rows in blocks of their own: a store into one leaves the others (laid by gen_planset.py). -/
import Derived.Test.YtneelmmikaefgaaPlanNewD
namespace Go.Proofs.Ytneelmmikaefgaa
open Go.RowKit
set_option linter.unusedSimpArgs false
set_option linter.unusedVariables false

theorem own_other {W : World} {B b n size : Nat} {e : TypeId} {v : Value} {xs : List Value} (h : W.ownsRow B e size v n xs) (hne : v.ownBlock ≠ some b) (k : Nat) (u : Value) : (W.setCell ⟨b, k, none⟩ u).ownsRow B e size v n xs :=
  h.kept (grown_set W b k u) (.inr hne)
theorem own_set1 {W : World} {B b n c k : Nat} {e : TypeId} {xs : List Value} (h : W.ownsRow B e 1 (.slice (some ⟨b, 0, none⟩) n c) n xs) (hk : k < n) (u : Value) : (W.setCell ⟨b, k, none⟩ u).ownsRow B e 1 (.slice (some ⟨b, 0, none⟩) n c) n (xs.set k u) := by
  refine ⟨by rw [List.length_set]; exact h.1, ?_⟩
  rcases h.2 with ⟨h1, _⟩ | ⟨g, cap, cur, h1, h2, h3, h4, h5, h6, h7⟩
  · cases h1
  · injection h1 with e1 _ e3
    injection e1 with e1
    injection e1 with e1 _ _
    subst e1 e3
    refine .inr ⟨b, c, cur.setIfInBounds k u, rfl, h2, heap_set h3 k u, h4, h5, by rw [Array.size_setIfInBounds]; exact h6, ?_⟩
    rw [Array.toList_setIfInBounds, List.take_set, h7]
theorem OutI.at_ {W : World} {B k : Nat} {v : Value} {l : List Int} (h : OutI B W v l) (hk : k < l.length) : ∃ b c, v = .slice (some ⟨b, 0, none⟩) l.length c ∧ v.ownBlock = some b ∧ B ≤ b ∧ b < W.heap.size ∧ Typed W b 3 ∧ W.cell? ⟨b, k, none⟩ = some (.int .i64 l[k]) ∧ W.frozen? ⟨b, k, none⟩ = false := by
  rcases h.2 with ⟨_, h0⟩ | ⟨b, cap, cur, rfl, h2, h3, h4, h5, h6, h7⟩
  · omega
  · have hb := blk_of_heap h3
    have hlen : k < cur.toList.length := by rw [Array.length_toList, h6]; omega
    have hc := hb.2 k hlen
    have he : cur.toList[k] = .int .i64 l[k] := by
      have h8 := congrArg (fun x => x[k]?) h7
      simp only [List.getElem?_take] at h8
      rw [if_pos (by omega), List.getElem?_eq_getElem hlen] at h8
      simpa [ints, hk] using h8
    exact ⟨b, cap, rfl, rfl, h2, hb.1, ⟨cur, h3⟩, by rw [hc.1, he], hc.2⟩
theorem OutI.set {W : World} {B b k : Nat} {v : Value} {l : List Int} (h : OutI B W v l) (hv : v.ownBlock = some b) (hk : k < l.length) (x : Int) : OutI B (W.setCell ⟨b, k, none⟩ (.int .i64 x)) v (l.set k x) := by
  obtain ⟨b', c, rfl, hb, _⟩ := h.at_ hk
  have e : b' = b := by rw [hb] at hv; injection hv
  subst e
  have := own_set1 h hk (.int .i64 x)
  unfold OutI
  rw [List.length_set]
  have e2 : ints (l.set k x) = (ints l).set k (.int .i64 x) := by simp [ints]
  rw [e2]
  exact this
theorem RoutesO.other {W : World} {B b k : Nat} {v : Value} {rs : List (List Int)} {ws : List Value} (h : RoutesO B W v rs ws) (ht : Typed W b 3) {y : Value} (hy : y ∈ ws) (hb : y.ownBlock = some b) (u : Value) : RoutesO B (W.setCell ⟨b, k, none⟩ u) v rs ws := by
  obtain ⟨us, h1, h2⟩ := h
  refine ⟨us, own_other h1 (fun e => typed_ne (own_typed h1 e).1 ht (by decide) rfl) k u, fun j hj => ?_⟩
  obtain ⟨x, c, d, e⟩ := h2 j hj
  exact ⟨x, c, own_other d (fun e' => e y hy b e' hb) k u, e⟩
theorem RoutesO.at_ {W : World} {B k : Nat} {v : Value} {rs : List (List Int)} {ws : List Value} (h : RoutesO B W v rs ws) (hk : k < rs.length) : ∃ b c u, v = .slice (some ⟨b, 0, none⟩) rs.length c ∧ v.ownBlock = some b ∧ B ≤ b ∧ b < W.heap.size ∧ Typed W b 22 ∧ W.cell? ⟨b, k, none⟩ = some u ∧ W.frozen? ⟨b, k, none⟩ = false ∧ OutI B W u rs[k] := by
  obtain ⟨us, h1, h2⟩ := h
  obtain ⟨u, hu, ho, _⟩ := h2 k hk
  rcases h1.2 with ⟨_, h0⟩ | ⟨b, cap, cur, rfl, q2, q3, q4, q5, q6, q7⟩
  · omega
  · have hb := blk_of_heap q3
    have hlen : k < cur.toList.length := by rw [Array.length_toList, q6]; omega
    have hc := hb.2 k hlen
    have he : cur.toList[k] = u := by
      have h8 := congrArg (fun x => x[k]?) q7
      simp only [List.getElem?_take] at h8
      rw [if_pos (by omega), List.getElem?_eq_getElem hlen, hu] at h8
      exact Option.some.inj h8
    exact ⟨b, cap, u, rfl, rfl, q2, hb.1, ⟨cur, q3⟩, by rw [hc.1, he], hc.2, ho⟩
theorem RoutesO.put {W : World} {B b k : Nat} {v : Value} {rs : List (List Int)} {ws : List Value} (h : RoutesO B W v rs ws) (hv : v.ownBlock = some b) (hk : k < rs.length) {u : Value} {l : List Int} (hu : OutI B W u l) (ha : ∀ x ∈ ws, Apart2 u x) : RoutesO B (W.setCell ⟨b, k, none⟩ u) v (rs.set k l) ws := by
  obtain ⟨b', c, _, rfl, hb, _, _, ht, _⟩ := h.at_ hk
  have e : b' = b := by rw [hb] at hv; injection hv
  subst e
  obtain ⟨us, h1, h2⟩ := h
  have keep : ∀ (x : Value) (m : List Int), OutI B W x m → OutI B (W.setCell ⟨b', k, none⟩ u) x m := fun x m hx => own_other hx (fun e => typed_ne ht (own_typed hx e).1 (by decide) rfl) k u
  refine ⟨us.set k u, by rw [List.length_set]; exact own_set1 h1 hk u, fun j hj => ?_⟩
  rw [List.length_set] at hj
  obtain ⟨x, c, d, e⟩ := h2 j hj
  have hul : us.length = rs.length := by have := h1.1; omega
  by_cases ejk : j = k
  · subst ejk
    exact ⟨u, by rw [List.getElem?_set_self (by omega)], by rw [List.getElem_set_self]; exact keep _ _ hu, ha⟩
  · exact ⟨x, by rw [List.getElem?_set_ne (Ne.symm ejk)]; exact c, by rw [List.getElem_set_ne (Ne.symm ejk)]; exact keep _ _ d, e⟩
theorem Five.other {W : World} {B b k : Nat} {v2 v3 v4 v5 v6 : Value} {p : PlanP} (h : Five B W v2 v3 v4 v5 v6 p) {T : TypeId} (ht : Typed W b T) (hT : T ≠ 3) (u : Value) : Five B (W.setCell ⟨b, k, none⟩ u) v2 v3 v4 v5 v6 p :=
  have keep : ∀ (x : Value) (m : List Int), OutI B W x m → OutI B (W.setCell ⟨b, k, none⟩ u) x m := fun x m hx => own_other hx (fun e => typed_ne ht (own_typed hx e).1 hT rfl) k u
  ⟨keep _ _ h.lock, keep _ _ h.ice, keep _ _ h.rv, keep _ _ h.sv, keep _ _ h.iv, h.apart⟩
theorem Apart2.symm {a b : Value} (h : Apart2 a b) : Apart2 b a := fun g h1 h2 => h g h2 h1
/-- a plan in a variable, with all its rows, in blocks from B on -/
structure QAt (B g : Nat) (W : World) (v1 v2 v3 v4 v5 v6 : Value) (p : PlanP) : Prop where
  lt : B ≤ g
  heap : W.heap[g]? = some (.cells #[v1, v2, v3, v4, v5, v6, .int .i64 p.pv] 25 (0, 0))
  routes : RoutesO B W v1 p.routes [v2, v3, v4, v5, v6]
  five : Five B W v2 v3 v4 v5 v6 p
section
variable {B g k : Nat} {W W' : World} {v1 v2 v3 v4 v5 v6 : Value} {p : PlanP}
theorem QAt.below (h : QAt B g W v1 v2 v3 v4 v5 v6 p) (hb : Below W.heap.size W W') : QAt B g W' v1 v2 v3 v4 v5 v6 p :=
  ⟨h.lt, heap_keep h.heap hb, h.routes.below hb, h.five.below hb⟩
theorem QAt.cells (h : QAt B g W v1 v2 v3 v4 v5 v6 p) : W.cell? ⟨g, 0, none⟩ = some v1 ∧ W.cell? ⟨g, 1, none⟩ = some v2 ∧ W.cell? ⟨g, 2, none⟩ = some v3 ∧ W.cell? ⟨g, 3, none⟩ = some v4 ∧ W.cell? ⟨g, 4, none⟩ = some v5 ∧ W.cell? ⟨g, 5, none⟩ = some v6 ∧ W.cell? ⟨g, 6, none⟩ = some (.int .i64 p.pv) ∧ W.frozen? ⟨g, 6, none⟩ = false ∧ g < W.heap.size := by
  have b := blk_of_heap h.heap
  exact ⟨(b.2 0 (by simp)).1, (b.2 1 (by simp)).1, (b.2 2 (by simp)).1, (b.2 3 (by simp)).1, (b.2 4 (by simp)).1, (b.2 5 (by simp)).1, (b.2 6 (by simp)).1, (b.2 6 (by simp)).2, b.1⟩
theorem QAt.new (h : QAt B g W v1 v2 v3 v4 v5 v6 p) : NewP B W (.agg #[v1, v2, v3, v4, v5, v6, .int .i64 p.pv]) p := ⟨v1, v2, v3, v4, v5, v6, rfl, h.routes, h.five⟩
theorem heap_other {W : World} {g b k : Nat} {o : Obj} {u : Value} (h : W.heap[g]? = some o) (hne : g ≠ b) : (W.setCell ⟨b, k, none⟩ u).heap[g]? = some o := by
  rw [Below.heap_setCell _ _ _ _ (by simpa using hne)]; exact h
theorem QAt.putPv (h : QAt B g W v1 v2 v3 v4 v5 v6 p) (x : Int) : QAt B g (W.setCell ⟨g, 6, none⟩ (.int .i64 x)) v1 v2 v3 v4 v5 v6 { p with pv := x } :=
  ⟨h.lt, by rw [heap_set h.heap 6]; rfl, h.routes.set h.heap (by decide) (by decide) 6 _, ⟨(Five.other h.five ⟨_, h.heap⟩ (by decide) _).lock, (Five.other h.five ⟨_, h.heap⟩ (by decide) _).ice, (Five.other h.five ⟨_, h.heap⟩ (by decide) _).rv, (Five.other h.five ⟨_, h.heap⟩ (by decide) _).sv, (Five.other h.five ⟨_, h.heap⟩ (by decide) _).iv, h.five.apart⟩⟩
theorem QAt.putRoute (h : QAt B g W v1 v2 v3 v4 v5 v6 p) {b : Nat} (hv : v1.ownBlock = some b) (hk : k < p.routes.length) {u : Value} {l : List Int} (hu : OutI B W u l) (ha : ∀ x ∈ [v2, v3, v4, v5, v6], Apart2 u x) : QAt B g (W.setCell ⟨b, k, none⟩ u) v1 v2 v3 v4 v5 v6 { p with routes := p.routes.set k l } := by
  obtain ⟨b', _, _, _, hb', _, _, ht, _⟩ := h.routes.at_ hk
  have e : b' = b := by rw [hb'] at hv; injection hv
  subst e
  have hf := Five.other (k := k) h.five ht (by decide) u
  exact ⟨h.lt, heap_other h.heap (typed_ne (e := 25) ⟨_, h.heap⟩ ht (by decide)), h.routes.put hb' hk hu ha, ⟨hf.lock, hf.ice, hf.rv, hf.sv, hf.iv, hf.apart⟩⟩
theorem QAt.put_lock (h : QAt B g W v1 v2 v3 v4 v5 v6 p) {b : Nat} (hv : v2.ownBlock = some b) (hk : k < p.lock.length) (x : Int) : QAt B g (W.setCell ⟨b, k, none⟩ (.int .i64 x)) v1 v2 v3 v4 v5 v6 { p with lock := p.lock.set k x } := by
  obtain ⟨b', _, _, hb', _, _, ht, _⟩ := h.five.lock.at_ hk
  have e : b' = b := by rw [hb'] at hv; injection hv
  subst e
  have ha := h.five.apart
  simp only [List.pairwise_cons, List.mem_cons, List.not_mem_nil, or_false, forall_eq_or_imp, forall_eq, List.Pairwise.nil, and_true, false_imp_iff, implies_true] at ha
  obtain ⟨⟨a01, a02, a03, a04⟩, ⟨a12, a13, a14⟩, ⟨a23, a24⟩, a34⟩ := ha
  have ap1 : Apart2 v3 v2 := a01.symm
  have ap2 : Apart2 v4 v2 := a02.symm
  have ap3 : Apart2 v5 v2 := a03.symm
  have ap4 : Apart2 v6 v2 := a04.symm
  exact ⟨h.lt, heap_other h.heap (typed_ne (e := 25) ⟨_, h.heap⟩ ht (by decide)), h.routes.other ht (by simp : v2 ∈ [v2, v3, v4, v5, v6]) hb' _, ⟨h.five.lock.set hv hk x, own_other h.five.ice (fun e => ap1 _ e hv) k _, own_other h.five.rv (fun e => ap2 _ e hv) k _, own_other h.five.sv (fun e => ap3 _ e hv) k _, own_other h.five.iv (fun e => ap4 _ e hv) k _, h.five.apart⟩⟩
theorem QAt.put_ice (h : QAt B g W v1 v2 v3 v4 v5 v6 p) {b : Nat} (hv : v3.ownBlock = some b) (hk : k < p.ice.length) (x : Int) : QAt B g (W.setCell ⟨b, k, none⟩ (.int .i64 x)) v1 v2 v3 v4 v5 v6 { p with ice := p.ice.set k x } := by
  obtain ⟨b', _, _, hb', _, _, ht, _⟩ := h.five.ice.at_ hk
  have e : b' = b := by rw [hb'] at hv; injection hv
  subst e
  have ha := h.five.apart
  simp only [List.pairwise_cons, List.mem_cons, List.not_mem_nil, or_false, forall_eq_or_imp, forall_eq, List.Pairwise.nil, and_true, false_imp_iff, implies_true] at ha
  obtain ⟨⟨a01, a02, a03, a04⟩, ⟨a12, a13, a14⟩, ⟨a23, a24⟩, a34⟩ := ha
  have ap0 : Apart2 v2 v3 := a01
  have ap2 : Apart2 v4 v3 := a12.symm
  have ap3 : Apart2 v5 v3 := a13.symm
  have ap4 : Apart2 v6 v3 := a14.symm
  exact ⟨h.lt, heap_other h.heap (typed_ne (e := 25) ⟨_, h.heap⟩ ht (by decide)), h.routes.other ht (by simp : v3 ∈ [v2, v3, v4, v5, v6]) hb' _, ⟨own_other h.five.lock (fun e => ap0 _ e hv) k _, h.five.ice.set hv hk x, own_other h.five.rv (fun e => ap2 _ e hv) k _, own_other h.five.sv (fun e => ap3 _ e hv) k _, own_other h.five.iv (fun e => ap4 _ e hv) k _, h.five.apart⟩⟩
theorem QAt.put_rv (h : QAt B g W v1 v2 v3 v4 v5 v6 p) {b : Nat} (hv : v4.ownBlock = some b) (hk : k < p.rv.length) (x : Int) : QAt B g (W.setCell ⟨b, k, none⟩ (.int .i64 x)) v1 v2 v3 v4 v5 v6 { p with rv := p.rv.set k x } := by
  obtain ⟨b', _, _, hb', _, _, ht, _⟩ := h.five.rv.at_ hk
  have e : b' = b := by rw [hb'] at hv; injection hv
  subst e
  have ha := h.five.apart
  simp only [List.pairwise_cons, List.mem_cons, List.not_mem_nil, or_false, forall_eq_or_imp, forall_eq, List.Pairwise.nil, and_true, false_imp_iff, implies_true] at ha
  obtain ⟨⟨a01, a02, a03, a04⟩, ⟨a12, a13, a14⟩, ⟨a23, a24⟩, a34⟩ := ha
  have ap0 : Apart2 v2 v4 := a02
  have ap1 : Apart2 v3 v4 := a12
  have ap3 : Apart2 v5 v4 := a23.symm
  have ap4 : Apart2 v6 v4 := a24.symm
  exact ⟨h.lt, heap_other h.heap (typed_ne (e := 25) ⟨_, h.heap⟩ ht (by decide)), h.routes.other ht (by simp : v4 ∈ [v2, v3, v4, v5, v6]) hb' _, ⟨own_other h.five.lock (fun e => ap0 _ e hv) k _, own_other h.five.ice (fun e => ap1 _ e hv) k _, h.five.rv.set hv hk x, own_other h.five.sv (fun e => ap3 _ e hv) k _, own_other h.five.iv (fun e => ap4 _ e hv) k _, h.five.apart⟩⟩
theorem QAt.put_sv (h : QAt B g W v1 v2 v3 v4 v5 v6 p) {b : Nat} (hv : v5.ownBlock = some b) (hk : k < p.sv.length) (x : Int) : QAt B g (W.setCell ⟨b, k, none⟩ (.int .i64 x)) v1 v2 v3 v4 v5 v6 { p with sv := p.sv.set k x } := by
  obtain ⟨b', _, _, hb', _, _, ht, _⟩ := h.five.sv.at_ hk
  have e : b' = b := by rw [hb'] at hv; injection hv
  subst e
  have ha := h.five.apart
  simp only [List.pairwise_cons, List.mem_cons, List.not_mem_nil, or_false, forall_eq_or_imp, forall_eq, List.Pairwise.nil, and_true, false_imp_iff, implies_true] at ha
  obtain ⟨⟨a01, a02, a03, a04⟩, ⟨a12, a13, a14⟩, ⟨a23, a24⟩, a34⟩ := ha
  have ap0 : Apart2 v2 v5 := a03
  have ap1 : Apart2 v3 v5 := a13
  have ap2 : Apart2 v4 v5 := a23
  have ap4 : Apart2 v6 v5 := a34.symm
  exact ⟨h.lt, heap_other h.heap (typed_ne (e := 25) ⟨_, h.heap⟩ ht (by decide)), h.routes.other ht (by simp : v5 ∈ [v2, v3, v4, v5, v6]) hb' _, ⟨own_other h.five.lock (fun e => ap0 _ e hv) k _, own_other h.five.ice (fun e => ap1 _ e hv) k _, own_other h.five.rv (fun e => ap2 _ e hv) k _, h.five.sv.set hv hk x, own_other h.five.iv (fun e => ap4 _ e hv) k _, h.five.apart⟩⟩
theorem QAt.put_iv (h : QAt B g W v1 v2 v3 v4 v5 v6 p) {b : Nat} (hv : v6.ownBlock = some b) (hk : k < p.iv.length) (x : Int) : QAt B g (W.setCell ⟨b, k, none⟩ (.int .i64 x)) v1 v2 v3 v4 v5 v6 { p with iv := p.iv.set k x } := by
  obtain ⟨b', _, _, hb', _, _, ht, _⟩ := h.five.iv.at_ hk
  have e : b' = b := by rw [hb'] at hv; injection hv
  subst e
  have ha := h.five.apart
  simp only [List.pairwise_cons, List.mem_cons, List.not_mem_nil, or_false, forall_eq_or_imp, forall_eq, List.Pairwise.nil, and_true, false_imp_iff, implies_true] at ha
  obtain ⟨⟨a01, a02, a03, a04⟩, ⟨a12, a13, a14⟩, ⟨a23, a24⟩, a34⟩ := ha
  have ap0 : Apart2 v2 v6 := a04
  have ap1 : Apart2 v3 v6 := a14
  have ap2 : Apart2 v4 v6 := a24
  have ap3 : Apart2 v5 v6 := a34
  exact ⟨h.lt, heap_other h.heap (typed_ne (e := 25) ⟨_, h.heap⟩ ht (by decide)), h.routes.other ht (by simp : v6 ∈ [v2, v3, v4, v5, v6]) hb' _, ⟨own_other h.five.lock (fun e => ap0 _ e hv) k _, own_other h.five.ice (fun e => ap1 _ e hv) k _, own_other h.five.rv (fun e => ap2 _ e hv) k _, own_other h.five.sv (fun e => ap3 _ e hv) k _, h.five.iv.set hv hk x, h.five.apart⟩⟩
end
end Go.Proofs.Ytneelmmikaefgaa
