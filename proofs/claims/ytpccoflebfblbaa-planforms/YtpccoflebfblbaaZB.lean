/- Package plan's raise: the versions of what a tidy edit changes (laid by gen_praise.py). · slices.Concat of any rows; package plan's anyTwice (laid by gen_ptwice.py). -/
import Derived.Test.YtpccoflebfblbaaZA
namespace Go.Proofs.Ytpccoflebfblbaa
open Go.RowKit
set_option linter.unusedSimpArgs false
set_option linter.unusedVariables false

/-- what was there from R on is as it was -/
def Above (R : Nat) (w W : World) : Prop := w.heap.size ≤ W.heap.size ∧ ∀ b, R ≤ b → b < w.heap.size → W.heap[b]? = w.heap[b]?
theorem Above.refl (R : Nat) (w : World) : Above R w w := ⟨Nat.le_refl _, fun _ _ _ => rfl⟩
theorem Above.below {R n : Nat} {w W W' : World} (h : Above R w W) (hb : Below n W W') (hn : w.heap.size ≤ n) : Above R w W' :=
  ⟨Nat.le_trans h.1 hb.size, fun b h1 h2 => by rw [hb.block b (by omega)]; exact h.2 b h1 h2⟩
theorem Above.drew {R : Nat} {w W : World} (h : Above R w W) : Above R w W.drew := h
theorem Above.set {R b k : Nat} {w W : World} (h : Above R w W) (hb : b < R) (u : Value) : Above R w (W.setCell ⟨b, k, none⟩ u) :=
  ⟨by rw [World.size_setCell]; exact h.1, fun c h1 h2 => by rw [Below.heap_setCell _ _ _ _ (by show c ≠ b; omega)]; exact h.2 c h1 h2⟩
theorem own_above {R : Nat} {w W : World} {e : TypeId} {size n : Nat} {v : Value} {xs : List Value} (h : w.ownsRow R e size v n xs) (ha : Above R w W) : W.ownsRow R e size v n xs := by
  refine ⟨h.1, ?_⟩
  rcases h.2 with h' | ⟨g, cap, cur, rfl, h2, h3, h4⟩
  · exact .inl h'
  · exact .inr ⟨g, cap, cur, rfl, h2, by rw [ha.2 g h2 (h.lt g rfl).2]; exact h3, h4⟩
structure Raises (q : PlanP) (d : Edit) : Prop where
  t : ∀ x ∈ d.turns, 0 ≤ x.c ∧ x.c < (q.rv.length : Int)
  i : ∀ x ∈ d.ices, 0 ≤ x.n ∧ x.n < (q.iv.length : Int)
  l : ∀ x ∈ d.locks, 0 ≤ x.n ∧ x.n < (q.sv.length : Int)
  m : ∀ x ∈ movedE d, 0 ≤ x ∧ x < (q.sv.length : Int)
  sv : q.sv.length ≤ 1000
/-- the stops whose version rises -/
def risesE (d : Edit) : List Int := Lib.compact (sortI (movedE d ++ d.locks.map Hold.n))
def raiseP (q : PlanP) (d : Edit) : PlanP := { q with rv := bump q.rv (d.turns.map Turn.c), iv := bump q.iv (d.ices.map Hold.n), sv := bump q.sv (risesE d), pv := if 0 < (movedE d).length then wrap64 (q.pv + 1) else q.pv }
theorem map_at {α β : Type} {f : α → β} {l : List α} {k : Nat} (h : k < l.length) : ∃ h' : k < (l.map f).length, (l.map f)[k] = f l[k] := ⟨by simpa using h, by simp⟩
theorem nodup_short0 (n : Nat) (l : List Int) (hn : l.Nodup) (hl : ∀ x ∈ l, 0 ≤ x ∧ x < (n : Int)) : l.length ≤ n + 1 := by
  have h := nodup_short (n + 1) (l.map (· + 1)) (List.Pairwise.map _ (fun a b h e => h (by omega)) hn) (fun x hx => by
    obtain ⟨y, hy, rfl⟩ := List.mem_map.1 hx
    have := hl y hy
    omega)
  rwa [List.length_map] at h
theorem own_keepR {W W' : World} {R B : Nat} {e : TypeId} {size n : Nat} {v : Value} {xs : List Value} (h : W.ownsRow B e size v n xs) (hlt : ∀ b, v.ownBlock = some b → b < R) (hb : Below R W W') : W'.ownsRow B e size v n xs := by
  refine ⟨h.1, ?_⟩
  rcases h.2 with h | ⟨g, cap, cur, rfl, h2, h3, h4⟩
  · exact .inl h
  · exact .inr ⟨g, cap, cur, rfl, h2, by rw [hb.block g (hlt g rfl)]; exact h3, h4⟩
/-- a plan in a variable, all of it in blocks below R -/
structure QIn (R B g : Nat) (W : World) (v1 v2 v3 v4 v5 v6 : Value) (p : PlanP) : Prop where
  lt : B ≤ g
  g_lt : g < R
  heap : W.heap[g]? = some (.cells #[v1, v2, v3, v4, v5, v6, .int .i64 p.pv] 34 (0, 0))
  v1_lt : ∀ b, v1.ownBlock = some b → b < R
  rows : ∃ us, W.ownsRow B 28 1 v1 p.routes.length us ∧ ∀ k (h : k < p.routes.length), ∃ u, us[k]? = some u ∧ OutI B W u p.routes[k] ∧ (∀ b, u.ownBlock = some b → b < R) ∧ ∀ x ∈ [v2, v3, v4, v5, v6], Apart2 u x
  five : Five B W v2 v3 v4 v5 v6 p
  five_lt : ∀ x ∈ [v2, v3, v4, v5, v6], ∀ b, x.ownBlock = some b → b < R
section
variable {R B g k : Nat} {W W' : World} {v1 v2 v3 v4 v5 v6 : Value} {p : PlanP}
theorem QIn.of (h : QAt B g W v1 v2 v3 v4 v5 v6 p) : QIn W.heap.size B g W v1 v2 v3 v4 v5 v6 p := by
  obtain ⟨us, h1, h2⟩ := h.routes
  refine ⟨h.lt, h.cells.2.2.2.2.2.2.2.2, h.heap, h.routes.blk_lt, ⟨us, h1, fun k hk => ?_⟩, h.five, h.five.lt⟩
  obtain ⟨u, a, b, c⟩ := h2 k hk
  exact ⟨u, a, b, fun q hq => (b.lt q hq).2, c⟩
theorem QIn.at_ (h : QIn R B g W v1 v2 v3 v4 v5 v6 p) : QAt B g W v1 v2 v3 v4 v5 v6 p := by
  obtain ⟨us, h1, h2⟩ := h.rows
  refine ⟨h.lt, h.heap, ⟨us, h1, fun k hk => ?_⟩, h.five⟩
  obtain ⟨u, a, b, _, c⟩ := h2 k hk
  exact ⟨u, a, b, c⟩
theorem QIn.below (h : QIn R B g W v1 v2 v3 v4 v5 v6 p) (hb : Below R W W') : QIn R B g W' v1 v2 v3 v4 v5 v6 p := by
  obtain ⟨us, h1, h2⟩ := h.rows
  have hl := h.five_lt
  simp only [List.mem_cons, List.not_mem_nil, or_false, forall_eq_or_imp, forall_eq] at hl
  refine ⟨h.lt, h.g_lt, by rw [hb.block g h.g_lt]; exact h.heap, h.v1_lt, ⟨us, own_keepR h1 h.v1_lt hb, fun k hk => ?_⟩, ⟨own_keepR h.five.lock hl.1 hb, own_keepR h.five.ice hl.2.1 hb, own_keepR h.five.rv hl.2.2.1 hb, own_keepR h.five.sv hl.2.2.2.1 hb, own_keepR h.five.iv hl.2.2.2.2 hb, h.five.apart⟩, h.five_lt⟩
  obtain ⟨u, a, b, c, d⟩ := h2 k hk
  exact ⟨u, a, own_keepR b c hb, c, d⟩
theorem QIn.put_sv (h : QIn R B g W v1 v2 v3 v4 v5 v6 p) {b : Nat} (hv : v5.ownBlock = some b) (hk : k < p.sv.length) (x : Int) : QIn R B g (W.setCell ⟨b, k, none⟩ (.int .i64 x)) v1 v2 v3 v4 v5 v6 { p with sv := p.sv.set k x } := by
  have hq := h.at_.put_sv hv hk x
  obtain ⟨b', _, _, hb', _, _, ht, _⟩ := h.five.sv.at_ hk
  have e : b' = b := by rw [hb'] at hv; injection hv
  subst e
  obtain ⟨us, h1, h2⟩ := h.rows
  refine ⟨h.lt, h.g_lt, hq.heap, h.v1_lt, ⟨us, own_other h1 (fun e => typed_ne (own_typed h1 e).1 ht (by decide) rfl) k _, fun j hj => ?_⟩, hq.five, h.five_lt⟩
  obtain ⟨u, a, b, c, d⟩ := h2 j hj
  exact ⟨u, a, own_other b (fun e => d v5 (by simp) _ e hv) k _, c, d⟩
theorem QIn.putPv (h : QIn R B g W v1 v2 v3 v4 v5 v6 p) (x : Int) : QIn R B g (W.setCell ⟨g, 6, none⟩ (.int .i64 x)) v1 v2 v3 v4 v5 v6 { p with pv := x } := by
  have hq := h.at_.putPv x
  have ht : Typed W g 34 := ⟨_, h.heap⟩
  obtain ⟨us, h1, h2⟩ := h.rows
  refine ⟨h.lt, h.g_lt, hq.heap, h.v1_lt, ⟨us, own_other h1 (fun e => typed_ne (own_typed h1 e).1 ht (by decide) rfl) 6 _, fun j hj => ?_⟩, hq.five, h.five_lt⟩
  obtain ⟨u, a, b, c, d⟩ := h2 j hj
  exact ⟨u, a, own_other b (fun e => typed_ne (own_typed b e).1 ht (by decide) rfl) 6 _, c, d⟩
end
theorem risesE_mem (d : Edit) (x : Int) : x ∈ risesE d ↔ x ∈ movedE d ∨ x ∈ d.locks.map Hold.n := by
  unfold risesE
  rw [compact_mem (sortI_rising _), sortI_mem, List.mem_append]
set_option maxRecDepth 100000 in
set_option maxHeartbeats 8000000 in
theorem praise_any (R0 B g : Nat) (V1 V2 V3 V4 V5 V6 : Value) (q : PlanP) (At Al Ai : Option Addr) (ct cl ci : Nat) (d : Edit) (w : World) (hq : QIn R0 B g w V1 V2 V3 V4 V5 V6 q) (hB : B ≤ R0) (hR0 : R0 ≤ w.heap.size) (hE : ∀ W, Above R0 w W → EditIn W At Al Ai ct cl ci d) (hin : Raises q d) :
    Calls Try.prog 26 #[.pointer (some ⟨g, 0, none⟩), .agg #[.slice At d.turns.length ct, .slice Al d.locks.length cl, .slice Ai d.ices.length ci]] w fun e w' => e = .returned (.tuple #[]) ∧ QAt B g w' V1 V2 V3 V4 V5 V6 (raiseP q d) ∧ Below B w w' := by
  obtain ⟨i0, hi0, hz0, hz1, hz2⟩ := info_parts int_info
  have hB2 : B ≤ w.heap.size := Nat.le_trans hB hR0
  have BD : Hid (Blk (w.alloc (.cells #[.slice At d.turns.length ct, .slice Al d.locks.length cl, .slice Ai d.ices.length ci] 46)) w.heap.size #[.slice At d.turns.length ct, .slice Al d.locks.length cl, .slice Ai d.ices.length ci].toList) := Lib.hid (blk_new w #[.slice At d.turns.length ct, .slice Al d.locks.length cl, .slice Ai d.ices.length ci] 46)
  have HB0 : Hid (Below B w (w.alloc (.cells #[.slice At d.turns.length ct, .slice Al d.locks.length cl, .slice Ai d.ices.length ci] 46))) := Lib.hid ((Below.refl _ _).alloc hB2 _)
  have HQ0 := Lib.hid (hq.at_.below ((Below.refl _ _).alloc (Nat.le_refl _) (.cells #[.slice At d.turns.length ct, .slice Al d.locks.length cl, .slice Ai d.ices.length ci] 46)))
  have HAB0 : Hid (Above R0 w (w.alloc (.cells #[.slice At d.turns.length ct, .slice Al d.locks.length cl, .slice Ai d.ices.length ci] 46))) := Lib.hid ((Above.refl R0 w).below ((Below.refl _ _).alloc (Nat.le_refl _) (.cells #[.slice At d.turns.length ct, .slice Al d.locks.length cl, .slice Ai d.ices.length ci] 46)) (Nat.le_refl _))
  have HE := Lib.hid hE
  have HI := Lib.hid hin
  have hnt := (hE w (Above.refl R0 w)).nt
  have hnl := (hE w (Above.refl R0 w)).nl
  have hni := (hE w (Above.refl R0 w)).ni
  have hsvl := hin.sv
  have hgs : g < R0 := hq.g_lt
  have HL3 : Hid (∀ b, V4.ownBlock = some b → b < R0) := Lib.hid (fun b hb => hq.five_lt V4 (by simp) b hb)
  have HL4 : Hid (∀ b, V5.ownBlock = some b → b < R0) := Lib.hid (fun b hb => hq.five_lt V5 (by simp) b hb)
  have HL5 : Hid (∀ b, V6.ownBlock = some b → b < R0) := Lib.hid (fun b hb => hq.five_lt V6 (by simp) b hb)
  have KM := Lib.hid (fun (W : World) (hab : Above R0 w W) => moved_any At Al Ai ct cl ci d W (hE W hab))
  have HML : Hid ((movedE d).length ≤ 1001) := Lib.hid (by
    have h1 := nodup_short0 q.sv.length (movedE d) (strict_nodup (movedE_strict d)) (fun x hx => hin.m x hx)
    omega)
  clear hq hE hin
  go_enter Try.func26, Try.ntmps26
  go_upto_region 1 with (fail)
  generalize (w.alloc (.cells #[.slice At d.turns.length ct, .slice Al d.locks.length cl, .slice Ai d.ices.length ci] 46)) = W0 at *
  have hsz0 : w.heap.size ≤ W0.heap.size := by have := BD.out.1; omega
  generalize hs : w.heap.size = s at *
  obtain ⟨e0, e1, e2⟩ : W0.cell? ⟨s, 0, none⟩ = some (.slice At d.turns.length ct) ∧ W0.cell? ⟨s, 1, none⟩ = some (.slice Al d.locks.length cl) ∧ W0.cell? ⟨s, 2, none⟩ = some (.slice Ai d.ices.length ci) := ⟨(BD.out.2 0 (by simp)).1, (BD.out.2 1 (by simp)).1, (BD.out.2 2 (by simp)).1⟩
  go_wp2_with (fail)
  go_loopw [16] (fun kv wr => ∃ k : Nat, k ≤ d.turns.length ∧ kv = .int .i64 k ∧ Hid (QAt B g wr V1 V2 V3 V4 V5 V6 { q with rv := bump q.rv ((d.turns.map Turn.c).take k) }) ∧ s ≤ wr.heap.size ∧ Hid (Blk wr s #[.slice At d.turns.length ct, .slice Al d.locks.length cl, .slice Ai d.ices.length ci].toList) ∧ Hid (Below B w wr) ∧ Hid (Above R0 w wr)) (fun kv _ => d.turns.length - (intOf kv).toNat)
  case atStart => exact ⟨0, Nat.zero_le _, rfl, HQ0, hsz0, BD, HB0, HAB0⟩
  case round =>
    obtain ⟨k, hk, rfl, hq, hsz, hbd, hb, hab⟩ := hrel
    clear e0 e1 e2
    by_cases hlt : k < d.turns.length
    · obtain ⟨BT0, o, eT, hBT, d0, d1, d2⟩ := (HE.out wr hab.out).t.1.turn hlt
      obtain ⟨⟨Ax, cx, ex, hq1⟩, Ay, cy, ey, hq2⟩ := (HE.out wr hab.out).t.2 _ (List.getElem_mem hlt)
      rw [ex] at d1
      rw [ey] at d2
      subst eT
      obtain ⟨hlt', hmap⟩ := map_at (f := Turn.c) hlt
      have HT0 : Hid ((d.turns.map Turn.c)[k] = Turn.c d.turns[k]) := Lib.hid hmap
      have HT1 := Lib.hid (bump_snoc (l := q.rv) hlt')
      rw [hmap] at HT1
      clear hmap hlt' HT0
      have hin := HI.out.t _ (List.getElem_mem hlt)
      have x0 : wr.cell? ⟨BT0, o + k * 3, none⟩ = some (.int .i64 d.turns[k].c) := d0
      have x1 : wr.cell? ⟨BT0, o + k * 3 + 1, none⟩ = some (.slice Ax d.turns[k].b.length cx) := d1
      have x2 : wr.cell? ⟨BT0, o + k * 3 + 2, none⟩ = some (.slice Ay d.turns[k].a.length cy) := d2
      clear d0 d1 d2 ex ey hq1 hq2
      generalize d.turns[k] = t at *
      have BT := Lib.hid (blk_new wr #[.int .i64 t.c, .slice Ax t.b.length cx, .slice Ay t.a.length cy] 40)
      have HBT := Lib.hid (hb.out.alloc (Nat.le_trans hB2 hsz) (.cells #[.int .i64 t.c, .slice Ax t.b.length cx, .slice Ay t.a.length cy] 40))
      have HAT := Lib.hid (hab.out.below ((Below.refl _ _).alloc (Nat.le_refl _) (.cells #[.int .i64 t.c, .slice Ax t.b.length cx, .slice Ay t.a.length cy] 40)) (by rw [hs]; exact hsz))
      have HQT := Lib.hid (hq.out.below ((Below.refl _ _).alloc (Nat.le_refl _) (.cells #[.int .i64 t.c, .slice Ax t.b.length cx, .slice Ay t.a.length cy] 40)))
      have BDT := Lib.hid (hbd.out.alloc (.cells #[.int .i64 t.c, .slice Ax t.b.length cx, .slice Ay t.a.length cy] 40))
      clear hb hq hbd hab
      go_upto_region 4 with (fail)
      generalize wr.alloc (.cells #[.int .i64 t.c, .slice Ax t.b.length cx, .slice Ay t.a.length cy] 40) = wt at *
      have hszt : s ≤ wt.heap.size := by have := BT.out.1; omega
      have hTs : s ≤ wr.heap.size := hsz
      generalize wr.heap.size = T at *
      clear x0 x1 x2
      obtain ⟨cn, hcn⟩ : ∃ cn : Nat, t.c = (cn : Int) := ⟨t.c.toNat, by omega⟩
      have hcl : cn < q.rv.length := by omega
      have hcl2 : (cn : Int) < (q.rv.length : Int) := by omega
      have HCN := Lib.hid hcn
      have t0 := BT.out.at0.1
      rw [hcn] at t0
      rw [hcn, Int.toNat_natCast] at HT1
      clear hin hcn
      obtain ⟨b1, f1x, ev1, eb1, hb1g, hb1l, ht1, hx1, hf1⟩ := HQT.out.five.rv.at_ (k := cn) (show cn < (bump q.rv ((d.turns.map Turn.c).take k)).length by rw [bump_length]; exact hcl)
      have ev2 : V4 = .slice (some ⟨b1, 0, none⟩) q.rv.length f1x := by rw [ev1]; show Value.slice _ (bump q.rv _).length _ = _; rw [bump_length]
      have y0 : wt.cell? ⟨g, 3, none⟩ = some (.slice (some ⟨b1, 0, none⟩) q.rv.length f1x) := by rw [← ev2]; exact HQT.out.cells.2.2.2.1
      have EB1 := Lib.hid eb1
      have hb1R0 : b1 < R0 := HL3.out b1 eb1
      have hb1s : b1 < s := Nat.lt_of_lt_of_le hb1R0 hR0
      obtain ⟨x, hx⟩ : ∃ x, x = (bump q.rv ((d.turns.map Turn.c).take k)).getD cn 0 := ⟨_, rfl⟩
      have hx2 : wt.cell? ⟨b1, cn, none⟩ = some (.int .i64 x) := by
        rw [hx1, hx]
        simp [List.getD, bump_length, hcl]
      rw [← hx] at HT1
      clear ev1 ev2 eb1 hx1 hx
      refine wp_region_z (S := (fun W => W.cell? ⟨g, 3, none⟩ = some (.slice (some ⟨b1, 0, none⟩) q.rv.length f1x) ∧ W.cell? ⟨T, 0, none⟩ = some (.int .i64 (cn : Int)) ∧ W.cell? ⟨b1, cn, none⟩ = some (.int .i64 x))) (z := 10) (by kernel_rfl) ⟨y0, t0, hx2⟩ (fun hH => ?_)
      refine wpAnyZ_take (i := 0) (v := ?_) rfl (by kernel_rfl) (by kernel_rfl) (by kernel_rfl) rfl (by kernel_rfl) (fun _ _ _ h => h) (gives_value (by rfl) ?_) (by assumption) ?_
      rotate_left
      · intro w hSw
        obtain ⟨q0, q1, q2⟩ := hSw
        go_simp
        (try with_reducible rfl)
      (try simp only [putAll, Act.put, List.getElem_toArray, List.getElem_cons_succ, List.getElem_cons_zero, List.setIfInBounds_toArray, List.set_cons_zero, List.set_cons_succ])
      refine wpAnyZ_take (i := 1) (v := ?_) rfl (by kernel_rfl) (by kernel_rfl) (by kernel_rfl) rfl (by kernel_rfl) (fun _ _ _ h => h) (gives_value (by rfl) ?_) (by assumption) ?_
      rotate_left
      · intro w hSw
        obtain ⟨q0, q1, q2⟩ := hSw
        go_simp
        (try with_reducible rfl)
      (try simp only [putAll, Act.put, List.getElem_toArray, List.getElem_cons_succ, List.getElem_cons_zero, List.setIfInBounds_toArray, List.set_cons_zero, List.set_cons_succ])
      refine wpAnyZ_take (i := 2) (v := ?_) rfl (by kernel_rfl) (by kernel_rfl) (by kernel_rfl) rfl (by kernel_rfl) (fun _ _ _ h => h) (gives_value (by rfl) ?_) (by assumption) ?_
      rotate_left
      · intro w hSw
        obtain ⟨q0, q1, q2⟩ := hSw
        go_simp
        (try with_reducible rfl)
      (try simp only [putAll, Act.put, List.getElem_toArray, List.getElem_cons_succ, List.getElem_cons_zero, List.setIfInBounds_toArray, List.set_cons_zero, List.set_cons_succ])
      refine wpAnyZ_take (i := 3) (v := ?_) rfl (by kernel_rfl) (by kernel_rfl) (by kernel_rfl) rfl (by kernel_rfl) (fun _ _ _ h => h) (gives_value (by rfl) ?_) (by assumption) ?_
      rotate_left
      · intro w hSw
        obtain ⟨q0, q1, q2⟩ := hSw
        go_simp
        (try with_reducible rfl)
      (try simp only [putAll, Act.put, List.getElem_toArray, List.getElem_cons_succ, List.getElem_cons_zero, List.setIfInBounds_toArray, List.set_cons_zero, List.set_cons_succ])
      refine wpAnyZ_take (i := 4) (v := ?_) rfl (by kernel_rfl) (by kernel_rfl) (by kernel_rfl) rfl (by kernel_rfl) (fun _ _ _ h => h) (gives_value (by rfl) ?_) (by assumption) ?_
      rotate_left
      · intro w hSw
        obtain ⟨q0, q1, q2⟩ := hSw
        go_simp
        (try with_reducible rfl)
      (try simp only [putAll, Act.put, List.getElem_toArray, List.getElem_cons_succ, List.getElem_cons_zero, List.setIfInBounds_toArray, List.set_cons_zero, List.set_cons_succ])
      refine wpAnyZ_take (i := 5) (v := ?_) rfl (by kernel_rfl) (by kernel_rfl) (by kernel_rfl) rfl (by kernel_rfl) (fun _ _ _ h => h) (gives_value (by rfl) ?_) (by assumption) ?_
      rotate_left
      · intro w hSw
        obtain ⟨q0, q1, q2⟩ := hSw
        go_simp
        (try with_reducible rfl)
      (try simp only [putAll, Act.put, List.getElem_toArray, List.getElem_cons_succ, List.getElem_cons_zero, List.setIfInBounds_toArray, List.set_cons_zero, List.set_cons_succ])
      refine wpAnyZ_take (i := 6) (v := ?_) rfl (by kernel_rfl) (by kernel_rfl) (by kernel_rfl) rfl (by kernel_rfl) (fun _ _ _ h => h) (gives_value (by rfl) ?_) (by assumption) ?_
      rotate_left
      · intro w hSw
        obtain ⟨q0, q1, q2⟩ := hSw
        go_simp
        (try with_reducible rfl)
      (try simp only [putAll, Act.put, List.getElem_toArray, List.getElem_cons_succ, List.getElem_cons_zero, List.setIfInBounds_toArray, List.set_cons_zero, List.set_cons_succ])
      refine wpAnyZ_take (i := 7) (v := ?_) rfl (by kernel_rfl) (by kernel_rfl) (by kernel_rfl) rfl (by kernel_rfl) (fun _ _ _ h => h) (gives_value (by rfl) ?_) (by assumption) ?_
      rotate_left
      · intro w hSw
        obtain ⟨q0, q1, q2⟩ := hSw
        go_simp
        (try with_reducible rfl)
      (try simp only [putAll, Act.put, List.getElem_toArray, List.getElem_cons_succ, List.getElem_cons_zero, List.setIfInBounds_toArray, List.set_cons_zero, List.set_cons_succ])
      refine wpAnyZ_take (i := 8) (v := ?_) rfl (by kernel_rfl) (by kernel_rfl) (by kernel_rfl) rfl (by kernel_rfl) (fun _ _ _ h => h) (gives_value (by rfl) ?_) (by assumption) ?_
      rotate_left
      · intro w hSw
        obtain ⟨q0, q1, q2⟩ := hSw
        go_simp
        (try with_reducible rfl)
      (try simp only [putAll, Act.put, List.getElem_toArray, List.getElem_cons_succ, List.getElem_cons_zero, List.setIfInBounds_toArray, List.set_cons_zero, List.set_cons_succ])
      refine wpAnyZ_take (i := 9) (v := ?_) rfl (by kernel_rfl) (by kernel_rfl) (by kernel_rfl) rfl (by kernel_rfl) (fun _ _ _ h => h) (gives_value (by rfl) ?_) (by assumption) ?_
      rotate_left
      · intro w hSw
        obtain ⟨q0, q1, q2⟩ := hSw
        go_simp
        (try with_reducible rfl)
      (try simp only [putAll, Act.put, List.getElem_toArray, List.getElem_cons_succ, List.getElem_cons_zero, List.setIfInBounds_toArray, List.set_cons_zero, List.set_cons_succ])
      have z1 : wt.drew.frozen? ⟨b1, cn, none⟩ = false := hf1
      have z2 : wt.drew.cell? ⟨b1, cn, none⟩ = _ := hx2
      refine wpAnyZ_one (i := 10) (by kernel_rfl) ?_
      refine zstep rfl (fun K hK => ?_)
      go_simp
      have HQ7 : Hid (QAt B g (wt.drew.setCell ⟨b1, cn, none⟩ (.int .i64 (wrap64 (x + 1)))) V1 V2 V3 V4 V5 V6 _) := Lib.hid ((HQT.out.below (Below.refl _ _).drew).put_rv EB1.out (k := cn) (show cn < (bump q.rv ((d.turns.map Turn.c).take k)).length by rw [bump_length]; exact hcl) (wrap64 (x + 1)))
      have HB7 : Hid (Below B w (wt.drew.setCell ⟨b1, cn, none⟩ (.int .i64 (wrap64 (x + 1))))) := Lib.hid (HBT.out.drew.setCell hb1g _)
      have HA7 : Hid (Above R0 w (wt.drew.setCell ⟨b1, cn, none⟩ (.int .i64 (wrap64 (x + 1))))) := Lib.hid (HAT.out.drew.set hb1R0 _)
      have BD7 : Hid (Blk (wt.drew.setCell ⟨b1, cn, none⟩ (.int .i64 (wrap64 (x + 1)))) s _) := Lib.hid (BDT.out.drew.other (a := ⟨b1, cn, none⟩) (by show b1 ≠ s; omega) _)
      have hsz7 : s ≤ (wt.drew.setCell ⟨b1, cn, none⟩ (.int .i64 (wrap64 (x + 1)))).heap.size := by rw [World.size_setCell]; exact hszt
      refine hK.out _ _ (fun h => absurd rfl h) (fun _ => ?_)
      clear hK K
      refine wpAnyZ_done (by kernel_rfl) ?_ _
      clear hH z1 z2 hf1 hx2 y0 t0
      rw [show (wt.setCell ⟨b1, cn, none⟩ (.int .i64 (IntKind.i64.wrap (x + 1)))).drew = wt.drew.setCell ⟨b1, cn, none⟩ (.int .i64 (wrap64 (x + 1))) from by rw [IntWalk.i64_left]; rfl]
      generalize wt.drew.setCell ⟨b1, cn, none⟩ (.int .i64 (wrap64 (x + 1))) = w7 at *
      go_wp2_with (fail)
      go_roundw
      case rel => exact ⟨k + 1, by omega, by go_num, Lib.hid (by have := HQ7.out; rw [HT1.out]; exact this), hsz7, BD7, HB7, HA7⟩
      case measure => simp [intOf]; omega
    · obtain ⟨e0, e1, e2⟩ : wr.cell? ⟨s, 0, none⟩ = some (.slice At d.turns.length ct) ∧ wr.cell? ⟨s, 1, none⟩ = some (.slice Al d.locks.length cl) ∧ wr.cell? ⟨s, 2, none⟩ = some (.slice Ai d.ices.length ci) := ⟨(hbd.out.2 0 (by simp)).1, (hbd.out.2 1 (by simp)).1, (hbd.out.2 2 (by simp)).1⟩
      have HQ1 : Hid (QAt B g wr V1 V2 V3 V4 V5 V6 { q with rv := bump q.rv (d.turns.map Turn.c) }) := Lib.hid (by have := hq.out; rwa [List.take_of_length_le (by rw [List.length_map]; omega)] at this)
      clear hq
      go_wp2_with (fail)
      go_loopw [34] (fun kv wr => ∃ k : Nat, k ≤ d.ices.length ∧ kv = .int .i64 k ∧ Hid (QAt B g wr V1 V2 V3 V4 V5 V6 { q with rv := bump q.rv (d.turns.map Turn.c), iv := bump q.iv ((d.ices.map Hold.n).take k) }) ∧ s ≤ wr.heap.size ∧ Hid (Blk wr s #[.slice At d.turns.length ct, .slice Al d.locks.length cl, .slice Ai d.ices.length ci].toList) ∧ Hid (Below B w wr) ∧ Hid (Above R0 w wr)) (fun kv _ => d.ices.length - (intOf kv).toNat)
      case atStart => exact ⟨0, Nat.zero_le _, rfl, HQ1, hsz, hbd, hb, hab⟩
      case round =>
        obtain ⟨k, hk, rfl, hq, hsz, hbd, hb, hab⟩ := hrel
        clear e0 e1 e2 HQ1
        by_cases hlt : k < d.ices.length
        · obtain ⟨BT0, o, eT, hBT, d0, d1, d2⟩ := (HE.out wr hab.out).i.hold hlt
          subst eT
          obtain ⟨hlt', hmap⟩ := map_at (f := Hold.n) hlt
          have HT0 : Hid ((d.ices.map Hold.n)[k] = Hold.n d.ices[k]) := Lib.hid hmap
          have HT1 := Lib.hid (bump_snoc (l := q.iv) hlt')
          rw [hmap] at HT1
          clear hmap hlt' HT0
          have hin := HI.out.i _ (List.getElem_mem hlt)
          have x0 : wr.cell? ⟨BT0, o + k * 3, none⟩ = some (.int .i64 d.ices[k].n) := d0
          have x1 : wr.cell? ⟨BT0, o + k * 3 + 1, none⟩ = some (.int .i64 d.ices[k].b) := d1
          have x2 : wr.cell? ⟨BT0, o + k * 3 + 2, none⟩ = some (.int .i64 d.ices[k].a) := d2
          clear d0 d1 d2
          generalize d.ices[k] = h at *
          have BT := Lib.hid (blk_new wr #[.int .i64 h.n, .int .i64 h.b, .int .i64 h.a] 43)
          have HBT := Lib.hid (hb.out.alloc (Nat.le_trans hB2 hsz) (.cells #[.int .i64 h.n, .int .i64 h.b, .int .i64 h.a] 43))
          have HAT := Lib.hid (hab.out.below ((Below.refl _ _).alloc (Nat.le_refl _) (.cells #[.int .i64 h.n, .int .i64 h.b, .int .i64 h.a] 43)) (by rw [hs]; exact hsz))
          have HQT := Lib.hid (hq.out.below ((Below.refl _ _).alloc (Nat.le_refl _) (.cells #[.int .i64 h.n, .int .i64 h.b, .int .i64 h.a] 43)))
          have BDT := Lib.hid (hbd.out.alloc (.cells #[.int .i64 h.n, .int .i64 h.b, .int .i64 h.a] 43))
          clear hb hq hbd hab
          go_upto_region 9 with (fail)
          generalize wr.alloc (.cells #[.int .i64 h.n, .int .i64 h.b, .int .i64 h.a] 43) = wt at *
          have hszt : s ≤ wt.heap.size := by have := BT.out.1; omega
          have hTs : s ≤ wr.heap.size := hsz
          generalize wr.heap.size = T at *
          clear x0 x1 x2
          obtain ⟨cn, hcn⟩ : ∃ cn : Nat, h.n = (cn : Int) := ⟨h.n.toNat, by omega⟩
          have hcl : cn < q.iv.length := by omega
          have hcl2 : (cn : Int) < (q.iv.length : Int) := by omega
          have HCN := Lib.hid hcn
          have t0 := BT.out.at0.1
          rw [hcn] at t0
          rw [hcn, Int.toNat_natCast] at HT1
          clear hin hcn
          obtain ⟨b1, f1x, ev1, eb1, hb1g, hb1l, ht1, hx1, hf1⟩ := HQT.out.five.iv.at_ (k := cn) (show cn < (bump q.iv ((d.ices.map Hold.n).take k)).length by rw [bump_length]; exact hcl)
          have ev2 : V6 = .slice (some ⟨b1, 0, none⟩) q.iv.length f1x := by rw [ev1]; show Value.slice _ (bump q.iv _).length _ = _; rw [bump_length]
          have y0 : wt.cell? ⟨g, 5, none⟩ = some (.slice (some ⟨b1, 0, none⟩) q.iv.length f1x) := by rw [← ev2]; exact HQT.out.cells.2.2.2.2.2.1
          have EB1 := Lib.hid eb1
          have hb1R0 : b1 < R0 := HL5.out b1 eb1
          have hb1s : b1 < s := Nat.lt_of_lt_of_le hb1R0 hR0
          obtain ⟨x, hx⟩ : ∃ x, x = (bump q.iv ((d.ices.map Hold.n).take k)).getD cn 0 := ⟨_, rfl⟩
          have hx2 : wt.cell? ⟨b1, cn, none⟩ = some (.int .i64 x) := by
            rw [hx1, hx]
            simp [List.getD, bump_length, hcl]
          rw [← hx] at HT1
          clear ev1 ev2 eb1 hx1 hx
          refine wp_region_z (S := (fun W => W.cell? ⟨g, 5, none⟩ = some (.slice (some ⟨b1, 0, none⟩) q.iv.length f1x) ∧ W.cell? ⟨T, 0, none⟩ = some (.int .i64 (cn : Int)) ∧ W.cell? ⟨b1, cn, none⟩ = some (.int .i64 x))) (z := 10) (by kernel_rfl) ⟨y0, t0, hx2⟩ (fun hH => ?_)
          refine wpAnyZ_take (i := 0) (v := ?_) rfl (by kernel_rfl) (by kernel_rfl) (by kernel_rfl) rfl (by kernel_rfl) (fun _ _ _ h => h) (gives_value (by rfl) ?_) (by assumption) ?_
          rotate_left
          · intro w hSw
            obtain ⟨q0, q1, q2⟩ := hSw
            go_simp
            (try with_reducible rfl)
          (try simp only [putAll, Act.put, List.getElem_toArray, List.getElem_cons_succ, List.getElem_cons_zero, List.setIfInBounds_toArray, List.set_cons_zero, List.set_cons_succ])
          refine wpAnyZ_take (i := 1) (v := ?_) rfl (by kernel_rfl) (by kernel_rfl) (by kernel_rfl) rfl (by kernel_rfl) (fun _ _ _ h => h) (gives_value (by rfl) ?_) (by assumption) ?_
          rotate_left
          · intro w hSw
            obtain ⟨q0, q1, q2⟩ := hSw
            go_simp
            (try with_reducible rfl)
          (try simp only [putAll, Act.put, List.getElem_toArray, List.getElem_cons_succ, List.getElem_cons_zero, List.setIfInBounds_toArray, List.set_cons_zero, List.set_cons_succ])
          refine wpAnyZ_take (i := 2) (v := ?_) rfl (by kernel_rfl) (by kernel_rfl) (by kernel_rfl) rfl (by kernel_rfl) (fun _ _ _ h => h) (gives_value (by rfl) ?_) (by assumption) ?_
          rotate_left
          · intro w hSw
            obtain ⟨q0, q1, q2⟩ := hSw
            go_simp
            (try with_reducible rfl)
          (try simp only [putAll, Act.put, List.getElem_toArray, List.getElem_cons_succ, List.getElem_cons_zero, List.setIfInBounds_toArray, List.set_cons_zero, List.set_cons_succ])
          refine wpAnyZ_take (i := 3) (v := ?_) rfl (by kernel_rfl) (by kernel_rfl) (by kernel_rfl) rfl (by kernel_rfl) (fun _ _ _ h => h) (gives_value (by rfl) ?_) (by assumption) ?_
          rotate_left
          · intro w hSw
            obtain ⟨q0, q1, q2⟩ := hSw
            go_simp
            (try with_reducible rfl)
          (try simp only [putAll, Act.put, List.getElem_toArray, List.getElem_cons_succ, List.getElem_cons_zero, List.setIfInBounds_toArray, List.set_cons_zero, List.set_cons_succ])
          refine wpAnyZ_take (i := 4) (v := ?_) rfl (by kernel_rfl) (by kernel_rfl) (by kernel_rfl) rfl (by kernel_rfl) (fun _ _ _ h => h) (gives_value (by rfl) ?_) (by assumption) ?_
          rotate_left
          · intro w hSw
            obtain ⟨q0, q1, q2⟩ := hSw
            go_simp
            (try with_reducible rfl)
          (try simp only [putAll, Act.put, List.getElem_toArray, List.getElem_cons_succ, List.getElem_cons_zero, List.setIfInBounds_toArray, List.set_cons_zero, List.set_cons_succ])
          refine wpAnyZ_take (i := 5) (v := ?_) rfl (by kernel_rfl) (by kernel_rfl) (by kernel_rfl) rfl (by kernel_rfl) (fun _ _ _ h => h) (gives_value (by rfl) ?_) (by assumption) ?_
          rotate_left
          · intro w hSw
            obtain ⟨q0, q1, q2⟩ := hSw
            go_simp
            (try with_reducible rfl)
          (try simp only [putAll, Act.put, List.getElem_toArray, List.getElem_cons_succ, List.getElem_cons_zero, List.setIfInBounds_toArray, List.set_cons_zero, List.set_cons_succ])
          refine wpAnyZ_take (i := 6) (v := ?_) rfl (by kernel_rfl) (by kernel_rfl) (by kernel_rfl) rfl (by kernel_rfl) (fun _ _ _ h => h) (gives_value (by rfl) ?_) (by assumption) ?_
          rotate_left
          · intro w hSw
            obtain ⟨q0, q1, q2⟩ := hSw
            go_simp
            (try with_reducible rfl)
          (try simp only [putAll, Act.put, List.getElem_toArray, List.getElem_cons_succ, List.getElem_cons_zero, List.setIfInBounds_toArray, List.set_cons_zero, List.set_cons_succ])
          refine wpAnyZ_take (i := 7) (v := ?_) rfl (by kernel_rfl) (by kernel_rfl) (by kernel_rfl) rfl (by kernel_rfl) (fun _ _ _ h => h) (gives_value (by rfl) ?_) (by assumption) ?_
          rotate_left
          · intro w hSw
            obtain ⟨q0, q1, q2⟩ := hSw
            go_simp
            (try with_reducible rfl)
          (try simp only [putAll, Act.put, List.getElem_toArray, List.getElem_cons_succ, List.getElem_cons_zero, List.setIfInBounds_toArray, List.set_cons_zero, List.set_cons_succ])
          refine wpAnyZ_take (i := 8) (v := ?_) rfl (by kernel_rfl) (by kernel_rfl) (by kernel_rfl) rfl (by kernel_rfl) (fun _ _ _ h => h) (gives_value (by rfl) ?_) (by assumption) ?_
          rotate_left
          · intro w hSw
            obtain ⟨q0, q1, q2⟩ := hSw
            go_simp
            (try with_reducible rfl)
          (try simp only [putAll, Act.put, List.getElem_toArray, List.getElem_cons_succ, List.getElem_cons_zero, List.setIfInBounds_toArray, List.set_cons_zero, List.set_cons_succ])
          refine wpAnyZ_take (i := 9) (v := ?_) rfl (by kernel_rfl) (by kernel_rfl) (by kernel_rfl) rfl (by kernel_rfl) (fun _ _ _ h => h) (gives_value (by rfl) ?_) (by assumption) ?_
          rotate_left
          · intro w hSw
            obtain ⟨q0, q1, q2⟩ := hSw
            go_simp
            (try with_reducible rfl)
          (try simp only [putAll, Act.put, List.getElem_toArray, List.getElem_cons_succ, List.getElem_cons_zero, List.setIfInBounds_toArray, List.set_cons_zero, List.set_cons_succ])
          have z1 : wt.drew.frozen? ⟨b1, cn, none⟩ = false := hf1
          have z2 : wt.drew.cell? ⟨b1, cn, none⟩ = _ := hx2
          refine wpAnyZ_one (i := 10) (by kernel_rfl) ?_
          refine zstep rfl (fun K hK => ?_)
          go_simp
          have HQ7 : Hid (QAt B g (wt.drew.setCell ⟨b1, cn, none⟩ (.int .i64 (wrap64 (x + 1)))) V1 V2 V3 V4 V5 V6 _) := Lib.hid ((HQT.out.below (Below.refl _ _).drew).put_iv EB1.out (k := cn) (show cn < (bump q.iv ((d.ices.map Hold.n).take k)).length by rw [bump_length]; exact hcl) (wrap64 (x + 1)))
          have HB7 : Hid (Below B w (wt.drew.setCell ⟨b1, cn, none⟩ (.int .i64 (wrap64 (x + 1))))) := Lib.hid (HBT.out.drew.setCell hb1g _)
          have HA7 : Hid (Above R0 w (wt.drew.setCell ⟨b1, cn, none⟩ (.int .i64 (wrap64 (x + 1))))) := Lib.hid (HAT.out.drew.set hb1R0 _)
          have BD7 : Hid (Blk (wt.drew.setCell ⟨b1, cn, none⟩ (.int .i64 (wrap64 (x + 1)))) s _) := Lib.hid (BDT.out.drew.other (a := ⟨b1, cn, none⟩) (by show b1 ≠ s; omega) _)
          have hsz7 : s ≤ (wt.drew.setCell ⟨b1, cn, none⟩ (.int .i64 (wrap64 (x + 1)))).heap.size := by rw [World.size_setCell]; exact hszt
          refine hK.out _ _ (fun h => absurd rfl h) (fun _ => ?_)
          clear hK K
          refine wpAnyZ_done (by kernel_rfl) ?_ _
          clear hH z1 z2 hf1 hx2 y0 t0
          rw [show (wt.setCell ⟨b1, cn, none⟩ (.int .i64 (IntKind.i64.wrap (x + 1)))).drew = wt.drew.setCell ⟨b1, cn, none⟩ (.int .i64 (wrap64 (x + 1))) from by rw [IntWalk.i64_left]; rfl]
          generalize wt.drew.setCell ⟨b1, cn, none⟩ (.int .i64 (wrap64 (x + 1))) = w7 at *
          go_wp2_with (fail)
          go_roundw
          case rel => exact ⟨k + 1, by omega, by go_num, Lib.hid (by have := HQ7.out; rw [HT1.out]; exact this), hsz7, BD7, HB7, HA7⟩
          case measure => simp [intOf]; omega
        · obtain ⟨e0, e1, e2⟩ : wr.cell? ⟨s, 0, none⟩ = some (.slice At d.turns.length ct) ∧ wr.cell? ⟨s, 1, none⟩ = some (.slice Al d.locks.length cl) ∧ wr.cell? ⟨s, 2, none⟩ = some (.slice Ai d.ices.length ci) := ⟨(hbd.out.2 0 (by simp)).1, (hbd.out.2 1 (by simp)).1, (hbd.out.2 2 (by simp)).1⟩
          have HQ1 : Hid (QAt B g wr V1 V2 V3 V4 V5 V6 { q with rv := bump q.rv (d.turns.map Turn.c), iv := bump q.iv (d.ices.map Hold.n) }) := Lib.hid (by have := hq.out; rwa [List.take_of_length_le (by rw [List.length_map]; omega)] at this)
          clear hq
          go_wp2_with (go_at_call 54; fail)
          (with_reducible refine (KM.out wr hab.out).mono ?_)
          rintro e w1 ⟨mv, rfl, hown, hb1⟩
          have HM1 : Hid (w1.ownsRow wr.heap.size 3 1 mv (movedE d).length (ints (movedE d))) := Lib.hid hown
          have HQ2 := Lib.hid (HQ1.out.below hb1)
          have HB2 : Hid (Below B w w1) := Lib.hid (hb.out.trans (hb1.mono (Nat.le_trans hB2 hsz)))
          have HA2 : Hid (Above R0 w w1) := Lib.hid (hab.out.below hb1 (by rw [hs]; exact hsz))
          have BD2 := Lib.hid (hbd.out.below hb1)
          have hsz2 : s ≤ w1.heap.size := Nat.le_trans hsz hb1.size
          have hwr1 : wr.heap.size ≤ w1.heap.size := hb1.size
          have hgw : g < wr.heap.size := HQ1.out.cells.2.2.2.2.2.2.2.2
          have hsw : s < wr.heap.size := hbd.out.1
          have HLQ : Hid (∀ b, V5.ownBlock = some b → b < wr.heap.size) := Lib.hid (fun b hb => (HQ1.out.five.sv.lt b hb).2)
          obtain ⟨M1, m1, rfl, hm1⟩ := own_slice_n hown
          have HQI0 := Lib.hid ((QIn.of HQ1.out).below hb1)
          clear hown hb1 HQ1 hbd hb hab e0 e1 e2 HLQ
          generalize hR : wr.heap.size = R at *
          have HQI : Hid (QIn R B g w1 V1 V2 V3 V4 V5 V6 { q with rv := bump q.rv (d.turns.map Turn.c), iv := bump q.iv (d.ices.map Hold.n) }) := Lib.hid HQI0.out
          obtain ⟨ml, hml⟩ : ∃ ml, ml = movedE d := ⟨_, rfl⟩
          have HMD := Lib.hid hml
          rw [← hml] at HM1 hm1
          have HMLL := Lib.hid HML.out
          rw [← hml] at HMLL
          have y6 : w1.cell? ⟨g, 6, none⟩ = some (.int .i64 q.pv) := HQI.out.at_.cells.2.2.2.2.2.2.1
          have z6 := HQI.out.at_.cells.2.2.2.2.2.2.2.1
          have f1 := (BD2.out.2 1 (by simp)).1
          rw [← hml]
          clear hml HQ2
          go_upto_if 53 with (fail)
          go_cut [8] from 53 to 61 (fun sv wc => sv = .slice M1 ml.length m1 ∧ Hid (QIn R B g wc V1 V2 V3 V4 V5 V6 { q with rv := bump q.rv (d.turns.map Turn.c), iv := bump q.iv (d.ices.map Hold.n), pv := (if 0 < ml.length then wrap64 (q.pv + 1) else q.pv) }) ∧ Hid (Below B w wc) ∧ wc.cell? ⟨s, 1, none⟩ = some (.slice Al d.locks.length cl) ∧ Hid (wc.ownsRow R 3 1 (.slice M1 ml.length m1) ml.length (ints ml)) ∧ R ≤ wc.heap.size ∧ Hid (Above R0 w wc))
          case first =>
            by_cases h0 : 0 < ml.length
            · have h1 : (0 : Int) < (ml.length : Int) := by omega
              have HX : Hid ((if 0 < ml.length then wrap64 (q.pv + 1) else q.pv) = wrap64 (q.pv + 1)) := Lib.hid (if_pos h0)
              have HQ7 := Lib.hid (HQI.out.putPv (wrap64 (q.pv + 1)))
              have HB7 : Hid (Below B w (w1.setCell ⟨g, 6, none⟩ (.int .i64 (wrap64 (q.pv + 1))))) := Lib.hid (HB2.out.setCell HQI.out.lt _)
              have f7 : (w1.setCell ⟨g, 6, none⟩ (.int .i64 (wrap64 (q.pv + 1)))).cell? ⟨s, 1, none⟩ = _ := (BD2.out.other (a := ⟨g, 6, none⟩) (by show g ≠ s; omega) _).2 1 (by simp) |>.1
              have HM7 : Hid ((w1.setCell ⟨g, 6, none⟩ (.int .i64 (wrap64 (q.pv + 1)))).ownsRow R 3 1 (.slice M1 ml.length m1) ml.length (ints ml)) := Lib.hid (own_old HM1.out hgw _ _)
              have hs7 : R ≤ (w1.setCell ⟨g, 6, none⟩ (.int .i64 (wrap64 (q.pv + 1)))).heap.size := by rw [World.size_setCell]; exact hwr1
              go_wp2_with (fail)
              go_meet
              exact ⟨rfl, Lib.hid (by have := HQ7.out; rw [HX.out]; exact this), HB7, f7, HM7, hs7, Lib.hid (HA2.out.set hgs _)⟩
            · have h1 : ¬ (0 : Int) < (ml.length : Int) := by omega
              have HX : Hid ((if 0 < ml.length then wrap64 (q.pv + 1) else q.pv) = q.pv) := Lib.hid (if_neg h0)
              go_wp2_with (fail)
              go_meet
              exact ⟨rfl, Lib.hid (by have := HQI.out; rw [HX.out]; exact this), HB2, f1, HM1, hwr1, HA2⟩
          case rest =>
            obtain ⟨hsv, hqc, hbc, f1, hmc, hRc, hac⟩ := hcut
            subst hsv
            clear y6 z6 HM1 HB2 BD2 HQI
            have HBW : Hid (∀ W, Below R wc W → Below B w W) := Lib.hid (fun W hb => hbc.out.trans (hb.mono (by omega)))
            have HQW : Hid (∀ W, Below R wc W → QIn R B g W V1 V2 V3 V4 V5 V6 { q with rv := bump q.rv (d.turns.map Turn.c), iv := bump q.iv (d.ices.map Hold.n), pv := (if 0 < ml.length then wrap64 (q.pv + 1) else q.pv) }) := Lib.hid (fun W hb => hqc.out.below hb)
            have HAW : Hid (∀ W, Below R wc W → Above R0 w W) := Lib.hid (fun W hb => hac.out.below hb (by rw [hs]; omega))
            clear hbc hqc hac
            go_wp2_with (fail)
            go_loopw [8, 64] (fun sv kv wr => ∃ k : Nat, k ≤ d.locks.length ∧ kv = .int .i64 k ∧ Hid (wr.ownsRow R 3 1 sv (ml ++ (d.locks.take k).map Hold.n).length (ints (ml ++ (d.locks.take k).map Hold.n))) ∧ Hid (Below R wc wr)) (fun _ kv _ => d.locks.length - (intOf kv).toNat)
            case atStart => exact ⟨0, Nat.zero_le _, rfl, Lib.hid (by simpa using hmc.out), Lib.hid (Below.refl _ _)⟩
            case round =>
              obtain ⟨k, hk, rfl, ho, hb⟩ := hrel
              have hszr : R ≤ wr.heap.size := Nat.le_trans hRc hb.out.size
              by_cases hlt : k < d.locks.length
              · obtain ⟨BT0, o, eT, hBT, d0, d1, d2⟩ := (HE.out wr (HAW.out wr hb.out)).l.hold hlt
                subst eT
                have HT1 : Hid (ml ++ (d.locks.take (k + 1)).map Hold.n = (ml ++ (d.locks.take k).map Hold.n) ++ [d.locks[k].n]) := Lib.hid (by rw [take_snoc hlt, List.map_append, List.map_cons, List.map_nil, List.append_assoc])
                have HLN : (ml ++ (d.locks.take k).map Hold.n).length ≤ 2000 := by
                  have := HMLL.out
                  rw [List.length_append, List.length_map, List.length_take]
                  omega
                have x0 : wr.cell? ⟨BT0, o + k * 3, none⟩ = some (.int .i64 d.locks[k].n) := d0
                have x1 : wr.cell? ⟨BT0, o + k * 3 + 1, none⟩ = some (.int .i64 d.locks[k].b) := d1
                have x2 : wr.cell? ⟨BT0, o + k * 3 + 2, none⟩ = some (.int .i64 d.locks[k].a) := d2
                clear d0 d1 d2
                generalize d.locks[k] = h at *
                generalize ml ++ (d.locks.take k).map Hold.n = y at *
                have BT := Lib.hid (blk_new wr #[.int .i64 h.n, .int .i64 h.b, .int .i64 h.a] 43)
                have HBT := Lib.hid (hb.out.alloc hszr (.cells #[.int .i64 h.n, .int .i64 h.b, .int .i64 h.a] 43))
                have HOT : Hid ((wr.alloc (.cells #[.int .i64 h.n, .int .i64 h.b, .int .i64 h.a] 43)).ownsRow R 3 1 _ _ _) := Lib.hid (World.ownsRow.alloc ho.out _)
                have hszt : R ≤ (wr.alloc (.cells #[.int .i64 h.n, .int .i64 h.b, .int .i64 h.a] 43)).heap.size := HBT.out.size |> Nat.le_trans hRc
                clear hb ho
                go_upto_region 17 with (fail)
                generalize wr.alloc (.cells #[.int .i64 h.n, .int .i64 h.b, .int .i64 h.a] 43) = wt at *
                generalize wr.heap.size = T at *
                clear x0 x1 x2
                have t0 := BT.out.at0.1
                have OW : Hid ((wt.alloc (.cells #[.int .i64 h.n] 3)).ownsRow R 3 1 _ _ _) := Lib.hid (World.ownsRow.alloc HOT.out _)
                have RN : Hid (Reads (wt.alloc (.cells #[.int .i64 h.n] 3)) (wt.heap.size + 1) 1 (some ⟨wt.heap.size, 0, none⟩) 1 (ints [h.n])) := Lib.hid (reads_new wt (ints [h.n]) 3)
                have HB3 : Hid (Below R wc (wt.alloc (.cells #[.int .i64 h.n] 3))) := Lib.hid (HBT.out.alloc hszt _)
                have hsz3 : R ≤ (wt.alloc (.cells #[.int .i64 h.n] 3)).heap.size := Nat.le_trans hRc HB3.out.size
                go_wp2_with (at_builtin; refine wpList_append_any _ rfl _ _ 28 rfl R 3 i0 _ 1 8 Try.underlying28 hi0 hz0 hz1 hz2 rfl (by decide) _ y.length (ints y) rfl OW.out (wt.heap.size + 1) (some ⟨wt.heap.size, 0, none⟩) 1 1 (ints [h.n]) rfl RN.out ?c1 ?c2 ?c3 ?c4 ?_)
                case c1 => exact ints_one _
                case c2 => unfold maxLen; omega
                case c3 => omega
                case c4 => first | exact hsz3 | omega
                intro v' w4 hown hgrow hob
                have HO4 := Lib.hid (outI_add hown)
                have HB4 : Hid (Below R wc w4) := Lib.hid (HB3.out.grown hgrow hsz3 (fun g hg => (own_typed OW.out hg).2))
                clear hown hgrow hob
                go_wp2_with (fail)
                go_roundw
                case rel => exact ⟨k + 1, by omega, by go_num, Lib.hid (by rw [HT1.out]; exact HO4.out), HB4⟩
                case measure => simp [intOf]; omega
              · obtain ⟨l2, hl2⟩ : ∃ l2, l2 = ml ++ d.locks.map Hold.n := ⟨_, rfl⟩
                have ho2 := ho.out
                rw [List.take_of_length_le (by omega), ← hl2] at ho2
                have HL2 := Lib.hid hl2
                have HLN : l2.length ≤ 2000 := by
                  have := HMLL.out
                  rw [hl2, List.length_append, List.length_map]
                  omega
                have HRI : Hid (risesE d = Lib.compact (sortI l2)) := Lib.hid (by unfold risesE; rw [hl2, HMD.out])
                have HIN2 : Hid (∀ x ∈ risesE d, 0 ≤ x ∧ x < (q.sv.length : Int)) := Lib.hid (fun x hx => by
                  rcases (risesE_mem d x).1 hx with h | h
                  · exact HI.out.m x h
                  · obtain ⟨h', a, rfl⟩ := List.mem_map.1 h
                    exact HI.out.l h' a)
                have KSo := Lib.hid (sort_own R _ l2 wr ho2 (by omega))
                clear ho ho2 hl2
                go_wp2_with (go_at_call 52; fail)
                (with_reducible refine KSo.out.mono ?_)
                rintro e w5 ⟨rfl, hown, hgr⟩
                have HO5 : Hid (w5.ownsRow R 3 1 _ (sortI l2).length (ints (sortI l2))) := Lib.hid (by rw [sortI_length]; exact hown)
                have HB5 : Hid (Below R wc w5) := Lib.hid (hb.out.grown hgr hszr (fun g hg => (own_typed hown hg).2))
                have KCo := Lib.hid (compact_own R _ (sortI l2) w5 HO5.out (by rw [sortI_length]; omega))
                clear hown hgr KSo
                go_wp2_with (go_at_call 53; fail)
                refine KCo.out.mono ?_
                rintro e w6 ⟨v6', rfl, hown, hgr, hle⟩
                have hsz5 : R ≤ w5.heap.size := Nat.le_trans hRc HB5.out.size
                have HB6 : Hid (Below R wc w6) := Lib.hid (HB5.out.grown hgr hsz5 (fun g hg => (own_typed HO5.out hg).2))
                rw [← HRI.out] at hown hle
                have HQ6 := Lib.hid (HQW.out w6 HB6.out)
                have HBB := Lib.hid (HBW.out w6 HB6.out)
                have hsz6 : R ≤ w6.heap.size := Nat.le_trans hRc HB6.out.size
                obtain ⟨rs, hrs⟩ : ∃ rs, rs = risesE d := ⟨_, rfl⟩
                rw [← hrs] at hown hle HIN2
                obtain ⟨S1, s1, rfl, _⟩ := own_slice_n hown
                have HO6 := Lib.hid hown
                have HRS := Lib.hid hrs
                have HRL : rs.length ≤ 2000 := by rw [sortI_length] at hle; omega
                clear hown hgr KCo hle hrs HB5 HB6 HO5 hb
                go_wp2_with (fail)
                go_loopw [79] (fun kv wr => ∃ k : Nat, k ≤ rs.length ∧ kv = .int .i64 k ∧ Hid (QIn R B g wr V1 V2 V3 V4 V5 V6 { q with rv := bump q.rv (d.turns.map Turn.c), iv := bump q.iv (d.ices.map Hold.n), sv := bump q.sv (rs.take k), pv := (if 0 < ml.length then wrap64 (q.pv + 1) else q.pv) }) ∧ Hid (wr.ownsRow R 3 1 (.slice S1 rs.length s1) rs.length (ints rs)) ∧ Hid (Below B w wr)) (fun kv _ => rs.length - (intOf kv).toNat)
                case atStart => exact ⟨0, Nat.zero_le _, rfl, HQ6, HO6, HBB⟩
                case round =>
                  obtain ⟨k, hk, rfl, hq, ho, hb⟩ := hrel
                  by_cases hlt : k < rs.length
                  · obtain ⟨Bs, qs, eS, hBs, d0⟩ := recs_num (own_recs1 ho.out) hlt
                    subst eS
                    have HT1 := Lib.hid (bump_snoc (l := q.sv) hlt)
                    have hin := HIN2.out _ (List.getElem_mem hlt)
                    generalize rs[k] = x at *
                    obtain ⟨cn, rfl⟩ : ∃ cn : Nat, x = (cn : Int) := ⟨x.toNat, by omega⟩
                    have hcl : cn < q.sv.length := by omega
                    have hcl2 : (cn : Int) < (q.sv.length : Int) := by omega
                    rw [Int.toNat_natCast] at HT1
                    clear hin
                    obtain ⟨b1, f1x, ev1, eb1, hb1g, hb1l, ht1, hx1, hf1⟩ := hq.out.five.sv.at_ (k := cn) (show cn < (bump q.sv (rs.take k)).length by rw [bump_length]; exact hcl)
                    have ev2 : V5 = .slice (some ⟨b1, 0, none⟩) q.sv.length f1x := by rw [ev1]; show Value.slice _ (bump q.sv _).length _ = _; rw [bump_length]
                    have y0 : wr.cell? ⟨g, 4, none⟩ = some (.slice (some ⟨b1, 0, none⟩) q.sv.length f1x) := by rw [← ev2]; exact hq.out.at_.cells.2.2.2.2.1
                    have EB1 := Lib.hid eb1
                    have hb1R : b1 < R := hq.out.five_lt V5 (by simp) b1 eb1
                    obtain ⟨x, hx⟩ : ∃ x, x = (bump q.sv (rs.take k)).getD cn 0 := ⟨_, rfl⟩
                    have hx2 : wr.cell? ⟨b1, cn, none⟩ = some (.int .i64 x) := by
                      rw [hx1, hx]
                      simp [List.getD, bump_length, hcl]
                    rw [← hx] at HT1
                    clear ev1 ev2 eb1 hx1 hx
                    have HQ7 : Hid (QIn R B g (wr.setCell ⟨b1, cn, none⟩ (.int .i64 (wrap64 (x + 1)))) V1 V2 V3 V4 V5 V6 _) := Lib.hid (hq.out.put_sv EB1.out (k := cn) (show cn < (bump q.sv (rs.take k)).length by rw [bump_length]; exact hcl) (wrap64 (x + 1)))
                    have HB7 : Hid (Below B w (wr.setCell ⟨b1, cn, none⟩ (.int .i64 (wrap64 (x + 1))))) := Lib.hid (hb.out.setCell hb1g _)
                    have HO7 : Hid ((wr.setCell ⟨b1, cn, none⟩ (.int .i64 (wrap64 (x + 1)))).ownsRow R 3 1 _ rs.length (ints rs)) := Lib.hid (own_old ho.out hb1R _ _)
                    go_wp2_with (fail)
                    go_roundw
                    case rel => exact ⟨k + 1, by omega, by go_num, Lib.hid (by have := HQ7.out; rw [HT1.out]; exact this), HO7, HB7⟩
                    case measure => simp [intOf]; omega
                  · have HF : Hid (QAt B g wr V1 V2 V3 V4 V5 V6 (raiseP q d)) := Lib.hid (by
                      have := hq.out.at_
                      rw [List.take_of_length_le (by omega), HRS.out, HMD.out] at this
                      exact this)
                    go_wp2_with (fail)
                    go_end0
                    exact ⟨rfl, HF.out, hb.out⟩
end Go.Proofs.Ytpccoflebfblbaa
namespace Go.Proofs.Ytpccoflebfblbaa
open Go.RowKit
set_option linter.unusedSimpArgs false
set_option linter.unusedVariables false

theorem flat_snoc {rs : List (List Int)} {k : Nat} (h : k < rs.length) : (rs.take (k + 1)).flatten = (rs.take k).flatten ++ rs[k] := by rw [take_snoc h, List.flatten_append, List.flatten_cons, List.flatten_nil, List.append_nil]
theorem flat_short2 {rs : List (List Int)} (hm : ∀ r ∈ rs, r.length ≤ 1000000) : ∀ k, (rs.take k).flatten.length ≤ k * 1000000
  | 0 => by simp
  | k + 1 => by
    have ih := flat_short2 hm k
    by_cases h : k < rs.length
    · rw [flat_snoc h, List.length_append]
      have h1 := hm _ (List.getElem_mem h)
      rw [Nat.succ_mul]
      exact Nat.add_le_add ih h1
    · rw [List.take_of_length_le (by omega)] at ih ⊢
      exact Nat.le_trans ih (Nat.mul_le_mul_right _ (by omega))
theorem outI_more {B : Nat} {W : World} {v : Value} {a b : List Int} (h : W.ownsRow B 3 1 v (a.length + b.length) (ints a ++ ints b)) : OutI B W v (a ++ b) := outI_put h
set_option maxRecDepth 100000 in
set_option maxHeartbeats 8000000 in
theorem pconcat_any (A : Option Addr) (cap : Nat) (rs : List (List Int)) (w : World) (h : Trav w (.slice A rs.length cap) rs) (hn : rs.length ≤ 1000) (hm : ∀ r ∈ rs, r.length ≤ 1000000) :
    Calls Try.prog 51 #[.slice A rs.length cap] w (NewRow 3 1 rs.flatten.length (ints rs.flatten) w) := by
  obtain ⟨i0, hi0, hz0, hz1, hz2⟩ := info_parts int_info
  have HR := Lib.hid h
  have HM := Lib.hid hm
  have HS := Lib.hid (flat_short2 hm)
  have HN := Lib.hid hn
  clear h hm
  go_enter Try.func51, Try.ntmps51
  go_wp2_with (fail)
  go_loopw [3, 11] (fun sv kv wr => ∃ k : Nat, k ≤ rs.length ∧ kv = .int .i64 k ∧ (∃ t : Nat, sv = .int .i64 t ∧ Hid (t = (rs.take k).flatten.length)) ∧ Hid (Below w.heap.size w wr)) (fun _ kv _ => rs.length - (intOf kv).toNat)
  case atStart => exact ⟨0, Nat.zero_le _, rfl, ⟨0, rfl, Lib.hid (by simp)⟩, Lib.hid (Below.refl _ _)⟩
  case round =>
    obtain ⟨k, hk, rfl, ⟨t, rfl, ht⟩, hb⟩ := hrel
    by_cases hlt : k < rs.length
    · obtain ⟨B1, o1, Ar, cr, eA, hB1, d0, hrr⟩ := trav_at HR.out hlt
      subst eA
      have x0 : wr.cell? ⟨B1, o1 + k, none⟩ = some (.slice Ar rs[k].length cr) := by rw [hb.out.cell hB1]; exact d0
      have HT := Lib.hid (flat_snoc hlt)
      have hrl := HM.out _ (List.getElem_mem hlt)
      have hbd : t ≤ 1000000000 := by
        have h1 := HS.out k
        have h2 := ht.out
        have h3 := HN.out
        omega
      clear d0 hrr
      generalize rs[k] = r at *
      have q1 : ¬ ((t : Int) + (r.length : Int)) < 0 := by omega
      have q2 : wrap64 ((t : Int) + (r.length : Int)) = (t : Int) + (r.length : Int) := by unfold wrap64; omega
      go_wp2_with (fail)
      go_roundw
      case rel => exact ⟨k + 1, by omega, by go_num, ⟨t + r.length, by push_cast; rfl, Lib.hid (by rw [HT.out, List.length_append, ht.out])⟩, hb⟩
      case measure => simp [intOf]; omega
    · have HT : Hid (t = rs.flatten.length) := Lib.hid (by have := ht.out; rwa [List.take_of_length_le (by omega)] at this)
      have hbd : t ≤ 1000000000 := by
        have h1 := HS.out rs.length
        rw [List.take_length] at h1
        have h2 := HT.out
        have h3 := HN.out
        omega
      have KG := Lib.hid (grow_own t wr hbd)
      clear ht
      go_wp2_with (go_at_call 71; fail)
      go_at_call 71
      refine KG.out.mono ?_
      rintro e w1 ⟨v1, rfl, ho, hb1⟩
      have HO1 : Hid (OutI w.heap.size w1 v1 (rs.take 0).flatten) := Lib.hid (own_lower ho hb.out.size)
      have HB1 : Hid (Below w.heap.size w w1) := Lib.hid (hb.out.trans (hb1.mono hb.out.size))
      clear ho hb1 KG
      go_wp2_with (fail)
      go_loopw [6, 27] (fun ov kv wv => ∃ k : Nat, k ≤ rs.length ∧ kv = .int .i64 k ∧ Hid (OutI w.heap.size wv ov (rs.take k).flatten) ∧ Hid (Below w.heap.size w wv)) (fun _ kv _ => rs.length - (intOf kv).toNat)
      case atStart => exact ⟨0, Nat.zero_le _, rfl, HO1, HB1⟩
      case round =>
        obtain ⟨k, hk, rfl, ho, hb⟩ := hrel
        by_cases hlt : k < rs.length
        · obtain ⟨B1, o1, Ar, cr, eA, hB1, d0, hrr⟩ := trav_at HR.out hlt
          subst eA
          have x0 : wr.cell? ⟨B1, o1 + k, none⟩ = some (.slice Ar rs[k].length cr) := by rw [hb.out.cell hB1]; exact d0
          have HT := Lib.hid (flat_snoc hlt)
          have hrl := HM.out _ (List.getElem_mem hlt)
          have RN := Lib.hid ((recs_reads1 hrr).below hb.out)
          have hbd2 : (rs.take k).flatten.length ≤ 1000000000 := by
            have h1 := HS.out k
            have h3 := HN.out
            omega
          clear d0 hrr
          generalize rs[k] = r at *
          generalize (rs.take k).flatten = y at *
          have OW := Lib.hid ho.out
          clear ho
          go_wp2_with (at_builtin; refine wpList_append_any _ rfl _ _ 28 rfl w.heap.size 3 i0 _ 1 8 Try.underlying28 hi0 hz0 hz1 hz2 rfl (by decide) _ y.length (ints y) rfl OW.out w.heap.size Ar r.length cr (ints r) rfl RN.out ?c1 ?c2 ?c3 ?c4 ?_)
          case c1 => exact ints_one _
          case c2 => unfold maxLen; omega
          case c3 => omega
          case c4 => exact hb.out.size
          intro v' w4 hown hgrow hob
          have HO4 := Lib.hid (outI_more hown)
          have HB4 : Hid (Below w.heap.size w w4) := Lib.hid (hb.out.grown hgrow hb.out.size (fun g hg => (own_typed OW.out hg).2))
          clear hown hgrow hob
          go_wp2_with (fail)
          go_roundw
          case rel => exact ⟨k + 1, by omega, by go_num, Lib.hid (by rw [HT.out]; exact HO4.out), HB4⟩
          case measure => simp [intOf]; omega
        · have HF : Hid (OutI w.heap.size wr _ rs.flatten) := Lib.hid (by have := ho.out; rwa [List.take_of_length_le (by omega)] at this)
          clear ho
          go_wp2_with (fail)
          go_ret
          exact ⟨_, rfl, HF.out, hb.out⟩
set_option maxRecDepth 100000 in
set_option maxHeartbeats 8000000 in
theorem ptwice_any (A : Option Addr) (cap : Nat) (rs : List (List Int)) (w : World) (h : Trav w (.slice A rs.length cap) rs) (hn : rs.length ≤ 1000) (hm : ∀ r ∈ rs, r.length ≤ 1000000) :
    Calls Try.prog 24 #[.slice A rs.length cap] w fun e w' => e = .returned (.bool (twiceI rs.flatten)) ∧ Below w.heap.size w w' := by
  have KC := Lib.hid (pconcat_any A cap rs w h hn hm)
  have hlen : rs.flatten.length ≤ 1000000000 := by
    have h1 := flat_short2 hm rs.length
    rw [List.take_length] at h1
    omega
  obtain ⟨l, hl⟩ : ∃ l, l = rs.flatten := ⟨_, rfl⟩
  rw [← hl] at KC hlen
  rw [← hl]
  have HT : Hid (twiceI l = decide ((Lib.compact (sortI l)).length < l.length)) := Lib.hid rfl
  clear h hm hl
  go_enter Try.func24, Try.ntmps24
  go_wp2_with (go_at_call 51; fail)
  go_at_call 51
  refine KC.out.mono ?_
  rintro e w1 ⟨v, rfl, ho, hb1⟩
  have HB1 := Lib.hid hb1
  have KSo := Lib.hid (sort_own w.heap.size v l w1 ho (by omega))
  obtain ⟨A1, C1, rfl, _⟩ := own_slice_n ho
  clear ho hb1 KC
  go_wp2_with (go_at_call 52; fail)
  (with_reducible refine KSo.out.mono ?_)
  rintro e w5 ⟨rfl, hown, hgr⟩
  have HO5 : Hid (w5.ownsRow w.heap.size 3 1 (.slice A1 l.length C1) (sortI l).length (ints (sortI l))) := Lib.hid (by rw [sortI_length]; exact hown)
  have HB5 : Hid (Below w.heap.size w w5) := Lib.hid (HB1.out.grown hgr HB1.out.size (fun g hg => (own_typed hown hg).2))
  have KCo := Lib.hid (compact_own w.heap.size _ (sortI l) w5 HO5.out (by rw [sortI_length]; omega))
  clear hown hgr KSo
  go_wp2_with (go_at_call 53; fail)
  refine KCo.out.mono ?_
  rintro e w6 ⟨v6', rfl, hown, hgr, hle⟩
  have HB6 : Hid (Below w.heap.size w w6) := Lib.hid (HB5.out.grown hgr HB5.out.size (fun g hg => (own_typed HO5.out hg).2))
  obtain ⟨A2, C2, rfl, _⟩ := own_slice_n hown
  clear hown hgr hle KCo HO5
  generalize (Lib.compact (sortI l)).length = n1 at *
  generalize l.length = n2 at *
  go_wp2_with (fail)
  go_ret
  exact ⟨by rw [HT.out]; rfl, HB6.out⟩
end Go.Proofs.Ytpccoflebfblbaa
