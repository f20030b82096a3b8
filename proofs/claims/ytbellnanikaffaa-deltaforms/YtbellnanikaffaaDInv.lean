/- Inverse: each Before is After, and the other way round (laid by gen_dinv.py). -/
import Derived.Test.YtbellnanikaffaaDSort
import Derived.Test.YtbellnanikaffaaOrdersSkip
namespace Go.Proofs.Ytbellnanikaffaa
open Go.RowKit
set_option linter.unusedSimpArgs false

theorem own_store {w : World} {B : Nat} {e : TypeId} {size n g cap : Nat} {xs : List Value} (h : w.ownsRow B e size (.slice (some ⟨g, 0, none⟩) n cap) n xs) (j : Nat) (u : Value) : (w.setCell ⟨g, j, none⟩ u).ownsRow B e size (.slice (some ⟨g, 0, none⟩) n cap) n (xs.set j u) := by
  refine ⟨by rw [List.length_set]; exact h.1, ?_⟩
  rcases h.2 with ⟨h0, _⟩ | ⟨g', cap', cur, hv, hbase, hb, h1, h2, h3, h4⟩
  · cases h0
  · injection hv with hg _ hc
    injection hg with hg
    injection hg with hg _ _
    subst hg hc
    refine .inr ⟨g, cap, _, rfl, hbase, heap_set hb j u, h1, h2, by simpa using h3, ?_⟩
    rw [Array.toList_setIfInBounds, List.take_set, h4]
theorem own_cell {w : World} {B : Nat} {e : TypeId} {size n g cap : Nat} {xs : List Value} (h : w.ownsRow B e size (.slice (some ⟨g, 0, none⟩) n cap) n xs) {j : Nat} (hj : j < n * size) : ∃ u, w.cell? ⟨g, j, none⟩ = some u ∧ w.frozen? ⟨g, j, none⟩ = false := by
  rcases h.2 with ⟨h0, _⟩ | ⟨g', cap', cur, hv, hbase, hb, h1, h2, h3, h4⟩
  · cases h0
  · injection hv with hg _ hc
    injection hg with hg
    injection hg with hg _ _
    subst hg hc
    have hx : j < cur.size := by rw [h3]; exact Nat.lt_of_lt_of_le hj (Nat.mul_le_mul_right _ h1)
    have := (blk_of_heap hb).2 j (by simpa using hx)
    exact ⟨_, this.1, this.2⟩
theorem set_flat {α : Type} {c : Nat} {f : α → List Value} (hf : ∀ x, (f x).length = c) (p q : List α) (x y : α) : ∀ (j : Nat) (u : Value), j < c → (f y) = (f x).set j u → ((p ++ x :: q).flatMap f).set (p.length * c + j) u = (p ++ y :: q).flatMap f := by
  intro j u hj hy
  rw [List.flatMap_append, List.flatMap_append, List.flatMap_cons, List.flatMap_cons, List.set_append_right _ _ (by rw [flat_len hf]; omega), flat_len hf, Nat.add_sub_cancel_left, List.set_append_left _ _ (by rw [hf]; exact hj), hy]
set_option maxRecDepth 100000 in
set_option maxHeartbeats 4000000 in
theorem invHolds_any (A : Option Addr) (cap : Nat) (l : List Hold) (w : World) (h : Rows w 3 Hold.cells (.slice A l.length cap) l) (hl : l.length ≤ 100000) :
    Calls Try.prog 26 #[.slice A l.length cap] w (NewRow 27 3 l.length ((l.map Hold.flip).flatMap Hold.cells) w) := by
  have HR := Lib.hid h
  have KC := Lib.hid (clone_holds A cap l w h (by omega))
  clear h
  go_enter Try.func26, Try.ntmps26
  go_wp2_with (go_at_call 39; refine KC.out.mono ?_; rintro e w1 ⟨v, rfl, ho, hb⟩)
  obtain ⟨AV, CV, rfl, _⟩ := own_slice_n ho
  have HB1 := Lib.hid hb
  have HO1 := Lib.hid ho
  clear ho hb KC
  go_loopw [10] (fun kv wr => ∃ k : Nat, k ≤ l.length ∧ kv = .int .i64 k ∧ Hid (wr.ownsRow w.heap.size 27 3 (.slice AV l.length CV) l.length (((l.take k).map Hold.flip ++ l.drop k).flatMap Hold.cells)) ∧ Hid (Below w.heap.size w wr)) (fun kv _ => l.length - (intOf kv).toNat)
  case atStart => exact ⟨0, Nat.zero_le _, rfl, by simpa using HO1, HB1⟩
  case round =>
    obtain ⟨k, hk, rfl, HO, HB⟩ := hrel
    by_cases hlt : k < l.length
    · obtain ⟨B, o, rfl, hB, d0, d1, d2⟩ := HR.out.hold hlt
      have c0 : wr.cell? ⟨B, o + k * 3, none⟩ = some (.int .i64 l[k].n) := by rw [HB.out.cell hB]; exact d0
      have c1 : wr.cell? ⟨B, o + k * 3 + 1, none⟩ = some (.int .i64 l[k].b) := by rw [HB.out.cell hB]; exact d1
      have c2 : wr.cell? ⟨B, o + k * 3 + 2, none⟩ = some (.int .i64 l[k].a) := by rw [HB.out.cell hB]; exact d2
      clear d0 d1 d2
      obtain ⟨g, cap', hv, hge, hg⟩ := HO.out.form (by omega)
      obtain ⟨rfl, rfl⟩ : AV = some ⟨g, 0, none⟩ ∧ CV = cap' := by injection hv with a _ b; exact ⟨a, b⟩
      clear hv
      have HT : Hid (l.take (k + 1) = l.take k ++ [l[k]]) := take_snoc hlt
      have HD : Hid (l.drop k = l[k] :: l.drop (k + 1)) := List.drop_eq_getElem_cons hlt
      have HL : Hid ((l.take k).length = k) := by show _ = _; rw [List.length_take]; omega
      generalize l[k] = x at *
      have BX := Lib.hid (blk_new wr #[.int .i64 x.n, .int .i64 x.b, .int .i64 x.a] 27)
      have HB2 := Lib.hid (HB.out.alloc HB.out.size (.cells #[.int .i64 x.n, .int .i64 x.b, .int .i64 x.a] 27))
      have HO2 := Lib.hid (World.ownsRow.alloc HO.out (.cells #[.int .i64 x.n, .int .i64 x.b, .int .i64 x.a] 27))
      go_upto_region 5 with (fail)
      generalize hw2 : wr.alloc (.cells #[.int .i64 x.n, .int .i64 x.b, .int .i64 x.a] 27) = w2 at *
      have a1 : w2.drew.cell? ⟨wr.heap.size, 1, none⟩ = some (.int .i64 x.b) := (BX.out.2 1 (by simp)).1
      have a2 : w2.drew.cell? ⟨wr.heap.size, 2, none⟩ = some (.int .i64 x.a) := (BX.out.2 2 (by simp)).1
      have HB3 : Hid (Below w.heap.size w w2.drew) := Lib.hid HB2.out.drew
      have HO3 : Hid (w2.drew.ownsRow w.heap.size _ 3 _ l.length _) := HO2
      generalize wr.heap.size = T at *
      clear hw2 c0 c1 c2 BX HB2 HO2 HO HB
      have n0 : (0 : Int) ≤ (k : Int) := by omega
      have n1 : (k : Int) < (l.length : Int) := by omega
      have n2 : (k : Int).toNat = k := by omega
      have hgT : g ≠ T := by omega
      refine wp_region_z (S := (fun W => W.cell? ⟨T, 1, none⟩ = some (.int .i64 x.b) ∧ W.cell? ⟨T, 2, none⟩ = some (.int .i64 x.a))) (z := 14) (by kernel_rfl) ⟨a1, a2⟩ (fun hH => ?_)
      generalize w2.drew = w3 at *
      obtain ⟨u1, p1, q1⟩ := own_cell HO3.out (j := k * 3 + 1) (by omega)
      refine wpAnyZ_takeS (i := 0) (v := ?_) rfl (by kernel_rfl) (by kernel_rfl) (by kernel_rfl) (by kernel_rfl) (fun _ _ _ h => h) (gives_value (by rfl) ?_) (by assumption) ?_
      rotate_left
      · intro w hSw
        obtain ⟨s1, s2⟩ := hSw
        go_simp
        (try with_reducible rfl)
      (try simp only [Act.put, List.getElem_toArray, List.getElem_cons_succ, List.getElem_cons_zero, List.setIfInBounds_toArray, List.set_cons_zero, List.set_cons_succ])
      refine wpAnyZ_takeS (i := 1) (v := ?_) rfl (by kernel_rfl) (by kernel_rfl) (by kernel_rfl) (by kernel_rfl) (fun _ _ _ h => h) (gives_value (by rfl) ?_) (by assumption) ?_
      rotate_left
      · intro w hSw
        obtain ⟨s1, s2⟩ := hSw
        go_simp
        (try with_reducible rfl)
      (try simp only [Act.put, List.getElem_toArray, List.getElem_cons_succ, List.getElem_cons_zero, List.setIfInBounds_toArray, List.set_cons_zero, List.set_cons_succ])
      refine wpAnyZ_takeS (i := 2) (v := ?_) rfl (by kernel_rfl) (by kernel_rfl) (by kernel_rfl) (by kernel_rfl) (fun _ _ _ h => h) (gives_value (by rfl) ?_) (by assumption) ?_
      rotate_left
      · intro w hSw
        obtain ⟨s1, s2⟩ := hSw
        go_simp
        (try with_reducible rfl)
      (try simp only [Act.put, List.getElem_toArray, List.getElem_cons_succ, List.getElem_cons_zero, List.setIfInBounds_toArray, List.set_cons_zero, List.set_cons_succ])
      refine wpAnyZ_takeS (i := 3) (v := ?_) rfl (by kernel_rfl) (by kernel_rfl) (by kernel_rfl) (by kernel_rfl) (fun _ _ _ h => h) (gives_value (by rfl) ?_) (by assumption) ?_
      rotate_left
      · intro w hSw
        obtain ⟨s1, s2⟩ := hSw
        go_simp
        (try with_reducible rfl)
      (try simp only [Act.put, List.getElem_toArray, List.getElem_cons_succ, List.getElem_cons_zero, List.setIfInBounds_toArray, List.set_cons_zero, List.set_cons_succ])
      refine wpAnyZ_takeS (i := 4) (v := ?_) rfl (by kernel_rfl) (by kernel_rfl) (by kernel_rfl) (by kernel_rfl) (fun _ _ _ h => h) (gives_value (by rfl) ?_) (by assumption) ?_
      rotate_left
      · intro w hSw
        obtain ⟨s1, s2⟩ := hSw
        go_simp
        (try with_reducible rfl)
      (try simp only [Act.put, List.getElem_toArray, List.getElem_cons_succ, List.getElem_cons_zero, List.setIfInBounds_toArray, List.set_cons_zero, List.set_cons_succ])
      refine wpAnyZ_takeS (i := 5) (v := ?_) rfl (by kernel_rfl) (by kernel_rfl) (by kernel_rfl) (by kernel_rfl) (fun _ _ _ h => h) (gives_value (by rfl) ?_) (by assumption) ?_
      rotate_left
      · intro w hSw
        obtain ⟨s1, s2⟩ := hSw
        go_simp
        (try with_reducible rfl)
      (try simp only [Act.put, List.getElem_toArray, List.getElem_cons_succ, List.getElem_cons_zero, List.setIfInBounds_toArray, List.set_cons_zero, List.set_cons_succ])
      refine wpAnyZ_takeS (i := 6) (v := ?_) rfl (by kernel_rfl) (by kernel_rfl) (by kernel_rfl) (by kernel_rfl) (fun _ _ _ h => h) (gives_value (by rfl) ?_) (by assumption) ?_
      rotate_left
      · intro w hSw
        obtain ⟨s1, s2⟩ := hSw
        go_simp
        (try with_reducible rfl)
      (try simp only [Act.put, List.getElem_toArray, List.getElem_cons_succ, List.getElem_cons_zero, List.setIfInBounds_toArray, List.set_cons_zero, List.set_cons_succ])
      refine wpAnyZ_takeS (i := 7) (v := ?_) rfl (by kernel_rfl) (by kernel_rfl) (by kernel_rfl) (by kernel_rfl) (fun _ _ _ h => h) (gives_value (by rfl) ?_) (by assumption) ?_
      rotate_left
      · intro w hSw
        obtain ⟨s1, s2⟩ := hSw
        go_simp
        (try with_reducible rfl)
      (try simp only [Act.put, List.getElem_toArray, List.getElem_cons_succ, List.getElem_cons_zero, List.setIfInBounds_toArray, List.set_cons_zero, List.set_cons_succ])
      refine wpAnyZ_takeS (i := 8) (v := ?_) rfl (by kernel_rfl) (by kernel_rfl) (by kernel_rfl) (by kernel_rfl) (fun _ _ _ h => h) (gives_value (by rfl) ?_) (by assumption) ?_
      rotate_left
      · intro w hSw
        obtain ⟨s1, s2⟩ := hSw
        go_simp
        (try with_reducible rfl)
      (try simp only [Act.put, List.getElem_toArray, List.getElem_cons_succ, List.getElem_cons_zero, List.setIfInBounds_toArray, List.set_cons_zero, List.set_cons_succ])
      refine wpAnyZ_takeS (i := 9) (v := ?_) rfl (by kernel_rfl) (by kernel_rfl) (by kernel_rfl) (by kernel_rfl) (fun _ _ _ h => h) (gives_value (by rfl) ?_) (by assumption) ?_
      rotate_left
      · intro w hSw
        obtain ⟨s1, s2⟩ := hSw
        go_simp
        (try with_reducible rfl)
      (try simp only [Act.put, List.getElem_toArray, List.getElem_cons_succ, List.getElem_cons_zero, List.setIfInBounds_toArray, List.set_cons_zero, List.set_cons_succ])
      refine wpAnyZ_one (i := 10) (by kernel_rfl) ?_
      refine zstep rfl (fun K hK => ?_)
      go_simp
      have HO4 := Lib.hid (own_store HO3.out (k * 3 + 1) (.int .i64 x.a))
      have HB4 : Hid (Below w.heap.size w (w3.setCell ⟨g, k * 3 + 1, none⟩ (.int .i64 x.a))) := Lib.hid (HB3.out.setCell hge _)
      have b1 : (w3.setCell ⟨g, k * 3 + 1, none⟩ (.int .i64 x.a)).cell? ⟨T, 1, none⟩ = some (.int .i64 x.b) := by rw [World.cell?_setCell_other _ _ _ _ (fun e => hgT (by injection e))]; exact a1
      have b2 : (w3.setCell ⟨g, k * 3 + 1, none⟩ (.int .i64 x.a)).cell? ⟨T, 2, none⟩ = some (.int .i64 x.a) := by rw [World.cell?_setCell_other _ _ _ _ (fun e => hgT (by injection e))]; exact a2
      generalize w3.setCell ⟨g, k * 3 + 1, none⟩ (.int .i64 x.a) = w4 at *
      refine hK.out _ _ (fun _ => ⟨b1, b2⟩) (fun hH => ?_)
      replace hH := hH (by decide)
      clear hK K
      (try simp only [Act.put, List.getElem_toArray, List.getElem_cons_succ, List.getElem_cons_zero, List.setIfInBounds_toArray, List.set_cons_zero, List.set_cons_succ])
      obtain ⟨u2, p2, q2⟩ := own_cell HO4.out (j := k * 3 + 2) (by omega)
      refine wpAnyZ_takeS (i := 11) (v := ?_) rfl (by kernel_rfl) (by kernel_rfl) (by kernel_rfl) (by kernel_rfl) (fun _ _ _ h => h) (gives_value (by rfl) ?_) (by assumption) ?_
      rotate_left
      · intro w hSw
        obtain ⟨s1, s2⟩ := hSw
        go_simp
        (try with_reducible rfl)
      (try simp only [Act.put, List.getElem_toArray, List.getElem_cons_succ, List.getElem_cons_zero, List.setIfInBounds_toArray, List.set_cons_zero, List.set_cons_succ])
      refine wpAnyZ_takeS (i := 12) (v := ?_) rfl (by kernel_rfl) (by kernel_rfl) (by kernel_rfl) (by kernel_rfl) (fun _ _ _ h => h) (gives_value (by rfl) ?_) (by assumption) ?_
      rotate_left
      · intro w hSw
        obtain ⟨s1, s2⟩ := hSw
        go_simp
        (try with_reducible rfl)
      (try simp only [Act.put, List.getElem_toArray, List.getElem_cons_succ, List.getElem_cons_zero, List.setIfInBounds_toArray, List.set_cons_zero, List.set_cons_succ])
      refine wpAnyZ_one (i := 13) (by kernel_rfl) ?_
      refine zstep rfl (fun K hK => ?_)
      go_simp
      have HO5 := Lib.hid (own_store HO4.out (k * 3 + 2) (.int .i64 x.b))
      have HB5 : Hid (Below w.heap.size w (w4.setCell ⟨g, k * 3 + 2, none⟩ (.int .i64 x.b))) := Lib.hid (HB4.out.setCell hge _)
      have b3 : (w4.setCell ⟨g, k * 3 + 2, none⟩ (.int .i64 x.b)).cell? ⟨T, 1, none⟩ = some (.int .i64 x.b) := by rw [World.cell?_setCell_other _ _ _ _ (fun e => hgT (by injection e))]; exact b1
      have b4 : (w4.setCell ⟨g, k * 3 + 2, none⟩ (.int .i64 x.b)).cell? ⟨T, 2, none⟩ = some (.int .i64 x.a) := by rw [World.cell?_setCell_other _ _ _ _ (fun e => hgT (by injection e))]; exact b2
      generalize w4.setCell ⟨g, k * 3 + 2, none⟩ (.int .i64 x.b) = w5 at *
      refine hK.out _ _ (fun _ => ⟨b3, b4⟩) (fun hH => ?_)
      replace hH := hH (by decide)
      clear hK K
      (try simp only [Act.put, List.getElem_toArray, List.getElem_cons_succ, List.getElem_cons_zero, List.setIfInBounds_toArray, List.set_cons_zero, List.set_cons_succ])
      refine wpAnyZ_done (by kernel_rfl) ?_ _
      go_wp2
      go_roundw
      case rel =>
        refine ⟨k + 1, by omega, by go_num, ?_, HB5⟩
        have e1 := set_flat hold_len ((l.take k).map Hold.flip) (l.drop (k + 1)) x ⟨x.n, x.a, x.a⟩ 1 (.int .i64 x.a) (by omega) rfl
        have e2 := set_flat hold_len ((l.take k).map Hold.flip) (l.drop (k + 1)) ⟨x.n, x.a, x.a⟩ x.flip 2 (.int .i64 x.b) (by omega) rfl
        rw [List.length_map, HL.out] at e1 e2
        have := HO5.out
        rw [HD.out, e1, e2] at this
        rw [HT.out, List.map_append]
        simpa using Lib.hid this
      case measure => simp [intOf]; omega
    · have hk' : k = l.length := by omega
      have HE : Hid (wr.ownsRow w.heap.size 27 3 (.slice AV l.length CV) l.length ((l.map Hold.flip).flatMap Hold.cells)) := by
        have := HO.out
        rw [hk', List.take_of_length_le (Nat.le_refl _), List.drop_eq_nil_of_le (Nat.le_refl _), List.append_nil] at this
        exact Lib.hid this
      go_wp2
      go_ret
      exact ⟨_, rfl, HE.out, HB.out⟩

def Turn.pl (t : Turn) : Int × List Int × List Int := (t.c, t.b, t.a)
def Turn.fl (t : Turn) : Int × List Int × List Int := (t.c, t.a, t.b)
/-- both rows of a turn are owned -/
def TOwn (B : Nat) (W : World) (t : Turn) : Prop := W.ownsRow B 3 1 t.x t.b.length (ints t.b) ∧ W.ownsRow B 3 1 t.y t.a.length (ints t.a)
theorem TOwn.below {B : Nat} {W W' : World} {t : Turn} (h : TOwn B W t) (hb : Below W.heap.size W W') : TOwn B W' t := ⟨own_below h.1 hb, own_below h.2 hb⟩
theorem TOwn.set {B : Nat} {W : World} {t : Turn} (h : TOwn B W t) {g : Nat} (hg : Typed W g 24) (k : Nat) (u : Value) : TOwn B (W.setCell ⟨g, k, none⟩ u) t := by
  obtain ⟨cur, hc⟩ := hg
  exact ⟨out_set hc h.1 (by decide), out_set hc h.2 (by decide)⟩
theorem TOwn.ok {B : Nat} {W : World} {t : Turn} (h : TOwn B W t) : t.ok W := ⟨own_recs1 h.1, own_recs1 h.2⟩
theorem TOwn.low {B B' : Nat} {W : World} {t : Turn} (h : TOwn B W t) (hB : B' ≤ B) : TOwn B' W t := ⟨own_lower h.1 hB, own_lower h.2 hB⟩
theorem TOwn.one {B : Nat} {W : World} {t : Turn} (h : TOwn B W t) : t.x.oneCell' = true ∧ t.y.oneCell' = true := by
  obtain ⟨A, c, hx, _⟩ := own_slice_n h.1
  obtain ⟨A2, c2, hy, _⟩ := own_slice_n h.2
  exact ⟨by rw [hx]; rfl, by rw [hy]; rfl⟩
/-- a new row of turns, their rows new as well -/
def NewT (B : Nat) (W : World) (v : Value) (l : List Turn) : Prop := OutT B W v l ∧ ∀ t ∈ l, TOwn B W t
theorem NewT.below {B : Nat} {W W' : World} {v : Value} {l : List Turn} (h : NewT B W v l) (hb : Below W.heap.size W W') : NewT B W' v l := ⟨own_below h.1 hb, fun t ht => (h.2 t ht).below hb⟩
theorem NewT.low {B B' : Nat} {W : World} {v : Value} {l : List Turn} (h : NewT B W v l) (hB : B' ≤ B) : NewT B' W v l := ⟨own_lower h.1 hB, fun t ht => (h.2 t ht).low hB⟩
theorem NewT.turns {B : Nat} {W : World} {A : Option Addr} {cap : Nat} {l : List Turn} (h : NewT B W (.slice A l.length cap) l) : Turns W (.slice A l.length cap) l := ⟨Rows.of_own h.1 turn_len, fun t ht => (h.2 t ht).ok⟩
set_option maxRecDepth 100000 in
set_option maxHeartbeats 4000000 in
theorem invTurns_any (A : Option Addr) (cap : Nat) (l : List Turn) (w : World) (h : Turns w (.slice A l.length cap) l) (hl : l.length ≤ 100000) (hm : ∀ t ∈ l, t.b.length ≤ 1000000 ∧ t.a.length ≤ 1000000) :
    Calls Try.prog 25 #[.slice A l.length cap] w fun e w' => ∃ v f, e = .returned v ∧ NewT w.heap.size w' v f ∧ f.map Turn.pl = l.map Turn.fl ∧ Below w.heap.size w w' := by
  have HR := Lib.hid h
  have HM := Lib.hid hm
  have KC := Lib.hid (clone_turns A cap l w h (by omega))
  clear h hm
  go_enter Try.func25, Try.ntmps25
  go_wp2_with (go_at_call 38; refine KC.out.mono ?_; rintro e w1 ⟨v, rfl, ho, hb⟩)
  obtain ⟨AV, CV, rfl, _⟩ := own_slice_n ho
  have HB1 := Lib.hid hb
  have HO1 := Lib.hid ho
  clear ho hb KC
  go_loopw [10] (fun kv wr => ∃ (k : Nat) (f : List Turn), k ≤ l.length ∧ kv = .int .i64 k ∧ Hid (f.length = k ∧ f.map Turn.pl = (l.take k).map Turn.fl) ∧ Hid (wr.ownsRow w.heap.size 24 3 (.slice AV l.length CV) l.length ((f ++ l.drop k).flatMap Turn.cells)) ∧ Hid (∀ t ∈ f, TOwn w.heap.size wr t) ∧ Hid (Below w.heap.size w wr)) (fun kv _ => l.length - (intOf kv).toNat)
  case atStart => exact ⟨0, [], Nat.zero_le _, rfl, Lib.hid ⟨rfl, rfl⟩, by simpa using HO1, Lib.hid (fun t ht => by cases ht), HB1⟩
  case round =>
    obtain ⟨k, f, hk, rfl, HF, HO, HN, HB⟩ := hrel
    by_cases hlt : k < l.length
    · obtain ⟨B, o, rfl, hB, d0, d1, d2⟩ := HR.out.1.turn hlt
      have c0 : wr.cell? ⟨B, o + k * 3, none⟩ = some (.int .i64 l[k].c) := by rw [HB.out.cell hB]; exact d0
      have c1 : wr.cell? ⟨B, o + k * 3 + 1, none⟩ = some l[k].x := by rw [HB.out.cell hB]; exact d1
      have c2 : wr.cell? ⟨B, o + k * 3 + 2, none⟩ = some l[k].y := by rw [HB.out.cell hB]; exact d2
      clear d0 d1 d2
      obtain ⟨g, cap', hv, hge, hg⟩ := HO.out.form (by omega)
      obtain ⟨rfl, rfl⟩ : AV = some ⟨g, 0, none⟩ ∧ CV = cap' := by injection hv with a _ b; exact ⟨a, b⟩
      clear hv
      have HT : Hid (l.take (k + 1) = l.take k ++ [l[k]]) := take_snoc hlt
      have HD : Hid (l.drop k = l[k] :: l.drop (k + 1)) := List.drop_eq_getElem_cons hlt
      have HX := Lib.hid (HR.out.2 _ (List.getElem_mem hlt))
      have hlen := HM.out _ (List.getElem_mem hlt)
      generalize l[k] = x at *
      obtain ⟨xc, xx, xy, xb, xa⟩ := x
      obtain ⟨⟨A1, p1, e1, R1⟩, A2, p2, e2, R2⟩ := HX.out
      dsimp only at e1 e2 c0 c1 c2 hlen
      subst e1 e2
      have L1 := Lib.hid (fun W (hb : Below w.heap.size w W) => clone_own A1 p1 xb W ((show Recs w 1 num_ _ xb from ⟨A1, p1, rfl, R1⟩).below hb) hlen.1)
      have L2 := Lib.hid (fun W (hb : Below w.heap.size w W) => clone_own A2 p2 xa W ((show Recs w 1 num_ _ xa from ⟨A2, p2, rfl, R2⟩).below hb) hlen.2)
      clear R1 R2 HX hlen
      have BX := Lib.hid (blk_new wr #[.int .i64 xc, .slice A1 xb.length p1, .slice A2 xa.length p2] 24)
      have HB2 := Lib.hid (HB.out.alloc HB.out.size (.cells #[.int .i64 xc, .slice A1 xb.length p1, .slice A2 xa.length p2] 24))
      have HO2 := Lib.hid (World.ownsRow.alloc HO.out (.cells #[.int .i64 xc, .slice A1 xb.length p1, .slice A2 xa.length p2] 24))
      have HN2 := Lib.hid (fun t ht => (HN.out t ht).below ((Below.refl wr.heap.size wr).alloc (Nat.le_refl _) (.cells #[.int .i64 xc, .slice A1 xb.length p1, .slice A2 xa.length p2] 24)))
      go_upto_region 5 with (fail)
      generalize hw2 : wr.alloc (.cells #[.int .i64 xc, .slice A1 xb.length p1, .slice A2 xa.length p2] 24) = w2 at *
      have a1 : w2.drew.cell? ⟨wr.heap.size, 1, none⟩ = some (.slice A1 xb.length p1) := (BX.out.2 1 (by simp)).1
      have a2 : w2.drew.cell? ⟨wr.heap.size, 2, none⟩ = some (.slice A2 xa.length p2) := (BX.out.2 2 (by simp)).1
      have HB3 : Hid (Below w.heap.size w w2.drew) := Lib.hid HB2.out.drew
      have HO3 : Hid (w2.drew.ownsRow w.heap.size _ 3 _ l.length _) := HO2
      have HN3 : Hid (∀ t ∈ f, TOwn w.heap.size w2.drew t) := HN2
      have hT2 : wr.heap.size < w2.drew.heap.size := BX.out.1
      generalize wr.heap.size = T at *
      clear hw2 c0 c1 c2 BX HB2 HO2 HN2 HO HN HB
      have n0 : (0 : Int) ≤ (k : Int) := by omega
      have n1 : (k : Int) < (l.length : Int) := by omega
      have n2 : (k : Int).toNat = k := by omega
      have hgT : g ≠ T := by omega
      refine wp_region_z (S := (fun W => W.cell? ⟨T, 1, none⟩ = some (.slice A1 xb.length p1) ∧ W.cell? ⟨T, 2, none⟩ = some (.slice A2 xa.length p2))) (z := 16) (by kernel_rfl) ⟨a1, a2⟩ (fun hH => ?_)
      generalize w2.drew = w3 at *
      refine wpAnyZ_takeS (i := 0) (v := ?_) rfl (by kernel_rfl) (by kernel_rfl) (by kernel_rfl) (by kernel_rfl) (fun _ _ _ h => h) (gives_value (by rfl) ?_) (by assumption) ?_
      rotate_left
      · intro w hSw
        obtain ⟨s1, s2⟩ := hSw
        go_simp
        (try with_reducible rfl)
      (try simp only [Act.put, List.getElem_toArray, List.getElem_cons_succ, List.getElem_cons_zero, List.setIfInBounds_toArray, List.set_cons_zero, List.set_cons_succ])
      refine wpAnyZ_takeS (i := 1) (v := ?_) rfl (by kernel_rfl) (by kernel_rfl) (by kernel_rfl) (by kernel_rfl) (fun _ _ _ h => h) (gives_value (by rfl) ?_) (by assumption) ?_
      rotate_left
      · intro w hSw
        obtain ⟨s1, s2⟩ := hSw
        go_simp
        (try with_reducible rfl)
      (try simp only [Act.put, List.getElem_toArray, List.getElem_cons_succ, List.getElem_cons_zero, List.setIfInBounds_toArray, List.set_cons_zero, List.set_cons_succ])
      refine wpAnyZ_takeS (i := 2) (v := ?_) rfl (by kernel_rfl) (by kernel_rfl) (by kernel_rfl) (by kernel_rfl) (fun _ _ _ h => h) (gives_value (by rfl) ?_) (by assumption) ?_
      rotate_left
      · intro w hSw
        obtain ⟨s1, s2⟩ := hSw
        go_simp
        (try with_reducible rfl)
      (try simp only [Act.put, List.getElem_toArray, List.getElem_cons_succ, List.getElem_cons_zero, List.setIfInBounds_toArray, List.set_cons_zero, List.set_cons_succ])
      refine wpAnyZ_takeS (i := 3) (v := ?_) rfl (by kernel_rfl) (by kernel_rfl) (by kernel_rfl) (by kernel_rfl) (fun _ _ _ h => h) (gives_value (by rfl) ?_) (by assumption) ?_
      rotate_left
      · intro w hSw
        obtain ⟨s1, s2⟩ := hSw
        go_simp
        (try with_reducible rfl)
      (try simp only [Act.put, List.getElem_toArray, List.getElem_cons_succ, List.getElem_cons_zero, List.setIfInBounds_toArray, List.set_cons_zero, List.set_cons_succ])
      refine wpAnyZ_takeS (i := 4) (v := ?_) rfl (by kernel_rfl) (by kernel_rfl) (by kernel_rfl) (by kernel_rfl) (fun _ _ _ h => h) (gives_value (by rfl) ?_) (by assumption) ?_
      rotate_left
      · intro w hSw
        obtain ⟨s1, s2⟩ := hSw
        go_simp
        (try with_reducible rfl)
      (try simp only [Act.put, List.getElem_toArray, List.getElem_cons_succ, List.getElem_cons_zero, List.setIfInBounds_toArray, List.set_cons_zero, List.set_cons_succ])
      refine wpAnyZ_takeS (i := 5) (v := ?_) rfl (by kernel_rfl) (by kernel_rfl) (by kernel_rfl) (by kernel_rfl) (fun _ _ _ h => h) (gives_value (by rfl) ?_) (by assumption) ?_
      rotate_left
      · intro w hSw
        obtain ⟨s1, s2⟩ := hSw
        go_simp
        (try with_reducible rfl)
      (try simp only [Act.put, List.getElem_toArray, List.getElem_cons_succ, List.getElem_cons_zero, List.setIfInBounds_toArray, List.set_cons_zero, List.set_cons_succ])
      refine wpAnyZ_takeS (i := 7) (v := ?_) rfl (by kernel_rfl) (by kernel_rfl) (by kernel_rfl) (by kernel_rfl) (fun _ _ _ h => h) (gives_value (by rfl) ?_) (by assumption) ?_
      rotate_left
      · intro w hSw
        obtain ⟨s1, s2⟩ := hSw
        go_simp
        (try with_reducible rfl)
      (try simp only [Act.put, List.getElem_toArray, List.getElem_cons_succ, List.getElem_cons_zero, List.setIfInBounds_toArray, List.set_cons_zero, List.set_cons_succ])
      refine wpAnyZ_takeS (i := 8) (v := ?_) rfl (by kernel_rfl) (by kernel_rfl) (by kernel_rfl) (by kernel_rfl) (fun _ _ _ h => h) (gives_value (by rfl) ?_) (by assumption) ?_
      rotate_left
      · intro w hSw
        obtain ⟨s1, s2⟩ := hSw
        go_simp
        (try with_reducible rfl)
      (try simp only [Act.put, List.getElem_toArray, List.getElem_cons_succ, List.getElem_cons_zero, List.setIfInBounds_toArray, List.set_cons_zero, List.set_cons_succ])
      refine wpAnyZ_one (i := 6) (by kernel_rfl) ?_
      refine zstep rfl (fun K hK => ?_)
      go_simp
      (with_reducible refine (L2.out _ HB3.out).mono ?_)
      rintro e w4 ⟨va, rfl, ho, hb⟩
      have b1 : w4.cell? ⟨T, 1, none⟩ = some (.slice A1 xb.length p1) := by rw [hb.cell hT2]; exact a1
      have b2 : w4.cell? ⟨T, 2, none⟩ = some (.slice A2 xa.length p2) := by rw [hb.cell hT2]; exact a2
      have HB4 : Hid (Below w.heap.size w w4) := Lib.hid (HB3.out.trans (hb.mono HB3.out.size))
      have HO4 := Lib.hid (own_below HO3.out hb)
      have HN4 : Hid (∀ t ∈ f, TOwn w.heap.size w4 t) := Lib.hid (fun t ht => (HN3.out t ht).below hb)
      have HA4 := Lib.hid (own_lower ho HB3.out.size)
      have hT4 : T < w4.heap.size := Nat.lt_of_lt_of_le hT2 hb.size
      clear ho hb
      obtain ⟨Aa, Ca, rfl, _⟩ := own_slice_n HA4.out
      refine hK.out _ _ (fun _ => ⟨b1, b2⟩) (fun hH => ?_)
      replace hH := hH (by decide)
      clear hK K
      (try simp only [Act.put, List.getElem_toArray, List.getElem_cons_succ, List.getElem_cons_zero, List.setIfInBounds_toArray, List.set_cons_zero, List.set_cons_succ])
      refine wpAnyZ_one (i := 9) (by kernel_rfl) ?_
      refine zstep rfl (fun K hK => ?_)
      go_simp
      (with_reducible refine (L1.out _ HB4.out).mono ?_)
      rintro e w5 ⟨vb, rfl, ho, hb⟩
      have d1 : w5.cell? ⟨T, 1, none⟩ = some (.slice A1 xb.length p1) := by rw [hb.cell hT4]; exact b1
      have d2 : w5.cell? ⟨T, 2, none⟩ = some (.slice A2 xa.length p2) := by rw [hb.cell hT4]; exact b2
      have HB5 : Hid (Below w.heap.size w w5) := Lib.hid (HB4.out.trans (hb.mono HB4.out.size))
      have HO5 := Lib.hid (own_below HO4.out hb)
      have HN5 : Hid (∀ t ∈ f, TOwn w.heap.size w5 t) := Lib.hid (fun t ht => (HN4.out t ht).below hb)
      have HA5 := Lib.hid (own_below HA4.out hb)
      have HC5 := Lib.hid (own_lower ho HB4.out.size)
      clear ho hb
      obtain ⟨Ab, Cb, rfl, _⟩ := own_slice_n HC5.out
      refine hK.out _ _ (fun _ => ⟨d1, d2⟩) (fun hH => ?_)
      replace hH := hH (by decide)
      clear hK K
      (try simp only [Act.put, List.getElem_toArray, List.getElem_cons_succ, List.getElem_cons_zero, List.setIfInBounds_toArray, List.set_cons_zero, List.set_cons_succ])
      obtain ⟨u1, q1, q2⟩ := own_cell HO5.out (j := k * 3 + 1) (by omega)
      refine wpAnyZ_takeS (i := 10) (v := ?_) rfl (by kernel_rfl) (by kernel_rfl) (by kernel_rfl) (by kernel_rfl) (fun _ _ _ h => h) (gives_value (by rfl) ?_) (by assumption) ?_
      rotate_left
      · intro w hSw
        obtain ⟨s1, s2⟩ := hSw
        go_simp
        (try with_reducible rfl)
      (try simp only [Act.put, List.getElem_toArray, List.getElem_cons_succ, List.getElem_cons_zero, List.setIfInBounds_toArray, List.set_cons_zero, List.set_cons_succ])
      refine wpAnyZ_takeS (i := 11) (v := ?_) rfl (by kernel_rfl) (by kernel_rfl) (by kernel_rfl) (by kernel_rfl) (fun _ _ _ h => h) (gives_value (by rfl) ?_) (by assumption) ?_
      rotate_left
      · intro w hSw
        obtain ⟨s1, s2⟩ := hSw
        go_simp
        (try with_reducible rfl)
      (try simp only [Act.put, List.getElem_toArray, List.getElem_cons_succ, List.getElem_cons_zero, List.setIfInBounds_toArray, List.set_cons_zero, List.set_cons_succ])
      refine wpAnyZ_one (i := 12) (by kernel_rfl) ?_
      refine zstep rfl (fun K hK => ?_)
      go_simp
      have HTy : Hid (Typed w5 g 24) := Lib.hid (own_typed HO5.out rfl).1
      have HO6 := Lib.hid (own_store HO5.out (k * 3 + 1) (.slice Aa xa.length Ca))
      have HB6 : Hid (Below w.heap.size w (w5.setCell ⟨g, k * 3 + 1, none⟩ (.slice Aa xa.length Ca))) := Lib.hid (HB5.out.setCell hge _)
      have HN6 : Hid (∀ t ∈ f ++ [⟨xc, .slice Aa xa.length Ca, .slice Ab xb.length Cb, xa, xb⟩], TOwn w.heap.size (w5.setCell ⟨g, k * 3 + 1, none⟩ (.slice Aa xa.length Ca)) t) := Lib.hid (fun t ht => by
        rcases List.mem_append.1 ht with ht | ht
        · exact (HN5.out t ht).set HTy.out _ _
        · obtain rfl := List.mem_singleton.1 ht
          exact TOwn.set ⟨HA5.out, HC5.out⟩ HTy.out _ _)
      have HTy6 : Hid (Typed (w5.setCell ⟨g, k * 3 + 1, none⟩ (.slice Aa xa.length Ca)) g 24) := Lib.hid (HTy.out.setCell _ _ _)
      have f1 : (w5.setCell ⟨g, k * 3 + 1, none⟩ (.slice Aa xa.length Ca)).cell? ⟨T, 1, none⟩ = some (.slice A1 xb.length p1) := by rw [World.cell?_setCell_other _ _ _ _ (fun e => hgT (by injection e))]; exact d1
      have f2 : (w5.setCell ⟨g, k * 3 + 1, none⟩ (.slice Aa xa.length Ca)).cell? ⟨T, 2, none⟩ = some (.slice A2 xa.length p2) := by rw [World.cell?_setCell_other _ _ _ _ (fun e => hgT (by injection e))]; exact d2
      generalize w5.setCell ⟨g, k * 3 + 1, none⟩ (.slice Aa xa.length Ca) = w6 at *
      refine hK.out _ _ (fun _ => ⟨f1, f2⟩) (fun hH => ?_)
      replace hH := hH (by decide)
      clear hK K
      (try simp only [Act.put, List.getElem_toArray, List.getElem_cons_succ, List.getElem_cons_zero, List.setIfInBounds_toArray, List.set_cons_zero, List.set_cons_succ])
      obtain ⟨u2, q3, q4⟩ := own_cell HO6.out (j := k * 3 + 2) (by omega)
      refine wpAnyZ_takeS (i := 13) (v := ?_) rfl (by kernel_rfl) (by kernel_rfl) (by kernel_rfl) (by kernel_rfl) (fun _ _ _ h => h) (gives_value (by rfl) ?_) (by assumption) ?_
      rotate_left
      · intro w hSw
        obtain ⟨s1, s2⟩ := hSw
        go_simp
        (try with_reducible rfl)
      (try simp only [Act.put, List.getElem_toArray, List.getElem_cons_succ, List.getElem_cons_zero, List.setIfInBounds_toArray, List.set_cons_zero, List.set_cons_succ])
      refine wpAnyZ_takeS (i := 14) (v := ?_) rfl (by kernel_rfl) (by kernel_rfl) (by kernel_rfl) (by kernel_rfl) (fun _ _ _ h => h) (gives_value (by rfl) ?_) (by assumption) ?_
      rotate_left
      · intro w hSw
        obtain ⟨s1, s2⟩ := hSw
        go_simp
        (try with_reducible rfl)
      (try simp only [Act.put, List.getElem_toArray, List.getElem_cons_succ, List.getElem_cons_zero, List.setIfInBounds_toArray, List.set_cons_zero, List.set_cons_succ])
      refine wpAnyZ_one (i := 15) (by kernel_rfl) ?_
      refine zstep rfl (fun K hK => ?_)
      go_simp
      have HO7 := Lib.hid (own_store HO6.out (k * 3 + 2) (.slice Ab xb.length Cb))
      have HB7 : Hid (Below w.heap.size w (w6.setCell ⟨g, k * 3 + 2, none⟩ (.slice Ab xb.length Cb))) := Lib.hid (HB6.out.setCell hge _)
      have HN7 := Lib.hid (fun t ht => (HN6.out t ht).set HTy6.out (k * 3 + 2) (.slice Ab xb.length Cb))
      have g1 : (w6.setCell ⟨g, k * 3 + 2, none⟩ (.slice Ab xb.length Cb)).cell? ⟨T, 1, none⟩ = some (.slice A1 xb.length p1) := by rw [World.cell?_setCell_other _ _ _ _ (fun e => hgT (by injection e))]; exact f1
      have g2 : (w6.setCell ⟨g, k * 3 + 2, none⟩ (.slice Ab xb.length Cb)).cell? ⟨T, 2, none⟩ = some (.slice A2 xa.length p2) := by rw [World.cell?_setCell_other _ _ _ _ (fun e => hgT (by injection e))]; exact f2
      generalize w6.setCell ⟨g, k * 3 + 2, none⟩ (.slice Ab xb.length Cb) = w7 at *
      refine hK.out _ _ (fun _ => ⟨g1, g2⟩) (fun hH => ?_)
      replace hH := hH (by decide)
      clear hK K
      (try simp only [Act.put, List.getElem_toArray, List.getElem_cons_succ, List.getElem_cons_zero, List.setIfInBounds_toArray, List.set_cons_zero, List.set_cons_succ])
      refine wpAnyZ_done (by kernel_rfl) ?_ _
      go_wp2
      go_roundw
      case rel =>
        refine ⟨k + 1, f ++ [⟨xc, .slice Aa xa.length Ca, .slice Ab xb.length Cb, xa, xb⟩], by omega, by go_num, Lib.hid ⟨by rw [List.length_append, HF.out.1]; rfl, by rw [HT.out, List.map_append, List.map_append, HF.out.2]; rfl⟩, ?_, HN7, HB7⟩
        have e1 := set_flat turn_len f (l.drop (k + 1)) ⟨xc, .slice A1 xb.length p1, .slice A2 xa.length p2, xb, xa⟩ ⟨xc, .slice Aa xa.length Ca, .slice A2 xa.length p2, xa, xb⟩ 1 (.slice Aa xa.length Ca) (by omega) rfl
        have e2 := set_flat turn_len f (l.drop (k + 1)) ⟨xc, .slice Aa xa.length Ca, .slice A2 xa.length p2, xa, xb⟩ ⟨xc, .slice Aa xa.length Ca, .slice Ab xb.length Cb, xa, xb⟩ 2 (.slice Ab xb.length Cb) (by omega) rfl
        rw [HF.out.1] at e1 e2
        have := HO7.out
        rw [HD.out, e1, e2] at this
        rw [List.append_assoc]
        exact Lib.hid this
      case measure => simp [intOf]; omega
    · have hk' : k = l.length := by omega
      have HE : Hid (NewT w.heap.size wr (.slice AV l.length CV) f ∧ f.map Turn.pl = l.map Turn.fl) := by
        have h1 := HO.out
        have h2 := HF.out
        rw [hk', List.drop_eq_nil_of_le (Nat.le_refl _), List.append_nil] at h1
        rw [hk', List.take_of_length_le (Nat.le_refl _)] at h2
        refine Lib.hid ⟨⟨?_, HN.out⟩, h2.2⟩
        unfold OutT
        rw [h2.1]
        exact h1
      go_wp2
      go_ret
      exact ⟨_, f, rfl, HE.out.1, HE.out.2, HB.out⟩
end Go.Proofs.Ytbellnanikaffaa
