/- draymankeep.Same of cars, stops, pairs, numbers that are the same; draymanlaw03.Same; inst.Mate, First. -/
import Derived.Test.YteibelmgebhleaaDoorInstTravel
import Derived.Test.YteibelmgebhleaaDoorInstChk
import Derived.Laws.StructEq
import Derived.Laws.Tables
import Derived.Laws.Cover2
namespace Go.Proofs.YteibelmgebhleaaDoor
open Go.RowKit
set_option linter.unusedSimpArgs false

theorem neq_car (a b c : Int) (W : World) : (binOp .neq 58 (.agg #[.int .i64 a, .int .i64 b, .int .i64 c]) (.agg #[.int .i64 a, .int .i64 b, .int .i64 c])).run Tryd.prog W = .ok (.bool false) W := by
  have u3 := Tryd.underlying3
  have a3 := Tryd.isAgg3
  have z3 := Tryd.sizeOf3
  have hS : Tryd.prog.underlying 58 = some (.struct (Tryd.prog.fieldsOf 58)) := by kernel_rfl
  have hp : Tryd.prog.stoodInHeld 58 = false := by kernel_rfl
  rw [run_neq_struct, show (10000 : Nat) = 9999 + 1 from rfl, run_equalIn_agg W 9999 58 _ _ hS hp]
  simp only [Program.fieldsOf, Tryd.underlying58]
  go_simp
theorem neq_stop (a b c d : Int) (W : World) : (binOp .neq 61 (.agg #[.int .i64 a, .int .i64 b, .int .i64 c, .int .i64 d]) (.agg #[.int .i64 a, .int .i64 b, .int .i64 c, .int .i64 d])).run Tryd.prog W = .ok (.bool false) W := by
  have u3 := Tryd.underlying3
  have a3 := Tryd.isAgg3
  have z3 := Tryd.sizeOf3
  have hS : Tryd.prog.underlying 61 = some (.struct (Tryd.prog.fieldsOf 61)) := by kernel_rfl
  have hp : Tryd.prog.stoodInHeld 61 = false := by kernel_rfl
  rw [run_neq_struct, show (10000 : Nat) = 9999 + 1 from rfl, run_equalIn_agg W 9999 61 _ _ hS hp]
  simp only [Program.fieldsOf, Tryd.underlying61]
  go_simp
theorem neq_pair (a b : Int) (W : World) : (binOp .neq 62 (.agg #[.int .i64 a, .int .i64 b]) (.agg #[.int .i64 a, .int .i64 b])).run Tryd.prog W = .ok (.bool false) W := by
  have u3 := Tryd.underlying3
  have a3 := Tryd.isAgg3
  have z3 := Tryd.sizeOf3
  rw [run_neq_struct, show (10000 : Nat) = 9999 + 1 from rfl, Op.equalIn]
  simp only [Sem.run_bind, run_underlying Tryd.underlying62, Result.andThen_ok]
  simp only [Std.Legacy.Range.forIn_eq_forIn_range', Std.Legacy.Range.size, Nat.sub_zero, Nat.add_sub_cancel, Nat.div_one, List.range'_succ, List.range'_zero, List.forIn_cons, List.forIn_nil]
  go_simp
set_option maxRecDepth 100000 in
set_option maxHeartbeats 1000000 in
theorem same_cars (v1 v2 : Value) (l : List Car) (w : World) (h1 : Recs w 3 Car.at_ v1 l) (h2 : Recs w 3 Car.at_ v2 l) (hl : l.length ≤ 1099511627776) :
    Calls Tryd.prog 28 #[v1, v2] w fun e w' => e = .returned (.bool true) ∧ Below w.heap.size w w' := by
  obtain ⟨A1, c1, rfl, hc1⟩ := h1
  obtain ⟨A2, c2, rfl, hc2⟩ := h2
  have H1 := Lib.hid hc1
  have H2 := Lib.hid hc2
  clear hc1 hc2
  go_enter Tryd.func28, Tryd.ntmps28
  go_wp2
  go_loopw [5] (fun i wr => ∃ k : Nat, k ≤ l.length ∧ i = .int .i64 k ∧ Below w.heap.size w wr) (fun i _ => l.length - (intOf i).toNat)
  case atStart => exact ⟨0, Nat.zero_le _, rfl, Below.refl _ _⟩
  case round =>
    obtain ⟨k, hk, rfl, hb⟩ := hrel
    by_cases hlt : k < l.length
    · obtain ⟨g1, o1, rfl, hg1, d1⟩ := H1.out k hlt
      obtain ⟨g2, o2, rfl, hg2, d2⟩ := H2.out k hlt
      have a0 : wr.cell? ⟨g1, o1 + k * 3, none⟩ = some (.int .i64 l[k].c) := by rw [hb.cell hg1]; exact d1 0 (by omega)
      have a1 : wr.cell? ⟨g1, o1 + k * 3 + 1, none⟩ = some (.int .i64 l[k].s) := by rw [hb.cell hg1]; exact d1 1 (by omega)
      have a2 : wr.cell? ⟨g1, o1 + k * 3 + 2, none⟩ = some (.int .i64 l[k].e) := by rw [hb.cell hg1]; exact d1 2 (by omega)
      have b0 : wr.cell? ⟨g2, o2 + k * 3, none⟩ = some (.int .i64 l[k].c) := by rw [hb.cell hg2]; exact d2 0 (by omega)
      have b1 : wr.cell? ⟨g2, o2 + k * 3 + 1, none⟩ = some (.int .i64 l[k].s) := by rw [hb.cell hg2]; exact d2 1 (by omega)
      have b2 : wr.cell? ⟨g2, o2 + k * 3 + 2, none⟩ = some (.int .i64 l[k].e) := by rw [hb.cell hg2]; exact d2 2 (by omega)
      have HB := Lib.hid hb
      clear d1 d2 hb
      generalize l[k] = x at *
      have hneq := neq_car x.c x.s x.e
      go_wp2
      go_quiet (fail)
      go_wp2
      go_roundw
      case rel => exact ⟨k + 1, by omega, by go_num, below_draws' HB.out _⟩
      case measure => simp [intOf]; omega
    · have HB := Lib.hid hb
      clear hb
      go_wp2
      go_ret
      exact ⟨rfl, HB.out⟩
set_option maxRecDepth 100000 in
set_option maxHeartbeats 1000000 in
theorem same_stops (v1 v2 : Value) (l : List Stop) (w : World) (h1 : Recs w 4 Stop.at_ v1 l) (h2 : Recs w 4 Stop.at_ v2 l) (hl : l.length ≤ 1099511627776) :
    Calls Tryd.prog 29 #[v1, v2] w fun e w' => e = .returned (.bool true) ∧ Below w.heap.size w w' := by
  obtain ⟨A1, c1, rfl, hc1⟩ := h1
  obtain ⟨A2, c2, rfl, hc2⟩ := h2
  have H1 := Lib.hid hc1
  have H2 := Lib.hid hc2
  clear hc1 hc2
  go_enter Tryd.func29, Tryd.ntmps29
  go_wp2
  go_loopw [5] (fun i wr => ∃ k : Nat, k ≤ l.length ∧ i = .int .i64 k ∧ Below w.heap.size w wr) (fun i _ => l.length - (intOf i).toNat)
  case atStart => exact ⟨0, Nat.zero_le _, rfl, Below.refl _ _⟩
  case round =>
    obtain ⟨k, hk, rfl, hb⟩ := hrel
    by_cases hlt : k < l.length
    · obtain ⟨g1, o1, rfl, hg1, d1⟩ := H1.out k hlt
      obtain ⟨g2, o2, rfl, hg2, d2⟩ := H2.out k hlt
      have a0 : wr.cell? ⟨g1, o1 + k * 4, none⟩ = some (.int .i64 l[k].d) := by rw [hb.cell hg1]; exact d1 0 (by omega)
      have a1 : wr.cell? ⟨g1, o1 + k * 4 + 1, none⟩ = some (.int .i64 l[k].o) := by rw [hb.cell hg1]; exact d1 1 (by omega)
      have a2 : wr.cell? ⟨g1, o1 + k * 4 + 2, none⟩ = some (.int .i64 l[k].c) := by rw [hb.cell hg1]; exact d1 2 (by omega)
      have a3 : wr.cell? ⟨g1, o1 + k * 4 + 3, none⟩ = some (.int .i64 l[k].s) := by rw [hb.cell hg1]; exact d1 3 (by omega)
      have b0 : wr.cell? ⟨g2, o2 + k * 4, none⟩ = some (.int .i64 l[k].d) := by rw [hb.cell hg2]; exact d2 0 (by omega)
      have b1 : wr.cell? ⟨g2, o2 + k * 4 + 1, none⟩ = some (.int .i64 l[k].o) := by rw [hb.cell hg2]; exact d2 1 (by omega)
      have b2 : wr.cell? ⟨g2, o2 + k * 4 + 2, none⟩ = some (.int .i64 l[k].c) := by rw [hb.cell hg2]; exact d2 2 (by omega)
      have b3 : wr.cell? ⟨g2, o2 + k * 4 + 3, none⟩ = some (.int .i64 l[k].s) := by rw [hb.cell hg2]; exact d2 3 (by omega)
      have HB := Lib.hid hb
      clear d1 d2 hb
      generalize l[k] = x at *
      have hneq := neq_stop x.d x.o x.c x.s
      go_wp2
      go_quiet (fail)
      go_wp2
      go_roundw
      case rel => exact ⟨k + 1, by omega, by go_num, below_draws' HB.out _⟩
      case measure => simp [intOf]; omega
    · have HB := Lib.hid hb
      clear hb
      go_wp2
      go_ret
      exact ⟨rfl, HB.out⟩
set_option maxRecDepth 100000 in
set_option maxHeartbeats 1000000 in
theorem same_pairs (v1 v2 : Value) (l : List Pair) (w : World) (h1 : Recs w 2 Pair.at_ v1 l) (h2 : Recs w 2 Pair.at_ v2 l) (hl : l.length ≤ 1099511627776) :
    Calls Tryd.prog 30 #[v1, v2] w fun e w' => e = .returned (.bool true) ∧ Below w.heap.size w w' := by
  obtain ⟨A1, c1, rfl, hc1⟩ := h1
  obtain ⟨A2, c2, rfl, hc2⟩ := h2
  have H1 := Lib.hid hc1
  have H2 := Lib.hid hc2
  clear hc1 hc2
  go_enter Tryd.func30, Tryd.ntmps30
  go_wp2
  go_loopw [5] (fun i wr => ∃ k : Nat, k ≤ l.length ∧ i = .int .i64 k ∧ Below w.heap.size w wr) (fun i _ => l.length - (intOf i).toNat)
  case atStart => exact ⟨0, Nat.zero_le _, rfl, Below.refl _ _⟩
  case round =>
    obtain ⟨k, hk, rfl, hb⟩ := hrel
    by_cases hlt : k < l.length
    · obtain ⟨g1, o1, rfl, hg1, d1⟩ := H1.out k hlt
      obtain ⟨g2, o2, rfl, hg2, d2⟩ := H2.out k hlt
      have a0 : wr.cell? ⟨g1, o1 + k * 2, none⟩ = some (.int .i64 l[k].a) := by rw [hb.cell hg1]; exact d1 0 (by omega)
      have a1 : wr.cell? ⟨g1, o1 + k * 2 + 1, none⟩ = some (.int .i64 l[k].b) := by rw [hb.cell hg1]; exact d1 1 (by omega)
      have b0 : wr.cell? ⟨g2, o2 + k * 2, none⟩ = some (.int .i64 l[k].a) := by rw [hb.cell hg2]; exact d2 0 (by omega)
      have b1 : wr.cell? ⟨g2, o2 + k * 2 + 1, none⟩ = some (.int .i64 l[k].b) := by rw [hb.cell hg2]; exact d2 1 (by omega)
      have HB := Lib.hid hb
      clear d1 d2 hb
      generalize l[k] = x at *
      have hneq := neq_pair x.a x.b
      go_wp2
      go_quiet (fail)
      go_wp2
      go_roundw
      case rel => exact ⟨k + 1, by omega, by go_num, below_draws' HB.out _⟩
      case measure => simp [intOf]; omega
    · have HB := Lib.hid hb
      clear hb
      go_wp2
      go_ret
      exact ⟨rfl, HB.out⟩
set_option maxRecDepth 100000 in
set_option maxHeartbeats 1000000 in
theorem same_ints (v1 v2 : Value) (l : List Int) (w : World) (h1 : Recs w 1 num_ v1 l) (h2 : Recs w 1 num_ v2 l) (hl : l.length ≤ 1099511627776) :
    Calls Tryd.prog 31 #[v1, v2] w fun e w' => e = .returned (.bool true) ∧ ∃ n, w' = w.drewN n := by
  obtain ⟨A1, c1, rfl, hc1⟩ := h1
  obtain ⟨A2, c2, rfl, hc2⟩ := h2
  have H1 := Lib.hid hc1
  have H2 := Lib.hid hc2
  clear hc1 hc2
  go_enter Tryd.func31, Tryd.ntmps31
  go_wp2
  go_loopw [5] (fun i wr => ∃ k n : Nat, k ≤ l.length ∧ i = .int .i64 k ∧ wr = w.drewN n) (fun i _ => l.length - (intOf i).toNat)
  case atStart => exact ⟨0, 0, Nat.zero_le _, rfl, rfl⟩
  case round =>
    obtain ⟨k, n, hk, rfl, rfl⟩ := hrel
    by_cases hlt : k < l.length
    · obtain ⟨g1, o1, rfl, hg1, d1⟩ := H1.out k hlt
      obtain ⟨g2, o2, rfl, hg2, d2⟩ := H2.out k hlt
      have a0 : w.cell? ⟨g1, o1 + k, none⟩ = some (.int .i64 l[k]) := by have := d1 0 (by omega); simpa [num_] using this
      have b0 : w.cell? ⟨g2, o2 + k, none⟩ = some (.int .i64 l[k]) := by have := d2 0 (by omega); simpa [num_] using this
      clear d1 d2
      generalize l[k] = x at *
      go_wp2
      go_quiet (fail)
      go_wp2
      go_roundw
      case rel => exact ⟨k + 1, _, by omega, by go_num, rfl⟩
      case measure => simp [intOf]; omega
    · go_wp2
      go_ret
      exact ⟨rfl, n, rfl⟩
theorem Recs.drewN {α : Type} {W : World} {c : Nat} {g : α → Nat → Int} {v : Value} {l : List α} (h : Recs W c g v l) (n : Nat) : Recs (W.drewN n) c g v l := h.below (below_draws' (Below.refl _ _) n)
theorem cells_box {w w1 : World} {a b c d : Value} {t : TypeId} {k : Nat} (hk : k = w.heap.size) (hb : Below (w.alloc (.cells #[a, b, c, d] t)).heap.size (w.alloc (.cells #[a, b, c, d] t)) w1) :
    w1.cell? ⟨k, 0, none⟩ = some a ∧ w1.cell? ⟨k, 1, none⟩ = some b ∧ w1.cell? ⟨k, 2, none⟩ = some c ∧ w1.cell? ⟨k, 3, none⟩ = some d := by
  subst hk
  refine ⟨?_, ?_, ?_, ?_⟩ <;> (rw [hb.cell (by simp)]; simp)
set_option maxRecDepth 100000 in
set_option maxHeartbeats 4000000 in
theorem same_prob (va vb : Value) (i : Prob) (w : World) (h1 : Lies w va i) (h2 : Lies w vb i) (hs : Short i) (ht : i.travel.length ≤ 1000000) (hr : ∀ r ∈ i.travel, r.length ≤ 1000000) :
    Calls Tryd.prog 10 #[va, vb] w fun e w' => e = .returned (.bool true) ∧ Below w.heap.size w w' := by
  obtain ⟨c1, s1, p1, t1, rfl, a1, a2, a3, a4⟩ := h1
  obtain ⟨c2, s2, p2, t2, rfl, b1, b2, b3, b4⟩ := h2
  obtain ⟨q1, q2, q3⟩ := hs
  have C1 := Lib.hid (fun W (hb : Below w.heap.size w W) => same_cars c1 c2 i.cars W (a1.below hb) (b1.below hb) q1)
  have C2 := Lib.hid (fun W (hb : Below w.heap.size w W) => same_stops s1 s2 i.stops W (a2.below hb) (b2.below hb) q2)
  have C3 := Lib.hid (fun W (hb : Below w.heap.size w W) => same_pairs p1 p2 i.pairs W (a3.below hb) (b3.below hb) q3)
  obtain ⟨A1, k1, rfl, d1⟩ := a4
  obtain ⟨A2, k2, rfl, d2⟩ := b4
  have H1 := Lib.hid d1
  have H2 := Lib.hid d2
  have HR := Lib.hid hr
  clear a1 a2 a3 b1 b2 b3 d1 d2 hr
  go_enter Tryd.func10, Tryd.ntmps10
  go_wp2_with (go_at_call 28; fail)
  (with_reducible refine (C1.out _ ?_).mono ?_)
  · exact Below.alloc (Below.alloc (Below.refl _ _) (Nat.le_refl _) _) (by simp) _
  rintro e w1 ⟨rfl, hb1⟩
  have T1 : Hid (Below w.heap.size w w1) := (Below.alloc (Below.alloc (Below.refl _ _) (Nat.le_refl _) _) (by simp) _).trans (hb1.mono (by simp; omega))
  have x0 : ∀ j, w1.cell? ⟨w.heap.size, j, none⟩ = #[c1, s1, p1, Value.slice A1 i.travel.length k1][j]? := fun j => by rw [hb1.cell (by simp; omega)]; simp
  have y0 : ∀ j, w1.cell? ⟨w.heap.size + 1, j, none⟩ = #[c2, s2, p2, Value.slice A2 i.travel.length k2][j]? := fun j => by rw [hb1.cell (by simp)]; simp
  have hz1 : w.heap.size + 1 < w1.heap.size := by have := hb1.size; simp at this; omega
  have X0 := Lib.hid x0
  have Y0 := Lib.hid y0
  have m1 : w1.cell? ⟨w.heap.size, 1, none⟩ = some s1 := x0 1
  have m2 : w1.cell? ⟨w.heap.size + 1, 1, none⟩ = some s2 := y0 1
  clear hb1 x0 y0
  go_wp2_with (go_at_call 29; fail)
  (with_reducible refine (C2.out _ T1.out).mono ?_)
  rintro e w2 ⟨rfl, hb2⟩
  have T2 := Lib.hid (T1.out.trans (hb2.mono T1.out.size))
  have X2 : Hid (∀ j, w2.cell? ⟨w.heap.size, j, none⟩ = #[c1, s1, p1, Value.slice A1 i.travel.length k1][j]?) := fun j => by rw [hb2.cell (by simp; omega)]; exact X0.out j
  have Y2 : Hid (∀ j, w2.cell? ⟨w.heap.size + 1, j, none⟩ = #[c2, s2, p2, Value.slice A2 i.travel.length k2][j]?) := fun j => by rw [hb2.cell (by simp; omega)]; exact Y0.out j
  have hz2 : w.heap.size + 1 < w2.heap.size := by have := hb2.size; omega
  clear hb2 m1 m2
  have m1 : w2.cell? ⟨w.heap.size, 2, none⟩ = some p1 := X2.out 2
  have m2 : w2.cell? ⟨w.heap.size + 1, 2, none⟩ = some p2 := Y2.out 2
  go_wp2_with (go_at_call 30; fail)
  (with_reducible refine (C3.out _ T2.out).mono ?_)
  rintro e w3 ⟨rfl, hb3⟩
  have T3 := Lib.hid (T2.out.trans (hb3.mono T2.out.size))
  have X3 : Hid (∀ j, w3.cell? ⟨w.heap.size, j, none⟩ = #[c1, s1, p1, Value.slice A1 i.travel.length k1][j]?) := fun j => by rw [hb3.cell (by simp; omega)]; exact X2.out j
  have Y3 : Hid (∀ j, w3.cell? ⟨w.heap.size + 1, j, none⟩ = #[c2, s2, p2, Value.slice A2 i.travel.length k2][j]?) := fun j => by rw [hb3.cell (by simp; omega)]; exact Y2.out j
  have hz3 : w.heap.size + 1 < w3.heap.size := by have := hb3.size; omega
  clear hb3 m1 m2
  have m1 : w3.cell? ⟨w.heap.size, 3, none⟩ = some (.slice A1 i.travel.length k1) := X3.out 3
  have m2 : w3.cell? ⟨w.heap.size + 1, 3, none⟩ = some (.slice A2 i.travel.length k2) := Y3.out 3
  go_wp2
  go_loopw [40] (fun c wr => ∃ k n : Nat, k ≤ i.travel.length ∧ c = .int .i64 k ∧ wr = w3.drewN n) (fun c _ => i.travel.length - (intOf c).toNat)
  case atStart => exact ⟨0, 0, Nat.zero_le _, rfl, rfl⟩
  case round =>
    obtain ⟨k, n, hk, rfl, rfl⟩ := hrel
    by_cases hlt : k < i.travel.length
    · obtain ⟨g1, o1, u1, rfl, hg1, e1, r1⟩ := H1.out k hlt
      obtain ⟨g2, o2, u2, rfl, hg2, e2, r2⟩ := H2.out k hlt
      have z1 : w3.cell? ⟨g1, o1 + k, none⟩ = some u1 := by rw [T3.out.cell hg1]; exact e1
      have z2 : w3.cell? ⟨g2, o2 + k, none⟩ = some u2 := by rw [T3.out.cell hg2]; exact e2
      have C4 := Lib.hid (fun m => same_ints u1 u2 i.travel[k] (w3.drewN m) ((r1.below T3.out).drewN m) ((r2.below T3.out).drewN m) (by have := HR.out _ (List.getElem_mem hlt); omega))
      clear e1 e2 r1 r2
      go_wp2
      go_quiet ((go_at_call 31; exact (C4.out _).mono fun _ _ ⟨he, q, hq⟩ => ⟨he, _, hq.trans ((World.drewN_drewN _ _ _).trans (congrArg w3.drewN (Nat.add_assoc _ _ _)))⟩))
      go_wp2
      go_roundw
      case rel => exact ⟨k + 1, _, by omega, by go_num, rfl⟩
      case measure => simp [intOf]; omega
    · go_wp2
      go_ret
      exact ⟨rfl, below_draws' T3.out n⟩
end Go.Proofs.YteibelmgebhleaaDoor
