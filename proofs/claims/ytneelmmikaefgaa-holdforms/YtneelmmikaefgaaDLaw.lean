/- What the laws of stage 7 share: draymankeep.Same, Copy, Cut, the example of the document, Same of edits (laid by gen_dlaw.py). -/
import Derived.Test.YtneelmmikaefgaaDMoved2
import Derived.Test.YtneelmmikaefgaaKeep
import Derived.Laws.StructEq
import Derived.Laws.Tables
import Derived.Laws.Cover2
namespace Go.Proofs.Ytneelmmikaefgaa
open Go.RowKit
set_option linter.unusedSimpArgs false

theorem rows_blk {α : Type} {W : World} {g c cap : Nat} {f : α → List Value} {l : List α} (h : Blk W g (l.flatMap f)) (hf : ∀ x, (f x).length = c) : Rows W c f (.slice (some ⟨g, 0, none⟩) l.length cap) l := by
  refine ⟨_, cap, rfl, fun k hk => ⟨g, 0, rfl, h.1, fun j u hu => ?_⟩⟩
  have hj : j < c := by
    rcases Nat.lt_or_ge j c with h' | h'
    · exact h'
    · rw [List.getElem?_eq_none (by rw [hf]; exact h')] at hu; cases hu
  have e := flat_get hf l k j hk hj
  rw [hu] at e
  obtain ⟨hl, he⟩ := List.getElem?_eq_some_iff.1 e
  rw [Nat.zero_add, (h.2 _ hl).1, he]
theorem rows_nil {α : Type} {W : World} {A : Option Addr} {c cap : Nat} {f : α → List Value} : Rows W c f (.slice A 0 cap) ([] : List α) := ⟨A, cap, rfl, fun k hk => absurd hk (by simp)⟩
theorem turns_nil {W : World} {A : Option Addr} {cap : Nat} : Turns W (.slice A 0 cap) [] := ⟨rows_nil, fun t ht => by cases ht⟩
theorem recs_blk {W : World} {g cap : Nat} {l : List Int} (h : Blk W g (ints l)) : Recs W 1 num_ (.slice (some ⟨g, 0, none⟩) l.length cap) l := by
  refine ⟨_, cap, rfl, fun k hk => ⟨g, 0, rfl, h.1, fun j hj => ?_⟩⟩
  obtain rfl : j = 0 := by omega
  have := (h.2 k (by simpa [ints] using hk)).1
  rw [Nat.mul_one, Nat.add_zero, Nat.zero_add, this]
  simp [ints, num_]
theorem neq_hold (a b c : Int) (W : World) : (binOp .neq 35 (.agg #[.int .i64 a, .int .i64 b, .int .i64 c]) (.agg #[.int .i64 a, .int .i64 b, .int .i64 c])).run Try.prog W = .ok (.bool false) W := by
  have u3 := Try.underlying3
  have a3 := Try.isAgg3
  have z3 := Try.sizeOf3
  have hS : Try.prog.underlying 35 = some (.struct (Try.prog.fieldsOf 35)) := by kernel_rfl
  have hp : Try.prog.stoodInHeld 35 = false := by kernel_rfl
  rw [run_neq_struct, show (10000 : Nat) = 9999 + 1 from rfl, run_equalIn_agg W 9999 35 _ _ hS hp]
  simp only [Program.fieldsOf, Try.underlying35]
  go_simp
set_option maxRecDepth 100000 in
set_option maxHeartbeats 1000000 in
theorem same_holds (A1 A2 : Option Addr) (c1 c2 : Nat) (l : List Hold) (w : World) (h1 : Rows w 3 Hold.cells (.slice A1 l.length c1) l) (h2 : Rows w 3 Hold.cells (.slice A2 l.length c2) l) (hl : l.length ≤ 1099511627776) :
    Calls Try.prog 8 #[.slice A1 l.length c1, .slice A2 l.length c2] w fun e w' => e = .returned (.bool true) ∧ Below w.heap.size w w' := by
  have H1 := Lib.hid h1
  have H2 := Lib.hid h2
  clear h1 h2
  go_enter Try.func8, Try.ntmps8
  go_wp2
  go_loopw [5] (fun i wr => ∃ k : Nat, k ≤ l.length ∧ i = .int .i64 k ∧ Below w.heap.size w wr) (fun i _ => l.length - (intOf i).toNat)
  case atStart => exact ⟨0, Nat.zero_le _, rfl, Below.refl _ _⟩
  case round =>
    obtain ⟨k, hk, rfl, hb⟩ := hrel
    by_cases hlt : k < l.length
    · obtain ⟨g1, o1, rfl, hg1, d0, d1, d2⟩ := H1.out.hold hlt
      obtain ⟨g2, o2, rfl, hg2, e0, e1, e2⟩ := H2.out.hold hlt
      have a0 : wr.cell? ⟨g1, o1 + k * 3, none⟩ = some (.int .i64 l[k].n) := by rw [hb.cell hg1]; exact d0
      have a1 : wr.cell? ⟨g1, o1 + k * 3 + 1, none⟩ = some (.int .i64 l[k].b) := by rw [hb.cell hg1]; exact d1
      have a2 : wr.cell? ⟨g1, o1 + k * 3 + 2, none⟩ = some (.int .i64 l[k].a) := by rw [hb.cell hg1]; exact d2
      have b0 : wr.cell? ⟨g2, o2 + k * 3, none⟩ = some (.int .i64 l[k].n) := by rw [hb.cell hg2]; exact e0
      have b1 : wr.cell? ⟨g2, o2 + k * 3 + 1, none⟩ = some (.int .i64 l[k].b) := by rw [hb.cell hg2]; exact e1
      have b2 : wr.cell? ⟨g2, o2 + k * 3 + 2, none⟩ = some (.int .i64 l[k].a) := by rw [hb.cell hg2]; exact e2
      have HB := Lib.hid hb
      clear d0 d1 d2 e0 e1 e2 hb
      generalize l[k] = x at *
      have hneq := neq_hold x.n x.b x.a
      go_wp2
      go_quiet (fail)
      go_wp2
      go_roundw
      case rel => exact ⟨k + 1, by omega, by go_num, below_draws' HB.out _⟩
      case measure => simp [intOf]; omega
    · have HB := Lib.hid hb
      clear hb
      go_wp2
      go_ret
      exact ⟨rfl, HB.out⟩
set_option maxRecDepth 100000 in
set_option maxHeartbeats 1000000 in
theorem dsame_ints (v1 v2 : Value) (l : List Int) (w : World) (h1 : Recs w 1 num_ v1 l) (h2 : Recs w 1 num_ v2 l) (hl : l.length ≤ 1099511627776) :
    Calls Try.prog 33 #[v1, v2] w fun e w' => e = .returned (.bool true) ∧ ∃ n, w' = w.drewN n := by
  obtain ⟨A1, c1, rfl, hc1⟩ := h1
  obtain ⟨A2, c2, rfl, hc2⟩ := h2
  have H1 := Lib.hid hc1
  have H2 := Lib.hid hc2
  clear hc1 hc2
  go_enter Try.func33, Try.ntmps33
  go_wp2
  go_loopw [5] (fun i wr => ∃ k n : Nat, k ≤ l.length ∧ i = .int .i64 k ∧ wr = w.drewN n) (fun i _ => l.length - (intOf i).toNat)
  case atStart => exact ⟨0, 0, Nat.zero_le _, rfl, rfl⟩
  case round =>
    obtain ⟨k, n, hk, rfl, rfl⟩ := hrel
    by_cases hlt : k < l.length
    · obtain ⟨g1, o1, rfl, hg1, d1⟩ := H1.out k hlt
      obtain ⟨g2, o2, rfl, hg2, d2⟩ := H2.out k hlt
      have a0 : w.cell? ⟨g1, o1 + k, none⟩ = some (.int .i64 l[k]) := by have := d1 0 (by omega); simpa [num_] using this
      have b0 : w.cell? ⟨g2, o2 + k, none⟩ = some (.int .i64 l[k]) := by have := d2 0 (by omega); simpa [num_] using this
      clear d1 d2
      generalize l[k] = x at *
      go_wp2
      go_quiet (fail)
      go_wp2
      go_roundw
      case rel => exact ⟨k + 1, _, by omega, by go_num, rfl⟩
      case measure => simp [intOf]; omega
    · go_wp2
      go_ret
      exact ⟨rfl, n, rfl⟩
theorem rows_hold1 (w : World) (x : Hold) : Rows (w.alloc (.cells #[.int .i64 x.n, .int .i64 x.b, .int .i64 x.a] 35)) 3 Hold.cells (.slice (some ⟨w.heap.size, 0, none⟩) 1 1) [x] := rows_blk (l := [x]) (blk_new w #[.int .i64 x.n, .int .i64 x.b, .int .i64 x.a] 35) hold_len
theorem wakes_e1 : emptyE ⟨[], [], []⟩ = true := rfl
theorem wakes_e2 : emptyE ⟨[], [⟨1, -1, 0⟩], []⟩ = false := by decide
end Go.Proofs.Ytneelmmikaefgaa
