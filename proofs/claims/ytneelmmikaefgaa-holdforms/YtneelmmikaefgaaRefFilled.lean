/- The reference's filled: a new row of one number; a store into an own row. -/
import Derived.Test.YtneelmmikaefgaaRefRising
import Derived.Test.YtneelmmikaefgaaDBits
import Derived.Laws.MakeOwn
namespace Go.Proofs.Ytneelmmikaefgaa
open Go.RowKit
set_option linter.unusedSimpArgs false

theorem make_intsR (n : Nat) (hn : n ≤ 1000000) (W : World) : (Instr.makeSlice 22 (.int .i64 (n : Int)) (.int .i64 (n : Int))).run Try.prog W = .ok (.slice (some ⟨W.heap.size, 0, none⟩) n n) (W.alloc (.cells (madeCells #[.int .i64 0] n) 3)) := by
  obtain ⟨i0, hi, hz0, hz1, hz2⟩ := info_parts int_info
  have := run_make (P := Try.prog) W 22 3 i0 _ Try.underlying22 hi hz0 .i64 .i64 (n : Int) (n : Int) (by omega) (by omega) (by rw [hz2]; omega) (by omega)
  rw [this, hz1]
  simp only [Int.toNat_natCast, Nat.mul_one]
  rfl
theorem made_intsR (n : Nat) : (madeCells #[.int .i64 0] n).toList = ints (List.replicate n 0) := by
  apply List.ext_getElem
  · simp [madeCells, ints]
  · intro i h1 h2
    simp [madeCells, ints, Nat.mod_one]
/-- a row by itself: what it holds, cell by cell, and its block as it stands -/
def RowB (W : World) (g : Nat) (l : List Int) : Prop := W.heap[g]? = some (.cells (ints l).toArray 3 (0, 0))
theorem RowB.out {W : World} {g B : Nat} {l : List Int} (h : RowB W g l) (hB : B ≤ g) (hl : l.length ≤ maxLen) : OutI B W (.slice (some ⟨g, 0, none⟩) l.length l.length) l :=
  ⟨by simp [ints], .inr ⟨g, l.length, (ints l).toArray, rfl, hB, h, Nat.le_refl _, hl, by simp [ints], by rw [Nat.mul_one]; exact List.take_of_length_le (by simp [ints])⟩⟩
theorem RowB.set {W : World} {g : Nat} {l : List Int} (h : RowB W g l) (k : Nat) (x : Int) : RowB (W.setCell ⟨g, k, none⟩ (.int .i64 x)) g (l.set k x) := by
  have := heap_set h k (.int .i64 x)
  unfold RowB
  rw [this]
  congr 2
  simp [ints]
theorem RowB.at_ {W : World} {g : Nat} {l : List Int} (h : RowB W g l) {k : Nat} (hk : k < l.length) : W.cell? ⟨g, k, none⟩ = some (.int .i64 l[k]) ∧ W.frozen? ⟨g, k, none⟩ = false := by
  have := (blk_of_heap h).2 k (by simpa [ints] using hk)
  refine ⟨?_, this.2⟩
  rw [this.1]
  simp [ints]
theorem fill_step (n k : Nat) (x : Int) (hk : k < n) : (List.replicate k x ++ List.replicate (n - k) 0).set k x = List.replicate (k + 1) x ++ List.replicate (n - (k + 1)) (0 : Int) := by
  rw [List.set_append_right _ _ (by simp), List.length_replicate, Nat.sub_self]
  rw [show n - k = (n - (k + 1)) + 1 by omega, List.replicate_succ, List.set_cons_zero, List.replicate_succ']
  simp
set_option maxRecDepth 100000 in
set_option maxHeartbeats 2000000 in
theorem refFilled_any (n : Nat) (x : Int) (w : World) (hn : n ≤ 100000) :
    Calls Try.prog 59 #[.int .i64 (n : Int), .int .i64 x] w fun e w' => e = .returned (.slice (some ⟨w.heap.size, 0, none⟩) n n) ∧ RowB w' w.heap.size (List.replicate n x) ∧ Below w.heap.size w w' := by
  have hmk := make_intsR n (by omega)
  have HG : Hid (RowB (w.alloc (.cells (madeCells #[.int .i64 0] n) 3)) w.heap.size (List.replicate n 0)) := Lib.hid (by
    unfold RowB
    rw [heap_new, ← made_intsR])
  have HB := Lib.hid ((Below.refl w.heap.size w).alloc (Nat.le_refl _) (.cells (madeCells #[.int .i64 0] n) 3))
  go_enter Try.func59, Try.ntmps59
  go_upto_region 2 with (fail)
  generalize w.alloc (.cells (madeCells #[.int .i64 0] n) 3) = w1 at *
  clear hmk
  generalize hs : w.heap.size = s at *
  go_wp2
  go_loopw [11] (fun kv wr => ∃ k : Nat, k ≤ n ∧ kv = .int .i64 k ∧ Hid (RowB wr s (List.replicate k x ++ List.replicate (n - k) 0)) ∧ Hid (Below s w wr)) (fun kv _ => n - (intOf kv).toNat)
  case atStart => exact ⟨0, Nat.zero_le _, rfl, Lib.hid (by simpa using HG.out), HB⟩
  case round =>
    obtain ⟨k, hk, rfl, hg, hb⟩ := hrel
    by_cases hlt : k < n
    · have hat := hg.out.at_ (k := k) (by simp; omega)
      have y0 := hat.1
      have z0 := hat.2
      have HG2 : Hid (RowB (wr.setCell ⟨s, k, none⟩ (.int .i64 x)) s (List.replicate (k + 1) x ++ List.replicate (n - (k + 1)) 0)) := Lib.hid (by rw [← fill_step n k x hlt]; exact hg.out.set k x)
      have HB2 : Hid (Below s w (wr.setCell ⟨s, k, none⟩ (.int .i64 x))) := Lib.hid (hb.out.setCell (Nat.le_refl _) _)
      clear hat
      generalize (List.replicate k x ++ List.replicate (n - k) (0 : Int))[k]'_ = y at *
      go_wp2
      go_roundw
      case rel => exact ⟨k + 1, by omega, by go_num, HG2, HB2⟩
      case measure => simp [intOf]; omega
    · have HF : Hid (RowB wr s (List.replicate n x)) := Lib.hid (by have h5 := hg.out; rw [show k = n by omega, Nat.sub_self] at h5; simpa using h5)
      clear hg
      go_wp2
      go_ret
      rw [hs]
      exact ⟨rfl, HF.out, hb.out⟩
end Go.Proofs.Ytneelmmikaefgaa
