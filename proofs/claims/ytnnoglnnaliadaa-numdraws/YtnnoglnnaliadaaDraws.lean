/- The walk of NumDraws: for any uint32 and any int the law returns true; what was there in memory is as it was. -/
import Derived.Test.YtnnoglnnaliadaaParts
import Derived.RowKit3
import Derived.Maps.OwnSet
namespace Go.Proofs.Ytnnoglnnaliadaa
open Go.RowKit Go.Maps

theorem iter_pos {y : Nat} (hy : y < 4294967296) (h0 : y ≠ 0) : ∀ n, iter n y ≠ 0
  | 0 => h0
  | n + 1 => step_pos (iter_lt hy n) (iter_pos hy h0 n)

/-- the number at hand behind j draws -/
def xAt (x : Int) : Nat → Int
  | 0 => x
  | j + 1 => (iter j (draw x.toNat) : Int)
theorem xAt_next {x : Int} (h0 : 0 ≤ x) (h1 : x < 4294967296) : ∀ j, drawI (xAt x j) = xAt x (j + 1)
  | 0 => rfl
  | j + 1 => by
    show ((draw (iter j (draw x.toNat) : Int).toNat : Nat) : Int) = ((step (iter j (draw x.toNat)) : Nat) : Int)
    have hl : draw x.toNat < 4294967296 := draw_lt (by omega)
    have hn : iter j (draw x.toNat) ≠ 0 := iter_pos hl (draw_ne (by omega)) j
    rw [Int.toNat_natCast]
    generalize iter j (draw x.toNat) = y at hn ⊢
    unfold draw
    rw [if_neg hn]
theorem xAt_bounds {x : Int} (h0 : 0 ≤ x) (h1 : x < 4294967296) : ∀ j, 0 ≤ xAt x j ∧ xAt x j < 4294967296
  | 0 => ⟨h0, h1⟩
  | j + 1 => by
    have := iter_lt (draw_lt (x := x.toNat) (by omega)) j
    show 0 ≤ ((iter j (draw x.toNat) : Nat) : Int) ∧ ((iter j (draw x.toNat) : Nat) : Int) < 4294967296
    omega
theorem xAt_pos {x : Int} (h0 : 0 ≤ x) (h1 : x < 4294967296) (j : Nat) : (xAt x (j + 1) == 0) = false := by
  have := iter_pos (draw_lt (x := x.toNat) (by omega)) (draw_ne (by omega)) j
  show (((iter j (draw x.toNat) : Nat) : Int) == 0) = false
  rw [beq_eq_false_iff_ne]
  omega
theorem xAt_ne {x : Int} (h0 : 0 ≤ x) (h1 : x < 4294967296) {i j : Nat} (hij : i < j) (hj : j < 250) : xAt x (j + 1) ≠ xAt x (i + 1) := by
  have := iter_ne (draw_lt (x := x.toNat) (by omega)) (draw_ne (by omega)) hij hj
  show ((iter j (draw x.toNat) : Nat) : Int) ≠ ((iter i (draw x.toNat) : Nat) : Int)
  omega

/-- none of the draws that are still to come is in the map -/
def ToCome (x : Int) (j : Nat) (D : DataW Unit) : Prop := ∀ i, j ≤ i → i < 250 → D.atKey (.int .u32 (xAt x (i + 1))) (.lit (.bool false)) = .lit (.bool false)
theorem ToCome.start (x : Int) : ToCome x 0 (.map []) := fun _ _ _ => rfl
theorem ToCome.next {x : Int} (h0 : 0 ≤ x) (h1 : x < 4294967296) {j : Nat} {D : DataW Unit} (h : ToCome x j D) :
    ToCome x (j + 1) (D.put (.int .u32 (xAt x (j + 1))) (.lit (.bool true))) := by
  intro i hi hi'
  rw [atKey_put_other (fun e => xAt_ne h0 h1 (show j < i by omega) hi' (Lit.int.inj e).2)]
  exact h i (by omega) hi'

def SameFrozen (w wr : World) : Prop := ∀ a, wr.frozen? a = w.frozen? a
theorem sameFrozen_made (w : World) : SameFrozen w (w.alloc (.map #[] 0)) := by
  intro a
  by_cases h : a.block = w.heap.size
  · have e1 : (w.alloc (.map #[] 0)).heap[w.heap.size]? = some (.map #[] 0) := (MapKept.heap_alloc w _).1
    have e2 : w.heap[w.heap.size]? = none := by simp
    unfold World.frozen?
    rw [h, e1, e2]
  · exact World.frozen?_alloc_old w _ a h

theorem law27 : Keyed Try.prog 27 := int_keyed Try.underlying27
theorem zero4 (w : World) : (zeroValue 4).run Try.prog w = .ok (.bool false) w := by kernel_rfl
theorem wf_u32 {a : Int} (h : 0 ≤ a ∧ a < 4294967296) : (Lit.int .u32 a).wf = true := WalkArith.wf_u32 (by omega)

/-- a look at what is not there yet -/
theorem look_false {x : Int} (h0 : 0 ≤ x) (h1 : x < 4294967296) {j : Nat} {D : DataW Unit} {wr : World} {B n : Nat} (hown : wr.ownsMap Try.prog 27 (plainElem Try.prog 4) B n D) (h : ToCome x j D) (hj : j < 250) :
    (Instr.lookup 32 (.map (some B)) (.int .u32 (xAt x (j + 1))) false).run Try.prog wr = .ok (.bool false) wr := by
  obtain ⟨v, ps, hrun, hv⟩ := hown.lookup law27 Try.underlying32 (zero4 wr) (plainElem_bool Try.underlying4 false) (keyOf_int_mk Try.underlying27 (wf_u32 (xAt_bounds h0 h1 (j + 1))))
  rw [h j (Nat.le_refl _) hj] at hv
  have : v = .bool false := by
    unfold plainElem at hv
    rw [Try.underlying4] at hv
    cases v <;> simp at hv
    rw [hv.1]
  rw [hrun, this]

theorem draw_at {x : Int} (h0 : 0 ≤ x) (h1 : x < 4294967296) (j : Nat) (w : World) :
    Calls Try.prog 11 #[.int .u32 (xAt x j)] w fun e w' => e = .returned (.int .u32 (xAt x (j + 1))) ∧ w = w' := by
  have := draw_any (xAt x j) w (xAt_bounds h0 h1 j).1 (xAt_bounds h0 h1 j).2
  rw [xAt_next h0 h1 j] at this
  exact this

set_option maxHeartbeats 2000000 in
theorem draws_walk (x n : Int) (w : World) (h0 : 0 ≤ x) (h1 : x < 4294967296) :
    Calls Try.prog 4 #[.int .u32 x, .int .i64 n] w fun e w' => e = .returned (.bool true) ∧ Grown w w' := by
  have hmm := @run_makeMap Try.prog
  obtain ⟨b0, b1⟩ := withinI_bounds (v := n) (n := 200) (by omega)
  go_enter Try.func4, Try.ntmps4
  go_wp2
  go_loopw [0, 6] (fun xs i wr => ∃ (j : Nat) (D : DataW Unit), (j : Int) ≤ 50 + withinI n 200 ∧ i = .int .i64 j ∧ xs = .int .u32 (xAt x j) ∧
      wr.ownsMap Try.prog 27 (plainElem Try.prog 4) w.heap.size j D ∧ ToCome x j D ∧ Below w.heap.size w wr ∧ SameFrozen w wr) (fun _ i _ => 250 - (intOf i).toNat)
  case atStart => exact ⟨0, .map [], by omega, rfl, rfl, World.ownsMap_made _ _ _ _, ToCome.start x, (Below.refl _ _).alloc (Nat.le_refl _) _, sameFrozen_made w⟩
  case round =>
    obtain ⟨j, D, hj, rfl, rfl, hown, hto, hb, hf⟩ := hrel
    by_cases hlt : (j : Int) < 50 + withinI n 200
    · have hlook := look_false h0 h1 hown hto (by omega)
      have hp := xAt_pos h0 h1 j
      have hkey := keyOf_int_mk Try.underlying27 (wf_u32 (xAt_bounds h0 h1 (j + 1)))
      have hnext := hto.next h0 h1
      go_wp2_with (first
        | (go_at_call 10; refine (within_any _ _ _ (by omega) (by omega)).mono ?_; rintro e w' ⟨rfl, rfl⟩)
        | (go_at_call 11; refine (draw_at h0 h1 j _).mono ?_; rintro e w' ⟨rfl, rfl⟩)
        | (at_mapUpdate; refine wpList_mapUpdate_in _ rfl _ _ _ 32 rfl 27 4 law27 Try.underlying32 _ w.heap.size j D rfl hown (by unfold maxLen; omega) _ _ _ rfl rfl hkey _ [] (plainElem_bool Try.underlying4 true) ?_; intro w1 hown1 hturn1))
      go_roundw
      case rel => exact ⟨j + 1, _, by omega, by go_num, rfl, hown1, hnext, hb.grown hturn1.grown hb.size (fun k hk => by cases hk; exact Nat.le_refl _), fun a => (hturn1.frozen a).trans (hf a)⟩
      case measure => simp [intOf]; omega
    · go_wp2_with (first
        | (go_at_call 10; refine (within_any _ _ _ (by omega) (by omega)).mono ?_; rintro e w' ⟨rfl, rfl⟩)
        | (go_at_call 13; refine (wakes_any _).mono ?_; rintro e w' ⟨rfl, rfl⟩))
      go_ret
      exact ⟨rfl, hb.frame _, hf, hb.size⟩
end Go.Proofs.Ytnnoglnnaliadaa
