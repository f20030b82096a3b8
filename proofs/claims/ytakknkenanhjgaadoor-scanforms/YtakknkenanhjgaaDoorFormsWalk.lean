/- The walk of ScanForms: for any int the law returns true; old memory stands. -/
import Derived.Test.YtakknkenanhjgaaDoorDigs
import Derived.Test.YtakknkenanhjgaaDoorInts
import Derived.Test.YtakknkenanhjgaaDoorSame
import Derived.Test.YtakknkenanhjgaaDoorMem
import Derived.Deep.RegionWith
namespace Go.Proofs.YtakknkenanhjgaaDoor
open Go.RowKit

/-- the table of the statement lies in block B: in each of its 6 rows a text, and the number that it writes -/
def Six (B : Nat) (wr : World) : Prop := ∀ k, k < 6 → ∃ (s : ByteArray) (n : Int), Fit n ∧ s.size ≤ 21 ∧ intVal s.data.toList = n ∧ intOk s.data.toList = true ∧ digs n = s ∧
    wr.cell? ⟨B, k * 2, none⟩ = some (.string s) ∧ wr.cell? ⟨B, k * 2 + 1, none⟩ = some (.int .i64 n)
theorem Six.below {B : Nat} {w1 w2 : World} (h : Six B w1) (hb : Below w1.heap.size w1 w2) (hB : B < w1.heap.size) : Six B w2 := by
  intro k hk
  obtain ⟨s, n, h1, h2, h3, h4, h5, c1, c2⟩ := h k hk
  refine ⟨s, n, h1, h2, h3, h4, h5, ?_, ?_⟩
  all_goals rw [hb.cell hB]; assumption
def sixCells : Array Value := #[.string ⟨#[48]⟩, .int .i64 0, .string ⟨#[55]⟩, .int .i64 7, .string ⟨#[45, 49]⟩, .int .i64 (-1),
  .string ⟨#[57, 57, 57, 57, 57, 57, 57, 57, 57, 57, 57, 57, 57, 57, 57, 57, 57, 57]⟩, .int .i64 999999999999999999,
  .string ⟨#[45, 57, 57, 57, 57, 57, 57, 57, 57, 57, 57, 57, 57, 57, 57, 57, 57, 57, 57]⟩, .int .i64 (-999999999999999999), .string ⟨#[49, 48]⟩, .int .i64 10]
theorem digs_of {n : Int} {s : ByteArray} (h : Lib.itoa n = s.data.toList) : digs n = s := by unfold digs; rw [h]; rfl
theorem dec_of {u : Nat} {l : List UInt8} (h : (List.range (Lib.nDigits u)).map (fun t => Lib.dg u (Lib.nDigits u - 1 - t)) = l) : Lib.decDigits u = l := by rw [Lib.decDigits_eq]; exact h
theorem six_start (w : World) (t : TypeId) : Six w.heap.size (w.alloc (.cells sixCells t)) := by
  intro k hk
  match k, hk with
  | 0, _ => exact ⟨⟨#[48]⟩, 0, by unfold Fit; omega, by decide, by decide +kernel, by decide +kernel, digs_of (by decide +kernel), by rw [World.cell?_alloc_new]; rfl, by rw [World.cell?_alloc_new]; rfl⟩
  | 1, _ => exact ⟨⟨#[55]⟩, 7, by unfold Fit; omega, by decide, by decide +kernel, by decide +kernel, digs_of (by decide +kernel), by rw [World.cell?_alloc_new]; rfl, by rw [World.cell?_alloc_new]; rfl⟩
  | 2, _ => exact ⟨⟨#[45, 49]⟩, -1, by unfold Fit; omega, by decide, by decide +kernel, by decide +kernel, digs_of (by decide +kernel), by rw [World.cell?_alloc_new]; rfl, by rw [World.cell?_alloc_new]; rfl⟩
  | 3, _ => exact ⟨⟨#[57, 57, 57, 57, 57, 57, 57, 57, 57, 57, 57, 57, 57, 57, 57, 57, 57, 57]⟩, 999999999999999999, by unfold Fit; omega, by decide, by decide +kernel, by decide +kernel, digs_of (by decide +kernel), by rw [World.cell?_alloc_new]; rfl, by rw [World.cell?_alloc_new]; rfl⟩
  | 4, _ => exact ⟨⟨#[45, 57, 57, 57, 57, 57, 57, 57, 57, 57, 57, 57, 57, 57, 57, 57, 57, 57, 57]⟩, -999999999999999999, by unfold Fit; omega, by decide, by decide +kernel, by decide +kernel, digs_of (by decide +kernel), by rw [World.cell?_alloc_new]; rfl, by rw [World.cell?_alloc_new]; rfl⟩
  | 5, _ => exact ⟨⟨#[49, 48]⟩, 10, by unfold Fit; omega, by decide, by decide +kernel, by decide +kernel, digs_of (by decide +kernel), by rw [World.cell?_alloc_new]; rfl, by rw [World.cell?_alloc_new]; rfl⟩

theorem int_at {s : ByteArray} {n : Int} (hs : s.size ≤ 21) (h1 : intVal s.data.toList = n) (h2 : intOk s.data.toList = true) (W : World) :
    Calls Tryd.prog 7 #[.string s] W fun e w' => e = .returned (.tuple #[.int .i64 n, .bool true]) ∧ W = w' := by
  have := int_any s W (by omega)
  rw [h1, h2] at this
  exact this

theorem int_none {s : ByteArray} (hs : s.size ≤ 21) (h : intOk s.data.toList = false) (W : World) :
    Calls Tryd.prog 7 #[.string s] W fun e w' => e = .returned (.tuple #[.int .i64 0, .bool false]) ∧ W = w' := by
  have := int_any s W (by omega)
  rw [intVal_none h, h] at this
  exact this
theorem bad_any (r : Nat) (h : r < 16) (W : World) :
    Calls Tryd.prog 7 #[([Value.string ⟨#[]⟩, Value.string ⟨#[45]⟩, Value.string ⟨#[45, 48]⟩, Value.string ⟨#[48, 48]⟩, Value.string ⟨#[48, 49]⟩, Value.string ⟨#[45, 48, 49]⟩, Value.string ⟨#[43, 49]⟩, Value.string ⟨#[49, 32]⟩, Value.string ⟨#[32, 49]⟩, Value.string ⟨#[49, 46, 48]⟩, Value.string ⟨#[97]⟩, Value.string ⟨#[49, 97]⟩, Value.string ⟨#[49, 48, 48, 48, 48, 48, 48, 48, 48, 48, 48, 48, 48, 48, 48, 48, 48, 48, 48]⟩, Value.string ⟨#[48, 120, 49]⟩, Value.string ⟨#[45, 45, 49]⟩, Value.string ⟨#[239, 188, 145]⟩] : List Value)[r]'h] W fun e w' => e = .returned (.tuple #[.int .i64 0, .bool false]) ∧ W = w' := by
  match r, h with
  | 0, _ => exact int_none (by decide) (by decide +kernel) W
  | 1, _ => exact int_none (by decide) (by decide +kernel) W
  | 2, _ => exact int_none (by decide) (by decide +kernel) W
  | 3, _ => exact int_none (by decide) (by decide +kernel) W
  | 4, _ => exact int_none (by decide) (by decide +kernel) W
  | 5, _ => exact int_none (by decide) (by decide +kernel) W
  | 6, _ => exact int_none (by decide) (by decide +kernel) W
  | 7, _ => exact int_none (by decide) (by decide +kernel) W
  | 8, _ => exact int_none (by decide) (by decide +kernel) W
  | 9, _ => exact int_none (by decide) (by decide +kernel) W
  | 10, _ => exact int_none (by decide) (by decide +kernel) W
  | 11, _ => exact int_none (by decide) (by decide +kernel) W
  | 12, _ => exact int_none (by decide) (by decide +kernel) W
  | 13, _ => exact int_none (by decide) (by decide +kernel) W
  | 14, _ => exact int_none (by decide) (by decide +kernel) W
  | 15, _ => exact int_none (by decide) (by decide +kernel) W
  | k + 16, h => exact absurd h (by omega)
theorem least_digs : digs (-9223372036854775808) = ⟨#[45, 57, 50, 50, 51, 51, 55, 50, 48, 51, 54, 56, 53, 52, 55, 55, 53, 56, 48, 56]⟩ := digs_of (by decide +kernel)
theorem least_any (B : Nat) (W : World) (hB : B ≤ W.heap.size) (ht : Tab B W) :
    Calls Tryd.prog 8 #[.int .i64 (-9223372036854775808)] W fun e w' => e = .returned (.string ⟨#[45, 57, 50, 50, 51, 51, 55, 50, 48, 51, 54, 56, 53, 52, 55, 55, 53, 56, 48, 56]⟩) ∧ Below B W w' ∧ Below W.heap.size W w' := by
  have := digits_any B (-9223372036854775808) W (by unfold Fit; omega) hB ht
  rw [least_digs] at this
  exact this
theorem abcd_any (W : World) : Calls Tryd.prog 11 #[.string ⟨#[32, 32, 97, 32, 98, 9, 99, 32, 32, 100, 32]⟩] W (SomeRow W.heap.size [[97], [98, 9, 99], [100]] W) := by
  have := words_any ⟨#[32, 32, 97, 32, 98, 9, 99, 32, 32, 100, 32]⟩ W (by decide)
  rw [show words (⟨#[32, 32, 97, 32, 98, 9, 99, 32, 32, 100, 32]⟩ : ByteArray).data.toList = [[97], [98, 9, 99], [100]] by decide +kernel] at this
  exact this
theorem blank_any (W : World) : Calls Tryd.prog 11 #[.string ⟨#[32, 32, 32]⟩] W (SomeRow W.heap.size [] W) := by
  have := words_any ⟨#[32, 32, 32]⟩ W (by decide)
  rw [show words (⟨#[32, 32, 32]⟩ : ByteArray).data.toList = [] by decide +kernel] at this
  exact this
theorem empty_any (W : World) : Calls Tryd.prog 11 #[.string ⟨#[]⟩] W (SomeRow W.heap.size [] W) := by
  have := words_any ⟨#[]⟩ W (by decide)
  rw [show words (⟨#[]⟩ : ByteArray).data.toList = [] by decide +kernel] at this
  exact this

set_option maxRecDepth 100000 in
set_option maxHeartbeats 4000000 in
theorem forms_walk (n : Int) (w : World) (ht : Tab w.heap.size w) :
    Calls Tryd.prog 3 #[.int .i64 n] w fun e w' => e = .returned (.bool true) ∧ Below w.heap.size w w' := by
  have HT := Lib.hid ht
  clear ht
  go_enter Tryd.func3, Tryd.ntmps3
  go_wp2
  go_loopw [18] (fun i wr => ∃ k : Nat, k ≤ 6 ∧ i = .int .i64 k ∧ w.heap.size < wr.heap.size ∧ Six w.heap.size wr ∧ Below w.heap.size w wr) (fun i _ => 6 - (intOf i).toNat)
  case atStart => exact ⟨0, Nat.zero_le _, rfl, by simp, six_start w 22, (Below.refl _ _).alloc (Nat.le_refl _) _⟩
  case round =>
    obtain ⟨k, hk, rfl, hsz, hsix, hb⟩ := hrel
    by_cases hlt : k < 6
    · obtain ⟨s, m, hf, hs21, e1, e2, e3, c1, c2⟩ := hsix k hlt
      have C1 := Lib.hid (fun W => int_at hs21 e1 e2 W)
      have C2 := Lib.hid (fun W hB ht => digits_any w.heap.size m W hf hB ht)
      rw [e3] at C2
      have HX := Lib.hid hsix
      have HB := Lib.hid hb
      clear e1 e2 e3 hsix hb
      go_wp2_with (go_at_call 7; refine (C1.out _).mono ?_; rintro e w' ⟨rfl, rfl⟩)
      go_region_with (go_at_call 8; refine (C2.out _ (by simp; omega) (HT.out.on (HB.out.alloc HB.out.size _).drew)).mono ?_; rintro e w1 ⟨rfl, hb1, hb2⟩; have hz1 : wr.heap.size < w1.heap.size := (by have := hb2.size; simp at this; omega); have hc1 : w1.cell? ⟨wr.heap.size, 0, none⟩ = some (.string s) := (by rw [hb2.cell (by simp)]; simp); have HB1 := Lib.hid hb1; have HB2 := Lib.hid hb2; clear hb1 hb2)
      all_goals
        go_wp2
        go_roundw
        case rel => exact ⟨k + 1, by omega, by go_num, by omega, (((HX.out.below ((Below.refl _ _).alloc (Nat.le_refl _) _).drew hsz).below (by simpa using HB2.out) (by simp; omega))), (HB.out.alloc HB.out.size _).drew.trans HB1.out⟩
        case measure => simp [intOf]; omega
    · have HB := Lib.hid hb
      clear hb hsix
      obtain rfl : k = 6 := by omega
      obtain ⟨r, hr, hr16⟩ : ∃ r : Nat, withinI n 16 = (r : Int) ∧ r < 16 := by
        have := withinI_bounds (v := n) (n := 16) (by omega)
        exact ⟨(withinI n 16).toNat, by omega, by omega⟩
      have HW := Lib.hid (fun W => within_any n 16 W (by omega) (by omega))
      rw [hr] at HW
      clear hr
      go_wp2_with (go_at_call 9; refine (HW.out _).mono ?_; rintro e w' ⟨rfl, rfl⟩)
      (with_reducible refine (bad_any r hr16 _).mono ?_); rintro e w' ⟨rfl, rfl⟩
      have S0 := HB.out.size
      have HB0 := Lib.hid (HB.out.alloc S0 (.cells #[Value.string ⟨#[]⟩, Value.string ⟨#[45]⟩, Value.string ⟨#[45, 48]⟩, Value.string ⟨#[48, 48]⟩, Value.string ⟨#[48, 49]⟩, Value.string ⟨#[45, 48, 49]⟩, Value.string ⟨#[43, 49]⟩, Value.string ⟨#[49, 32]⟩, Value.string ⟨#[32, 49]⟩, Value.string ⟨#[49, 46, 48]⟩, Value.string ⟨#[97]⟩, Value.string ⟨#[49, 97]⟩, Value.string ⟨#[49, 48, 48, 48, 48, 48, 48, 48, 48, 48, 48, 48, 48, 48, 48, 48, 48, 48, 48]⟩, Value.string ⟨#[48, 120, 49]⟩, Value.string ⟨#[45, 45, 49]⟩, Value.string ⟨#[239, 188, 145]⟩] 9))
      generalize wr.alloc (.cells #[Value.string ⟨#[]⟩, Value.string ⟨#[45]⟩, Value.string ⟨#[45, 48]⟩, Value.string ⟨#[48, 48]⟩, Value.string ⟨#[48, 49]⟩, Value.string ⟨#[45, 48, 49]⟩, Value.string ⟨#[43, 49]⟩, Value.string ⟨#[49, 32]⟩, Value.string ⟨#[32, 49]⟩, Value.string ⟨#[49, 46, 48]⟩, Value.string ⟨#[97]⟩, Value.string ⟨#[49, 97]⟩, Value.string ⟨#[49, 48, 48, 48, 48, 48, 48, 48, 48, 48, 48, 48, 48, 48, 48, 48, 48, 48, 48]⟩, Value.string ⟨#[48, 120, 49]⟩, Value.string ⟨#[45, 45, 49]⟩, Value.string ⟨#[239, 188, 145]⟩] 9) = wa at *
      go_wp2_with (go_at_call 8; fail)
      (with_reducible refine (least_any w.heap.size _ HB0.out.size (HT.out.on HB0.out)).mono ?_); rintro e w8 ⟨rfl, hb8, _⟩
      have HB8 := Lib.hid (HB0.out.trans hb8); clear hb8
      go_wp2_with (go_at_call 11; fail)
      (with_reducible refine (abcd_any _).mono ?_); rintro e w9 ⟨v9, rfl, hown9, hb9⟩
      have HB9 := Lib.hid (HB8.out.trans (hb9.mono HB8.out.size))
      have H9 := Lib.hid hown9
      clear hown9 hb9
      have HR := Lib.hid (show (w9.alloc (.cells #[.string ⟨#[97]⟩, .string ⟨#[98, 9, 99]⟩, .string ⟨#[100]⟩] 9)).ownsRow w9.heap.size 9 1 (.slice (some ⟨w9.heap.size, 0, none⟩) 3 3) [[97], [98, 9, 99], [100]].length (strs [[97], [98, 9, 99], [100]]) from
        World.ownsRow_lit w9 #[.string ⟨#[97]⟩, .string ⟨#[98, 9, 99]⟩, .string ⟨#[100]⟩] 3 (Nat.le_refl _) (by unfold maxLen; omega) rfl)
      have H9' := Lib.hid (H9.out.alloc (.cells #[.string ⟨#[97]⟩, .string ⟨#[98, 9, 99]⟩, .string ⟨#[100]⟩] 9))
      have HB9' := Lib.hid (HB9.out.alloc HB9.out.size (.cells #[.string ⟨#[97]⟩, .string ⟨#[98, 9, 99]⟩, .string ⟨#[100]⟩] 9))
      have CS := Lib.hid (same_any _ _ _ _ _ _ H9'.out HR.out (by decide))
      go_wp2_with (go_at_call 10; fail)
      (with_reducible refine (CS.out).mono ?_); rintro e wb ⟨rfl, nb, rfl⟩
      have HBb := Lib.hid (below_draws HB9'.out nb)
      clear CS HR H9' HB9'
      generalize (w9.alloc (.cells #[.string ⟨#[97]⟩, .string ⟨#[98, 9, 99]⟩, .string ⟨#[100]⟩] 9)).drewN nb = wb at *
      go_wp2_with (go_at_call 11; fail)
      (with_reducible refine (blank_any _).mono ?_); rintro e wc ⟨vc, rfl, hownc, hbc⟩
      obtain ⟨Ac, cc, rfl, _⟩ := own_view hownc
      have HBc := Lib.hid (HBb.out.trans (hbc.mono HBb.out.size))
      clear hownc hbc
      go_wp2_with (go_at_call 11; fail)
      (with_reducible refine (empty_any _).mono ?_); rintro e wd ⟨vd, rfl, hownd, hbd⟩
      obtain ⟨Ad, cd, rfl, _⟩ := own_view hownd
      have HBd := Lib.hid (HBc.out.trans (hbd.mono HBc.out.size))
      clear hownd hbd
      go_wp2_with (go_at_call 12; refine (wakes_any _).mono ?_; rintro e w' ⟨rfl, rfl⟩)
      go_ret
      exact ⟨rfl, HBd.out⟩
end Go.Proofs.YtakknkenanhjgaaDoor
