/- inst.readNumbers, kindOf, rightCount. -/
import Derived.Test.YteibelmgebhleaaDoorParsePlain
import Derived.Test.YteibelmgebhleaaDoorInts
import Derived.Test.YteibelmgebhleaaDoorBlk
namespace Go.Proofs.YteibelmgebhleaaDoor
open Go.RowKit
set_option linter.unusedSimpArgs false

theorem int_info : (Tryd.prog.info? 3).map (fun i => (i.zero, i.size, i.bytes)) = some (some (.int .i64 0), 1, 8) := by kernel_rfl
theorem made_ints (n : Nat) : madeCells #[.int .i64 0] n = (ints (List.replicate n 0)).toArray := by
  apply Array.ext
  · simp [madeCells, ints]
  · intro i h1 h2
    simp [madeCells, ints, Nat.mod_one]
theorem make_any (n : Nat) (W : World) (h : n ≤ 1099511627776) : (Instr.makeSlice 42 (.int .i64 (n : Int)) (.int .i64 (n : Int))).run Tryd.prog W = .ok (.slice (some ⟨W.heap.size, 0, none⟩) n n) (W.alloc (.cells (ints (List.replicate n 0)).toArray 3)) := by
  obtain ⟨i0, hi, hz0, hz1, hz2⟩ := info_parts int_info
  have := run_make (P := Tryd.prog) W 42 3 i0 _ Tryd.underlying42 hi hz0 .i64 .i64 (n : Int) (n : Int) (by omega) (by omega) (by rw [hz2]; omega) (by omega)
  rw [this, hz1]
  simp only [Int.toNat_natCast, Nat.mul_one]
  rw [show (Value.int IntKind.i64 0).cells = #[.int .i64 0] from rfl, made_ints]
def fillI : List Int → Nat → List Int
  | [], _ => []
  | _ :: vs, 0 => 0 :: fillI vs 0
  | v :: vs, k + 1 => v :: fillI vs k
theorem fillI_len : ∀ (vs : List Int) (k : Nat), (fillI vs k).length = vs.length
  | [], _ => rfl
  | _ :: vs, 0 => by simp [fillI, fillI_len vs 0]
  | _ :: vs, k + 1 => by simp [fillI, fillI_len vs k]
theorem fillI_zero : ∀ (vs : List Int), fillI vs 0 = List.replicate vs.length 0
  | [] => rfl
  | _ :: vs => by simp [fillI, fillI_zero vs, List.replicate_succ]
theorem fillI_all : ∀ (vs : List Int), fillI vs vs.length = vs
  | [] => rfl
  | _ :: vs => by simp [fillI, fillI_all vs]
theorem fillI_put : ∀ (vs : List Int) (k : Nat) (h : k < vs.length), (fillI vs k).set k vs[k] = fillI vs (k + 1)
  | v :: vs, 0, _ => by simp [fillI]
  | v :: vs, k + 1, h => by
    have := fillI_put vs k (by simpa using h)
    simp [fillI, this]
theorem ints_set (l : List Int) (k : Nat) (n : Int) : (ints l).set k (.int .i64 n) = ints (l.set k n) := by simp [ints, List.map_set]
theorem ints_len (l : List Int) : (ints l).length = l.length := by simp [ints]
theorem fillI_set (vs : List Int) {k : Nat} (h : k < vs.length) : (ints (fillI vs k)).set k (.int .i64 vs[k]) = ints (fillI vs (k + 1)) := by rw [ints_set, fillI_put vs k h]
def NumsEnd (ws : List (List UInt8)) (w : World) (e : Ending) (w' : World) : Prop := Below w.heap.size w w' ∧
  ((ws.all intOk = true ∧ e = .returned (.tuple #[.slice (some ⟨w.heap.size, 0, none⟩) ws.length ws.length, .bool true]) ∧ Blk w' w.heap.size (ints (ws.map intVal)) ∧ Typed w' w.heap.size 3) ∨
   (ws.all intOk = false ∧ e = .returned (.tuple #[.slice none 0 0, .bool false])))
set_option maxRecDepth 100000 in
set_option maxHeartbeats 2000000 in
theorem nums_any (A : Option Addr) (cap : Nat) (ws : List (List UInt8)) (w : World) (hc : ∀ k (h : k < ws.length), ∃ g o, A = some ⟨g, o, none⟩ ∧ g < w.heap.size ∧ w.cell? ⟨g, o + k, none⟩ = some (.string (ofL ws[k])))
    (hl : ws.length ≤ 1099511627776) (hw : ∀ x ∈ ws, x.length ≤ 1099511627776) :
    Calls Tryd.prog 48 #[.slice A ws.length cap] w (NumsEnd ws w) := by
  have HC := Lib.hid hc
  have HW := Lib.hid hw
  have hmk := make_any ws.length w hl
  clear hc hw
  go_enter Tryd.func48, Tryd.ntmps48
  go_wp2
  clear hmk
  go_loopw [14] (fun i wr => ∃ k : Nat, k ≤ ws.length ∧ i = .int .i64 k ∧ Below w.heap.size w wr ∧ Blk wr w.heap.size (ints (fillI (ws.map intVal) k)) ∧ Typed wr w.heap.size 3 ∧ ws.all intOk = (ws.drop k).all intOk) (fun i _ => ws.length - (intOf i).toNat)
  case atStart => exact ⟨0, Nat.zero_le _, rfl, (Below.refl _ _).alloc (Nat.le_refl _) _, by rw [fillI_zero, List.length_map]; exact blk_new w (ints (List.replicate ws.length 0)).toArray _, typed_new _ _ _, rfl⟩
  case round =>
    obtain ⟨k, hk, rfl, hb, hbl, hty, he⟩ := hrel
    have HTY := Lib.hid hty
    clear hty
    have HB := Lib.hid hb
    have HL := Lib.hid hbl
    by_cases hlt : k < ws.length
    · obtain ⟨g, o, rfl, hg, c0⟩ := HC.out k hlt
      rw [all_drop hlt] at he
      have c1 : wr.cell? ⟨g, o + k, none⟩ = some (.string (ofL ws[k])) := by rw [hb.cell hg]; exact c0
      have hkl : k < (ints (fillI (ws.map intVal) k)).length := by rw [ints_len, fillI_len, List.length_map]; exact hlt
      have d1 := (hbl.2 k hkl).1
      have f1 := (hbl.2 k hkl).2
      have hz := hbl.1
      have HE := Lib.hid he
      have HS := Lib.hid (fillI_set (ws.map intVal) (k := k) (by simpa using hlt))
      have hxl := HW.out ws[k] (List.getElem_mem _)
      have C1 := Lib.hid (int_any (ofL ws[k]) wr (by simpa [ofL, ByteArray.size] using hxl))
      rw [ofL_toList] at C1
      rw [List.getElem_map] at HS
      generalize (ints (fillI (ws.map intVal) k))[k] = old at d1
      clear c0 hb hbl he hxl hkl
      generalize ws[k] = x at *
      cases hok : intOk x
      · rw [hok] at C1
        have HK := Lib.hid hok
        clear hok
        go_wp2_with (go_at_call 57; fail)
        (with_reducible refine (C1.out).mono ?_)
        rintro e w' ⟨rfl, rfl⟩
        go_wp2
        go_ret2
        exact ⟨HB.out, .inr ⟨by rw [HE.out, HK.out]; rfl, rfl⟩⟩
      · rw [hok] at C1
        have HK := Lib.hid hok
        clear hok
        generalize intVal x = y at *
        go_wp2_with (go_at_call 57; fail)
        (with_reducible refine (C1.out).mono ?_)
        rintro e w' ⟨rfl, rfl⟩
        go_wp2
        go_roundw
        case rel => exact ⟨k + 1, by omega, by go_num, HB.out.setCell (Nat.le_refl _) _, by rw [← HS.out]; exact HL.out.set (by rw [ints_len, fillI_len, List.length_map]; exact hlt) _, HTY.out.setCell _ _ _, by rw [HE.out, HK.out]; rfl⟩
        case measure => simp [intOf]; omega
    · obtain rfl : k = ws.length := by omega
      rw [List.drop_length] at he
      have HE := Lib.hid he
      clear hb hbl he
      go_wp2
      go_ret2
      exact ⟨HB.out, .inl ⟨HE.out, rfl, by have h := HL.out; rw [show ws.length = (ws.map intVal).length by simp, fillI_all] at h; exact h, HTY.out⟩⟩
end Go.Proofs.YteibelmgebhleaaDoor
