/- inst.Mate, First, and the reference's: what they answer of a problem in memory. -/
import Derived.Test.YtpccoflebfblbaaInstChk
namespace Go.Proofs.Ytpccoflebfblbaa
open Go.RowKit
set_option linter.unusedSimpArgs false
def mateL (s : Int) : List Pair → Int
  | [] => 0
  | p :: l => if p.a = s then p.b else if p.b = s then p.a else mateL s l
def firstL (s : Int) : List Pair → Bool
  | [] => false
  | p :: l => if p.a = s then true else firstL s l
theorem mateL_drop {s : Int} {l : List Pair} {k : Nat} (h : k < l.length) : mateL s (l.drop k) = if l[k].a = s then l[k].b else if l[k].b = s then l[k].a else mateL s (l.drop (k + 1)) := by rw [drop_at h]; rfl
theorem firstL_drop {s : Int} {l : List Pair} {k : Nat} (h : k < l.length) : firstL s (l.drop k) = if l[k].a = s then true else firstL s (l.drop (k + 1)) := by rw [drop_at h]; rfl
theorem ret_i {a b : Int} (h : a = b) : Ending.returned (.int .i64 a) = .returned (.int .i64 b) := by rw [h]
theorem ret_bb {a b : Bool} (h : a = b) : Ending.returned (.bool a) = .returned (.bool b) := by rw [h]

set_option maxRecDepth 100000 in
set_option maxHeartbeats 2000000 in
theorem refmate_any (v : Value) (i : Prob) (s : Int) (w : World) (h : Lies w v i) (hs : i.pairs.length ≤ 1099511627776) :
    Calls Try.prog 66 #[v, .int .i64 s] w fun e w' => e = .returned (.int .i64 (mateL s i.pairs)) ∧ Below w.heap.size w w' := by
  obtain ⟨vc, vs, vp, vt, rfl, _, _, ⟨A, cap, rfl, hc⟩, _⟩ := h
  have HC := Lib.hid hc
  clear hc
  go_enter Try.func66, Try.ntmps66
  go_wp2
  go_loopw [10] (fun c wr => ∃ k : Nat, k ≤ i.pairs.length ∧ c = .int .i64 k ∧ mateL s i.pairs = mateL s (i.pairs.drop k) ∧ Below w.heap.size w wr) (fun c _ => i.pairs.length - (intOf c).toNat)
  case atStart => exact ⟨0, Nat.zero_le _, rfl, rfl, (Below.refl _ _).alloc (Nat.le_refl _) _⟩
  case round =>
    obtain ⟨k, hk, rfl, he, hb⟩ := hrel
    by_cases hlt : k < i.pairs.length
    · obtain ⟨B, o, rfl, hB, hcell⟩ := HC.out k hlt
      rw [mateL_drop hlt] at he
      have c0 : wr.cell? ⟨B, o + k * 2, none⟩ = some (.int .i64 i.pairs[k].a) := by rw [hb.cell hB]; exact hcell 0 (by omega)
      have c1 : wr.cell? ⟨B, o + k * 2 + 1, none⟩ = some (.int .i64 i.pairs[k].b) := by rw [hb.cell hB]; exact hcell 1 (by omega)
      have HE := Lib.hid he
      have HB := Lib.hid hb
      clear he hb hcell
      generalize i.pairs[k] = p at *
      by_cases h1 : p.a = s
      · rw [if_pos h1] at HE
        have t1 : (p.a == s) = true := by simpa using h1
        clear h1
        go_wp2
        go_ret
        exact ⟨ret_i HE.out.symm, HB.out.alloc HB.out.size _⟩
      · rw [if_neg h1] at HE
        have t1 : (p.a == s) = false := by simpa using h1
        by_cases h2 : p.b = s
        · rw [if_pos h2] at HE
          have t2 : (p.b == s) = true := by simpa using h2
          clear h1 h2
          go_wp2
          go_ret
          exact ⟨ret_i HE.out.symm, HB.out.alloc HB.out.size _⟩
        · rw [if_neg h2] at HE
          have t2 : (p.b == s) = false := by simpa using h2
          clear h1 h2
          go_wp2
          go_roundw
          case rel => exact ⟨k + 1, by omega, by go_num, HE.out, HB.out.alloc HB.out.size _⟩
          case measure => simp [intOf]; omega
    · have : i.pairs.drop k = [] := List.drop_eq_nil_of_le (by omega)
      rw [this] at he
      have HE := Lib.hid he
      have HB := Lib.hid hb
      clear he hb this
      go_wp2
      go_ret
      exact ⟨ret_i (by rw [HE.out]; rfl), HB.out⟩

set_option maxRecDepth 100000 in
set_option maxHeartbeats 2000000 in
theorem reffirst_any (v : Value) (i : Prob) (s : Int) (w : World) (h : Lies w v i) (hs : i.pairs.length ≤ 1099511627776) :
    Calls Try.prog 67 #[v, .int .i64 s] w fun e w' => e = .returned (.bool (firstL s i.pairs)) ∧ Below w.heap.size w w' := by
  obtain ⟨vc, vs, vp, vt, rfl, _, _, ⟨A, cap, rfl, hc⟩, _⟩ := h
  have HC := Lib.hid hc
  clear hc
  go_enter Try.func67, Try.ntmps67
  go_wp2
  go_loopw [10] (fun c wr => ∃ k : Nat, k ≤ i.pairs.length ∧ c = .int .i64 k ∧ firstL s i.pairs = firstL s (i.pairs.drop k) ∧ Below w.heap.size w wr) (fun c _ => i.pairs.length - (intOf c).toNat)
  case atStart => exact ⟨0, Nat.zero_le _, rfl, rfl, (Below.refl _ _).alloc (Nat.le_refl _) _⟩
  case round =>
    obtain ⟨k, hk, rfl, he, hb⟩ := hrel
    by_cases hlt : k < i.pairs.length
    · obtain ⟨B, o, rfl, hB, hcell⟩ := HC.out k hlt
      rw [firstL_drop hlt] at he
      have c0 : wr.cell? ⟨B, o + k * 2, none⟩ = some (.int .i64 i.pairs[k].a) := by rw [hb.cell hB]; exact hcell 0 (by omega)
      have c1 : wr.cell? ⟨B, o + k * 2 + 1, none⟩ = some (.int .i64 i.pairs[k].b) := by rw [hb.cell hB]; exact hcell 1 (by omega)
      have HE := Lib.hid he
      have HB := Lib.hid hb
      clear he hb hcell
      generalize i.pairs[k] = p at *
      by_cases h1 : p.a = s
      · rw [if_pos h1] at HE
        have t1 : (p.a == s) = true := by simpa using h1
        clear h1
        go_wp2
        go_ret
        exact ⟨ret_bb HE.out.symm, HB.out.alloc HB.out.size _⟩
      · rw [if_neg h1] at HE
        have t1 : (p.a == s) = false := by simpa using h1
        clear h1
        go_wp2
        go_roundw
        case rel => exact ⟨k + 1, by omega, by go_num, HE.out, HB.out.alloc HB.out.size _⟩
        case measure => simp [intOf]; omega
    · have : i.pairs.drop k = [] := List.drop_eq_nil_of_le (by omega)
      rw [this] at he
      have HE := Lib.hid he
      have HB := Lib.hid hb
      clear he hb this
      go_wp2
      go_ret
      exact ⟨ret_bb (by rw [HE.out]; rfl), HB.out⟩
end Go.Proofs.Ytpccoflebfblbaa
