/- What the laws of stage 7 share: draymankeep.Same, Copy, Cut, the example of the document, Same of edits (laid by gen_dlaw.py). -/
import Derived.Test.YtbellnanikaffaaDMoved2
import Derived.Test.YtbellnanikaffaaKeep
import Derived.Laws.StructEq
import Derived.Laws.Tables
import Derived.Laws.Cover2
namespace Go.Proofs.Ytbellnanikaffaa
open Go.RowKit
set_option linter.unusedSimpArgs false

theorem rows_blk {α : Type} {W : World} {g c cap : Nat} {f : α → List Value} {l : List α} (h : Blk W g (l.flatMap f)) (hf : ∀ x, (f x).length = c) : Rows W c f (.slice (some ⟨g, 0, none⟩) l.length cap) l := by
  refine ⟨_, cap, rfl, fun k hk => ⟨g, 0, rfl, h.1, fun j u hu => ?_⟩⟩
  have hj : j < c := by
    rcases Nat.lt_or_ge j c with h' | h'
    · exact h'
    · rw [List.getElem?_eq_none (by rw [hf]; exact h')] at hu; cases hu
  have e := flat_get hf l k j hk hj
  rw [hu] at e
  obtain ⟨hl, he⟩ := List.getElem?_eq_some_iff.1 e
  rw [Nat.zero_add, (h.2 _ hl).1, he]
theorem rows_nil {α : Type} {W : World} {A : Option Addr} {c cap : Nat} {f : α → List Value} : Rows W c f (.slice A 0 cap) ([] : List α) := ⟨A, cap, rfl, fun k hk => absurd hk (by simp)⟩
theorem turns_nil {W : World} {A : Option Addr} {cap : Nat} : Turns W (.slice A 0 cap) [] := ⟨rows_nil, fun t ht => by cases ht⟩
theorem recs_blk {W : World} {g cap : Nat} {l : List Int} (h : Blk W g (ints l)) : Recs W 1 num_ (.slice (some ⟨g, 0, none⟩) l.length cap) l := by
  refine ⟨_, cap, rfl, fun k hk => ⟨g, 0, rfl, h.1, fun j hj => ?_⟩⟩
  obtain rfl : j = 0 := by omega
  have := (h.2 k (by simpa [ints] using hk)).1
  rw [Nat.mul_one, Nat.add_zero, Nat.zero_add, this]
  simp [ints, num_]
theorem neq_hold (a b c : Int) (W : World) : (binOp .neq 27 (.agg #[.int .i64 a, .int .i64 b, .int .i64 c]) (.agg #[.int .i64 a, .int .i64 b, .int .i64 c])).run Try.prog W = .ok (.bool false) W := by
  have u3 := Try.underlying3
  have a3 := Try.isAgg3
  have z3 := Try.sizeOf3
  have hS : Try.prog.underlying 27 = some (.struct (Try.prog.fieldsOf 27)) := by kernel_rfl
  have hp : Try.prog.stoodInHeld 27 = false := by kernel_rfl
  rw [run_neq_struct, show (10000 : Nat) = 9999 + 1 from rfl, run_equalIn_agg W 9999 27 _ _ hS hp]
  simp only [Program.fieldsOf, Try.underlying27]
  go_simp
set_option maxRecDepth 100000 in
set_option maxHeartbeats 1000000 in
theorem same_holds (A1 A2 : Option Addr) (c1 c2 : Nat) (l : List Hold) (w : World) (h1 : Rows w 3 Hold.cells (.slice A1 l.length c1) l) (h2 : Rows w 3 Hold.cells (.slice A2 l.length c2) l) (hl : l.length ≤ 1099511627776) :
    Calls Try.prog 24 #[.slice A1 l.length c1, .slice A2 l.length c2] w fun e w' => e = .returned (.bool true) ∧ Below w.heap.size w w' := by
  have H1 := Lib.hid h1
  have H2 := Lib.hid h2
  clear h1 h2
  go_enter Try.func24, Try.ntmps24
  go_wp2
  go_loopw [5] (fun i wr => ∃ k : Nat, k ≤ l.length ∧ i = .int .i64 k ∧ Below w.heap.size w wr) (fun i _ => l.length - (intOf i).toNat)
  case atStart => exact ⟨0, Nat.zero_le _, rfl, Below.refl _ _⟩
  case round =>
    obtain ⟨k, hk, rfl, hb⟩ := hrel
    by_cases hlt : k < l.length
    · obtain ⟨g1, o1, rfl, hg1, d0, d1, d2⟩ := H1.out.hold hlt
      obtain ⟨g2, o2, rfl, hg2, e0, e1, e2⟩ := H2.out.hold hlt
      have a0 : wr.cell? ⟨g1, o1 + k * 3, none⟩ = some (.int .i64 l[k].n) := by rw [hb.cell hg1]; exact d0
      have a1 : wr.cell? ⟨g1, o1 + k * 3 + 1, none⟩ = some (.int .i64 l[k].b) := by rw [hb.cell hg1]; exact d1
      have a2 : wr.cell? ⟨g1, o1 + k * 3 + 2, none⟩ = some (.int .i64 l[k].a) := by rw [hb.cell hg1]; exact d2
      have b0 : wr.cell? ⟨g2, o2 + k * 3, none⟩ = some (.int .i64 l[k].n) := by rw [hb.cell hg2]; exact e0
      have b1 : wr.cell? ⟨g2, o2 + k * 3 + 1, none⟩ = some (.int .i64 l[k].b) := by rw [hb.cell hg2]; exact e1
      have b2 : wr.cell? ⟨g2, o2 + k * 3 + 2, none⟩ = some (.int .i64 l[k].a) := by rw [hb.cell hg2]; exact e2
      have HB := Lib.hid hb
      clear d0 d1 d2 e0 e1 e2 hb
      generalize l[k] = x at *
      have hneq := neq_hold x.n x.b x.a
      go_wp2
      go_quiet (fail)
      go_wp2
      go_roundw
      case rel => exact ⟨k + 1, by omega, by go_num, below_draws' HB.out _⟩
      case measure => simp [intOf]; omega
    · have HB := Lib.hid hb
      clear hb
      go_wp2
      go_ret
      exact ⟨rfl, HB.out⟩
set_option maxRecDepth 100000 in
set_option maxHeartbeats 1000000 in
theorem same_ints (v1 v2 : Value) (l : List Int) (w : World) (h1 : Recs w 1 num_ v1 l) (h2 : Recs w 1 num_ v2 l) (hl : l.length ≤ 1099511627776) :
    Calls Try.prog 12 #[v1, v2] w fun e w' => e = .returned (.bool true) ∧ ∃ n, w' = w.drewN n := by
  obtain ⟨A1, c1, rfl, hc1⟩ := h1
  obtain ⟨A2, c2, rfl, hc2⟩ := h2
  have H1 := Lib.hid hc1
  have H2 := Lib.hid hc2
  clear hc1 hc2
  go_enter Try.func12, Try.ntmps12
  go_wp2
  go_loopw [5] (fun i wr => ∃ k n : Nat, k ≤ l.length ∧ i = .int .i64 k ∧ wr = w.drewN n) (fun i _ => l.length - (intOf i).toNat)
  case atStart => exact ⟨0, 0, Nat.zero_le _, rfl, rfl⟩
  case round =>
    obtain ⟨k, n, hk, rfl, rfl⟩ := hrel
    by_cases hlt : k < l.length
    · obtain ⟨g1, o1, rfl, hg1, d1⟩ := H1.out k hlt
      obtain ⟨g2, o2, rfl, hg2, d2⟩ := H2.out k hlt
      have a0 : w.cell? ⟨g1, o1 + k, none⟩ = some (.int .i64 l[k]) := by have := d1 0 (by omega); simpa [num_] using this
      have b0 : w.cell? ⟨g2, o2 + k, none⟩ = some (.int .i64 l[k]) := by have := d2 0 (by omega); simpa [num_] using this
      clear d1 d2
      generalize l[k] = x at *
      go_wp2
      go_quiet (fail)
      go_wp2
      go_roundw
      case rel => exact ⟨k + 1, _, by omega, by go_num, rfl⟩
      case measure => simp [intOf]; omega
    · go_wp2
      go_ret
      exact ⟨rfl, n, rfl⟩
set_option maxRecDepth 100000 in
set_option maxHeartbeats 2000000 in
theorem copy_any (A : Option Addr) (cap : Nat) (r : List Int) (w : World) (h : Recs w 1 num_ (.slice A r.length cap) r) (hl : r.length ≤ 1000000) :
    Calls Try.prog 16 #[.slice A r.length cap] w fun e w' => ∃ A' cap', e = .returned (.slice A' r.length cap') ∧ w'.ownsRow w.heap.size 3 1 (.slice A' r.length cap') r.length (ints r) ∧ Below w.heap.size w w' := by
  obtain ⟨i0, hi0, hz0, hz1, hz2⟩ := info_parts int_info
  have HR := Lib.hid (recs_reads1 h)
  clear h
  go_enter Try.func16, Try.ntmps16
  go_wp2_with (at_builtin; refine wpList_append_any _ rfl _ _ 22 rfl w.heap.size 3 i0 _ 1 8 Try.underlying22 hi0 hz0 hz1 hz2 rfl (by decide) (.slice none 0 0) 0 [] rfl ⟨rfl, .inl ⟨rfl, rfl⟩⟩ w.heap.size A r.length cap (ints r) rfl HR.out (ints_one r) ?c2 ?c3 (Nat.le_refl _) ?_)
  case c2 => unfold maxLen; omega
  case c3 => omega
  intro v' w2 hown' hgrow hob
  have hb : Below w.heap.size w w2 := (Below.refl _ _).grown hgrow (Nat.le_refl _) (fun g hg => by cases hg)
  (try simp only [Nat.zero_add, List.nil_append] at hown')
  obtain ⟨A', n', cap', rfl⟩ := own_slice hown'
  obtain rfl : n' = r.length := by
    rcases hown'.2 with ⟨h, h0⟩ | ⟨_, _, _, h, _⟩
    · injection h with _ h _; omega
    · injection h
  have HO := Lib.hid hown'
  have HB := Lib.hid hb
  clear hown' hgrow hob hb
  go_wp2
  go_ret
  exact ⟨A', cap', rfl, HO.out, HB.out⟩
set_option maxRecDepth 100000 in
set_option maxHeartbeats 2000000 in
theorem cut7_any (A : Option Addr) (cap : Nat) (r : List Int) (m : Nat) (w : World) (h : Recs w 1 num_ (.slice A r.length cap) r) (hc : r.length ≤ cap) (hm : m ≤ 1000) :
    Calls Try.prog 15 #[.slice A r.length cap, .int .i64 (m : Int)] w fun e w' => ∃ A' cap', e = .returned (.slice A' (r.take m).length cap') ∧ w'.ownsRow w.heap.size 3 1 (.slice A' (r.take m).length cap') (r.take m).length (ints (r.take m)) ∧ Below w.heap.size w w' := by
  have hsz : ∀ W, (sizeOf (Try.prog.elem 22)).run Try.prog W = .ok 1 W := fun W => by kernel_rfl
  have hel : Try.prog.underlying 22 = some (.slice (Try.prog.elem 22)) := by kernel_rfl
  have hl : (r.take m).length = min m r.length := List.length_take
  obtain ⟨k, hk⟩ : ∃ k, min m r.length = k := ⟨_, rfl⟩
  rw [hk] at hl
  have hkr : k ≤ r.length := by omega
  have hkc : k ≤ cap := by omega
  have SL : ∀ W, (Instr.slice 22 (.slice A r.length cap) none (some (.int .i64 (k : Int))) none).run Try.prog W = .ok (.slice A k cap) W := fun W => by
    rw [run_slice_h (P := Try.prog) W 22 A r.length cap hel .i64 (k : Int) (by omega) (by omega), hsz]
    have e : (if cap = 0 then A else A.map (fun x => x.add (0 * 1))) = A := by
      split
      · rfl
      · rw [Nat.zero_mul]
        cases A with
        | none => rfl
        | some a => rw [Option.map_some, add_zero_addr]
    simp only [Result.andThen, sliced, Int.toNat_natCast, Nat.sub_zero, e]
  have HR : Recs w 1 num_ (.slice (A) (r.take m).length cap) (r.take m) := by
    obtain ⟨A', cap', e, hcell⟩ := h
    injection e with e1 _ e2
    subst e1 e2
    refine ⟨_, _, rfl, fun j hj => ?_⟩
    have hj2 : j < k := by omega
    obtain ⟨B, o, rfl, hB, hx⟩ := hcell j (by omega)
    refine ⟨B, o, rfl, hB, fun q hq => ?_⟩
    rw [List.getElem_take]
    exact hx q hq
  rw [hl] at HR ⊢
  have K := Lib.hid (fun W (hb : Below w.heap.size w W) => copy_any (A) cap (r.take m) W (by rw [hl]; exact HR.below hb) (by rw [hl]; omega))
  rw [hl] at K
  clear HR h
  generalize r.take m = rm at *
  have hmin : (if (m : Int) < (r.length : Int) then (m : Int) else (r.length : Int)) = (k : Int) := by split <;> omega
  have hmin2 : min (r.length : Int) (m : Int) = (k : Int) := by omega
  have hmin3 : (if (r.length : Int) < (m : Int) then (r.length : Int) else (m : Int)) = (k : Int) := by split <;> omega
  have HSL := Lib.hid SL
  clear hk hl hsz hel hkr hkc SL
  have SL := HSL.out
  go_enter Try.func15, Try.ntmps15
  go_wp2_with (go_at_call 16; fail)
  refine (K.out _ (Below.refl _ _)).mono ?_
  rintro e w1 ⟨A1, C1, rfl, ho, hb⟩
  have HO := Lib.hid ho
  have HB := Lib.hid hb
  clear ho hb
  go_wp2
  go_ret
  exact ⟨_, _, rfl, HO.out, HB.out⟩

theorem rows_hold1 (w : World) (x : Hold) : Rows (w.alloc (.cells #[.int .i64 x.n, .int .i64 x.b, .int .i64 x.a] 27)) 3 Hold.cells (.slice (some ⟨w.heap.size, 0, none⟩) 1 1) [x] := rows_blk (l := [x]) (blk_new w #[.int .i64 x.n, .int .i64 x.b, .int .i64 x.a] 27) hold_len
theorem wakes_e1 : emptyE ⟨[], [], []⟩ = true := rfl
theorem wakes_e2 : emptyE ⟨[], [⟨1, -1, 0⟩], []⟩ = false := by decide
set_option maxRecDepth 100000 in
set_option maxHeartbeats 2000000 in
theorem wakes7_any (w : World) : Calls Try.prog 14 #[] w fun e w' => e = .returned (.bool true) ∧ Below w.heap.size w w' := by
  have K1 := Lib.hid (empty_any none none none 0 0 0 ⟨[], [], []⟩ w ⟨turns_nil, rows_nil, rows_nil, by simp, by simp, by simp, fun t ht => by cases ht⟩)
  rw [wakes_e1] at K1
  have K2 := Lib.hid (fun w1 : World => empty_any none (some ⟨w1.heap.size, 0, none⟩) none 0 1 0 ⟨[], [⟨1, -1, 0⟩], []⟩ (w1.alloc (.cells #[.int .i64 1, .int .i64 (-1), .int .i64 0] 27))
    ⟨turns_nil, rows_hold1 w1 ⟨1, -1, 0⟩, rows_nil, by simp, by simp, by simp, fun t ht => by cases ht⟩)
  rw [wakes_e2] at K2
  go_enter Try.func14, Try.ntmps14
  go_wp2_with (go_at_call 11; fail)
  refine K1.out.mono ?_
  rintro e w1 ⟨rfl, hb⟩
  have HB1 := Lib.hid hb
  have HB2 := Lib.hid (HB1.out.alloc HB1.out.size (.cells #[.int .i64 1, .int .i64 (-1), .int .i64 0] 27))
  clear hb K1
  have K3 := Lib.hid (K2.out w1)
  go_wp2_with (go_at_call 11; fail)
  refine K3.out.mono ?_
  rintro e w2 ⟨rfl, hb⟩
  have HB3 := Lib.hid (HB2.out.trans (hb.mono HB2.out.size))
  clear hb
  go_wp2
  go_ret
  exact ⟨rfl, HB3.out⟩
end Go.Proofs.Ytbellnanikaffaa
