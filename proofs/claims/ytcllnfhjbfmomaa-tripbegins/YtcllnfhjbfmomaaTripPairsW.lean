/- trip.pairsWhole: what it answers of a problem in memory. -/
import Derived.Test.YtcllnfhjbfmomaaTripParts
import Derived.Deep.Cut
import Derived.Deep.CutRange
import Derived.Deep.CutBlock
namespace Go.Proofs.Ytcllnfhjbfmomaa
open Go.RowKit
set_option linter.unusedSimpArgs false

set_option maxRecDepth 100000 in
set_option maxHeartbeats 4000000 in
theorem whole_any (v u : Value) (i : Prob) (l : List Int) (w : World) (h : Lies w v i) (hr : Recs w 1 num_ u l) (hl : l.length ≤ 1000000) (hp : i.pairs.length ≤ 1000000) (hin : ∀ x ∈ l, 1 ≤ x ∧ x ≤ 10) (hm : ∀ x, 0 ≤ mateL x i.pairs ∧ mateL x i.pairs ≤ 10) :
    Calls Try.prog 24 #[v, u] w fun e w' => e = .returned (.bool (pairsL i.pairs [] 0 l)) ∧ Below w.heap.size w w' := by
  have h' := h
  obtain ⟨vc, vs, vp, vt, rfl, _, _, _, _⟩ := h'
  obtain ⟨A, cap, rfl, hc⟩ := hr.num
  have HC := Lib.hid hc
  have HI := Lib.hid hin
  have HM := Lib.hid hm
  have HL := Lib.hid h
  clear hc hr hin hm h
  go_enter Try.func24, Try.ntmps24
  go_wp2
  go_loopw [6, 12] (fun ov c wr => ∃ (k : Nat) (met : List Int) (op : Int), k ≤ l.length ∧ ov = .int .i64 op ∧ c = .int .i64 k ∧ -(k : Int) ≤ op ∧ op ≤ k ∧ pairsL i.pairs [] 0 l = pairsL i.pairs met op (l.drop k) ∧ Below w.heap.size w wr ∧ Had wr (w.heap.size + 1) met ∧
    wr.cell? ⟨w.heap.size, 0, none⟩ = some vc ∧ wr.cell? ⟨w.heap.size, 1, none⟩ = some vs ∧ wr.cell? ⟨w.heap.size, 2, none⟩ = some vp ∧ wr.cell? ⟨w.heap.size, 3, none⟩ = some vt) (fun _ c _ => l.length - (intOf c).toNat)
  case atStart =>
    refine ⟨0, [], 0, Nat.zero_le _, rfl, rfl, by omega, by omega, rfl, ((Below.refl _ _).alloc (Nat.le_refl _) _).alloc (by simp) _, ?_, ?_, ?_, ?_, ?_⟩
    · have := had_start (w.alloc (.cells #[vc, vs, vp, vt] 34)) 71
      rw [show (w.alloc (.cells #[vc, vs, vp, vt] 34)).heap.size = w.heap.size + 1 by simp] at this
      exact this
    all_goals (rw [World.cell?_alloc_lt _ _ _ (by simp)]; simp)
  case round =>
    obtain ⟨k, met, op, hk, rfl, rfl, ho1, ho2, he, hb, hh, e0, e1, e2, e3⟩ := hrel
    have E0 := Lib.hid e0
    have E1 := Lib.hid e1
    have E2 := Lib.hid e2
    have E3 := Lib.hid e3
    by_cases hlt : k < l.length
    · obtain ⟨B, o, rfl, hB, hcell⟩ := HC.out k hlt
      rw [pairsL_drop hlt] at he
      have c0 : wr.cell? ⟨B, o + k, none⟩ = some (.int .i64 l[k]) := by rw [hb.cell hB]; exact hcell
      have hi := HI.out l[k] (List.getElem_mem _)
      have HE := Lib.hid he
      have HB := Lib.hid hb
      have HH := Lib.hid hh
      clear he hb hcell hh
      generalize l[k] = s at *
      obtain ⟨q, rfl⟩ : ∃ q : Nat, s = (q : Int) := ⟨s.toNat, by omega⟩
      have hcell := (HH.out.2 q (by omega)).1
      have hfr := (HH.out.2 q (by omega)).2
      have hPz := HH.out.1
      have q1 : (q : Int) < 11 := by omega
      have q2 : (0 : Int) ≤ (q : Int) := by omega
      have HB2 := Lib.hid (Below.setCell HB.out (show w.heap.size ≤ (⟨w.heap.size + 1, q, none⟩ : Addr).block by simp) (.bool true))
      have HH2 := Lib.hid (HH.out.set (y := q) (by omega))
      have f0 : (wr.setCell ⟨w.heap.size + 1, q, none⟩ (.bool true)).cell? ⟨w.heap.size, 0, none⟩ = some vc := by rw [World.cell?_setCell_other _ _ _ _ (by intro hh; injection hh with h1 _ _; omega)]; exact e0
      have f1 : (wr.setCell ⟨w.heap.size + 1, q, none⟩ (.bool true)).cell? ⟨w.heap.size, 1, none⟩ = some vs := by rw [World.cell?_setCell_other _ _ _ _ (by intro hh; injection hh with h1 _ _; omega)]; exact e1
      have f2 : (wr.setCell ⟨w.heap.size + 1, q, none⟩ (.bool true)).cell? ⟨w.heap.size, 2, none⟩ = some vp := by rw [World.cell?_setCell_other _ _ _ _ (by intro hh; injection hh with h1 _ _; omega)]; exact e2
      have f3 : (wr.setCell ⟨w.heap.size + 1, q, none⟩ (.bool true)).cell? ⟨w.heap.size, 3, none⟩ = some vt := by rw [World.cell?_setCell_other _ _ _ _ (by intro hh; injection hh with h1 _ _; omega)]; exact e3
      clear e0 e1 e2 e3
      have hlt2 : w.heap.size < wr.heap.size := by omega
      go_upto_region 7 with (fail)
      have hsz : (wr.setCell ⟨w.heap.size + 1, q, none⟩ (.bool true)).heap.size = wr.heap.size := by simp
      generalize wr.setCell ⟨w.heap.size + 1, q, none⟩ (.bool true) = wa at *
      rw [← hsz] at hlt2
      clear hsz hcell hfr c0
      go_wp2_with (go_at_call 36; fail)
      (with_reducible refine (mate_any _ i (q : Int) wa (HL.out.below HB2.out) (by omega)).mono ?_)
      rintro e w1 ⟨rfl, hb1⟩
      have HB3 := Lib.hid (HB2.out.trans (hb1.mono HB2.out.size))
      have HH3 := Lib.hid (HH2.out.below hb1)
      have g0 : w1.cell? ⟨w.heap.size, 0, none⟩ = some vc := by rw [hb1.cell hlt2]; exact f0
      have g1 : w1.cell? ⟨w.heap.size, 1, none⟩ = some vs := by rw [hb1.cell hlt2]; exact f1
      have g2 : w1.cell? ⟨w.heap.size, 2, none⟩ = some vp := by rw [hb1.cell hlt2]; exact f2
      have g3 : w1.cell? ⟨w.heap.size, 3, none⟩ = some vt := by rw [hb1.cell hlt2]; exact f3
      have hlt3 : w.heap.size < w1.heap.size := by have := hb1.size; omega
      have hm := HM.out (q : Int)
      clear f0 f1 f2 f3 hb1
      by_cases hm0 : mateL (q : Int) i.pairs = 0
      · have HE2 : Hid (pairsL i.pairs [] 0 l = pairsL i.pairs ((q : Int) :: met) op (l.drop (k + 1))) := by show _ = _; rw [HE.out, if_pos hm0]
        rw [hm0]
        clear hm0 hm
        go_wp2
        go_roundw
        case rel => exact ⟨k + 1, _, op, by omega, rfl, by go_num, by omega, by omega, HE2.out, HB3.out, HH3.out, g0, g1, g2, g3⟩
        case measure => simp [intOf]; omega
      · obtain ⟨m, hme⟩ : ∃ m : Nat, mateL (q : Int) i.pairs = (m : Int) := ⟨(mateL (q : Int) i.pairs).toNat, by omega⟩
        have HE2 := Lib.hid HE.out
        rw [if_neg hm0] at HE2
        rw [hme] at HE2 hm hm0 ⊢
        have t1 : ((m : Int) == 0) = false := by simpa using hm0
        clear hm0 hme HE
        have HG := Lib.hid (show w1.cell? ⟨w.heap.size, 0, none⟩ = some vc ∧ w1.cell? ⟨w.heap.size, 1, none⟩ = some vs ∧ w1.cell? ⟨w.heap.size, 2, none⟩ = some vp ∧ w1.cell? ⟨w.heap.size, 3, none⟩ = some vt from ⟨g0, g1, g2, g3⟩)
        go_wp2_with (go_at_call 37; fail)
        (with_reducible refine (first_any _ i (q : Int) w1 (HL.out.below HB3.out) (by omega)).mono ?_)
        rintro e w2 ⟨rfl, hb2⟩
        have HB4 := Lib.hid (HB3.out.trans (hb2.mono HB3.out.size))
        have HH4 := Lib.hid (HH3.out.below hb2)
        have G4 : Hid (w2.cell? ⟨w.heap.size, 0, none⟩ = some vc ∧ w2.cell? ⟨w.heap.size, 1, none⟩ = some vs ∧ w2.cell? ⟨w.heap.size, 2, none⟩ = some vp ∧ w2.cell? ⟨w.heap.size, 3, none⟩ = some vt) := by
          obtain ⟨a0, a1, a2, a3⟩ := HG.out
          exact ⟨by rw [hb2.cell hlt3]; exact a0, by rw [hb2.cell hlt3]; exact a1, by rw [hb2.cell hlt3]; exact a2, by rw [hb2.cell hlt3]; exact a3⟩
        clear hb2 g0 g1 g2 g3
        cases hff : firstL (q : Int) i.pairs
        · rw [hff] at HE2
          simp only [Bool.false_eq_true, if_false] at HE2
          clear hff
          have hcell := (HH4.out.2 m (by omega)).1
          have hPz4 := HH4.out.1
          have m1 : (m : Int) < 11 := by omega
          have m2 : (0 : Int) ≤ (m : Int) := by omega
          cases hcc : ((q : Int) :: met).contains (m : Int)
          · rw [hcc] at hcell HE2
            simp only [Bool.false_eq_true, if_false] at HE2
            clear hcc
            go_wp2
            go_ret
            exact ⟨ret_bb HE2.out.symm, HB4.out⟩
          · rw [hcc] at hcell HE2
            simp only [if_true] at HE2
            clear hcc
            go_wp2
            go_roundw
            case rel =>
              obtain ⟨a0, a1, a2, a3⟩ := G4.out
              exact ⟨k + 1, _, op - 1, by omega, by go_num, by go_num, by omega, by omega, HE2.out, HB4.out, HH4.out, a0, a1, a2, a3⟩
            case measure => simp [intOf]; omega
        · rw [hff] at HE2
          simp only [if_true] at HE2
          clear hff
          go_wp2
          go_roundw
          case rel =>
            obtain ⟨a0, a1, a2, a3⟩ := G4.out
            exact ⟨k + 1, _, op + 1, by omega, by go_num, by go_num, by omega, by omega, HE2.out, HB4.out, HH4.out, a0, a1, a2, a3⟩
          case measure => simp [intOf]; omega
    · have : l.drop k = [] := List.drop_eq_nil_of_le (by omega)
      rw [this] at he
      have HE := Lib.hid he
      have HB := Lib.hid hb
      clear he hb this hh
      go_wp2
      go_ret
      exact ⟨ret_bb (by rw [HE.out]; rfl), HB.out⟩
end Go.Proofs.Ytcllnfhjbfmomaa
