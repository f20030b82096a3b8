/- Package plan: a car, a stop that there is; where a stop is; those on no route (laid by gen_plow.py). -/
import Derived.Test.YtpccoflebfblbaaRefUnass
namespace Go.Proofs.Ytpccoflebfblbaa
open Go.RowKit
set_option linter.unusedSimpArgs false
set_option linter.unusedVariables false

theorem min4 (a : Int) (W : World) (P : Program) (ts : Array TypeId) (t : TypeId) : (Builtin.min_ ts t #[.int .i64 a, .int .i64 a, .int .i64 a, .int .i64 a]).run P W = .ok (.int .i64 a) W := by
  have e : ∀ W, (Builtin.min2 (.int .i64 a) (.int .i64 a)).run P W = .ok (.int .i64 a) W := fun W => by simp [Builtin.min2]
  unfold Builtin.min_
  simp [e]
set_option maxRecDepth 100000 in
set_option maxHeartbeats 4000000 in
theorem pstop_any (A1 A2 A3 A4 A5 A6 : Option Addr) (nr ns c1 c2 c3 c4 c5 c6 : Nat) (pv : Int) (k : Int) (w : World) :
    Calls Try.prog 30 #[.agg #[.slice A1 nr c1, .slice A2 ns c2, .slice A3 nr c3, .slice A4 nr c4, .slice A5 ns c5, .slice A6 nr c6, .int .i64 pv], .int .i64 k] w fun e w' => e = .returned (.bool (decide (1 ≤ k ∧ k < (ns : Int)))) ∧ Below w.heap.size w w' := by
  have HB := Lib.hid ((Below.refl w.heap.size w).alloc (Nat.le_refl _) (.cells #[.slice A1 nr c1, .slice A2 ns c2, .slice A3 nr c3, .slice A4 nr c4, .slice A5 ns c5, .slice A6 nr c6, .int .i64 pv] 34))
  obtain ⟨r, hr⟩ : ∃ r, r = decide (1 ≤ k ∧ k < (ns : Int)) := ⟨_, rfl⟩
  rw [← hr]
  by_cases h0 : 1 ≤ k
  · by_cases h1 : k < (ns : Int)
    · have hv : r = true := hr.trans (decide_eq_true (show (1 ≤ k ∧ k < (ns : Int)) from ⟨h0, h1⟩))
      have HE := Lib.hid hv
      clear hr hv
      go_enter Try.func30, Try.ntmps30
      go_wp2
      go_ret
      exact ⟨by rw [HE.out]; rfl, HB.out⟩
    · have hv : r = false := hr.trans (decide_eq_false (show ¬ (1 ≤ k ∧ k < (ns : Int)) from fun h => h1 h.2))
      have HE := Lib.hid hv
      clear hr hv
      go_enter Try.func30, Try.ntmps30
      go_wp2
      go_ret
      exact ⟨by rw [HE.out]; rfl, HB.out⟩
  · have hv : r = false := hr.trans (decide_eq_false (show ¬ (1 ≤ k ∧ k < (ns : Int)) from fun h => h0 h.1))
    have HE := Lib.hid hv
    clear hr hv
    go_enter Try.func30, Try.ntmps30
    go_wp2
    go_ret
    exact ⟨by rw [HE.out]; rfl, HB.out⟩
set_option maxRecDepth 100000 in
set_option maxHeartbeats 4000000 in
theorem pcar_any (A1 A2 A3 A4 A5 A6 : Option Addr) (nr ns c1 c2 c3 c4 c5 c6 : Nat) (pv : Int) (k : Int) (w : World) :
    Calls Try.prog 49 #[.agg #[.slice A1 nr c1, .slice A2 ns c2, .slice A3 nr c3, .slice A4 nr c4, .slice A5 ns c5, .slice A6 nr c6, .int .i64 pv], .int .i64 k] w fun e w' => e = .returned (.bool (decide (0 ≤ k ∧ k < (nr : Int)))) ∧ Below w.heap.size w w' := by
  have HB := Lib.hid ((Below.refl w.heap.size w).alloc (Nat.le_refl _) (.cells #[.slice A1 nr c1, .slice A2 ns c2, .slice A3 nr c3, .slice A4 nr c4, .slice A5 ns c5, .slice A6 nr c6, .int .i64 pv] 34))
  obtain ⟨r, hr⟩ : ∃ r, r = decide (0 ≤ k ∧ k < (nr : Int)) := ⟨_, rfl⟩
  rw [← hr]
  by_cases h0 : 0 ≤ k
  · by_cases h1 : k < (nr : Int)
    · have hv : r = true := hr.trans (decide_eq_true (show (0 ≤ k ∧ k < (nr : Int)) from ⟨h0, h1⟩))
      have HE := Lib.hid hv
      clear hr hv
      have MN := fun W => min4 (nr : Int) W Try.prog #[3, 3, 3, 3] 3
      go_enter Try.func49, Try.ntmps49
      go_wp2
      go_ret
      exact ⟨by rw [HE.out]; rfl, HB.out⟩
    · have hv : r = false := hr.trans (decide_eq_false (show ¬ (0 ≤ k ∧ k < (nr : Int)) from fun h => h1 h.2))
      have HE := Lib.hid hv
      clear hr hv
      have MN := fun W => min4 (nr : Int) W Try.prog #[3, 3, 3, 3] 3
      go_enter Try.func49, Try.ntmps49
      go_wp2
      go_ret
      exact ⟨by rw [HE.out]; rfl, HB.out⟩
  · have hv : r = false := hr.trans (decide_eq_false (show ¬ (0 ≤ k ∧ k < (nr : Int)) from fun h => h0 h.1))
    have HE := Lib.hid hv
    clear hr hv
    have MN := fun W => min4 (nr : Int) W Try.prog #[3, 3, 3, 3] 3
    go_enter Try.func49, Try.ntmps49
    go_wp2
    go_ret
    exact ⟨by rw [HE.out]; rfl, HB.out⟩
set_option maxRecDepth 100000 in
set_option maxHeartbeats 4000000 in
theorem pstops_any (A1 A2 A3 A4 A5 A6 : Option Addr) (nr ns c1 c2 c3 c4 c5 c6 : Nat) (pv : Int) (A : Option Addr) (cap : Nat) (l : List Int) (w : World) (h : Recs w 1 num_ (.slice A l.length cap) l) (hl : l.length ≤ 1000000) :
    Calls Try.prog 50 #[.agg #[.slice A1 nr c1, .slice A2 ns c2, .slice A3 nr c3, .slice A4 nr c4, .slice A5 ns c5, .slice A6 nr c6, .int .i64 pv], .slice A l.length cap] w fun e w' => e = .returned (.bool (l.all fun k => decide (1 ≤ k ∧ k < (ns : Int)))) ∧ Below w.heap.size w w' := by
  have BX := Lib.hid (blk_new w #[.slice A1 nr c1, .slice A2 ns c2, .slice A3 nr c3, .slice A4 nr c4, .slice A5 ns c5, .slice A6 nr c6, .int .i64 pv] 34)
  have B0 := Lib.hid ((Below.refl w.heap.size w).alloc (Nat.le_refl _) (.cells #[.slice A1 nr c1, .slice A2 ns c2, .slice A3 nr c3, .slice A4 nr c4, .slice A5 ns c5, .slice A6 nr c6, .int .i64 pv] 34))
  have KS := Lib.hid (fun W (k : Int) => pstop_any A1 A2 A3 A4 A5 A6 nr ns c1 c2 c3 c4 c5 c6 pv k W)
  have HR := Lib.hid h
  clear h
  go_enter Try.func50, Try.ntmps50
  go_upto_region 1 with (fail)
  generalize w.alloc (.cells #[.slice A1 nr c1, .slice A2 ns c2, .slice A3 nr c3, .slice A4 nr c4, .slice A5 ns c5, .slice A6 nr c6, .int .i64 pv] 34) = W0 at *
  have hT : w.heap.size < W0.heap.size := BX.out.1
  have HB0 := Lib.hid (Below.refl W0.heap.size W0)
  go_wp2
  go_loopw [9] (fun kv wr => ∃ k : Nat, k ≤ l.length ∧ kv = .int .i64 k ∧ Hid ((l.take k).all (fun k => decide (1 ≤ k ∧ k < (ns : Int))) = true) ∧ Hid (Below W0.heap.size W0 wr)) (fun kv _ => l.length - (intOf kv).toNat)
  case atStart => exact ⟨0, Nat.zero_le _, rfl, Lib.hid (by simp), HB0⟩
  case round =>
    obtain ⟨k, hk, rfl, ha, hb⟩ := hrel
    have cc : ∀ (j : Nat) (u : Value), [Value.slice A1 nr c1, .slice A2 ns c2, .slice A3 nr c3, .slice A4 nr c4, .slice A5 ns c5, .slice A6 nr c6, .int .i64 pv][j]? = some u → wr.cell? ⟨w.heap.size, j, none⟩ = some u := fun j u hu => by
      obtain ⟨hj, rfl⟩ := List.getElem?_eq_some_iff.1 hu
      rw [hb.out.cell hT]
      exact (BX.out.2 j hj).1
    have b0 := cc 0 _ rfl
    have b1 := cc 1 _ rfl
    have b2 := cc 2 _ rfl
    have b3 := cc 3 _ rfl
    have b4 := cc 4 _ rfl
    have b5 := cc 5 _ rfl
    have b6 := cc 6 _ rfl
    clear cc
    by_cases hlt : k < l.length
    · obtain ⟨B, q, rfl, hB, d0⟩ := recs_num HR.out hlt
      have HBW : Hid (Below w.heap.size w wr) := Lib.hid (B0.out.trans (hb.out.mono B0.out.size))
      have e0 : wr.cell? ⟨B, q + k, none⟩ = some (.int .i64 l[k]) := by rw [HBW.out.cell hB]; exact d0
      have HT1 : Hid ((l.take (k + 1)).all (fun k => decide (1 ≤ k ∧ k < (ns : Int))) = ((l.take k).all (fun k => decide (1 ≤ k ∧ k < (ns : Int))) && decide (1 ≤ l[k] ∧ l[k] < (ns : Int)))) := Lib.hid (by rw [take_snoc hlt, List.all_append, List.all_cons, List.all_nil, Bool.and_true])
      have HT2 : Hid (decide (1 ≤ l[k] ∧ l[k] < (ns : Int)) = false → l.all (fun k => decide (1 ≤ k ∧ k < (ns : Int))) = false) := Lib.hid (fun h => by
        rw [List.all_eq_false]
        exact ⟨l[k], List.getElem_mem hlt, by rw [h]; simp⟩)
      clear d0
      generalize l[k] = x at *
      have KX := Lib.hid (KS.out wr x)
      generalize decide (1 ≤ x ∧ x < (ns : Int)) = r at *
      go_wp2_with (go_at_call 30; fail)
      (with_reducible refine KX.out.mono ?_)
      rintro e w2 ⟨rfl, hb2⟩
      have HB2 : Hid (Below W0.heap.size W0 w2) := Lib.hid (hb.out.trans (hb2.mono hb.out.size))
      clear hb2 b0 b1 b2 b3 b4 b5 b6
      cases r
      · have HF := Lib.hid (HT2.out rfl)
        have HBF : Hid (Below w.heap.size w w2) := Lib.hid (B0.out.trans (HB2.out.mono B0.out.size))
        go_wp2
        go_ret
        exact ⟨by rw [HF.out]; rfl, HBF.out⟩
      · go_wp2
        go_roundw
        case rel => exact ⟨k + 1, by omega, by go_num, Lib.hid (by rw [HT1.out, ha.out]; rfl), HB2⟩
        case measure => simp [intOf]; omega
    · have HF : Hid (l.all (fun k => decide (1 ≤ k ∧ k < (ns : Int))) = true) := Lib.hid (by have := ha.out; rwa [List.take_of_length_le (by omega)] at this)
      have HBF : Hid (Below w.heap.size w wr) := Lib.hid (B0.out.trans (hb.out.mono B0.out.size))
      go_wp2
      go_ret
      exact ⟨by rw [HF.out]; rfl, HBF.out⟩
def idxL (s : Int) (l : List Int) : Int := match rowL s 0 l with
  | some k => k
  | none => -1
set_option maxRecDepth 100000 in
set_option maxHeartbeats 4000000 in
theorem pindex_any (A : Option Addr) (cap : Nat) (l : List Int) (s : Int) (w : World) (h : Recs w 1 num_ (.slice A l.length cap) l) (hl : l.length ≤ 1000000) :
    Calls Try.prog 31 #[.slice A l.length cap, .int .i64 s] w fun e w' => e = .returned (.int .i64 (idxL s l)) ∧ Below w.heap.size w w' := by
  have HR := Lib.hid h
  clear h
  go_enter Try.func31, Try.ntmps31
  go_wp2
  go_loopw [8] (fun kv wr => ∃ k : Nat, k ≤ l.length ∧ kv = .int .i64 k ∧ Hid (rowL s 0 l = rowL s k (l.drop k)) ∧ Hid (Below w.heap.size w wr)) (fun kv _ => l.length - (intOf kv).toNat)
  case atStart => exact ⟨0, Nat.zero_le _, rfl, Lib.hid rfl, Lib.hid (Below.refl _ _)⟩
  case round =>
    obtain ⟨k, hk, rfl, he, hb⟩ := hrel
    by_cases hlt : k < l.length
    · obtain ⟨B, q, rfl, hB, d0⟩ := recs_num HR.out hlt
      have e0 : wr.cell? ⟨B, q + k, none⟩ = some (.int .i64 l[k]) := by rw [hb.out.cell hB]; exact d0
      have h3 := he.out
      rw [drop_eq hlt] at h3
      have HK := Lib.hid (show rowL s 0 l = if l[k] = s then some (k : Int) else rowL s ((k : Int) + 1) (l.drop (k + 1)) from h3)
      clear d0 h3 he
      generalize l[k] = x at *
      by_cases hx : s = x
      · have t1 : (s == x) = true := by simpa using hx
        have HX : Hid (idxL s l = (k : Int)) := Lib.hid (by unfold idxL; rw [HK.out, if_pos hx.symm])
        clear hx
        go_wp2
        go_ret
        exact ⟨by rw [HX.out]; rfl, hb.out⟩
      · have t1 : (s == x) = false := by simpa using hx
        have HX := Lib.hid hx
        clear hx
        go_wp2
        go_roundw
        case rel => exact ⟨k + 1, by omega, by go_num, Lib.hid (by have := HK.out; rw [if_neg (fun e => HX.out e.symm)] at this; rw [this]; push_cast; rfl), hb⟩
        case measure => simp [intOf]; omega
    · have hd : l.drop k = [] := List.drop_eq_nil_of_le (by omega)
      have HX : Hid (idxL s l = -1) := Lib.hid (by unfold idxL; rw [he.out, hd]; rfl)
      clear hd he
      go_wp2
      go_ret
      exact ⟨by rw [HX.out]; rfl, hb.out⟩
theorem rowL_ge (s : Int) : ∀ (l : List Int) (k j : Int), rowL s k l = some j → k ≤ j
  | [], _, _, h => by cases h
  | x :: l, k, j, h => by
    unfold rowL at h
    split at h
    · injection h with h; omega
    · have := rowL_ge s l (k + 1) j h; omega
theorem whereL_neg (s : Int) : ∀ (rs : List (List Int)) (c : Int), 0 ≤ c → (whereL s c rs).1 < 0 → (whereL s c rs).1 = -1
  | [], _, _, _ => rfl
  | r :: rs, c, hc, h => by
    unfold whereL at h ⊢
    split at h
    · simp at h; omega
    · exact whereL_neg s rs (c + 1) (by omega) h
/-- where package plan says that a stop is -/
def whereP (ns : Nat) (s : Int) (rs : List (List Int)) : Int × Int := if 1 ≤ s ∧ s < (ns : Int) then whereL s 0 rs else (-1, -1)
set_option maxRecDepth 100000 in
set_option maxHeartbeats 4000000 in
theorem pwhere_any (A1 A2 A3 A4 A5 A6 : Option Addr) (ns c1 c2 c3 c4 c5 c6 : Nat) (pv : Int) (rs : List (List Int)) (s : Int) (w : World) (h : Trav w (.slice A1 rs.length c1) rs) (hn : rs.length ≤ 1000000) (hm : ∀ r ∈ rs, r.length ≤ 1000000) :
    Calls Try.prog 8 #[.agg #[.slice A1 rs.length c1, .slice A2 ns c2, .slice A3 rs.length c3, .slice A4 rs.length c4, .slice A5 ns c5, .slice A6 rs.length c6, .int .i64 pv], .int .i64 s] w fun e w' => e = .returned (.tuple #[.int .i64 (whereP ns s rs).1, .int .i64 (whereP ns s rs).2]) ∧ Below w.heap.size w w' := by
  have BX := Lib.hid (blk_new w #[.slice A1 rs.length c1, .slice A2 ns c2, .slice A3 rs.length c3, .slice A4 rs.length c4, .slice A5 ns c5, .slice A6 rs.length c6, .int .i64 pv] 34)
  have B0 := Lib.hid ((Below.refl w.heap.size w).alloc (Nat.le_refl _) (.cells #[.slice A1 rs.length c1, .slice A2 ns c2, .slice A3 rs.length c3, .slice A4 rs.length c4, .slice A5 ns c5, .slice A6 rs.length c6, .int .i64 pv] 34))
  have HR := Lib.hid h
  have HM := Lib.hid hm
  clear h hm
  obtain ⟨X, hX⟩ : ∃ X, X = whereP ns s rs := ⟨_, rfl⟩
  rw [← hX]
  go_enter Try.func8, Try.ntmps8
  go_upto_region 1 with (fail)
  generalize w.alloc (.cells #[.slice A1 rs.length c1, .slice A2 ns c2, .slice A3 rs.length c3, .slice A4 rs.length c4, .slice A5 ns c5, .slice A6 rs.length c6, .int .i64 pv] 34) = W0 at *
  have hT : w.heap.size < W0.heap.size := BX.out.1
  have HB0 := Lib.hid (Below.refl W0.heap.size W0)
  have KX := Lib.hid (pstop_any A1 A2 A3 A4 A5 A6 rs.length ns c1 c2 c3 c4 c5 c6 pv s W0)
  have cc : ∀ (j : Nat) (u : Value), [Value.slice A1 rs.length c1, .slice A2 ns c2, .slice A3 rs.length c3, .slice A4 rs.length c4, .slice A5 ns c5, .slice A6 rs.length c6, .int .i64 pv][j]? = some u → W0.cell? ⟨w.heap.size, j, none⟩ = some u := fun j u hu => by
    obtain ⟨hj, rfl⟩ := List.getElem?_eq_some_iff.1 hu
    rw [HB0.out.cell hT]
    exact (BX.out.2 j hj).1
  have b0 := cc 0 _ rfl
  have b1 := cc 1 _ rfl
  have b2 := cc 2 _ rfl
  have b3 := cc 3 _ rfl
  have b4 := cc 4 _ rfl
  have b5 := cc 5 _ rfl
  have b6 := cc 6 _ rfl
  clear cc
  by_cases hs : 1 ≤ s ∧ s < (ns : Int)
  · rw [decide_eq_true hs] at KX
    have HXE : Hid (X = whereL s 0 rs) := Lib.hid (by rw [hX]; unfold whereP; rw [if_pos hs])
    clear hX hs
    go_wp2_with (go_at_call 30; fail)
    (with_reducible refine KX.out.mono ?_)
    rintro e w2 ⟨rfl, hb2⟩
    have HB2 : Hid (Below W0.heap.size W0 w2) := Lib.hid hb2
    clear hb2 KX b0 b1 b2 b3 b4 b5 b6
    have cc : ∀ (j : Nat) (u : Value), [Value.slice A1 rs.length c1, .slice A2 ns c2, .slice A3 rs.length c3, .slice A4 rs.length c4, .slice A5 ns c5, .slice A6 rs.length c6, .int .i64 pv][j]? = some u → w2.cell? ⟨w.heap.size, j, none⟩ = some u := fun j u hu => by
      obtain ⟨hj, rfl⟩ := List.getElem?_eq_some_iff.1 hu
      rw [HB2.out.cell hT]
      exact (BX.out.2 j hj).1
    have b0 := cc 0 _ rfl
    have b1 := cc 1 _ rfl
    have b2 := cc 2 _ rfl
    have b3 := cc 3 _ rfl
    have b4 := cc 4 _ rfl
    have b5 := cc 5 _ rfl
    have b6 := cc 6 _ rfl
    clear cc
    go_wp2
    go_loopw [16] (fun cv wr => ∃ c : Nat, c ≤ rs.length ∧ cv = .int .i64 c ∧ Hid (whereL s 0 rs = whereL s c (rs.drop c)) ∧ Hid (Below W0.heap.size W0 wr)) (fun cv _ => rs.length - (intOf cv).toNat)
    case atStart => exact ⟨0, Nat.zero_le _, rfl, Lib.hid rfl, HB2⟩
    case round =>
      obtain ⟨c, hc, rfl, he, hb⟩ := hrel
      have HBW : Hid (Below w.heap.size w wr) := Lib.hid (B0.out.trans (hb.out.mono B0.out.size))
      by_cases hlt : c < rs.length
      · obtain ⟨B, o, Ar, cr, rfl, hB, d0, hr⟩ := trav_at HR.out hlt
        have e0 : wr.cell? ⟨B, o + c, none⟩ = some (.slice Ar rs[c].length cr) := by rw [HBW.out.cell hB]; exact d0
        have hlr := HM.out _ (List.getElem_mem hlt)
        have KI := Lib.hid (pindex_any Ar cr rs[c] s wr (hr.below HBW.out) hlr)
        have he2 := he.out
        rw [drop_eq hlt] at he2
        have HW := Lib.hid (show whereL s 0 rs = match rowL s 0 rs[c] with | some k => ((c : Int), k) | none => whereL s ((c : Int) + 1) (rs.drop (c + 1)) from he2)
        have HG := Lib.hid (rowL_ge s rs[c] 0)
        have HI := Lib.hid (show idxL s rs[c] = match rowL s 0 rs[c] with | some k => k | none => -1 from rfl)
        clear d0 hr he he2
        generalize idxL s rs[c] = x at *
        generalize rs[c] = r at *
        rcases hq : rowL s 0 r with _ | k
        · have hx : x = -1 := by have := HI.out; rw [hq] at this; exact this
          subst hx
          have HN : Hid (whereL s 0 rs = whereL s ((c : Int) + 1) (rs.drop (c + 1))) := Lib.hid (by have := HW.out; rw [hq] at this; exact this)
          clear hq HW HI HG
          go_wp2_with (go_at_call 31; fail)
          (with_reducible refine KI.out.mono ?_)
          rintro e w3 ⟨rfl, hb3⟩
          have HB3 : Hid (Below W0.heap.size W0 w3) := Lib.hid (hb.out.trans (hb3.mono hb.out.size))
          clear hb3 e0
          go_wp2
          go_roundw
          case rel => exact ⟨c + 1, by omega, by go_num, Lib.hid (by rw [HN.out]; push_cast; rfl), HB3⟩
          case measure => simp [intOf]; omega
        · have hx : x = k := by have := HI.out; rw [hq] at this; exact this
          subst hx
          have hk0 := HG.out _ hq
          have HN : Hid (X = ((c : Int), x)) := Lib.hid (by have := HW.out; rw [hq] at this; rw [HXE.out]; exact this)
          clear hq HW HI HG
          go_wp2_with (go_at_call 31; fail)
          (with_reducible refine KI.out.mono ?_)
          rintro e w3 ⟨rfl, hb3⟩
          have HB3 : Hid (Below w.heap.size w w3) := Lib.hid (HBW.out.trans (hb3.mono HBW.out.size))
          clear hb3 e0
          go_wp2
          go_ret2
          exact ⟨by rw [HN.out]; rfl, HB3.out⟩
      · have hd : rs.drop c = [] := List.drop_eq_nil_of_le (by omega)
        have HN : Hid (X = (-1, -1)) := Lib.hid (by rw [HXE.out, he.out, hd]; rfl)
        clear hd he
        go_wp2
        go_ret2
        exact ⟨by rw [HN.out]; rfl, HBW.out⟩
  · rw [decide_eq_false hs] at KX
    have HN : Hid (X = (-1, -1)) := Lib.hid (by rw [hX]; unfold whereP; rw [if_neg hs])
    clear hX hs
    go_wp2_with (go_at_call 30; fail)
    (with_reducible refine KX.out.mono ?_)
    rintro e w2 ⟨rfl, hb2⟩
    have HBF : Hid (Below w.heap.size w w2) := Lib.hid (B0.out.trans (hb2.mono B0.out.size))
    clear hb2
    go_wp2
    go_ret2
    exact ⟨by rw [HN.out]; rfl, HBF.out⟩
set_option maxRecDepth 100000 in
set_option maxHeartbeats 4000000 in
theorem punass_any (A1 A2 A3 A4 A5 A6 : Option Addr) (ns c1 c2 c3 c4 c5 c6 : Nat) (pv : Int) (rs : List (List Int)) (w : World) (h : Trav w (.slice A1 rs.length c1) rs) (hn : rs.length ≤ 1000000) (hm : ∀ r ∈ rs, r.length ≤ 1000000) (h5 : ns ≤ 100000) :
    Calls Try.prog 12 #[.agg #[.slice A1 rs.length c1, .slice A2 ns c2, .slice A3 rs.length c3, .slice A4 rs.length c4, .slice A5 ns c5, .slice A6 rs.length c6, .int .i64 pv]] w fun e w' => ∃ v, e = .returned v ∧ OutI w.heap.size w' v (unassL rs (ns - 1)) ∧ Below w.heap.size w w' := by
  obtain ⟨i0, hi0, hz0, hz1, hz2⟩ := info_parts int_info
  have BX := Lib.hid (blk_new w #[.slice A1 rs.length c1, .slice A2 ns c2, .slice A3 rs.length c3, .slice A4 rs.length c4, .slice A5 ns c5, .slice A6 rs.length c6, .int .i64 pv] 34)
  have B0 := Lib.hid ((Below.refl w.heap.size w).alloc (Nat.le_refl _) (.cells #[.slice A1 rs.length c1, .slice A2 ns c2, .slice A3 rs.length c3, .slice A4 rs.length c4, .slice A5 ns c5, .slice A6 rs.length c6, .int .i64 pv] 34))
  have KW := Lib.hid (fun W (hb : Below w.heap.size w W) (s : Int) => pwhere_any A1 A2 A3 A4 A5 A6 ns c1 c2 c3 c4 c5 c6 pv rs s W (h.below hb) hn hm)
  have KS := Lib.hid (fun W (k : Int) => pstop_any A1 A2 A3 A4 A5 A6 rs.length ns c1 c2 c3 c4 c5 c6 pv k W)
  clear h hm
  go_enter Try.func12, Try.ntmps12
  go_upto_region 1 with (fail)
  generalize w.alloc (.cells #[.slice A1 rs.length c1, .slice A2 ns c2, .slice A3 rs.length c3, .slice A4 rs.length c4, .slice A5 ns c5, .slice A6 rs.length c6, .int .i64 pv] 34) = W0 at *
  have hT : w.heap.size < W0.heap.size := BX.out.1
  have HB0 := Lib.hid (Below.refl W0.heap.size W0)
  go_wp2
  go_loopw [3, 4] (fun ov sv wr => ∃ k : Nat, (k + 1 ≤ ns ∨ k = 0) ∧ sv = .int .i64 ((k : Int) + 1) ∧ Hid (OutI W0.heap.size wr ov (unassL rs k)) ∧ Hid (Below W0.heap.size W0 wr)) (fun _ sv _ => ns - (intOf sv).toNat)
  case atStart => exact ⟨0, .inr rfl, rfl, Lib.hid (World.ownsRow_nil _ _ _ _), HB0⟩
  case round =>
    obtain ⟨k, hk, rfl, ho, hb⟩ := hrel
    have cc : ∀ (j : Nat) (u : Value), [Value.slice A1 rs.length c1, .slice A2 ns c2, .slice A3 rs.length c3, .slice A4 rs.length c4, .slice A5 ns c5, .slice A6 rs.length c6, .int .i64 pv][j]? = some u → wr.cell? ⟨w.heap.size, j, none⟩ = some u := fun j u hu => by
      obtain ⟨hj, rfl⟩ := List.getElem?_eq_some_iff.1 hu
      rw [hb.out.cell hT]
      exact (BX.out.2 j hj).1
    have b0 := cc 0 _ rfl
    have b1 := cc 1 _ rfl
    have b2 := cc 2 _ rfl
    have b3 := cc 3 _ rfl
    have b4 := cc 4 _ rfl
    have b5 := cc 5 _ rfl
    have b6 := cc 6 _ rfl
    clear cc
    have KX := Lib.hid (KS.out wr ((k : Int) + 1))
    by_cases hlt : k + 1 < ns
    · have hlt' : (k : Int) + 1 < (ns : Int) := by omega
      rw [decide_eq_true (show 1 ≤ (k : Int) + 1 ∧ (k : Int) + 1 < (ns : Int) from ⟨by omega, hlt'⟩)] at KX
      have HS := Lib.hid (unassL_succ rs k)
      have hle := unassL_length rs k
      have HWP : Hid (whereP ns ((k : Int) + 1) rs = whereL ((k : Int) + 1) 0 rs) := Lib.hid (by unfold whereP; rw [if_pos ⟨by omega, hlt'⟩])
      have HWN := Lib.hid (whereL_neg ((k : Int) + 1) rs 0 (by omega))
      go_wp2_with (go_at_call 30; fail)
      (with_reducible refine KX.out.mono ?_)
      rintro e w1 ⟨rfl, hb1⟩
      have HB1 : Hid (Below W0.heap.size W0 w1) := Lib.hid (hb.out.trans (hb1.mono hb.out.size))
      have HO1 : Hid (OutI W0.heap.size w1 _ _) := Lib.hid (own_below ho.out hb1)
      have HBW : Hid (Below w.heap.size w w1) := Lib.hid (B0.out.trans (HB1.out.mono B0.out.size))
      have KWk := Lib.hid (KW.out w1 HBW.out ((k : Int) + 1))
      rw [HWP.out] at KWk
      clear hb1 b0 b1 b2 b3 b4 b5 b6 KX
      have cc : ∀ (j : Nat) (u : Value), [Value.slice A1 rs.length c1, .slice A2 ns c2, .slice A3 rs.length c3, .slice A4 rs.length c4, .slice A5 ns c5, .slice A6 rs.length c6, .int .i64 pv][j]? = some u → w1.cell? ⟨w.heap.size, j, none⟩ = some u := fun j u hu => by
        obtain ⟨hj, rfl⟩ := List.getElem?_eq_some_iff.1 hu
        rw [HB1.out.cell hT]
        exact (BX.out.2 j hj).1
      have b0 := cc 0 _ rfl
      have b1 := cc 1 _ rfl
      have b2 := cc 2 _ rfl
      have b3 := cc 3 _ rfl
      have b4 := cc 4 _ rfl
      have b5 := cc 5 _ rfl
      have b6 := cc 6 _ rfl
      clear cc
      go_wp2_with (go_at_call 8; fail)
      (with_reducible refine KWk.out.mono ?_)
      rintro e w2 ⟨rfl, hb2⟩
      have HB2 : Hid (Below W0.heap.size W0 w2) := Lib.hid (HB1.out.trans (hb2.mono HB1.out.size))
      have HO2 : Hid (OutI W0.heap.size w2 _ _) := Lib.hid (own_below HO1.out hb2)
      clear hb2 b0 b1 b2 b3 b4 b5 b6
      generalize (whereL ((k : Int) + 1) 0 rs).1 = p at *
      generalize (whereL ((k : Int) + 1) 0 rs).2 = q at *
      by_cases hp : p < 0
      · have hp1 := HWN.out hp
        have HE : Hid (unassL rs (k + 1) = unassL rs k ++ [(k : Int) + 1]) := Lib.hid (by rw [HS.out, if_pos hp])
        have OW : Hid ((w2.alloc (.cells #[.int .i64 ((k : Int) + 1)] 3)).ownsRow W0.heap.size 3 1 _ _ _) := Lib.hid (World.ownsRow.alloc HO2.out _)
        have RN : Hid (Reads (w2.alloc (.cells #[.int .i64 ((k : Int) + 1)] 3)) (w2.heap.size + 1) 1 (some ⟨w2.heap.size, 0, none⟩) 1 (ints [(k : Int) + 1])) := Lib.hid (reads_new w2 (ints [(k : Int) + 1]) 3)
        have HB3 : Hid (Below W0.heap.size W0 (w2.alloc (.cells #[.int .i64 ((k : Int) + 1)] 3))) := Lib.hid (HB2.out.alloc HB2.out.size _)
        subst hp1
        clear hp HWN HS
        go_wp2_with (at_builtin; refine wpList_append_any _ rfl _ _ 28 rfl W0.heap.size 3 i0 _ 1 8 Try.underlying28 hi0 hz0 hz1 hz2 rfl (by decide) _ (unassL rs k).length (ints (unassL rs k)) rfl OW.out (w2.heap.size + 1) (some ⟨w2.heap.size, 0, none⟩) 1 1 (ints [(k : Int) + 1]) rfl RN.out ?c1 ?c2 ?c3 ?c4 ?_)
        case c1 => exact ints_one _
        case c2 => unfold maxLen; omega
        case c3 => omega
        case c4 => exact HB3.out.size
        intro v' w4 hown hgrow hob
        have HO4 := Lib.hid (outI_add hown)
        have HB4 : Hid (Below W0.heap.size W0 w4) := Lib.hid (HB3.out.grown hgrow HB3.out.size (fun g hg => (own_typed OW.out hg).2))
        clear hown hgrow hob
        go_wp2
        go_roundw
        case rel => exact ⟨k + 1, .inl (by omega), by go_num, Lib.hid (by rw [HE.out]; exact HO4.out), HB4⟩
        case measure => simp [intOf]; omega
      · have t1 : (p == -1) = false := by simp; omega
        have HE : Hid (unassL rs (k + 1) = unassL rs k) := Lib.hid (by rw [HS.out, if_neg hp])
        go_wp2
        go_roundw
        case rel => exact ⟨k + 1, .inl (by omega), by go_num, Lib.hid (by rw [HE.out]; exact HO2.out), HB2⟩
        case measure => simp [intOf]; omega
    · have hlt' : ¬ (k : Int) + 1 < (ns : Int) := by omega
      rw [decide_eq_false (show ¬ (1 ≤ (k : Int) + 1 ∧ (k : Int) + 1 < (ns : Int)) from fun h => hlt' h.2)] at KX
      have hkn : Hid (k = ns - 1) := Lib.hid (by omega)
      go_wp2_with (go_at_call 30; fail)
      (with_reducible refine KX.out.mono ?_)
      rintro e w1 ⟨rfl, hb1⟩
      have HBW : Hid (Below w.heap.size w w1) := Lib.hid (B0.out.trans ((hb.out.trans (hb1.mono hb.out.size)).mono B0.out.size))
      have HF : Hid (OutI w.heap.size w1 _ (unassL rs (ns - 1))) := Lib.hid (by rw [← hkn.out]; exact own_lower (own_below ho.out hb1) (Nat.le_of_lt hT))
      clear hkn hb1
      go_wp2
      go_ret
      exact ⟨_, rfl, HF.out, HBW.out⟩
end Go.Proofs.Ytpccoflebfblbaa
