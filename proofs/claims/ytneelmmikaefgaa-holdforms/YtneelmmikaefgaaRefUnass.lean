/- The reference's Unassigned: the stops on no route, rising. -/
import Derived.Test.YtneelmmikaefgaaPlanMem
import Derived.Test.YtneelmmikaefgaaRefRising
namespace Go.Proofs.Ytneelmmikaefgaa
open Go.RowKit
set_option linter.unusedSimpArgs false

def unassL (rs : List (List Int)) (k : Nat) : List Int := ((List.range k).map fun i => ((i : Nat) : Int) + 1).filter fun s => decide ((whereL s 0 rs).1 < 0)
theorem unassL_succ (rs : List (List Int)) (k : Nat) : unassL rs (k + 1) = if (whereL ((k : Int) + 1) 0 rs).1 < 0 then unassL rs k ++ [(k : Int) + 1] else unassL rs k := by
  unfold unassL
  rw [List.range_succ, List.map_append, List.filter_append]
  by_cases h : (whereL ((k : Int) + 1) 0 rs).1 < 0 <;> simp [h]
theorem unassL_length (rs : List (List Int)) (k : Nat) : (unassL rs k).length ≤ k := by
  unfold unassL
  refine Nat.le_trans (List.length_filter_le _ _) ?_
  simp
theorem outI_add {B : Nat} {W : World} {v : Value} {o : List Int} {x : Int} (h : W.ownsRow B 3 1 v (o.length + 1) (ints o ++ ints [x])) : OutI B W v (o ++ [x]) := by
  unfold OutI
  have e : ints (o ++ [x]) = ints o ++ ints [x] := by simp [ints]
  rw [e, List.length_append, List.length_singleton]
  exact h
set_option maxRecDepth 100000 in
set_option maxHeartbeats 4000000 in
theorem refUnass_any (A1 A2 A3 A4 A5 A6 : Option Addr) (n2 n3 n4 n5 n6 c1 c2 c3 c4 c5 c6 : Nat) (pv : Int) (rs : List (List Int)) (w : World) (h : Trav w (.slice A1 rs.length c1) rs) (hn : rs.length ≤ 1099511627776) (hm : ∀ r ∈ rs, r.length ≤ 1099511627776) (h5 : n5 ≤ 100000) :
    Calls Try.prog 76 #[.agg #[.slice A1 rs.length c1, .slice A2 n2 c2, .slice A3 n3 c3, .slice A4 n4 c4, .slice A5 n5 c5, .slice A6 n6 c6, .int .i64 pv]] w fun e w' => ∃ v, e = .returned v ∧ OutI w.heap.size w' v (unassL rs (n5 - 1)) ∧ Below w.heap.size w w' := by
  obtain ⟨i0, hi0, hz0, hz1, hz2⟩ := info_parts int_info
  have BX := Lib.hid (blk_new w #[.slice A1 rs.length c1, .slice A2 n2 c2, .slice A3 n3 c3, .slice A4 n4 c4, .slice A5 n5 c5, .slice A6 n6 c6, .int .i64 pv] 25)
  have B0 := Lib.hid ((Below.refl w.heap.size w).alloc (Nat.le_refl _) (.cells #[.slice A1 rs.length c1, .slice A2 n2 c2, .slice A3 n3 c3, .slice A4 n4 c4, .slice A5 n5 c5, .slice A6 n6 c6, .int .i64 pv] 25))
  have KW := Lib.hid (fun W (hb : Below w.heap.size w W) (s : Int) => refWhere_any A1 A2 A3 A4 A5 A6 n2 n3 n4 n5 n6 c1 c2 c3 c4 c5 c6 pv rs s W (h.below hb) hn hm)
  clear h hm
  go_enter Try.func76, Try.ntmps76
  go_upto_region 1 with (fail)
  generalize w.alloc (.cells #[.slice A1 rs.length c1, .slice A2 n2 c2, .slice A3 n3 c3, .slice A4 n4 c4, .slice A5 n5 c5, .slice A6 n6 c6, .int .i64 pv] 25) = W0 at *
  have hT : w.heap.size < W0.heap.size := BX.out.1
  have HB0 := Lib.hid (Below.refl W0.heap.size W0)
  go_wp2
  go_loopw [3, 4] (fun ov sv wr => ∃ k : Nat, (k + 1 ≤ n5 ∨ k = 0) ∧ sv = .int .i64 ((k : Int) + 1) ∧ Hid (OutI W0.heap.size wr ov (unassL rs k)) ∧ Hid (Below W0.heap.size W0 wr)) (fun _ sv _ => n5 - (intOf sv).toNat)
  case atStart => exact ⟨0, .inr rfl, rfl, Lib.hid (World.ownsRow_nil _ _ _ _), HB0⟩
  case round =>
    obtain ⟨k, hk, rfl, ho, hb⟩ := hrel
    have cc : ∀ (j : Nat) (u : Value), [Value.slice A1 rs.length c1, .slice A2 n2 c2, .slice A3 n3 c3, .slice A4 n4 c4, .slice A5 n5 c5, .slice A6 n6 c6, .int .i64 pv][j]? = some u → wr.cell? ⟨w.heap.size, j, none⟩ = some u := fun j u hu => by
      obtain ⟨hj, rfl⟩ := List.getElem?_eq_some_iff.1 hu
      rw [hb.out.cell hT]
      exact (BX.out.2 j hj).1
    have b0 := cc 0 _ rfl
    have b1 := cc 1 _ rfl
    have b2 := cc 2 _ rfl
    have b3 := cc 3 _ rfl
    have b4 := cc 4 _ rfl
    have b5 := cc 5 _ rfl
    have b6 := cc 6 _ rfl
    clear cc
    by_cases hlt : k + 1 < n5
    · have hlt' : (k : Int) + 1 < (n5 : Int) := by omega
      have HBW : Hid (Below w.heap.size w wr) := Lib.hid (B0.out.trans (hb.out.mono B0.out.size))
      have KWk := Lib.hid (KW.out wr HBW.out ((k : Int) + 1))
      have HS := Lib.hid (unassL_succ rs k)
      have hle := unassL_length rs k
      go_upto_region 5 with (fail)
      go_wp2_with (go_at_call 109; fail)
      (with_reducible refine KWk.out.mono ?_)
      rintro e w2 ⟨rfl, hb2⟩
      have HB2 : Hid (Below W0.heap.size W0 w2) := Lib.hid (hb.out.trans (hb2.mono hb.out.size))
      have HO2 : Hid (OutI W0.heap.size w2 _ _) := Lib.hid (own_below ho.out hb2)
      clear hb2 b0 b1 b2 b3 b4 b5 b6
      generalize (whereL ((k : Int) + 1) 0 rs).1 = p at *
      generalize (whereL ((k : Int) + 1) 0 rs).2 = q at *
      by_cases hp : p < 0
      · have HE : Hid (unassL rs (k + 1) = unassL rs k ++ [(k : Int) + 1]) := Lib.hid (by rw [HS.out, if_pos hp])
        have OW : Hid ((w2.alloc (.cells #[.int .i64 ((k : Int) + 1)] 3)).ownsRow W0.heap.size 3 1 _ _ _) := Lib.hid (World.ownsRow.alloc HO2.out _)
        have RN : Hid (Reads (w2.alloc (.cells #[.int .i64 ((k : Int) + 1)] 3)) (w2.heap.size + 1) 1 (some ⟨w2.heap.size, 0, none⟩) 1 (ints [(k : Int) + 1])) := Lib.hid (reads_new w2 (ints [(k : Int) + 1]) 3)
        have HB3 : Hid (Below W0.heap.size W0 (w2.alloc (.cells #[.int .i64 ((k : Int) + 1)] 3))) := Lib.hid (HB2.out.alloc HB2.out.size _)
        go_wp2_with (at_builtin; refine wpList_append_any _ rfl _ _ 22 rfl W0.heap.size 3 i0 _ 1 8 Try.underlying22 hi0 hz0 hz1 hz2 rfl (by decide) _ (unassL rs k).length (ints (unassL rs k)) rfl OW.out (w2.heap.size + 1) (some ⟨w2.heap.size, 0, none⟩) 1 1 (ints [(k : Int) + 1]) rfl RN.out ?c1 ?c2 ?c3 ?c4 ?_)
        case c1 => exact ints_one _
        case c2 => unfold maxLen; omega
        case c3 => omega
        case c4 => exact HB3.out.size
        intro v' w4 hown hgrow hob
        have HO4 := Lib.hid (outI_add hown)
        have HB4 : Hid (Below W0.heap.size W0 w4) := Lib.hid (HB3.out.grown hgrow HB3.out.size (fun g hg => (own_typed OW.out hg).2))
        clear hown hgrow hob
        go_wp2
        go_roundw
        case rel => exact ⟨k + 1, .inl (by omega), by go_num, Lib.hid (by rw [HE.out]; exact HO4.out), HB4⟩
        case measure => simp [intOf]; omega
      · have HE : Hid (unassL rs (k + 1) = unassL rs k) := Lib.hid (by rw [HS.out, if_neg hp])
        go_wp2
        go_roundw
        case rel => exact ⟨k + 1, .inl (by omega), by go_num, Lib.hid (by rw [HE.out]; exact HO2.out), HB2⟩
        case measure => simp [intOf]; omega
    · have hlt' : ¬ (k : Int) + 1 < (n5 : Int) := by omega
      have hkn : k = n5 - 1 := by omega
      have HBW : Hid (Below w.heap.size w wr) := Lib.hid (B0.out.trans (hb.out.mono B0.out.size))
      have HF : Hid (OutI w.heap.size wr _ (unassL rs (n5 - 1))) := Lib.hid (by rw [← hkn]; exact own_lower ho.out (Nat.le_of_lt hT))
      clear hkn
      go_wp2
      go_ret
      exact ⟨_, rfl, HF.out, HBW.out⟩
end Go.Proofs.Ytneelmmikaefgaa
