/- Package hold: Release (laid by gen_hold.py). -/
import Derived.Test.YtneelmmikaefgaaHMay
namespace Go.Proofs.Ytneelmmikaefgaa
open Go.RowKit
set_option linter.unusedSimpArgs false
set_option linter.unusedVariables false

set_option maxRecDepth 100000 in
set_option maxHeartbeats 4000000 in
theorem release_any (A1 A2 A3 A4 A5 A6 : Option Addr) (n4 n5 n6 c1 c2 c3 c4 c5 c6 : Nat) (pv : Int) (rs : List (List Int)) (lk ic : List Int) (who : Int) (w : World) (hl : Recs w 1 num_ (.slice A2 lk.length c2) lk) (hi : Recs w 1 num_ (.slice A3 ic.length c3) ic) (n1 : lk.length < 20) (n2 : ic.length < 20) :
    Calls Try.prog 7 #[.agg #[.slice A1 rs.length c1, .slice A2 lk.length c2, .slice A3 ic.length c3, .slice A4 n4 c4, .slice A5 n5 c5, .slice A6 n6 c6, .int .i64 pv], .int .i64 who] w fun e w' => ∃ v1 v2 v3, e = .returned (.agg #[v1, v2, v3]) ∧ OutT w.heap.size w' v1 [] ∧ OutH w.heap.size w' v2 (holdsL (endsL lk 1 who (max 1 lk.length))) ∧ OutH w.heap.size w' v3 (holdsL (endsL ic 0 who (max 0 ic.length))) ∧ Below w.heap.size w w' := by
  have W0B : Hid (Below w.heap.size w ((w.alloc (.cells #[.slice A1 rs.length c1, .slice A2 lk.length c2, .slice A3 ic.length c3, .slice A4 n4 c4, .slice A5 n5 c5, .slice A6 n6 c6, .int .i64 pv] 25)).alloc (.cells #[.slice none 0 0, .slice none 0 0, .slice none 0 0] 31))) := Lib.hid (((Below.refl _ _).alloc (Nat.le_refl _) _).alloc (by simp) _)
  have BP : Hid (Blk ((w.alloc (.cells #[.slice A1 rs.length c1, .slice A2 lk.length c2, .slice A3 ic.length c3, .slice A4 n4 c4, .slice A5 n5 c5, .slice A6 n6 c6, .int .i64 pv] 25)).alloc (.cells #[.slice none 0 0, .slice none 0 0, .slice none 0 0] 31)) w.heap.size #[.slice A1 rs.length c1, .slice A2 lk.length c2, .slice A3 ic.length c3, .slice A4 n4 c4, .slice A5 n5 c5, .slice A6 n6 c6, .int .i64 pv].toList) := Lib.hid ((blk_new w _ _).alloc _)
  have BR : Hid (Blk ((w.alloc (.cells #[.slice A1 rs.length c1, .slice A2 lk.length c2, .slice A3 ic.length c3, .slice A4 n4 c4, .slice A5 n5 c5, .slice A6 n6 c6, .int .i64 pv] 25)).alloc (.cells #[.slice none 0 0, .slice none 0 0, .slice none 0 0] 31)) (w.heap.size + 1) #[.slice none 0 0, .slice none 0 0, .slice none 0 0].toList) := Lib.hid (blk_at (w := w.alloc _) #[.slice none 0 0, .slice none 0 0, .slice none 0 0] 31 (by simp))
  have HL := Lib.hid (hl.below W0B.out)
  have HI := Lib.hid (hi.below W0B.out)
  clear hl hi
  obtain ⟨L, hL⟩ : ∃ L, endsL lk 1 who (max 1 lk.length) = L := ⟨_, rfl⟩
  obtain ⟨I, hI⟩ : ∃ I, endsL ic 0 who (max 0 ic.length) = I := ⟨_, rfl⟩
  rw [hL, hI]
  have hLl : L.length ≤ 20 := by have := endsL_length lk 1 who (max 1 lk.length); rw [hL] at this; omega
  have hIl : I.length < 20 := by have := endsL_length ic 0 who (max 0 ic.length); rw [hI] at this; omega
  have hLl2 : L.length < 20 := by have := endsL_length lk 1 who (max 1 lk.length); rw [hL] at this; omega
  go_enter Try.func7, Try.ntmps7
  go_upto_region 1 with (fail)
  generalize ((w.alloc (.cells #[.slice A1 rs.length c1, .slice A2 lk.length c2, .slice A3 ic.length c3, .slice A4 n4 c4, .slice A5 n5 c5, .slice A6 n6 c6, .int .i64 pv] 25)).alloc (.cells #[.slice none 0 0, .slice none 0 0, .slice none 0 0] 31)) = W0 at *
  generalize hs : w.heap.size = s at *
  have HS0 : s + 1 < W0.heap.size := BR.out.1
  have b1 : W0.drew.cell? ⟨s, 1, none⟩ = _ := (BP.out.2 1 (by simp)).1
  have b2 : W0.drew.cell? ⟨s, 2, none⟩ = _ := (BP.out.2 2 (by simp)).1
  have KL := Lib.hid (fun W (hb : Below W0.heap.size W0 W) => ends_any A2 c2 lk 1 who W (HL.out.below hb) (by omega) (by omega))
  have KI := Lib.hid (fun W (hb : Below W0.heap.size W0 W) => ends_any A3 c3 ic 0 who W (HI.out.below hb) (by omega) (by omega))
  rw [hL] at KL
  rw [hI] at KI
  clear hL hI
  refine wp_region_z (S := (fun W => W.cell? ⟨s, 1, none⟩ = some (.slice A2 lk.length c2) ∧ W.cell? ⟨s, 2, none⟩ = some (.slice A3 ic.length c3))) (z := 11) (by kernel_rfl) ⟨b1, b2⟩ (fun hH => ?_)
  have HB0 : Hid (Below W0.heap.size W0 W0.drew) := Lib.hid (Below.refl W0.heap.size W0).drew
  have SS := Lib.hid (fun W (hb : Below W0.heap.size W0 W) => (⟨by rw [hb.cell (by simp only; omega)]; exact b1, by rw [hb.cell (by simp only; omega)]; exact b2⟩ : W.cell? ⟨s, 1, none⟩ = some (.slice A2 lk.length c2) ∧ W.cell? ⟨s, 2, none⟩ = some (.slice A3 ic.length c3)))
  refine wpAnyZ_takeS (i := 0) (v := ?_) rfl (by kernel_rfl) (by kernel_rfl) (by kernel_rfl) (by kernel_rfl) (fun _ _ _ h => h) (gives_value (by rfl) ?_) (by assumption) ?_
  rotate_left
  · intro w hSw
    obtain ⟨s0, s1⟩ := hSw
    go_simp
    (try with_reducible rfl)
  (try simp only [Act.put, List.getElem_toArray, List.getElem_cons_succ, List.getElem_cons_zero, List.setIfInBounds_toArray, List.set_cons_zero, List.set_cons_succ])
  refine wpAnyZ_takeS (i := 1) (v := ?_) rfl (by kernel_rfl) (by kernel_rfl) (by kernel_rfl) (by kernel_rfl) (fun _ _ _ h => h) (gives_value (by rfl) ?_) (by assumption) ?_
  rotate_left
  · intro w hSw
    obtain ⟨s0, s1⟩ := hSw
    go_simp
    (try with_reducible rfl)
  (try simp only [Act.put, List.getElem_toArray, List.getElem_cons_succ, List.getElem_cons_zero, List.setIfInBounds_toArray, List.set_cons_zero, List.set_cons_succ])
  refine wpAnyZ_takeS (i := 2) (v := ?_) rfl (by kernel_rfl) (by kernel_rfl) (by kernel_rfl) (by kernel_rfl) (fun _ _ _ h => h) (gives_value (by rfl) ?_) (by assumption) ?_
  rotate_left
  · intro w hSw
    obtain ⟨s0, s1⟩ := hSw
    go_simp
    (try with_reducible rfl)
  (try simp only [Act.put, List.getElem_toArray, List.getElem_cons_succ, List.getElem_cons_zero, List.setIfInBounds_toArray, List.set_cons_zero, List.set_cons_succ])
  refine wpAnyZ_takeS (i := 4) (v := ?_) rfl (by kernel_rfl) (by kernel_rfl) (by kernel_rfl) (by kernel_rfl) (fun _ _ _ h => h) (gives_value (by rfl) ?_) (by assumption) ?_
  rotate_left
  · intro w hSw
    obtain ⟨s0, s1⟩ := hSw
    go_simp
    (try with_reducible rfl)
  (try simp only [Act.put, List.getElem_toArray, List.getElem_cons_succ, List.getElem_cons_zero, List.setIfInBounds_toArray, List.set_cons_zero, List.set_cons_succ])
  refine wpAnyZ_takeS (i := 5) (v := ?_) rfl (by kernel_rfl) (by kernel_rfl) (by kernel_rfl) (by kernel_rfl) (fun _ _ _ h => h) (gives_value (by rfl) ?_) (by assumption) ?_
  rotate_left
  · intro w hSw
    obtain ⟨s0, s1⟩ := hSw
    go_simp
    (try with_reducible rfl)
  (try simp only [Act.put, List.getElem_toArray, List.getElem_cons_succ, List.getElem_cons_zero, List.setIfInBounds_toArray, List.set_cons_zero, List.set_cons_succ])
  refine wpAnyZ_takeS (i := 6) (v := ?_) rfl (by kernel_rfl) (by kernel_rfl) (by kernel_rfl) (by kernel_rfl) (fun _ _ _ h => h) (gives_value (by rfl) ?_) (by assumption) ?_
  rotate_left
  · intro w hSw
    obtain ⟨s0, s1⟩ := hSw
    go_simp
    (try with_reducible rfl)
  (try simp only [Act.put, List.getElem_toArray, List.getElem_cons_succ, List.getElem_cons_zero, List.setIfInBounds_toArray, List.set_cons_zero, List.set_cons_succ])
  refine wpAnyZ_one (i := 3) (by kernel_rfl) ?_
  refine zstep rfl (fun K hK => ?_)
  go_simp
  refine (KL.out _ HB0.out).mono ?_
  rintro e w2 ⟨vl, rfl, ho, hb⟩
  have HBw2 : Hid (Below W0.heap.size W0 w2) := Lib.hid (HB0.out.trans (hb.mono HB0.out.size))
  have OL : Hid (w2.ownsRow W0.heap.size 35 3 vl L.length (L.flatMap Hold.cells)) := Lib.hid (own_lower ho HB0.out.size)
  obtain ⟨Q2, q2, rfl, _⟩ := own_slice_n OL.out
  clear ho hb
  refine hK.out _ _ (fun _ => SS.out _ HBw2.out) (fun hH => ?_)
  replace hH := hH (by decide)
  clear hK K
  (try simp only [Act.put, List.getElem_toArray, List.getElem_cons_succ, List.getElem_cons_zero, List.setIfInBounds_toArray, List.set_cons_zero, List.set_cons_succ])
  refine wpAnyZ_one (i := 7) (by kernel_rfl) ?_
  refine zstep rfl (fun K hK => ?_)
  go_simp
  refine (KI.out _ HBw2.out).mono ?_
  rintro e w3 ⟨vi, rfl, ho, hb⟩
  have HBw3 : Hid (Below W0.heap.size W0 w3) := Lib.hid (HBw2.out.trans (hb.mono HBw2.out.size))
  replace OL := Lib.hid (own_below OL.out hb)
  have OI : Hid (w3.ownsRow W0.heap.size 35 3 vi I.length (I.flatMap Hold.cells)) := Lib.hid (own_lower ho HBw2.out.size)
  obtain ⟨Q3, q3, rfl, _⟩ := own_slice_n OI.out
  clear ho hb
  refine hK.out _ _ (fun _ => SS.out _ HBw3.out) (fun hH => ?_)
  replace hH := hH (by decide)
  clear hK K
  (try simp only [Act.put, List.getElem_toArray, List.getElem_cons_succ, List.getElem_cons_zero, List.setIfInBounds_toArray, List.set_cons_zero, List.set_cons_succ])
  refine wpAnyZ_takeS (i := 8) (v := ?_) rfl (by kernel_rfl) (by kernel_rfl) (by kernel_rfl) (by kernel_rfl) (fun _ _ _ h => h) (gives_value (by rfl) ?_) (by assumption) ?_
  rotate_left
  · intro w hSw
    obtain ⟨s0, s1⟩ := hSw
    go_simp
    (try with_reducible rfl)
  (try simp only [Act.put, List.getElem_toArray, List.getElem_cons_succ, List.getElem_cons_zero, List.setIfInBounds_toArray, List.set_cons_zero, List.set_cons_succ])
  have KT := Lib.hid (fun (hE : EditIn w3 none Q2 Q3 0 q2 q3 ⟨[], L, I⟩) => tidy_any none Q2 Q3 0 q2 q3 ⟨[], L, I⟩ w3 hE)
  have HEI : Hid (EditIn w3 none Q2 Q3 0 q2 q3 ⟨[], L, I⟩) := Lib.hid ⟨⟨⟨none, 0, rfl, fun k hk => absurd hk (by simp)⟩, fun t ht => by cases ht⟩, Rows.of_own OL.out hold_len, Rows.of_own OI.out hold_len, by simp, hLl2, hIl, fun t ht => by cases ht⟩
  refine wpAnyZ_one (i := 9) (by kernel_rfl) ?_
  refine zstep rfl (fun K hK => ?_)
  go_simp
  refine (KT.out HEI.out).mono ?_
  rintro e w4 ⟨v1, v2, v3, f, rfl, ht, hf, ho2, ho3, hb⟩
  have hf0 : f = [] := by
    have := congrArg List.length hf
    rw [List.length_map] at this
    exact List.length_eq_zero_iff.1 this
  subst hf0
  have HBw4 : Hid (Below W0.heap.size W0 w4) := Lib.hid (HBw3.out.trans (hb.mono HBw3.out.size))
  have OT : Hid (OutT W0.heap.size w4 v1 []) := Lib.hid (own_lower ht.1 HBw3.out.size)
  have OL2 : Hid (w4.ownsRow W0.heap.size 35 3 v2 (holdsL L).length ((holdsL L).flatMap Hold.cells)) := Lib.hid (own_lower ho2 HBw3.out.size)
  have OI2 : Hid (w4.ownsRow W0.heap.size 35 3 v3 (holdsL I).length ((holdsL I).flatMap Hold.cells)) := Lib.hid (own_lower ho3 HBw3.out.size)
  obtain ⟨B1, e1, rfl, _⟩ := own_slice_n OT.out
  obtain ⟨B2, e2, rfl, _⟩ := own_slice_n OL2.out
  obtain ⟨B3, e3, rfl, _⟩ := own_slice_n OI2.out
  clear ht hf ho2 ho3 hb
  refine hK.out _ _ (fun _ => SS.out _ HBw4.out) (fun hH => ?_)
  replace hH := hH (by decide)
  clear hK K
  (try simp only [Act.put, List.getElem_toArray, List.getElem_cons_succ, List.getElem_cons_zero, List.setIfInBounds_toArray, List.set_cons_zero, List.set_cons_succ])
  have BR2 := BR.out.below HBw4.out
  have r0 := BR2.at0.1
  have z0 := BR2.at0.2
  have r1 := BR2.at1.1
  have z1 := BR2.at1.2
  have r2 := BR2.at2.1
  have z2 := BR2.at2.2
  have hRz := BR2.1
  clear BR2
  refine wpAnyZ_one (i := 10) (by kernel_rfl) ?_
  refine zstep rfl (fun K hK => ?_)
  go_simp
  have HBw : Hid (Below s w w4) := Lib.hid (W0B.out.trans (HBw4.out.mono (by omega)))
  have HBf : Hid (Below s w (((w4.setCell ⟨s + 1, 0, none⟩ (.slice B1 ([] : List Turn).length e1)).setCell ⟨s + 1, 1, none⟩ (.slice B2 (holdsL L).length e2)).setCell ⟨s + 1, 2, none⟩ (.slice B3 (holdsL I).length e3))) := Lib.hid (((HBw.out.setCell (by simp) _).setCell (by simp) _).setCell (by simp) _)
  have STT : Hid ((fun W => W.cell? ⟨s, 1, none⟩ = some (.slice A2 lk.length c2) ∧ W.cell? ⟨s, 2, none⟩ = some (.slice A3 ic.length c3)) (((w4.setCell ⟨s + 1, 0, none⟩ (.slice B1 ([] : List Turn).length e1)).setCell ⟨s + 1, 1, none⟩ (.slice B2 (holdsL L).length e2)).setCell ⟨s + 1, 2, none⟩ (.slice B3 (holdsL I).length e3))) := Lib.hid (by
    obtain ⟨s0, s1⟩ := SS.out _ HBw4.out
    have hne : ∀ j k, (⟨s, j, none⟩ : Addr) ≠ ⟨s + 1, k, none⟩ := fun j k e => by injection e with e; omega
    have ne : ∀ (W : World) (j k : Nat) (u : Value), (W.setCell ⟨s + 1, k, none⟩ u).cell? ⟨s, j, none⟩ = W.cell? ⟨s, j, none⟩ := fun W j k u => World.cell?_setCell_other _ _ _ _ (by first | exact hne j k | exact fun e => hne j k e.symm)
    exact ⟨by rw [ne, ne, ne]; exact s0, by rw [ne, ne, ne]; exact s1⟩)
  have BF : Hid (Blk (((w4.setCell ⟨s + 1, 0, none⟩ (.slice B1 ([] : List Turn).length e1)).setCell ⟨s + 1, 1, none⟩ (.slice B2 (holdsL L).length e2)).setCell ⟨s + 1, 2, none⟩ (.slice B3 (holdsL I).length e3)) (s + 1) [(.slice B1 ([] : List Turn).length e1), (.slice B2 (holdsL L).length e2), (.slice B3 (holdsL I).length e3)]) := Lib.hid ((((BR.out.below HBw4.out).set (k := 0) (by simp) (.slice B1 ([] : List Turn).length e1)).set (k := 1) (by simp) (.slice B2 (holdsL L).length e2)).set (k := 2) (by simp) (.slice B3 (holdsL I).length e3))
  have FT : Hid (OutT s (((w4.setCell ⟨s + 1, 0, none⟩ (.slice B1 ([] : List Turn).length e1)).setCell ⟨s + 1, 1, none⟩ (.slice B2 (holdsL L).length e2)).setCell ⟨s + 1, 2, none⟩ (.slice B3 (holdsL I).length e3)) (.slice B1 ([] : List Turn).length e1) []) := Lib.hid (own_lower (own_old (own_old (own_old OT.out HS0 _ _) HS0 _ _) HS0 _ _) (by omega))
  have FL : Hid ((((w4.setCell ⟨s + 1, 0, none⟩ (.slice B1 ([] : List Turn).length e1)).setCell ⟨s + 1, 1, none⟩ (.slice B2 (holdsL L).length e2)).setCell ⟨s + 1, 2, none⟩ (.slice B3 (holdsL I).length e3)).ownsRow s 35 3 (.slice B2 (holdsL L).length e2) (holdsL L).length ((holdsL L).flatMap Hold.cells)) := Lib.hid (own_lower (own_old (own_old (own_old OL2.out HS0 _ _) HS0 _ _) HS0 _ _) (by omega))
  have FI : Hid ((((w4.setCell ⟨s + 1, 0, none⟩ (.slice B1 ([] : List Turn).length e1)).setCell ⟨s + 1, 1, none⟩ (.slice B2 (holdsL L).length e2)).setCell ⟨s + 1, 2, none⟩ (.slice B3 (holdsL I).length e3)).ownsRow s 35 3 (.slice B3 (holdsL I).length e3) (holdsL I).length ((holdsL I).flatMap Hold.cells)) := Lib.hid (own_lower (own_old (own_old (own_old OI2.out HS0 _ _) HS0 _ _) HS0 _ _) (by omega))
  generalize (((w4.setCell ⟨s + 1, 0, none⟩ (.slice B1 ([] : List Turn).length e1)).setCell ⟨s + 1, 1, none⟩ (.slice B2 (holdsL L).length e2)).setCell ⟨s + 1, 2, none⟩ (.slice B3 (holdsL I).length e3)) = w5 at *
  refine hK.out _ _ (fun _ => STT.out) (fun hH => ?_)
  clear hH hK K r0 r1 r2 z0 z1 z2 hRz
  (try simp only [Act.put, List.getElem_toArray, List.getElem_cons_succ, List.getElem_cons_zero, List.setIfInBounds_toArray, List.set_cons_zero, List.set_cons_succ])
  refine wpAnyZ_done (by kernel_rfl) ?_ _
  have r0 := BF.out.at0.1
  have r1 := BF.out.at1.1
  have r2 := BF.out.at2.1
  go_wp2
  exact bodyPost_ret (v := .agg #[(.slice B1 ([] : List Turn).length e1), (.slice B2 (holdsL L).length e2), (.slice B3 (holdsL I).length e3)]) (by simp [results, Try.results7, go_sem, r0, r1, r2]) rfl ⟨_, _, _, rfl, FT.out, FL.out, FI.out, HBf.out⟩
end Go.Proofs.Ytneelmmikaefgaa
