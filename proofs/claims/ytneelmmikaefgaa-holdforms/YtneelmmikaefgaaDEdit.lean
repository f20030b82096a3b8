/- Tidy, Inverse, Empty of a whole edit (laid by gen_dedit.py). -/
import Derived.Test.YtneelmmikaefgaaDTidy
namespace Go.Proofs.Ytneelmmikaefgaa
open Go.RowKit
set_option linter.unusedSimpArgs false

/-- an edit in memory, not too long -/
structure EditIn (W : World) (At Al Ai : Option Addr) (ct cl ci : Nat) (d : Edit) : Prop where
  t : Turns W (.slice At d.turns.length ct) d.turns
  l : Rows W 3 Hold.cells (.slice Al d.locks.length cl) d.locks
  i : Rows W 3 Hold.cells (.slice Ai d.ices.length ci) d.ices
  nt : d.turns.length < 20
  nl : d.locks.length < 20
  ni : d.ices.length < 20
  nm : ∀ t ∈ d.turns, t.b.length ≤ 1000000 ∧ t.a.length ≤ 1000000
theorem EditIn.below {W W' : World} {At Al Ai : Option Addr} {ct cl ci : Nat} {d : Edit} (h : EditIn W At Al Ai ct cl ci d) (hb : Below W.heap.size W W') : EditIn W' At Al Ai ct cl ci d :=
  ⟨h.t.below hb, h.l.below hb, h.i.below hb, h.nt, h.nl, h.ni, h.nm⟩
set_option maxRecDepth 100000 in
set_option maxHeartbeats 4000000 in
theorem tidy_any (At Al Ai : Option Addr) (ct cl ci : Nat) (d : Edit) (w : World) (h : EditIn w At Al Ai ct cl ci d) :
    Calls Try.prog 18 #[.agg #[.slice At d.turns.length ct, .slice Al d.locks.length cl, .slice Ai d.ices.length ci]] w fun e w' => ∃ v1 v2 v3 f, e = .returned (.agg #[v1, v2, v3]) ∧ NewT w.heap.size w' v1 f ∧ f.map Turn.pl = (tidyT d.turns).map Turn.pl ∧ OutH w.heap.size w' v2 (holdsL d.locks) ∧ OutH w.heap.size w' v3 (holdsL d.ices) ∧ Below w.heap.size w w' := by
  have W0B : Hid (Below w.heap.size w ((w.alloc (.cells #[.slice At d.turns.length ct, .slice Al d.locks.length cl, .slice Ai d.ices.length ci] 31)).alloc (.cells #[.slice none 0 0, .slice none 0 0, .slice none 0 0] 31))) := Lib.hid (((Below.refl _ _).alloc (Nat.le_refl _) _).alloc (by simp) _)
  have BD : Hid (Blk ((w.alloc (.cells #[.slice At d.turns.length ct, .slice Al d.locks.length cl, .slice Ai d.ices.length ci] 31)).alloc (.cells #[.slice none 0 0, .slice none 0 0, .slice none 0 0] 31)) w.heap.size [.slice At d.turns.length ct, .slice Al d.locks.length cl, .slice Ai d.ices.length ci]) := Lib.hid ((blk_new w _ _).alloc _)
  have BR : Hid (Blk ((w.alloc (.cells #[.slice At d.turns.length ct, .slice Al d.locks.length cl, .slice Ai d.ices.length ci] 31)).alloc (.cells #[.slice none 0 0, .slice none 0 0, .slice none 0 0] 31)) (w.heap.size + 1) [.slice none 0 0, .slice none 0 0, .slice none 0 0]) := Lib.hid (blk_at (w := w.alloc _) #[.slice none 0 0, .slice none 0 0, .slice none 0 0] 31 (by simp))
  have HE := Lib.hid (h.below W0B.out)
  clear h
  go_enter Try.func18, Try.ntmps18
  go_upto_region 1 with (fail)
  generalize hW0 : ((w.alloc (.cells #[.slice At d.turns.length ct, .slice Al d.locks.length cl, .slice Ai d.ices.length ci] 31)).alloc (.cells #[.slice none 0 0, .slice none 0 0, .slice none 0 0] 31)) = W0 at *
  clear hW0
  have HS0 : w.heap.size + 1 < W0.heap.size := BR.out.1
  have b0 : W0.drew.cell? ⟨w.heap.size, 0, none⟩ = _ := BD.out.at0.1
  have b1 : W0.drew.cell? ⟨w.heap.size, 1, none⟩ = _ := BD.out.at1.1
  have b2 : W0.drew.cell? ⟨w.heap.size, 2, none⟩ = _ := BD.out.at2.1
  have KT := Lib.hid (fun W (hb : Below W0.heap.size W0 W) => tidyTurns_any At ct d.turns W (HE.out.t.below hb) HE.out.nt HE.out.nm)
  have KL := Lib.hid (fun W (hb : Below W0.heap.size W0 W) => tidyHolds_any Al cl d.locks W (HE.out.l.below hb) HE.out.nl)
  have KI := Lib.hid (fun W (hb : Below W0.heap.size W0 W) => tidyHolds_any Ai ci d.ices W (HE.out.i.below hb) HE.out.ni)
  refine wp_region_z (S := (fun W => W.cell? ⟨w.heap.size, 0, none⟩ = some (.slice At d.turns.length ct) ∧ W.cell? ⟨w.heap.size, 1, none⟩ = some (.slice Al d.locks.length cl) ∧ W.cell? ⟨w.heap.size, 2, none⟩ = some (.slice Ai d.ices.length ci))) (z := 11) (by kernel_rfl) ⟨b0, b1, b2⟩ (fun hH => ?_)
  have HB0 : Hid (Below W0.heap.size W0 W0.drew) := Lib.hid (Below.refl W0.heap.size W0).drew
  have SS := Lib.hid (fun W (hb : Below W0.heap.size W0 W) => (⟨by rw [hb.cell (by simp only; omega)]; exact b0, by rw [hb.cell (by simp only; omega)]; exact b1, by rw [hb.cell (by simp only; omega)]; exact b2⟩ : W.cell? ⟨w.heap.size, 0, none⟩ = some (.slice At d.turns.length ct) ∧ W.cell? ⟨w.heap.size, 1, none⟩ = some (.slice Al d.locks.length cl) ∧ W.cell? ⟨w.heap.size, 2, none⟩ = some (.slice Ai d.ices.length ci)))
  refine wpAnyZ_takeS (i := 0) (v := ?_) rfl (by kernel_rfl) (by kernel_rfl) (by kernel_rfl) (by kernel_rfl) (fun _ _ _ h => h) (gives_value (by rfl) ?_) (by assumption) ?_
  rotate_left
  · intro w hSw
    obtain ⟨s0, s1, s2⟩ := hSw
    go_simp
    (try with_reducible rfl)
  (try simp only [Act.put, List.getElem_toArray, List.getElem_cons_succ, List.getElem_cons_zero, List.setIfInBounds_toArray, List.set_cons_zero, List.set_cons_succ])
  refine wpAnyZ_takeS (i := 1) (v := ?_) rfl (by kernel_rfl) (by kernel_rfl) (by kernel_rfl) (by kernel_rfl) (fun _ _ _ h => h) (gives_value (by rfl) ?_) (by assumption) ?_
  rotate_left
  · intro w hSw
    obtain ⟨s0, s1, s2⟩ := hSw
    go_simp
    (try with_reducible rfl)
  (try simp only [Act.put, List.getElem_toArray, List.getElem_cons_succ, List.getElem_cons_zero, List.setIfInBounds_toArray, List.set_cons_zero, List.set_cons_succ])
  refine wpAnyZ_takeS (i := 3) (v := ?_) rfl (by kernel_rfl) (by kernel_rfl) (by kernel_rfl) (by kernel_rfl) (fun _ _ _ h => h) (gives_value (by rfl) ?_) (by assumption) ?_
  rotate_left
  · intro w hSw
    obtain ⟨s0, s1, s2⟩ := hSw
    go_simp
    (try with_reducible rfl)
  (try simp only [Act.put, List.getElem_toArray, List.getElem_cons_succ, List.getElem_cons_zero, List.setIfInBounds_toArray, List.set_cons_zero, List.set_cons_succ])
  refine wpAnyZ_takeS (i := 4) (v := ?_) rfl (by kernel_rfl) (by kernel_rfl) (by kernel_rfl) (by kernel_rfl) (fun _ _ _ h => h) (gives_value (by rfl) ?_) (by assumption) ?_
  rotate_left
  · intro w hSw
    obtain ⟨s0, s1, s2⟩ := hSw
    go_simp
    (try with_reducible rfl)
  (try simp only [Act.put, List.getElem_toArray, List.getElem_cons_succ, List.getElem_cons_zero, List.setIfInBounds_toArray, List.set_cons_zero, List.set_cons_succ])
  refine wpAnyZ_takeS (i := 6) (v := ?_) rfl (by kernel_rfl) (by kernel_rfl) (by kernel_rfl) (by kernel_rfl) (fun _ _ _ h => h) (gives_value (by rfl) ?_) (by assumption) ?_
  rotate_left
  · intro w hSw
    obtain ⟨s0, s1, s2⟩ := hSw
    go_simp
    (try with_reducible rfl)
  (try simp only [Act.put, List.getElem_toArray, List.getElem_cons_succ, List.getElem_cons_zero, List.setIfInBounds_toArray, List.set_cons_zero, List.set_cons_succ])
  refine wpAnyZ_takeS (i := 7) (v := ?_) rfl (by kernel_rfl) (by kernel_rfl) (by kernel_rfl) (by kernel_rfl) (fun _ _ _ h => h) (gives_value (by rfl) ?_) (by assumption) ?_
  rotate_left
  · intro w hSw
    obtain ⟨s0, s1, s2⟩ := hSw
    go_simp
    (try with_reducible rfl)
  (try simp only [Act.put, List.getElem_toArray, List.getElem_cons_succ, List.getElem_cons_zero, List.setIfInBounds_toArray, List.set_cons_zero, List.set_cons_succ])
  refine wpAnyZ_one (i := 2) (by kernel_rfl) ?_
  refine zstep rfl (fun K hK => ?_)
  go_simp
  (with_reducible refine (KT.out _ HB0.out).mono ?_)
  rintro e w2 ⟨v, f, rfl, ho, hf, hb⟩
  have HBw2 : Hid (Below W0.heap.size W0 w2) := Lib.hid (HB0.out.trans (hb.mono HB0.out.size))
  have OT := Lib.hid (NewT.low ho HB0.out.size)
  have HF := Lib.hid hf
  clear hf
  obtain ⟨A1, C1, rfl, _⟩ := own_slice_n OT.out.1
  clear ho hb
  refine hK.out _ _ (fun _ => SS.out _ HBw2.out) (fun hH => ?_)
  replace hH := hH (by decide)
  clear hK K
  (try simp only [Act.put, List.getElem_toArray, List.getElem_cons_succ, List.getElem_cons_zero, List.setIfInBounds_toArray, List.set_cons_zero, List.set_cons_succ])
  refine wpAnyZ_one (i := 5) (by kernel_rfl) ?_
  refine zstep rfl (fun K hK => ?_)
  go_simp
  (with_reducible refine (KL.out _ HBw2.out).mono ?_)
  rintro e w3 ⟨v, rfl, ho, hb⟩
  have HBw3 : Hid (Below W0.heap.size W0 w3) := Lib.hid (HBw2.out.trans (hb.mono HBw2.out.size))
  replace OT := Lib.hid (OT.out.below hb)
  have OL : Hid (w3.ownsRow W0.heap.size 35 3 v (holdsL d.locks).length ((holdsL d.locks).flatMap Hold.cells)) := Lib.hid (own_lower ho HBw2.out.size)
  obtain ⟨A2, C2, rfl, _⟩ := own_slice_n OL.out
  clear ho hb
  refine hK.out _ _ (fun _ => SS.out _ HBw3.out) (fun hH => ?_)
  replace hH := hH (by decide)
  clear hK K
  (try simp only [Act.put, List.getElem_toArray, List.getElem_cons_succ, List.getElem_cons_zero, List.setIfInBounds_toArray, List.set_cons_zero, List.set_cons_succ])
  refine wpAnyZ_one (i := 8) (by kernel_rfl) ?_
  refine zstep rfl (fun K hK => ?_)
  go_simp
  (with_reducible refine (KI.out _ HBw3.out).mono ?_)
  rintro e w4 ⟨v, rfl, ho, hb⟩
  have HBw4 : Hid (Below W0.heap.size W0 w4) := Lib.hid (HBw3.out.trans (hb.mono HBw3.out.size))
  replace OT := Lib.hid (OT.out.below hb)
  replace OL := Lib.hid (own_below OL.out hb)
  have OI : Hid (w4.ownsRow W0.heap.size 35 3 v (holdsL d.ices).length ((holdsL d.ices).flatMap Hold.cells)) := Lib.hid (own_lower ho HBw3.out.size)
  obtain ⟨A3, C3, rfl, _⟩ := own_slice_n OI.out
  clear ho hb
  refine hK.out _ _ (fun _ => SS.out _ HBw4.out) (fun hH => ?_)
  replace hH := hH (by decide)
  clear hK K
  (try simp only [Act.put, List.getElem_toArray, List.getElem_cons_succ, List.getElem_cons_zero, List.setIfInBounds_toArray, List.set_cons_zero, List.set_cons_succ])
  refine wpAnyZ_takeS (i := 9) (v := ?_) rfl (by kernel_rfl) (by kernel_rfl) (by kernel_rfl) (by kernel_rfl) (fun _ _ _ h => h) (gives_value (by rfl) ?_) (by assumption) ?_
  rotate_left
  · intro w hSw
    obtain ⟨s0, s1, s2⟩ := hSw
    go_simp
    (try with_reducible rfl)
  (try simp only [Act.put, List.getElem_toArray, List.getElem_cons_succ, List.getElem_cons_zero, List.setIfInBounds_toArray, List.set_cons_zero, List.set_cons_succ])
  have BR2 := BR.out.below HBw4.out
  have r0 := BR2.at0.1
  have z0 := BR2.at0.2
  have r1 := BR2.at1.1
  have z1 := BR2.at1.2
  have r2 := BR2.at2.1
  have z2 := BR2.at2.2
  have hRz := BR2.1
  clear BR2
  refine wpAnyZ_one (i := 10) (by kernel_rfl) ?_
  refine zstep rfl (fun K hK => ?_)
  go_simp
  have HBw : Hid (Below w.heap.size w w4) := Lib.hid (W0B.out.trans (HBw4.out.mono W0B.out.size))
  have HBf : Hid (Below w.heap.size w (((w4.setCell ⟨w.heap.size + 1, 0, none⟩ (.slice A1 f.length C1)).setCell ⟨w.heap.size + 1, 1, none⟩ (.slice A2 (holdsL d.locks).length C2)).setCell ⟨w.heap.size + 1, 2, none⟩ (.slice A3 (holdsL d.ices).length C3))) := Lib.hid (((HBw.out.setCell (by simp) _).setCell (by simp) _).setCell (by simp) _)
  have ST : Hid ((fun W => W.cell? ⟨w.heap.size, 0, none⟩ = some (.slice At d.turns.length ct) ∧ W.cell? ⟨w.heap.size, 1, none⟩ = some (.slice Al d.locks.length cl) ∧ W.cell? ⟨w.heap.size, 2, none⟩ = some (.slice Ai d.ices.length ci)) (((w4.setCell ⟨w.heap.size + 1, 0, none⟩ (.slice A1 f.length C1)).setCell ⟨w.heap.size + 1, 1, none⟩ (.slice A2 (holdsL d.locks).length C2)).setCell ⟨w.heap.size + 1, 2, none⟩ (.slice A3 (holdsL d.ices).length C3))) := Lib.hid (by
    obtain ⟨s0, s1, s2⟩ := SS.out _ HBw4.out
    have hne : ∀ j k, (⟨w.heap.size, j, none⟩ : Addr) ≠ ⟨w.heap.size + 1, k, none⟩ := fun j k e => by injection e with e; omega
    have ne : ∀ (W : World) (j k : Nat) (u : Value), (W.setCell ⟨w.heap.size + 1, k, none⟩ u).cell? ⟨w.heap.size, j, none⟩ = W.cell? ⟨w.heap.size, j, none⟩ := fun W j k u => World.cell?_setCell_other _ _ _ _ (by first | exact hne j k | exact fun e => hne j k e.symm)
    exact ⟨by rw [ne, ne, ne]; exact s0, by rw [ne, ne, ne]; exact s1, by rw [ne, ne, ne]; exact s2⟩)
  have BF : Hid (Blk (((w4.setCell ⟨w.heap.size + 1, 0, none⟩ (.slice A1 f.length C1)).setCell ⟨w.heap.size + 1, 1, none⟩ (.slice A2 (holdsL d.locks).length C2)).setCell ⟨w.heap.size + 1, 2, none⟩ (.slice A3 (holdsL d.ices).length C3)) (w.heap.size + 1) [(.slice A1 f.length C1), (.slice A2 (holdsL d.locks).length C2), (.slice A3 (holdsL d.ices).length C3)]) := Lib.hid ((((BR.out.below HBw4.out).set (k := 0) (by simp) (.slice A1 f.length C1)).set (k := 1) (by simp) (.slice A2 (holdsL d.locks).length C2)).set (k := 2) (by simp) (.slice A3 (holdsL d.ices).length C3))
  have FT : Hid (NewT w.heap.size (((w4.setCell ⟨w.heap.size + 1, 0, none⟩ (.slice A1 f.length C1)).setCell ⟨w.heap.size + 1, 1, none⟩ (.slice A2 (holdsL d.locks).length C2)).setCell ⟨w.heap.size + 1, 2, none⟩ (.slice A3 (holdsL d.ices).length C3)) (.slice A1 f.length C1) f) := Lib.hid ⟨own_lower (own_old (own_old (own_old OT.out.1 HS0 _ _) HS0 _ _) HS0 _ _) W0B.out.size, fun t ht => ⟨own_lower (own_old (own_old (own_old (OT.out.2 t ht).1 HS0 _ _) HS0 _ _) HS0 _ _) W0B.out.size, own_lower (own_old (own_old (own_old (OT.out.2 t ht).2 HS0 _ _) HS0 _ _) HS0 _ _) W0B.out.size⟩⟩
  have FL : Hid ((((w4.setCell ⟨w.heap.size + 1, 0, none⟩ (.slice A1 f.length C1)).setCell ⟨w.heap.size + 1, 1, none⟩ (.slice A2 (holdsL d.locks).length C2)).setCell ⟨w.heap.size + 1, 2, none⟩ (.slice A3 (holdsL d.ices).length C3)).ownsRow w.heap.size 35 3 (.slice A2 (holdsL d.locks).length C2) (holdsL d.locks).length ((holdsL d.locks).flatMap Hold.cells)) := Lib.hid (own_lower (own_old (own_old (own_old OL.out HS0 _ _) HS0 _ _) HS0 _ _) W0B.out.size)
  have FI : Hid ((((w4.setCell ⟨w.heap.size + 1, 0, none⟩ (.slice A1 f.length C1)).setCell ⟨w.heap.size + 1, 1, none⟩ (.slice A2 (holdsL d.locks).length C2)).setCell ⟨w.heap.size + 1, 2, none⟩ (.slice A3 (holdsL d.ices).length C3)).ownsRow w.heap.size 35 3 (.slice A3 (holdsL d.ices).length C3) (holdsL d.ices).length ((holdsL d.ices).flatMap Hold.cells)) := Lib.hid (own_lower (own_old (own_old (own_old OI.out HS0 _ _) HS0 _ _) HS0 _ _) W0B.out.size)
  generalize (((w4.setCell ⟨w.heap.size + 1, 0, none⟩ (.slice A1 f.length C1)).setCell ⟨w.heap.size + 1, 1, none⟩ (.slice A2 (holdsL d.locks).length C2)).setCell ⟨w.heap.size + 1, 2, none⟩ (.slice A3 (holdsL d.ices).length C3)) = w5 at *
  refine hK.out _ _ (fun _ => ST.out) (fun hH => ?_)
  clear hH hK K r0 r1 r2 z0 z1 z2 hRz
  (try simp only [Act.put, List.getElem_toArray, List.getElem_cons_succ, List.getElem_cons_zero, List.setIfInBounds_toArray, List.set_cons_zero, List.set_cons_succ])
  refine wpAnyZ_done (by kernel_rfl) ?_ _
  have r0 := BF.out.at0.1
  have r1 := BF.out.at1.1
  have r2 := BF.out.at2.1
  go_wp2
  exact bodyPost_ret (v := .agg #[(.slice A1 f.length C1), (.slice A2 (holdsL d.locks).length C2), (.slice A3 (holdsL d.ices).length C3)]) (by simp [results, Try.results18, go_sem, r0, r1, r2]) rfl ⟨_, _, _, rfl, f, FT.out, HF.out, FL.out, FI.out, HBf.out⟩
/-- nothing is left of it when it is tidy -/
def emptyE (d : Edit) : Bool := (offT d.turns).isEmpty && (offH d.locks).isEmpty && (offH d.ices).isEmpty
theorem tidyT_len (l : List Turn) : (tidyT l).length = (offT l).length := by unfold tidyT; rw [sortBy_length]; rfl
theorem holdsL_len (l : List Hold) : (holdsL l).length = (offH l).length := by unfold holdsL; rw [sortBy_length]; rfl
theorem emptyE_lens (d : Edit) : emptyE d = (((offT d.turns).length == 0) && ((offH d.locks).length == 0) && ((offH d.ices).length == 0)) := by
  unfold emptyE
  cases offT d.turns <;> cases offH d.locks <;> cases offH d.ices <;> simp
end Go.Proofs.Ytneelmmikaefgaa
