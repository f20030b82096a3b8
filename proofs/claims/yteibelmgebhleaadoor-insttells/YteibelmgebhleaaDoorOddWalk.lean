/- draymanplay.Odd: some problem in new memory, whichever way it was spoilt. -/
import Derived.Test.YteibelmgebhleaaDoorPlayCars
import Derived.Test.YteibelmgebhleaaDoorOddPlain
namespace Go.Proofs.YteibelmgebhleaaDoor
open Go.RowKit
set_option linter.unusedSimpArgs false
set_option maxRecDepth 100000

set_option maxHeartbeats 8000000 in
theorem odd_any (v : Value) (l : List Int) (n m : Int) (w : World) (h : Recs w 1 num_ v l) (hl : l.length ≤ 9223372036854775807) :
    Calls Tryd.prog 15 #[v, .int .i64 n, .int .i64 m] w (OddEnd w) := by
  obtain ⟨r, hr, hr16⟩ := within_nat n 16 (by omega)
  have HR0 := Lib.hid (fun W => within_call n 16 W (by omega) (by omega) _ hr)
  have HL := Lib.hid (h.below ((Below.refl _ _).alloc (Nat.le_refl _) (.cells #[.slice none 0 0, .slice none 0 0, .slice none 0 0, .slice none 0 0] 30)))
  have HBR := Lib.hid (blk_new w #[.slice none 0 0, .slice none 0 0, .slice none 0 0, .slice none 0 0] 30)
  have HB0 := Lib.hid ((Below.refl w.heap.size w).alloc (Nat.le_refl _) (.cells #[.slice none 0 0, .slice none 0 0, .slice none 0 0, .slice none 0 0] 30))
  have hz0 : (w.alloc (.cells #[.slice none 0 0, .slice none 0 0, .slice none 0 0, .slice none 0 0] 30)).heap.size = w.heap.size + 1 := by simp
  clear hr h
  go_enter Tryd.func15, Tryd.ntmps15
  go_wp2_with (go_at_call 21; fail)
  generalize w.alloc (.cells #[.slice none 0 0, .slice none 0 0, .slice none 0 0, .slice none 0 0] 30) = w0 at *
  (with_reducible refine (play_cars v l _ HL.out hl).mono ?_)
  rintro e w1 ⟨i, vc, vs, vp, vt, us, I, rfl, hh, hok, h2, h8, hp2, hb⟩
  have HF := fine_of hok
  have hc1 := HF.cars.1
  have hc3 := HF.cars.2
  have ht1 : 3 ≤ i.travel.length := by have := HF.travel; omega
  have ht9 : i.travel.length ≤ 9 := by have := HF.travel; omega
  have HRL := Lib.hid HF.rowL
  have hz1 := hb.size
  obtain ⟨Ac, cc, rfl, gc⟩ := own_get hh.cars
  obtain ⟨As, cs, rfl, gs⟩ := own_get hh.stops
  obtain ⟨Ap, cp, rfl, gp⟩ := own_get hh.pairs
  obtain ⟨At, ct, rfl, gt⟩ := own_get hh.travel
  obtain ⟨Gc, rfl, _, _⟩ := gc (by omega)
  obtain ⟨Gs, rfl, _, _⟩ := gs (by omega)
  obtain ⟨Gt, rfl, _, _⟩ := gt (by omega)
  have HJ := Lib.hid (hh.moved (by omega))
  have OD := Lib.hid hh.moved_odd
  have HA := Lib.hid ((Below.refl w1.heap.size w1).alloc (Nat.le_refl _) (.cells #[.slice (some ⟨Gc, 0, none⟩) i.cars.length cc, .slice (some ⟨Gs, 0, none⟩) i.stops.length cs, .slice Ap i.pairs.length cp, .slice (some ⟨Gt, 0, none⟩) i.travel.length ct] 30))
  have HB : Hid (Below w.heap.size w (w1.alloc (.cells #[.slice (some ⟨Gc, 0, none⟩) i.cars.length cc, .slice (some ⟨Gs, 0, none⟩) i.stops.length cs, .slice Ap i.pairs.length cp, .slice (some ⟨Gt, 0, none⟩) i.travel.length ct] 30))) := (HB0.out.trans (hb.mono (by omega))).trans (HA.out.mono (by omega))
  have HBJ : Hid (Blk (w1.alloc (.cells #[.slice (some ⟨Gc, 0, none⟩) i.cars.length cc, .slice (some ⟨Gs, 0, none⟩) i.stops.length cs, .slice Ap i.pairs.length cp, .slice (some ⟨Gt, 0, none⟩) i.travel.length ct] 30)) w.heap.size [.slice none 0 0, .slice none 0 0, .slice none 0 0, .slice none 0 0]) := (HBR.out.below hb).below HA.out
  have zJ : w1.heap.size < (w1.alloc (.cells #[.slice (some ⟨Gc, 0, none⟩) i.cars.length cc, .slice (some ⟨Gs, 0, none⟩) i.stops.length cs, .slice Ap i.pairs.length cp, .slice (some ⟨Gt, 0, none⟩) i.travel.length ct] 30)).heap.size := by simp
  clear hh hb hok HF gc gs gp gt HBR HB0 HL HA
  go_upto_region 3 with (fail)
  generalize w1.alloc (.cells #[.slice (some ⟨Gc, 0, none⟩) i.cars.length cc, .slice (some ⟨Gs, 0, none⟩) i.stops.length cs, .slice Ap i.pairs.length cp, .slice (some ⟨Gt, 0, none⟩) i.travel.length ct] 30) = W at *
  generalize w1.heap.size = J at *
  have zR : w.heap.size < J := by omega
  rw [hz0] at HJ OD
  clear hz0 hz1
  go_wp2_with (go_at_call 11; fail)
  (with_reducible refine (HR0.out _).mono ?_)
  rintro e w2 ⟨rfl, rfl⟩
  clear HR0
  have j0 := OD.out.j0
  have j1 := OD.out.j1
  have j2 := OD.out.j2
  have j3 := OD.out.j3
  have e0 : W.frozen? ⟨J, 0, none⟩ = false := Lib.frozen_of_heap HJ.out.box 0
  have e1 : W.frozen? ⟨J, 1, none⟩ = false := Lib.frozen_of_heap HJ.out.box 1
  have e2 : W.frozen? ⟨J, 2, none⟩ = false := Lib.frozen_of_heap HJ.out.box 2
  have e3 : W.frozen? ⟨J, 3, none⟩ = false := Lib.frozen_of_heap HJ.out.box 3
  obtain rfl | rfl | rfl | rfl | rfl | rfl | rfl | rfl | rfl | rfl | rfl | rfl | rfl | rfl | rfl | rfl : r = 0 ∨ r = 1 ∨ r = 2 ∨ r = 3 ∨ r = 4 ∨ r = 5 ∨ r = 6 ∨ r = 7 ∨ r = 8 ∨ r = 9 ∨ r = 10 ∨ r = 11 ∨ r = 12 ∨ r = 13 ∨ r = 14 ∨ r = 15 := by omega
  · go_upto_region 34 with (fail)
    have ho : ∀ q, q ≠ 0 → (W.setCell ⟨J, 0, none⟩ (.slice none 0 0)).cell? ⟨J, q, none⟩ = W.cell? ⟨J, q, none⟩ := fun q hq => World.cell?_setCell_other _ _ _ _ (fun e => by injection e with _ e _; exact hq e.symm)
    have OD2 : Hid (OddAt (W.setCell ⟨J, 0, none⟩ (.slice none 0 0)) (w.heap.size + 1) J J (.slice none 0 0) (.slice (some ⟨Gs, 0, none⟩) i.stops.length cs) (.slice Ap i.pairs.length cp) (.slice (some ⟨Gt, 0, none⟩) i.travel.length ct) 0 i.stops.length i.pairs.length i.travel.length) :=
      ⟨World.cell?_setCell_same _ _ _ j0, by rw [ho 1 (by omega)]; exact j1, by rw [ho 2 (by omega)]; exact j2, by rw [ho 3 (by omega)]; exact j3, NumsAt.nil_, OD.out.stops.off (.inr (Nat.le_refl _)) _, OD.out.pairs.off (.inr (Nat.le_refl _)) _, OD.out.travel.off (.inr (Nat.le_refl _)) _, by simpa using OD.out.top⟩
    have HB2 := Lib.hid (HB.out.setCell (p := ⟨J, 0, none⟩) (by simp only; omega) (.slice none 0 0))
    have HBJ2 := Lib.hid (HBJ.out.other (a := ⟨J, 0, none⟩) (by simp only; omega) (.slice none 0 0))
    clear ho
    generalize W.setCell ⟨J, 0, none⟩ (.slice none 0 0) = W2 at *
    clear j0 j1 j2 j3 e0 e1 e2 e3 OD HBJ HB HJ
    have k0 := OD2.out.j0
    have k1 := OD2.out.j1
    have k2 := OD2.out.j2
    have k3 := OD2.out.j3
    have r0 := (HBJ2.out.2 0 (by simp)).1
    have r1 := (HBJ2.out.2 1 (by simp)).1
    have r2 := (HBJ2.out.2 2 (by simp)).1
    have r3 := (HBJ2.out.2 3 (by simp)).1
    have g0 := (HBJ2.out.2 0 (by simp)).2
    have g1 := (HBJ2.out.2 1 (by simp)).2
    have g2 := (HBJ2.out.2 2 (by simp)).2
    have g3 := (HBJ2.out.2 3 (by simp)).2
    have zR2 := HBJ2.out.1
    simp only [List.getElem_cons_zero, List.getElem_cons_succ] at r0 r1 r2 r3
    have OF := Lib.hid ((((OD2.out.low (R := w.heap.size) (by omega) (by omega) 0 (.slice none 0 0)).low (R := w.heap.size) (by omega) (by omega) 1 (.slice (some ⟨Gs, 0, none⟩) i.stops.length cs)).low (R := w.heap.size) (by omega) (by omega) 2 (.slice Ap i.pairs.length cp)).low (R := w.heap.size) (by omega) (by omega) 3 (.slice (some ⟨Gt, 0, none⟩) i.travel.length ct)).lies
    go_wp2
    obtain ⟨i', hi', l1, l2, l3, l4⟩ := OF.out
    refine bodyPost_ret (v := .agg #[.slice none 0 0, .slice (some ⟨Gs, 0, none⟩) i.stops.length cs, .slice Ap i.pairs.length cp, .slice (some ⟨Gt, 0, none⟩) i.travel.length ct]) (by simp [results, Tryd.results15, go_sem, r0, r1, r2, r3]) rfl ⟨i', _, rfl, hi', by omega, by omega, by omega, ((((HB2.out.setCell (p := ⟨w.heap.size, 0, none⟩) (Nat.le_refl _) _).setCell (p := ⟨w.heap.size, 1, none⟩) (Nat.le_refl _) _).setCell (p := ⟨w.heap.size, 2, none⟩) (Nat.le_refl _) _).setCell (p := ⟨w.heap.size, 3, none⟩) (Nat.le_refl _) _)⟩
  · obtain ⟨q0, hq, hqz, hq1, hq2⟩ := info_parts car_info
    go_wp2_with (at_builtin; refine wpList_append_any _ rfl _ _ 25 rfl (w.heap.size + 1) 58 q0 _ 3 24 Tryd.underlying25 hq hqz hq1 hq2 rfl (by decide) (.slice (some ⟨Gc, 0, none⟩) i.cars.length cc) i.cars.length (carCells i.cars) rfl (own_below HJ.out.cars ((Below.refl W.heap.size W).alloc (Nat.le_refl _) (.cells (carCells [⟨0, 0, 0⟩, ⟨0, 0, 0⟩, ⟨0, 0, 0⟩]).toArray 58))) (W.heap.size + 1) (some ⟨W.heap.size, 0, none⟩) 3 3 (carCells [⟨0, 0, 0⟩, ⟨0, 0, 0⟩, ⟨0, 0, 0⟩]) rfl (reads_many W _ _ 3 3 (by decide)) (by intro x hx; simp [carCells, ints, carNums] at hx; rw [hx]; rfl) (by unfold maxLen; omega) (by omega) (by simp; omega) ?_)
    intro v' w3 hown' hgrow hob
    obtain ⟨ao, nn, capn, rfl⟩ := own_slice hown'
    have hbx := (HJ.out.below ((Below.refl W.heap.size W).alloc (Nat.le_refl _) (.cells (carCells [⟨0, 0, 0⟩, ⟨0, 0, 0⟩, ⟨0, 0, 0⟩]).toArray 58))).box_car hgrow
    have d0 : w3.cell? ⟨J, 0, none⟩ = some (.slice (some ⟨Gc, 0, none⟩) i.cars.length cc) := by rw [Lib.cell_of_heap hbx]; rfl
    have f0 : w3.frozen? ⟨J, 0, none⟩ = false := Lib.frozen_of_heap hbx 0
    have zw3 : J < w3.heap.size := (Array.getElem?_eq_some_iff.1 hbx).1
    have HO := Lib.hid hown'
    have HG := Lib.hid hgrow
    clear hown' hgrow hob hbx j0 j1 j2 j3 e0 e1 e2 e3
    go_upto_region 34 with (fail)
    have HD2 := Lib.hid ((HJ.out.below ((Below.refl W.heap.size W).alloc (Nat.le_refl _) (.cells (carCells [⟨0, 0, 0⟩, ⟨0, 0, 0⟩, ⟨0, 0, 0⟩]).toArray 58))).put_cars [⟨0, 0, 0⟩, ⟨0, 0, 0⟩, ⟨0, 0, 0⟩] HO.out HG.out)
    have HB2 := Lib.hid (((HB.out.trans (Below.mono ((Below.refl W.heap.size W).alloc (Nat.le_refl _) (.cells (carCells [⟨0, 0, 0⟩, ⟨0, 0, 0⟩, ⟨0, 0, 0⟩]).toArray 58)) HB.out.size)).grown HG.out (by first | omega | (simp; omega)) (fun q hq => by have := (own_typed HJ.out.cars hq).2; omega)).setCell (p := ⟨J, 0, none⟩) (by simp only; omega) (.slice ao nn capn))
    have HBJ2 := Lib.hid ((((HBJ.out.below ((Below.refl W.heap.size W).alloc (Nat.le_refl _) (.cells (carCells [⟨0, 0, 0⟩, ⟨0, 0, 0⟩, ⟨0, 0, 0⟩]).toArray 58))).heap (HG.out.block w.heap.size (by have := HBJ.out.1; first | omega | (simp; omega)) (fun e => by have := (own_typed HJ.out.cars e.symm).2; omega)) HG.out.size).other (a := ⟨J, 0, none⟩) (by simp only; omega) (.slice ao nn capn)))
    clear HO HG d0 f0
    generalize w3.setCell ⟨J, 0, none⟩ (.slice ao nn capn) = W2 at *
    have OD2 := Lib.hid HD2.out.odd
    simp only [List.length_append, List.length_cons, List.length_nil, Nat.zero_add] at OD2
    clear OD HBJ HB HJ
    have k0 := OD2.out.j0
    have k1 := OD2.out.j1
    have k2 := OD2.out.j2
    have k3 := OD2.out.j3
    have r0 := (HBJ2.out.2 0 (by simp)).1
    have r1 := (HBJ2.out.2 1 (by simp)).1
    have r2 := (HBJ2.out.2 2 (by simp)).1
    have r3 := (HBJ2.out.2 3 (by simp)).1
    have g0 := (HBJ2.out.2 0 (by simp)).2
    have g1 := (HBJ2.out.2 1 (by simp)).2
    have g2 := (HBJ2.out.2 2 (by simp)).2
    have g3 := (HBJ2.out.2 3 (by simp)).2
    have zR2 := HBJ2.out.1
    simp only [List.getElem_cons_zero, List.getElem_cons_succ] at r0 r1 r2 r3
    have OF := Lib.hid ((((OD2.out.low (R := w.heap.size) (by omega) (by omega) 0 (.slice ao nn capn)).low (R := w.heap.size) (by omega) (by omega) 1 (.slice (some ⟨Gs, 0, none⟩) i.stops.length cs)).low (R := w.heap.size) (by omega) (by omega) 2 (.slice Ap i.pairs.length cp)).low (R := w.heap.size) (by omega) (by omega) 3 (.slice (some ⟨Gt, 0, none⟩) i.travel.length ct)).lies
    go_wp2
    obtain ⟨i', hi', l1, l2, l3, l4⟩ := OF.out
    refine bodyPost_ret (v := .agg #[.slice ao nn capn, .slice (some ⟨Gs, 0, none⟩) i.stops.length cs, .slice Ap i.pairs.length cp, .slice (some ⟨Gt, 0, none⟩) i.travel.length ct]) (by simp [results, Tryd.results15, go_sem, r0, r1, r2, r3]) rfl ⟨i', _, rfl, hi', by omega, by omega, by omega, ((((HB2.out.setCell (p := ⟨w.heap.size, 0, none⟩) (Nat.le_refl _) _).setCell (p := ⟨w.heap.size, 1, none⟩) (Nat.le_refl _) _).setCell (p := ⟨w.heap.size, 2, none⟩) (Nat.le_refl _) _).setCell (p := ⟨w.heap.size, 3, none⟩) (Nat.le_refl _) _)⟩
  · obtain ⟨b1, b2, hcell⟩ := NumsAt.first OD.out.cars (by omega)
    obtain ⟨x, hx⟩ := hcell 0 (by omega)
    have hf := own_thaw HJ.out.cars (g := Gc) rfl 0
    have zG : Gc < W.heap.size := by omega
    go_upto_region 34 with (fail)
    have OD2 := Lib.hid (OD.out.int hx (by simp only; omega) m)
    have HB2 := Lib.hid (HB.out.setCell (p := ⟨Gc, 0, none⟩) (by simp only; omega) (.int .i64 m))
    have HBJ2 := Lib.hid (HBJ.out.other (a := ⟨Gc, 0, none⟩) (by simp only; omega) (.int .i64 m))
    clear hx hf hcell
    generalize W.setCell ⟨Gc, 0, none⟩ (.int .i64 m) = W2 at *
    clear j0 j1 j2 j3 e0 e1 e2 e3 OD HBJ HB HJ
    have k0 := OD2.out.j0
    have k1 := OD2.out.j1
    have k2 := OD2.out.j2
    have k3 := OD2.out.j3
    have r0 := (HBJ2.out.2 0 (by simp)).1
    have r1 := (HBJ2.out.2 1 (by simp)).1
    have r2 := (HBJ2.out.2 2 (by simp)).1
    have r3 := (HBJ2.out.2 3 (by simp)).1
    have g0 := (HBJ2.out.2 0 (by simp)).2
    have g1 := (HBJ2.out.2 1 (by simp)).2
    have g2 := (HBJ2.out.2 2 (by simp)).2
    have g3 := (HBJ2.out.2 3 (by simp)).2
    have zR2 := HBJ2.out.1
    simp only [List.getElem_cons_zero, List.getElem_cons_succ] at r0 r1 r2 r3
    have OF := Lib.hid ((((OD2.out.low (R := w.heap.size) (by omega) (by omega) 0 (.slice (some ⟨Gc, 0, none⟩) i.cars.length cc)).low (R := w.heap.size) (by omega) (by omega) 1 (.slice (some ⟨Gs, 0, none⟩) i.stops.length cs)).low (R := w.heap.size) (by omega) (by omega) 2 (.slice Ap i.pairs.length cp)).low (R := w.heap.size) (by omega) (by omega) 3 (.slice (some ⟨Gt, 0, none⟩) i.travel.length ct)).lies
    go_wp2
    obtain ⟨i', hi', l1, l2, l3, l4⟩ := OF.out
    refine bodyPost_ret (v := .agg #[.slice (some ⟨Gc, 0, none⟩) i.cars.length cc, .slice (some ⟨Gs, 0, none⟩) i.stops.length cs, .slice Ap i.pairs.length cp, .slice (some ⟨Gt, 0, none⟩) i.travel.length ct]) (by simp [results, Tryd.results15, go_sem, r0, r1, r2, r3]) rfl ⟨i', _, rfl, hi', by omega, by omega, by omega, ((((HB2.out.setCell (p := ⟨w.heap.size, 0, none⟩) (Nat.le_refl _) _).setCell (p := ⟨w.heap.size, 1, none⟩) (Nat.le_refl _) _).setCell (p := ⟨w.heap.size, 2, none⟩) (Nat.le_refl _) _).setCell (p := ⟨w.heap.size, 3, none⟩) (Nat.le_refl _) _)⟩
  · obtain ⟨b1, b2, hcell⟩ := NumsAt.first OD.out.cars (by omega)
    obtain ⟨x, hx⟩ := hcell 1 (by omega)
    have hf := own_thaw HJ.out.cars (g := Gc) rfl 1
    have zG : Gc < W.heap.size := by omega
    go_upto_region 34 with (fail)
    have OD2 := Lib.hid (OD.out.int hx (by simp only; omega) m)
    have HB2 := Lib.hid (HB.out.setCell (p := ⟨Gc, 1, none⟩) (by simp only; omega) (.int .i64 m))
    have HBJ2 := Lib.hid (HBJ.out.other (a := ⟨Gc, 1, none⟩) (by simp only; omega) (.int .i64 m))
    clear hx hf hcell
    generalize W.setCell ⟨Gc, 1, none⟩ (.int .i64 m) = W2 at *
    clear j0 j1 j2 j3 e0 e1 e2 e3 OD HBJ HB HJ
    have k0 := OD2.out.j0
    have k1 := OD2.out.j1
    have k2 := OD2.out.j2
    have k3 := OD2.out.j3
    have r0 := (HBJ2.out.2 0 (by simp)).1
    have r1 := (HBJ2.out.2 1 (by simp)).1
    have r2 := (HBJ2.out.2 2 (by simp)).1
    have r3 := (HBJ2.out.2 3 (by simp)).1
    have g0 := (HBJ2.out.2 0 (by simp)).2
    have g1 := (HBJ2.out.2 1 (by simp)).2
    have g2 := (HBJ2.out.2 2 (by simp)).2
    have g3 := (HBJ2.out.2 3 (by simp)).2
    have zR2 := HBJ2.out.1
    simp only [List.getElem_cons_zero, List.getElem_cons_succ] at r0 r1 r2 r3
    have OF := Lib.hid ((((OD2.out.low (R := w.heap.size) (by omega) (by omega) 0 (.slice (some ⟨Gc, 0, none⟩) i.cars.length cc)).low (R := w.heap.size) (by omega) (by omega) 1 (.slice (some ⟨Gs, 0, none⟩) i.stops.length cs)).low (R := w.heap.size) (by omega) (by omega) 2 (.slice Ap i.pairs.length cp)).low (R := w.heap.size) (by omega) (by omega) 3 (.slice (some ⟨Gt, 0, none⟩) i.travel.length ct)).lies
    go_wp2
    obtain ⟨i', hi', l1, l2, l3, l4⟩ := OF.out
    refine bodyPost_ret (v := .agg #[.slice (some ⟨Gc, 0, none⟩) i.cars.length cc, .slice (some ⟨Gs, 0, none⟩) i.stops.length cs, .slice Ap i.pairs.length cp, .slice (some ⟨Gt, 0, none⟩) i.travel.length ct]) (by simp [results, Tryd.results15, go_sem, r0, r1, r2, r3]) rfl ⟨i', _, rfl, hi', by omega, by omega, by omega, ((((HB2.out.setCell (p := ⟨w.heap.size, 0, none⟩) (Nat.le_refl _) _).setCell (p := ⟨w.heap.size, 1, none⟩) (Nat.le_refl _) _).setCell (p := ⟨w.heap.size, 2, none⟩) (Nat.le_refl _) _).setCell (p := ⟨w.heap.size, 3, none⟩) (Nat.le_refl _) _)⟩
  · obtain ⟨b1, b2, hcell⟩ := NumsAt.first OD.out.cars (by omega)
    obtain ⟨x, hx⟩ := hcell 2 (by omega)
    have hf := own_thaw HJ.out.cars (g := Gc) rfl 2
    have zG : Gc < W.heap.size := by omega
    go_upto_region 34 with (fail)
    have OD2 := Lib.hid (OD.out.int hx (by simp only; omega) m)
    have HB2 := Lib.hid (HB.out.setCell (p := ⟨Gc, 2, none⟩) (by simp only; omega) (.int .i64 m))
    have HBJ2 := Lib.hid (HBJ.out.other (a := ⟨Gc, 2, none⟩) (by simp only; omega) (.int .i64 m))
    clear hx hf hcell
    generalize W.setCell ⟨Gc, 2, none⟩ (.int .i64 m) = W2 at *
    clear j0 j1 j2 j3 e0 e1 e2 e3 OD HBJ HB HJ
    have k0 := OD2.out.j0
    have k1 := OD2.out.j1
    have k2 := OD2.out.j2
    have k3 := OD2.out.j3
    have r0 := (HBJ2.out.2 0 (by simp)).1
    have r1 := (HBJ2.out.2 1 (by simp)).1
    have r2 := (HBJ2.out.2 2 (by simp)).1
    have r3 := (HBJ2.out.2 3 (by simp)).1
    have g0 := (HBJ2.out.2 0 (by simp)).2
    have g1 := (HBJ2.out.2 1 (by simp)).2
    have g2 := (HBJ2.out.2 2 (by simp)).2
    have g3 := (HBJ2.out.2 3 (by simp)).2
    have zR2 := HBJ2.out.1
    simp only [List.getElem_cons_zero, List.getElem_cons_succ] at r0 r1 r2 r3
    have OF := Lib.hid ((((OD2.out.low (R := w.heap.size) (by omega) (by omega) 0 (.slice (some ⟨Gc, 0, none⟩) i.cars.length cc)).low (R := w.heap.size) (by omega) (by omega) 1 (.slice (some ⟨Gs, 0, none⟩) i.stops.length cs)).low (R := w.heap.size) (by omega) (by omega) 2 (.slice Ap i.pairs.length cp)).low (R := w.heap.size) (by omega) (by omega) 3 (.slice (some ⟨Gt, 0, none⟩) i.travel.length ct)).lies
    go_wp2
    obtain ⟨i', hi', l1, l2, l3, l4⟩ := OF.out
    refine bodyPost_ret (v := .agg #[.slice (some ⟨Gc, 0, none⟩) i.cars.length cc, .slice (some ⟨Gs, 0, none⟩) i.stops.length cs, .slice Ap i.pairs.length cp, .slice (some ⟨Gt, 0, none⟩) i.travel.length ct]) (by simp [results, Tryd.results15, go_sem, r0, r1, r2, r3]) rfl ⟨i', _, rfl, hi', by omega, by omega, by omega, ((((HB2.out.setCell (p := ⟨w.heap.size, 0, none⟩) (Nat.le_refl _) _).setCell (p := ⟨w.heap.size, 1, none⟩) (Nat.le_refl _) _).setCell (p := ⟨w.heap.size, 2, none⟩) (Nat.le_refl _) _).setCell (p := ⟨w.heap.size, 3, none⟩) (Nat.le_refl _) _)⟩
  · obtain ⟨b1, b2, hcell⟩ := NumsAt.first OD.out.stops (by omega)
    obtain ⟨x, hx⟩ := hcell 0 (by omega)
    have hf := own_thaw HJ.out.stops (g := Gs) rfl 0
    have zG : Gs < W.heap.size := by omega
    go_upto_region 34 with (fail)
    have OD2 := Lib.hid (OD.out.int hx (by simp only; omega) m)
    have HB2 := Lib.hid (HB.out.setCell (p := ⟨Gs, 0, none⟩) (by simp only; omega) (.int .i64 m))
    have HBJ2 := Lib.hid (HBJ.out.other (a := ⟨Gs, 0, none⟩) (by simp only; omega) (.int .i64 m))
    clear hx hf hcell
    generalize W.setCell ⟨Gs, 0, none⟩ (.int .i64 m) = W2 at *
    clear j0 j1 j2 j3 e0 e1 e2 e3 OD HBJ HB HJ
    have k0 := OD2.out.j0
    have k1 := OD2.out.j1
    have k2 := OD2.out.j2
    have k3 := OD2.out.j3
    have r0 := (HBJ2.out.2 0 (by simp)).1
    have r1 := (HBJ2.out.2 1 (by simp)).1
    have r2 := (HBJ2.out.2 2 (by simp)).1
    have r3 := (HBJ2.out.2 3 (by simp)).1
    have g0 := (HBJ2.out.2 0 (by simp)).2
    have g1 := (HBJ2.out.2 1 (by simp)).2
    have g2 := (HBJ2.out.2 2 (by simp)).2
    have g3 := (HBJ2.out.2 3 (by simp)).2
    have zR2 := HBJ2.out.1
    simp only [List.getElem_cons_zero, List.getElem_cons_succ] at r0 r1 r2 r3
    have OF := Lib.hid ((((OD2.out.low (R := w.heap.size) (by omega) (by omega) 0 (.slice (some ⟨Gc, 0, none⟩) i.cars.length cc)).low (R := w.heap.size) (by omega) (by omega) 1 (.slice (some ⟨Gs, 0, none⟩) i.stops.length cs)).low (R := w.heap.size) (by omega) (by omega) 2 (.slice Ap i.pairs.length cp)).low (R := w.heap.size) (by omega) (by omega) 3 (.slice (some ⟨Gt, 0, none⟩) i.travel.length ct)).lies
    go_wp2
    obtain ⟨i', hi', l1, l2, l3, l4⟩ := OF.out
    refine bodyPost_ret (v := .agg #[.slice (some ⟨Gc, 0, none⟩) i.cars.length cc, .slice (some ⟨Gs, 0, none⟩) i.stops.length cs, .slice Ap i.pairs.length cp, .slice (some ⟨Gt, 0, none⟩) i.travel.length ct]) (by simp [results, Tryd.results15, go_sem, r0, r1, r2, r3]) rfl ⟨i', _, rfl, hi', by omega, by omega, by omega, ((((HB2.out.setCell (p := ⟨w.heap.size, 0, none⟩) (Nat.le_refl _) _).setCell (p := ⟨w.heap.size, 1, none⟩) (Nat.le_refl _) _).setCell (p := ⟨w.heap.size, 2, none⟩) (Nat.le_refl _) _).setCell (p := ⟨w.heap.size, 3, none⟩) (Nat.le_refl _) _)⟩
  · obtain ⟨b1, b2, hcell⟩ := NumsAt.first OD.out.stops (by omega)
    obtain ⟨x, hx⟩ := hcell 1 (by omega)
    have hf := own_thaw HJ.out.stops (g := Gs) rfl 1
    have zG : Gs < W.heap.size := by omega
    go_upto_region 34 with (fail)
    have OD2 := Lib.hid (OD.out.int hx (by simp only; omega) m)
    have HB2 := Lib.hid (HB.out.setCell (p := ⟨Gs, 1, none⟩) (by simp only; omega) (.int .i64 m))
    have HBJ2 := Lib.hid (HBJ.out.other (a := ⟨Gs, 1, none⟩) (by simp only; omega) (.int .i64 m))
    clear hx hf hcell
    generalize W.setCell ⟨Gs, 1, none⟩ (.int .i64 m) = W2 at *
    clear j0 j1 j2 j3 e0 e1 e2 e3 OD HBJ HB HJ
    have k0 := OD2.out.j0
    have k1 := OD2.out.j1
    have k2 := OD2.out.j2
    have k3 := OD2.out.j3
    have r0 := (HBJ2.out.2 0 (by simp)).1
    have r1 := (HBJ2.out.2 1 (by simp)).1
    have r2 := (HBJ2.out.2 2 (by simp)).1
    have r3 := (HBJ2.out.2 3 (by simp)).1
    have g0 := (HBJ2.out.2 0 (by simp)).2
    have g1 := (HBJ2.out.2 1 (by simp)).2
    have g2 := (HBJ2.out.2 2 (by simp)).2
    have g3 := (HBJ2.out.2 3 (by simp)).2
    have zR2 := HBJ2.out.1
    simp only [List.getElem_cons_zero, List.getElem_cons_succ] at r0 r1 r2 r3
    have OF := Lib.hid ((((OD2.out.low (R := w.heap.size) (by omega) (by omega) 0 (.slice (some ⟨Gc, 0, none⟩) i.cars.length cc)).low (R := w.heap.size) (by omega) (by omega) 1 (.slice (some ⟨Gs, 0, none⟩) i.stops.length cs)).low (R := w.heap.size) (by omega) (by omega) 2 (.slice Ap i.pairs.length cp)).low (R := w.heap.size) (by omega) (by omega) 3 (.slice (some ⟨Gt, 0, none⟩) i.travel.length ct)).lies
    go_wp2
    obtain ⟨i', hi', l1, l2, l3, l4⟩ := OF.out
    refine bodyPost_ret (v := .agg #[.slice (some ⟨Gc, 0, none⟩) i.cars.length cc, .slice (some ⟨Gs, 0, none⟩) i.stops.length cs, .slice Ap i.pairs.length cp, .slice (some ⟨Gt, 0, none⟩) i.travel.length ct]) (by simp [results, Tryd.results15, go_sem, r0, r1, r2, r3]) rfl ⟨i', _, rfl, hi', by omega, by omega, by omega, ((((HB2.out.setCell (p := ⟨w.heap.size, 0, none⟩) (Nat.le_refl _) _).setCell (p := ⟨w.heap.size, 1, none⟩) (Nat.le_refl _) _).setCell (p := ⟨w.heap.size, 2, none⟩) (Nat.le_refl _) _).setCell (p := ⟨w.heap.size, 3, none⟩) (Nat.le_refl _) _)⟩
  · obtain ⟨b1, b2, hcell⟩ := NumsAt.first OD.out.stops (by omega)
    obtain ⟨x, hx⟩ := hcell 2 (by omega)
    have hf := own_thaw HJ.out.stops (g := Gs) rfl 2
    have zG : Gs < W.heap.size := by omega
    go_upto_region 34 with (fail)
    have OD2 := Lib.hid (OD.out.int hx (by simp only; omega) m)
    have HB2 := Lib.hid (HB.out.setCell (p := ⟨Gs, 2, none⟩) (by simp only; omega) (.int .i64 m))
    have HBJ2 := Lib.hid (HBJ.out.other (a := ⟨Gs, 2, none⟩) (by simp only; omega) (.int .i64 m))
    clear hx hf hcell
    generalize W.setCell ⟨Gs, 2, none⟩ (.int .i64 m) = W2 at *
    clear j0 j1 j2 j3 e0 e1 e2 e3 OD HBJ HB HJ
    have k0 := OD2.out.j0
    have k1 := OD2.out.j1
    have k2 := OD2.out.j2
    have k3 := OD2.out.j3
    have r0 := (HBJ2.out.2 0 (by simp)).1
    have r1 := (HBJ2.out.2 1 (by simp)).1
    have r2 := (HBJ2.out.2 2 (by simp)).1
    have r3 := (HBJ2.out.2 3 (by simp)).1
    have g0 := (HBJ2.out.2 0 (by simp)).2
    have g1 := (HBJ2.out.2 1 (by simp)).2
    have g2 := (HBJ2.out.2 2 (by simp)).2
    have g3 := (HBJ2.out.2 3 (by simp)).2
    have zR2 := HBJ2.out.1
    simp only [List.getElem_cons_zero, List.getElem_cons_succ] at r0 r1 r2 r3
    have OF := Lib.hid ((((OD2.out.low (R := w.heap.size) (by omega) (by omega) 0 (.slice (some ⟨Gc, 0, none⟩) i.cars.length cc)).low (R := w.heap.size) (by omega) (by omega) 1 (.slice (some ⟨Gs, 0, none⟩) i.stops.length cs)).low (R := w.heap.size) (by omega) (by omega) 2 (.slice Ap i.pairs.length cp)).low (R := w.heap.size) (by omega) (by omega) 3 (.slice (some ⟨Gt, 0, none⟩) i.travel.length ct)).lies
    go_wp2
    obtain ⟨i', hi', l1, l2, l3, l4⟩ := OF.out
    refine bodyPost_ret (v := .agg #[.slice (some ⟨Gc, 0, none⟩) i.cars.length cc, .slice (some ⟨Gs, 0, none⟩) i.stops.length cs, .slice Ap i.pairs.length cp, .slice (some ⟨Gt, 0, none⟩) i.travel.length ct]) (by simp [results, Tryd.results15, go_sem, r0, r1, r2, r3]) rfl ⟨i', _, rfl, hi', by omega, by omega, by omega, ((((HB2.out.setCell (p := ⟨w.heap.size, 0, none⟩) (Nat.le_refl _) _).setCell (p := ⟨w.heap.size, 1, none⟩) (Nat.le_refl _) _).setCell (p := ⟨w.heap.size, 2, none⟩) (Nat.le_refl _) _).setCell (p := ⟨w.heap.size, 3, none⟩) (Nat.le_refl _) _)⟩
  · obtain ⟨b1, b2, hcell⟩ := NumsAt.first OD.out.stops (by omega)
    obtain ⟨x, hx⟩ := hcell 3 (by omega)
    have hf := own_thaw HJ.out.stops (g := Gs) rfl 3
    have zG : Gs < W.heap.size := by omega
    go_upto_region 34 with (fail)
    have OD2 := Lib.hid (OD.out.int hx (by simp only; omega) m)
    have HB2 := Lib.hid (HB.out.setCell (p := ⟨Gs, 3, none⟩) (by simp only; omega) (.int .i64 m))
    have HBJ2 := Lib.hid (HBJ.out.other (a := ⟨Gs, 3, none⟩) (by simp only; omega) (.int .i64 m))
    clear hx hf hcell
    generalize W.setCell ⟨Gs, 3, none⟩ (.int .i64 m) = W2 at *
    clear j0 j1 j2 j3 e0 e1 e2 e3 OD HBJ HB HJ
    have k0 := OD2.out.j0
    have k1 := OD2.out.j1
    have k2 := OD2.out.j2
    have k3 := OD2.out.j3
    have r0 := (HBJ2.out.2 0 (by simp)).1
    have r1 := (HBJ2.out.2 1 (by simp)).1
    have r2 := (HBJ2.out.2 2 (by simp)).1
    have r3 := (HBJ2.out.2 3 (by simp)).1
    have g0 := (HBJ2.out.2 0 (by simp)).2
    have g1 := (HBJ2.out.2 1 (by simp)).2
    have g2 := (HBJ2.out.2 2 (by simp)).2
    have g3 := (HBJ2.out.2 3 (by simp)).2
    have zR2 := HBJ2.out.1
    simp only [List.getElem_cons_zero, List.getElem_cons_succ] at r0 r1 r2 r3
    have OF := Lib.hid ((((OD2.out.low (R := w.heap.size) (by omega) (by omega) 0 (.slice (some ⟨Gc, 0, none⟩) i.cars.length cc)).low (R := w.heap.size) (by omega) (by omega) 1 (.slice (some ⟨Gs, 0, none⟩) i.stops.length cs)).low (R := w.heap.size) (by omega) (by omega) 2 (.slice Ap i.pairs.length cp)).low (R := w.heap.size) (by omega) (by omega) 3 (.slice (some ⟨Gt, 0, none⟩) i.travel.length ct)).lies
    go_wp2
    obtain ⟨i', hi', l1, l2, l3, l4⟩ := OF.out
    refine bodyPost_ret (v := .agg #[.slice (some ⟨Gc, 0, none⟩) i.cars.length cc, .slice (some ⟨Gs, 0, none⟩) i.stops.length cs, .slice Ap i.pairs.length cp, .slice (some ⟨Gt, 0, none⟩) i.travel.length ct]) (by simp [results, Tryd.results15, go_sem, r0, r1, r2, r3]) rfl ⟨i', _, rfl, hi', by omega, by omega, by omega, ((((HB2.out.setCell (p := ⟨w.heap.size, 0, none⟩) (Nat.le_refl _) _).setCell (p := ⟨w.heap.size, 1, none⟩) (Nat.le_refl _) _).setCell (p := ⟨w.heap.size, 2, none⟩) (Nat.le_refl _) _).setCell (p := ⟨w.heap.size, 3, none⟩) (Nat.le_refl _) _)⟩
  · obtain ⟨q0, hq, hqz, hq1, hq2⟩ := info_parts pair_info
    obtain ⟨r1, hr1, hr1l⟩ := within_nat m 12 (by omega)
    obtain ⟨r2, hr2, hr2l⟩ := within_nat (IntKind.i64.wrap (m.tdiv 12)) 12 (by omega)
    have HA1 := Lib.hid (fun W => within_call m 12 W (by omega) (by omega) _ hr1)
    have HA2 := Lib.hid (fun W => within_call (IntKind.i64.wrap (m.tdiv 12)) 12 W (by omega) (by omega) _ hr2)
    clear hr1 hr2
    go_wp2
    refine wp_region_z (S := (fun w' => w'.cell? ⟨J, 2, none⟩ = some (.slice Ap i.pairs.length cp))) (z := 13) (by kernel_rfl) j2 (fun hH => ?_)
    refine wpAnyZ_take (i := 0) (v := ?_) rfl (by kernel_rfl) (by kernel_rfl) (by kernel_rfl) rfl (by kernel_rfl) (fun _ _ _ h => h) (gives_value (by rfl) ?_) (by assumption) ?_
    rotate_left
    · intro w hSw
      (try dsimp only at hSw)
      go_simp
      (try with_reducible rfl)
    (try simp only [Act.put, List.getElem_toArray, List.getElem_cons_succ, List.getElem_cons_zero, List.setIfInBounds_toArray, List.set_cons_zero, List.set_cons_succ])
    refine wpAnyZ_take (i := 1) (v := ?_) rfl (by kernel_rfl) (by kernel_rfl) (by kernel_rfl) rfl (by kernel_rfl) (fun _ _ _ h => h) (gives_value (by rfl) ?_) (by assumption) ?_
    rotate_left
    · intro w hSw
      (try dsimp only at hSw)
      go_simp
      (try with_reducible rfl)
    (try simp only [Act.put, List.getElem_toArray, List.getElem_cons_succ, List.getElem_cons_zero, List.setIfInBounds_toArray, List.set_cons_zero, List.set_cons_succ])
    refine wpAnyZ_take (i := 2) (v := ?_) rfl (by kernel_rfl) (by kernel_rfl) (by kernel_rfl) rfl (by kernel_rfl) (fun _ _ _ h => h) (gives_value (by rfl) ?_) (by assumption) ?_
    rotate_left
    · intro w hSw
      (try dsimp only at hSw)
      go_simp
      (try with_reducible rfl)
    (try simp only [Act.put, List.getElem_toArray, List.getElem_cons_succ, List.getElem_cons_zero, List.setIfInBounds_toArray, List.set_cons_zero, List.set_cons_succ])
    refine wpAnyZ_take (i := 3) (v := ?_) rfl (by kernel_rfl) (by kernel_rfl) (by kernel_rfl) rfl (by kernel_rfl) (fun _ _ _ h => h) (gives_value (by rfl) ?_) (by assumption) ?_
    rotate_left
    · intro w hSw
      (try dsimp only at hSw)
      go_simp
      (try with_reducible rfl)
    (try simp only [Act.put, List.getElem_toArray, List.getElem_cons_succ, List.getElem_cons_zero, List.setIfInBounds_toArray, List.set_cons_zero, List.set_cons_succ])
    refine wpAnyZ_take (i := 4) (v := .int .i64 (r1 : Nat)) rfl (by kernel_rfl) (by kernel_rfl) (by kernel_rfl) rfl (by kernel_rfl) (fun _ _ _ h => h) (gives_call (by rfl) ?_ (fun w _ => HA1.out w)) (by assumption) ?_
    · intro w
      go_simp
      (try with_reducible rfl)
    (try simp only [Act.put, List.getElem_toArray, List.getElem_cons_succ, List.getElem_cons_zero, List.setIfInBounds_toArray, List.set_cons_zero, List.set_cons_succ])
    refine wpAnyZ_take (i := 5) (v := ?_) rfl (by kernel_rfl) (by kernel_rfl) (by kernel_rfl) rfl (by kernel_rfl) (fun _ _ _ h => h) (gives_value (by rfl) ?_) (by assumption) ?_
    rotate_left
    · intro w hSw
      (try dsimp only at hSw)
      go_simp
      (try with_reducible rfl)
    (try simp only [Act.put, List.getElem_toArray, List.getElem_cons_succ, List.getElem_cons_zero, List.setIfInBounds_toArray, List.set_cons_zero, List.set_cons_succ])
    refine wpAnyZ_take (i := 6) (v := ?_) rfl (by kernel_rfl) (by kernel_rfl) (by kernel_rfl) rfl (by kernel_rfl) (fun _ _ _ h => h) (gives_value (by rfl) ?_) (by assumption) ?_
    rotate_left
    · intro w hSw
      (try dsimp only at hSw)
      go_simp
      (try with_reducible rfl)
    (try simp only [Act.put, List.getElem_toArray, List.getElem_cons_succ, List.getElem_cons_zero, List.setIfInBounds_toArray, List.set_cons_zero, List.set_cons_succ])
    refine wpAnyZ_take (i := 7) (v := ?_) rfl (by kernel_rfl) (by kernel_rfl) (by kernel_rfl) rfl (by kernel_rfl) (fun _ _ _ h => h) (gives_value (by rfl) ?_) (by assumption) ?_
    rotate_left
    · intro w hSw
      (try dsimp only at hSw)
      go_simp
      (try with_reducible rfl)
    (try simp only [Act.put, List.getElem_toArray, List.getElem_cons_succ, List.getElem_cons_zero, List.setIfInBounds_toArray, List.set_cons_zero, List.set_cons_succ])
    refine wpAnyZ_take (i := 8) (v := .int .i64 (r2 : Nat)) rfl (by kernel_rfl) (by kernel_rfl) (by kernel_rfl) rfl (by kernel_rfl) (fun _ _ _ h => h) (gives_call (by rfl) ?_ (fun w _ => HA2.out w)) (by assumption) ?_
    · intro w
      go_simp
      (try with_reducible rfl)
    (try simp only [Act.put, List.getElem_toArray, List.getElem_cons_succ, List.getElem_cons_zero, List.setIfInBounds_toArray, List.set_cons_zero, List.set_cons_succ])
    refine wpAnyZ_take (i := 9) (v := ?_) rfl (by kernel_rfl) (by kernel_rfl) (by kernel_rfl) rfl (by kernel_rfl) (fun _ _ _ h => h) (gives_value (by rfl) ?_) (by assumption) ?_
    rotate_left
    · intro w hSw
      (try dsimp only at hSw)
      go_simp
      (try with_reducible rfl)
    (try simp only [Act.put, List.getElem_toArray, List.getElem_cons_succ, List.getElem_cons_zero, List.setIfInBounds_toArray, List.set_cons_zero, List.set_cons_succ])
    refine wpAnyZ_one (i := 10) (by kernel_rfl) ?_
    refine zstep rfl (fun K hK => ?_)
    go_simp
    refine hK.out _ _ (fun _ => (Below.cell (Below.drew ((Below.refl W.heap.size W).alloc (Nat.le_refl _) (.cells (ints [(r1 : Int), (r2 : Int)]).toArray 62))) zJ).trans j2) (fun hH => ?_)
    replace hH := hH (by decide)
    clear hK K
    (try simp only [Act.put, List.getElem_toArray, List.getElem_cons_succ, List.getElem_cons_zero, List.setIfInBounds_toArray, List.set_cons_zero, List.set_cons_succ])
    refine wpAnyZ_one (i := 11) (by kernel_rfl) ?_
    refine zstep rfl (fun K hK => ?_)
    refine step_append_any _ rfl (.tmp 79) (.tmp 88) 27 rfl (w.heap.size + 1) 62 q0 _ 2 16 Tryd.underlying27 hq hqz hq1 hq2 rfl (by decide) (.slice Ap i.pairs.length cp) i.pairs.length (pairCells i.pairs) (by rfl) (own_below HJ.out.pairs (Below.drew ((Below.refl W.heap.size W).alloc (Nat.le_refl _) (.cells (ints [(r1 : Int), (r2 : Int)]).toArray 62)))) (W.heap.size + 1) (some ⟨W.heap.size, 0, none⟩) 1 1 (ints [(r1 : Int), (r2 : Int)]) (by rfl) (Reads.drew (reads_at _ _ (by simp))) (ints_one _) (by unfold maxLen; omega) (by omega) (by simp; omega) ?_
    intro v' w3 hown' hgrow hob
    obtain ⟨ao, nn, capn, rfl⟩ := own_slice hown'
    have hbx := (HJ.out.below (Below.drew ((Below.refl W.heap.size W).alloc (Nat.le_refl _) (.cells (ints [(r1 : Int), (r2 : Int)]).toArray 62)))).box_pair hgrow
    have d0 : w3.cell? ⟨J, 2, none⟩ = some (.slice Ap i.pairs.length cp) := by rw [Lib.cell_of_heap hbx]; rfl
    have f0 : w3.frozen? ⟨J, 2, none⟩ = false := Lib.frozen_of_heap hbx 2
    have zw3 : J < w3.heap.size := (Array.getElem?_eq_some_iff.1 hbx).1
    have HO : Hid (w3.ownsRow (w.heap.size + 1) 62 2 (.slice ao nn capn) (i.pairs.length + [(⟨(r1 : Int), (r2 : Int)⟩ : Pair)].length) (pairCells i.pairs ++ pairCells [⟨(r1 : Int), (r2 : Int)⟩])) := by
      show World.ownsRow _ _ _ _ _ _ _
      simpa [pairCells, pairNums] using hown'
    have HG := Lib.hid hgrow
    clear hown' hgrow hob hbx
    refine hK.out _ _ (fun _ => d0) (fun hH => ?_)
    replace hH := hH (by decide)
    clear hK K
    (try simp only [Act.put, List.getElem_toArray, List.getElem_cons_succ, List.getElem_cons_zero, List.setIfInBounds_toArray, List.set_cons_zero, List.set_cons_succ])
    refine wpAnyZ_take (i := 12) (v := ?_) rfl (by kernel_rfl) (by kernel_rfl) (by kernel_rfl) rfl (by kernel_rfl) (fun _ _ _ h => h) (gives_value (by rfl) ?_) (by assumption) ?_
    rotate_left
    · intro w hSw
      (try dsimp only at hSw)
      go_simp
      (try with_reducible rfl)
    (try simp only [Act.put, List.getElem_toArray, List.getElem_cons_succ, List.getElem_cons_zero, List.setIfInBounds_toArray, List.set_cons_zero, List.set_cons_succ])
    refine wpAnyZ_one (i := 13) (by kernel_rfl) ?_
    refine zstep rfl (fun K hK => ?_)
    go_simp
    refine hK.out _ _ (fun h => absurd rfl h) (fun hH => ?_)
    clear hK K hH
    (try simp only [Act.put, List.getElem_toArray, List.getElem_cons_succ, List.getElem_cons_zero, List.setIfInBounds_toArray, List.set_cons_zero, List.set_cons_succ])
    refine wpAnyZ_done (by kernel_rfl) ?_ _
    clear j0 j1 j2 j3 e0 e1 e2 e3
    go_upto_region 34 with (fail)
    have HD2 := Lib.hid ((HJ.out.below (Below.drew ((Below.refl W.heap.size W).alloc (Nat.le_refl _) (.cells (ints [(r1 : Int), (r2 : Int)]).toArray 62)))).put_pairs [⟨(r1 : Int), (r2 : Int)⟩] HO.out HG.out)
    have HB2 := Lib.hid (((HB.out.trans (Below.mono (Below.drew ((Below.refl W.heap.size W).alloc (Nat.le_refl _) (.cells (ints [(r1 : Int), (r2 : Int)]).toArray 62))) HB.out.size)).grown HG.out (by first | omega | (simp; omega)) (fun q hq => by have := (own_typed HJ.out.pairs hq).2; omega)).setCell (p := ⟨J, 2, none⟩) (by simp only; omega) (.slice ao nn capn))
    have HBJ2 := Lib.hid ((((HBJ.out.below (Below.drew ((Below.refl W.heap.size W).alloc (Nat.le_refl _) (.cells (ints [(r1 : Int), (r2 : Int)]).toArray 62)))).heap (HG.out.block w.heap.size (by have := HBJ.out.1; first | omega | (simp; omega)) (fun e => by have := (own_typed HJ.out.pairs e.symm).2; omega)) HG.out.size).other (a := ⟨J, 2, none⟩) (by simp only; omega) (.slice ao nn capn)))
    clear HO HG d0 f0
    generalize w3.setCell ⟨J, 2, none⟩ (.slice ao nn capn) = W2 at *
    have OD2 := Lib.hid HD2.out.odd
    simp only [List.length_append, List.length_cons, List.length_nil, Nat.zero_add] at OD2
    clear OD HBJ HB HJ
    have k0 := OD2.out.j0
    have k1 := OD2.out.j1
    have k2 := OD2.out.j2
    have k3 := OD2.out.j3
    have r0 := (HBJ2.out.2 0 (by simp)).1
    have r1 := (HBJ2.out.2 1 (by simp)).1
    have r2 := (HBJ2.out.2 2 (by simp)).1
    have r3 := (HBJ2.out.2 3 (by simp)).1
    have g0 := (HBJ2.out.2 0 (by simp)).2
    have g1 := (HBJ2.out.2 1 (by simp)).2
    have g2 := (HBJ2.out.2 2 (by simp)).2
    have g3 := (HBJ2.out.2 3 (by simp)).2
    have zR2 := HBJ2.out.1
    simp only [List.getElem_cons_zero, List.getElem_cons_succ] at r0 r1 r2 r3
    have OF := Lib.hid ((((OD2.out.low (R := w.heap.size) (by omega) (by omega) 0 (.slice (some ⟨Gc, 0, none⟩) i.cars.length cc)).low (R := w.heap.size) (by omega) (by omega) 1 (.slice (some ⟨Gs, 0, none⟩) i.stops.length cs)).low (R := w.heap.size) (by omega) (by omega) 2 (.slice ao nn capn)).low (R := w.heap.size) (by omega) (by omega) 3 (.slice (some ⟨Gt, 0, none⟩) i.travel.length ct)).lies
    go_wp2
    obtain ⟨i', hi', l1, l2, l3, l4⟩ := OF.out
    refine bodyPost_ret (v := .agg #[.slice (some ⟨Gc, 0, none⟩) i.cars.length cc, .slice (some ⟨Gs, 0, none⟩) i.stops.length cs, .slice ao nn capn, .slice (some ⟨Gt, 0, none⟩) i.travel.length ct]) (by simp [results, Tryd.results15, go_sem, r0, r1, r2, r3]) rfl ⟨i', _, rfl, hi', by omega, by omega, by omega, ((((HB2.out.setCell (p := ⟨w.heap.size, 0, none⟩) (Nat.le_refl _) _).setCell (p := ⟨w.heap.size, 1, none⟩) (Nat.le_refl _) _).setCell (p := ⟨w.heap.size, 2, none⟩) (Nat.le_refl _) _).setCell (p := ⟨w.heap.size, 3, none⟩) (Nat.le_refl _) _)⟩
  · have hcap : i.travel.length ≤ ct := own_cap HJ.out.travel
    have q1 : (1 : Int) ≤ (i.travel.length : Int) := by omega
    have q2 : (i.travel.length : Int) ≤ (ct : Int) := by omega
    have q3 : ¬ ct = 1 := by omega
    have q4 : (ct == 1) = false := by simpa using q3
    go_upto_region 34 with (fail)
    have ho : ∀ u q, q ≠ 3 → (W.setCell ⟨J, 3, none⟩ u).cell? ⟨J, q, none⟩ = W.cell? ⟨J, q, none⟩ := fun u q hq => World.cell?_setCell_other _ _ _ _ (fun e => by injection e with _ e _; exact hq e.symm)
    have OD2 : Hid (OddAt (W.setCell ⟨J, 3, none⟩ (.slice (some ⟨Gt, 1, none⟩) (i.travel.length - 1) (ct - 1))) (w.heap.size + 1) J J (.slice (some ⟨Gc, 0, none⟩) i.cars.length cc) (.slice (some ⟨Gs, 0, none⟩) i.stops.length cs) (.slice Ap i.pairs.length cp) (.slice (some ⟨Gt, 1, none⟩) (i.travel.length - 1) (ct - 1)) i.cars.length i.stops.length i.pairs.length (i.travel.length - 1)) :=
      ⟨by rw [ho _ 0 (by omega)]; exact j0, by rw [ho _ 1 (by omega)]; exact j1, by rw [ho _ 2 (by omega)]; exact j2, World.cell?_setCell_same _ _ _ j3, OD.out.cars.off (.inr (Nat.le_refl _)) _, OD.out.stops.off (.inr (Nat.le_refl _)) _, OD.out.pairs.off (.inr (Nat.le_refl _)) _, (OD.out.travel.tail' (by omega)).off (.inr (Nat.le_refl _)) _, by simpa using OD.out.top⟩
    have HB2 := Lib.hid (HB.out.setCell (p := ⟨J, 3, none⟩) (by simp only; omega) (.slice (some ⟨Gt, 1, none⟩) (i.travel.length - 1) (ct - 1)))
    have HBJ2 := Lib.hid (HBJ.out.other (a := ⟨J, 3, none⟩) (by simp only; omega) (.slice (some ⟨Gt, 1, none⟩) (i.travel.length - 1) (ct - 1)))
    clear ho
    generalize W.setCell ⟨J, 3, none⟩ (.slice (some ⟨Gt, 1, none⟩) (i.travel.length - 1) (ct - 1)) = W2 at *
    clear j0 j1 j2 j3 e0 e1 e2 e3 OD HBJ HB HJ
    have k0 := OD2.out.j0
    have k1 := OD2.out.j1
    have k2 := OD2.out.j2
    have k3 := OD2.out.j3
    have r0 := (HBJ2.out.2 0 (by simp)).1
    have r1 := (HBJ2.out.2 1 (by simp)).1
    have r2 := (HBJ2.out.2 2 (by simp)).1
    have r3 := (HBJ2.out.2 3 (by simp)).1
    have g0 := (HBJ2.out.2 0 (by simp)).2
    have g1 := (HBJ2.out.2 1 (by simp)).2
    have g2 := (HBJ2.out.2 2 (by simp)).2
    have g3 := (HBJ2.out.2 3 (by simp)).2
    have zR2 := HBJ2.out.1
    simp only [List.getElem_cons_zero, List.getElem_cons_succ] at r0 r1 r2 r3
    have OF := Lib.hid ((((OD2.out.low (R := w.heap.size) (by omega) (by omega) 0 (.slice (some ⟨Gc, 0, none⟩) i.cars.length cc)).low (R := w.heap.size) (by omega) (by omega) 1 (.slice (some ⟨Gs, 0, none⟩) i.stops.length cs)).low (R := w.heap.size) (by omega) (by omega) 2 (.slice Ap i.pairs.length cp)).low (R := w.heap.size) (by omega) (by omega) 3 (.slice (some ⟨Gt, 1, none⟩) (i.travel.length - 1) (ct - 1))).lies
    go_wp2
    obtain ⟨i', hi', l1, l2, l3, l4⟩ := OF.out
    refine bodyPost_ret (v := .agg #[.slice (some ⟨Gc, 0, none⟩) i.cars.length cc, .slice (some ⟨Gs, 0, none⟩) i.stops.length cs, .slice Ap i.pairs.length cp, .slice (some ⟨Gt, 1, none⟩) (i.travel.length - 1) (ct - 1)]) (by simp [results, Tryd.results15, go_sem, r0, r1, r2, r3]) rfl ⟨i', _, rfl, hi', by omega, by omega, by omega, ((((HB2.out.setCell (p := ⟨w.heap.size, 0, none⟩) (Nat.le_refl _) _).setCell (p := ⟨w.heap.size, 1, none⟩) (Nat.le_refl _) _).setCell (p := ⟨w.heap.size, 2, none⟩) (Nat.le_refl _) _).setCell (p := ⟨w.heap.size, 3, none⟩) (Nat.le_refl _) _)⟩
  · obtain ⟨b1, b2, u, rn, hu, hn1⟩ := OD.out.travel.nth (k := 0) (by omega)
    obtain ⟨u', hu', g, cap', rfl, hg, hbl, hty, hrc⟩ := HJ.out.rows 0 (by omega)
    have hrl := HRL.out i.travel[0] (List.getElem_mem _)
    have hr2 : 3 ≤ i.travel[0].length := by omega
    have hrow : W.cell? ⟨Gt, 0, none⟩ = some (.slice (some ⟨g, 0, none⟩) i.travel[0].length cap') := by
      obtain ⟨A, cap2, e, hc⟩ := own_get HJ.out.travel
      obtain ⟨g2, e2, _, hc2⟩ := hc (by omega)
      injection e with e _ _
      rw [e2] at e
      injection e with e
      injection e with e _ _
      rw [e]
      exact hc2 0 _ hu'
    have hrf : W.frozen? ⟨Gt, 0, none⟩ = false := own_thaw HJ.out.travel (g := Gt) rfl 0
    obtain rfl : u = .slice (some ⟨g, 0, none⟩) i.travel[0].length cap' := by rw [hrow] at hu; injection hu with hu; exact hu.symm
    obtain rfl : rn = i.travel[0].length := by obtain ⟨A', c', e', _⟩ := hn1; injection e' with _ e' _; exact e'.symm
    have HNT := Lib.hid (hn1.tail' (cap' := cap' - 1) (by omega))
    have zG : g < W.heap.size := hbl.1
    have hgJ : Gt ≠ J := by omega
    have q1 : (1 : Int) ≤ (i.travel[0].length : Int) := by omega
    have q2 : (0 : Int) < (i.travel.length : Int) := by omega
    have q3 : (i.travel[0].length : Int) ≤ (cap' : Int) := by omega
    have q4 : ¬ cap' = 1 := by omega
    have q5 : (cap' == 1) = false := by simpa using q4
    have zT : Gt < W.heap.size := by omega
    clear hu hn1 hu' hbl hty hrl
    generalize i.travel[0].length = rl at *
    go_wp2
    go_region
    go_upto_region 34 with (fail)
    have OD2 := Lib.hid (OD.out.row hrow (by simp only; omega) HNT.out)
    have HB2 := Lib.hid (HB.out.setCell (p := ⟨Gt, 0, none⟩) (by simp only; omega) (.slice (some ⟨g, 1, none⟩) (rl - 1) (cap' - 1)))
    have HBJ2 := Lib.hid (HBJ.out.other (a := ⟨Gt, 0, none⟩) (by simp only; omega) (.slice (some ⟨g, 1, none⟩) (rl - 1) (cap' - 1)))
    clear hrow hrf
    have HBD := Lib.hid ((Below.refl (W.setCell ⟨Gt, 0, none⟩ (.slice (some ⟨g, 1, none⟩) (rl - 1) (cap' - 1))).heap.size (W.setCell ⟨Gt, 0, none⟩ (.slice (some ⟨g, 1, none⟩) (rl - 1) (cap' - 1)))).drew)
    replace OD2 := Lib.hid (OD2.out.below HBD.out (by simp; omega))
    replace HBJ2 := Lib.hid (HBJ2.out.below HBD.out)
    replace HB2 := Lib.hid (HB2.out.drew)
    clear HBD
    generalize (W.setCell ⟨Gt, 0, none⟩ (.slice (some ⟨g, 1, none⟩) (rl - 1) (cap' - 1))).drew = W2 at *
    clear j0 j1 j2 j3 e0 e1 e2 e3 OD HBJ HB HJ
    have k0 := OD2.out.j0
    have k1 := OD2.out.j1
    have k2 := OD2.out.j2
    have k3 := OD2.out.j3
    have r0 := (HBJ2.out.2 0 (by simp)).1
    have r1 := (HBJ2.out.2 1 (by simp)).1
    have r2 := (HBJ2.out.2 2 (by simp)).1
    have r3 := (HBJ2.out.2 3 (by simp)).1
    have g0 := (HBJ2.out.2 0 (by simp)).2
    have g1 := (HBJ2.out.2 1 (by simp)).2
    have g2 := (HBJ2.out.2 2 (by simp)).2
    have g3 := (HBJ2.out.2 3 (by simp)).2
    have zR2 := HBJ2.out.1
    simp only [List.getElem_cons_zero, List.getElem_cons_succ] at r0 r1 r2 r3
    have OF := Lib.hid ((((OD2.out.low (R := w.heap.size) (by omega) (by omega) 0 (.slice (some ⟨Gc, 0, none⟩) i.cars.length cc)).low (R := w.heap.size) (by omega) (by omega) 1 (.slice (some ⟨Gs, 0, none⟩) i.stops.length cs)).low (R := w.heap.size) (by omega) (by omega) 2 (.slice Ap i.pairs.length cp)).low (R := w.heap.size) (by omega) (by omega) 3 (.slice (some ⟨Gt, 0, none⟩) i.travel.length ct)).lies
    go_wp2
    obtain ⟨i', hi', l1, l2, l3, l4⟩ := OF.out
    refine bodyPost_ret (v := .agg #[.slice (some ⟨Gc, 0, none⟩) i.cars.length cc, .slice (some ⟨Gs, 0, none⟩) i.stops.length cs, .slice Ap i.pairs.length cp, .slice (some ⟨Gt, 0, none⟩) i.travel.length ct]) (by simp [results, Tryd.results15, go_sem, r0, r1, r2, r3]) rfl ⟨i', _, rfl, hi', by omega, by omega, by omega, ((((HB2.out.setCell (p := ⟨w.heap.size, 0, none⟩) (Nat.le_refl _) _).setCell (p := ⟨w.heap.size, 1, none⟩) (Nat.le_refl _) _).setCell (p := ⟨w.heap.size, 2, none⟩) (Nat.le_refl _) _).setCell (p := ⟨w.heap.size, 3, none⟩) (Nat.le_refl _) _)⟩
  · obtain ⟨b1, b2, u, rn, hu, hn1⟩ := OD.out.travel.nth (k := 1) (by omega)
    obtain ⟨u', hu', g, cap', rfl, hg, hbl, hty, _⟩ := HJ.out.rows 1 (by omega)
    have hrl := HRL.out i.travel[1] (List.getElem_mem _)
    have hr2 : 3 ≤ i.travel[1].length := by omega
    have hrow : W.cell? ⟨Gt, 1, none⟩ = some (.slice (some ⟨g, 0, none⟩) i.travel[1].length cap') := by
      obtain ⟨A, cap2, e, hc⟩ := own_get HJ.out.travel
      obtain ⟨g2, e2, _, hc2⟩ := hc (by omega)
      injection e with e _ _
      rw [e2] at e
      injection e with e
      injection e with e _ _
      rw [e]
      exact hc2 1 _ hu'
    obtain ⟨x0, hx⟩ : ∃ x0, W.cell? ⟨g, 0, none⟩ = some (.int .i64 x0) := by
      have := (hbl.2 0 (by simp [ints]; omega)).1
      exact ⟨i.travel[1][0], by simpa [ints] using this⟩
    have hf : W.frozen? ⟨g, 0, none⟩ = false := (hbl.2 0 (by simp [ints]; omega)).2
    have zG : g < W.heap.size := hbl.1
    have hgJ : g ≠ J := typed_ne hty HJ.out.typedI (by decide)
    have q1 : (0 : Int) < (i.travel[1].length : Int) := by omega
    have q2 : (1 : Int) < (i.travel.length : Int) := by omega
    have zT : Gt < W.heap.size := by omega
    clear hu hn1 hu' hbl hty hrl
    generalize i.travel[1].length = rl at *
    go_upto_region 34 with (fail)
    have OD2 := Lib.hid (OD.out.int hx (by simp only; omega) m)
    have HB2 := Lib.hid (HB.out.setCell (p := ⟨g, 0, none⟩) (by simp only; omega) (.int .i64 m))
    have HBJ2 := Lib.hid (HBJ.out.other (a := ⟨g, 0, none⟩) (by simp only; omega) (.int .i64 m))
    clear hx hf hrow
    generalize W.setCell ⟨g, 0, none⟩ (.int .i64 m) = W2 at *
    clear j0 j1 j2 j3 e0 e1 e2 e3 OD HBJ HB HJ
    have k0 := OD2.out.j0
    have k1 := OD2.out.j1
    have k2 := OD2.out.j2
    have k3 := OD2.out.j3
    have r0 := (HBJ2.out.2 0 (by simp)).1
    have r1 := (HBJ2.out.2 1 (by simp)).1
    have r2 := (HBJ2.out.2 2 (by simp)).1
    have r3 := (HBJ2.out.2 3 (by simp)).1
    have g0 := (HBJ2.out.2 0 (by simp)).2
    have g1 := (HBJ2.out.2 1 (by simp)).2
    have g2 := (HBJ2.out.2 2 (by simp)).2
    have g3 := (HBJ2.out.2 3 (by simp)).2
    have zR2 := HBJ2.out.1
    simp only [List.getElem_cons_zero, List.getElem_cons_succ] at r0 r1 r2 r3
    have OF := Lib.hid ((((OD2.out.low (R := w.heap.size) (by omega) (by omega) 0 (.slice (some ⟨Gc, 0, none⟩) i.cars.length cc)).low (R := w.heap.size) (by omega) (by omega) 1 (.slice (some ⟨Gs, 0, none⟩) i.stops.length cs)).low (R := w.heap.size) (by omega) (by omega) 2 (.slice Ap i.pairs.length cp)).low (R := w.heap.size) (by omega) (by omega) 3 (.slice (some ⟨Gt, 0, none⟩) i.travel.length ct)).lies
    go_wp2
    obtain ⟨i', hi', l1, l2, l3, l4⟩ := OF.out
    refine bodyPost_ret (v := .agg #[.slice (some ⟨Gc, 0, none⟩) i.cars.length cc, .slice (some ⟨Gs, 0, none⟩) i.stops.length cs, .slice Ap i.pairs.length cp, .slice (some ⟨Gt, 0, none⟩) i.travel.length ct]) (by simp [results, Tryd.results15, go_sem, r0, r1, r2, r3]) rfl ⟨i', _, rfl, hi', by omega, by omega, by omega, ((((HB2.out.setCell (p := ⟨w.heap.size, 0, none⟩) (Nat.le_refl _) _).setCell (p := ⟨w.heap.size, 1, none⟩) (Nat.le_refl _) _).setCell (p := ⟨w.heap.size, 2, none⟩) (Nat.le_refl _) _).setCell (p := ⟨w.heap.size, 3, none⟩) (Nat.le_refl _) _)⟩
  · obtain ⟨b1, b2, u, rn, hu, hn1⟩ := OD.out.travel.nth (k := 1) (by omega)
    obtain ⟨u', hu', g, cap', rfl, hg, hbl, hty, _⟩ := HJ.out.rows 1 (by omega)
    have hrl := HRL.out i.travel[1] (List.getElem_mem _)
    have hr2 : 3 ≤ i.travel[1].length := by omega
    have hrow : W.cell? ⟨Gt, 1, none⟩ = some (.slice (some ⟨g, 0, none⟩) i.travel[1].length cap') := by
      obtain ⟨A, cap2, e, hc⟩ := own_get HJ.out.travel
      obtain ⟨g2, e2, _, hc2⟩ := hc (by omega)
      injection e with e _ _
      rw [e2] at e
      injection e with e
      injection e with e _ _
      rw [e]
      exact hc2 1 _ hu'
    obtain ⟨x0, hx⟩ : ∃ x0, W.cell? ⟨g, 1, none⟩ = some (.int .i64 x0) := by
      have := (hbl.2 1 (by simp [ints]; omega)).1
      exact ⟨i.travel[1][1], by simpa [ints] using this⟩
    have hf : W.frozen? ⟨g, 1, none⟩ = false := (hbl.2 1 (by simp [ints]; omega)).2
    have zG : g < W.heap.size := hbl.1
    have hgJ : g ≠ J := typed_ne hty HJ.out.typedI (by decide)
    have q1 : (1 : Int) < (i.travel[1].length : Int) := by omega
    have q2 : (1 : Int) < (i.travel.length : Int) := by omega
    have zT : Gt < W.heap.size := by omega
    clear hu hn1 hu' hbl hty hrl
    generalize i.travel[1].length = rl at *
    go_upto_region 34 with (fail)
    have OD2 := Lib.hid (OD.out.int hx (by simp only; omega) m)
    have HB2 := Lib.hid (HB.out.setCell (p := ⟨g, 1, none⟩) (by simp only; omega) (.int .i64 m))
    have HBJ2 := Lib.hid (HBJ.out.other (a := ⟨g, 1, none⟩) (by simp only; omega) (.int .i64 m))
    clear hx hf hrow
    generalize W.setCell ⟨g, 1, none⟩ (.int .i64 m) = W2 at *
    clear j0 j1 j2 j3 e0 e1 e2 e3 OD HBJ HB HJ
    have k0 := OD2.out.j0
    have k1 := OD2.out.j1
    have k2 := OD2.out.j2
    have k3 := OD2.out.j3
    have r0 := (HBJ2.out.2 0 (by simp)).1
    have r1 := (HBJ2.out.2 1 (by simp)).1
    have r2 := (HBJ2.out.2 2 (by simp)).1
    have r3 := (HBJ2.out.2 3 (by simp)).1
    have g0 := (HBJ2.out.2 0 (by simp)).2
    have g1 := (HBJ2.out.2 1 (by simp)).2
    have g2 := (HBJ2.out.2 2 (by simp)).2
    have g3 := (HBJ2.out.2 3 (by simp)).2
    have zR2 := HBJ2.out.1
    simp only [List.getElem_cons_zero, List.getElem_cons_succ] at r0 r1 r2 r3
    have OF := Lib.hid ((((OD2.out.low (R := w.heap.size) (by omega) (by omega) 0 (.slice (some ⟨Gc, 0, none⟩) i.cars.length cc)).low (R := w.heap.size) (by omega) (by omega) 1 (.slice (some ⟨Gs, 0, none⟩) i.stops.length cs)).low (R := w.heap.size) (by omega) (by omega) 2 (.slice Ap i.pairs.length cp)).low (R := w.heap.size) (by omega) (by omega) 3 (.slice (some ⟨Gt, 0, none⟩) i.travel.length ct)).lies
    go_wp2
    obtain ⟨i', hi', l1, l2, l3, l4⟩ := OF.out
    refine bodyPost_ret (v := .agg #[.slice (some ⟨Gc, 0, none⟩) i.cars.length cc, .slice (some ⟨Gs, 0, none⟩) i.stops.length cs, .slice Ap i.pairs.length cp, .slice (some ⟨Gt, 0, none⟩) i.travel.length ct]) (by simp [results, Tryd.results15, go_sem, r0, r1, r2, r3]) rfl ⟨i', _, rfl, hi', by omega, by omega, by omega, ((((HB2.out.setCell (p := ⟨w.heap.size, 0, none⟩) (Nat.le_refl _) _).setCell (p := ⟨w.heap.size, 1, none⟩) (Nat.le_refl _) _).setCell (p := ⟨w.heap.size, 2, none⟩) (Nat.le_refl _) _).setCell (p := ⟨w.heap.size, 3, none⟩) (Nat.le_refl _) _)⟩
  · obtain ⟨q0, hq, hqz, hq1, hq2⟩ := info_parts stop_info
    go_wp2_with (at_builtin; refine wpList_append_any _ rfl _ _ 26 rfl (w.heap.size + 1) 61 q0 _ 4 32 Tryd.underlying26 hq hqz hq1 hq2 rfl (by decide) (.slice (some ⟨Gs, 0, none⟩) i.stops.length cs) i.stops.length (stopCells i.stops) rfl HJ.out.stops W.heap.size (some ⟨Gs, 0, none⟩) i.stops.length cs (stopCells i.stops) rfl (Reads.of_own HJ.out.stops) (stops_one _) (by unfold maxLen; omega) (by omega) (by omega) ?_)
    intro v' w3 hown' hgrow hob
    obtain ⟨ao, nn, capn, rfl⟩ := own_slice hown'
    have hbx := HJ.out.box_stop hgrow
    have d0 : w3.cell? ⟨J, 1, none⟩ = some (.slice (some ⟨Gs, 0, none⟩) i.stops.length cs) := by rw [Lib.cell_of_heap hbx]; rfl
    have f0 : w3.frozen? ⟨J, 1, none⟩ = false := Lib.frozen_of_heap hbx 1
    have zw3 : J < w3.heap.size := (Array.getElem?_eq_some_iff.1 hbx).1
    have HO := Lib.hid hown'
    have HG := Lib.hid hgrow
    clear hown' hgrow hob hbx j0 j1 j2 j3 e0 e1 e2 e3
    go_upto_region 34 with (fail)
    have HD2 := Lib.hid ((HJ.out.below (Below.refl W.heap.size W)).put_stops i.stops HO.out HG.out)
    have HB2 := Lib.hid (((HB.out.trans (Below.mono (Below.refl W.heap.size W) HB.out.size)).grown HG.out (by first | omega | (simp; omega)) (fun q hq => by have := (own_typed HJ.out.stops hq).2; omega)).setCell (p := ⟨J, 1, none⟩) (by simp only; omega) (.slice ao nn capn))
    have HBJ2 := Lib.hid ((((HBJ.out.below (Below.refl W.heap.size W)).heap (HG.out.block w.heap.size (by have := HBJ.out.1; first | omega | (simp; omega)) (fun e => by have := (own_typed HJ.out.stops e.symm).2; omega)) HG.out.size).other (a := ⟨J, 1, none⟩) (by simp only; omega) (.slice ao nn capn)))
    clear HO HG d0 f0
    generalize w3.setCell ⟨J, 1, none⟩ (.slice ao nn capn) = W2 at *
    have OD2 := Lib.hid HD2.out.odd
    simp only [List.length_append, List.length_cons, List.length_nil, Nat.zero_add] at OD2
    clear OD HBJ HB HJ
    have k0 := OD2.out.j0
    have k1 := OD2.out.j1
    have k2 := OD2.out.j2
    have k3 := OD2.out.j3
    have r0 := (HBJ2.out.2 0 (by simp)).1
    have r1 := (HBJ2.out.2 1 (by simp)).1
    have r2 := (HBJ2.out.2 2 (by simp)).1
    have r3 := (HBJ2.out.2 3 (by simp)).1
    have g0 := (HBJ2.out.2 0 (by simp)).2
    have g1 := (HBJ2.out.2 1 (by simp)).2
    have g2 := (HBJ2.out.2 2 (by simp)).2
    have g3 := (HBJ2.out.2 3 (by simp)).2
    have zR2 := HBJ2.out.1
    simp only [List.getElem_cons_zero, List.getElem_cons_succ] at r0 r1 r2 r3
    have OF := Lib.hid ((((OD2.out.low (R := w.heap.size) (by omega) (by omega) 0 (.slice (some ⟨Gc, 0, none⟩) i.cars.length cc)).low (R := w.heap.size) (by omega) (by omega) 1 (.slice ao nn capn)).low (R := w.heap.size) (by omega) (by omega) 2 (.slice Ap i.pairs.length cp)).low (R := w.heap.size) (by omega) (by omega) 3 (.slice (some ⟨Gt, 0, none⟩) i.travel.length ct)).lies
    go_wp2
    obtain ⟨i', hi', l1, l2, l3, l4⟩ := OF.out
    refine bodyPost_ret (v := .agg #[.slice (some ⟨Gc, 0, none⟩) i.cars.length cc, .slice ao nn capn, .slice Ap i.pairs.length cp, .slice (some ⟨Gt, 0, none⟩) i.travel.length ct]) (by simp [results, Tryd.results15, go_sem, r0, r1, r2, r3]) rfl ⟨i', _, rfl, hi', by omega, by omega, by omega, ((((HB2.out.setCell (p := ⟨w.heap.size, 0, none⟩) (Nat.le_refl _) _).setCell (p := ⟨w.heap.size, 1, none⟩) (Nat.le_refl _) _).setCell (p := ⟨w.heap.size, 2, none⟩) (Nat.le_refl _) _).setCell (p := ⟨w.heap.size, 3, none⟩) (Nat.le_refl _) _)⟩
  · go_upto_region 34 with (fail)
    have OD2 := OD
    have HB2 := HB
    have HBJ2 := HBJ
    clear j0 j1 j2 j3 e0 e1 e2 e3 OD HBJ HB HJ
    have k0 := OD2.out.j0
    have k1 := OD2.out.j1
    have k2 := OD2.out.j2
    have k3 := OD2.out.j3
    have r0 := (HBJ2.out.2 0 (by simp)).1
    have r1 := (HBJ2.out.2 1 (by simp)).1
    have r2 := (HBJ2.out.2 2 (by simp)).1
    have r3 := (HBJ2.out.2 3 (by simp)).1
    have g0 := (HBJ2.out.2 0 (by simp)).2
    have g1 := (HBJ2.out.2 1 (by simp)).2
    have g2 := (HBJ2.out.2 2 (by simp)).2
    have g3 := (HBJ2.out.2 3 (by simp)).2
    have zR2 := HBJ2.out.1
    simp only [List.getElem_cons_zero, List.getElem_cons_succ] at r0 r1 r2 r3
    have OF := Lib.hid ((((OD2.out.low (R := w.heap.size) (by omega) (by omega) 0 (.slice (some ⟨Gc, 0, none⟩) i.cars.length cc)).low (R := w.heap.size) (by omega) (by omega) 1 (.slice (some ⟨Gs, 0, none⟩) i.stops.length cs)).low (R := w.heap.size) (by omega) (by omega) 2 (.slice Ap i.pairs.length cp)).low (R := w.heap.size) (by omega) (by omega) 3 (.slice (some ⟨Gt, 0, none⟩) i.travel.length ct)).lies
    go_wp2
    obtain ⟨i', hi', l1, l2, l3, l4⟩ := OF.out
    refine bodyPost_ret (v := .agg #[.slice (some ⟨Gc, 0, none⟩) i.cars.length cc, .slice (some ⟨Gs, 0, none⟩) i.stops.length cs, .slice Ap i.pairs.length cp, .slice (some ⟨Gt, 0, none⟩) i.travel.length ct]) (by simp [results, Tryd.results15, go_sem, r0, r1, r2, r3]) rfl ⟨i', _, rfl, hi', by omega, by omega, by omega, ((((HB2.out.setCell (p := ⟨w.heap.size, 0, none⟩) (Nat.le_refl _) _).setCell (p := ⟨w.heap.size, 1, none⟩) (Nat.le_refl _) _).setCell (p := ⟨w.heap.size, 2, none⟩) (Nat.le_refl _) _).setCell (p := ⟨w.heap.size, 3, none⟩) (Nat.le_refl _) _)⟩
end Go.Proofs.YteibelmgebhleaaDoor
