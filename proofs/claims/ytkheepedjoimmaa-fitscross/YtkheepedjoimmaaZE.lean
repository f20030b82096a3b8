/- The walk of FitsCross: for any rows of numbers, any car, any places the law returns true; old memory stands. -/
import Derived.Test.YtkheepedjoimmaaZD
namespace Go.Proofs.Ytkheepedjoimmaa
open Go.RowKit
set_option linter.unusedSimpArgs false

section
variable {P : Program} (w : World)
theorem step_append_g {ops : Array Oper} {o : Oper} {a : Act} {K : Act → World → Prop} {Q : Exit → Act → World → Prop} {E : Prop} (hw : Region.wanted o (yielded ops a.tmps) = true) (s x : Operand) (t : TypeId)
    (ho : o.op = .call { callee := .builtin .append, args := #[s, x], argTypes := #[t, t] })
    (base : Nat) (e : TypeId) (i : TypeInfo) (z : Value) (size bytes : Nat) (ht : P.underlying t = some (.slice e)) (hi : P.info? e = some i) (hz : i.zero = some z)
    (hsize : i.size = size) (hby : i.bytes = bytes) (hzs : z.cells.size = size) (hsz : 0 < size)
    (v : Value) (n : Nat) (xs : List Value) (hs : a.eval s = v) (hown : w.ownsRow base e size v n xs)
    (B : Nat) (A : Option Addr) (m c : Nat) (news : List Value) (hx : a.eval x = .slice A m c) (hr : Reads w B size A m news) (h1 : ∀ u ∈ news, u.oneCell' = true)
    (h63 : n + m ≤ maxLen) (hbytes : (n + m) * bytes ≤ 140737488355328) (hbase : base ≤ w.heap.size)
    (h : ∀ v' w', w'.ownsRow base e size v' (n + m) (xs ++ news) → w.grownBy w' v.ownBlock → (v'.ownBlock = v.ownBlock ∨ v'.ownBlock = some w.heap.size) → K (a.put o.dst v') w') :
    if Region.wanted o (yielded ops a.tmps) = true then Oper.wp P o a w K Q else E := by
  rw [if_pos hw]
  exact wp_append_any w s x t ho base e i z size bytes ht hi hz hsize hby hzs hsz v n xs hs hown B A m c news hx hr h1 h63 hbytes hbase h
end
/-- the variable i, the rows r and s, their tables -/
structure F2 (w W : World) (I : Nat) (A1 A2 A3 A4 : Option Addr) (c1 c2 c3 c4 : Nat) (i : Prob) (A : Option Addr) (cap : Nat) (r : List Int) (E : Option Addr) (ecap : Nat) (s : List Int) (c : Int) (a b : Nat) : Prop where
  two : Two w W I A1 A2 A3 A4 c1 c2 c3 c4 i A cap r
  row2 : Recs W 1 num_ (.slice E s.length ecap) s
  ta : TblV W a i c r
  tb : TblV W b i c s
theorem F2.on {w W W' : World} {I : Nat} {A1 A2 A3 A4 : Option Addr} {c1 c2 c3 c4 : Nat} {i : Prob} {A E : Option Addr} {cap ecap : Nat} {r s : List Int} {c : Int} {a b : Nat} (h : F2 w W I A1 A2 A3 A4 c1 c2 c3 c4 i A cap r E ecap s c a b) (hb : Below W.heap.size W W') : F2 w W' I A1 A2 A3 A4 c1 c2 c3 c4 i A cap r E ecap s c a b :=
  ⟨h.two.on hb, h.row2.below hb, h.ta.below hb, h.tb.below hb⟩
set_option maxRecDepth 100000 in
set_option maxHeartbeats 16000000 in
theorem cross6_walk (v u u2 : Value) (l row row2 : List Int) (car kk mm : Int) (w : World) (h : Recs w 1 num_ v l) (hl : l.length ≤ 9223372036854775807) (hr : Recs w 1 num_ u row) (hrl : row.length ≤ 9223372036854775807) (hr2 : Recs w 1 num_ u2 row2) (hrl2 : row2.length ≤ 9223372036854775807) :
    Calls Try.prog 5 #[v, u, u2, .int .i64 car, .int .i64 kk, .int .i64 mm] w fun e w' => e = .returned (.bool true) ∧ Below w.heap.size w w' := by
  have HU2 := Lib.hid hr2
  clear hr2
  have HP := Lib.hid (play_said v l w h hl)
  have HU := Lib.hid hr
  clear h hr
  go_enter Try.func5, Try.ntmps5
  go_wp2_with (go_at_call 10; fail)
  (with_reducible refine (HP.out).mono ?_)
  rintro e w1 ⟨i, A1, A2, A3, A4, c1, c2, c3, c4, rfl, hs1, hok, hs2, hs8, hp2, hb1⟩
  have HOK := Lib.hid hok
  have HF := Lib.hid (fine_of hok)
  have HM := Lib.hid (mated_of hok)
  have BX1 := Lib.hid (box_new hs1 28)
  have HB1 := Lib.hid (hb1.alloc hb1.size (.cells #[.slice A1 i.cars.length c1, .slice A2 i.stops.length c2, .slice A3 i.pairs.length c3, .slice A4 i.travel.length c4] 28))
  have hcar := (fine_of hok).cars
  clear hok hs1 hb1 HP
  go_upto_region 2 with (fail)
  generalize w1.alloc (.cells #[.slice A1 i.cars.length c1, .slice A2 i.stops.length c2, .slice A3 i.pairs.length c3, .slice A4 i.travel.length c4] 28) = wa at *
  generalize w1.heap.size = I at *
  have k0 := BX1.out.b0
  have k1 := BX1.out.b1
  have k2 := BX1.out.b2
  have k3 := BX1.out.b3
  have hIz := BX1.out.lt
  obtain ⟨cn, hcn, hcnl⟩ := within_nat car i.cars.length (by omega)
  have K0 := Lib.hid (fun W => within_q car i.cars.length W (by omega) (by omega) _ hcn)
  clear hcn
  go_wp2_with (go_at_call 11; fail)
  (with_reducible refine (K0.out _).mono ?_)
  rintro e w2 ⟨rfl, hww⟩
  replace hww := hww.symm
  subst hww
  clear K0
  clear k0 k1 k2 k3 hIz
  have SS : Hid (∀ W, Below wa.heap.size wa W → W.cell? ⟨I, 0, none⟩ = some (.slice A1 i.cars.length c1) ∧ W.cell? ⟨I, 1, none⟩ = some (.slice A2 i.stops.length c2) ∧ W.cell? ⟨I, 2, none⟩ = some (.slice A3 i.pairs.length c3) ∧ W.cell? ⟨I, 3, none⟩ = some (.slice A4 i.travel.length c4)) := fun W hB => ⟨(BX1.out.below hB).b0, (BX1.out.below hB).b1, (BX1.out.below hB).b2, (BX1.out.below hB).b3⟩
  have K1 : Hid (∀ W, Below wa.heap.size wa W → Calls Try.prog 12 #[.agg #[.slice A1 i.cars.length c1, .slice A2 i.stops.length c2, .slice A3 i.pairs.length c3, .slice A4 i.travel.length c4], u] W (RowEnd W)) := fun W hB => row_any _ _ i row W (BX1.out.lies.below hB) HOK.out (by omega) hs2 ((HU.out.below HB1.out).below hB) hrl
  have K2 : Hid (∀ W, Below wa.heap.size wa W → Calls Try.prog 12 #[.agg #[.slice A1 i.cars.length c1, .slice A2 i.stops.length c2, .slice A3 i.pairs.length c3, .slice A4 i.travel.length c4], u2] W (RowEnd W)) := fun W hB => row_any _ _ i row2 W (BX1.out.lies.below hB) HOK.out (by omega) hs2 ((HU2.out.below HB1.out).below hB) hrl2
  go_upto_region 3 with (fail)
  refine wp_region_z (S := (fun W => W.cell? ⟨I, 0, none⟩ = some (.slice A1 i.cars.length c1) ∧ W.cell? ⟨I, 1, none⟩ = some (.slice A2 i.stops.length c2) ∧ W.cell? ⟨I, 2, none⟩ = some (.slice A3 i.pairs.length c3) ∧ W.cell? ⟨I, 3, none⟩ = some (.slice A4 i.travel.length c4))) (z := 8) (by kernel_rfl) (SS.out _ (Below.refl wa.heap.size wa).drew) (fun hH => ?_)
  refine wpAnyZ_takeS (i := 0) (v := ?_) rfl (by kernel_rfl) (by kernel_rfl) (by kernel_rfl) (by kernel_rfl) (fun _ _ _ h => h) (gives_value (by rfl) ?_) (by assumption) ?_
  rotate_left
  · intro w hSw
    (try dsimp only at hSw)
    go_simp
    (try with_reducible rfl)
  (try simp only [Act.put, List.getElem_toArray, List.getElem_cons_succ, List.getElem_cons_zero, List.setIfInBounds_toArray, List.set_cons_zero, List.set_cons_succ])
  refine wpAnyZ_takeS (i := 1) (v := ?_) rfl (by kernel_rfl) (by kernel_rfl) (by kernel_rfl) (by kernel_rfl) (fun _ _ _ h => h) (gives_value (by rfl) ?_) (by assumption) ?_
  rotate_left
  · intro w hSw
    (try dsimp only at hSw)
    go_simp
    (try with_reducible rfl)
  (try simp only [Act.put, List.getElem_toArray, List.getElem_cons_succ, List.getElem_cons_zero, List.setIfInBounds_toArray, List.set_cons_zero, List.set_cons_succ])
  refine wpAnyZ_takeS (i := 3) (v := ?_) rfl (by kernel_rfl) (by kernel_rfl) (by kernel_rfl) (by kernel_rfl) (fun _ _ _ h => h) (gives_value (by rfl) ?_) (by assumption) ?_
  rotate_left
  · intro w hSw
    (try dsimp only at hSw)
    go_simp
    (try with_reducible rfl)
  (try simp only [Act.put, List.getElem_toArray, List.getElem_cons_succ, List.getElem_cons_zero, List.setIfInBounds_toArray, List.set_cons_zero, List.set_cons_succ])
  refine wpAnyZ_takeS (i := 4) (v := ?_) rfl (by kernel_rfl) (by kernel_rfl) (by kernel_rfl) (by kernel_rfl) (fun _ _ _ h => h) (gives_value (by rfl) ?_) (by assumption) ?_
  rotate_left
  · intro w hSw
    (try dsimp only at hSw)
    go_simp
    (try with_reducible rfl)
  (try simp only [Act.put, List.getElem_toArray, List.getElem_cons_succ, List.getElem_cons_zero, List.setIfInBounds_toArray, List.set_cons_zero, List.set_cons_succ])
  refine wpAnyZ_one (i := 2) (by kernel_rfl) ?_
  refine zstep rfl (fun K hK => ?_)
  go_simp
  (with_reducible refine (K1.out _ (Below.refl wa.heap.size wa).drew).mono ?_)
  rintro e w2 ⟨r, A, cap, rfl, hr14, hrc, hrx, hrr, hrf, hb⟩
  have HBw2 := Lib.hid (((Below.refl wa.heap.size wa).drew).trans hb)
  have RR2 := Lib.hid hrr
  have HRX := Lib.hid hrx
  clear hrr hrf hrx
  clear hb
  refine hK.out _ _ (fun _ => SS.out _ HBw2.out) (fun hH => ?_)
  replace hH := hH (by decide)
  clear hK K
  (try simp only [Act.put, List.getElem_toArray, List.getElem_cons_succ, List.getElem_cons_zero, List.setIfInBounds_toArray, List.set_cons_zero, List.set_cons_succ])
  refine wpAnyZ_one (i := 5) (by kernel_rfl) ?_
  refine zstep rfl (fun K hK => ?_)
  go_simp
  (with_reducible refine (K2.out _ HBw2.out).mono ?_)
  rintro e w3 ⟨s, E, ecap, rfl, hs14, hsc, hsx, hsr, hsf, hb⟩
  have HBw3 := Lib.hid (HBw2.out.trans (hb.mono HBw2.out.size))
  have RS3 := Lib.hid hsr
  have RR3 := Lib.hid (RR2.out.below hb)
  have HSX := Lib.hid hsx
  clear hsr hsf hsx RR2
  clear hb
  refine hK.out _ _ (fun _ => SS.out _ HBw3.out) (fun hH => ?_)
  replace hH := hH (by decide)
  clear hK K
  (try simp only [Act.put, List.getElem_toArray, List.getElem_cons_succ, List.getElem_cons_zero, List.setIfInBounds_toArray, List.set_cons_zero, List.set_cons_succ])
  refine wpAnyZ_takeS (i := 6) (v := ?_) rfl (by kernel_rfl) (by kernel_rfl) (by kernel_rfl) (by kernel_rfl) (fun _ _ _ h => h) (gives_value (by rfl) ?_) (by assumption) ?_
  rotate_left
  · intro w hSw
    (try dsimp only at hSw)
    go_simp
    (try with_reducible rfl)
  (try simp only [Act.put, List.getElem_toArray, List.getElem_cons_succ, List.getElem_cons_zero, List.setIfInBounds_toArray, List.set_cons_zero, List.set_cons_succ])
  refine wpAnyZ_takeS (i := 7) (v := ?_) rfl (by kernel_rfl) (by kernel_rfl) (by kernel_rfl) (by kernel_rfl) (fun _ _ _ h => h) (gives_value (by rfl) ?_) (by assumption) ?_
  rotate_left
  · intro w hSw
    (try dsimp only at hSw)
    go_simp
    (try with_reducible rfl)
  (try simp only [Act.put, List.getElem_toArray, List.getElem_cons_succ, List.getElem_cons_zero, List.setIfInBounds_toArray, List.set_cons_zero, List.set_cons_succ])
  refine wpAnyZ_done (by kernel_rfl) ?_ _
  clear hH
  have TW := Lib.hid (⟨HB1.out.trans (HBw3.out.mono HB1.out.size), BX1.out.below HBw3.out, RR3.out⟩ : Two w w3 I A1 A2 A3 A4 c1 c2 c3 c4 i A cap r)
  clear SS K1 K2 BX1 HB1 RR3 HBw2 HBw3
  have HRX2 : Hid (∀ x ∈ r, -1000000 ≤ x ∧ x ≤ 1000000) := fun x hx => by have := HRX.out x hx; omega
  have HSX2 : Hid (∀ x ∈ s, -1000000 ≤ x ∧ x ≤ 1000000) := fun x hx => by have := HSX.out x hx; omega
  clear HRX HSX
  have SS : Hid (∀ W, Below w3.heap.size w3 W → W.cell? ⟨I, 0, none⟩ = some (.slice A1 i.cars.length c1) ∧ W.cell? ⟨I, 1, none⟩ = some (.slice A2 i.stops.length c2) ∧ W.cell? ⟨I, 2, none⟩ = some (.slice A3 i.pairs.length c3) ∧ W.cell? ⟨I, 3, none⟩ = some (.slice A4 i.travel.length c4)) := fun W hB => ⟨(TW.out.box.below hB).b0, (TW.out.box.below hB).b1, (TW.out.box.below hB).b2, (TW.out.box.below hB).b3⟩
  have hc : inB (cn : Int) 0 (i.cars.length - 1) = true := inB_iff.2 ⟨by omega, by omega⟩
  have K1 : Hid (∀ W, Below w3.heap.size w3 W → Calls Try.prog 18 #[.agg #[.slice A1 i.cars.length c1, .slice A2 i.stops.length c2, .slice A3 i.pairs.length c3, .slice A4 i.travel.length c4], .int .i64 cn, .slice A r.length cap] W fun e w' => ∃ a, e = .returned (.pointer (some ⟨a, 0, none⟩)) ∧ Tbl W.heap.size a i cn r w' ∧ Below W.heap.size W w') := fun W hB => fnew_any _ i cn r A _ W (TW.out.box.lies.below hB) (TW.out.row.below hB) HOK.out (by omega) (by omega)
  have K2 : Hid (∀ W, Below w3.heap.size w3 W → Calls Try.prog 18 #[.agg #[.slice A1 i.cars.length c1, .slice A2 i.stops.length c2, .slice A3 i.pairs.length c3, .slice A4 i.travel.length c4], .int .i64 cn, .slice E s.length ecap] W fun e w' => ∃ a, e = .returned (.pointer (some ⟨a, 0, none⟩)) ∧ Tbl W.heap.size a i cn s w' ∧ Below W.heap.size W w') := fun W hB => fnew_any _ i cn s E _ W (TW.out.box.lies.below hB) (RS3.out.below hB) HOK.out (by omega) (by omega)
  have HC := Lib.hid hc
  clear hc
  go_upto_region 4 with (fail)
  refine wp_region_z (S := (fun W => W.cell? ⟨I, 0, none⟩ = some (.slice A1 i.cars.length c1) ∧ W.cell? ⟨I, 1, none⟩ = some (.slice A2 i.stops.length c2) ∧ W.cell? ⟨I, 2, none⟩ = some (.slice A3 i.pairs.length c3) ∧ W.cell? ⟨I, 3, none⟩ = some (.slice A4 i.travel.length c4))) (z := 10) (by kernel_rfl) (SS.out _ (Below.refl w3.heap.size w3).drew) (fun hH => ?_)
  refine wpAnyZ_takeS (i := 0) (v := ?_) rfl (by kernel_rfl) (by kernel_rfl) (by kernel_rfl) (by kernel_rfl) (fun _ _ _ h => h) (gives_value (by rfl) ?_) (by assumption) ?_
  rotate_left
  · intro w hSw
    (try dsimp only at hSw)
    go_simp
    (try with_reducible rfl)
  (try simp only [Act.put, List.getElem_toArray, List.getElem_cons_succ, List.getElem_cons_zero, List.setIfInBounds_toArray, List.set_cons_zero, List.set_cons_succ])
  refine wpAnyZ_takeS (i := 1) (v := ?_) rfl (by kernel_rfl) (by kernel_rfl) (by kernel_rfl) (by kernel_rfl) (fun _ _ _ h => h) (gives_value (by rfl) ?_) (by assumption) ?_
  rotate_left
  · intro w hSw
    (try dsimp only at hSw)
    go_simp
    (try with_reducible rfl)
  (try simp only [Act.put, List.getElem_toArray, List.getElem_cons_succ, List.getElem_cons_zero, List.setIfInBounds_toArray, List.set_cons_zero, List.set_cons_succ])
  refine wpAnyZ_takeS (i := 2) (v := ?_) rfl (by kernel_rfl) (by kernel_rfl) (by kernel_rfl) (by kernel_rfl) (fun _ _ _ h => h) (gives_value (by rfl) ?_) (by assumption) ?_
  rotate_left
  · intro w hSw
    (try dsimp only at hSw)
    go_simp
    (try with_reducible rfl)
  (try simp only [Act.put, List.getElem_toArray, List.getElem_cons_succ, List.getElem_cons_zero, List.setIfInBounds_toArray, List.set_cons_zero, List.set_cons_succ])
  refine wpAnyZ_takeS (i := 4) (v := ?_) rfl (by kernel_rfl) (by kernel_rfl) (by kernel_rfl) (by kernel_rfl) (fun _ _ _ h => h) (gives_value (by rfl) ?_) (by assumption) ?_
  rotate_left
  · intro w hSw
    (try dsimp only at hSw)
    go_simp
    (try with_reducible rfl)
  (try simp only [Act.put, List.getElem_toArray, List.getElem_cons_succ, List.getElem_cons_zero, List.setIfInBounds_toArray, List.set_cons_zero, List.set_cons_succ])
  refine wpAnyZ_takeS (i := 5) (v := ?_) rfl (by kernel_rfl) (by kernel_rfl) (by kernel_rfl) (by kernel_rfl) (fun _ _ _ h => h) (gives_value (by rfl) ?_) (by assumption) ?_
  rotate_left
  · intro w hSw
    (try dsimp only at hSw)
    go_simp
    (try with_reducible rfl)
  (try simp only [Act.put, List.getElem_toArray, List.getElem_cons_succ, List.getElem_cons_zero, List.setIfInBounds_toArray, List.set_cons_zero, List.set_cons_succ])
  refine wpAnyZ_takeS (i := 6) (v := ?_) rfl (by kernel_rfl) (by kernel_rfl) (by kernel_rfl) (by kernel_rfl) (fun _ _ _ h => h) (gives_value (by rfl) ?_) (by assumption) ?_
  rotate_left
  · intro w hSw
    (try dsimp only at hSw)
    go_simp
    (try with_reducible rfl)
  (try simp only [Act.put, List.getElem_toArray, List.getElem_cons_succ, List.getElem_cons_zero, List.setIfInBounds_toArray, List.set_cons_zero, List.set_cons_succ])
  refine wpAnyZ_one (i := 3) (by kernel_rfl) ?_
  refine zstep rfl (fun K hK => ?_)
  go_simp
  (with_reducible refine (K1.out _ (Below.refl w3.heap.size w3).drew).mono ?_)
  rintro e w5 ⟨a, rfl, ha, hb⟩
  have HBw5 := Lib.hid (((Below.refl w3.heap.size w3).drew).trans hb)
  have TA5 := Lib.hid ha.view
  clear ha
  clear hb
  refine hK.out _ _ (fun _ => SS.out _ HBw5.out) (fun hH => ?_)
  replace hH := hH (by decide)
  clear hK K
  (try simp only [Act.put, List.getElem_toArray, List.getElem_cons_succ, List.getElem_cons_zero, List.setIfInBounds_toArray, List.set_cons_zero, List.set_cons_succ])
  refine wpAnyZ_one (i := 7) (by kernel_rfl) ?_
  refine zstep rfl (fun K hK => ?_)
  go_simp
  (with_reducible refine (K2.out _ HBw5.out).mono ?_)
  rintro e w6 ⟨b, rfl, hbt, hb⟩
  have HBw6 := Lib.hid (HBw5.out.trans (hb.mono HBw5.out.size))
  have TB6 := Lib.hid hbt.view
  have TA6 := Lib.hid (TA5.out.below hb)
  clear hbt TA5
  clear hb
  refine hK.out _ _ (fun _ => SS.out _ HBw6.out) (fun hH => ?_)
  replace hH := hH (by decide)
  clear hK K
  (try simp only [Act.put, List.getElem_toArray, List.getElem_cons_succ, List.getElem_cons_zero, List.setIfInBounds_toArray, List.set_cons_zero, List.set_cons_succ])
  refine wpAnyZ_takeS (i := 8) (v := ?_) rfl (by kernel_rfl) (by kernel_rfl) (by kernel_rfl) (by kernel_rfl) (fun _ _ _ h => h) (gives_value (by rfl) ?_) (by assumption) ?_
  rotate_left
  · intro w hSw
    (try dsimp only at hSw)
    go_simp
    (try with_reducible rfl)
  (try simp only [Act.put, List.getElem_toArray, List.getElem_cons_succ, List.getElem_cons_zero, List.setIfInBounds_toArray, List.set_cons_zero, List.set_cons_succ])
  refine wpAnyZ_takeS (i := 9) (v := ?_) rfl (by kernel_rfl) (by kernel_rfl) (by kernel_rfl) (by kernel_rfl) (fun _ _ _ h => h) (gives_value (by rfl) ?_) (by assumption) ?_
  rotate_left
  · intro w hSw
    (try dsimp only at hSw)
    go_simp
    (try with_reducible rfl)
  (try simp only [Act.put, List.getElem_toArray, List.getElem_cons_succ, List.getElem_cons_zero, List.setIfInBounds_toArray, List.set_cons_zero, List.set_cons_succ])
  refine wpAnyZ_done (by kernel_rfl) ?_ _
  clear hH
  have F0 := Lib.hid (⟨TW.out.on HBw6.out, RS3.out.below HBw6.out, TA6.out, TB6.out⟩ : F2 w w6 I A1 A2 A3 A4 c1 c2 c3 c4 i A cap r E ecap s cn a b)
  clear SS K1 K2 TW RS3 TA6 TB6 HBw5 HBw6 HU HU2
  obtain ⟨k, hk, hkl⟩ := within_nat kk (r.length + 1) (by omega)
  rw [Int.natCast_add, Int.natCast_one] at hk
  have KK0 := Lib.hid (fun W => within_q kk ((r.length : Int) + 1) W (by omega) (by omega) _ hk)
  obtain ⟨m, hm, hml⟩ := within_nat mm (s.length + 1) (by omega)
  rw [Int.natCast_add, Int.natCast_one] at hm
  have KK1 := Lib.hid (fun W => within_q mm ((s.length : Int) + 1) W (by omega) (by omega) _ hm)
  clear hk hm
  have hkr : k ≤ r.length := by omega
  have hms : m ≤ s.length := by omega
  have nw1 : IntKind.i64.wrap ((r.length : Int) + 1) = (r.length : Int) + 1 := IntWalk.i64_in _ (by omega)
  have nw2 : IntKind.i64.wrap ((s.length : Int) + 1) = (s.length : Int) + 1 := IntWalk.i64_in _ (by omega)
  go_wp2_with (go_at_call 11; fail)
  (with_reducible refine (KK0.out _).mono ?_)
  rintro e w7 ⟨rfl, hww⟩
  replace hww := hww.symm
  subst hww
  go_wp2_with (go_at_call 11; fail)
  (with_reducible refine (KK1.out _).mono ?_)
  rintro e w7 ⟨rfl, hww⟩
  replace hww := hww.symm
  subst hww
  clear KK0 KK1 nw1 nw2
  obtain ⟨mc, mo, hmc⟩ := meetV_form ((evalL i cn (r.take k ++ s.drop m)).map (fun t : TripR => t.cost))
  have K1 : Hid (Calls Try.prog 19 #[.pointer (some ⟨a, 0, none⟩), .int .i64 (k : Int), .pointer (some ⟨b, 0, none⟩), .int .i64 (m : Int)] w6 fun e w' => e = .returned (.tuple #[.int .i64 mc, .bool mo]) ∧ Below w6.heap.size w6 w') := by
    have := (cross_val (r := r) (q := s) HM.out (carAt_bounds HF.out cn).1 HC.out hkr hms) ▸ Fcross k m F0.out.ta F0.out.tb HOK.out (by omega) (by omega) (by omega)
    rw [hmc] at this
    exact this
  have Hmc := Lib.hid hmc
  clear hmc
  go_wp2_with (go_at_call 19; fail)
  (with_reducible refine (K1.out).mono ?_)
  rintro e w8 ⟨rfl, hb⟩
  have F1 := Lib.hid (F0.out.on hb)
  clear hb K1
  obtain ⟨md, mp, hmd⟩ := meetV_form ((evalL i cn (s.take m ++ r.drop k)).map (fun t : TripR => t.cost))
  have K1 : Hid (Calls Try.prog 19 #[.pointer (some ⟨b, 0, none⟩), .int .i64 (m : Int), .pointer (some ⟨a, 0, none⟩), .int .i64 (k : Int)] w8 fun e w' => e = .returned (.tuple #[.int .i64 md, .bool mp]) ∧ Below w8.heap.size w8 w') := by
    have := (cross_val (r := s) (q := r) HM.out (carAt_bounds HF.out cn).1 HC.out hms hkr) ▸ Fcross m k F1.out.tb F1.out.ta HOK.out (by omega) (by omega) (by omega)
    rw [hmd] at this
    exact this
  have Hmd := Lib.hid hmd
  clear hmd
  go_wp2_with (go_at_call 19; fail)
  (with_reducible refine (K1.out).mono ?_)
  rintro e w9 ⟨rfl, hb⟩
  have F2 := Lib.hid (F1.out.on hb)
  clear hb K1
  obtain ⟨X1, cX1, hsl1, hre1⟩ := slice_h A cap r hkr hrc
  obtain ⟨Y1, cY1, hsl2, hre2⟩ := slice_l E ecap s hms hsc
  obtain ⟨X2, cX2, hsl3, hre3⟩ := slice_h E ecap s hms hsc
  obtain ⟨Y2, cY2, hsl4, hre4⟩ := slice_l A cap r hkr hrc
  have SL1 := Lib.hid hsl1
  have SL2 := Lib.hid hsl2
  have SL3 := Lib.hid hsl3
  have SL4 := Lib.hid hsl4
  have hl1 : (r.take k).length ≤ 14 := by rw [List.length_take]; omega
  have hl2 : (s.drop m).length ≤ 14 := by rw [List.length_drop]; omega
  have hl3 : (s.take m).length ≤ 14 := by rw [List.length_take]; omega
  have hl4 : (r.drop k).length ≤ 14 := by rw [List.length_drop]; omega
  have SS : Hid (∀ W, Below w9.heap.size w9 W → W.cell? ⟨I, 0, none⟩ = some (.slice A1 i.cars.length c1) ∧ W.cell? ⟨I, 1, none⟩ = some (.slice A2 i.stops.length c2) ∧ W.cell? ⟨I, 2, none⟩ = some (.slice A3 i.pairs.length c3) ∧ W.cell? ⟨I, 3, none⟩ = some (.slice A4 i.travel.length c4)) := fun W hB => ⟨(F2.out.two.box.below hB).b0, (F2.out.two.box.below hB).b1, (F2.out.two.box.below hB).b2, (F2.out.two.box.below hB).b3⟩
  have RP : Hid (∀ W, Below w9.heap.size w9 W → (Recs W 1 num_ (.slice X1 (r.take k).length cX1) (r.take k) ∧ Recs W 1 num_ (.slice Y1 (s.drop m).length cY1) (s.drop m)) ∧ (Recs W 1 num_ (.slice X2 (s.take m).length cX2) (s.take m) ∧ Recs W 1 num_ (.slice Y2 (r.drop k).length cY2) (r.drop k))) := fun W hB => ⟨⟨hre1 W (F2.out.two.row.below hB), hre2 W (F2.out.row2.below hB)⟩, ⟨hre3 W (F2.out.row2.below hB), hre4 W (F2.out.two.row.below hB)⟩⟩
  have HX1 : Hid (∀ x ∈ r.take k ++ s.drop m, -1000000 ≤ x ∧ x ≤ 1000000) := fun x hx => by
    rcases List.mem_append.1 hx with hx | hx
    · exact HRX2.out x (List.mem_of_mem_take hx)
    · exact HSX2.out x (List.mem_of_mem_drop hx)
  have HX2 : Hid (∀ x ∈ s.take m ++ r.drop k, -1000000 ≤ x ∧ x ≤ 1000000) := fun x hx => by
    rcases List.mem_append.1 hx with hx | hx
    · exact HSX2.out x (List.mem_of_mem_take hx)
    · exact HRX2.out x (List.mem_of_mem_drop hx)
  have KR1 : Hid (∀ (W : World) (u : Value), Below w9.heap.size w9 W → Recs W 1 num_ u (r.take k ++ s.drop m) → Calls Try.prog 20 #[.agg #[.slice A1 i.cars.length c1, .slice A2 i.stops.length c2, .slice A3 i.pairs.length c3, .slice A4 i.travel.length c4], .int .i64 cn, u, .int .i64 mc, .bool mo] W fun e w' => e = .returned (.bool true) ∧ Below W.heap.size W w') := fun W u hB hu => right_any _ _ _ _ _ _ _ _ u i cn _ mc mo W (F2.out.two.box.lies.below hB) HOK.out (by omega) hu (by rw [List.length_append]; omega) HX1.out Hmc.out
  have KR2 : Hid (∀ (W : World) (u : Value), Below w9.heap.size w9 W → Recs W 1 num_ u (s.take m ++ r.drop k) → Calls Try.prog 20 #[.agg #[.slice A1 i.cars.length c1, .slice A2 i.stops.length c2, .slice A3 i.pairs.length c3, .slice A4 i.travel.length c4], .int .i64 cn, u, .int .i64 md, .bool mp] W fun e w' => e = .returned (.bool true) ∧ Below W.heap.size W w') := fun W u hB hu => right_any _ _ _ _ _ _ _ _ u i cn _ md mp W (F2.out.two.box.lies.below hB) HOK.out (by omega) hu (by rw [List.length_append]; omega) HX2.out Hmd.out
  clear hsl1 hsl2 hsl3 hsl4 hre1 hre2 hre3 hre4
  obtain ⟨i0, hi0, hz0, hz1, hz2⟩ := info_parts int_info
  generalize hU1 : r.take k = U1 at *
  generalize hV1 : s.drop m = V1 at *
  generalize hU2 : s.take m = U2 at *
  generalize hV2 : r.drop k = V2 at *
  go_upto_region 10 with (fail)
  refine wp_region_z (S := (fun W => W.cell? ⟨I, 0, none⟩ = some (.slice A1 i.cars.length c1) ∧ W.cell? ⟨I, 1, none⟩ = some (.slice A2 i.stops.length c2) ∧ W.cell? ⟨I, 2, none⟩ = some (.slice A3 i.pairs.length c3) ∧ W.cell? ⟨I, 3, none⟩ = some (.slice A4 i.travel.length c4))) (z := 30) (by kernel_rfl) (SS.out _ (Below.refl w9.heap.size w9).drew) (fun hH => ?_)
  refine wpAnyZ_takeS (i := 0) (v := ?_) rfl (by kernel_rfl) (by kernel_rfl) (by kernel_rfl) (by kernel_rfl) (fun _ _ _ h => h) (gives_value (by rfl) ?_) (by assumption) ?_
  rotate_left
  · intro w hSw
    (try dsimp only at hSw)
    go_simp
    (try with_reducible rfl)
  (try simp only [Act.put, List.getElem_toArray, List.getElem_cons_succ, List.getElem_cons_zero, List.setIfInBounds_toArray, List.set_cons_zero, List.set_cons_succ])
  refine wpAnyZ_takeS (i := 1) (v := ?_) rfl (by kernel_rfl) (by kernel_rfl) (by kernel_rfl) (by kernel_rfl) (fun _ _ _ h => h) (gives_value (by rfl) ?_) (by assumption) ?_
  rotate_left
  · intro w hSw
    (try dsimp only at hSw)
    go_simp
    (try with_reducible rfl)
  (try simp only [Act.put, List.getElem_toArray, List.getElem_cons_succ, List.getElem_cons_zero, List.setIfInBounds_toArray, List.set_cons_zero, List.set_cons_succ])
  refine wpAnyZ_takeS (i := 2) (v := ?_) rfl (by kernel_rfl) (by kernel_rfl) (by kernel_rfl) (by kernel_rfl) (fun _ _ _ h => h) (gives_value (by rfl) ?_) (by assumption) ?_
  rotate_left
  · intro w hSw
    (try dsimp only at hSw)
    go_simp
    (try with_reducible rfl)
  (try simp only [Act.put, List.getElem_toArray, List.getElem_cons_succ, List.getElem_cons_zero, List.setIfInBounds_toArray, List.set_cons_zero, List.set_cons_succ])
  refine wpAnyZ_takeS (i := 3) (v := ?_) rfl (by kernel_rfl) (by kernel_rfl) (by kernel_rfl) (by kernel_rfl) (fun _ _ _ h => h) (gives_value (by rfl) ?_) (by assumption) ?_
  rotate_left
  · intro w hSw
    (try dsimp only at hSw)
    go_simp
    (try with_reducible rfl)
  (try simp only [Act.put, List.getElem_toArray, List.getElem_cons_succ, List.getElem_cons_zero, List.setIfInBounds_toArray, List.set_cons_zero, List.set_cons_succ])
  refine wpAnyZ_takeS (i := 4) (v := .slice X1 U1.length cX1) rfl (by kernel_rfl) (by kernel_rfl) (by kernel_rfl) (by kernel_rfl) (fun _ _ _ h => h) (gives_value (by rfl) ?_) (by assumption) ?_
  · intro w hSw
    have q := SL1.out w
    clear hSw
    go_simp
  (try simp only [Act.put, List.getElem_toArray, List.getElem_cons_succ, List.getElem_cons_zero, List.setIfInBounds_toArray, List.set_cons_zero, List.set_cons_succ])
  refine wpAnyZ_takeS (i := 6) (v := ?_) rfl (by kernel_rfl) (by kernel_rfl) (by kernel_rfl) (by kernel_rfl) (fun _ _ _ h => h) (gives_value (by rfl) ?_) (by assumption) ?_
  rotate_left
  · intro w hSw
    (try dsimp only at hSw)
    go_simp
    (try with_reducible rfl)
  (try simp only [Act.put, List.getElem_toArray, List.getElem_cons_succ, List.getElem_cons_zero, List.setIfInBounds_toArray, List.set_cons_zero, List.set_cons_succ])
  refine wpAnyZ_takeS (i := 7) (v := ?_) rfl (by kernel_rfl) (by kernel_rfl) (by kernel_rfl) (by kernel_rfl) (fun _ _ _ h => h) (gives_value (by rfl) ?_) (by assumption) ?_
  rotate_left
  · intro w hSw
    (try dsimp only at hSw)
    go_simp
    (try with_reducible rfl)
  (try simp only [Act.put, List.getElem_toArray, List.getElem_cons_succ, List.getElem_cons_zero, List.setIfInBounds_toArray, List.set_cons_zero, List.set_cons_succ])
  refine wpAnyZ_takeS (i := 8) (v := .slice Y1 V1.length cY1) rfl (by kernel_rfl) (by kernel_rfl) (by kernel_rfl) (by kernel_rfl) (fun _ _ _ h => h) (gives_value (by rfl) ?_) (by assumption) ?_
  · intro w hSw
    have q := SL2.out w
    clear hSw
    go_simp
  (try simp only [Act.put, List.getElem_toArray, List.getElem_cons_succ, List.getElem_cons_zero, List.setIfInBounds_toArray, List.set_cons_zero, List.set_cons_succ])
  refine wpAnyZ_takeS (i := 10) (v := ?_) rfl (by kernel_rfl) (by kernel_rfl) (by kernel_rfl) (by kernel_rfl) (fun _ _ _ h => h) (gives_value (by rfl) ?_) (by assumption) ?_
  rotate_left
  · intro w hSw
    (try dsimp only at hSw)
    go_simp
    (try with_reducible rfl)
  (try simp only [Act.put, List.getElem_toArray, List.getElem_cons_succ, List.getElem_cons_zero, List.setIfInBounds_toArray, List.set_cons_zero, List.set_cons_succ])
  refine wpAnyZ_takeS (i := 11) (v := ?_) rfl (by kernel_rfl) (by kernel_rfl) (by kernel_rfl) (by kernel_rfl) (fun _ _ _ h => h) (gives_value (by rfl) ?_) (by assumption) ?_
  rotate_left
  · intro w hSw
    (try dsimp only at hSw)
    go_simp
    (try with_reducible rfl)
  (try simp only [Act.put, List.getElem_toArray, List.getElem_cons_succ, List.getElem_cons_zero, List.setIfInBounds_toArray, List.set_cons_zero, List.set_cons_succ])
  refine wpAnyZ_one (i := 5) (by kernel_rfl) ?_
  refine zstep rfl (fun K hK => ?_)
  refine step_append_any _ rfl (.const (.slice none 0 0)) (.tmp 87) 22 rfl w9.heap.size 3 i0 _ 1 8 Try.underlying22 hi0 hz0 hz1 hz2 rfl (by decide) (.slice none 0 0) 0 [] (by rfl) ⟨rfl, .inl ⟨rfl, rfl⟩⟩ _ X1 U1.length cX1 (ints U1) (by rfl) (RP.out _ ((Below.refl w9.heap.size w9).drew)).1.1.reads (ints_one U1) (by unfold maxLen; omega) (by omega) ((Below.refl w9.heap.size w9).drew).size ?_
  intro v1 p1 hown' hgrow hob
  rw [Nat.zero_add, List.nil_append] at hown'
  have HBp1 := Lib.hid ((((Below.refl w9.heap.size w9).drew)).grown hgrow ((Below.refl w9.heap.size w9).drew).size (fun g hg => by cases hg))
  have OW1 := Lib.hid hown'
  clear hown' hgrow hob
  refine hK.out _ _ (fun _ => SS.out _ HBp1.out) (fun hH => ?_)
  replace hH := hH (by decide)
  clear hK K
  (try simp only [Act.put, List.getElem_toArray, List.getElem_cons_succ, List.getElem_cons_zero, List.setIfInBounds_toArray, List.set_cons_zero, List.set_cons_succ])
  refine wpAnyZ_one (i := 9) (by kernel_rfl) ?_
  refine zstep rfl (fun K hK => ?_)
  refine step_append_any _ rfl (.tmp 88) (.tmp 91) 22 rfl w9.heap.size 3 i0 _ 1 8 Try.underlying22 hi0 hz0 hz1 hz2 rfl (by decide) v1 U1.length (ints U1) (by rfl) OW1.out _ Y1 V1.length cY1 (ints V1) (by rfl) (RP.out _ HBp1.out).1.2.reads (ints_one V1) (by unfold maxLen; omega) (by omega) HBp1.out.size ?_
  intro v1' q1 hown2 hgrow hob
  have HBq1 := Lib.hid (HBp1.out.grown hgrow HBp1.out.size (fun g hg => (own_typed OW1.out hg).2))
  have OX1 := Lib.hid (row_cat hown2)
  clear hown2 hgrow hob
  obtain ⟨AE1, ec1, rfl, hec, hrE, hfE⟩ := own_nums OX1.out
  rw [List.length_append] at hrE
  have RE1 := Lib.hid hrE
  clear hrE hfE hec
  refine hK.out _ _ (fun _ => SS.out _ HBq1.out) (fun hH => ?_)
  replace hH := hH (by decide)
  clear hK K
  (try simp only [Act.put, List.getElem_toArray, List.getElem_cons_succ, List.getElem_cons_zero, List.setIfInBounds_toArray, List.set_cons_zero, List.set_cons_succ])
  refine wpAnyZ_one (i := 12) (by kernel_rfl) ?_
  refine zstep rfl (fun K hK => ?_)
  go_simp
  (with_reducible refine (KR1.out _ _ HBq1.out RE1.out).mono ?_)
  rintro e x1 ⟨rfl, hb⟩
  have HBx1 := Lib.hid (HBq1.out.trans (hb.mono HBq1.out.size))
  clear hb
  refine hK.out _ _ (fun _ => SS.out _ HBx1.out) (fun hH => ?_)
  replace hH := hH (by decide)
  clear hK K
  (try simp only [Act.put, List.getElem_toArray, List.getElem_cons_succ, List.getElem_cons_zero, List.setIfInBounds_toArray, List.set_cons_zero, List.set_cons_succ])
  refine wpAnyZ_takeS (i := 13) (v := ?_) rfl (by kernel_rfl) (by kernel_rfl) (by kernel_rfl) (by kernel_rfl) (fun _ _ _ h => h) (gives_value (by rfl) ?_) (by assumption) ?_
  rotate_left
  · intro w hSw
    (try dsimp only at hSw)
    go_simp
    (try with_reducible rfl)
  (try simp only [Act.put, List.getElem_toArray, List.getElem_cons_succ, List.getElem_cons_zero, List.setIfInBounds_toArray, List.set_cons_zero, List.set_cons_succ])
  refine wpAnyZ_takeS (i := 14) (v := ?_) rfl (by kernel_rfl) (by kernel_rfl) (by kernel_rfl) (by kernel_rfl) (fun _ _ _ h => h) (gives_value (by rfl) ?_) (by assumption) ?_
  rotate_left
  · intro w hSw
    (try dsimp only at hSw)
    go_simp
    (try with_reducible rfl)
  (try simp only [Act.put, List.getElem_toArray, List.getElem_cons_succ, List.getElem_cons_zero, List.setIfInBounds_toArray, List.set_cons_zero, List.set_cons_succ])
  refine wpAnyZ_takeS (i := 15) (v := ?_) rfl (by kernel_rfl) (by kernel_rfl) (by kernel_rfl) (by kernel_rfl) (fun _ _ _ h => h) (gives_value (by rfl) ?_) (by assumption) ?_
  rotate_left
  · intro w hSw
    (try dsimp only at hSw)
    go_simp
    (try with_reducible rfl)
  (try simp only [Act.put, List.getElem_toArray, List.getElem_cons_succ, List.getElem_cons_zero, List.setIfInBounds_toArray, List.set_cons_zero, List.set_cons_succ])
  refine wpAnyZ_takeS (i := 16) (v := ?_) rfl (by kernel_rfl) (by kernel_rfl) (by kernel_rfl) (by kernel_rfl) (fun _ _ _ h => h) (gives_value (by rfl) ?_) (by assumption) ?_
  rotate_left
  · intro w hSw
    (try dsimp only at hSw)
    go_simp
    (try with_reducible rfl)
  (try simp only [Act.put, List.getElem_toArray, List.getElem_cons_succ, List.getElem_cons_zero, List.setIfInBounds_toArray, List.set_cons_zero, List.set_cons_succ])
  refine wpAnyZ_takeS (i := 17) (v := ?_) rfl (by kernel_rfl) (by kernel_rfl) (by kernel_rfl) (by kernel_rfl) (fun _ _ _ h => h) (gives_value (by rfl) ?_) (by assumption) ?_
  rotate_left
  · intro w hSw
    (try dsimp only at hSw)
    go_simp
    (try with_reducible rfl)
  (try simp only [Act.put, List.getElem_toArray, List.getElem_cons_succ, List.getElem_cons_zero, List.setIfInBounds_toArray, List.set_cons_zero, List.set_cons_succ])
  refine wpAnyZ_takeS (i := 18) (v := ?_) rfl (by kernel_rfl) (by kernel_rfl) (by kernel_rfl) (by kernel_rfl) (fun _ _ _ h => h) (gives_value (by rfl) ?_) (by assumption) ?_
  rotate_left
  · intro w hSw
    (try dsimp only at hSw)
    go_simp
    (try with_reducible rfl)
  (try simp only [Act.put, List.getElem_toArray, List.getElem_cons_succ, List.getElem_cons_zero, List.setIfInBounds_toArray, List.set_cons_zero, List.set_cons_succ])
  refine wpAnyZ_takeS (i := 19) (v := .slice X2 U2.length cX2) rfl (by kernel_rfl) (by kernel_rfl) (by kernel_rfl) (by kernel_rfl) (fun _ _ _ h => h) (gives_value (by rfl) ?_) (by assumption) ?_
  · intro w hSw
    have q := SL3.out w
    clear hSw
    go_simp
  (try simp only [Act.put, List.getElem_toArray, List.getElem_cons_succ, List.getElem_cons_zero, List.setIfInBounds_toArray, List.set_cons_zero, List.set_cons_succ])
  refine wpAnyZ_takeS (i := 21) (v := ?_) rfl (by kernel_rfl) (by kernel_rfl) (by kernel_rfl) (by kernel_rfl) (fun _ _ _ h => h) (gives_value (by rfl) ?_) (by assumption) ?_
  rotate_left
  · intro w hSw
    (try dsimp only at hSw)
    go_simp
    (try with_reducible rfl)
  (try simp only [Act.put, List.getElem_toArray, List.getElem_cons_succ, List.getElem_cons_zero, List.setIfInBounds_toArray, List.set_cons_zero, List.set_cons_succ])
  refine wpAnyZ_takeS (i := 22) (v := ?_) rfl (by kernel_rfl) (by kernel_rfl) (by kernel_rfl) (by kernel_rfl) (fun _ _ _ h => h) (gives_value (by rfl) ?_) (by assumption) ?_
  rotate_left
  · intro w hSw
    (try dsimp only at hSw)
    go_simp
    (try with_reducible rfl)
  (try simp only [Act.put, List.getElem_toArray, List.getElem_cons_succ, List.getElem_cons_zero, List.setIfInBounds_toArray, List.set_cons_zero, List.set_cons_succ])
  refine wpAnyZ_takeS (i := 23) (v := .slice Y2 V2.length cY2) rfl (by kernel_rfl) (by kernel_rfl) (by kernel_rfl) (by kernel_rfl) (fun _ _ _ h => h) (gives_value (by rfl) ?_) (by assumption) ?_
  · intro w hSw
    have q := SL4.out w
    clear hSw
    go_simp
  (try simp only [Act.put, List.getElem_toArray, List.getElem_cons_succ, List.getElem_cons_zero, List.setIfInBounds_toArray, List.set_cons_zero, List.set_cons_succ])
  refine wpAnyZ_takeS (i := 25) (v := ?_) rfl (by kernel_rfl) (by kernel_rfl) (by kernel_rfl) (by kernel_rfl) (fun _ _ _ h => h) (gives_value (by rfl) ?_) (by assumption) ?_
  rotate_left
  · intro w hSw
    (try dsimp only at hSw)
    go_simp
    (try with_reducible rfl)
  (try simp only [Act.put, List.getElem_toArray, List.getElem_cons_succ, List.getElem_cons_zero, List.setIfInBounds_toArray, List.set_cons_zero, List.set_cons_succ])
  refine wpAnyZ_takeS (i := 26) (v := ?_) rfl (by kernel_rfl) (by kernel_rfl) (by kernel_rfl) (by kernel_rfl) (fun _ _ _ h => h) (gives_value (by rfl) ?_) (by assumption) ?_
  rotate_left
  · intro w hSw
    (try dsimp only at hSw)
    go_simp
    (try with_reducible rfl)
  (try simp only [Act.put, List.getElem_toArray, List.getElem_cons_succ, List.getElem_cons_zero, List.setIfInBounds_toArray, List.set_cons_zero, List.set_cons_succ])
  refine wpAnyZ_one (i := 20) (by kernel_rfl) ?_
  refine zstep rfl (fun K hK => ?_)
  refine step_append_g _ (by rfl) (.const (.slice none 0 0)) (.tmp 102) 22 rfl w9.heap.size 3 i0 _ 1 8 Try.underlying22 hi0 hz0 hz1 hz2 rfl (by decide) (.slice none 0 0) 0 [] (by rfl) ⟨rfl, .inl ⟨rfl, rfl⟩⟩ _ X2 U2.length cX2 (ints U2) (by rfl) (RP.out _ HBx1.out).2.1.reads (ints_one U2) (by unfold maxLen; omega) (by omega) HBx1.out.size ?_
  intro v2 p2 hown' hgrow hob
  rw [Nat.zero_add, List.nil_append] at hown'
  have HBp2 := Lib.hid ((HBx1.out).grown hgrow HBx1.out.size (fun g hg => by cases hg))
  have OW2 := Lib.hid hown'
  clear hown' hgrow hob
  refine hK.out _ _ (fun _ => SS.out _ HBp2.out) (fun hH => ?_)
  replace hH := hH (by decide)
  clear hK K
  (try simp only [Act.put, List.getElem_toArray, List.getElem_cons_succ, List.getElem_cons_zero, List.setIfInBounds_toArray, List.set_cons_zero, List.set_cons_succ])
  refine wpAnyZ_one (i := 24) (by kernel_rfl) ?_
  refine zstep rfl (fun K hK => ?_)
  refine step_append_g _ (by rfl) (.tmp 103) (.tmp 106) 22 rfl w9.heap.size 3 i0 _ 1 8 Try.underlying22 hi0 hz0 hz1 hz2 rfl (by decide) v2 U2.length (ints U2) (by rfl) OW2.out _ Y2 V2.length cY2 (ints V2) (by rfl) (RP.out _ HBp2.out).2.2.reads (ints_one V2) (by unfold maxLen; omega) (by omega) HBp2.out.size ?_
  intro v2' q2 hown2 hgrow hob
  have HBq2 := Lib.hid (HBp2.out.grown hgrow HBp2.out.size (fun g hg => (own_typed OW2.out hg).2))
  have OX2 := Lib.hid (row_cat hown2)
  clear hown2 hgrow hob
  obtain ⟨AE2, ec2, rfl, hec, hrE, hfE⟩ := own_nums OX2.out
  rw [List.length_append] at hrE
  have RE2 := Lib.hid hrE
  clear hrE hfE hec
  refine hK.out _ _ (fun _ => SS.out _ HBq2.out) (fun hH => ?_)
  replace hH := hH (by decide)
  clear hK K
  (try simp only [Act.put, List.getElem_toArray, List.getElem_cons_succ, List.getElem_cons_zero, List.setIfInBounds_toArray, List.set_cons_zero, List.set_cons_succ])
  refine wpAnyZ_one (i := 27) (by kernel_rfl) ?_
  refine zstep rfl (fun K hK => ?_)
  go_simp
  (with_reducible refine (KR2.out _ _ HBq2.out RE2.out).mono ?_)
  rintro e x2 ⟨rfl, hb⟩
  have HBx2 := Lib.hid (HBq2.out.trans (hb.mono HBq2.out.size))
  clear hb
  refine hK.out _ _ (fun _ => SS.out _ HBx2.out) (fun hH => ?_)
  replace hH := hH (by decide)
  clear hK K
  (try simp only [Act.put, List.getElem_toArray, List.getElem_cons_succ, List.getElem_cons_zero, List.setIfInBounds_toArray, List.set_cons_zero, List.set_cons_succ])
  refine wpAnyZ_takeS (i := 28) (v := ?_) rfl (by kernel_rfl) (by kernel_rfl) (by kernel_rfl) (by kernel_rfl) (fun _ _ _ h => h) (gives_value (by rfl) ?_) (by assumption) ?_
  rotate_left
  · intro w hSw
    (try dsimp only at hSw)
    go_simp
    (try with_reducible rfl)
  (try simp only [Act.put, List.getElem_toArray, List.getElem_cons_succ, List.getElem_cons_zero, List.setIfInBounds_toArray, List.set_cons_zero, List.set_cons_succ])
  refine wpAnyZ_takeS (i := 29) (v := ?_) rfl (by kernel_rfl) (by kernel_rfl) (by kernel_rfl) (by kernel_rfl) (fun _ _ _ h => h) (gives_value (by rfl) ?_) (by assumption) ?_
  rotate_left
  · intro w hSw
    (try dsimp only at hSw)
    go_simp
    (try with_reducible rfl)
  (try simp only [Act.put, List.getElem_toArray, List.getElem_cons_succ, List.getElem_cons_zero, List.setIfInBounds_toArray, List.set_cons_zero, List.set_cons_succ])
  refine wpAnyZ_done (by kernel_rfl) ?_ _
  clear hH
  have F3 := Lib.hid (F2.out.on HBx2.out)
  subst hU1 hV1 hU2 hV2
  clear SS RP KR1 KR2 SL1 SL2 SL3 SL4 F2 HX1 HX2 OW1 OX1 OW2 OX2 RE1 RE2 HBp1 HBq1 HBp2 HBq2 HBx1 HBx2 Hmc Hmd hl1 hl2 hl3 hl4
  obtain ⟨me, mf, hme⟩ := meetV_form ((evalL i cn r).map (fun t : TripR => t.cost))
  have Hme := Lib.hid hme
  obtain ⟨mg, mh, hmg⟩ := meetV_form ((evalL i cn s).map (fun t : TripR => t.cost))
  have Hmg := Lib.hid hmg
  clear hme hmg
  have K1 : Hid (Calls Try.prog 19 #[.pointer (some ⟨a, 0, none⟩), .int .i64 (k : Int), .pointer (some ⟨a, 0, none⟩), .int .i64 (k : Int)] x2 fun e w' => e = .returned (.tuple #[.int .i64 me, .bool mf]) ∧ Below x2.heap.size x2 w') := by
    have := (show meetC i cn (headAt i cn r k) (tailAt i cn r k) = (evalL i cn r).map (fun t : TripR => t.cost) by rw [cross_val HM.out (carAt_bounds HF.out cn).1 HC.out hkr hkr, List.take_append_drop]) ▸ Fcross k k F3.out.ta F3.out.ta HOK.out (by omega) (by omega) (by omega)
    rw [Hme.out] at this
    exact this
  go_wp2_with (go_at_call 19; fail)
  (with_reducible refine (K1.out).mono ?_)
  rintro e y1 ⟨rfl, hb⟩
  have F4 := Lib.hid (F3.out.on hb)
  clear hb K1
  have K1 : Hid (Calls Try.prog 21 #[.pointer (some ⟨a, 0, none⟩)] y1 fun e w' => e = .returned (.tuple #[.int .i64 me, .bool mf]) ∧ Below y1.heap.size y1 w') := by
    have := (show meetC i cn (headAt i cn r 0) (tailAt i cn r 0) = (evalL i cn r).map (fun t : TripR => t.cost) by have := cross_val (r := r) (q := r) (k := 0) (m := 0) HM.out (carAt_bounds HF.out cn).1 HC.out (Nat.zero_le _) (Nat.zero_le _); simpa using this) ▸ Fwhole F4.out.ta HOK.out (by omega) (by omega)
    rw [Hme.out] at this
    exact this
  go_wp2_with (go_at_call 21; fail)
  (with_reducible refine (K1.out).mono ?_)
  rintro e y2 ⟨rfl, hb⟩
  have F5 := Lib.hid (F4.out.on hb)
  clear hb K1
  have K1 : Hid (Calls Try.prog 19 #[.pointer (some ⟨a, 0, none⟩), .int .i64 0, .pointer (some ⟨b, 0, none⟩), .int .i64 0] y2 fun e w' => e = .returned (.tuple #[.int .i64 mg, .bool mh]) ∧ Below y2.heap.size y2 w') := by
    have := (show meetC i cn (headAt i cn r 0) (tailAt i cn s 0) = (evalL i cn s).map (fun t : TripR => t.cost) by have := cross_val (r := r) (q := s) (k := 0) (m := 0) HM.out (carAt_bounds HF.out cn).1 HC.out (Nat.zero_le _) (Nat.zero_le _); simpa using this) ▸ Fcross 0 0 F5.out.ta F5.out.tb HOK.out (by omega) (by omega) (by omega)
    rw [Hmg.out] at this
    exact this
  go_wp2_with (go_at_call 19; fail)
  (with_reducible refine (K1.out).mono ?_)
  rintro e y3 ⟨rfl, hb⟩
  have F6 := Lib.hid (F5.out.on hb)
  clear hb K1
  have K1 : Hid (Calls Try.prog 21 #[.pointer (some ⟨b, 0, none⟩)] y3 fun e w' => e = .returned (.tuple #[.int .i64 mg, .bool mh]) ∧ Below y3.heap.size y3 w') := by
    have := (show meetC i cn (headAt i cn s 0) (tailAt i cn s 0) = (evalL i cn s).map (fun t : TripR => t.cost) by have := cross_val (r := s) (q := s) (k := 0) (m := 0) HM.out (carAt_bounds HF.out cn).1 HC.out (Nat.zero_le _) (Nat.zero_le _); simpa using this) ▸ Fwhole F6.out.tb HOK.out (by omega) (by omega)
    rw [Hmg.out] at this
    exact this
  go_wp2_with (go_at_call 21; fail)
  (with_reducible refine (K1.out).mono ?_)
  rintro e y4 ⟨rfl, hb⟩
  have F7 := Lib.hid (F6.out.on hb)
  clear hb K1
  have t1 : (me == me) = true := by simp
  have t2 : (mf == mf) = true := by simp
  have t3 : (mg == mg) = true := by simp
  have t4 : (mh == mh) = true := by simp
  have KW := Lib.hid (wakes6_any y4)
  go_wp2_with (go_at_call 22; fail)
  (with_reducible refine (KW.out).mono ?_)
  rintro e y5 ⟨rfl, hb⟩
  have F8 := Lib.hid (F7.out.on hb)
  clear hb KW
  go_wp2
  go_ret
  exact ⟨rfl, F8.out.two.below⟩
end Go.Proofs.Ytkheepedjoimmaa
