/- What the laws of stage 5 stand on: the problem, the row, its heads and tails in memory. · draymanlaw05.wakes: it answers true. -/
import Derived.Test.YtgkieelacjcopaaZ14
import Derived.Test.YtgkieelacjcopaaZ15
import Derived.Test.YtgkieelacjcopaaZ16
import Derived.Test.YtgkieelacjcopaaZ06
namespace Go.Proofs.Ytgkieelacjcopaa
open Go.RowKit
set_option linter.unusedSimpArgs false

/-- the variable i, the row r, rows of its heads and tails, in a world that stands on w -/
structure T5 (w W : World) (I : Nat) (A1 A2 A3 A4 : Option Addr) (c1 c2 c3 c4 : Nat) (i : Prob) (A : Option Addr) (cap : Nat) (r : List Int) (c : Int) (gh gt : Nat) : Prop where
  two : Two w W I A1 A2 A3 A4 c1 c2 c3 c4 i A cap r
  hr : RowC W gh 7 (fun k => headC (headL i c (r.take k))) (r.length + 1)
  tr : RowC W gt 8 (fun k => tailC (tailL i c (r.drop k))) (r.length + 1)
theorem T5.on {w W W' : World} {I : Nat} {A1 A2 A3 A4 : Option Addr} {c1 c2 c3 c4 : Nat} {i : Prob} {A : Option Addr} {cap : Nat} {r : List Int} {c : Int} {gh gt : Nat} (h : T5 w W I A1 A2 A3 A4 c1 c2 c3 c4 i A cap r c gh gt) (hb : Below W.heap.size W W') : T5 w W' I A1 A2 A3 A4 c1 c2 c3 c4 i A cap r c gh gt :=
  ⟨h.two.on hb, h.hr.below hb, h.tr.below hb⟩
theorem head_bd {i : Prob} (hf : Fine i) (hm : Mated i) {c : Int} {r : List Int} (hr : r.length ≤ 1000) {k : Nat} (hk : k ≤ r.length) : ∀ h, headL i c (r.take k) = some h → HB i h ∧ HdA i c h := fun _ hh =>
  ⟨(head_hbn hf hk hh).hb (by omega), head_agrees hm hf hh⟩
theorem tail_bd' {i : Prob} (hf : Fine i) (hm : Mated i) {c : Int} (hc : inB c 0 (i.cars.length - 1) = true) {r : List Int} (hr : r.length ≤ 1000) {k : Nat} : ∀ t, tailL i c (r.drop k) = some t → TBd i t ∧ 0 ≤ t.late ∧ t.late ≤ 1000 ∧ TlA i c t := fun _ ht =>
  have h := tail_bd hf hc hr ht
  ⟨h.1, h.2.1, h.2.2, tail_agrees hm hf ht⟩
theorem RowC.at7 {W : World} {g n : Nat} {f : Nat → List Value} (h : RowC W g 7 f n) {k : Nat} (hk : k < n) {a0 a1 a2 a3 a4 a5 a6 : Value} (e : f k = [a0, a1, a2, a3, a4, a5, a6]) :
    W.cell? ⟨g, k * 7, none⟩ = some a0 ∧ W.cell? ⟨g, k * 7 + 1, none⟩ = some a1 ∧ W.cell? ⟨g, k * 7 + 2, none⟩ = some a2 ∧ W.cell? ⟨g, k * 7 + 3, none⟩ = some a3 ∧ W.cell? ⟨g, k * 7 + 4, none⟩ = some a4 ∧ W.cell? ⟨g, k * 7 + 5, none⟩ = some a5 ∧ W.cell? ⟨g, k * 7 + 6, none⟩ = some a6 :=
  ⟨h.2 k hk 0 _ (by omega) (by rw [e]; rfl), h.2 k hk 1 _ (by omega) (by rw [e]; rfl), h.2 k hk 2 _ (by omega) (by rw [e]; rfl), h.2 k hk 3 _ (by omega) (by rw [e]; rfl), h.2 k hk 4 _ (by omega) (by rw [e]; rfl), h.2 k hk 5 _ (by omega) (by rw [e]; rfl), h.2 k hk 6 _ (by omega) (by rw [e]; rfl)⟩
theorem RowC.at8 {W : World} {g n : Nat} {f : Nat → List Value} (h : RowC W g 8 f n) {k : Nat} (hk : k < n) {a0 a1 a2 a3 a4 a5 a6 a7 : Value} (e : f k = [a0, a1, a2, a3, a4, a5, a6, a7]) :
    W.cell? ⟨g, k * 8, none⟩ = some a0 ∧ W.cell? ⟨g, k * 8 + 1, none⟩ = some a1 ∧ W.cell? ⟨g, k * 8 + 2, none⟩ = some a2 ∧ W.cell? ⟨g, k * 8 + 3, none⟩ = some a3 ∧ W.cell? ⟨g, k * 8 + 4, none⟩ = some a4 ∧ W.cell? ⟨g, k * 8 + 5, none⟩ = some a5 ∧ W.cell? ⟨g, k * 8 + 6, none⟩ = some a6 ∧ W.cell? ⟨g, k * 8 + 7, none⟩ = some a7 :=
  ⟨h.2 k hk 0 _ (by omega) (by rw [e]; rfl), h.2 k hk 1 _ (by omega) (by rw [e]; rfl), h.2 k hk 2 _ (by omega) (by rw [e]; rfl), h.2 k hk 3 _ (by omega) (by rw [e]; rfl), h.2 k hk 4 _ (by omega) (by rw [e]; rfl), h.2 k hk 5 _ (by omega) (by rw [e]; rfl), h.2 k hk 6 _ (by omega) (by rw [e]; rfl), h.2 k hk 7 _ (by omega) (by rw [e]; rfl)⟩
end Go.Proofs.Ytgkieelacjcopaa
namespace Go.Proofs.Ytgkieelacjcopaa
open Go.RowKit
set_option linter.unusedSimpArgs false

def wakeP5 : Prob := ⟨[⟨0, 0, 5⟩], [], [], [[0]]⟩
theorem wake5_lies {w : World} {S : Nat} (h0 : Blk w S (ints [0, 0, 5])) (h1 : Blk w (S + 1) (ints [0])) (h2 : Blk w (S + 1 + 1) [.slice (some ⟨S + 1, 0, none⟩) 1 1]) :
    Lies w (.agg #[.slice (some ⟨S, 0, none⟩) 1 1, .slice none 0 0, .slice none 0 0, .slice (some ⟨S + 1 + 1, 0, none⟩) 1 1]) wakeP5 :=
  ⟨_, _, _, _, rfl, h0.car _, Recs.nil, Recs.nil, h2.trav [[0]] 1 fun k hk => by
    match k, hk with
    | 0, _ => exact ⟨_, rfl, h1.recs 1 num_ [0] 1 fun k hk j hj => by
        match k, hk, j, hj with
        | 0, _, 0, _ => rfl⟩⟩
theorem wake5_h : ∀ h, some (⟨0, 0, 0, 0, 0, 0⟩ : HeadP) = some h → HB wakeP5 h ∧ HdA wakeP5 0 h := fun h e => by
  obtain rfl : beginH wakeP5 0 = h := by injection e
  exact ⟨(begin_hbn (fine_of rfl) 0).hb (by omega), begin_agrees (mated_of rfl) (by decide)⟩
theorem wake5_t : ∀ t, some (⟨0, 5, 0, 0, 0, 0, 0⟩ : TailP) = some t → TBd wakeP5 t ∧ 0 ≤ t.late ∧ t.late ≤ 1000 ∧ TlA wakeP5 0 t := fun t e => by
  injection e with e
  subst e
  exact ⟨⟨by decide, by decide, by decide, by decide, by decide, by decide, by decide⟩, by decide, by decide, end_agrees (i := wakeP5) (mated_of rfl)⟩
set_option maxRecDepth 100000 in
set_option maxHeartbeats 4000000 in
theorem wakes5_any (w : World) : Calls Try.prog 18 #[] w fun e w' => e = .returned (.bool true) ∧ Below w.heap.size w w' := by
  have HL := Lib.hid (wake5_lies (w := ((w.alloc (.cells #[.int .i64 0, .int .i64 0, .int .i64 5] 58)).alloc (.cells #[.int .i64 0] 3)).alloc (.cells #[.slice (some ⟨w.heap.size + 1, 0, none⟩) 1 1] 47)) (S := w.heap.size)
    (((blk_at _ _ rfl).alloc _).alloc _) ((blk_at _ _ (by simp)).alloc _) (blk_at _ _ (by simp)))
  have HB0 := Lib.hid ((((Below.refl _ _).alloc (Nat.le_refl _) (.cells #[.int .i64 0, .int .i64 0, .int .i64 5] 58)).alloc (by simp) (.cells #[.int .i64 0] 3)).alloc (by simp; omega) (.cells #[.slice (some ⟨w.heap.size + 1, 0, none⟩) 1 1] 47) : Below w.heap.size w _)
  go_enter Try.func18, Try.ntmps18
  go_upto_region 2 with (fail)
  have hz : (((w.alloc (.cells #[.int .i64 0, .int .i64 0, .int .i64 5] 58)).alloc (.cells #[.int .i64 0] 3)).alloc (.cells #[.slice (some ⟨w.heap.size + 1, 0, none⟩) 1 1] 47)).heap.size = w.heap.size + 1 + 1 + 1 := by simp
  generalize ((w.alloc (.cells #[.int .i64 0, .int .i64 0, .int .i64 5] 58)).alloc (.cells #[.int .i64 0] 3)).alloc (.cells #[.slice (some ⟨w.heap.size + 1, 0, none⟩) 1 1] 47) = w0 at *
  generalize w.heap.size + 1 + 1 + 1 = I at *
  generalize w.heap.size + 1 + 1 = S2 at *
  generalize hS0 : w.heap.size = S0 at *
  have KB : Hid (∀ W, Below w0.heap.size w0 W → Calls Try.prog 14 #[.agg #[.slice (some ⟨S0, 0, none⟩) 1 1, .slice none 0 0, .slice none 0 0, .slice (some ⟨S2, 0, none⟩) 1 1], .int .i64 0] W fun e w' => e = .returned (.agg #[.bool true, .int .i64 0, .int .i64 0, .int .i64 0, .int .u32 0, .int .u32 0, .int .i64 0]) ∧ Below W.heap.size W w') := fun W hB => pbegin_any _ wakeP5 0 W (HL.out.below hB) rfl (by decide)
  have KE : Hid (∀ W, Below w0.heap.size w0 W → Calls Try.prog 15 #[.agg #[.slice (some ⟨S0, 0, none⟩) 1 1, .slice none 0 0, .slice none 0 0, .slice (some ⟨S2, 0, none⟩) 1 1], .int .i64 0] W fun e w' => e = .returned (.agg #[.bool true, .int .i64 0, .int .i64 5, .int .i64 0, .int .i64 0, .int .u32 0, .int .u32 0, .int .i64 0]) ∧ Below W.heap.size W w') := fun W hB => pend_any _ wakeP5 0 W (HL.out.below hB) rfl (by decide)
  have KM : Hid (∀ W, Below w0.heap.size w0 W → Calls Try.prog 13 #[.agg #[.slice (some ⟨S0, 0, none⟩) 1 1, .slice none 0 0, .slice none 0 0, .slice (some ⟨S2, 0, none⟩) 1 1], .int .i64 0, .agg #[.bool true, .int .i64 0, .int .i64 0, .int .i64 0, .int .u32 0, .int .u32 0, .int .i64 0], .agg #[.bool true, .int .i64 0, .int .i64 5, .int .i64 0, .int .i64 0, .int .u32 0, .int .u32 0, .int .i64 0]] W fun e w' => e = .returned (.tuple #[.int .i64 0, .bool true]) ∧ Below W.heap.size W w') := fun W hB => by
    have := pmeet_any _ wakeP5 0 (some ⟨0, 0, 0, 0, 0, 0⟩) (some ⟨0, 5, 0, 0, 0, 0, 0⟩) W (HL.out.below hB) rfl (by decide) wake5_h (fun _ => wake5_t)
    rw [show (if inB 0 0 (wakeP5.cars.length - 1) = true then meetO wakeP5 0 (some ⟨0, 0, 0, 0, 0, 0⟩) (some ⟨0, 5, 0, 0, 0, 0, 0⟩) else none) = some 0 by decide] at this
    exact this
  have BI := Lib.hid (blk_at (w := w0) (B := I) #[.slice (some ⟨S0, 0, none⟩) 1 1, .slice none 0 0, .slice none 0 0, .slice (some ⟨S2, 0, none⟩) 1 1] 27 hz.symm)
  have HBI := Lib.hid ((Below.refl w0.heap.size w0).alloc (Nat.le_refl _) (.cells #[.slice (some ⟨S0, 0, none⟩) 1 1, .slice none 0 0, .slice none 0 0, .slice (some ⟨S2, 0, none⟩) 1 1] 27))
  generalize w0.alloc (.cells #[.slice (some ⟨S0, 0, none⟩) 1 1, .slice none 0 0, .slice none 0 0, .slice (some ⟨S2, 0, none⟩) 1 1] 27) = wa at *
  have SS : Hid (∀ W, Below wa.heap.size wa W → W.cell? ⟨I, 0, none⟩ = some (.slice (some ⟨S0, 0, none⟩) 1 1) ∧ W.cell? ⟨I, 1, none⟩ = some (.slice none 0 0) ∧ W.cell? ⟨I, 2, none⟩ = some (.slice none 0 0) ∧ W.cell? ⟨I, 3, none⟩ = some (.slice (some ⟨S2, 0, none⟩) 1 1)) := fun W hB => ⟨(BI.out.below hB).cell (j := 0) rfl, (BI.out.below hB).cell (j := 1) rfl, (BI.out.below hB).cell (j := 2) rfl, (BI.out.below hB).cell (j := 3) rfl⟩
  have up : ∀ W, Below wa.heap.size wa W → Below w0.heap.size w0 W := fun W hB => HBI.out.trans (hB.mono HBI.out.size)
  have UP := Lib.hid up
  clear up
  refine wp_region_z (S := (fun W => W.cell? ⟨I, 0, none⟩ = some (.slice (some ⟨S0, 0, none⟩) 1 1) ∧ W.cell? ⟨I, 1, none⟩ = some (.slice none 0 0) ∧ W.cell? ⟨I, 2, none⟩ = some (.slice none 0 0) ∧ W.cell? ⟨I, 3, none⟩ = some (.slice (some ⟨S2, 0, none⟩) 1 1))) (z := 11) (by kernel_rfl) (SS.out _ (Below.refl wa.heap.size wa).drew) (fun hH => ?_)
  refine wpAnyZ_takeS (i := 0) (v := ?_) rfl (by kernel_rfl) (by kernel_rfl) (by kernel_rfl) (by kernel_rfl) (fun _ _ _ h => h) (gives_value (by rfl) ?_) (by assumption) ?_
  rotate_left
  · intro w hSw
    (try dsimp only at hSw)
    go_simp
    (try with_reducible rfl)
  (try simp only [Act.put, List.getElem_toArray, List.getElem_cons_succ, List.getElem_cons_zero, List.setIfInBounds_toArray, List.set_cons_zero, List.set_cons_succ])
  refine wpAnyZ_takeS (i := 1) (v := ?_) rfl (by kernel_rfl) (by kernel_rfl) (by kernel_rfl) (by kernel_rfl) (fun _ _ _ h => h) (gives_value (by rfl) ?_) (by assumption) ?_
  rotate_left
  · intro w hSw
    (try dsimp only at hSw)
    go_simp
    (try with_reducible rfl)
  (try simp only [Act.put, List.getElem_toArray, List.getElem_cons_succ, List.getElem_cons_zero, List.setIfInBounds_toArray, List.set_cons_zero, List.set_cons_succ])
  refine wpAnyZ_takeS (i := 3) (v := ?_) rfl (by kernel_rfl) (by kernel_rfl) (by kernel_rfl) (by kernel_rfl) (fun _ _ _ h => h) (gives_value (by rfl) ?_) (by assumption) ?_
  rotate_left
  · intro w hSw
    (try dsimp only at hSw)
    go_simp
    (try with_reducible rfl)
  (try simp only [Act.put, List.getElem_toArray, List.getElem_cons_succ, List.getElem_cons_zero, List.setIfInBounds_toArray, List.set_cons_zero, List.set_cons_succ])
  refine wpAnyZ_one (i := 2) (by kernel_rfl) ?_
  refine zstep rfl (fun K hK => ?_)
  go_simp
  (with_reducible refine (KB.out _ (UP.out _ (Below.refl wa.heap.size wa).drew)).mono ?_)
  rintro e w1 ⟨rfl, hb⟩
  have HB1 := Lib.hid (((Below.refl wa.heap.size wa).drew).trans hb)
  clear hb
  refine hK.out _ _ (fun _ => SS.out _ HB1.out) (fun hH => ?_)
  replace hH := hH (by decide)
  clear hK K
  (try simp only [Act.put, List.getElem_toArray, List.getElem_cons_succ, List.getElem_cons_zero, List.setIfInBounds_toArray, List.set_cons_zero, List.set_cons_succ])
  refine wpAnyZ_one (i := 4) (by kernel_rfl) ?_
  refine zstep rfl (fun K hK => ?_)
  go_simp
  (with_reducible refine (KE.out _ (UP.out _ HB1.out)).mono ?_)
  rintro e w2 ⟨rfl, hb⟩
  have HB2 := Lib.hid (HB1.out.trans (hb.mono HB1.out.size))
  clear hb
  refine hK.out _ _ (fun _ => SS.out _ HB2.out) (fun hH => ?_)
  replace hH := hH (by decide)
  clear hK K
  (try simp only [Act.put, List.getElem_toArray, List.getElem_cons_succ, List.getElem_cons_zero, List.setIfInBounds_toArray, List.set_cons_zero, List.set_cons_succ])
  refine wpAnyZ_one (i := 5) (by kernel_rfl) ?_
  refine zstep rfl (fun K hK => ?_)
  go_simp
  (with_reducible refine (KM.out _ (UP.out _ HB2.out)).mono ?_)
  rintro e w3 ⟨rfl, hb⟩
  have HB3 := Lib.hid (HB2.out.trans (hb.mono HB2.out.size))
  clear hb
  refine hK.out _ _ (fun _ => SS.out _ HB3.out) (fun hH => ?_)
  replace hH := hH (by decide)
  clear hK K
  (try simp only [Act.put, List.getElem_toArray, List.getElem_cons_succ, List.getElem_cons_zero, List.setIfInBounds_toArray, List.set_cons_zero, List.set_cons_succ])
  refine wpAnyZ_takeS (i := 6) (v := ?_) rfl (by kernel_rfl) (by kernel_rfl) (by kernel_rfl) (by kernel_rfl) (fun _ _ _ h => h) (gives_value (by rfl) ?_) (by assumption) ?_
  rotate_left
  · intro w hSw
    (try dsimp only at hSw)
    go_simp
    (try with_reducible rfl)
  (try simp only [Act.put, List.getElem_toArray, List.getElem_cons_succ, List.getElem_cons_zero, List.setIfInBounds_toArray, List.set_cons_zero, List.set_cons_succ])
  refine wpAnyZ_takeS (i := 7) (v := ?_) rfl (by kernel_rfl) (by kernel_rfl) (by kernel_rfl) (by kernel_rfl) (fun _ _ _ h => h) (gives_value (by rfl) ?_) (by assumption) ?_
  rotate_left
  · intro w hSw
    (try dsimp only at hSw)
    go_simp
    (try with_reducible rfl)
  (try simp only [Act.put, List.getElem_toArray, List.getElem_cons_succ, List.getElem_cons_zero, List.setIfInBounds_toArray, List.set_cons_zero, List.set_cons_succ])
  refine wpAnyZ_takeS (i := 8) (v := ?_) rfl (by kernel_rfl) (by kernel_rfl) (by kernel_rfl) (by kernel_rfl) (fun _ _ _ h => h) (gives_value (by rfl) ?_) (by assumption) ?_
  rotate_left
  · intro w hSw
    (try dsimp only at hSw)
    go_simp
    (try with_reducible rfl)
  (try simp only [Act.put, List.getElem_toArray, List.getElem_cons_succ, List.getElem_cons_zero, List.setIfInBounds_toArray, List.set_cons_zero, List.set_cons_succ])
  refine wpAnyZ_takeS (i := 9) (v := ?_) rfl (by kernel_rfl) (by kernel_rfl) (by kernel_rfl) (by kernel_rfl) (fun _ _ _ h => h) (gives_value (by rfl) ?_) (by assumption) ?_
  rotate_left
  · intro w hSw
    (try dsimp only at hSw)
    go_simp
    (try with_reducible rfl)
  (try simp only [Act.put, List.getElem_toArray, List.getElem_cons_succ, List.getElem_cons_zero, List.setIfInBounds_toArray, List.set_cons_zero, List.set_cons_succ])
  refine wpAnyZ_takeS (i := 10) (v := ?_) rfl (by kernel_rfl) (by kernel_rfl) (by kernel_rfl) (by kernel_rfl) (fun _ _ _ h => h) (gives_value (by rfl) ?_) (by assumption) ?_
  rotate_left
  · intro w hSw
    (try dsimp only at hSw)
    go_simp
    (try with_reducible rfl)
  (try simp only [Act.put, List.getElem_toArray, List.getElem_cons_succ, List.getElem_cons_zero, List.setIfInBounds_toArray, List.set_cons_zero, List.set_cons_succ])
  refine wpAnyZ_done (by kernel_rfl) ?_ _
  obtain ⟨k0, k1, k2, k3⟩ := SS.out _ HB3.out
  have hIz := (BI.out.below HB3.out).1
  clear hH
  go_wp2_with (go_at_call 15; fail)
  (with_reducible refine (KE.out _ (UP.out _ HB3.out)).mono ?_)
  rintro e w4 ⟨rfl, hb⟩
  have HB4 := Lib.hid ((UP.out _ HB3.out).trans (hb.mono (UP.out _ HB3.out).size))
  clear hb k0 k1 k2 k3 hIz
  have hfin : Hid (Below S0 w w4) := HB0.out.trans (HB4.out.mono (by have := HB0.out.size; omega))
  have hfl : (Instr.field 37 (.agg #[.bool true, .int .i64 0, .int .i64 5, .int .i64 0, .int .i64 0, .int .u32 0, .int .u32 0, .int .i64 0]) 2).run Try.prog w4 = .ok (.int .i64 5) w4 := by kernel_rfl
  go_wp2
  go_ret
  exact ⟨rfl, by rw [hS0]; exact hfin.out⟩
end Go.Proofs.Ytgkieelacjcopaa
