/- draymanlaw07.Same of edits that say the same (laid by gen_dsame.py). -/
import Derived.Test.YtbellnanikaffaaDMemoryWalk
namespace Go.Proofs.Ytbellnanikaffaa
open Go.RowKit
set_option linter.unusedSimpArgs false

set_option maxRecDepth 100000 in
set_option maxHeartbeats 2000000 in
theorem same7_any (A1 A2 A3 B1 B2 B3 : Option Addr) (c1 c2 c3 e1 e2 e3 : Nat) (ta tb : List Turn) (l i : List Hold) (w : World) (E1 : EditIn w A1 A2 A3 c1 c2 c3 ⟨ta, l, i⟩) (E2 : EditIn w B1 B2 B3 e1 e2 e3 ⟨tb, l, i⟩) (hT : ta.map Turn.pl = tb.map Turn.pl) :
    Calls Try.prog 9 #[.agg #[.slice A1 ta.length c1, .slice A2 l.length c2, .slice A3 i.length c3], .agg #[.slice B1 tb.length e1, .slice B2 l.length e2, .slice B3 i.length e3]] w fun e w' => e = .returned (.bool true) ∧ Below w.heap.size w w' := by
  have hlen : ta.length = tb.length := by have := congrArg List.length hT; simpa using this
  have W0B : Hid (Below w.heap.size w ((w.alloc (.cells #[.slice A1 ta.length c1, .slice A2 l.length c2, .slice A3 i.length c3] 30)).alloc (.cells #[.slice B1 tb.length e1, .slice B2 l.length e2, .slice B3 i.length e3] 30))) := Lib.hid (((Below.refl _ _).alloc (Nat.le_refl _) _).alloc (by simp) _)
  have BD : Hid (Blk ((w.alloc (.cells #[.slice A1 ta.length c1, .slice A2 l.length c2, .slice A3 i.length c3] 30)).alloc (.cells #[.slice B1 tb.length e1, .slice B2 l.length e2, .slice B3 i.length e3] 30)) w.heap.size [.slice A1 ta.length c1, .slice A2 l.length c2, .slice A3 i.length c3]) := Lib.hid ((blk_new w _ _).alloc _)
  have BE : Hid (Blk ((w.alloc (.cells #[.slice A1 ta.length c1, .slice A2 l.length c2, .slice A3 i.length c3] 30)).alloc (.cells #[.slice B1 tb.length e1, .slice B2 l.length e2, .slice B3 i.length e3] 30)) (w.heap.size + 1) [.slice B1 tb.length e1, .slice B2 l.length e2, .slice B3 i.length e3]) := Lib.hid (blk_at (w := w.alloc _) #[.slice B1 tb.length e1, .slice B2 l.length e2, .slice B3 i.length e3] 30 (by simp))
  have H1 := Lib.hid E1
  have H2 := Lib.hid E2
  have KL := Lib.hid (fun W (hb : Below w.heap.size w W) => same_holds A2 B2 c2 e2 l W ((E1.below hb).l) ((E2.below hb).l) (by have := E1.nl; simp only at this; omega))
  have KI := Lib.hid (fun W (hb : Below w.heap.size w W) => same_holds A3 B3 c3 e3 i W ((E1.below hb).i) ((E2.below hb).i) (by have := E1.ni; simp only at this; omega))
  have t1 : (((ta.length : Nat) : Int) != ((tb.length : Nat) : Int)) = false := by rw [hlen]; simp
  have n20 : ta.length < 20 := E1.nt
  have HT := Lib.hid hT
  have HLn := Lib.hid hlen
  clear E1 E2 hT hlen
  go_enter Try.func9, Try.ntmps9
  go_upto_region 1 with (fail)
  generalize ((w.alloc (.cells #[.slice A1 ta.length c1, .slice A2 l.length c2, .slice A3 i.length c3] 30)).alloc (.cells #[.slice B1 tb.length e1, .slice B2 l.length e2, .slice B3 i.length e3] 30)) = w1 at *
  have hb' := BE.out.1
  have ha : w.heap.size < w1.heap.size := by omega
  have a0 := BD.out.at0.1
  have a1 := BD.out.at1.1
  have a2 := BD.out.at2.1
  have b0 := BE.out.at0.1
  have b1 := BE.out.at1.1
  have b2 := BE.out.at2.1
  generalize hga : w.heap.size = ga at *
  generalize hgb : ga + 1 = gb at *
  go_wp2_with (go_at_call 24; fail)
  (with_reducible refine (KL.out _ W0B.out).mono ?_)
  rintro e w2 ⟨rfl, hb⟩
  have W2B : Hid (Below ga w w2) := Lib.hid (W0B.out.trans (hb.mono (by omega)))
  have HG2 : Hid (Below w1.heap.size w1 w2) := Lib.hid hb
  replace a0 : w2.cell? ⟨ga, 0, none⟩ = _ := (hb.cell (p := ⟨ga, 0, none⟩) ha).trans a0
  replace a1 : w2.cell? ⟨ga, 1, none⟩ = _ := (hb.cell (p := ⟨ga, 1, none⟩) ha).trans a1
  replace a2 : w2.cell? ⟨ga, 2, none⟩ = _ := (hb.cell (p := ⟨ga, 2, none⟩) ha).trans a2
  replace b0 : w2.cell? ⟨gb, 0, none⟩ = _ := (hb.cell (p := ⟨gb, 0, none⟩) hb').trans b0
  replace b1 : w2.cell? ⟨gb, 1, none⟩ = _ := (hb.cell (p := ⟨gb, 1, none⟩) hb').trans b1
  replace b2 : w2.cell? ⟨gb, 2, none⟩ = _ := (hb.cell (p := ⟨gb, 2, none⟩) hb').trans b2
  replace ha := Nat.lt_of_lt_of_le ha hb.size
  replace hb' := Nat.lt_of_lt_of_le hb' hb.size
  clear hb W0B
  go_wp2_with (go_at_call 24; fail)
  (with_reducible refine (KI.out _ W2B.out).mono ?_)
  rintro e w3 ⟨rfl, hb⟩
  have W3B : Hid (Below ga w w3) := Lib.hid (W2B.out.trans (hb.mono (by have := W2B.out.size; omega)))
  replace a0 : w3.cell? ⟨ga, 0, none⟩ = _ := (hb.cell (p := ⟨ga, 0, none⟩) ha).trans a0
  replace b0 : w3.cell? ⟨gb, 0, none⟩ = _ := (hb.cell (p := ⟨gb, 0, none⟩) hb').trans b0
  replace ha := Nat.lt_of_lt_of_le ha hb.size
  replace hb' := Nat.lt_of_lt_of_le hb' hb.size
  clear hb W2B a1 a2 b1 b2 KL KI HG2
  go_wp2_with (fail)
  go_loopw [34] (fun kv wr => ∃ k : Nat, k ≤ ta.length ∧ kv = .int .i64 k ∧ Hid (Below w3.heap.size w3 wr)) (fun kv _ => ta.length - (intOf kv).toNat)
  case atStart => exact ⟨0, Nat.zero_le _, rfl, Lib.hid (Below.refl _ _)⟩
  case round =>
    obtain ⟨k, hk, rfl, HBr⟩ := hrel
    have HWr : Hid (Below ga w wr) := Lib.hid (W3B.out.trans (HBr.out.mono (by have := W3B.out.size; omega)))
    by_cases hlt : k < ta.length
    · have hlt2 : k < tb.length := by rw [← HLn.out]; exact hlt
      obtain ⟨g1, o1, rfl, hg1, d0, d1, d2⟩ := Rows.turn (l := ta) H1.out.t.1 hlt
      obtain ⟨g2, o2, rfl, hg2, q0, q1, q2⟩ := Rows.turn (l := tb) H2.out.t.1 hlt2
      have hpl : ta[k].pl = tb[k].pl := by
        have h1 : (ta.map Turn.pl)[k]? = (tb.map Turn.pl)[k]? := by rw [HT.out]
        simpa [hlt, hlt2] using h1
      have HX : Hid (ta[k].ok w) := Lib.hid (H1.out.t.2 _ (List.getElem_mem hlt))
      have HY : Hid (tb[k].ok w) := Lib.hid (H2.out.t.2 _ (List.getElem_mem hlt2))
      have hln : ta[k].b.length ≤ 1000000 ∧ ta[k].a.length ≤ 1000000 := H1.out.nm _ (List.getElem_mem hlt)
      rw [hga] at hg1 hg2
      have x0 := (HWr.out.cell (p := ⟨g1, o1 + k * 3, none⟩) hg1).trans d0
      have x1 := (HWr.out.cell (p := ⟨g1, o1 + k * 3 + 1, none⟩) hg1).trans d1
      have x2 := (HWr.out.cell (p := ⟨g1, o1 + k * 3 + 2, none⟩) hg1).trans d2
      have y0 := (HWr.out.cell (p := ⟨g2, o2 + k * 3, none⟩) hg2).trans q0
      have y1 := (HWr.out.cell (p := ⟨g2, o2 + k * 3 + 1, none⟩) hg2).trans q1
      have y2 := (HWr.out.cell (p := ⟨g2, o2 + k * 3 + 2, none⟩) hg2).trans q2
      clear d0 d1 d2 q0 q1 q2
      generalize ta[k] = X at *
      generalize tb[k] = Y at *
      obtain ⟨xc, xx, xy, xb, xa⟩ := X
      obtain ⟨yc, yx, yy, yb, ya⟩ := Y
      injection hpl with hp1 hp2
      injection hp2 with hp2 hp3
      dsimp only at hp1 hp2 hp3 x0 x1 x2 y0 y1 y2 hln
      subst hp1 hp2 hp3
      obtain ⟨⟨P1, q1, ex1, Q1⟩, P2, q2, ex2, Q2⟩ := HX.out
      obtain ⟨⟨R1, s1, ey1, S1⟩, R2, s2, ey2, S2⟩ := HY.out
      dsimp only at ex1 ex2 ey1 ey2
      subst ex1 ex2 ey1 ey2
      have KB := Lib.hid (fun W (hb : Below ga w W) => same_ints (.slice P1 xb.length q1) (.slice R1 xb.length s1) xb W ((show Recs w 1 num_ _ xb from ⟨P1, q1, rfl, Q1⟩).below (by rw [hga]; exact hb)) ((show Recs w 1 num_ _ xb from ⟨R1, s1, rfl, S1⟩).below (by rw [hga]; exact hb)) (by omega))
      have KA := Lib.hid (fun W (hb : Below ga w W) => same_ints (.slice P2 xa.length q2) (.slice R2 xa.length s2) xa W ((show Recs w 1 num_ _ xa from ⟨P2, q2, rfl, Q2⟩).below (by rw [hga]; exact hb)) ((show Recs w 1 num_ _ xa from ⟨R2, s2, rfl, S2⟩).below (by rw [hga]; exact hb)) (by omega))
      clear Q1 Q2 S1 S2 HX HY
      go_upto_region 6 with (fail)
      have n0 : (0 : Int) ≤ (k : Int) := by omega
      have n1 : (k : Int) < (ta.length : Int) := by omega
      have n3 : (k : Int) < (tb.length : Int) := by omega
      have n2 : (k : Int).toNat = k := by omega
      have m0 : wr.drew.cell? ⟨ga, 0, none⟩ = _ := (HBr.out.cell (p := ⟨ga, 0, none⟩) ha).trans a0
      have m1 : wr.drew.cell? ⟨gb, 0, none⟩ = _ := (HBr.out.cell (p := ⟨gb, 0, none⟩) hb').trans b0
      replace x0 : wr.drew.cell? ⟨g1, o1 + k * 3, none⟩ = _ := x0
      replace x1 : wr.drew.cell? ⟨g1, o1 + k * 3 + 1, none⟩ = _ := x1
      replace x2 : wr.drew.cell? ⟨g1, o1 + k * 3 + 2, none⟩ = _ := x2
      replace y0 : wr.drew.cell? ⟨g2, o2 + k * 3, none⟩ = _ := y0
      replace y1 : wr.drew.cell? ⟨g2, o2 + k * 3 + 1, none⟩ = _ := y1
      replace y2 : wr.drew.cell? ⟨g2, o2 + k * 3 + 2, none⟩ = _ := y2
      have hsz := HWr.out.size
      have hsz3 := HBr.out.size
      replace hg1 : g1 < wr.drew.heap.size := Nat.lt_of_lt_of_le (by omega) hsz
      replace hg2 : g2 < wr.drew.heap.size := Nat.lt_of_lt_of_le (by omega) hsz
      have ha : ga < wr.drew.heap.size := Nat.lt_of_lt_of_le ha hsz3
      have hb' : gb < wr.drew.heap.size := Nat.lt_of_lt_of_le hb' hsz3
      have HWd : Hid (Below ga w wr.drew) := Lib.hid HWr.out.drew
      have HBd : Hid (Below w3.heap.size w3 wr.drew) := Lib.hid HBr.out.drew
      go_cut [6, 7] from 37 to 47 (fun xv yv wc => ∃ gx gy, xv = .pointer (some ⟨gx, 0, none⟩) ∧ yv = .pointer (some ⟨gy, 0, none⟩) ∧ Hid (wc.heap[gx]? = some (.cells #[.int .i64 xc, .slice P1 xb.length q1, .slice P2 xa.length q2] 24 (0, 0))) ∧ Hid (wc.heap[gy]? = some (.cells #[.int .i64 xc, .slice R1 xb.length s1, .slice R2 xa.length s2] 24 (0, 0))) ∧ Hid (Below wr.drew.heap.size wr.drew wc))
      case first =>
        refine wp_region_z (S := (fun W => Below wr.drew.heap.size wr.drew W)) (z := 14) (by kernel_rfl) (Below.refl _ _) (fun hH => ?_)
        clear HWr HBr HWd HBd hsz hsz3 KA KB H1 H2
        generalize wr.drew = Wr at *
        have HB : Hid (Below Wr.heap.size Wr Wr) := Lib.hid (Below.refl _ _)
        refine wpAnyZ_takeS (i := 0) (v := ?_) rfl (by kernel_rfl) (by kernel_rfl) (by kernel_rfl) (by kernel_rfl) (fun _ _ _ h => h) (gives_value (by rfl) ?_) (by assumption) ?_
        rotate_left
        · intro w hSw
          have f0 : w.cell? ⟨ga, 0, none⟩ = some (.slice (some ⟨g1, o1, none⟩) ta.length c1) := by rw [hSw.cell ha]; exact m0
          have f1 : w.cell? ⟨gb, 0, none⟩ = some (.slice (some ⟨g2, o2, none⟩) tb.length e1) := by rw [hSw.cell hb']; exact m1
          have f2 : w.cell? ⟨g1, o1 + k * 3, none⟩ = some (.int .i64 xc) := by rw [hSw.cell hg1]; exact x0
          have f3 : w.cell? ⟨g1, o1 + k * 3 + 1, none⟩ = some (.slice P1 xb.length q1) := by rw [hSw.cell hg1]; exact x1
          have f4 : w.cell? ⟨g1, o1 + k * 3 + 2, none⟩ = some (.slice P2 xa.length q2) := by rw [hSw.cell hg1]; exact x2
          have f5 : w.cell? ⟨g2, o2 + k * 3, none⟩ = some (.int .i64 xc) := by rw [hSw.cell hg2]; exact y0
          have f6 : w.cell? ⟨g2, o2 + k * 3 + 1, none⟩ = some (.slice R1 xb.length s1) := by rw [hSw.cell hg2]; exact y1
          have f7 : w.cell? ⟨g2, o2 + k * 3 + 2, none⟩ = some (.slice R2 xa.length s2) := by rw [hSw.cell hg2]; exact y2
          go_simp
          (try with_reducible rfl)
        (try simp only [Act.put, List.getElem_toArray, List.getElem_cons_succ, List.getElem_cons_zero, List.setIfInBounds_toArray, List.set_cons_zero, List.set_cons_succ])
        refine wpAnyZ_takeS (i := 1) (v := ?_) rfl (by kernel_rfl) (by kernel_rfl) (by kernel_rfl) (by kernel_rfl) (fun _ _ _ h => h) (gives_value (by rfl) ?_) (by assumption) ?_
        rotate_left
        · intro w hSw
          have f0 : w.cell? ⟨ga, 0, none⟩ = some (.slice (some ⟨g1, o1, none⟩) ta.length c1) := by rw [hSw.cell ha]; exact m0
          have f1 : w.cell? ⟨gb, 0, none⟩ = some (.slice (some ⟨g2, o2, none⟩) tb.length e1) := by rw [hSw.cell hb']; exact m1
          have f2 : w.cell? ⟨g1, o1 + k * 3, none⟩ = some (.int .i64 xc) := by rw [hSw.cell hg1]; exact x0
          have f3 : w.cell? ⟨g1, o1 + k * 3 + 1, none⟩ = some (.slice P1 xb.length q1) := by rw [hSw.cell hg1]; exact x1
          have f4 : w.cell? ⟨g1, o1 + k * 3 + 2, none⟩ = some (.slice P2 xa.length q2) := by rw [hSw.cell hg1]; exact x2
          have f5 : w.cell? ⟨g2, o2 + k * 3, none⟩ = some (.int .i64 xc) := by rw [hSw.cell hg2]; exact y0
          have f6 : w.cell? ⟨g2, o2 + k * 3 + 1, none⟩ = some (.slice R1 xb.length s1) := by rw [hSw.cell hg2]; exact y1
          have f7 : w.cell? ⟨g2, o2 + k * 3 + 2, none⟩ = some (.slice R2 xa.length s2) := by rw [hSw.cell hg2]; exact y2
          go_simp
          (try with_reducible rfl)
        (try simp only [Act.put, List.getElem_toArray, List.getElem_cons_succ, List.getElem_cons_zero, List.setIfInBounds_toArray, List.set_cons_zero, List.set_cons_succ])
        refine wpAnyZ_takeS (i := 2) (v := ?_) rfl (by kernel_rfl) (by kernel_rfl) (by kernel_rfl) (by kernel_rfl) (fun _ _ _ h => h) (gives_value (by rfl) ?_) (by assumption) ?_
        rotate_left
        · intro w hSw
          have f0 : w.cell? ⟨ga, 0, none⟩ = some (.slice (some ⟨g1, o1, none⟩) ta.length c1) := by rw [hSw.cell ha]; exact m0
          have f1 : w.cell? ⟨gb, 0, none⟩ = some (.slice (some ⟨g2, o2, none⟩) tb.length e1) := by rw [hSw.cell hb']; exact m1
          have f2 : w.cell? ⟨g1, o1 + k * 3, none⟩ = some (.int .i64 xc) := by rw [hSw.cell hg1]; exact x0
          have f3 : w.cell? ⟨g1, o1 + k * 3 + 1, none⟩ = some (.slice P1 xb.length q1) := by rw [hSw.cell hg1]; exact x1
          have f4 : w.cell? ⟨g1, o1 + k * 3 + 2, none⟩ = some (.slice P2 xa.length q2) := by rw [hSw.cell hg1]; exact x2
          have f5 : w.cell? ⟨g2, o2 + k * 3, none⟩ = some (.int .i64 xc) := by rw [hSw.cell hg2]; exact y0
          have f6 : w.cell? ⟨g2, o2 + k * 3 + 1, none⟩ = some (.slice R1 xb.length s1) := by rw [hSw.cell hg2]; exact y1
          have f7 : w.cell? ⟨g2, o2 + k * 3 + 2, none⟩ = some (.slice R2 xa.length s2) := by rw [hSw.cell hg2]; exact y2
          go_simp
          (try with_reducible rfl)
        (try simp only [Act.put, List.getElem_toArray, List.getElem_cons_succ, List.getElem_cons_zero, List.setIfInBounds_toArray, List.set_cons_zero, List.set_cons_succ])
        refine wpAnyZ_takeS (i := 3) (v := ?_) rfl (by kernel_rfl) (by kernel_rfl) (by kernel_rfl) (by kernel_rfl) (fun _ _ _ h => h) (gives_value (by rfl) ?_) (by assumption) ?_
        rotate_left
        · intro w hSw
          have f0 : w.cell? ⟨ga, 0, none⟩ = some (.slice (some ⟨g1, o1, none⟩) ta.length c1) := by rw [hSw.cell ha]; exact m0
          have f1 : w.cell? ⟨gb, 0, none⟩ = some (.slice (some ⟨g2, o2, none⟩) tb.length e1) := by rw [hSw.cell hb']; exact m1
          have f2 : w.cell? ⟨g1, o1 + k * 3, none⟩ = some (.int .i64 xc) := by rw [hSw.cell hg1]; exact x0
          have f3 : w.cell? ⟨g1, o1 + k * 3 + 1, none⟩ = some (.slice P1 xb.length q1) := by rw [hSw.cell hg1]; exact x1
          have f4 : w.cell? ⟨g1, o1 + k * 3 + 2, none⟩ = some (.slice P2 xa.length q2) := by rw [hSw.cell hg1]; exact x2
          have f5 : w.cell? ⟨g2, o2 + k * 3, none⟩ = some (.int .i64 xc) := by rw [hSw.cell hg2]; exact y0
          have f6 : w.cell? ⟨g2, o2 + k * 3 + 1, none⟩ = some (.slice R1 xb.length s1) := by rw [hSw.cell hg2]; exact y1
          have f7 : w.cell? ⟨g2, o2 + k * 3 + 2, none⟩ = some (.slice R2 xa.length s2) := by rw [hSw.cell hg2]; exact y2
          go_simp
          (try with_reducible rfl)
        (try simp only [Act.put, List.getElem_toArray, List.getElem_cons_succ, List.getElem_cons_zero, List.setIfInBounds_toArray, List.set_cons_zero, List.set_cons_succ])
        refine wpAnyZ_takeS (i := 4) (v := ?_) rfl (by kernel_rfl) (by kernel_rfl) (by kernel_rfl) (by kernel_rfl) (fun _ _ _ h => h) (gives_value (by rfl) ?_) (by assumption) ?_
        rotate_left
        · intro w hSw
          have f0 : w.cell? ⟨ga, 0, none⟩ = some (.slice (some ⟨g1, o1, none⟩) ta.length c1) := by rw [hSw.cell ha]; exact m0
          have f1 : w.cell? ⟨gb, 0, none⟩ = some (.slice (some ⟨g2, o2, none⟩) tb.length e1) := by rw [hSw.cell hb']; exact m1
          have f2 : w.cell? ⟨g1, o1 + k * 3, none⟩ = some (.int .i64 xc) := by rw [hSw.cell hg1]; exact x0
          have f3 : w.cell? ⟨g1, o1 + k * 3 + 1, none⟩ = some (.slice P1 xb.length q1) := by rw [hSw.cell hg1]; exact x1
          have f4 : w.cell? ⟨g1, o1 + k * 3 + 2, none⟩ = some (.slice P2 xa.length q2) := by rw [hSw.cell hg1]; exact x2
          have f5 : w.cell? ⟨g2, o2 + k * 3, none⟩ = some (.int .i64 xc) := by rw [hSw.cell hg2]; exact y0
          have f6 : w.cell? ⟨g2, o2 + k * 3 + 1, none⟩ = some (.slice R1 xb.length s1) := by rw [hSw.cell hg2]; exact y1
          have f7 : w.cell? ⟨g2, o2 + k * 3 + 2, none⟩ = some (.slice R2 xa.length s2) := by rw [hSw.cell hg2]; exact y2
          go_simp
          (try with_reducible rfl)
        (try simp only [Act.put, List.getElem_toArray, List.getElem_cons_succ, List.getElem_cons_zero, List.setIfInBounds_toArray, List.set_cons_zero, List.set_cons_succ])
        refine wpAnyZ_takeS (i := 5) (v := ?_) rfl (by kernel_rfl) (by kernel_rfl) (by kernel_rfl) (by kernel_rfl) (fun _ _ _ h => h) (gives_value (by rfl) ?_) (by assumption) ?_
        rotate_left
        · intro w hSw
          have f0 : w.cell? ⟨ga, 0, none⟩ = some (.slice (some ⟨g1, o1, none⟩) ta.length c1) := by rw [hSw.cell ha]; exact m0
          have f1 : w.cell? ⟨gb, 0, none⟩ = some (.slice (some ⟨g2, o2, none⟩) tb.length e1) := by rw [hSw.cell hb']; exact m1
          have f2 : w.cell? ⟨g1, o1 + k * 3, none⟩ = some (.int .i64 xc) := by rw [hSw.cell hg1]; exact x0
          have f3 : w.cell? ⟨g1, o1 + k * 3 + 1, none⟩ = some (.slice P1 xb.length q1) := by rw [hSw.cell hg1]; exact x1
          have f4 : w.cell? ⟨g1, o1 + k * 3 + 2, none⟩ = some (.slice P2 xa.length q2) := by rw [hSw.cell hg1]; exact x2
          have f5 : w.cell? ⟨g2, o2 + k * 3, none⟩ = some (.int .i64 xc) := by rw [hSw.cell hg2]; exact y0
          have f6 : w.cell? ⟨g2, o2 + k * 3 + 1, none⟩ = some (.slice R1 xb.length s1) := by rw [hSw.cell hg2]; exact y1
          have f7 : w.cell? ⟨g2, o2 + k * 3 + 2, none⟩ = some (.slice R2 xa.length s2) := by rw [hSw.cell hg2]; exact y2
          go_simp
          (try with_reducible rfl)
        (try simp only [Act.put, List.getElem_toArray, List.getElem_cons_succ, List.getElem_cons_zero, List.setIfInBounds_toArray, List.set_cons_zero, List.set_cons_succ])
        refine wpAnyZ_takeS (i := 6) (v := ?_) rfl (by kernel_rfl) (by kernel_rfl) (by kernel_rfl) (by kernel_rfl) (fun _ _ _ h => h) (gives_value (by rfl) ?_) (by assumption) ?_
        rotate_left
        · intro w hSw
          have f0 : w.cell? ⟨ga, 0, none⟩ = some (.slice (some ⟨g1, o1, none⟩) ta.length c1) := by rw [hSw.cell ha]; exact m0
          have f1 : w.cell? ⟨gb, 0, none⟩ = some (.slice (some ⟨g2, o2, none⟩) tb.length e1) := by rw [hSw.cell hb']; exact m1
          have f2 : w.cell? ⟨g1, o1 + k * 3, none⟩ = some (.int .i64 xc) := by rw [hSw.cell hg1]; exact x0
          have f3 : w.cell? ⟨g1, o1 + k * 3 + 1, none⟩ = some (.slice P1 xb.length q1) := by rw [hSw.cell hg1]; exact x1
          have f4 : w.cell? ⟨g1, o1 + k * 3 + 2, none⟩ = some (.slice P2 xa.length q2) := by rw [hSw.cell hg1]; exact x2
          have f5 : w.cell? ⟨g2, o2 + k * 3, none⟩ = some (.int .i64 xc) := by rw [hSw.cell hg2]; exact y0
          have f6 : w.cell? ⟨g2, o2 + k * 3 + 1, none⟩ = some (.slice R1 xb.length s1) := by rw [hSw.cell hg2]; exact y1
          have f7 : w.cell? ⟨g2, o2 + k * 3 + 2, none⟩ = some (.slice R2 xa.length s2) := by rw [hSw.cell hg2]; exact y2
          go_simp
          (try with_reducible rfl)
        (try simp only [Act.put, List.getElem_toArray, List.getElem_cons_succ, List.getElem_cons_zero, List.setIfInBounds_toArray, List.set_cons_zero, List.set_cons_succ])
        refine wpAnyZ_takeS (i := 7) (v := ?_) rfl (by kernel_rfl) (by kernel_rfl) (by kernel_rfl) (by kernel_rfl) (fun _ _ _ h => h) (gives_value (by rfl) ?_) (by assumption) ?_
        rotate_left
        · intro w hSw
          have f0 : w.cell? ⟨ga, 0, none⟩ = some (.slice (some ⟨g1, o1, none⟩) ta.length c1) := by rw [hSw.cell ha]; exact m0
          have f1 : w.cell? ⟨gb, 0, none⟩ = some (.slice (some ⟨g2, o2, none⟩) tb.length e1) := by rw [hSw.cell hb']; exact m1
          have f2 : w.cell? ⟨g1, o1 + k * 3, none⟩ = some (.int .i64 xc) := by rw [hSw.cell hg1]; exact x0
          have f3 : w.cell? ⟨g1, o1 + k * 3 + 1, none⟩ = some (.slice P1 xb.length q1) := by rw [hSw.cell hg1]; exact x1
          have f4 : w.cell? ⟨g1, o1 + k * 3 + 2, none⟩ = some (.slice P2 xa.length q2) := by rw [hSw.cell hg1]; exact x2
          have f5 : w.cell? ⟨g2, o2 + k * 3, none⟩ = some (.int .i64 xc) := by rw [hSw.cell hg2]; exact y0
          have f6 : w.cell? ⟨g2, o2 + k * 3 + 1, none⟩ = some (.slice R1 xb.length s1) := by rw [hSw.cell hg2]; exact y1
          have f7 : w.cell? ⟨g2, o2 + k * 3 + 2, none⟩ = some (.slice R2 xa.length s2) := by rw [hSw.cell hg2]; exact y2
          go_simp
          (try with_reducible rfl)
        (try simp only [Act.put, List.getElem_toArray, List.getElem_cons_succ, List.getElem_cons_zero, List.setIfInBounds_toArray, List.set_cons_zero, List.set_cons_succ])
        refine wpAnyZ_takeS (i := 8) (v := ?_) rfl (by kernel_rfl) (by kernel_rfl) (by kernel_rfl) (by kernel_rfl) (fun _ _ _ h => h) (gives_value (by rfl) ?_) (by assumption) ?_
        rotate_left
        · intro w hSw
          have f0 : w.cell? ⟨ga, 0, none⟩ = some (.slice (some ⟨g1, o1, none⟩) ta.length c1) := by rw [hSw.cell ha]; exact m0
          have f1 : w.cell? ⟨gb, 0, none⟩ = some (.slice (some ⟨g2, o2, none⟩) tb.length e1) := by rw [hSw.cell hb']; exact m1
          have f2 : w.cell? ⟨g1, o1 + k * 3, none⟩ = some (.int .i64 xc) := by rw [hSw.cell hg1]; exact x0
          have f3 : w.cell? ⟨g1, o1 + k * 3 + 1, none⟩ = some (.slice P1 xb.length q1) := by rw [hSw.cell hg1]; exact x1
          have f4 : w.cell? ⟨g1, o1 + k * 3 + 2, none⟩ = some (.slice P2 xa.length q2) := by rw [hSw.cell hg1]; exact x2
          have f5 : w.cell? ⟨g2, o2 + k * 3, none⟩ = some (.int .i64 xc) := by rw [hSw.cell hg2]; exact y0
          have f6 : w.cell? ⟨g2, o2 + k * 3 + 1, none⟩ = some (.slice R1 xb.length s1) := by rw [hSw.cell hg2]; exact y1
          have f7 : w.cell? ⟨g2, o2 + k * 3 + 2, none⟩ = some (.slice R2 xa.length s2) := by rw [hSw.cell hg2]; exact y2
          go_simp
          (try with_reducible rfl)
        (try simp only [Act.put, List.getElem_toArray, List.getElem_cons_succ, List.getElem_cons_zero, List.setIfInBounds_toArray, List.set_cons_zero, List.set_cons_succ])
        refine wpAnyZ_takeS (i := 9) (v := ?_) rfl (by kernel_rfl) (by kernel_rfl) (by kernel_rfl) (by kernel_rfl) (fun _ _ _ h => h) (gives_value (by rfl) ?_) (by assumption) ?_
        rotate_left
        · intro w hSw
          have f0 : w.cell? ⟨ga, 0, none⟩ = some (.slice (some ⟨g1, o1, none⟩) ta.length c1) := by rw [hSw.cell ha]; exact m0
          have f1 : w.cell? ⟨gb, 0, none⟩ = some (.slice (some ⟨g2, o2, none⟩) tb.length e1) := by rw [hSw.cell hb']; exact m1
          have f2 : w.cell? ⟨g1, o1 + k * 3, none⟩ = some (.int .i64 xc) := by rw [hSw.cell hg1]; exact x0
          have f3 : w.cell? ⟨g1, o1 + k * 3 + 1, none⟩ = some (.slice P1 xb.length q1) := by rw [hSw.cell hg1]; exact x1
          have f4 : w.cell? ⟨g1, o1 + k * 3 + 2, none⟩ = some (.slice P2 xa.length q2) := by rw [hSw.cell hg1]; exact x2
          have f5 : w.cell? ⟨g2, o2 + k * 3, none⟩ = some (.int .i64 xc) := by rw [hSw.cell hg2]; exact y0
          have f6 : w.cell? ⟨g2, o2 + k * 3 + 1, none⟩ = some (.slice R1 xb.length s1) := by rw [hSw.cell hg2]; exact y1
          have f7 : w.cell? ⟨g2, o2 + k * 3 + 2, none⟩ = some (.slice R2 xa.length s2) := by rw [hSw.cell hg2]; exact y2
          go_simp
          (try with_reducible rfl)
        (try simp only [Act.put, List.getElem_toArray, List.getElem_cons_succ, List.getElem_cons_zero, List.setIfInBounds_toArray, List.set_cons_zero, List.set_cons_succ])
        refine wpAnyZ_two (i := 10) (j := 11) (by kernel_rfl) ?_ ?_
        · refine zstep rfl (fun K hK => ?_)
          go_simp
          have hb : Below Wr.heap.size Wr (Wr.alloc (.cells #[.int .i64 0, .slice none 0 0, .slice none 0 0] 24)) := (Below.refl _ _).alloc (Nat.le_refl _) _
          have Hx : (Wr.alloc (.cells #[.int .i64 0, .slice none 0 0, .slice none 0 0] 24)).heap[Wr.heap.size]? = some (.cells #[.int .i64 0, .slice none 0 0, .slice none 0 0] 24 (0, 0)) := heap_new Wr _
          have hltx : Wr.heap.size < (Wr.alloc (.cells #[.int .i64 0, .slice none 0 0, .slice none 0 0] 24)).heap.size := by simp
          have hgz := HB.out.size
          replace HB : Hid (Below Wr.heap.size Wr (Wr.alloc (.cells #[.int .i64 0, .slice none 0 0, .slice none 0 0] 24))) := Lib.hid (HB.out.trans (hb.mono HB.out.size))
          clear hb
          generalize (Wr.alloc (.cells #[.int .i64 0, .slice none 0 0, .slice none 0 0] 24)) = v1 at *
          generalize hgq : Wr.heap.size = gx at Hx hltx ⊢
          have hgx : Wr.heap.size ≤ gx := by rw [← hgq]; exact hgz
          clear hgq hgz
          refine hK.out _ _ (fun _ => HB.out) (fun hH => ?_)
          replace hH := hH (by decide)
          clear hK K
          (try simp only [Act.put, List.getElem_toArray, List.getElem_cons_succ, List.getElem_cons_zero, List.setIfInBounds_toArray, List.set_cons_zero, List.set_cons_succ])
          refine wpAnyZ_one (i := 11) (by kernel_rfl) ?_
          refine zstep rfl (fun K hK => ?_)
          go_simp
          have hb : Below v1.heap.size v1 (v1.alloc (.cells #[.int .i64 0, .slice none 0 0, .slice none 0 0] 24)) := (Below.refl _ _).alloc (Nat.le_refl _) _
          have hne : gx ≠ v1.heap.size := Nat.ne_of_lt hltx
          replace Hx := heap_keep Hx hb
          clear hltx
          have Hy : (v1.alloc (.cells #[.int .i64 0, .slice none 0 0, .slice none 0 0] 24)).heap[v1.heap.size]? = some (.cells #[.int .i64 0, .slice none 0 0, .slice none 0 0] 24 (0, 0)) := heap_new v1 _
          have hlty : v1.heap.size < (v1.alloc (.cells #[.int .i64 0, .slice none 0 0, .slice none 0 0] 24)).heap.size := by simp
          have hgz := HB.out.size
          replace HB : Hid (Below Wr.heap.size Wr (v1.alloc (.cells #[.int .i64 0, .slice none 0 0, .slice none 0 0] 24))) := Lib.hid (HB.out.trans (hb.mono HB.out.size))
          clear hb
          generalize (v1.alloc (.cells #[.int .i64 0, .slice none 0 0, .slice none 0 0] 24)) = v2 at *
          generalize hgq : v1.heap.size = gy at Hy hlty hne ⊢
          have hgy : Wr.heap.size ≤ gy := by rw [← hgq]; exact hgz
          clear hgq hgz
          refine hK.out _ _ (fun _ => HB.out) (fun hH => ?_)
          replace hH := hH (by decide)
          clear hK K
          (try simp only [Act.put, List.getElem_toArray, List.getElem_cons_succ, List.getElem_cons_zero, List.setIfInBounds_toArray, List.set_cons_zero, List.set_cons_succ])
          refine wpAnyZ_one (i := 12) (by kernel_rfl) ?_
          refine zstep rfl (fun K hK => ?_)
          have u0 := (blk_of_heap Hx).at0.1
          have u1 := (blk_of_heap Hx).at1.1
          have u2 := (blk_of_heap Hx).at2.1
          have z0 := (blk_of_heap Hx).at0.2
          have z1 := (blk_of_heap Hx).at1.2
          have z2 := (blk_of_heap Hx).at2.2
          have hgs := (blk_of_heap Hx).1
          go_simp
          replace Hy := (set3_else (W := v2) (.int .i64 xc) (.slice P1 xb.length q1) (.slice P2 xa.length q2) hne.symm).trans Hy
          replace HB : Hid (Below Wr.heap.size Wr (((v2.setCell ⟨gx, 0, none⟩ (.int .i64 xc)).setCell ⟨gx, 1, none⟩ (.slice P1 xb.length q1)).setCell ⟨gx, 2, none⟩ (.slice P2 xa.length q2))) := Lib.hid ((Go.Proofs.Ytbellnanikaffaa.set3 Hx (.int .i64 xc) (.slice P1 xb.length q1) (.slice P2 xa.length q2)).2.2 _ _ HB.out hgx)
          replace Hx := (Go.Proofs.Ytbellnanikaffaa.set3 Hx (.int .i64 xc) (.slice P1 xb.length q1) (.slice P2 xa.length q2)).1
          clear u0 u1 u2 z0 z1 z2 hgs
          generalize (((v2.setCell ⟨gx, 0, none⟩ (.int .i64 xc)).setCell ⟨gx, 1, none⟩ (.slice P1 xb.length q1)).setCell ⟨gx, 2, none⟩ (.slice P2 xa.length q2)) = v3 at *
          refine hK.out _ _ (fun _ => HB.out) (fun hH => ?_)
          replace hH := hH (by decide)
          clear hK K
          (try simp only [Act.put, List.getElem_toArray, List.getElem_cons_succ, List.getElem_cons_zero, List.setIfInBounds_toArray, List.set_cons_zero, List.set_cons_succ])
          refine wpAnyZ_one (i := 13) (by kernel_rfl) ?_
          refine zstep rfl (fun K hK => ?_)
          have u0 := (blk_of_heap Hy).at0.1
          have u1 := (blk_of_heap Hy).at1.1
          have u2 := (blk_of_heap Hy).at2.1
          have z0 := (blk_of_heap Hy).at0.2
          have z1 := (blk_of_heap Hy).at1.2
          have z2 := (blk_of_heap Hy).at2.2
          have hgs := (blk_of_heap Hy).1
          go_simp
          replace Hx := (set3_else (W := v3) (.int .i64 xc) (.slice R1 xb.length s1) (.slice R2 xa.length s2) hne).trans Hx
          replace HB : Hid (Below Wr.heap.size Wr (((v3.setCell ⟨gy, 0, none⟩ (.int .i64 xc)).setCell ⟨gy, 1, none⟩ (.slice R1 xb.length s1)).setCell ⟨gy, 2, none⟩ (.slice R2 xa.length s2))) := Lib.hid ((Go.Proofs.Ytbellnanikaffaa.set3 Hy (.int .i64 xc) (.slice R1 xb.length s1) (.slice R2 xa.length s2)).2.2 _ _ HB.out hgy)
          replace Hy := (Go.Proofs.Ytbellnanikaffaa.set3 Hy (.int .i64 xc) (.slice R1 xb.length s1) (.slice R2 xa.length s2)).1
          clear u0 u1 u2 z0 z1 z2 hgs
          generalize (((v3.setCell ⟨gy, 0, none⟩ (.int .i64 xc)).setCell ⟨gy, 1, none⟩ (.slice R1 xb.length s1)).setCell ⟨gy, 2, none⟩ (.slice R2 xa.length s2)) = v4 at *
          refine hK.out _ _ (fun _ => HB.out) (fun hH => ?_)
          replace hH := hH (by decide)
          clear hK K
          (try simp only [Act.put, List.getElem_toArray, List.getElem_cons_succ, List.getElem_cons_zero, List.setIfInBounds_toArray, List.set_cons_zero, List.set_cons_succ])
          refine wpAnyZ_done (by kernel_rfl) ?_ _
          clear hH
          go_wp2_with (fail)
          go_meet
          exact ⟨_, _, rfl, rfl, Lib.hid Hx, Lib.hid Hy, HB⟩
        · refine zstep rfl (fun K hK => ?_)
          go_simp
          have hb : Below Wr.heap.size Wr (Wr.alloc (.cells #[.int .i64 0, .slice none 0 0, .slice none 0 0] 24)) := (Below.refl _ _).alloc (Nat.le_refl _) _
          have Hy : (Wr.alloc (.cells #[.int .i64 0, .slice none 0 0, .slice none 0 0] 24)).heap[Wr.heap.size]? = some (.cells #[.int .i64 0, .slice none 0 0, .slice none 0 0] 24 (0, 0)) := heap_new Wr _
          have hlty : Wr.heap.size < (Wr.alloc (.cells #[.int .i64 0, .slice none 0 0, .slice none 0 0] 24)).heap.size := by simp
          have hgz := HB.out.size
          replace HB : Hid (Below Wr.heap.size Wr (Wr.alloc (.cells #[.int .i64 0, .slice none 0 0, .slice none 0 0] 24))) := Lib.hid (HB.out.trans (hb.mono HB.out.size))
          clear hb
          generalize (Wr.alloc (.cells #[.int .i64 0, .slice none 0 0, .slice none 0 0] 24)) = v5 at *
          generalize hgq : Wr.heap.size = gy at Hy hlty ⊢
          have hgy : Wr.heap.size ≤ gy := by rw [← hgq]; exact hgz
          clear hgq hgz
          refine hK.out _ _ (fun _ => HB.out) (fun hH => ?_)
          replace hH := hH (by decide)
          clear hK K
          (try simp only [Act.put, List.getElem_toArray, List.getElem_cons_succ, List.getElem_cons_zero, List.setIfInBounds_toArray, List.set_cons_zero, List.set_cons_succ])
          refine wpAnyZ_one (i := 10) (by kernel_rfl) ?_
          refine zstep rfl (fun K hK => ?_)
          go_simp
          have hb : Below v5.heap.size v5 (v5.alloc (.cells #[.int .i64 0, .slice none 0 0, .slice none 0 0] 24)) := (Below.refl _ _).alloc (Nat.le_refl _) _
          have hne : v5.heap.size ≠ gy := (Nat.ne_of_lt hlty).symm
          replace Hy := heap_keep Hy hb
          clear hlty
          have Hx : (v5.alloc (.cells #[.int .i64 0, .slice none 0 0, .slice none 0 0] 24)).heap[v5.heap.size]? = some (.cells #[.int .i64 0, .slice none 0 0, .slice none 0 0] 24 (0, 0)) := heap_new v5 _
          have hltx : v5.heap.size < (v5.alloc (.cells #[.int .i64 0, .slice none 0 0, .slice none 0 0] 24)).heap.size := by simp
          have hgz := HB.out.size
          replace HB : Hid (Below Wr.heap.size Wr (v5.alloc (.cells #[.int .i64 0, .slice none 0 0, .slice none 0 0] 24))) := Lib.hid (HB.out.trans (hb.mono HB.out.size))
          clear hb
          generalize (v5.alloc (.cells #[.int .i64 0, .slice none 0 0, .slice none 0 0] 24)) = v6 at *
          generalize hgq : v5.heap.size = gx at Hx hltx hne ⊢
          have hgx : Wr.heap.size ≤ gx := by rw [← hgq]; exact hgz
          clear hgq hgz
          refine hK.out _ _ (fun _ => HB.out) (fun hH => ?_)
          replace hH := hH (by decide)
          clear hK K
          (try simp only [Act.put, List.getElem_toArray, List.getElem_cons_succ, List.getElem_cons_zero, List.setIfInBounds_toArray, List.set_cons_zero, List.set_cons_succ])
          refine wpAnyZ_one (i := 12) (by kernel_rfl) ?_
          refine zstep rfl (fun K hK => ?_)
          have u0 := (blk_of_heap Hx).at0.1
          have u1 := (blk_of_heap Hx).at1.1
          have u2 := (blk_of_heap Hx).at2.1
          have z0 := (blk_of_heap Hx).at0.2
          have z1 := (blk_of_heap Hx).at1.2
          have z2 := (blk_of_heap Hx).at2.2
          have hgs := (blk_of_heap Hx).1
          go_simp
          replace Hy := (set3_else (W := v6) (.int .i64 xc) (.slice P1 xb.length q1) (.slice P2 xa.length q2) hne.symm).trans Hy
          replace HB : Hid (Below Wr.heap.size Wr (((v6.setCell ⟨gx, 0, none⟩ (.int .i64 xc)).setCell ⟨gx, 1, none⟩ (.slice P1 xb.length q1)).setCell ⟨gx, 2, none⟩ (.slice P2 xa.length q2))) := Lib.hid ((Go.Proofs.Ytbellnanikaffaa.set3 Hx (.int .i64 xc) (.slice P1 xb.length q1) (.slice P2 xa.length q2)).2.2 _ _ HB.out hgx)
          replace Hx := (Go.Proofs.Ytbellnanikaffaa.set3 Hx (.int .i64 xc) (.slice P1 xb.length q1) (.slice P2 xa.length q2)).1
          clear u0 u1 u2 z0 z1 z2 hgs
          generalize (((v6.setCell ⟨gx, 0, none⟩ (.int .i64 xc)).setCell ⟨gx, 1, none⟩ (.slice P1 xb.length q1)).setCell ⟨gx, 2, none⟩ (.slice P2 xa.length q2)) = v7 at *
          refine hK.out _ _ (fun _ => HB.out) (fun hH => ?_)
          replace hH := hH (by decide)
          clear hK K
          (try simp only [Act.put, List.getElem_toArray, List.getElem_cons_succ, List.getElem_cons_zero, List.setIfInBounds_toArray, List.set_cons_zero, List.set_cons_succ])
          refine wpAnyZ_one (i := 13) (by kernel_rfl) ?_
          refine zstep rfl (fun K hK => ?_)
          have u0 := (blk_of_heap Hy).at0.1
          have u1 := (blk_of_heap Hy).at1.1
          have u2 := (blk_of_heap Hy).at2.1
          have z0 := (blk_of_heap Hy).at0.2
          have z1 := (blk_of_heap Hy).at1.2
          have z2 := (blk_of_heap Hy).at2.2
          have hgs := (blk_of_heap Hy).1
          go_simp
          replace Hx := (set3_else (W := v7) (.int .i64 xc) (.slice R1 xb.length s1) (.slice R2 xa.length s2) hne).trans Hx
          replace HB : Hid (Below Wr.heap.size Wr (((v7.setCell ⟨gy, 0, none⟩ (.int .i64 xc)).setCell ⟨gy, 1, none⟩ (.slice R1 xb.length s1)).setCell ⟨gy, 2, none⟩ (.slice R2 xa.length s2))) := Lib.hid ((Go.Proofs.Ytbellnanikaffaa.set3 Hy (.int .i64 xc) (.slice R1 xb.length s1) (.slice R2 xa.length s2)).2.2 _ _ HB.out hgy)
          replace Hy := (Go.Proofs.Ytbellnanikaffaa.set3 Hy (.int .i64 xc) (.slice R1 xb.length s1) (.slice R2 xa.length s2)).1
          clear u0 u1 u2 z0 z1 z2 hgs
          generalize (((v7.setCell ⟨gy, 0, none⟩ (.int .i64 xc)).setCell ⟨gy, 1, none⟩ (.slice R1 xb.length s1)).setCell ⟨gy, 2, none⟩ (.slice R2 xa.length s2)) = v8 at *
          refine hK.out _ _ (fun _ => HB.out) (fun hH => ?_)
          replace hH := hH (by decide)
          clear hK K
          (try simp only [Act.put, List.getElem_toArray, List.getElem_cons_succ, List.getElem_cons_zero, List.setIfInBounds_toArray, List.set_cons_zero, List.set_cons_succ])
          refine wpAnyZ_done (by kernel_rfl) ?_ _
          clear hH
          go_wp2_with (fail)
          go_meet
          exact ⟨_, _, rfl, rfl, Lib.hid Hx, Lib.hid Hy, HB⟩
      case rest =>
        obtain ⟨gx, gy, rfl, rfl, HX, HY, HBc⟩ := hcut
        have HWc : Hid (Below ga w wc) := Lib.hid (HWd.out.trans (HBc.out.mono (by have := HWd.out.size; omega)))
        have HBe : Hid (Below w3.heap.size w3 wc) := Lib.hid (HBd.out.trans (HBc.out.mono HBd.out.size))
        clear x0 x1 x2 y0 y1 y2 m0 m1 HWd HBd HWr HBr HBc
        have c0 := (blk_of_heap HX.out).at0.1
        have c1 := (blk_of_heap HX.out).at1.1
        have c2 := (blk_of_heap HX.out).at2.1
        have d0 := (blk_of_heap HY.out).at0.1
        have d1 := (blk_of_heap HY.out).at1.1
        have d2 := (blk_of_heap HY.out).at2.1
        go_wp2_with (go_at_call 12; fail)
        (with_reducible refine (KB.out _ HWc.out).mono ?_)
        rintro e wd ⟨rfl, n4, rfl⟩
        have HWf : Hid (Below ga w (wc.drewN n4)) := Lib.hid (below_draws HWc.out n4)
        have HBf : Hid (Below w3.heap.size w3 (wc.drewN n4)) := Lib.hid (below_draws HBe.out n4)
        replace c2 : (wc.drewN n4).cell? ⟨gx, 2, none⟩ = _ := c2
        replace d2 : (wc.drewN n4).cell? ⟨gy, 2, none⟩ = _ := d2
        generalize wc.drewN n4 = wd at *
        go_wp2_with (go_at_call 12; fail)
        (with_reducible refine (KA.out _ HWf.out).mono ?_)
        rintro e we ⟨rfl, n5, rfl⟩
        have HBg : Hid (Below w3.heap.size w3 (wd.drewN n5)) := Lib.hid (below_draws HBf.out n5)
        generalize wd.drewN n5 = wf at *
        go_wp2_with (fail)
        go_roundw
        case rel => exact ⟨k + 1, by omega, by go_num, HBg⟩
        case measure => simp [intOf]; omega
    · go_wp2
      go_ret
      exact ⟨rfl, by rw [hga]; exact HWr.out⟩
end Go.Proofs.Ytbellnanikaffaa
