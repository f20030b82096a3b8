/- Tidy, Inverse, Empty of an edit (laid by gen_dtidy.py). -/
import Derived.Test.YtneelmmikaefgaaDInv
namespace Go.Proofs.Ytneelmmikaefgaa
open Go.RowKit
set_option linter.unusedSimpArgs false

def offH (l : List Hold) : List Hold := l.filter fun h => decide (h.b ≠ h.a)
def offT (l : List Turn) : List Turn := l.filter fun t => decide (t.b ≠ t.a)
theorem offH_skip {l : List Hold} {x : Hold} (h : x.b = x.a) : offH (l ++ [x]) = offH l := by simp [offH, List.filter_append, h]
theorem offH_put {l : List Hold} {x : Hold} (h : ¬ x.b = x.a) : offH (l ++ [x]) = offH l ++ [x] := by simp [offH, List.filter_append, h]
theorem offT_skip {l : List Turn} {x : Turn} (h : x.b = x.a) : offT (l ++ [x]) = offT l := by simp [offT, List.filter_append, h]
theorem offT_put {l : List Turn} {x : Turn} (h : ¬ x.b = x.a) : offT (l ++ [x]) = offT l ++ [x] := by simp [offT, List.filter_append, h]
theorem TOwn.grown {B : Nat} {W W' : World} {t : Turn} {row : Option Nat} (h : TOwn B W t) (hg : W.grownBy W' row) (hr : ∀ g, row = some g → ∃ e, Typed W g e ∧ e ≠ 3) : TOwn B W' t :=
  ⟨own_keep h.1 hg hr, own_keep h.2 hg hr⟩
theorem sort_pl {f l : List Turn} (h : f.map Turn.pl = l.map Turn.pl) : (sortBy Turn.c f).map Turn.pl = (sortBy Turn.c l).map Turn.pl := by
  have e : ∀ l : List Turn, (sortBy Turn.c l).map Turn.pl = sortBy Prod.fst (l.map Turn.pl) := fun l => sortBy_map Prod.fst Turn.pl l
  rw [e, e, h]
theorem outH_cat {B : Nat} {W : World} {v : Value} {l : List Hold} {x : Hold} (h : W.ownsRow B 35 3 v (l.length + 1) (l.flatMap Hold.cells ++ x.cells)) : OutH B W v (l ++ [x]) := by
  unfold OutH
  rw [List.length_append, List.flatMap_append]
  simpa using h
theorem outT_cat {B : Nat} {W : World} {v : Value} {l : List Turn} {x : Turn} (h : W.ownsRow B 27 3 v (l.length + 1) (l.flatMap Turn.cells ++ x.cells)) : OutT B W v (l ++ [x]) := by
  unfold OutT
  rw [List.length_append, List.flatMap_append]
  simpa using h
set_option maxRecDepth 100000 in
set_option maxHeartbeats 4000000 in
theorem tidyHolds_any (A : Option Addr) (cap : Nat) (l : List Hold) (w : World) (h : Rows w 3 Hold.cells (.slice A l.length cap) l) (hl : l.length < 20) :
    Calls Try.prog 35 #[.slice A l.length cap] w fun e w' => ∃ v, e = .returned v ∧ OutH w.heap.size w' v (holdsL l) ∧ Below w.heap.size w w' := by
  obtain ⟨i0, hi0, hz0, hz1, hz2⟩ := info_parts hold_info
  have HR := Lib.hid h
  clear h
  go_enter Try.func35, Try.ntmps35
  go_wp2
  go_loopw [3, 8] (fun ov kv wr => ∃ k : Nat, k ≤ l.length ∧ kv = .int .i64 k ∧ Hid (OutH w.heap.size wr ov (offH (l.take k))) ∧ Hid (Below w.heap.size w wr)) (fun _ kv _ => l.length - (intOf kv).toNat)
  case atStart => exact ⟨0, Nat.zero_le _, rfl, Lib.hid (World.ownsRow_nil _ _ _ _), Lib.hid (Below.refl _ _)⟩
  case round =>
    obtain ⟨k, hk, rfl, HO, HB⟩ := hrel
    by_cases hlt : k < l.length
    · obtain ⟨B, o, rfl, hB, d0, d1, d2⟩ := HR.out.hold hlt
      have c0 : wr.cell? ⟨B, o + k * 3, none⟩ = some (.int .i64 l[k].n) := by rw [HB.out.cell hB]; exact d0
      have c1 : wr.cell? ⟨B, o + k * 3 + 1, none⟩ = some (.int .i64 l[k].b) := by rw [HB.out.cell hB]; exact d1
      have c2 : wr.cell? ⟨B, o + k * 3 + 2, none⟩ = some (.int .i64 l[k].a) := by rw [HB.out.cell hB]; exact d2
      have HT : Hid (l.take (k + 1) = l.take k ++ [l[k]]) := take_snoc hlt
      have HL : Hid ((offH (l.take k)).length ≤ l.length) := Lib.hid (Nat.le_trans (List.length_filter_le _ _) (by rw [List.length_take]; omega))
      clear d0 d1 d2
      generalize l[k] = x at *
      have HB1 := Lib.hid (HB.out.alloc HB.out.size (.cells #[.int .i64 x.n, .int .i64 x.b, .int .i64 x.a] 35))
      have HO1 := Lib.hid (show OutH _ _ _ _ from World.ownsRow.alloc HO.out (.cells #[.int .i64 x.n, .int .i64 x.b, .int .i64 x.a] 35))
      by_cases h1 : x.b = x.a
      · have t1 : (x.b == x.a) = true := by simpa using h1
        have t2 : (x.b != x.a) = false := by simpa using h1
        have HE := Lib.hid h1
        clear h1
        go_wp2
        go_roundw
        case rel => exact ⟨k + 1, by omega, by go_num, Lib.hid (by rw [HT.out, offH_skip HE.out]; exact HO1.out), HB1⟩
        case measure => simp [intOf]; omega
      · have t1 : (x.b == x.a) = false := by simpa using h1
        have t2 : (x.b != x.a) = true := by simpa using h1
        have HE : Hid (offH (l.take k ++ [x]) = offH (l.take k) ++ [x]) := Lib.hid (offH_put h1)
        clear h1
        generalize offH (l.take k) = q at *
        have HB2 := Lib.hid (HB1.out.alloc HB1.out.size (.cells #[.int .i64 x.n, .int .i64 x.b, .int .i64 x.a] 35))
        have OW : Hid (((wr.alloc (.cells #[.int .i64 x.n, .int .i64 x.b, .int .i64 x.a] 35)).alloc (.cells #[.int .i64 x.n, .int .i64 x.b, .int .i64 x.a] 35)).ownsRow w.heap.size 35 3 _ q.length (q.flatMap Hold.cells)) := Lib.hid (World.ownsRow.alloc HO1.out (.cells #[.int .i64 x.n, .int .i64 x.b, .int .i64 x.a] 35))
        have RN : Hid (Reads ((wr.alloc (.cells #[.int .i64 x.n, .int .i64 x.b, .int .i64 x.a] 35)).alloc (.cells #[.int .i64 x.n, .int .i64 x.b, .int .i64 x.a] 35)) ((wr.alloc (.cells #[.int .i64 x.n, .int .i64 x.b, .int .i64 x.a] 35)).heap.size + 1) 3 (some ⟨(wr.alloc (.cells #[.int .i64 x.n, .int .i64 x.b, .int .i64 x.a] 35)).heap.size, 0, none⟩) 1 x.cells) := Lib.hid (reads_new (wr.alloc (.cells #[.int .i64 x.n, .int .i64 x.b, .int .i64 x.a] 35)) x.cells 35)
        have hqn := HL.out
        go_wp2_with (at_builtin; refine wpList_append_any _ rfl _ _ 29 rfl w.heap.size 35 i0 _ 3 24 Try.underlying29 hi0 hz0 hz1 hz2 rfl (by decide) _ q.length (q.flatMap Hold.cells) rfl OW.out _ _ 1 1 x.cells ?c0 RN.out ?c1 ?c2 ?c3 ?c4 ?_)
        case c0 => simp [Act.eval, Act.put]
        case c1 => exact fun u hu => hold_one [x] u (by simpa using hu)
        case c2 => unfold maxLen; omega
        case c3 => omega
        case c4 => exact HB2.out.size
        intro v' w4 hown hgrow hob
        have HO4 := Lib.hid (outH_cat hown)
        have HB4 : Hid (Below w.heap.size w w4) := Lib.hid (HB2.out.grown hgrow HB2.out.size (fun g hg => (own_typed OW.out hg).2))
        clear hown hgrow hob
        go_wp2
        go_roundw
        case rel => exact ⟨k + 1, by omega, by go_num, Lib.hid (by rw [HT.out, HE.out]; exact HO4.out), HB4⟩
        case measure => simp [intOf]; omega
    · have hall : l.take k = l := List.take_of_length_le (by omega)
      rw [hall] at HO
      have KS := Lib.hid (holdS_sort w.heap.size _ (offH l) wr HO.out (Nat.lt_of_le_of_lt (List.length_filter_le _ _) hl))
      have HTy := Lib.hid (fun g hg => (own_typed (g := g) HO.out hg).2)
      obtain ⟨A2, c2, rfl, _⟩ := own_slice_n HO.out
      go_wp2_with (go_at_call 54; refine KS.out.mono ?_; rintro e w5 ⟨rfl, ho, hg⟩)
      have HF := Lib.hid ho
      have HB5 := Lib.hid (HB.out.grown hg HB.out.size HTy.out)
      clear ho hg
      go_ret
      exact ⟨_, rfl, HF.out, HB5.out⟩
set_option maxRecDepth 100000 in
set_option maxHeartbeats 4000000 in
theorem tidyTurns_any (A : Option Addr) (cap : Nat) (l : List Turn) (w : World) (h : Turns w (.slice A l.length cap) l) (hl : l.length < 20) (hm : ∀ t ∈ l, t.b.length ≤ 1000000 ∧ t.a.length ≤ 1000000) :
    Calls Try.prog 34 #[.slice A l.length cap] w fun e w' => ∃ v f, e = .returned v ∧ NewT w.heap.size w' v f ∧ f.map Turn.pl = (tidyT l).map Turn.pl ∧ Below w.heap.size w w' := by
  obtain ⟨i0, hi0, hz0, hz1, hz2⟩ := info_parts turn_info
  have HR := Lib.hid h
  have HM := Lib.hid hm
  clear h hm
  go_enter Try.func34, Try.ntmps34
  go_wp2
  go_loopw [3, 8] (fun ov kv wr => ∃ (k : Nat) (q : List Turn), k ≤ l.length ∧ kv = .int .i64 k ∧ Hid (q.map Turn.pl = (offT (l.take k)).map Turn.pl) ∧ Hid (NewT w.heap.size wr ov q) ∧ Hid (Below w.heap.size w wr)) (fun _ kv _ => l.length - (intOf kv).toNat)
  case atStart => exact ⟨0, [], Nat.zero_le _, rfl, Lib.hid rfl, Lib.hid ⟨World.ownsRow_nil _ _ _ _, fun t ht => by cases ht⟩, Lib.hid (Below.refl _ _)⟩
  case round =>
    obtain ⟨k, q, hk, rfl, HF, HO, HB⟩ := hrel
    have HL : Hid (q.length ≤ l.length) := Lib.hid (by
      have := congrArg List.length HF.out
      rw [List.length_map, List.length_map] at this
      rw [this]
      exact Nat.le_trans (List.length_filter_le _ _) (by rw [List.length_take]; omega))
    by_cases hlt : k < l.length
    · obtain ⟨B, o, rfl, hB, d0, d1, d2⟩ := HR.out.1.turn hlt
      have c0 : wr.cell? ⟨B, o + k * 3, none⟩ = some (.int .i64 l[k].c) := by rw [HB.out.cell hB]; exact d0
      have c1 : wr.cell? ⟨B, o + k * 3 + 1, none⟩ = some l[k].x := by rw [HB.out.cell hB]; exact d1
      have c2 : wr.cell? ⟨B, o + k * 3 + 2, none⟩ = some l[k].y := by rw [HB.out.cell hB]; exact d2
      clear d0 d1 d2
      have HT : Hid (l.take (k + 1) = l.take k ++ [l[k]]) := take_snoc hlt
      have HX := Lib.hid (HR.out.2 _ (List.getElem_mem hlt))
      have hlen := HM.out _ (List.getElem_mem hlt)
      generalize l[k] = x at *
      obtain ⟨xc, xx, xy, xb, xa⟩ := x
      obtain ⟨⟨A1, p1, e1, R1⟩, A2, p2, e2, R2⟩ := HX.out
      dsimp only at e1 e2 c0 c1 c2 hlen
      subst e1 e2
      have L0 := Lib.hid (fun W (hb : Below w.heap.size w W) => equal_own A1 A2 p1 p2 xb xa W ((show Recs w 1 num_ _ xb from ⟨A1, p1, rfl, R1⟩).below hb) ((show Recs w 1 num_ _ xa from ⟨A2, p2, rfl, R2⟩).below hb) (by omega) (by omega))
      have L1 := Lib.hid (fun W (hb : Below w.heap.size w W) => clone_own A1 p1 xb W ((show Recs w 1 num_ _ xb from ⟨A1, p1, rfl, R1⟩).below hb) hlen.1)
      have L2 := Lib.hid (fun W (hb : Below w.heap.size w W) => clone_own A2 p2 xa W ((show Recs w 1 num_ _ xa from ⟨A2, p2, rfl, R2⟩).below hb) hlen.2)
      clear R1 R2 HX hlen
      have BX := Lib.hid (blk_new wr #[.int .i64 xc, .slice A1 xb.length p1, .slice A2 xa.length p2] 27)
      have HB1 := Lib.hid (HB.out.alloc HB.out.size (.cells #[.int .i64 xc, .slice A1 xb.length p1, .slice A2 xa.length p2] 27))
      have HO1 := Lib.hid (HO.out.below ((Below.refl wr.heap.size wr).alloc (Nat.le_refl _) (.cells #[.int .i64 xc, .slice A1 xb.length p1, .slice A2 xa.length p2] 27)))
      go_upto_region 5 with (fail)
      generalize hw1 : wr.alloc (.cells #[.int .i64 xc, .slice A1 xb.length p1, .slice A2 xa.length p2] 27) = w1 at *
      have a1 : w1.cell? ⟨wr.heap.size, 1, none⟩ = some (.slice A1 xb.length p1) := (BX.out.2 1 (by simp)).1
      have a2 : w1.cell? ⟨wr.heap.size, 2, none⟩ = some (.slice A2 xa.length p2) := (BX.out.2 2 (by simp)).1
      have a0 : w1.cell? ⟨wr.heap.size, 0, none⟩ = some (.int .i64 xc) := (BX.out.2 0 (by simp)).1
      have hT1 : wr.heap.size < w1.heap.size := BX.out.1
      have HNE0 := Lib.hid (fun g hg => (HO.out.1.lt g hg).2)
      generalize wr.heap.size = T at *
      clear hw1 c0 c1 c2 BX HO HB
      by_cases h1 : xb = xa
      · have HE : Hid (offT (l.take k ++ [⟨xc, .slice A1 xb.length p1, .slice A2 xa.length p2, xb, xa⟩]) = offT (l.take k)) := Lib.hid (offT_skip h1)
        have t1 : decide (xb = xa) = true := by simpa using h1
        clear h1
        go_wp2_with (go_at_call 50; refine (L0.out _ HB1.out).mono ?_; rintro e w2 ⟨rfl, n, rfl⟩)
        go_roundw
        case rel => exact ⟨k + 1, q, by omega, by go_num, Lib.hid (by rw [HT.out, HE.out]; exact HF.out), Lib.hid (HO1.out.below (below_draws (Below.refl _ _) n)), Lib.hid (below_draws HB1.out n)⟩
        case measure => simp [intOf]; omega
      · have HE : Hid (offT (l.take k ++ [⟨xc, .slice A1 xb.length p1, .slice A2 xa.length p2, xb, xa⟩]) = offT (l.take k) ++ [⟨xc, .slice A1 xb.length p1, .slice A2 xa.length p2, xb, xa⟩]) := Lib.hid (offT_put h1)
        have t1 : decide (xb = xa) = false := by simpa using h1
        clear h1
        go_upto_region 6 with (go_at_call 50; refine (L0.out _ HB1.out).mono ?_; rintro e w2 ⟨rfl, n, rfl⟩)
        have a1 : (w1.drewN n).drew.cell? ⟨T, 1, none⟩ = some (.slice A1 xb.length p1) := a1
        have a2 : (w1.drewN n).drew.cell? ⟨T, 2, none⟩ = some (.slice A2 xa.length p2) := a2
        have a0 : (w1.drewN n).drew.cell? ⟨T, 0, none⟩ = some (.int .i64 xc) := a0
        have HB3 : Hid (Below w.heap.size w (w1.drewN n).drew) := Lib.hid (below_draws HB1.out n).drew
        have HO3 : Hid (NewT w.heap.size (w1.drewN n).drew _ q) := Lib.hid (HO1.out.below (below_draws (Below.refl _ _) n).drew)
        have hT3 : T < (w1.drewN n).drew.heap.size := hT1
        obtain ⟨AQ, CQ, rfl, _⟩ := own_slice_n HO3.out.1
        have HNE : Hid (∀ g, (Value.slice AQ q.length CQ).ownBlock = some g → g ≠ T) := Lib.hid (fun g hg => Nat.ne_of_lt (HNE0.out g hg))
        refine wp_region_z (S := (fun W => W.cell? ⟨T, 0, none⟩ = some (.int .i64 xc) ∧ W.cell? ⟨T, 1, none⟩ = some (.slice A1 xb.length p1) ∧ W.cell? ⟨T, 2, none⟩ = some (.slice A2 xa.length p2))) (z := 13) (by kernel_rfl) ⟨a0, a1, a2⟩ (fun hH => ?_)
        have SS := Lib.hid (fun W (hb : Below (w1.drewN n).drew.heap.size (w1.drewN n).drew W) => (⟨by rw [hb.cell hT3]; exact a0, by rw [hb.cell hT3]; exact a1, by rw [hb.cell hT3]; exact a2⟩ : W.cell? ⟨T, 0, none⟩ = some (.int .i64 xc) ∧ W.cell? ⟨T, 1, none⟩ = some (.slice A1 xb.length p1) ∧ W.cell? ⟨T, 2, none⟩ = some (.slice A2 xa.length p2)))
        generalize (w1.drewN n).drew = w3 at *
        refine wpAnyZ_takeS (i := 0) (v := ?_) rfl (by kernel_rfl) (by kernel_rfl) (by kernel_rfl) (by kernel_rfl) (fun _ _ _ h => h) (gives_value (by rfl) ?_) (by assumption) ?_
        rotate_left
        · intro w hSw
          obtain ⟨s0, s1, s2⟩ := hSw
          go_simp
          (try with_reducible rfl)
        (try simp only [Act.put, List.getElem_toArray, List.getElem_cons_succ, List.getElem_cons_zero, List.setIfInBounds_toArray, List.set_cons_zero, List.set_cons_succ])
        refine wpAnyZ_takeS (i := 1) (v := ?_) rfl (by kernel_rfl) (by kernel_rfl) (by kernel_rfl) (by kernel_rfl) (fun _ _ _ h => h) (gives_value (by rfl) ?_) (by assumption) ?_
        rotate_left
        · intro w hSw
          obtain ⟨s0, s1, s2⟩ := hSw
          go_simp
          (try with_reducible rfl)
        (try simp only [Act.put, List.getElem_toArray, List.getElem_cons_succ, List.getElem_cons_zero, List.setIfInBounds_toArray, List.set_cons_zero, List.set_cons_succ])
        refine wpAnyZ_takeS (i := 2) (v := ?_) rfl (by kernel_rfl) (by kernel_rfl) (by kernel_rfl) (by kernel_rfl) (fun _ _ _ h => h) (gives_value (by rfl) ?_) (by assumption) ?_
        rotate_left
        · intro w hSw
          obtain ⟨s0, s1, s2⟩ := hSw
          go_simp
          (try with_reducible rfl)
        (try simp only [Act.put, List.getElem_toArray, List.getElem_cons_succ, List.getElem_cons_zero, List.setIfInBounds_toArray, List.set_cons_zero, List.set_cons_succ])
        refine wpAnyZ_takeS (i := 3) (v := ?_) rfl (by kernel_rfl) (by kernel_rfl) (by kernel_rfl) (by kernel_rfl) (fun _ _ _ h => h) (gives_value (by rfl) ?_) (by assumption) ?_
        rotate_left
        · intro w hSw
          obtain ⟨s0, s1, s2⟩ := hSw
          go_simp
          (try with_reducible rfl)
        (try simp only [Act.put, List.getElem_toArray, List.getElem_cons_succ, List.getElem_cons_zero, List.setIfInBounds_toArray, List.set_cons_zero, List.set_cons_succ])
        refine wpAnyZ_takeS (i := 4) (v := ?_) rfl (by kernel_rfl) (by kernel_rfl) (by kernel_rfl) (by kernel_rfl) (fun _ _ _ h => h) (gives_value (by rfl) ?_) (by assumption) ?_
        rotate_left
        · intro w hSw
          obtain ⟨s0, s1, s2⟩ := hSw
          go_simp
          (try with_reducible rfl)
        (try simp only [Act.put, List.getElem_toArray, List.getElem_cons_succ, List.getElem_cons_zero, List.setIfInBounds_toArray, List.set_cons_zero, List.set_cons_succ])
        refine wpAnyZ_takeS (i := 6) (v := ?_) rfl (by kernel_rfl) (by kernel_rfl) (by kernel_rfl) (by kernel_rfl) (fun _ _ _ h => h) (gives_value (by rfl) ?_) (by assumption) ?_
        rotate_left
        · intro w hSw
          obtain ⟨s0, s1, s2⟩ := hSw
          go_simp
          (try with_reducible rfl)
        (try simp only [Act.put, List.getElem_toArray, List.getElem_cons_succ, List.getElem_cons_zero, List.setIfInBounds_toArray, List.set_cons_zero, List.set_cons_succ])
        refine wpAnyZ_takeS (i := 7) (v := ?_) rfl (by kernel_rfl) (by kernel_rfl) (by kernel_rfl) (by kernel_rfl) (fun _ _ _ h => h) (gives_value (by rfl) ?_) (by assumption) ?_
        rotate_left
        · intro w hSw
          obtain ⟨s0, s1, s2⟩ := hSw
          go_simp
          (try with_reducible rfl)
        (try simp only [Act.put, List.getElem_toArray, List.getElem_cons_succ, List.getElem_cons_zero, List.setIfInBounds_toArray, List.set_cons_zero, List.set_cons_succ])
        refine wpAnyZ_one (i := 5) (by kernel_rfl) ?_
        refine zstep rfl (fun K hK => ?_)
        go_simp
        (with_reducible refine (L1.out _ HB3.out).mono ?_)
        rintro e w4 ⟨vb, rfl, ho, hb⟩
        have HG4 : Hid (Below w3.heap.size w3 w4) := Lib.hid hb
        have HB4 : Hid (Below w.heap.size w w4) := Lib.hid (HB3.out.trans (hb.mono HB3.out.size))
        have HO4 := Lib.hid (HO3.out.below hb)
        have HA4 := Lib.hid (own_lower ho HB3.out.size)
        clear ho hb
        obtain ⟨Ab, Cb, rfl, _⟩ := own_slice_n HA4.out
        refine hK.out _ _ (fun _ => SS.out _ HG4.out) (fun hH => ?_)
        replace hH := hH (by decide)
        clear hK K
        (try simp only [Act.put, List.getElem_toArray, List.getElem_cons_succ, List.getElem_cons_zero, List.setIfInBounds_toArray, List.set_cons_zero, List.set_cons_succ])
        refine wpAnyZ_one (i := 8) (by kernel_rfl) ?_
        refine zstep rfl (fun K hK => ?_)
        go_simp
        (with_reducible refine (L2.out _ HB4.out).mono ?_)
        rintro e w5 ⟨va, rfl, ho, hb⟩
        have HG5 : Hid (Below w3.heap.size w3 w5) := Lib.hid (HG4.out.trans (hb.mono HG4.out.size))
        have HB5 : Hid (Below w.heap.size w w5) := Lib.hid (HB4.out.trans (hb.mono HB4.out.size))
        have HO5 := Lib.hid (HO4.out.below hb)
        have HA5 := Lib.hid (own_below HA4.out hb)
        have HC5 := Lib.hid (own_lower ho HB4.out.size)
        clear ho hb
        obtain ⟨Aa, Ca, rfl, _⟩ := own_slice_n HC5.out
        refine hK.out _ _ (fun _ => SS.out _ HG5.out) (fun hH => ?_)
        replace hH := hH (by decide)
        clear hK K
        (try simp only [Act.put, List.getElem_toArray, List.getElem_cons_succ, List.getElem_cons_zero, List.setIfInBounds_toArray, List.set_cons_zero, List.set_cons_succ])
        refine wpAnyZ_takeS (i := 9) (v := ?_) rfl (by kernel_rfl) (by kernel_rfl) (by kernel_rfl) (by kernel_rfl) (fun _ _ _ h => h) (gives_value (by rfl) ?_) (by assumption) ?_
        rotate_left
        · intro w hSw
          obtain ⟨s0, s1, s2⟩ := hSw
          go_simp
          (try with_reducible rfl)
        (try simp only [Act.put, List.getElem_toArray, List.getElem_cons_succ, List.getElem_cons_zero, List.setIfInBounds_toArray, List.set_cons_zero, List.set_cons_succ])
        refine wpAnyZ_one (i := 10) (by kernel_rfl) ?_
        refine zstep rfl (fun K hK => ?_)
        go_simp
        have HG6 : Hid (Below w3.heap.size w3 (w5.alloc (.cells #[.int .i64 xc, .slice Ab xb.length Cb, .slice Aa xa.length Ca] 27))) := Lib.hid (HG5.out.alloc HG5.out.size _)
        have HB6 : Hid (Below w.heap.size w (w5.alloc (.cells #[.int .i64 xc, .slice Ab xb.length Cb, .slice Aa xa.length Ca] 27))) := Lib.hid (HB5.out.alloc HB5.out.size _)
        have HO6 := Lib.hid (HO5.out.below ((Below.refl w5.heap.size w5).alloc (Nat.le_refl _) (.cells #[.int .i64 xc, .slice Ab xb.length Cb, .slice Aa xa.length Ca] 27)))
        have HX6 : Hid (TOwn w.heap.size (w5.alloc (.cells #[.int .i64 xc, .slice Ab xb.length Cb, .slice Aa xa.length Ca] 27)) ⟨xc, .slice Ab xb.length Cb, .slice Aa xa.length Ca, xb, xa⟩) := Lib.hid (TOwn.below ⟨HA5.out, HC5.out⟩ ((Below.refl w5.heap.size w5).alloc (Nat.le_refl _) _))
        have RN : Hid (Reads (w5.alloc (.cells #[.int .i64 xc, .slice Ab xb.length Cb, .slice Aa xa.length Ca] 27)) (w5.heap.size + 1) 3 (some ⟨w5.heap.size, 0, none⟩) 1 [.int .i64 xc, .slice Ab xb.length Cb, .slice Aa xa.length Ca]) := Lib.hid (reads_new w5 [.int .i64 xc, .slice Ab xb.length Cb, .slice Aa xa.length Ca] 27)
        generalize w5.alloc (.cells #[.int .i64 xc, .slice Ab xb.length Cb, .slice Aa xa.length Ca] 27) = w6 at *
        refine hK.out _ _ (fun _ => SS.out _ HG6.out) (fun hH => ?_)
        replace hH := hH (by decide)
        clear hK K
        (try simp only [Act.put, List.getElem_toArray, List.getElem_cons_succ, List.getElem_cons_zero, List.setIfInBounds_toArray, List.set_cons_zero, List.set_cons_succ])
        have hql := HL.out
        refine wpAnyZ_one (i := 11) (by kernel_rfl) ?_
        refine zstep rfl (fun K hK => ?_)
        refine step_append_any w6 rfl (.tmp 18) (.tmp 28) 28 rfl w.heap.size 27 i0 _ 3 56 Try.underlying28 hi0 hz0 hz1 hz2 rfl (by decide) (.slice AQ q.length CQ) q.length (q.flatMap Turn.cells) (by rfl) HO6.out.1 (w5.heap.size + 1) (some ⟨w5.heap.size, 0, none⟩) 1 1 [.int .i64 xc, .slice Ab xb.length Cb, .slice Aa xa.length Ca] (by rfl) RN.out (by simp [Value.oneCell']) (by unfold maxLen; omega) (by omega) HB6.out.size ?_
        intro v1 w7 hown hgrow hob
        have HTy := Lib.hid (fun g hg => own_typed (g := g) HO6.out.1 hg)
        have HQ : Hid (∀ t ∈ q ++ [⟨xc, .slice Ab xb.length Cb, .slice Aa xa.length Ca, xb, xa⟩], TOwn w.heap.size w7 t) := Lib.hid (fun t ht => by
          have hgr : ∀ g, (Value.slice AQ q.length CQ).ownBlock = some g → ∃ e, Typed w6 g e ∧ e ≠ 3 := fun g hg => ⟨_, (HTy.out g hg).1, by decide⟩
          rcases List.mem_append.1 ht with ht | ht
          · exact (HO6.out.2 t ht).grown hgrow hgr
          · obtain rfl := List.mem_singleton.1 ht
            exact HX6.out.grown hgrow hgr)
        have HO7 : Hid (NewT w.heap.size w7 v1 (q ++ [⟨xc, .slice Ab xb.length Cb, .slice Aa xa.length Ca, xb, xa⟩])) := Lib.hid ⟨outT_cat hown, HQ.out⟩
        have HB7 : Hid (Below w.heap.size w w7) := Lib.hid (HB6.out.grown hgrow HB6.out.size (fun g hg => (HTy.out g hg).2))
        have S7 : Hid (w7.cell? ⟨T, 0, none⟩ = some (.int .i64 xc) ∧ w7.cell? ⟨T, 1, none⟩ = some (.slice A1 xb.length p1) ∧ w7.cell? ⟨T, 2, none⟩ = some (.slice A2 xa.length p2)) := Lib.hid (by
          obtain ⟨s0, s1, s2⟩ := SS.out _ HG6.out
          have hne : ∀ g, (Value.slice AQ q.length CQ).ownBlock = some g → g ≠ T := HNE.out
          have hT6 : T < w6.heap.size := Nat.lt_of_lt_of_le hT3 HG6.out.size
          have hb : w7.heap[T]? = w6.heap[T]? := hgrow.block T hT6 (fun e => hne T e.symm rfl)
          exact ⟨by rw [World.cell?_of_block hb]; exact s0, by rw [World.cell?_of_block hb]; exact s1, by rw [World.cell?_of_block hb]; exact s2⟩)
        clear hown hgrow hob
        refine hK.out _ _ (fun _ => S7.out) (fun hH => ?_)
        replace hH := hH (by decide)
        clear hK K
        (try simp only [Act.put, List.getElem_toArray, List.getElem_cons_succ, List.getElem_cons_zero, List.setIfInBounds_toArray, List.set_cons_zero, List.set_cons_succ])
        refine wpAnyZ_one (i := 12) (by kernel_rfl) ?_
        refine zstep rfl (fun K hK => ?_)
        go_simp
        refine hK.out _ _ (fun _ => S7.out) (fun hH => ?_)
        replace hH := hH (by decide)
        clear hK K
        (try simp only [Act.put, List.getElem_toArray, List.getElem_cons_succ, List.getElem_cons_zero, List.setIfInBounds_toArray, List.set_cons_zero, List.set_cons_succ])
        refine wpAnyZ_done (by kernel_rfl) ?_ _
        go_wp2
        go_roundw
        case rel => exact ⟨k + 1, _, by omega, by go_num, Lib.hid (by rw [HT.out, HE.out, List.map_append, List.map_append, HF.out]; rfl), HO7, HB7⟩
        case measure => simp [intOf]; omega
    · have hall : l.take k = l := List.take_of_length_le (by omega)
      rw [hall] at HF
      have hql := HL.out
      have KS := Lib.hid (turnS_sort w.heap.size _ q wr HO.out.1 (fun t ht => (HO.out.2 t ht).one) (by omega))
      have HTy := Lib.hid (fun g hg => own_typed (g := g) HO.out.1 hg)
      obtain ⟨A2, c2, rfl, _⟩ := own_slice_n HO.out.1
      go_wp2_with (go_at_call 51; refine KS.out.mono ?_; rintro e w5 ⟨rfl, ho, hg⟩)
      have HN : Hid (NewT w.heap.size w5 _ (sortBy Turn.c q)) := Lib.hid ⟨ho, fun t ht => (HO.out.2 t ((mem_sortBy _ _ _).1 ht)).grown hg (fun g hg' => ⟨_, (HTy.out g hg').1, by decide⟩)⟩
      have HB5 := Lib.hid (HB.out.grown hg HB.out.size (fun g hg => (HTy.out g hg).2))
      clear ho hg
      go_ret
      exact ⟨_, _, rfl, HN.out, sort_pl HF.out, HB5.out⟩
end Go.Proofs.Ytneelmmikaefgaa
