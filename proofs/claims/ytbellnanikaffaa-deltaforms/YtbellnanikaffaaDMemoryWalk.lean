/- DeltaMemory: what is told of an edit may be changed, and the edit is as it was (laid by gen_dmem.py). -/
import Derived.Test.YtbellnanikaffaaDLaw
import Derived.Deep.CutBlock
namespace Go.Proofs.Ytbellnanikaffaa
open Go.RowKit
set_option linter.unusedSimpArgs false

theorem wpAnyZ_three {P : Program} {ops : Array Oper} {Q : Exit → Act → World → Prop} {md : Region.Mode} {S : World → Prop} {z fuel i j k : Nat} {listed : Array Bool} {a : Act} {w : World} (hr : Region.ready md ops listed = [i, j, k]) (h1 : ZStep P md ops Q S z fuel listed a w i) (h2 : ZStep P md ops Q S z fuel listed a w j) (h3 : ZStep P md ops Q S z fuel listed a w k) : wpAnyZ P md ops Q S z (fuel + 1) listed a w :=
  ⟨(fun h0 => by rw [hr] at h0; cases h0), fun m hm => by
    rw [hr, List.mem_cons, List.mem_cons, List.mem_singleton] at hm
    rcases hm with rfl | rfl | rfl
    · exact h1
    · exact h2
    · exact h3⟩
theorem set3_else {W : World} {g g' : Nat} (x y z : Value) (hne : g' ≠ g) : (((W.setCell ⟨g, 0, none⟩ x).setCell ⟨g, 1, none⟩ y).setCell ⟨g, 2, none⟩ z).heap[g']? = W.heap[g']? := by
  have e : ∀ (W : World) (k : Nat) (u : Value), (W.setCell ⟨g, k, none⟩ u).heap[g']? = W.heap[g']? := fun W k u => by simp [World.setCell, Array.getElem?_modify, Ne.symm hne]
  rw [e, e, e]
theorem NewT.set3 {B g : Nat} {W : World} {v : Value} {l : List Turn} {a b c : Value} (h : NewT B W v l) (hg : W.heap[g]? = some (.cells #[a, b, c] 30 (0, 0))) (x y z : Value) : NewT B (((W.setCell ⟨g, 0, none⟩ x).setCell ⟨g, 1, none⟩ y).setCell ⟨g, 2, none⟩ z) v l := by
  obtain ⟨_, p2, _⟩ := Go.Proofs.Ytbellnanikaffaa.set3 hg x y z
  exact ⟨p2 _ _ _ _ _ _ (by decide) h.1, fun t ht => ⟨p2 _ _ _ _ _ _ (by decide) (h.2 t ht).1, p2 _ _ _ _ _ _ (by decide) (h.2 t ht).2⟩⟩
theorem one_pl {f : List Turn} {c : Int} {b a : List Int} (h : f.map Turn.pl = [(c, b, a)]) : ∃ x y, f = [⟨c, x, y, b, a⟩] := by
  rcases f with _ | ⟨t, _ | ⟨t2, f⟩⟩
  · simp at h
  · simp only [List.map_cons, List.map_nil] at h
    injection h with h _
    obtain ⟨tc, tx, ty, tb, ta⟩ := t
    injection h with h1 h2
    injection h2 with h2 h3
    dsimp only at h1 h2 h3
    subst h1 h2 h3
    exact ⟨tx, ty, rfl⟩
  · simp at h
theorem cell_stays {W : World} {q : Addr} (p : Addr) (v : Value) (h : ∃ u, W.cell? q = some u ∧ W.frozen? q = false) : ∃ u, (W.setCell p v).cell? q = some u ∧ (W.setCell p v).frozen? q = false := by
  obtain ⟨u, h1, h2⟩ := h
  by_cases e : q = p
  · subst e
    exact ⟨v, World.cell?_setCell_same' _ _ _ (by rw [h1]; rfl), by rw [World.frozen?_setCell]; exact h2⟩
  · exact ⟨u, by rw [World.cell?_setCell_other _ _ _ _ (by first | exact e | exact fun h => e h.symm)]; exact h1, by rw [World.frozen?_setCell]; exact h2⟩
def OneAt (B : Nat) (W : World) (g : Nat) (c : Int) (b a : List Int) : Prop := ∃ vt vl vi x y, W.heap[g]? = some (.cells #[vt, vl, vi] 30 (0, 0)) ∧ B ≤ g ∧ NewT B W vt [⟨c, x, y, b, a⟩]
set_option maxRecDepth 100000 in
set_option maxHeartbeats 4000000 in
theorem mem_walk (Aa : Option Addr) (ca : Nat) (a : List Int) (Ab : Option Addr) (cb : Nat) (b : List Int) (car : Int) (w : World) (h1 : Recs w 1 num_ (.slice Aa a.length ca) a) (h2 : Recs w 1 num_ (.slice Ab b.length cb) b) (l1 : a.length ≤ ca) (l2 : b.length ≤ cb) :
    Calls Try.prog 4 #[.slice Aa a.length ca, .slice Ab b.length cb, .int .i64 car] w fun e w' => e = .returned (.bool true) ∧ Below w.heap.size w w' := by
  obtain ⟨i0, hi0, hz0, hz1, hz2⟩ := info_parts int_info
  have HA := Lib.hid h1
  have HBb := Lib.hid h2
  have K1 := Lib.hid (cut7_any Aa ca a 6 w h1 l1 (by omega))
  clear h1 h2
  have ta : (a.take 6).length ≤ 6 := by rw [List.length_take]; omega
  have tb : (b.take 6).length ≤ 6 := by rw [List.length_take]; omega
  have HK2 := Lib.hid (fun W (hb : Below w.heap.size w W) => cut7_any Ab cb b 6 W (HBb.out.below hb) l2 (by omega))
  generalize a.take 6 = p at *
  generalize b.take 6 = q at *
  go_enter Try.func4, Try.ntmps4
  go_wp2_with (go_at_call 15; fail)
  refine K1.out.mono ?_
  rintro e w1 ⟨A1, C1, rfl, ho, hb⟩
  have HB1 := Lib.hid hb
  have OW : Hid ((w1.alloc (.cells #[.int .i64 1] 3)).ownsRow w.heap.size 3 1 _ _ _) := Lib.hid (World.ownsRow.alloc ho _)
  have RN : Hid (Reads (w1.alloc (.cells #[.int .i64 1] 3)) (w1.heap.size + 1) 1 (some ⟨w1.heap.size, 0, none⟩) 1 (ints [1])) := Lib.hid (reads_new w1 (ints [1]) 3)
  have HB2 : Hid (Below w.heap.size w (w1.alloc (.cells #[.int .i64 1] 3))) := Lib.hid (HB1.out.alloc HB1.out.size _)
  clear ho hb
  go_wp2_with (at_builtin; refine wpList_append_any _ rfl _ _ 22 rfl w.heap.size 3 i0 _ 1 8 Try.underlying22 hi0 hz0 hz1 hz2 rfl (by decide) _ p.length (ints p) rfl OW.out (w1.heap.size + 1) (some ⟨w1.heap.size, 0, none⟩) 1 1 (ints [1]) rfl RN.out ?c1 ?c2 ?c3 ?c4 ?_)
  case c1 => exact ints_one _
  case c2 => unfold maxLen; omega
  case c3 => omega
  case c4 => exact HB2.out.size
  intro v2 w2 hown hgrow hob
  have HO3 : Hid (w2.ownsRow w.heap.size 3 1 v2 (p ++ [1]).length (ints (p ++ [1]))) := Lib.hid (outI_put hown)
  have HB3 : Hid (Below w.heap.size w w2) := Lib.hid (HB2.out.grown hgrow HB2.out.size (fun q hq => (OW.out.lt q hq).1))
  clear hown hgrow hob OW RN HB2
  have hla : (p ++ [1]).length = p.length + 1 := by simp
  rw [hla] at HO3
  obtain ⟨A2, C2, rfl, _⟩ := own_slice_n HO3.out
  have HNe : Hid (p ++ [1] ≠ q ++ [2]) := Lib.hid (fun e => by
    have := congrArg List.getLast? e
    simp at this)
  generalize p ++ [1] = a1 at *
  have hna7 : p.length + 1 ≤ 7 := by omega
  have hna1 : 1 ≤ p.length + 1 := by omega
  generalize p.length + 1 = na at *
  go_wp2_with (go_at_call 15; fail)
  refine (HK2.out _ HB3.out).mono ?_
  rintro e w3 ⟨A3, C3, rfl, ho, hb⟩
  have HG3 := Lib.hid hb
  have OW : Hid ((w3.alloc (.cells #[.int .i64 2] 3)).ownsRow w2.heap.size 3 1 _ _ _) := Lib.hid (World.ownsRow.alloc ho _)
  have RN : Hid (Reads (w3.alloc (.cells #[.int .i64 2] 3)) (w3.heap.size + 1) 1 (some ⟨w3.heap.size, 0, none⟩) 1 (ints [2])) := Lib.hid (reads_new w3 (ints [2]) 3)
  have HG4 : Hid (Below w2.heap.size w2 (w3.alloc (.cells #[.int .i64 2] 3))) := Lib.hid (HG3.out.alloc HG3.out.size _)
  clear ho hb
  go_wp2_with (at_builtin; refine wpList_append_any _ rfl _ _ 22 rfl w2.heap.size 3 i0 _ 1 8 Try.underlying22 hi0 hz0 hz1 hz2 rfl (by decide) _ q.length (ints q) rfl OW.out (w3.heap.size + 1) (some ⟨w3.heap.size, 0, none⟩) 1 1 (ints [2]) rfl RN.out ?c1 ?c2 ?c3 ?c4 ?_)
  case c1 => exact ints_one _
  case c2 => unfold maxLen; omega
  case c3 => omega
  case c4 => exact HG4.out.size
  intro v4 w4 hown hgrow hob
  have HQ5 : Hid (w4.ownsRow w2.heap.size 3 1 v4 (q ++ [2]).length (ints (q ++ [2]))) := Lib.hid (outI_put hown)
  have HG5 : Hid (Below w2.heap.size w2 w4) := Lib.hid (HG4.out.grown hgrow HG4.out.size (fun q hq => (OW.out.lt q hq).1))
  clear hown hgrow hob OW RN HG4 HG3
  have hlb : (q ++ [2]).length = q.length + 1 := by simp
  rw [hlb] at HQ5
  obtain ⟨A4, C4, rfl, _⟩ := own_slice_n HQ5.out
  generalize q ++ [2] = b1 at *
  have hnb7 : q.length + 1 ≤ 7 := by omega
  have hnb1 : 1 ≤ q.length + 1 := by omega
  generalize q.length + 1 = nb at *
  have HP5 := Lib.hid (own_below HO3.out HG5.out)
  replace HQ5 := Lib.hid (own_lower HQ5.out HB3.out.size)
  have HB5 : Hid (Below w.heap.size w w4) := Lib.hid (HB3.out.trans (HG5.out.mono HB3.out.size))
  clear HO3 HB3 HG5 HB1 HK2 K1 HA HBb
  have KX := Lib.hid (fun W (hb : Below w4.heap.size w4 W) => copy_any A2 C2 a1 W ((own_recs1 (by rw [hla]; exact HP5.out) : Recs w4 1 num_ (.slice A2 na C2) a1) |>.below hb |> fun h => by rw [← hla] at h; exact h) (by omega))
  have KY := Lib.hid (fun W (hb : Below w4.heap.size w4 W) => copy_any A4 C4 b1 W ((own_recs1 (by rw [hlb]; exact HQ5.out) : Recs w4 1 num_ (.slice A4 nb C4) b1) |>.below hb |> fun h => by rw [← hlb] at h; exact h) (by omega))
  rw [hla] at KX
  rw [hlb] at KY
  go_wp2_with (go_at_call 16; fail)
  refine (KX.out _ (Below.refl _ _)).mono ?_
  rintro e w5 ⟨Ax, Cx, rfl, ho, hb⟩
  have HX6 := Lib.hid ho
  have HG6 : Hid (Below w4.heap.size w4 w5) := Lib.hid hb
  clear ho hb
  go_wp2_with (go_at_call 16; fail)
  refine (KY.out _ HG6.out).mono ?_
  rintro e w6 ⟨Ay, Cy, rfl, ho, hb⟩
  have HY7 := Lib.hid ho
  have HX7 := Lib.hid (own_below HX6.out hb)
  have HG7 : Hid (Below w4.heap.size w4 w6) := Lib.hid (HG6.out.trans (hb.mono HG6.out.size))
  clear ho hb HX6 HG6 KX KY
  have HP7 := Lib.hid (own_below HP5.out HG7.out)
  have HQ7 := Lib.hid (own_below HQ5.out HG7.out)
  have HB7 : Hid (Below w.heap.size w w6) := Lib.hid (HB5.out.trans (HG7.out.mono HB5.out.size))
  clear HP5 HQ5 HB5 HG7
  have B1 := Lib.hid (blk_new w6 #[.int .i64 car, .slice Ax na Cx, .slice Ay nb Cy] 24)
  have G1 : Hid (Below w6.heap.size w6 ((w6.alloc (.cells #[.int .i64 car, .slice Ax na Cx, .slice Ay nb Cy] 24)).alloc (.cells #[.slice (some ⟨w6.heap.size, 0, none⟩) 1 1, .slice none 0 0, .slice none 0 0] 30))) := Lib.hid (((Below.refl w6.heap.size w6).alloc (Nat.le_refl _) _).alloc (by simp) _)
  have B2 := Lib.hid (B1.out.alloc (.cells #[.slice (some ⟨w6.heap.size, 0, none⟩) 1 1, .slice none 0 0, .slice none 0 0] 30))
  have B3 : Hid (Blk ((w6.alloc (.cells #[.int .i64 car, .slice Ax na Cx, .slice Ay nb Cy] 24)).alloc (.cells #[.slice (some ⟨w6.heap.size, 0, none⟩) 1 1, .slice none 0 0, .slice none 0 0] 30)) (w6.heap.size + 1) [.slice (some ⟨w6.heap.size, 0, none⟩) 1 1, .slice none 0 0, .slice none 0 0]) := Lib.hid (blk_at (w := w6.alloc _) #[.slice (some ⟨w6.heap.size, 0, none⟩) 1 1, .slice none 0 0, .slice none 0 0] 30 (by simp))
  go_upto_region 4 with (fail)
  generalize (w6.alloc (.cells #[.int .i64 car, .slice Ax na Cx, .slice Ay nb Cy] 24)).alloc (.cells #[.slice (some ⟨w6.heap.size, 0, none⟩) 1 1, .slice none 0 0, .slice none 0 0] 30) = We at *
  have GD : Hid (Below w6.heap.size w6 We.drew) := Lib.hid G1.out.drew
  have e0 : We.drew.cell? ⟨w6.heap.size + 1, 0, none⟩ = _ := B3.out.at0.1
  have e1 : We.drew.cell? ⟨w6.heap.size + 1, 1, none⟩ = _ := B3.out.at1.1
  have e2 : We.drew.cell? ⟨w6.heap.size + 1, 2, none⟩ = _ := B3.out.at2.1
  have hd0 : w6.heap.size + 1 < We.drew.heap.size := B3.out.1
  have BT : Hid (Blk We.drew w6.heap.size [.int .i64 car, .slice Ax na Cx, .slice Ay nb Cy]) := B2
  have HXd := Lib.hid (own_below HX7.out GD.out)
  have HYd := Lib.hid (own_below HY7.out GD.out)
  have HPd := Lib.hid (own_below HP7.out GD.out)
  have HQd := Lib.hid (own_below HQ7.out GD.out)
  have HBd : Hid (Below w.heap.size w We.drew) := Lib.hid (HB7.out.trans (GD.out.mono HB7.out.size))
  generalize w6.heap.size + 1 = g0 at *
  generalize w6.heap.size = g1 at *
  go_cut [10, 11] from 30 to 34 (fun iv tv wc => ∃ gi gt, iv = .pointer (some ⟨gi, 0, none⟩) ∧ tv = .pointer (some ⟨gt, 0, none⟩) ∧ Hid (OneAt We.drew.heap.size wc gi car b1 a1) ∧ Hid (OneAt We.drew.heap.size wc gt car a1 b1) ∧ Hid (Below We.drew.heap.size We.drew wc))
  case first =>
    refine wp_region_z (S := (fun W => Below We.drew.heap.size We.drew W)) (z := 8) (by kernel_rfl) (Below.refl _ _) (fun hH => ?_)
    have HE : Hid (EditIn We.drew (some ⟨g1, 0, none⟩) none none 1 0 0 ⟨[⟨car, .slice Ax na Cx, .slice Ay nb Cy, a1, b1⟩], [], []⟩) := Lib.hid ⟨⟨rows_blk (l := [⟨car, .slice Ax na Cx, .slice Ay nb Cy, a1, b1⟩]) BT.out turn_len, fun t ht => by
      obtain rfl := List.mem_singleton.1 ht
      exact ⟨own_recs1 (by rw [hla]; exact HXd.out), own_recs1 (by rw [hlb]; exact HYd.out)⟩⟩, rows_nil, rows_nil, by simp, by simp, by simp, fun t ht => by
      obtain rfl := List.mem_singleton.1 ht
      simp only
      omega⟩
    have HTd : Hid ((tidyT [⟨car, .slice Ax na Cx, .slice Ay nb Cy, a1, b1⟩]).map Turn.pl = [(car, a1, b1)]) := Lib.hid (by simp [tidyT, sortBy, insBy, HNe.out, Turn.pl])
    have KI : Hid (∀ W, Below We.drew.heap.size We.drew W → Calls Try.prog 10 #[.agg #[.slice (some ⟨g1, 0, none⟩) 1 1, .slice none 0 0, .slice none 0 0]] W fun e w' => ∃ v1 v2 v3 f, e = .returned (.agg #[v1, v2, v3]) ∧ NewT W.heap.size w' v1 f ∧ f.map Turn.pl = [(car, b1, a1)] ∧ OutH W.heap.size w' v2 [] ∧ OutH W.heap.size w' v3 [] ∧ Below W.heap.size W w') := Lib.hid (fun W hb => inverse_any _ _ _ _ _ _ _ W (HE.out.below hb))
    have KT : Hid (∀ W, Below We.drew.heap.size We.drew W → Calls Try.prog 6 #[.agg #[.slice (some ⟨g1, 0, none⟩) 1 1, .slice none 0 0, .slice none 0 0]] W fun e w' => ∃ v1 v2 v3 f, e = .returned (.agg #[v1, v2, v3]) ∧ NewT W.heap.size w' v1 f ∧ f.map Turn.pl = [(car, a1, b1)] ∧ OutH W.heap.size w' v2 [] ∧ OutH W.heap.size w' v3 [] ∧ Below W.heap.size W w') := Lib.hid (fun W hb => (tidy_any _ _ _ _ _ _ _ W (HE.out.below hb)).mono (fun _ _ ⟨v1, v2, v3, f, h1, h2, h3, h4, h5, h6⟩ => ⟨v1, v2, v3, f, h1, h2, h3.trans HTd.out, h4, h5, h6⟩))
    clear HE HTd BT HXd HYd HPd HQd HBd B1 B2 B3 G1 GD HX7 HY7 HP7 HQ7 HB7 hi0 hz0 hz1 hz2 i0 HNe hla hlb hna7 hnb7 hna1 hnb1 ta tb l1 l2
    generalize We.drew = Wd at *
    have HB : Hid (Below Wd.heap.size Wd Wd) := Lib.hid (Below.refl _ _)
    refine wpAnyZ_takeS (i := 0) (v := ?_) rfl (by kernel_rfl) (by kernel_rfl) (by kernel_rfl) (by kernel_rfl) (fun _ _ _ h => h) (gives_value (by rfl) ?_) (by assumption) ?_
    rotate_left
    · intro w hSw
      have s0 : w.cell? ⟨g0, 0, none⟩ = some (.slice (some ⟨g1, 0, none⟩) 1 1) := by rw [hSw.cell hd0]; exact e0
      have s1 : w.cell? ⟨g0, 1, none⟩ = some (.slice none 0 0) := by rw [hSw.cell hd0]; exact e1
      have s2 : w.cell? ⟨g0, 2, none⟩ = some (.slice none 0 0) := by rw [hSw.cell hd0]; exact e2
      go_simp
      (try with_reducible rfl)
    (try simp only [Act.put, List.getElem_toArray, List.getElem_cons_succ, List.getElem_cons_zero, List.setIfInBounds_toArray, List.set_cons_zero, List.set_cons_succ])
    refine wpAnyZ_takeS (i := 2) (v := ?_) rfl (by kernel_rfl) (by kernel_rfl) (by kernel_rfl) (by kernel_rfl) (fun _ _ _ h => h) (gives_value (by rfl) ?_) (by assumption) ?_
    rotate_left
    · intro w hSw
      have s0 : w.cell? ⟨g0, 0, none⟩ = some (.slice (some ⟨g1, 0, none⟩) 1 1) := by rw [hSw.cell hd0]; exact e0
      have s1 : w.cell? ⟨g0, 1, none⟩ = some (.slice none 0 0) := by rw [hSw.cell hd0]; exact e1
      have s2 : w.cell? ⟨g0, 2, none⟩ = some (.slice none 0 0) := by rw [hSw.cell hd0]; exact e2
      go_simp
      (try with_reducible rfl)
    (try simp only [Act.put, List.getElem_toArray, List.getElem_cons_succ, List.getElem_cons_zero, List.setIfInBounds_toArray, List.set_cons_zero, List.set_cons_succ])
    refine wpAnyZ_three (i := 1) (j := 4) (k := 5) (by kernel_rfl) ?_ ?_ ?_
    · refine zstep rfl (fun K hK => ?_)
      go_simp
      (with_reducible refine (KI.out _ HB.out).mono ?_)
      rintro e w11 ⟨v1, v2, v3, f, rfl, hn, hf, h2, h3, hb⟩
      obtain ⟨xI, yI, rfl⟩ := one_pl hf
      obtain ⟨A1I, C1I, rfl, _⟩ := own_slice_n (n := 1) hn.1
      obtain ⟨A2I, C2I, rfl, _⟩ := own_slice_n (n := 0) h2
      obtain ⟨A3I, C3I, rfl, _⟩ := own_slice_n (n := 0) h3
      have HI := Lib.hid (NewT.low hn HB.out.size)
      replace HB : Hid (Below Wd.heap.size Wd w11) := Lib.hid (HB.out.trans (hb.mono HB.out.size))
      clear hn hf h2 h3 hb
      refine hK.out _ _ (fun _ => HB.out) (fun hH => ?_)
      replace hH := hH (by decide)
      clear hK K
      (try simp only [Act.put, List.getElem_toArray, List.getElem_cons_succ, List.getElem_cons_zero, List.setIfInBounds_toArray, List.set_cons_zero, List.set_cons_succ])
      refine wpAnyZ_three (i := 3) (j := 4) (k := 5) (by kernel_rfl) ?_ ?_ ?_
      · refine zstep rfl (fun K hK => ?_)
        go_simp
        (with_reducible refine (KT.out _ HB.out).mono ?_)
        rintro e w12 ⟨v1, v2, v3, f, rfl, hn, hf, h2, h3, hb⟩
        obtain ⟨xT, yT, rfl⟩ := one_pl hf
        obtain ⟨A1T, C1T, rfl, _⟩ := own_slice_n (n := 1) hn.1
        obtain ⟨A2T, C2T, rfl, _⟩ := own_slice_n (n := 0) h2
        obtain ⟨A3T, C3T, rfl, _⟩ := own_slice_n (n := 0) h3
        replace HI := Lib.hid (HI.out.below hb)
        have HT := Lib.hid (NewT.low hn HB.out.size)
        replace HB : Hid (Below Wd.heap.size Wd w12) := Lib.hid (HB.out.trans (hb.mono HB.out.size))
        clear hn hf h2 h3 hb
        refine hK.out _ _ (fun _ => HB.out) (fun hH => ?_)
        replace hH := hH (by decide)
        clear hK K
        (try simp only [Act.put, List.getElem_toArray, List.getElem_cons_succ, List.getElem_cons_zero, List.setIfInBounds_toArray, List.set_cons_zero, List.set_cons_succ])
        refine wpAnyZ_two (i := 4) (j := 5) (by kernel_rfl) ?_ ?_
        · refine zstep rfl (fun K hK => ?_)
          go_simp
          have hb : Below w12.heap.size w12 (w12.alloc (.cells #[.slice none 0 0, .slice none 0 0, .slice none 0 0] 30)) := (Below.refl _ _).alloc (Nat.le_refl _) _
          replace HI := Lib.hid (HI.out.below hb)
          replace HT := Lib.hid (HT.out.below hb)
          have HG4 : (w12.alloc (.cells #[.slice none 0 0, .slice none 0 0, .slice none 0 0] 30)).heap[w12.heap.size]? = some (.cells #[.slice none 0 0, .slice none 0 0, .slice none 0 0] 30 (0, 0)) := heap_new w12 _
          have hlt4 : w12.heap.size < (w12.alloc (.cells #[.slice none 0 0, .slice none 0 0, .slice none 0 0] 30)).heap.size := by simp
          have hgz := HB.out.size
          replace HB : Hid (Below Wd.heap.size Wd (w12.alloc (.cells #[.slice none 0 0, .slice none 0 0, .slice none 0 0] 30))) := Lib.hid (HB.out.trans (hb.mono HB.out.size))
          clear hb
          generalize (w12.alloc (.cells #[.slice none 0 0, .slice none 0 0, .slice none 0 0] 30)) = w13 at *
          generalize hgq : w12.heap.size = g4 at HG4 hlt4 ⊢
          have hg4 : Wd.heap.size ≤ g4 := by rw [← hgq]; exact hgz
          clear hgq hgz
          refine hK.out _ _ (fun _ => HB.out) (fun hH => ?_)
          replace hH := hH (by decide)
          clear hK K
          (try simp only [Act.put, List.getElem_toArray, List.getElem_cons_succ, List.getElem_cons_zero, List.setIfInBounds_toArray, List.set_cons_zero, List.set_cons_succ])
          refine wpAnyZ_one (i := 5) (by kernel_rfl) ?_
          refine zstep rfl (fun K hK => ?_)
          go_simp
          have hb : Below w13.heap.size w13 (w13.alloc (.cells #[.slice none 0 0, .slice none 0 0, .slice none 0 0] 30)) := (Below.refl _ _).alloc (Nat.le_refl _) _
          have h45 : g4 ≠ w13.heap.size := Nat.ne_of_lt hlt4
          replace HI := Lib.hid (HI.out.below hb)
          replace HT := Lib.hid (HT.out.below hb)
          replace HG4 := heap_keep HG4 hb
          replace hlt4 := Nat.lt_of_lt_of_le hlt4 (hb).size
          have HG5 : (w13.alloc (.cells #[.slice none 0 0, .slice none 0 0, .slice none 0 0] 30)).heap[w13.heap.size]? = some (.cells #[.slice none 0 0, .slice none 0 0, .slice none 0 0] 30 (0, 0)) := heap_new w13 _
          have hlt5 : w13.heap.size < (w13.alloc (.cells #[.slice none 0 0, .slice none 0 0, .slice none 0 0] 30)).heap.size := by simp
          clear hlt4
          have hgz := HB.out.size
          replace HB : Hid (Below Wd.heap.size Wd (w13.alloc (.cells #[.slice none 0 0, .slice none 0 0, .slice none 0 0] 30))) := Lib.hid (HB.out.trans (hb.mono HB.out.size))
          clear hb
          generalize (w13.alloc (.cells #[.slice none 0 0, .slice none 0 0, .slice none 0 0] 30)) = w14 at *
          generalize hgq : w13.heap.size = g5 at HG5 hlt5 h45 ⊢
          have hg5 : Wd.heap.size ≤ g5 := by rw [← hgq]; exact hgz
          clear hgq hgz
          refine hK.out _ _ (fun _ => HB.out) (fun hH => ?_)
          replace hH := hH (by decide)
          clear hK K
          (try simp only [Act.put, List.getElem_toArray, List.getElem_cons_succ, List.getElem_cons_zero, List.setIfInBounds_toArray, List.set_cons_zero, List.set_cons_succ])
          refine wpAnyZ_one (i := 6) (by kernel_rfl) ?_
          refine zstep rfl (fun K hK => ?_)
          have y0 := (blk_of_heap HG4).at0.1
          have y1 := (blk_of_heap HG4).at1.1
          have y2 := (blk_of_heap HG4).at2.1
          have z0 := (blk_of_heap HG4).at0.2
          have z1 := (blk_of_heap HG4).at1.2
          have z2 := (blk_of_heap HG4).at2.2
          have hgs := (blk_of_heap HG4).1
          go_simp
          replace HI := Lib.hid (HI.out.set3 HG4 (.slice A1I 1 C1I) (.slice A2I 0 C2I) (.slice A3I 0 C3I))
          replace HT := Lib.hid (HT.out.set3 HG4 (.slice A1I 1 C1I) (.slice A2I 0 C2I) (.slice A3I 0 C3I))
          replace HG5 := (set3_else (W := w14) (.slice A1I 1 C1I) (.slice A2I 0 C2I) (.slice A3I 0 C3I) (h45.symm)).trans HG5
          replace HB : Hid (Below Wd.heap.size Wd (((w14.setCell ⟨g4, 0, none⟩ (.slice A1I 1 C1I)).setCell ⟨g4, 1, none⟩ (.slice A2I 0 C2I)).setCell ⟨g4, 2, none⟩ (.slice A3I 0 C3I))) := Lib.hid ((Go.Proofs.Ytbellnanikaffaa.set3 HG4 (.slice A1I 1 C1I) (.slice A2I 0 C2I) (.slice A3I 0 C3I)).2.2 _ _ HB.out hg4)
          replace HG4 := (Go.Proofs.Ytbellnanikaffaa.set3 HG4 (.slice A1I 1 C1I) (.slice A2I 0 C2I) (.slice A3I 0 C3I)).1
          clear y0 y1 y2 z0 z1 z2 hgs
          generalize (((w14.setCell ⟨g4, 0, none⟩ (.slice A1I 1 C1I)).setCell ⟨g4, 1, none⟩ (.slice A2I 0 C2I)).setCell ⟨g4, 2, none⟩ (.slice A3I 0 C3I)) = w15 at *
          refine hK.out _ _ (fun _ => HB.out) (fun hH => ?_)
          replace hH := hH (by decide)
          clear hK K
          (try simp only [Act.put, List.getElem_toArray, List.getElem_cons_succ, List.getElem_cons_zero, List.setIfInBounds_toArray, List.set_cons_zero, List.set_cons_succ])
          refine wpAnyZ_one (i := 7) (by kernel_rfl) ?_
          refine zstep rfl (fun K hK => ?_)
          have y0 := (blk_of_heap HG5).at0.1
          have y1 := (blk_of_heap HG5).at1.1
          have y2 := (blk_of_heap HG5).at2.1
          have z0 := (blk_of_heap HG5).at0.2
          have z1 := (blk_of_heap HG5).at1.2
          have z2 := (blk_of_heap HG5).at2.2
          have hgs := (blk_of_heap HG5).1
          go_simp
          replace HI := Lib.hid (HI.out.set3 HG5 (.slice A1T 1 C1T) (.slice A2T 0 C2T) (.slice A3T 0 C3T))
          replace HT := Lib.hid (HT.out.set3 HG5 (.slice A1T 1 C1T) (.slice A2T 0 C2T) (.slice A3T 0 C3T))
          replace HG4 := (set3_else (W := w15) (.slice A1T 1 C1T) (.slice A2T 0 C2T) (.slice A3T 0 C3T) (h45)).trans HG4
          replace HB : Hid (Below Wd.heap.size Wd (((w15.setCell ⟨g5, 0, none⟩ (.slice A1T 1 C1T)).setCell ⟨g5, 1, none⟩ (.slice A2T 0 C2T)).setCell ⟨g5, 2, none⟩ (.slice A3T 0 C3T))) := Lib.hid ((Go.Proofs.Ytbellnanikaffaa.set3 HG5 (.slice A1T 1 C1T) (.slice A2T 0 C2T) (.slice A3T 0 C3T)).2.2 _ _ HB.out hg5)
          replace HG5 := (Go.Proofs.Ytbellnanikaffaa.set3 HG5 (.slice A1T 1 C1T) (.slice A2T 0 C2T) (.slice A3T 0 C3T)).1
          clear y0 y1 y2 z0 z1 z2 hgs
          generalize (((w15.setCell ⟨g5, 0, none⟩ (.slice A1T 1 C1T)).setCell ⟨g5, 1, none⟩ (.slice A2T 0 C2T)).setCell ⟨g5, 2, none⟩ (.slice A3T 0 C3T)) = w16 at *
          refine hK.out _ _ (fun _ => HB.out) (fun hH => ?_)
          replace hH := hH (by decide)
          clear hK K
          (try simp only [Act.put, List.getElem_toArray, List.getElem_cons_succ, List.getElem_cons_zero, List.setIfInBounds_toArray, List.set_cons_zero, List.set_cons_succ])
          refine wpAnyZ_done (by kernel_rfl) ?_ _
          clear hH
          go_wp2_with (fail)
          go_meet
          exact ⟨_, _, rfl, rfl, Lib.hid ⟨_, _, _, _, _, HG4, hg4, HI.out⟩, Lib.hid ⟨_, _, _, _, _, HG5, hg5, HT.out⟩, HB⟩
        · refine zstep rfl (fun K hK => ?_)
          go_simp
          have hb : Below w12.heap.size w12 (w12.alloc (.cells #[.slice none 0 0, .slice none 0 0, .slice none 0 0] 30)) := (Below.refl _ _).alloc (Nat.le_refl _) _
          replace HI := Lib.hid (HI.out.below hb)
          replace HT := Lib.hid (HT.out.below hb)
          have HG5 : (w12.alloc (.cells #[.slice none 0 0, .slice none 0 0, .slice none 0 0] 30)).heap[w12.heap.size]? = some (.cells #[.slice none 0 0, .slice none 0 0, .slice none 0 0] 30 (0, 0)) := heap_new w12 _
          have hlt5 : w12.heap.size < (w12.alloc (.cells #[.slice none 0 0, .slice none 0 0, .slice none 0 0] 30)).heap.size := by simp
          have hgz := HB.out.size
          replace HB : Hid (Below Wd.heap.size Wd (w12.alloc (.cells #[.slice none 0 0, .slice none 0 0, .slice none 0 0] 30))) := Lib.hid (HB.out.trans (hb.mono HB.out.size))
          clear hb
          generalize (w12.alloc (.cells #[.slice none 0 0, .slice none 0 0, .slice none 0 0] 30)) = w17 at *
          generalize hgq : w12.heap.size = g5 at HG5 hlt5 ⊢
          have hg5 : Wd.heap.size ≤ g5 := by rw [← hgq]; exact hgz
          clear hgq hgz
          refine hK.out _ _ (fun _ => HB.out) (fun hH => ?_)
          replace hH := hH (by decide)
          clear hK K
          (try simp only [Act.put, List.getElem_toArray, List.getElem_cons_succ, List.getElem_cons_zero, List.setIfInBounds_toArray, List.set_cons_zero, List.set_cons_succ])
          refine wpAnyZ_one (i := 4) (by kernel_rfl) ?_
          refine zstep rfl (fun K hK => ?_)
          go_simp
          have hb : Below w17.heap.size w17 (w17.alloc (.cells #[.slice none 0 0, .slice none 0 0, .slice none 0 0] 30)) := (Below.refl _ _).alloc (Nat.le_refl _) _
          have h45 : w17.heap.size ≠ g5 := (Nat.ne_of_lt hlt5).symm
          replace HI := Lib.hid (HI.out.below hb)
          replace HT := Lib.hid (HT.out.below hb)
          replace HG5 := heap_keep HG5 hb
          replace hlt5 := Nat.lt_of_lt_of_le hlt5 (hb).size
          have HG4 : (w17.alloc (.cells #[.slice none 0 0, .slice none 0 0, .slice none 0 0] 30)).heap[w17.heap.size]? = some (.cells #[.slice none 0 0, .slice none 0 0, .slice none 0 0] 30 (0, 0)) := heap_new w17 _
          have hlt4 : w17.heap.size < (w17.alloc (.cells #[.slice none 0 0, .slice none 0 0, .slice none 0 0] 30)).heap.size := by simp
          clear hlt5
          have hgz := HB.out.size
          replace HB : Hid (Below Wd.heap.size Wd (w17.alloc (.cells #[.slice none 0 0, .slice none 0 0, .slice none 0 0] 30))) := Lib.hid (HB.out.trans (hb.mono HB.out.size))
          clear hb
          generalize (w17.alloc (.cells #[.slice none 0 0, .slice none 0 0, .slice none 0 0] 30)) = w18 at *
          generalize hgq : w17.heap.size = g4 at HG4 hlt4 h45 ⊢
          have hg4 : Wd.heap.size ≤ g4 := by rw [← hgq]; exact hgz
          clear hgq hgz
          refine hK.out _ _ (fun _ => HB.out) (fun hH => ?_)
          replace hH := hH (by decide)
          clear hK K
          (try simp only [Act.put, List.getElem_toArray, List.getElem_cons_succ, List.getElem_cons_zero, List.setIfInBounds_toArray, List.set_cons_zero, List.set_cons_succ])
          refine wpAnyZ_one (i := 6) (by kernel_rfl) ?_
          refine zstep rfl (fun K hK => ?_)
          have y0 := (blk_of_heap HG4).at0.1
          have y1 := (blk_of_heap HG4).at1.1
          have y2 := (blk_of_heap HG4).at2.1
          have z0 := (blk_of_heap HG4).at0.2
          have z1 := (blk_of_heap HG4).at1.2
          have z2 := (blk_of_heap HG4).at2.2
          have hgs := (blk_of_heap HG4).1
          go_simp
          replace HI := Lib.hid (HI.out.set3 HG4 (.slice A1I 1 C1I) (.slice A2I 0 C2I) (.slice A3I 0 C3I))
          replace HT := Lib.hid (HT.out.set3 HG4 (.slice A1I 1 C1I) (.slice A2I 0 C2I) (.slice A3I 0 C3I))
          replace HG5 := (set3_else (W := w18) (.slice A1I 1 C1I) (.slice A2I 0 C2I) (.slice A3I 0 C3I) (h45.symm)).trans HG5
          replace HB : Hid (Below Wd.heap.size Wd (((w18.setCell ⟨g4, 0, none⟩ (.slice A1I 1 C1I)).setCell ⟨g4, 1, none⟩ (.slice A2I 0 C2I)).setCell ⟨g4, 2, none⟩ (.slice A3I 0 C3I))) := Lib.hid ((Go.Proofs.Ytbellnanikaffaa.set3 HG4 (.slice A1I 1 C1I) (.slice A2I 0 C2I) (.slice A3I 0 C3I)).2.2 _ _ HB.out hg4)
          replace HG4 := (Go.Proofs.Ytbellnanikaffaa.set3 HG4 (.slice A1I 1 C1I) (.slice A2I 0 C2I) (.slice A3I 0 C3I)).1
          clear y0 y1 y2 z0 z1 z2 hgs
          generalize (((w18.setCell ⟨g4, 0, none⟩ (.slice A1I 1 C1I)).setCell ⟨g4, 1, none⟩ (.slice A2I 0 C2I)).setCell ⟨g4, 2, none⟩ (.slice A3I 0 C3I)) = w19 at *
          refine hK.out _ _ (fun _ => HB.out) (fun hH => ?_)
          replace hH := hH (by decide)
          clear hK K
          (try simp only [Act.put, List.getElem_toArray, List.getElem_cons_succ, List.getElem_cons_zero, List.setIfInBounds_toArray, List.set_cons_zero, List.set_cons_succ])
          refine wpAnyZ_one (i := 7) (by kernel_rfl) ?_
          refine zstep rfl (fun K hK => ?_)
          have y0 := (blk_of_heap HG5).at0.1
          have y1 := (blk_of_heap HG5).at1.1
          have y2 := (blk_of_heap HG5).at2.1
          have z0 := (blk_of_heap HG5).at0.2
          have z1 := (blk_of_heap HG5).at1.2
          have z2 := (blk_of_heap HG5).at2.2
          have hgs := (blk_of_heap HG5).1
          go_simp
          replace HI := Lib.hid (HI.out.set3 HG5 (.slice A1T 1 C1T) (.slice A2T 0 C2T) (.slice A3T 0 C3T))
          replace HT := Lib.hid (HT.out.set3 HG5 (.slice A1T 1 C1T) (.slice A2T 0 C2T) (.slice A3T 0 C3T))
          replace HG4 := (set3_else (W := w19) (.slice A1T 1 C1T) (.slice A2T 0 C2T) (.slice A3T 0 C3T) (h45)).trans HG4
          replace HB : Hid (Below Wd.heap.size Wd (((w19.setCell ⟨g5, 0, none⟩ (.slice A1T 1 C1T)).setCell ⟨g5, 1, none⟩ (.slice A2T 0 C2T)).setCell ⟨g5, 2, none⟩ (.slice A3T 0 C3T))) := Lib.hid ((Go.Proofs.Ytbellnanikaffaa.set3 HG5 (.slice A1T 1 C1T) (.slice A2T 0 C2T) (.slice A3T 0 C3T)).2.2 _ _ HB.out hg5)
          replace HG5 := (Go.Proofs.Ytbellnanikaffaa.set3 HG5 (.slice A1T 1 C1T) (.slice A2T 0 C2T) (.slice A3T 0 C3T)).1
          clear y0 y1 y2 z0 z1 z2 hgs
          generalize (((w19.setCell ⟨g5, 0, none⟩ (.slice A1T 1 C1T)).setCell ⟨g5, 1, none⟩ (.slice A2T 0 C2T)).setCell ⟨g5, 2, none⟩ (.slice A3T 0 C3T)) = w20 at *
          refine hK.out _ _ (fun _ => HB.out) (fun hH => ?_)
          replace hH := hH (by decide)
          clear hK K
          (try simp only [Act.put, List.getElem_toArray, List.getElem_cons_succ, List.getElem_cons_zero, List.setIfInBounds_toArray, List.set_cons_zero, List.set_cons_succ])
          refine wpAnyZ_done (by kernel_rfl) ?_ _
          clear hH
          go_wp2_with (fail)
          go_meet
          exact ⟨_, _, rfl, rfl, Lib.hid ⟨_, _, _, _, _, HG4, hg4, HI.out⟩, Lib.hid ⟨_, _, _, _, _, HG5, hg5, HT.out⟩, HB⟩
      · refine zstep rfl (fun K hK => ?_)
        go_simp
        have hb : Below w11.heap.size w11 (w11.alloc (.cells #[.slice none 0 0, .slice none 0 0, .slice none 0 0] 30)) := (Below.refl _ _).alloc (Nat.le_refl _) _
        replace HI := Lib.hid (HI.out.below hb)
        have HG4 : (w11.alloc (.cells #[.slice none 0 0, .slice none 0 0, .slice none 0 0] 30)).heap[w11.heap.size]? = some (.cells #[.slice none 0 0, .slice none 0 0, .slice none 0 0] 30 (0, 0)) := heap_new w11 _
        have hlt4 : w11.heap.size < (w11.alloc (.cells #[.slice none 0 0, .slice none 0 0, .slice none 0 0] 30)).heap.size := by simp
        have hgz := HB.out.size
        replace HB : Hid (Below Wd.heap.size Wd (w11.alloc (.cells #[.slice none 0 0, .slice none 0 0, .slice none 0 0] 30))) := Lib.hid (HB.out.trans (hb.mono HB.out.size))
        clear hb
        generalize (w11.alloc (.cells #[.slice none 0 0, .slice none 0 0, .slice none 0 0] 30)) = w21 at *
        generalize hgq : w11.heap.size = g4 at HG4 hlt4 ⊢
        have hg4 : Wd.heap.size ≤ g4 := by rw [← hgq]; exact hgz
        clear hgq hgz
        refine hK.out _ _ (fun _ => HB.out) (fun hH => ?_)
        replace hH := hH (by decide)
        clear hK K
        (try simp only [Act.put, List.getElem_toArray, List.getElem_cons_succ, List.getElem_cons_zero, List.setIfInBounds_toArray, List.set_cons_zero, List.set_cons_succ])
        refine wpAnyZ_two (i := 3) (j := 5) (by kernel_rfl) ?_ ?_
        · refine zstep rfl (fun K hK => ?_)
          go_simp
          (with_reducible refine (KT.out _ HB.out).mono ?_)
          rintro e w22 ⟨v1, v2, v3, f, rfl, hn, hf, h2, h3, hb⟩
          obtain ⟨xT, yT, rfl⟩ := one_pl hf
          obtain ⟨A1T, C1T, rfl, _⟩ := own_slice_n (n := 1) hn.1
          obtain ⟨A2T, C2T, rfl, _⟩ := own_slice_n (n := 0) h2
          obtain ⟨A3T, C3T, rfl, _⟩ := own_slice_n (n := 0) h3
          replace HI := Lib.hid (HI.out.below hb)
          replace HG4 := heap_keep HG4 hb
          replace hlt4 := Nat.lt_of_lt_of_le hlt4 (hb).size
          have HT := Lib.hid (NewT.low hn HB.out.size)
          replace HB : Hid (Below Wd.heap.size Wd w22) := Lib.hid (HB.out.trans (hb.mono HB.out.size))
          clear hn hf h2 h3 hb
          refine hK.out _ _ (fun _ => HB.out) (fun hH => ?_)
          replace hH := hH (by decide)
          clear hK K
          (try simp only [Act.put, List.getElem_toArray, List.getElem_cons_succ, List.getElem_cons_zero, List.setIfInBounds_toArray, List.set_cons_zero, List.set_cons_succ])
          refine wpAnyZ_one (i := 5) (by kernel_rfl) ?_
          refine zstep rfl (fun K hK => ?_)
          go_simp
          have hb : Below w22.heap.size w22 (w22.alloc (.cells #[.slice none 0 0, .slice none 0 0, .slice none 0 0] 30)) := (Below.refl _ _).alloc (Nat.le_refl _) _
          have h45 : g4 ≠ w22.heap.size := Nat.ne_of_lt hlt4
          replace HI := Lib.hid (HI.out.below hb)
          replace HT := Lib.hid (HT.out.below hb)
          replace HG4 := heap_keep HG4 hb
          replace hlt4 := Nat.lt_of_lt_of_le hlt4 (hb).size
          have HG5 : (w22.alloc (.cells #[.slice none 0 0, .slice none 0 0, .slice none 0 0] 30)).heap[w22.heap.size]? = some (.cells #[.slice none 0 0, .slice none 0 0, .slice none 0 0] 30 (0, 0)) := heap_new w22 _
          have hlt5 : w22.heap.size < (w22.alloc (.cells #[.slice none 0 0, .slice none 0 0, .slice none 0 0] 30)).heap.size := by simp
          clear hlt4
          have hgz := HB.out.size
          replace HB : Hid (Below Wd.heap.size Wd (w22.alloc (.cells #[.slice none 0 0, .slice none 0 0, .slice none 0 0] 30))) := Lib.hid (HB.out.trans (hb.mono HB.out.size))
          clear hb
          generalize (w22.alloc (.cells #[.slice none 0 0, .slice none 0 0, .slice none 0 0] 30)) = w23 at *
          generalize hgq : w22.heap.size = g5 at HG5 hlt5 h45 ⊢
          have hg5 : Wd.heap.size ≤ g5 := by rw [← hgq]; exact hgz
          clear hgq hgz
          refine hK.out _ _ (fun _ => HB.out) (fun hH => ?_)
          replace hH := hH (by decide)
          clear hK K
          (try simp only [Act.put, List.getElem_toArray, List.getElem_cons_succ, List.getElem_cons_zero, List.setIfInBounds_toArray, List.set_cons_zero, List.set_cons_succ])
          refine wpAnyZ_one (i := 6) (by kernel_rfl) ?_
          refine zstep rfl (fun K hK => ?_)
          have y0 := (blk_of_heap HG4).at0.1
          have y1 := (blk_of_heap HG4).at1.1
          have y2 := (blk_of_heap HG4).at2.1
          have z0 := (blk_of_heap HG4).at0.2
          have z1 := (blk_of_heap HG4).at1.2
          have z2 := (blk_of_heap HG4).at2.2
          have hgs := (blk_of_heap HG4).1
          go_simp
          replace HI := Lib.hid (HI.out.set3 HG4 (.slice A1I 1 C1I) (.slice A2I 0 C2I) (.slice A3I 0 C3I))
          replace HT := Lib.hid (HT.out.set3 HG4 (.slice A1I 1 C1I) (.slice A2I 0 C2I) (.slice A3I 0 C3I))
          replace HG5 := (set3_else (W := w23) (.slice A1I 1 C1I) (.slice A2I 0 C2I) (.slice A3I 0 C3I) (h45.symm)).trans HG5
          replace HB : Hid (Below Wd.heap.size Wd (((w23.setCell ⟨g4, 0, none⟩ (.slice A1I 1 C1I)).setCell ⟨g4, 1, none⟩ (.slice A2I 0 C2I)).setCell ⟨g4, 2, none⟩ (.slice A3I 0 C3I))) := Lib.hid ((Go.Proofs.Ytbellnanikaffaa.set3 HG4 (.slice A1I 1 C1I) (.slice A2I 0 C2I) (.slice A3I 0 C3I)).2.2 _ _ HB.out hg4)
          replace HG4 := (Go.Proofs.Ytbellnanikaffaa.set3 HG4 (.slice A1I 1 C1I) (.slice A2I 0 C2I) (.slice A3I 0 C3I)).1
          clear y0 y1 y2 z0 z1 z2 hgs
          generalize (((w23.setCell ⟨g4, 0, none⟩ (.slice A1I 1 C1I)).setCell ⟨g4, 1, none⟩ (.slice A2I 0 C2I)).setCell ⟨g4, 2, none⟩ (.slice A3I 0 C3I)) = w24 at *
          refine hK.out _ _ (fun _ => HB.out) (fun hH => ?_)
          replace hH := hH (by decide)
          clear hK K
          (try simp only [Act.put, List.getElem_toArray, List.getElem_cons_succ, List.getElem_cons_zero, List.setIfInBounds_toArray, List.set_cons_zero, List.set_cons_succ])
          refine wpAnyZ_one (i := 7) (by kernel_rfl) ?_
          refine zstep rfl (fun K hK => ?_)
          have y0 := (blk_of_heap HG5).at0.1
          have y1 := (blk_of_heap HG5).at1.1
          have y2 := (blk_of_heap HG5).at2.1
          have z0 := (blk_of_heap HG5).at0.2
          have z1 := (blk_of_heap HG5).at1.2
          have z2 := (blk_of_heap HG5).at2.2
          have hgs := (blk_of_heap HG5).1
          go_simp
          replace HI := Lib.hid (HI.out.set3 HG5 (.slice A1T 1 C1T) (.slice A2T 0 C2T) (.slice A3T 0 C3T))
          replace HT := Lib.hid (HT.out.set3 HG5 (.slice A1T 1 C1T) (.slice A2T 0 C2T) (.slice A3T 0 C3T))
          replace HG4 := (set3_else (W := w24) (.slice A1T 1 C1T) (.slice A2T 0 C2T) (.slice A3T 0 C3T) (h45)).trans HG4
          replace HB : Hid (Below Wd.heap.size Wd (((w24.setCell ⟨g5, 0, none⟩ (.slice A1T 1 C1T)).setCell ⟨g5, 1, none⟩ (.slice A2T 0 C2T)).setCell ⟨g5, 2, none⟩ (.slice A3T 0 C3T))) := Lib.hid ((Go.Proofs.Ytbellnanikaffaa.set3 HG5 (.slice A1T 1 C1T) (.slice A2T 0 C2T) (.slice A3T 0 C3T)).2.2 _ _ HB.out hg5)
          replace HG5 := (Go.Proofs.Ytbellnanikaffaa.set3 HG5 (.slice A1T 1 C1T) (.slice A2T 0 C2T) (.slice A3T 0 C3T)).1
          clear y0 y1 y2 z0 z1 z2 hgs
          generalize (((w24.setCell ⟨g5, 0, none⟩ (.slice A1T 1 C1T)).setCell ⟨g5, 1, none⟩ (.slice A2T 0 C2T)).setCell ⟨g5, 2, none⟩ (.slice A3T 0 C3T)) = w25 at *
          refine hK.out _ _ (fun _ => HB.out) (fun hH => ?_)
          replace hH := hH (by decide)
          clear hK K
          (try simp only [Act.put, List.getElem_toArray, List.getElem_cons_succ, List.getElem_cons_zero, List.setIfInBounds_toArray, List.set_cons_zero, List.set_cons_succ])
          refine wpAnyZ_done (by kernel_rfl) ?_ _
          clear hH
          go_wp2_with (fail)
          go_meet
          exact ⟨_, _, rfl, rfl, Lib.hid ⟨_, _, _, _, _, HG4, hg4, HI.out⟩, Lib.hid ⟨_, _, _, _, _, HG5, hg5, HT.out⟩, HB⟩
        · refine zstep rfl (fun K hK => ?_)
          go_simp
          have hb : Below w21.heap.size w21 (w21.alloc (.cells #[.slice none 0 0, .slice none 0 0, .slice none 0 0] 30)) := (Below.refl _ _).alloc (Nat.le_refl _) _
          have h45 : g4 ≠ w21.heap.size := Nat.ne_of_lt hlt4
          replace HI := Lib.hid (HI.out.below hb)
          replace HG4 := heap_keep HG4 hb
          replace hlt4 := Nat.lt_of_lt_of_le hlt4 (hb).size
          have HG5 : (w21.alloc (.cells #[.slice none 0 0, .slice none 0 0, .slice none 0 0] 30)).heap[w21.heap.size]? = some (.cells #[.slice none 0 0, .slice none 0 0, .slice none 0 0] 30 (0, 0)) := heap_new w21 _
          have hlt5 : w21.heap.size < (w21.alloc (.cells #[.slice none 0 0, .slice none 0 0, .slice none 0 0] 30)).heap.size := by simp
          clear hlt4
          have hgz := HB.out.size
          replace HB : Hid (Below Wd.heap.size Wd (w21.alloc (.cells #[.slice none 0 0, .slice none 0 0, .slice none 0 0] 30))) := Lib.hid (HB.out.trans (hb.mono HB.out.size))
          clear hb
          generalize (w21.alloc (.cells #[.slice none 0 0, .slice none 0 0, .slice none 0 0] 30)) = w26 at *
          generalize hgq : w21.heap.size = g5 at HG5 hlt5 h45 ⊢
          have hg5 : Wd.heap.size ≤ g5 := by rw [← hgq]; exact hgz
          clear hgq hgz
          refine hK.out _ _ (fun _ => HB.out) (fun hH => ?_)
          replace hH := hH (by decide)
          clear hK K
          (try simp only [Act.put, List.getElem_toArray, List.getElem_cons_succ, List.getElem_cons_zero, List.setIfInBounds_toArray, List.set_cons_zero, List.set_cons_succ])
          refine wpAnyZ_one (i := 3) (by kernel_rfl) ?_
          refine zstep rfl (fun K hK => ?_)
          go_simp
          (with_reducible refine (KT.out _ HB.out).mono ?_)
          rintro e w27 ⟨v1, v2, v3, f, rfl, hn, hf, h2, h3, hb⟩
          obtain ⟨xT, yT, rfl⟩ := one_pl hf
          obtain ⟨A1T, C1T, rfl, _⟩ := own_slice_n (n := 1) hn.1
          obtain ⟨A2T, C2T, rfl, _⟩ := own_slice_n (n := 0) h2
          obtain ⟨A3T, C3T, rfl, _⟩ := own_slice_n (n := 0) h3
          replace HI := Lib.hid (HI.out.below hb)
          replace HG4 := heap_keep HG4 hb
          replace HG5 := heap_keep HG5 hb
          have HT := Lib.hid (NewT.low hn HB.out.size)
          replace HB : Hid (Below Wd.heap.size Wd w27) := Lib.hid (HB.out.trans (hb.mono HB.out.size))
          clear hn hf h2 h3 hb
          refine hK.out _ _ (fun _ => HB.out) (fun hH => ?_)
          replace hH := hH (by decide)
          clear hK K
          (try simp only [Act.put, List.getElem_toArray, List.getElem_cons_succ, List.getElem_cons_zero, List.setIfInBounds_toArray, List.set_cons_zero, List.set_cons_succ])
          refine wpAnyZ_one (i := 6) (by kernel_rfl) ?_
          refine zstep rfl (fun K hK => ?_)
          have y0 := (blk_of_heap HG4).at0.1
          have y1 := (blk_of_heap HG4).at1.1
          have y2 := (blk_of_heap HG4).at2.1
          have z0 := (blk_of_heap HG4).at0.2
          have z1 := (blk_of_heap HG4).at1.2
          have z2 := (blk_of_heap HG4).at2.2
          have hgs := (blk_of_heap HG4).1
          go_simp
          replace HI := Lib.hid (HI.out.set3 HG4 (.slice A1I 1 C1I) (.slice A2I 0 C2I) (.slice A3I 0 C3I))
          replace HT := Lib.hid (HT.out.set3 HG4 (.slice A1I 1 C1I) (.slice A2I 0 C2I) (.slice A3I 0 C3I))
          replace HG5 := (set3_else (W := w27) (.slice A1I 1 C1I) (.slice A2I 0 C2I) (.slice A3I 0 C3I) (h45.symm)).trans HG5
          replace HB : Hid (Below Wd.heap.size Wd (((w27.setCell ⟨g4, 0, none⟩ (.slice A1I 1 C1I)).setCell ⟨g4, 1, none⟩ (.slice A2I 0 C2I)).setCell ⟨g4, 2, none⟩ (.slice A3I 0 C3I))) := Lib.hid ((Go.Proofs.Ytbellnanikaffaa.set3 HG4 (.slice A1I 1 C1I) (.slice A2I 0 C2I) (.slice A3I 0 C3I)).2.2 _ _ HB.out hg4)
          replace HG4 := (Go.Proofs.Ytbellnanikaffaa.set3 HG4 (.slice A1I 1 C1I) (.slice A2I 0 C2I) (.slice A3I 0 C3I)).1
          clear y0 y1 y2 z0 z1 z2 hgs
          generalize (((w27.setCell ⟨g4, 0, none⟩ (.slice A1I 1 C1I)).setCell ⟨g4, 1, none⟩ (.slice A2I 0 C2I)).setCell ⟨g4, 2, none⟩ (.slice A3I 0 C3I)) = w28 at *
          refine hK.out _ _ (fun _ => HB.out) (fun hH => ?_)
          replace hH := hH (by decide)
          clear hK K
          (try simp only [Act.put, List.getElem_toArray, List.getElem_cons_succ, List.getElem_cons_zero, List.setIfInBounds_toArray, List.set_cons_zero, List.set_cons_succ])
          refine wpAnyZ_one (i := 7) (by kernel_rfl) ?_
          refine zstep rfl (fun K hK => ?_)
          have y0 := (blk_of_heap HG5).at0.1
          have y1 := (blk_of_heap HG5).at1.1
          have y2 := (blk_of_heap HG5).at2.1
          have z0 := (blk_of_heap HG5).at0.2
          have z1 := (blk_of_heap HG5).at1.2
          have z2 := (blk_of_heap HG5).at2.2
          have hgs := (blk_of_heap HG5).1
          go_simp
          replace HI := Lib.hid (HI.out.set3 HG5 (.slice A1T 1 C1T) (.slice A2T 0 C2T) (.slice A3T 0 C3T))
          replace HT := Lib.hid (HT.out.set3 HG5 (.slice A1T 1 C1T) (.slice A2T 0 C2T) (.slice A3T 0 C3T))
          replace HG4 := (set3_else (W := w28) (.slice A1T 1 C1T) (.slice A2T 0 C2T) (.slice A3T 0 C3T) (h45)).trans HG4
          replace HB : Hid (Below Wd.heap.size Wd (((w28.setCell ⟨g5, 0, none⟩ (.slice A1T 1 C1T)).setCell ⟨g5, 1, none⟩ (.slice A2T 0 C2T)).setCell ⟨g5, 2, none⟩ (.slice A3T 0 C3T))) := Lib.hid ((Go.Proofs.Ytbellnanikaffaa.set3 HG5 (.slice A1T 1 C1T) (.slice A2T 0 C2T) (.slice A3T 0 C3T)).2.2 _ _ HB.out hg5)
          replace HG5 := (Go.Proofs.Ytbellnanikaffaa.set3 HG5 (.slice A1T 1 C1T) (.slice A2T 0 C2T) (.slice A3T 0 C3T)).1
          clear y0 y1 y2 z0 z1 z2 hgs
          generalize (((w28.setCell ⟨g5, 0, none⟩ (.slice A1T 1 C1T)).setCell ⟨g5, 1, none⟩ (.slice A2T 0 C2T)).setCell ⟨g5, 2, none⟩ (.slice A3T 0 C3T)) = w29 at *
          refine hK.out _ _ (fun _ => HB.out) (fun hH => ?_)
          replace hH := hH (by decide)
          clear hK K
          (try simp only [Act.put, List.getElem_toArray, List.getElem_cons_succ, List.getElem_cons_zero, List.setIfInBounds_toArray, List.set_cons_zero, List.set_cons_succ])
          refine wpAnyZ_done (by kernel_rfl) ?_ _
          clear hH
          go_wp2_with (fail)
          go_meet
          exact ⟨_, _, rfl, rfl, Lib.hid ⟨_, _, _, _, _, HG4, hg4, HI.out⟩, Lib.hid ⟨_, _, _, _, _, HG5, hg5, HT.out⟩, HB⟩
      · refine zstep rfl (fun K hK => ?_)
        go_simp
        have hb : Below w11.heap.size w11 (w11.alloc (.cells #[.slice none 0 0, .slice none 0 0, .slice none 0 0] 30)) := (Below.refl _ _).alloc (Nat.le_refl _) _
        replace HI := Lib.hid (HI.out.below hb)
        have HG5 : (w11.alloc (.cells #[.slice none 0 0, .slice none 0 0, .slice none 0 0] 30)).heap[w11.heap.size]? = some (.cells #[.slice none 0 0, .slice none 0 0, .slice none 0 0] 30 (0, 0)) := heap_new w11 _
        have hlt5 : w11.heap.size < (w11.alloc (.cells #[.slice none 0 0, .slice none 0 0, .slice none 0 0] 30)).heap.size := by simp
        have hgz := HB.out.size
        replace HB : Hid (Below Wd.heap.size Wd (w11.alloc (.cells #[.slice none 0 0, .slice none 0 0, .slice none 0 0] 30))) := Lib.hid (HB.out.trans (hb.mono HB.out.size))
        clear hb
        generalize (w11.alloc (.cells #[.slice none 0 0, .slice none 0 0, .slice none 0 0] 30)) = w30 at *
        generalize hgq : w11.heap.size = g5 at HG5 hlt5 ⊢
        have hg5 : Wd.heap.size ≤ g5 := by rw [← hgq]; exact hgz
        clear hgq hgz
        refine hK.out _ _ (fun _ => HB.out) (fun hH => ?_)
        replace hH := hH (by decide)
        clear hK K
        (try simp only [Act.put, List.getElem_toArray, List.getElem_cons_succ, List.getElem_cons_zero, List.setIfInBounds_toArray, List.set_cons_zero, List.set_cons_succ])
        refine wpAnyZ_two (i := 3) (j := 4) (by kernel_rfl) ?_ ?_
        · refine zstep rfl (fun K hK => ?_)
          go_simp
          (with_reducible refine (KT.out _ HB.out).mono ?_)
          rintro e w31 ⟨v1, v2, v3, f, rfl, hn, hf, h2, h3, hb⟩
          obtain ⟨xT, yT, rfl⟩ := one_pl hf
          obtain ⟨A1T, C1T, rfl, _⟩ := own_slice_n (n := 1) hn.1
          obtain ⟨A2T, C2T, rfl, _⟩ := own_slice_n (n := 0) h2
          obtain ⟨A3T, C3T, rfl, _⟩ := own_slice_n (n := 0) h3
          replace HI := Lib.hid (HI.out.below hb)
          replace HG5 := heap_keep HG5 hb
          replace hlt5 := Nat.lt_of_lt_of_le hlt5 (hb).size
          have HT := Lib.hid (NewT.low hn HB.out.size)
          replace HB : Hid (Below Wd.heap.size Wd w31) := Lib.hid (HB.out.trans (hb.mono HB.out.size))
          clear hn hf h2 h3 hb
          refine hK.out _ _ (fun _ => HB.out) (fun hH => ?_)
          replace hH := hH (by decide)
          clear hK K
          (try simp only [Act.put, List.getElem_toArray, List.getElem_cons_succ, List.getElem_cons_zero, List.setIfInBounds_toArray, List.set_cons_zero, List.set_cons_succ])
          refine wpAnyZ_one (i := 4) (by kernel_rfl) ?_
          refine zstep rfl (fun K hK => ?_)
          go_simp
          have hb : Below w31.heap.size w31 (w31.alloc (.cells #[.slice none 0 0, .slice none 0 0, .slice none 0 0] 30)) := (Below.refl _ _).alloc (Nat.le_refl _) _
          have h45 : w31.heap.size ≠ g5 := (Nat.ne_of_lt hlt5).symm
          replace HI := Lib.hid (HI.out.below hb)
          replace HT := Lib.hid (HT.out.below hb)
          replace HG5 := heap_keep HG5 hb
          replace hlt5 := Nat.lt_of_lt_of_le hlt5 (hb).size
          have HG4 : (w31.alloc (.cells #[.slice none 0 0, .slice none 0 0, .slice none 0 0] 30)).heap[w31.heap.size]? = some (.cells #[.slice none 0 0, .slice none 0 0, .slice none 0 0] 30 (0, 0)) := heap_new w31 _
          have hlt4 : w31.heap.size < (w31.alloc (.cells #[.slice none 0 0, .slice none 0 0, .slice none 0 0] 30)).heap.size := by simp
          clear hlt5
          have hgz := HB.out.size
          replace HB : Hid (Below Wd.heap.size Wd (w31.alloc (.cells #[.slice none 0 0, .slice none 0 0, .slice none 0 0] 30))) := Lib.hid (HB.out.trans (hb.mono HB.out.size))
          clear hb
          generalize (w31.alloc (.cells #[.slice none 0 0, .slice none 0 0, .slice none 0 0] 30)) = w32 at *
          generalize hgq : w31.heap.size = g4 at HG4 hlt4 h45 ⊢
          have hg4 : Wd.heap.size ≤ g4 := by rw [← hgq]; exact hgz
          clear hgq hgz
          refine hK.out _ _ (fun _ => HB.out) (fun hH => ?_)
          replace hH := hH (by decide)
          clear hK K
          (try simp only [Act.put, List.getElem_toArray, List.getElem_cons_succ, List.getElem_cons_zero, List.setIfInBounds_toArray, List.set_cons_zero, List.set_cons_succ])
          refine wpAnyZ_one (i := 6) (by kernel_rfl) ?_
          refine zstep rfl (fun K hK => ?_)
          have y0 := (blk_of_heap HG4).at0.1
          have y1 := (blk_of_heap HG4).at1.1
          have y2 := (blk_of_heap HG4).at2.1
          have z0 := (blk_of_heap HG4).at0.2
          have z1 := (blk_of_heap HG4).at1.2
          have z2 := (blk_of_heap HG4).at2.2
          have hgs := (blk_of_heap HG4).1
          go_simp
          replace HI := Lib.hid (HI.out.set3 HG4 (.slice A1I 1 C1I) (.slice A2I 0 C2I) (.slice A3I 0 C3I))
          replace HT := Lib.hid (HT.out.set3 HG4 (.slice A1I 1 C1I) (.slice A2I 0 C2I) (.slice A3I 0 C3I))
          replace HG5 := (set3_else (W := w32) (.slice A1I 1 C1I) (.slice A2I 0 C2I) (.slice A3I 0 C3I) (h45.symm)).trans HG5
          replace HB : Hid (Below Wd.heap.size Wd (((w32.setCell ⟨g4, 0, none⟩ (.slice A1I 1 C1I)).setCell ⟨g4, 1, none⟩ (.slice A2I 0 C2I)).setCell ⟨g4, 2, none⟩ (.slice A3I 0 C3I))) := Lib.hid ((Go.Proofs.Ytbellnanikaffaa.set3 HG4 (.slice A1I 1 C1I) (.slice A2I 0 C2I) (.slice A3I 0 C3I)).2.2 _ _ HB.out hg4)
          replace HG4 := (Go.Proofs.Ytbellnanikaffaa.set3 HG4 (.slice A1I 1 C1I) (.slice A2I 0 C2I) (.slice A3I 0 C3I)).1
          clear y0 y1 y2 z0 z1 z2 hgs
          generalize (((w32.setCell ⟨g4, 0, none⟩ (.slice A1I 1 C1I)).setCell ⟨g4, 1, none⟩ (.slice A2I 0 C2I)).setCell ⟨g4, 2, none⟩ (.slice A3I 0 C3I)) = w33 at *
          refine hK.out _ _ (fun _ => HB.out) (fun hH => ?_)
          replace hH := hH (by decide)
          clear hK K
          (try simp only [Act.put, List.getElem_toArray, List.getElem_cons_succ, List.getElem_cons_zero, List.setIfInBounds_toArray, List.set_cons_zero, List.set_cons_succ])
          refine wpAnyZ_one (i := 7) (by kernel_rfl) ?_
          refine zstep rfl (fun K hK => ?_)
          have y0 := (blk_of_heap HG5).at0.1
          have y1 := (blk_of_heap HG5).at1.1
          have y2 := (blk_of_heap HG5).at2.1
          have z0 := (blk_of_heap HG5).at0.2
          have z1 := (blk_of_heap HG5).at1.2
          have z2 := (blk_of_heap HG5).at2.2
          have hgs := (blk_of_heap HG5).1
          go_simp
          replace HI := Lib.hid (HI.out.set3 HG5 (.slice A1T 1 C1T) (.slice A2T 0 C2T) (.slice A3T 0 C3T))
          replace HT := Lib.hid (HT.out.set3 HG5 (.slice A1T 1 C1T) (.slice A2T 0 C2T) (.slice A3T 0 C3T))
          replace HG4 := (set3_else (W := w33) (.slice A1T 1 C1T) (.slice A2T 0 C2T) (.slice A3T 0 C3T) (h45)).trans HG4
          replace HB : Hid (Below Wd.heap.size Wd (((w33.setCell ⟨g5, 0, none⟩ (.slice A1T 1 C1T)).setCell ⟨g5, 1, none⟩ (.slice A2T 0 C2T)).setCell ⟨g5, 2, none⟩ (.slice A3T 0 C3T))) := Lib.hid ((Go.Proofs.Ytbellnanikaffaa.set3 HG5 (.slice A1T 1 C1T) (.slice A2T 0 C2T) (.slice A3T 0 C3T)).2.2 _ _ HB.out hg5)
          replace HG5 := (Go.Proofs.Ytbellnanikaffaa.set3 HG5 (.slice A1T 1 C1T) (.slice A2T 0 C2T) (.slice A3T 0 C3T)).1
          clear y0 y1 y2 z0 z1 z2 hgs
          generalize (((w33.setCell ⟨g5, 0, none⟩ (.slice A1T 1 C1T)).setCell ⟨g5, 1, none⟩ (.slice A2T 0 C2T)).setCell ⟨g5, 2, none⟩ (.slice A3T 0 C3T)) = w34 at *
          refine hK.out _ _ (fun _ => HB.out) (fun hH => ?_)
          replace hH := hH (by decide)
          clear hK K
          (try simp only [Act.put, List.getElem_toArray, List.getElem_cons_succ, List.getElem_cons_zero, List.setIfInBounds_toArray, List.set_cons_zero, List.set_cons_succ])
          refine wpAnyZ_done (by kernel_rfl) ?_ _
          clear hH
          go_wp2_with (fail)
          go_meet
          exact ⟨_, _, rfl, rfl, Lib.hid ⟨_, _, _, _, _, HG4, hg4, HI.out⟩, Lib.hid ⟨_, _, _, _, _, HG5, hg5, HT.out⟩, HB⟩
        · refine zstep rfl (fun K hK => ?_)
          go_simp
          have hb : Below w30.heap.size w30 (w30.alloc (.cells #[.slice none 0 0, .slice none 0 0, .slice none 0 0] 30)) := (Below.refl _ _).alloc (Nat.le_refl _) _
          have h45 : w30.heap.size ≠ g5 := (Nat.ne_of_lt hlt5).symm
          replace HI := Lib.hid (HI.out.below hb)
          replace HG5 := heap_keep HG5 hb
          replace hlt5 := Nat.lt_of_lt_of_le hlt5 (hb).size
          have HG4 : (w30.alloc (.cells #[.slice none 0 0, .slice none 0 0, .slice none 0 0] 30)).heap[w30.heap.size]? = some (.cells #[.slice none 0 0, .slice none 0 0, .slice none 0 0] 30 (0, 0)) := heap_new w30 _
          have hlt4 : w30.heap.size < (w30.alloc (.cells #[.slice none 0 0, .slice none 0 0, .slice none 0 0] 30)).heap.size := by simp
          clear hlt5
          have hgz := HB.out.size
          replace HB : Hid (Below Wd.heap.size Wd (w30.alloc (.cells #[.slice none 0 0, .slice none 0 0, .slice none 0 0] 30))) := Lib.hid (HB.out.trans (hb.mono HB.out.size))
          clear hb
          generalize (w30.alloc (.cells #[.slice none 0 0, .slice none 0 0, .slice none 0 0] 30)) = w35 at *
          generalize hgq : w30.heap.size = g4 at HG4 hlt4 h45 ⊢
          have hg4 : Wd.heap.size ≤ g4 := by rw [← hgq]; exact hgz
          clear hgq hgz
          refine hK.out _ _ (fun _ => HB.out) (fun hH => ?_)
          replace hH := hH (by decide)
          clear hK K
          (try simp only [Act.put, List.getElem_toArray, List.getElem_cons_succ, List.getElem_cons_zero, List.setIfInBounds_toArray, List.set_cons_zero, List.set_cons_succ])
          refine wpAnyZ_one (i := 3) (by kernel_rfl) ?_
          refine zstep rfl (fun K hK => ?_)
          go_simp
          (with_reducible refine (KT.out _ HB.out).mono ?_)
          rintro e w36 ⟨v1, v2, v3, f, rfl, hn, hf, h2, h3, hb⟩
          obtain ⟨xT, yT, rfl⟩ := one_pl hf
          obtain ⟨A1T, C1T, rfl, _⟩ := own_slice_n (n := 1) hn.1
          obtain ⟨A2T, C2T, rfl, _⟩ := own_slice_n (n := 0) h2
          obtain ⟨A3T, C3T, rfl, _⟩ := own_slice_n (n := 0) h3
          replace HI := Lib.hid (HI.out.below hb)
          replace HG4 := heap_keep HG4 hb
          replace HG5 := heap_keep HG5 hb
          have HT := Lib.hid (NewT.low hn HB.out.size)
          replace HB : Hid (Below Wd.heap.size Wd w36) := Lib.hid (HB.out.trans (hb.mono HB.out.size))
          clear hn hf h2 h3 hb
          refine hK.out _ _ (fun _ => HB.out) (fun hH => ?_)
          replace hH := hH (by decide)
          clear hK K
          (try simp only [Act.put, List.getElem_toArray, List.getElem_cons_succ, List.getElem_cons_zero, List.setIfInBounds_toArray, List.set_cons_zero, List.set_cons_succ])
          refine wpAnyZ_one (i := 6) (by kernel_rfl) ?_
          refine zstep rfl (fun K hK => ?_)
          have y0 := (blk_of_heap HG4).at0.1
          have y1 := (blk_of_heap HG4).at1.1
          have y2 := (blk_of_heap HG4).at2.1
          have z0 := (blk_of_heap HG4).at0.2
          have z1 := (blk_of_heap HG4).at1.2
          have z2 := (blk_of_heap HG4).at2.2
          have hgs := (blk_of_heap HG4).1
          go_simp
          replace HI := Lib.hid (HI.out.set3 HG4 (.slice A1I 1 C1I) (.slice A2I 0 C2I) (.slice A3I 0 C3I))
          replace HT := Lib.hid (HT.out.set3 HG4 (.slice A1I 1 C1I) (.slice A2I 0 C2I) (.slice A3I 0 C3I))
          replace HG5 := (set3_else (W := w36) (.slice A1I 1 C1I) (.slice A2I 0 C2I) (.slice A3I 0 C3I) (h45.symm)).trans HG5
          replace HB : Hid (Below Wd.heap.size Wd (((w36.setCell ⟨g4, 0, none⟩ (.slice A1I 1 C1I)).setCell ⟨g4, 1, none⟩ (.slice A2I 0 C2I)).setCell ⟨g4, 2, none⟩ (.slice A3I 0 C3I))) := Lib.hid ((Go.Proofs.Ytbellnanikaffaa.set3 HG4 (.slice A1I 1 C1I) (.slice A2I 0 C2I) (.slice A3I 0 C3I)).2.2 _ _ HB.out hg4)
          replace HG4 := (Go.Proofs.Ytbellnanikaffaa.set3 HG4 (.slice A1I 1 C1I) (.slice A2I 0 C2I) (.slice A3I 0 C3I)).1
          clear y0 y1 y2 z0 z1 z2 hgs
          generalize (((w36.setCell ⟨g4, 0, none⟩ (.slice A1I 1 C1I)).setCell ⟨g4, 1, none⟩ (.slice A2I 0 C2I)).setCell ⟨g4, 2, none⟩ (.slice A3I 0 C3I)) = w37 at *
          refine hK.out _ _ (fun _ => HB.out) (fun hH => ?_)
          replace hH := hH (by decide)
          clear hK K
          (try simp only [Act.put, List.getElem_toArray, List.getElem_cons_succ, List.getElem_cons_zero, List.setIfInBounds_toArray, List.set_cons_zero, List.set_cons_succ])
          refine wpAnyZ_one (i := 7) (by kernel_rfl) ?_
          refine zstep rfl (fun K hK => ?_)
          have y0 := (blk_of_heap HG5).at0.1
          have y1 := (blk_of_heap HG5).at1.1
          have y2 := (blk_of_heap HG5).at2.1
          have z0 := (blk_of_heap HG5).at0.2
          have z1 := (blk_of_heap HG5).at1.2
          have z2 := (blk_of_heap HG5).at2.2
          have hgs := (blk_of_heap HG5).1
          go_simp
          replace HI := Lib.hid (HI.out.set3 HG5 (.slice A1T 1 C1T) (.slice A2T 0 C2T) (.slice A3T 0 C3T))
          replace HT := Lib.hid (HT.out.set3 HG5 (.slice A1T 1 C1T) (.slice A2T 0 C2T) (.slice A3T 0 C3T))
          replace HG4 := (set3_else (W := w37) (.slice A1T 1 C1T) (.slice A2T 0 C2T) (.slice A3T 0 C3T) (h45)).trans HG4
          replace HB : Hid (Below Wd.heap.size Wd (((w37.setCell ⟨g5, 0, none⟩ (.slice A1T 1 C1T)).setCell ⟨g5, 1, none⟩ (.slice A2T 0 C2T)).setCell ⟨g5, 2, none⟩ (.slice A3T 0 C3T))) := Lib.hid ((Go.Proofs.Ytbellnanikaffaa.set3 HG5 (.slice A1T 1 C1T) (.slice A2T 0 C2T) (.slice A3T 0 C3T)).2.2 _ _ HB.out hg5)
          replace HG5 := (Go.Proofs.Ytbellnanikaffaa.set3 HG5 (.slice A1T 1 C1T) (.slice A2T 0 C2T) (.slice A3T 0 C3T)).1
          clear y0 y1 y2 z0 z1 z2 hgs
          generalize (((w37.setCell ⟨g5, 0, none⟩ (.slice A1T 1 C1T)).setCell ⟨g5, 1, none⟩ (.slice A2T 0 C2T)).setCell ⟨g5, 2, none⟩ (.slice A3T 0 C3T)) = w38 at *
          refine hK.out _ _ (fun _ => HB.out) (fun hH => ?_)
          replace hH := hH (by decide)
          clear hK K
          (try simp only [Act.put, List.getElem_toArray, List.getElem_cons_succ, List.getElem_cons_zero, List.setIfInBounds_toArray, List.set_cons_zero, List.set_cons_succ])
          refine wpAnyZ_done (by kernel_rfl) ?_ _
          clear hH
          go_wp2_with (fail)
          go_meet
          exact ⟨_, _, rfl, rfl, Lib.hid ⟨_, _, _, _, _, HG4, hg4, HI.out⟩, Lib.hid ⟨_, _, _, _, _, HG5, hg5, HT.out⟩, HB⟩
    · refine zstep rfl (fun K hK => ?_)
      go_simp
      have hb : Below Wd.heap.size Wd (Wd.alloc (.cells #[.slice none 0 0, .slice none 0 0, .slice none 0 0] 30)) := (Below.refl _ _).alloc (Nat.le_refl _) _
      have HG4 : (Wd.alloc (.cells #[.slice none 0 0, .slice none 0 0, .slice none 0 0] 30)).heap[Wd.heap.size]? = some (.cells #[.slice none 0 0, .slice none 0 0, .slice none 0 0] 30 (0, 0)) := heap_new Wd _
      have hlt4 : Wd.heap.size < (Wd.alloc (.cells #[.slice none 0 0, .slice none 0 0, .slice none 0 0] 30)).heap.size := by simp
      have hgz := HB.out.size
      replace HB : Hid (Below Wd.heap.size Wd (Wd.alloc (.cells #[.slice none 0 0, .slice none 0 0, .slice none 0 0] 30))) := Lib.hid (HB.out.trans (hb.mono HB.out.size))
      clear hb
      generalize (Wd.alloc (.cells #[.slice none 0 0, .slice none 0 0, .slice none 0 0] 30)) = w39 at *
      generalize hgq : Wd.heap.size = g4 at HG4 hlt4 ⊢
      have hg4 : Wd.heap.size ≤ g4 := by rw [← hgq]; exact hgz
      clear hgq hgz
      refine hK.out _ _ (fun _ => HB.out) (fun hH => ?_)
      replace hH := hH (by decide)
      clear hK K
      (try simp only [Act.put, List.getElem_toArray, List.getElem_cons_succ, List.getElem_cons_zero, List.setIfInBounds_toArray, List.set_cons_zero, List.set_cons_succ])
      refine wpAnyZ_two (i := 1) (j := 5) (by kernel_rfl) ?_ ?_
      · refine zstep rfl (fun K hK => ?_)
        go_simp
        (with_reducible refine (KI.out _ HB.out).mono ?_)
        rintro e w40 ⟨v1, v2, v3, f, rfl, hn, hf, h2, h3, hb⟩
        obtain ⟨xI, yI, rfl⟩ := one_pl hf
        obtain ⟨A1I, C1I, rfl, _⟩ := own_slice_n (n := 1) hn.1
        obtain ⟨A2I, C2I, rfl, _⟩ := own_slice_n (n := 0) h2
        obtain ⟨A3I, C3I, rfl, _⟩ := own_slice_n (n := 0) h3
        replace HG4 := heap_keep HG4 hb
        replace hlt4 := Nat.lt_of_lt_of_le hlt4 (hb).size
        have HI := Lib.hid (NewT.low hn HB.out.size)
        replace HB : Hid (Below Wd.heap.size Wd w40) := Lib.hid (HB.out.trans (hb.mono HB.out.size))
        clear hn hf h2 h3 hb
        refine hK.out _ _ (fun _ => HB.out) (fun hH => ?_)
        replace hH := hH (by decide)
        clear hK K
        (try simp only [Act.put, List.getElem_toArray, List.getElem_cons_succ, List.getElem_cons_zero, List.setIfInBounds_toArray, List.set_cons_zero, List.set_cons_succ])
        refine wpAnyZ_two (i := 3) (j := 5) (by kernel_rfl) ?_ ?_
        · refine zstep rfl (fun K hK => ?_)
          go_simp
          (with_reducible refine (KT.out _ HB.out).mono ?_)
          rintro e w41 ⟨v1, v2, v3, f, rfl, hn, hf, h2, h3, hb⟩
          obtain ⟨xT, yT, rfl⟩ := one_pl hf
          obtain ⟨A1T, C1T, rfl, _⟩ := own_slice_n (n := 1) hn.1
          obtain ⟨A2T, C2T, rfl, _⟩ := own_slice_n (n := 0) h2
          obtain ⟨A3T, C3T, rfl, _⟩ := own_slice_n (n := 0) h3
          replace HI := Lib.hid (HI.out.below hb)
          replace HG4 := heap_keep HG4 hb
          replace hlt4 := Nat.lt_of_lt_of_le hlt4 (hb).size
          have HT := Lib.hid (NewT.low hn HB.out.size)
          replace HB : Hid (Below Wd.heap.size Wd w41) := Lib.hid (HB.out.trans (hb.mono HB.out.size))
          clear hn hf h2 h3 hb
          refine hK.out _ _ (fun _ => HB.out) (fun hH => ?_)
          replace hH := hH (by decide)
          clear hK K
          (try simp only [Act.put, List.getElem_toArray, List.getElem_cons_succ, List.getElem_cons_zero, List.setIfInBounds_toArray, List.set_cons_zero, List.set_cons_succ])
          refine wpAnyZ_one (i := 5) (by kernel_rfl) ?_
          refine zstep rfl (fun K hK => ?_)
          go_simp
          have hb : Below w41.heap.size w41 (w41.alloc (.cells #[.slice none 0 0, .slice none 0 0, .slice none 0 0] 30)) := (Below.refl _ _).alloc (Nat.le_refl _) _
          have h45 : g4 ≠ w41.heap.size := Nat.ne_of_lt hlt4
          replace HI := Lib.hid (HI.out.below hb)
          replace HT := Lib.hid (HT.out.below hb)
          replace HG4 := heap_keep HG4 hb
          replace hlt4 := Nat.lt_of_lt_of_le hlt4 (hb).size
          have HG5 : (w41.alloc (.cells #[.slice none 0 0, .slice none 0 0, .slice none 0 0] 30)).heap[w41.heap.size]? = some (.cells #[.slice none 0 0, .slice none 0 0, .slice none 0 0] 30 (0, 0)) := heap_new w41 _
          have hlt5 : w41.heap.size < (w41.alloc (.cells #[.slice none 0 0, .slice none 0 0, .slice none 0 0] 30)).heap.size := by simp
          clear hlt4
          have hgz := HB.out.size
          replace HB : Hid (Below Wd.heap.size Wd (w41.alloc (.cells #[.slice none 0 0, .slice none 0 0, .slice none 0 0] 30))) := Lib.hid (HB.out.trans (hb.mono HB.out.size))
          clear hb
          generalize (w41.alloc (.cells #[.slice none 0 0, .slice none 0 0, .slice none 0 0] 30)) = w42 at *
          generalize hgq : w41.heap.size = g5 at HG5 hlt5 h45 ⊢
          have hg5 : Wd.heap.size ≤ g5 := by rw [← hgq]; exact hgz
          clear hgq hgz
          refine hK.out _ _ (fun _ => HB.out) (fun hH => ?_)
          replace hH := hH (by decide)
          clear hK K
          (try simp only [Act.put, List.getElem_toArray, List.getElem_cons_succ, List.getElem_cons_zero, List.setIfInBounds_toArray, List.set_cons_zero, List.set_cons_succ])
          refine wpAnyZ_one (i := 6) (by kernel_rfl) ?_
          refine zstep rfl (fun K hK => ?_)
          have y0 := (blk_of_heap HG4).at0.1
          have y1 := (blk_of_heap HG4).at1.1
          have y2 := (blk_of_heap HG4).at2.1
          have z0 := (blk_of_heap HG4).at0.2
          have z1 := (blk_of_heap HG4).at1.2
          have z2 := (blk_of_heap HG4).at2.2
          have hgs := (blk_of_heap HG4).1
          go_simp
          replace HI := Lib.hid (HI.out.set3 HG4 (.slice A1I 1 C1I) (.slice A2I 0 C2I) (.slice A3I 0 C3I))
          replace HT := Lib.hid (HT.out.set3 HG4 (.slice A1I 1 C1I) (.slice A2I 0 C2I) (.slice A3I 0 C3I))
          replace HG5 := (set3_else (W := w42) (.slice A1I 1 C1I) (.slice A2I 0 C2I) (.slice A3I 0 C3I) (h45.symm)).trans HG5
          replace HB : Hid (Below Wd.heap.size Wd (((w42.setCell ⟨g4, 0, none⟩ (.slice A1I 1 C1I)).setCell ⟨g4, 1, none⟩ (.slice A2I 0 C2I)).setCell ⟨g4, 2, none⟩ (.slice A3I 0 C3I))) := Lib.hid ((Go.Proofs.Ytbellnanikaffaa.set3 HG4 (.slice A1I 1 C1I) (.slice A2I 0 C2I) (.slice A3I 0 C3I)).2.2 _ _ HB.out hg4)
          replace HG4 := (Go.Proofs.Ytbellnanikaffaa.set3 HG4 (.slice A1I 1 C1I) (.slice A2I 0 C2I) (.slice A3I 0 C3I)).1
          clear y0 y1 y2 z0 z1 z2 hgs
          generalize (((w42.setCell ⟨g4, 0, none⟩ (.slice A1I 1 C1I)).setCell ⟨g4, 1, none⟩ (.slice A2I 0 C2I)).setCell ⟨g4, 2, none⟩ (.slice A3I 0 C3I)) = w43 at *
          refine hK.out _ _ (fun _ => HB.out) (fun hH => ?_)
          replace hH := hH (by decide)
          clear hK K
          (try simp only [Act.put, List.getElem_toArray, List.getElem_cons_succ, List.getElem_cons_zero, List.setIfInBounds_toArray, List.set_cons_zero, List.set_cons_succ])
          refine wpAnyZ_one (i := 7) (by kernel_rfl) ?_
          refine zstep rfl (fun K hK => ?_)
          have y0 := (blk_of_heap HG5).at0.1
          have y1 := (blk_of_heap HG5).at1.1
          have y2 := (blk_of_heap HG5).at2.1
          have z0 := (blk_of_heap HG5).at0.2
          have z1 := (blk_of_heap HG5).at1.2
          have z2 := (blk_of_heap HG5).at2.2
          have hgs := (blk_of_heap HG5).1
          go_simp
          replace HI := Lib.hid (HI.out.set3 HG5 (.slice A1T 1 C1T) (.slice A2T 0 C2T) (.slice A3T 0 C3T))
          replace HT := Lib.hid (HT.out.set3 HG5 (.slice A1T 1 C1T) (.slice A2T 0 C2T) (.slice A3T 0 C3T))
          replace HG4 := (set3_else (W := w43) (.slice A1T 1 C1T) (.slice A2T 0 C2T) (.slice A3T 0 C3T) (h45)).trans HG4
          replace HB : Hid (Below Wd.heap.size Wd (((w43.setCell ⟨g5, 0, none⟩ (.slice A1T 1 C1T)).setCell ⟨g5, 1, none⟩ (.slice A2T 0 C2T)).setCell ⟨g5, 2, none⟩ (.slice A3T 0 C3T))) := Lib.hid ((Go.Proofs.Ytbellnanikaffaa.set3 HG5 (.slice A1T 1 C1T) (.slice A2T 0 C2T) (.slice A3T 0 C3T)).2.2 _ _ HB.out hg5)
          replace HG5 := (Go.Proofs.Ytbellnanikaffaa.set3 HG5 (.slice A1T 1 C1T) (.slice A2T 0 C2T) (.slice A3T 0 C3T)).1
          clear y0 y1 y2 z0 z1 z2 hgs
          generalize (((w43.setCell ⟨g5, 0, none⟩ (.slice A1T 1 C1T)).setCell ⟨g5, 1, none⟩ (.slice A2T 0 C2T)).setCell ⟨g5, 2, none⟩ (.slice A3T 0 C3T)) = w44 at *
          refine hK.out _ _ (fun _ => HB.out) (fun hH => ?_)
          replace hH := hH (by decide)
          clear hK K
          (try simp only [Act.put, List.getElem_toArray, List.getElem_cons_succ, List.getElem_cons_zero, List.setIfInBounds_toArray, List.set_cons_zero, List.set_cons_succ])
          refine wpAnyZ_done (by kernel_rfl) ?_ _
          clear hH
          go_wp2_with (fail)
          go_meet
          exact ⟨_, _, rfl, rfl, Lib.hid ⟨_, _, _, _, _, HG4, hg4, HI.out⟩, Lib.hid ⟨_, _, _, _, _, HG5, hg5, HT.out⟩, HB⟩
        · refine zstep rfl (fun K hK => ?_)
          go_simp
          have hb : Below w40.heap.size w40 (w40.alloc (.cells #[.slice none 0 0, .slice none 0 0, .slice none 0 0] 30)) := (Below.refl _ _).alloc (Nat.le_refl _) _
          have h45 : g4 ≠ w40.heap.size := Nat.ne_of_lt hlt4
          replace HI := Lib.hid (HI.out.below hb)
          replace HG4 := heap_keep HG4 hb
          replace hlt4 := Nat.lt_of_lt_of_le hlt4 (hb).size
          have HG5 : (w40.alloc (.cells #[.slice none 0 0, .slice none 0 0, .slice none 0 0] 30)).heap[w40.heap.size]? = some (.cells #[.slice none 0 0, .slice none 0 0, .slice none 0 0] 30 (0, 0)) := heap_new w40 _
          have hlt5 : w40.heap.size < (w40.alloc (.cells #[.slice none 0 0, .slice none 0 0, .slice none 0 0] 30)).heap.size := by simp
          clear hlt4
          have hgz := HB.out.size
          replace HB : Hid (Below Wd.heap.size Wd (w40.alloc (.cells #[.slice none 0 0, .slice none 0 0, .slice none 0 0] 30))) := Lib.hid (HB.out.trans (hb.mono HB.out.size))
          clear hb
          generalize (w40.alloc (.cells #[.slice none 0 0, .slice none 0 0, .slice none 0 0] 30)) = w45 at *
          generalize hgq : w40.heap.size = g5 at HG5 hlt5 h45 ⊢
          have hg5 : Wd.heap.size ≤ g5 := by rw [← hgq]; exact hgz
          clear hgq hgz
          refine hK.out _ _ (fun _ => HB.out) (fun hH => ?_)
          replace hH := hH (by decide)
          clear hK K
          (try simp only [Act.put, List.getElem_toArray, List.getElem_cons_succ, List.getElem_cons_zero, List.setIfInBounds_toArray, List.set_cons_zero, List.set_cons_succ])
          refine wpAnyZ_one (i := 3) (by kernel_rfl) ?_
          refine zstep rfl (fun K hK => ?_)
          go_simp
          (with_reducible refine (KT.out _ HB.out).mono ?_)
          rintro e w46 ⟨v1, v2, v3, f, rfl, hn, hf, h2, h3, hb⟩
          obtain ⟨xT, yT, rfl⟩ := one_pl hf
          obtain ⟨A1T, C1T, rfl, _⟩ := own_slice_n (n := 1) hn.1
          obtain ⟨A2T, C2T, rfl, _⟩ := own_slice_n (n := 0) h2
          obtain ⟨A3T, C3T, rfl, _⟩ := own_slice_n (n := 0) h3
          replace HI := Lib.hid (HI.out.below hb)
          replace HG4 := heap_keep HG4 hb
          replace HG5 := heap_keep HG5 hb
          have HT := Lib.hid (NewT.low hn HB.out.size)
          replace HB : Hid (Below Wd.heap.size Wd w46) := Lib.hid (HB.out.trans (hb.mono HB.out.size))
          clear hn hf h2 h3 hb
          refine hK.out _ _ (fun _ => HB.out) (fun hH => ?_)
          replace hH := hH (by decide)
          clear hK K
          (try simp only [Act.put, List.getElem_toArray, List.getElem_cons_succ, List.getElem_cons_zero, List.setIfInBounds_toArray, List.set_cons_zero, List.set_cons_succ])
          refine wpAnyZ_one (i := 6) (by kernel_rfl) ?_
          refine zstep rfl (fun K hK => ?_)
          have y0 := (blk_of_heap HG4).at0.1
          have y1 := (blk_of_heap HG4).at1.1
          have y2 := (blk_of_heap HG4).at2.1
          have z0 := (blk_of_heap HG4).at0.2
          have z1 := (blk_of_heap HG4).at1.2
          have z2 := (blk_of_heap HG4).at2.2
          have hgs := (blk_of_heap HG4).1
          go_simp
          replace HI := Lib.hid (HI.out.set3 HG4 (.slice A1I 1 C1I) (.slice A2I 0 C2I) (.slice A3I 0 C3I))
          replace HT := Lib.hid (HT.out.set3 HG4 (.slice A1I 1 C1I) (.slice A2I 0 C2I) (.slice A3I 0 C3I))
          replace HG5 := (set3_else (W := w46) (.slice A1I 1 C1I) (.slice A2I 0 C2I) (.slice A3I 0 C3I) (h45.symm)).trans HG5
          replace HB : Hid (Below Wd.heap.size Wd (((w46.setCell ⟨g4, 0, none⟩ (.slice A1I 1 C1I)).setCell ⟨g4, 1, none⟩ (.slice A2I 0 C2I)).setCell ⟨g4, 2, none⟩ (.slice A3I 0 C3I))) := Lib.hid ((Go.Proofs.Ytbellnanikaffaa.set3 HG4 (.slice A1I 1 C1I) (.slice A2I 0 C2I) (.slice A3I 0 C3I)).2.2 _ _ HB.out hg4)
          replace HG4 := (Go.Proofs.Ytbellnanikaffaa.set3 HG4 (.slice A1I 1 C1I) (.slice A2I 0 C2I) (.slice A3I 0 C3I)).1
          clear y0 y1 y2 z0 z1 z2 hgs
          generalize (((w46.setCell ⟨g4, 0, none⟩ (.slice A1I 1 C1I)).setCell ⟨g4, 1, none⟩ (.slice A2I 0 C2I)).setCell ⟨g4, 2, none⟩ (.slice A3I 0 C3I)) = w47 at *
          refine hK.out _ _ (fun _ => HB.out) (fun hH => ?_)
          replace hH := hH (by decide)
          clear hK K
          (try simp only [Act.put, List.getElem_toArray, List.getElem_cons_succ, List.getElem_cons_zero, List.setIfInBounds_toArray, List.set_cons_zero, List.set_cons_succ])
          refine wpAnyZ_one (i := 7) (by kernel_rfl) ?_
          refine zstep rfl (fun K hK => ?_)
          have y0 := (blk_of_heap HG5).at0.1
          have y1 := (blk_of_heap HG5).at1.1
          have y2 := (blk_of_heap HG5).at2.1
          have z0 := (blk_of_heap HG5).at0.2
          have z1 := (blk_of_heap HG5).at1.2
          have z2 := (blk_of_heap HG5).at2.2
          have hgs := (blk_of_heap HG5).1
          go_simp
          replace HI := Lib.hid (HI.out.set3 HG5 (.slice A1T 1 C1T) (.slice A2T 0 C2T) (.slice A3T 0 C3T))
          replace HT := Lib.hid (HT.out.set3 HG5 (.slice A1T 1 C1T) (.slice A2T 0 C2T) (.slice A3T 0 C3T))
          replace HG4 := (set3_else (W := w47) (.slice A1T 1 C1T) (.slice A2T 0 C2T) (.slice A3T 0 C3T) (h45)).trans HG4
          replace HB : Hid (Below Wd.heap.size Wd (((w47.setCell ⟨g5, 0, none⟩ (.slice A1T 1 C1T)).setCell ⟨g5, 1, none⟩ (.slice A2T 0 C2T)).setCell ⟨g5, 2, none⟩ (.slice A3T 0 C3T))) := Lib.hid ((Go.Proofs.Ytbellnanikaffaa.set3 HG5 (.slice A1T 1 C1T) (.slice A2T 0 C2T) (.slice A3T 0 C3T)).2.2 _ _ HB.out hg5)
          replace HG5 := (Go.Proofs.Ytbellnanikaffaa.set3 HG5 (.slice A1T 1 C1T) (.slice A2T 0 C2T) (.slice A3T 0 C3T)).1
          clear y0 y1 y2 z0 z1 z2 hgs
          generalize (((w47.setCell ⟨g5, 0, none⟩ (.slice A1T 1 C1T)).setCell ⟨g5, 1, none⟩ (.slice A2T 0 C2T)).setCell ⟨g5, 2, none⟩ (.slice A3T 0 C3T)) = w48 at *
          refine hK.out _ _ (fun _ => HB.out) (fun hH => ?_)
          replace hH := hH (by decide)
          clear hK K
          (try simp only [Act.put, List.getElem_toArray, List.getElem_cons_succ, List.getElem_cons_zero, List.setIfInBounds_toArray, List.set_cons_zero, List.set_cons_succ])
          refine wpAnyZ_done (by kernel_rfl) ?_ _
          clear hH
          go_wp2_with (fail)
          go_meet
          exact ⟨_, _, rfl, rfl, Lib.hid ⟨_, _, _, _, _, HG4, hg4, HI.out⟩, Lib.hid ⟨_, _, _, _, _, HG5, hg5, HT.out⟩, HB⟩
      · refine zstep rfl (fun K hK => ?_)
        go_simp
        have hb : Below w39.heap.size w39 (w39.alloc (.cells #[.slice none 0 0, .slice none 0 0, .slice none 0 0] 30)) := (Below.refl _ _).alloc (Nat.le_refl _) _
        have h45 : g4 ≠ w39.heap.size := Nat.ne_of_lt hlt4
        replace HG4 := heap_keep HG4 hb
        replace hlt4 := Nat.lt_of_lt_of_le hlt4 (hb).size
        have HG5 : (w39.alloc (.cells #[.slice none 0 0, .slice none 0 0, .slice none 0 0] 30)).heap[w39.heap.size]? = some (.cells #[.slice none 0 0, .slice none 0 0, .slice none 0 0] 30 (0, 0)) := heap_new w39 _
        have hlt5 : w39.heap.size < (w39.alloc (.cells #[.slice none 0 0, .slice none 0 0, .slice none 0 0] 30)).heap.size := by simp
        clear hlt4
        have hgz := HB.out.size
        replace HB : Hid (Below Wd.heap.size Wd (w39.alloc (.cells #[.slice none 0 0, .slice none 0 0, .slice none 0 0] 30))) := Lib.hid (HB.out.trans (hb.mono HB.out.size))
        clear hb
        generalize (w39.alloc (.cells #[.slice none 0 0, .slice none 0 0, .slice none 0 0] 30)) = w49 at *
        generalize hgq : w39.heap.size = g5 at HG5 hlt5 h45 ⊢
        have hg5 : Wd.heap.size ≤ g5 := by rw [← hgq]; exact hgz
        clear hgq hgz
        refine hK.out _ _ (fun _ => HB.out) (fun hH => ?_)
        replace hH := hH (by decide)
        clear hK K
        (try simp only [Act.put, List.getElem_toArray, List.getElem_cons_succ, List.getElem_cons_zero, List.setIfInBounds_toArray, List.set_cons_zero, List.set_cons_succ])
        refine wpAnyZ_one (i := 1) (by kernel_rfl) ?_
        refine zstep rfl (fun K hK => ?_)
        go_simp
        (with_reducible refine (KI.out _ HB.out).mono ?_)
        rintro e w50 ⟨v1, v2, v3, f, rfl, hn, hf, h2, h3, hb⟩
        obtain ⟨xI, yI, rfl⟩ := one_pl hf
        obtain ⟨A1I, C1I, rfl, _⟩ := own_slice_n (n := 1) hn.1
        obtain ⟨A2I, C2I, rfl, _⟩ := own_slice_n (n := 0) h2
        obtain ⟨A3I, C3I, rfl, _⟩ := own_slice_n (n := 0) h3
        replace HG4 := heap_keep HG4 hb
        replace HG5 := heap_keep HG5 hb
        have HI := Lib.hid (NewT.low hn HB.out.size)
        replace HB : Hid (Below Wd.heap.size Wd w50) := Lib.hid (HB.out.trans (hb.mono HB.out.size))
        clear hn hf h2 h3 hb
        refine hK.out _ _ (fun _ => HB.out) (fun hH => ?_)
        replace hH := hH (by decide)
        clear hK K
        (try simp only [Act.put, List.getElem_toArray, List.getElem_cons_succ, List.getElem_cons_zero, List.setIfInBounds_toArray, List.set_cons_zero, List.set_cons_succ])
        refine wpAnyZ_one (i := 3) (by kernel_rfl) ?_
        refine zstep rfl (fun K hK => ?_)
        go_simp
        (with_reducible refine (KT.out _ HB.out).mono ?_)
        rintro e w51 ⟨v1, v2, v3, f, rfl, hn, hf, h2, h3, hb⟩
        obtain ⟨xT, yT, rfl⟩ := one_pl hf
        obtain ⟨A1T, C1T, rfl, _⟩ := own_slice_n (n := 1) hn.1
        obtain ⟨A2T, C2T, rfl, _⟩ := own_slice_n (n := 0) h2
        obtain ⟨A3T, C3T, rfl, _⟩ := own_slice_n (n := 0) h3
        replace HI := Lib.hid (HI.out.below hb)
        replace HG4 := heap_keep HG4 hb
        replace HG5 := heap_keep HG5 hb
        have HT := Lib.hid (NewT.low hn HB.out.size)
        replace HB : Hid (Below Wd.heap.size Wd w51) := Lib.hid (HB.out.trans (hb.mono HB.out.size))
        clear hn hf h2 h3 hb
        refine hK.out _ _ (fun _ => HB.out) (fun hH => ?_)
        replace hH := hH (by decide)
        clear hK K
        (try simp only [Act.put, List.getElem_toArray, List.getElem_cons_succ, List.getElem_cons_zero, List.setIfInBounds_toArray, List.set_cons_zero, List.set_cons_succ])
        refine wpAnyZ_one (i := 6) (by kernel_rfl) ?_
        refine zstep rfl (fun K hK => ?_)
        have y0 := (blk_of_heap HG4).at0.1
        have y1 := (blk_of_heap HG4).at1.1
        have y2 := (blk_of_heap HG4).at2.1
        have z0 := (blk_of_heap HG4).at0.2
        have z1 := (blk_of_heap HG4).at1.2
        have z2 := (blk_of_heap HG4).at2.2
        have hgs := (blk_of_heap HG4).1
        go_simp
        replace HI := Lib.hid (HI.out.set3 HG4 (.slice A1I 1 C1I) (.slice A2I 0 C2I) (.slice A3I 0 C3I))
        replace HT := Lib.hid (HT.out.set3 HG4 (.slice A1I 1 C1I) (.slice A2I 0 C2I) (.slice A3I 0 C3I))
        replace HG5 := (set3_else (W := w51) (.slice A1I 1 C1I) (.slice A2I 0 C2I) (.slice A3I 0 C3I) (h45.symm)).trans HG5
        replace HB : Hid (Below Wd.heap.size Wd (((w51.setCell ⟨g4, 0, none⟩ (.slice A1I 1 C1I)).setCell ⟨g4, 1, none⟩ (.slice A2I 0 C2I)).setCell ⟨g4, 2, none⟩ (.slice A3I 0 C3I))) := Lib.hid ((Go.Proofs.Ytbellnanikaffaa.set3 HG4 (.slice A1I 1 C1I) (.slice A2I 0 C2I) (.slice A3I 0 C3I)).2.2 _ _ HB.out hg4)
        replace HG4 := (Go.Proofs.Ytbellnanikaffaa.set3 HG4 (.slice A1I 1 C1I) (.slice A2I 0 C2I) (.slice A3I 0 C3I)).1
        clear y0 y1 y2 z0 z1 z2 hgs
        generalize (((w51.setCell ⟨g4, 0, none⟩ (.slice A1I 1 C1I)).setCell ⟨g4, 1, none⟩ (.slice A2I 0 C2I)).setCell ⟨g4, 2, none⟩ (.slice A3I 0 C3I)) = w52 at *
        refine hK.out _ _ (fun _ => HB.out) (fun hH => ?_)
        replace hH := hH (by decide)
        clear hK K
        (try simp only [Act.put, List.getElem_toArray, List.getElem_cons_succ, List.getElem_cons_zero, List.setIfInBounds_toArray, List.set_cons_zero, List.set_cons_succ])
        refine wpAnyZ_one (i := 7) (by kernel_rfl) ?_
        refine zstep rfl (fun K hK => ?_)
        have y0 := (blk_of_heap HG5).at0.1
        have y1 := (blk_of_heap HG5).at1.1
        have y2 := (blk_of_heap HG5).at2.1
        have z0 := (blk_of_heap HG5).at0.2
        have z1 := (blk_of_heap HG5).at1.2
        have z2 := (blk_of_heap HG5).at2.2
        have hgs := (blk_of_heap HG5).1
        go_simp
        replace HI := Lib.hid (HI.out.set3 HG5 (.slice A1T 1 C1T) (.slice A2T 0 C2T) (.slice A3T 0 C3T))
        replace HT := Lib.hid (HT.out.set3 HG5 (.slice A1T 1 C1T) (.slice A2T 0 C2T) (.slice A3T 0 C3T))
        replace HG4 := (set3_else (W := w52) (.slice A1T 1 C1T) (.slice A2T 0 C2T) (.slice A3T 0 C3T) (h45)).trans HG4
        replace HB : Hid (Below Wd.heap.size Wd (((w52.setCell ⟨g5, 0, none⟩ (.slice A1T 1 C1T)).setCell ⟨g5, 1, none⟩ (.slice A2T 0 C2T)).setCell ⟨g5, 2, none⟩ (.slice A3T 0 C3T))) := Lib.hid ((Go.Proofs.Ytbellnanikaffaa.set3 HG5 (.slice A1T 1 C1T) (.slice A2T 0 C2T) (.slice A3T 0 C3T)).2.2 _ _ HB.out hg5)
        replace HG5 := (Go.Proofs.Ytbellnanikaffaa.set3 HG5 (.slice A1T 1 C1T) (.slice A2T 0 C2T) (.slice A3T 0 C3T)).1
        clear y0 y1 y2 z0 z1 z2 hgs
        generalize (((w52.setCell ⟨g5, 0, none⟩ (.slice A1T 1 C1T)).setCell ⟨g5, 1, none⟩ (.slice A2T 0 C2T)).setCell ⟨g5, 2, none⟩ (.slice A3T 0 C3T)) = w53 at *
        refine hK.out _ _ (fun _ => HB.out) (fun hH => ?_)
        replace hH := hH (by decide)
        clear hK K
        (try simp only [Act.put, List.getElem_toArray, List.getElem_cons_succ, List.getElem_cons_zero, List.setIfInBounds_toArray, List.set_cons_zero, List.set_cons_succ])
        refine wpAnyZ_done (by kernel_rfl) ?_ _
        clear hH
        go_wp2_with (fail)
        go_meet
        exact ⟨_, _, rfl, rfl, Lib.hid ⟨_, _, _, _, _, HG4, hg4, HI.out⟩, Lib.hid ⟨_, _, _, _, _, HG5, hg5, HT.out⟩, HB⟩
    · refine zstep rfl (fun K hK => ?_)
      go_simp
      have hb : Below Wd.heap.size Wd (Wd.alloc (.cells #[.slice none 0 0, .slice none 0 0, .slice none 0 0] 30)) := (Below.refl _ _).alloc (Nat.le_refl _) _
      have HG5 : (Wd.alloc (.cells #[.slice none 0 0, .slice none 0 0, .slice none 0 0] 30)).heap[Wd.heap.size]? = some (.cells #[.slice none 0 0, .slice none 0 0, .slice none 0 0] 30 (0, 0)) := heap_new Wd _
      have hlt5 : Wd.heap.size < (Wd.alloc (.cells #[.slice none 0 0, .slice none 0 0, .slice none 0 0] 30)).heap.size := by simp
      have hgz := HB.out.size
      replace HB : Hid (Below Wd.heap.size Wd (Wd.alloc (.cells #[.slice none 0 0, .slice none 0 0, .slice none 0 0] 30))) := Lib.hid (HB.out.trans (hb.mono HB.out.size))
      clear hb
      generalize (Wd.alloc (.cells #[.slice none 0 0, .slice none 0 0, .slice none 0 0] 30)) = w54 at *
      generalize hgq : Wd.heap.size = g5 at HG5 hlt5 ⊢
      have hg5 : Wd.heap.size ≤ g5 := by rw [← hgq]; exact hgz
      clear hgq hgz
      refine hK.out _ _ (fun _ => HB.out) (fun hH => ?_)
      replace hH := hH (by decide)
      clear hK K
      (try simp only [Act.put, List.getElem_toArray, List.getElem_cons_succ, List.getElem_cons_zero, List.setIfInBounds_toArray, List.set_cons_zero, List.set_cons_succ])
      refine wpAnyZ_two (i := 1) (j := 4) (by kernel_rfl) ?_ ?_
      · refine zstep rfl (fun K hK => ?_)
        go_simp
        (with_reducible refine (KI.out _ HB.out).mono ?_)
        rintro e w55 ⟨v1, v2, v3, f, rfl, hn, hf, h2, h3, hb⟩
        obtain ⟨xI, yI, rfl⟩ := one_pl hf
        obtain ⟨A1I, C1I, rfl, _⟩ := own_slice_n (n := 1) hn.1
        obtain ⟨A2I, C2I, rfl, _⟩ := own_slice_n (n := 0) h2
        obtain ⟨A3I, C3I, rfl, _⟩ := own_slice_n (n := 0) h3
        replace HG5 := heap_keep HG5 hb
        replace hlt5 := Nat.lt_of_lt_of_le hlt5 (hb).size
        have HI := Lib.hid (NewT.low hn HB.out.size)
        replace HB : Hid (Below Wd.heap.size Wd w55) := Lib.hid (HB.out.trans (hb.mono HB.out.size))
        clear hn hf h2 h3 hb
        refine hK.out _ _ (fun _ => HB.out) (fun hH => ?_)
        replace hH := hH (by decide)
        clear hK K
        (try simp only [Act.put, List.getElem_toArray, List.getElem_cons_succ, List.getElem_cons_zero, List.setIfInBounds_toArray, List.set_cons_zero, List.set_cons_succ])
        refine wpAnyZ_two (i := 3) (j := 4) (by kernel_rfl) ?_ ?_
        · refine zstep rfl (fun K hK => ?_)
          go_simp
          (with_reducible refine (KT.out _ HB.out).mono ?_)
          rintro e w56 ⟨v1, v2, v3, f, rfl, hn, hf, h2, h3, hb⟩
          obtain ⟨xT, yT, rfl⟩ := one_pl hf
          obtain ⟨A1T, C1T, rfl, _⟩ := own_slice_n (n := 1) hn.1
          obtain ⟨A2T, C2T, rfl, _⟩ := own_slice_n (n := 0) h2
          obtain ⟨A3T, C3T, rfl, _⟩ := own_slice_n (n := 0) h3
          replace HI := Lib.hid (HI.out.below hb)
          replace HG5 := heap_keep HG5 hb
          replace hlt5 := Nat.lt_of_lt_of_le hlt5 (hb).size
          have HT := Lib.hid (NewT.low hn HB.out.size)
          replace HB : Hid (Below Wd.heap.size Wd w56) := Lib.hid (HB.out.trans (hb.mono HB.out.size))
          clear hn hf h2 h3 hb
          refine hK.out _ _ (fun _ => HB.out) (fun hH => ?_)
          replace hH := hH (by decide)
          clear hK K
          (try simp only [Act.put, List.getElem_toArray, List.getElem_cons_succ, List.getElem_cons_zero, List.setIfInBounds_toArray, List.set_cons_zero, List.set_cons_succ])
          refine wpAnyZ_one (i := 4) (by kernel_rfl) ?_
          refine zstep rfl (fun K hK => ?_)
          go_simp
          have hb : Below w56.heap.size w56 (w56.alloc (.cells #[.slice none 0 0, .slice none 0 0, .slice none 0 0] 30)) := (Below.refl _ _).alloc (Nat.le_refl _) _
          have h45 : w56.heap.size ≠ g5 := (Nat.ne_of_lt hlt5).symm
          replace HI := Lib.hid (HI.out.below hb)
          replace HT := Lib.hid (HT.out.below hb)
          replace HG5 := heap_keep HG5 hb
          replace hlt5 := Nat.lt_of_lt_of_le hlt5 (hb).size
          have HG4 : (w56.alloc (.cells #[.slice none 0 0, .slice none 0 0, .slice none 0 0] 30)).heap[w56.heap.size]? = some (.cells #[.slice none 0 0, .slice none 0 0, .slice none 0 0] 30 (0, 0)) := heap_new w56 _
          have hlt4 : w56.heap.size < (w56.alloc (.cells #[.slice none 0 0, .slice none 0 0, .slice none 0 0] 30)).heap.size := by simp
          clear hlt5
          have hgz := HB.out.size
          replace HB : Hid (Below Wd.heap.size Wd (w56.alloc (.cells #[.slice none 0 0, .slice none 0 0, .slice none 0 0] 30))) := Lib.hid (HB.out.trans (hb.mono HB.out.size))
          clear hb
          generalize (w56.alloc (.cells #[.slice none 0 0, .slice none 0 0, .slice none 0 0] 30)) = w57 at *
          generalize hgq : w56.heap.size = g4 at HG4 hlt4 h45 ⊢
          have hg4 : Wd.heap.size ≤ g4 := by rw [← hgq]; exact hgz
          clear hgq hgz
          refine hK.out _ _ (fun _ => HB.out) (fun hH => ?_)
          replace hH := hH (by decide)
          clear hK K
          (try simp only [Act.put, List.getElem_toArray, List.getElem_cons_succ, List.getElem_cons_zero, List.setIfInBounds_toArray, List.set_cons_zero, List.set_cons_succ])
          refine wpAnyZ_one (i := 6) (by kernel_rfl) ?_
          refine zstep rfl (fun K hK => ?_)
          have y0 := (blk_of_heap HG4).at0.1
          have y1 := (blk_of_heap HG4).at1.1
          have y2 := (blk_of_heap HG4).at2.1
          have z0 := (blk_of_heap HG4).at0.2
          have z1 := (blk_of_heap HG4).at1.2
          have z2 := (blk_of_heap HG4).at2.2
          have hgs := (blk_of_heap HG4).1
          go_simp
          replace HI := Lib.hid (HI.out.set3 HG4 (.slice A1I 1 C1I) (.slice A2I 0 C2I) (.slice A3I 0 C3I))
          replace HT := Lib.hid (HT.out.set3 HG4 (.slice A1I 1 C1I) (.slice A2I 0 C2I) (.slice A3I 0 C3I))
          replace HG5 := (set3_else (W := w57) (.slice A1I 1 C1I) (.slice A2I 0 C2I) (.slice A3I 0 C3I) (h45.symm)).trans HG5
          replace HB : Hid (Below Wd.heap.size Wd (((w57.setCell ⟨g4, 0, none⟩ (.slice A1I 1 C1I)).setCell ⟨g4, 1, none⟩ (.slice A2I 0 C2I)).setCell ⟨g4, 2, none⟩ (.slice A3I 0 C3I))) := Lib.hid ((Go.Proofs.Ytbellnanikaffaa.set3 HG4 (.slice A1I 1 C1I) (.slice A2I 0 C2I) (.slice A3I 0 C3I)).2.2 _ _ HB.out hg4)
          replace HG4 := (Go.Proofs.Ytbellnanikaffaa.set3 HG4 (.slice A1I 1 C1I) (.slice A2I 0 C2I) (.slice A3I 0 C3I)).1
          clear y0 y1 y2 z0 z1 z2 hgs
          generalize (((w57.setCell ⟨g4, 0, none⟩ (.slice A1I 1 C1I)).setCell ⟨g4, 1, none⟩ (.slice A2I 0 C2I)).setCell ⟨g4, 2, none⟩ (.slice A3I 0 C3I)) = w58 at *
          refine hK.out _ _ (fun _ => HB.out) (fun hH => ?_)
          replace hH := hH (by decide)
          clear hK K
          (try simp only [Act.put, List.getElem_toArray, List.getElem_cons_succ, List.getElem_cons_zero, List.setIfInBounds_toArray, List.set_cons_zero, List.set_cons_succ])
          refine wpAnyZ_one (i := 7) (by kernel_rfl) ?_
          refine zstep rfl (fun K hK => ?_)
          have y0 := (blk_of_heap HG5).at0.1
          have y1 := (blk_of_heap HG5).at1.1
          have y2 := (blk_of_heap HG5).at2.1
          have z0 := (blk_of_heap HG5).at0.2
          have z1 := (blk_of_heap HG5).at1.2
          have z2 := (blk_of_heap HG5).at2.2
          have hgs := (blk_of_heap HG5).1
          go_simp
          replace HI := Lib.hid (HI.out.set3 HG5 (.slice A1T 1 C1T) (.slice A2T 0 C2T) (.slice A3T 0 C3T))
          replace HT := Lib.hid (HT.out.set3 HG5 (.slice A1T 1 C1T) (.slice A2T 0 C2T) (.slice A3T 0 C3T))
          replace HG4 := (set3_else (W := w58) (.slice A1T 1 C1T) (.slice A2T 0 C2T) (.slice A3T 0 C3T) (h45)).trans HG4
          replace HB : Hid (Below Wd.heap.size Wd (((w58.setCell ⟨g5, 0, none⟩ (.slice A1T 1 C1T)).setCell ⟨g5, 1, none⟩ (.slice A2T 0 C2T)).setCell ⟨g5, 2, none⟩ (.slice A3T 0 C3T))) := Lib.hid ((Go.Proofs.Ytbellnanikaffaa.set3 HG5 (.slice A1T 1 C1T) (.slice A2T 0 C2T) (.slice A3T 0 C3T)).2.2 _ _ HB.out hg5)
          replace HG5 := (Go.Proofs.Ytbellnanikaffaa.set3 HG5 (.slice A1T 1 C1T) (.slice A2T 0 C2T) (.slice A3T 0 C3T)).1
          clear y0 y1 y2 z0 z1 z2 hgs
          generalize (((w58.setCell ⟨g5, 0, none⟩ (.slice A1T 1 C1T)).setCell ⟨g5, 1, none⟩ (.slice A2T 0 C2T)).setCell ⟨g5, 2, none⟩ (.slice A3T 0 C3T)) = w59 at *
          refine hK.out _ _ (fun _ => HB.out) (fun hH => ?_)
          replace hH := hH (by decide)
          clear hK K
          (try simp only [Act.put, List.getElem_toArray, List.getElem_cons_succ, List.getElem_cons_zero, List.setIfInBounds_toArray, List.set_cons_zero, List.set_cons_succ])
          refine wpAnyZ_done (by kernel_rfl) ?_ _
          clear hH
          go_wp2_with (fail)
          go_meet
          exact ⟨_, _, rfl, rfl, Lib.hid ⟨_, _, _, _, _, HG4, hg4, HI.out⟩, Lib.hid ⟨_, _, _, _, _, HG5, hg5, HT.out⟩, HB⟩
        · refine zstep rfl (fun K hK => ?_)
          go_simp
          have hb : Below w55.heap.size w55 (w55.alloc (.cells #[.slice none 0 0, .slice none 0 0, .slice none 0 0] 30)) := (Below.refl _ _).alloc (Nat.le_refl _) _
          have h45 : w55.heap.size ≠ g5 := (Nat.ne_of_lt hlt5).symm
          replace HI := Lib.hid (HI.out.below hb)
          replace HG5 := heap_keep HG5 hb
          replace hlt5 := Nat.lt_of_lt_of_le hlt5 (hb).size
          have HG4 : (w55.alloc (.cells #[.slice none 0 0, .slice none 0 0, .slice none 0 0] 30)).heap[w55.heap.size]? = some (.cells #[.slice none 0 0, .slice none 0 0, .slice none 0 0] 30 (0, 0)) := heap_new w55 _
          have hlt4 : w55.heap.size < (w55.alloc (.cells #[.slice none 0 0, .slice none 0 0, .slice none 0 0] 30)).heap.size := by simp
          clear hlt5
          have hgz := HB.out.size
          replace HB : Hid (Below Wd.heap.size Wd (w55.alloc (.cells #[.slice none 0 0, .slice none 0 0, .slice none 0 0] 30))) := Lib.hid (HB.out.trans (hb.mono HB.out.size))
          clear hb
          generalize (w55.alloc (.cells #[.slice none 0 0, .slice none 0 0, .slice none 0 0] 30)) = w60 at *
          generalize hgq : w55.heap.size = g4 at HG4 hlt4 h45 ⊢
          have hg4 : Wd.heap.size ≤ g4 := by rw [← hgq]; exact hgz
          clear hgq hgz
          refine hK.out _ _ (fun _ => HB.out) (fun hH => ?_)
          replace hH := hH (by decide)
          clear hK K
          (try simp only [Act.put, List.getElem_toArray, List.getElem_cons_succ, List.getElem_cons_zero, List.setIfInBounds_toArray, List.set_cons_zero, List.set_cons_succ])
          refine wpAnyZ_one (i := 3) (by kernel_rfl) ?_
          refine zstep rfl (fun K hK => ?_)
          go_simp
          (with_reducible refine (KT.out _ HB.out).mono ?_)
          rintro e w61 ⟨v1, v2, v3, f, rfl, hn, hf, h2, h3, hb⟩
          obtain ⟨xT, yT, rfl⟩ := one_pl hf
          obtain ⟨A1T, C1T, rfl, _⟩ := own_slice_n (n := 1) hn.1
          obtain ⟨A2T, C2T, rfl, _⟩ := own_slice_n (n := 0) h2
          obtain ⟨A3T, C3T, rfl, _⟩ := own_slice_n (n := 0) h3
          replace HI := Lib.hid (HI.out.below hb)
          replace HG4 := heap_keep HG4 hb
          replace HG5 := heap_keep HG5 hb
          have HT := Lib.hid (NewT.low hn HB.out.size)
          replace HB : Hid (Below Wd.heap.size Wd w61) := Lib.hid (HB.out.trans (hb.mono HB.out.size))
          clear hn hf h2 h3 hb
          refine hK.out _ _ (fun _ => HB.out) (fun hH => ?_)
          replace hH := hH (by decide)
          clear hK K
          (try simp only [Act.put, List.getElem_toArray, List.getElem_cons_succ, List.getElem_cons_zero, List.setIfInBounds_toArray, List.set_cons_zero, List.set_cons_succ])
          refine wpAnyZ_one (i := 6) (by kernel_rfl) ?_
          refine zstep rfl (fun K hK => ?_)
          have y0 := (blk_of_heap HG4).at0.1
          have y1 := (blk_of_heap HG4).at1.1
          have y2 := (blk_of_heap HG4).at2.1
          have z0 := (blk_of_heap HG4).at0.2
          have z1 := (blk_of_heap HG4).at1.2
          have z2 := (blk_of_heap HG4).at2.2
          have hgs := (blk_of_heap HG4).1
          go_simp
          replace HI := Lib.hid (HI.out.set3 HG4 (.slice A1I 1 C1I) (.slice A2I 0 C2I) (.slice A3I 0 C3I))
          replace HT := Lib.hid (HT.out.set3 HG4 (.slice A1I 1 C1I) (.slice A2I 0 C2I) (.slice A3I 0 C3I))
          replace HG5 := (set3_else (W := w61) (.slice A1I 1 C1I) (.slice A2I 0 C2I) (.slice A3I 0 C3I) (h45.symm)).trans HG5
          replace HB : Hid (Below Wd.heap.size Wd (((w61.setCell ⟨g4, 0, none⟩ (.slice A1I 1 C1I)).setCell ⟨g4, 1, none⟩ (.slice A2I 0 C2I)).setCell ⟨g4, 2, none⟩ (.slice A3I 0 C3I))) := Lib.hid ((Go.Proofs.Ytbellnanikaffaa.set3 HG4 (.slice A1I 1 C1I) (.slice A2I 0 C2I) (.slice A3I 0 C3I)).2.2 _ _ HB.out hg4)
          replace HG4 := (Go.Proofs.Ytbellnanikaffaa.set3 HG4 (.slice A1I 1 C1I) (.slice A2I 0 C2I) (.slice A3I 0 C3I)).1
          clear y0 y1 y2 z0 z1 z2 hgs
          generalize (((w61.setCell ⟨g4, 0, none⟩ (.slice A1I 1 C1I)).setCell ⟨g4, 1, none⟩ (.slice A2I 0 C2I)).setCell ⟨g4, 2, none⟩ (.slice A3I 0 C3I)) = w62 at *
          refine hK.out _ _ (fun _ => HB.out) (fun hH => ?_)
          replace hH := hH (by decide)
          clear hK K
          (try simp only [Act.put, List.getElem_toArray, List.getElem_cons_succ, List.getElem_cons_zero, List.setIfInBounds_toArray, List.set_cons_zero, List.set_cons_succ])
          refine wpAnyZ_one (i := 7) (by kernel_rfl) ?_
          refine zstep rfl (fun K hK => ?_)
          have y0 := (blk_of_heap HG5).at0.1
          have y1 := (blk_of_heap HG5).at1.1
          have y2 := (blk_of_heap HG5).at2.1
          have z0 := (blk_of_heap HG5).at0.2
          have z1 := (blk_of_heap HG5).at1.2
          have z2 := (blk_of_heap HG5).at2.2
          have hgs := (blk_of_heap HG5).1
          go_simp
          replace HI := Lib.hid (HI.out.set3 HG5 (.slice A1T 1 C1T) (.slice A2T 0 C2T) (.slice A3T 0 C3T))
          replace HT := Lib.hid (HT.out.set3 HG5 (.slice A1T 1 C1T) (.slice A2T 0 C2T) (.slice A3T 0 C3T))
          replace HG4 := (set3_else (W := w62) (.slice A1T 1 C1T) (.slice A2T 0 C2T) (.slice A3T 0 C3T) (h45)).trans HG4
          replace HB : Hid (Below Wd.heap.size Wd (((w62.setCell ⟨g5, 0, none⟩ (.slice A1T 1 C1T)).setCell ⟨g5, 1, none⟩ (.slice A2T 0 C2T)).setCell ⟨g5, 2, none⟩ (.slice A3T 0 C3T))) := Lib.hid ((Go.Proofs.Ytbellnanikaffaa.set3 HG5 (.slice A1T 1 C1T) (.slice A2T 0 C2T) (.slice A3T 0 C3T)).2.2 _ _ HB.out hg5)
          replace HG5 := (Go.Proofs.Ytbellnanikaffaa.set3 HG5 (.slice A1T 1 C1T) (.slice A2T 0 C2T) (.slice A3T 0 C3T)).1
          clear y0 y1 y2 z0 z1 z2 hgs
          generalize (((w62.setCell ⟨g5, 0, none⟩ (.slice A1T 1 C1T)).setCell ⟨g5, 1, none⟩ (.slice A2T 0 C2T)).setCell ⟨g5, 2, none⟩ (.slice A3T 0 C3T)) = w63 at *
          refine hK.out _ _ (fun _ => HB.out) (fun hH => ?_)
          replace hH := hH (by decide)
          clear hK K
          (try simp only [Act.put, List.getElem_toArray, List.getElem_cons_succ, List.getElem_cons_zero, List.setIfInBounds_toArray, List.set_cons_zero, List.set_cons_succ])
          refine wpAnyZ_done (by kernel_rfl) ?_ _
          clear hH
          go_wp2_with (fail)
          go_meet
          exact ⟨_, _, rfl, rfl, Lib.hid ⟨_, _, _, _, _, HG4, hg4, HI.out⟩, Lib.hid ⟨_, _, _, _, _, HG5, hg5, HT.out⟩, HB⟩
      · refine zstep rfl (fun K hK => ?_)
        go_simp
        have hb : Below w54.heap.size w54 (w54.alloc (.cells #[.slice none 0 0, .slice none 0 0, .slice none 0 0] 30)) := (Below.refl _ _).alloc (Nat.le_refl _) _
        have h45 : w54.heap.size ≠ g5 := (Nat.ne_of_lt hlt5).symm
        replace HG5 := heap_keep HG5 hb
        replace hlt5 := Nat.lt_of_lt_of_le hlt5 (hb).size
        have HG4 : (w54.alloc (.cells #[.slice none 0 0, .slice none 0 0, .slice none 0 0] 30)).heap[w54.heap.size]? = some (.cells #[.slice none 0 0, .slice none 0 0, .slice none 0 0] 30 (0, 0)) := heap_new w54 _
        have hlt4 : w54.heap.size < (w54.alloc (.cells #[.slice none 0 0, .slice none 0 0, .slice none 0 0] 30)).heap.size := by simp
        clear hlt5
        have hgz := HB.out.size
        replace HB : Hid (Below Wd.heap.size Wd (w54.alloc (.cells #[.slice none 0 0, .slice none 0 0, .slice none 0 0] 30))) := Lib.hid (HB.out.trans (hb.mono HB.out.size))
        clear hb
        generalize (w54.alloc (.cells #[.slice none 0 0, .slice none 0 0, .slice none 0 0] 30)) = w64 at *
        generalize hgq : w54.heap.size = g4 at HG4 hlt4 h45 ⊢
        have hg4 : Wd.heap.size ≤ g4 := by rw [← hgq]; exact hgz
        clear hgq hgz
        refine hK.out _ _ (fun _ => HB.out) (fun hH => ?_)
        replace hH := hH (by decide)
        clear hK K
        (try simp only [Act.put, List.getElem_toArray, List.getElem_cons_succ, List.getElem_cons_zero, List.setIfInBounds_toArray, List.set_cons_zero, List.set_cons_succ])
        refine wpAnyZ_one (i := 1) (by kernel_rfl) ?_
        refine zstep rfl (fun K hK => ?_)
        go_simp
        (with_reducible refine (KI.out _ HB.out).mono ?_)
        rintro e w65 ⟨v1, v2, v3, f, rfl, hn, hf, h2, h3, hb⟩
        obtain ⟨xI, yI, rfl⟩ := one_pl hf
        obtain ⟨A1I, C1I, rfl, _⟩ := own_slice_n (n := 1) hn.1
        obtain ⟨A2I, C2I, rfl, _⟩ := own_slice_n (n := 0) h2
        obtain ⟨A3I, C3I, rfl, _⟩ := own_slice_n (n := 0) h3
        replace HG4 := heap_keep HG4 hb
        replace HG5 := heap_keep HG5 hb
        have HI := Lib.hid (NewT.low hn HB.out.size)
        replace HB : Hid (Below Wd.heap.size Wd w65) := Lib.hid (HB.out.trans (hb.mono HB.out.size))
        clear hn hf h2 h3 hb
        refine hK.out _ _ (fun _ => HB.out) (fun hH => ?_)
        replace hH := hH (by decide)
        clear hK K
        (try simp only [Act.put, List.getElem_toArray, List.getElem_cons_succ, List.getElem_cons_zero, List.setIfInBounds_toArray, List.set_cons_zero, List.set_cons_succ])
        refine wpAnyZ_one (i := 3) (by kernel_rfl) ?_
        refine zstep rfl (fun K hK => ?_)
        go_simp
        (with_reducible refine (KT.out _ HB.out).mono ?_)
        rintro e w66 ⟨v1, v2, v3, f, rfl, hn, hf, h2, h3, hb⟩
        obtain ⟨xT, yT, rfl⟩ := one_pl hf
        obtain ⟨A1T, C1T, rfl, _⟩ := own_slice_n (n := 1) hn.1
        obtain ⟨A2T, C2T, rfl, _⟩ := own_slice_n (n := 0) h2
        obtain ⟨A3T, C3T, rfl, _⟩ := own_slice_n (n := 0) h3
        replace HI := Lib.hid (HI.out.below hb)
        replace HG4 := heap_keep HG4 hb
        replace HG5 := heap_keep HG5 hb
        have HT := Lib.hid (NewT.low hn HB.out.size)
        replace HB : Hid (Below Wd.heap.size Wd w66) := Lib.hid (HB.out.trans (hb.mono HB.out.size))
        clear hn hf h2 h3 hb
        refine hK.out _ _ (fun _ => HB.out) (fun hH => ?_)
        replace hH := hH (by decide)
        clear hK K
        (try simp only [Act.put, List.getElem_toArray, List.getElem_cons_succ, List.getElem_cons_zero, List.setIfInBounds_toArray, List.set_cons_zero, List.set_cons_succ])
        refine wpAnyZ_one (i := 6) (by kernel_rfl) ?_
        refine zstep rfl (fun K hK => ?_)
        have y0 := (blk_of_heap HG4).at0.1
        have y1 := (blk_of_heap HG4).at1.1
        have y2 := (blk_of_heap HG4).at2.1
        have z0 := (blk_of_heap HG4).at0.2
        have z1 := (blk_of_heap HG4).at1.2
        have z2 := (blk_of_heap HG4).at2.2
        have hgs := (blk_of_heap HG4).1
        go_simp
        replace HI := Lib.hid (HI.out.set3 HG4 (.slice A1I 1 C1I) (.slice A2I 0 C2I) (.slice A3I 0 C3I))
        replace HT := Lib.hid (HT.out.set3 HG4 (.slice A1I 1 C1I) (.slice A2I 0 C2I) (.slice A3I 0 C3I))
        replace HG5 := (set3_else (W := w66) (.slice A1I 1 C1I) (.slice A2I 0 C2I) (.slice A3I 0 C3I) (h45.symm)).trans HG5
        replace HB : Hid (Below Wd.heap.size Wd (((w66.setCell ⟨g4, 0, none⟩ (.slice A1I 1 C1I)).setCell ⟨g4, 1, none⟩ (.slice A2I 0 C2I)).setCell ⟨g4, 2, none⟩ (.slice A3I 0 C3I))) := Lib.hid ((Go.Proofs.Ytbellnanikaffaa.set3 HG4 (.slice A1I 1 C1I) (.slice A2I 0 C2I) (.slice A3I 0 C3I)).2.2 _ _ HB.out hg4)
        replace HG4 := (Go.Proofs.Ytbellnanikaffaa.set3 HG4 (.slice A1I 1 C1I) (.slice A2I 0 C2I) (.slice A3I 0 C3I)).1
        clear y0 y1 y2 z0 z1 z2 hgs
        generalize (((w66.setCell ⟨g4, 0, none⟩ (.slice A1I 1 C1I)).setCell ⟨g4, 1, none⟩ (.slice A2I 0 C2I)).setCell ⟨g4, 2, none⟩ (.slice A3I 0 C3I)) = w67 at *
        refine hK.out _ _ (fun _ => HB.out) (fun hH => ?_)
        replace hH := hH (by decide)
        clear hK K
        (try simp only [Act.put, List.getElem_toArray, List.getElem_cons_succ, List.getElem_cons_zero, List.setIfInBounds_toArray, List.set_cons_zero, List.set_cons_succ])
        refine wpAnyZ_one (i := 7) (by kernel_rfl) ?_
        refine zstep rfl (fun K hK => ?_)
        have y0 := (blk_of_heap HG5).at0.1
        have y1 := (blk_of_heap HG5).at1.1
        have y2 := (blk_of_heap HG5).at2.1
        have z0 := (blk_of_heap HG5).at0.2
        have z1 := (blk_of_heap HG5).at1.2
        have z2 := (blk_of_heap HG5).at2.2
        have hgs := (blk_of_heap HG5).1
        go_simp
        replace HI := Lib.hid (HI.out.set3 HG5 (.slice A1T 1 C1T) (.slice A2T 0 C2T) (.slice A3T 0 C3T))
        replace HT := Lib.hid (HT.out.set3 HG5 (.slice A1T 1 C1T) (.slice A2T 0 C2T) (.slice A3T 0 C3T))
        replace HG4 := (set3_else (W := w67) (.slice A1T 1 C1T) (.slice A2T 0 C2T) (.slice A3T 0 C3T) (h45)).trans HG4
        replace HB : Hid (Below Wd.heap.size Wd (((w67.setCell ⟨g5, 0, none⟩ (.slice A1T 1 C1T)).setCell ⟨g5, 1, none⟩ (.slice A2T 0 C2T)).setCell ⟨g5, 2, none⟩ (.slice A3T 0 C3T))) := Lib.hid ((Go.Proofs.Ytbellnanikaffaa.set3 HG5 (.slice A1T 1 C1T) (.slice A2T 0 C2T) (.slice A3T 0 C3T)).2.2 _ _ HB.out hg5)
        replace HG5 := (Go.Proofs.Ytbellnanikaffaa.set3 HG5 (.slice A1T 1 C1T) (.slice A2T 0 C2T) (.slice A3T 0 C3T)).1
        clear y0 y1 y2 z0 z1 z2 hgs
        generalize (((w67.setCell ⟨g5, 0, none⟩ (.slice A1T 1 C1T)).setCell ⟨g5, 1, none⟩ (.slice A2T 0 C2T)).setCell ⟨g5, 2, none⟩ (.slice A3T 0 C3T)) = w68 at *
        refine hK.out _ _ (fun _ => HB.out) (fun hH => ?_)
        replace hH := hH (by decide)
        clear hK K
        (try simp only [Act.put, List.getElem_toArray, List.getElem_cons_succ, List.getElem_cons_zero, List.setIfInBounds_toArray, List.set_cons_zero, List.set_cons_succ])
        refine wpAnyZ_done (by kernel_rfl) ?_ _
        clear hH
        go_wp2_with (fail)
        go_meet
        exact ⟨_, _, rfl, rfl, Lib.hid ⟨_, _, _, _, _, HG4, hg4, HI.out⟩, Lib.hid ⟨_, _, _, _, _, HG5, hg5, HT.out⟩, HB⟩
  case rest =>
    obtain ⟨gi, gt, rfl, rfl, HI, HT, HB⟩ := hcut
    clear e0 e1 e2 B1 B2 B3 BT G1 GD HX7 HY7 HP7 HQ7 HB7 hd0
    generalize We.drew = Wd at *
    obtain ⟨vt, vl, vi, x1, y1, hgi, hgeI, hnI⟩ := HI.out
    obtain ⟨ut, ul, ui, x2, y2, hgt, hgeT, hnT⟩ := HT.out
    clear HI HT
    obtain ⟨q1, p1, rfl, hq1, hq1'⟩ := (show wc.ownsRow Wd.heap.size 24 3 vt 1 _ from hnI.1).form (by decide)
    obtain ⟨q2, p2, rfl, hq2, hq2'⟩ := (show wc.ownsRow Wd.heap.size 24 3 ut 1 _ from hnT.1).form (by decide)
    have TI := hnI.2 _ (List.mem_singleton.2 rfl)
    have TT := hnT.2 _ (List.mem_singleton.2 rfl)
    have tx1 := TI.1
    have ty1 := TI.2
    have tx2 := TT.1
    dsimp only at tx1 ty1 tx2
    rw [hlb] at tx1
    rw [hla] at ty1 tx2
    obtain ⟨r1, s1, rfl, hr1, hr1'⟩ := tx1.form (by omega)
    obtain ⟨r2, s2, rfl, hr2, hr2'⟩ := ty1.form (by omega)
    obtain ⟨r3, s3, rfl, hr3, hr3'⟩ := tx2.form (by omega)
    have cI1 : wc.cell? ⟨q1, 1, none⟩ = some (.slice (some ⟨r1, 0, none⟩) nb s1) := hnI.1.cells (g := q1) rfl 1 _ rfl
    have cI2 : wc.cell? ⟨q1, 2, none⟩ = some (.slice (some ⟨r2, 0, none⟩) na s2) := hnI.1.cells (g := q1) rfl 2 _ rfl
    have cT1 : wc.cell? ⟨q2, 1, none⟩ = some (.slice (some ⟨r3, 0, none⟩) na s3) := hnT.1.cells (g := q2) rfl 1 _ rfl
    have bI0 := (blk_of_heap hgi).at0.1
    have bT0 := (blk_of_heap hgt).at0.1
    have tyI : Typed wc q1 24 := (own_typed hnI.1 rfl).1
    have tyT : Typed wc q2 24 := (own_typed hnT.1 rfl).1
    have ty_1 : Typed wc r1 3 := (own_typed tx1 rfl).1
    have ty_2 : Typed wc r2 3 := (own_typed ty1 rfl).1
    have ty_3 : Typed wc r3 3 := (own_typed tx2 rfl).1
    have tyGi : Typed wc gi 30 := ⟨_, hgi⟩
    have tyGt : Typed wc gt 30 := ⟨_, hgt⟩
    obtain ⟨u1, k1, z1⟩ := own_cell tx1 (j := 0) (by omega)
    obtain ⟨u2, k2, z2⟩ := own_cell ty1 (j := 0) (by omega)
    obtain ⟨u3, k3, z3⟩ := own_cell tx2 (j := 0) (by omega)
    have n1 : q1 ≠ r1 := typed_ne tyI ty_1 (by decide)
    have n2 : q1 ≠ r2 := typed_ne tyI ty_2 (by decide)
    have n3 : q2 ≠ r1 := typed_ne tyT ty_1 (by decide)
    have n4 : q2 ≠ r2 := typed_ne tyT ty_2 (by decide)
    have n5 : gi ≠ r1 := typed_ne tyGi ty_1 (by decide)
    have n6 : gi ≠ r2 := typed_ne tyGi ty_2 (by decide)
    have n7 : gt ≠ r1 := typed_ne tyGt ty_1 (by decide)
    have n8 : gt ≠ r2 := typed_ne tyGt ty_2 (by decide)
    have HTI := Lib.hid hgi
    clear hnI hnT TI TT tx1 ty1 tx2 tyI tyT ty_1 ty_2 ty_3 tyGi tyGt hgi hgt hq1 hq2 hgeI hgeT hq1' hq2' hr1' hr2' hr3' HTI
    have hnbz : (0 : Int) < (nb : Int) := by omega
    have hnaz : (0 : Int) < (na : Int) := by omega
    have hnbN : 0 < nb := hnb1
    have hnaN : 0 < na := hna1
    go_upto_region 7 with (fail)
    refine wp_region_z (S := (fun W => W.cell? ⟨gi, 0, none⟩ = some (.slice (some ⟨q1, 0, none⟩) 1 p1) ∧ W.cell? ⟨q1, 1, none⟩ = some (.slice (some ⟨r1, 0, none⟩) nb s1) ∧ W.cell? ⟨q1, 2, none⟩ = some (.slice (some ⟨r2, 0, none⟩) na s2))) (z := 14) (by kernel_rfl) ⟨bI0, cI1, cI2⟩ (fun hH => ?_)
    replace bI0 : wc.drew.cell? ⟨gi, 0, none⟩ = _ := bI0
    replace bT0 : wc.drew.cell? ⟨gt, 0, none⟩ = _ := bT0
    replace cI1 : wc.drew.cell? ⟨q1, 1, none⟩ = _ := cI1
    replace cI2 : wc.drew.cell? ⟨q1, 2, none⟩ = _ := cI2
    replace cT1 : wc.drew.cell? ⟨q2, 1, none⟩ = _ := cT1
    replace k1 : wc.drew.cell? ⟨r1, 0, none⟩ = _ := k1
    replace k2 : wc.drew.cell? ⟨r2, 0, none⟩ = _ := k2
    replace k3 : wc.drew.cell? ⟨r3, 0, none⟩ = _ := k3
    replace z1 : wc.drew.frozen? ⟨r1, 0, none⟩ = _ := z1
    replace z2 : wc.drew.frozen? ⟨r2, 0, none⟩ = _ := z2
    replace z3 : wc.drew.frozen? ⟨r3, 0, none⟩ = _ := z3
    replace HB : Hid (Below Wd.heap.size Wd wc.drew) := Lib.hid HB.out.drew
    generalize wc.drew = wd at *
    refine wpAnyZ_takeS (i := 0) (v := ?_) rfl (by kernel_rfl) (by kernel_rfl) (by kernel_rfl) (by kernel_rfl) (fun _ _ _ h => h) (gives_value (by rfl) ?_) (by assumption) ?_
    rotate_left
    · intro w hSw
      obtain ⟨s0, s1, s2⟩ := hSw
      go_simp
      (try with_reducible rfl)
    (try simp only [Act.put, List.getElem_toArray, List.getElem_cons_succ, List.getElem_cons_zero, List.setIfInBounds_toArray, List.set_cons_zero, List.set_cons_succ])
    refine wpAnyZ_takeS (i := 1) (v := ?_) rfl (by kernel_rfl) (by kernel_rfl) (by kernel_rfl) (by kernel_rfl) (fun _ _ _ h => h) (gives_value (by rfl) ?_) (by assumption) ?_
    rotate_left
    · intro w hSw
      obtain ⟨s0, s1, s2⟩ := hSw
      go_simp
      (try with_reducible rfl)
    (try simp only [Act.put, List.getElem_toArray, List.getElem_cons_succ, List.getElem_cons_zero, List.setIfInBounds_toArray, List.set_cons_zero, List.set_cons_succ])
    refine wpAnyZ_takeS (i := 2) (v := ?_) rfl (by kernel_rfl) (by kernel_rfl) (by kernel_rfl) (by kernel_rfl) (fun _ _ _ h => h) (gives_value (by rfl) ?_) (by assumption) ?_
    rotate_left
    · intro w hSw
      obtain ⟨s0, s1, s2⟩ := hSw
      go_simp
      (try with_reducible rfl)
    (try simp only [Act.put, List.getElem_toArray, List.getElem_cons_succ, List.getElem_cons_zero, List.setIfInBounds_toArray, List.set_cons_zero, List.set_cons_succ])
    refine wpAnyZ_takeS (i := 3) (v := ?_) rfl (by kernel_rfl) (by kernel_rfl) (by kernel_rfl) (by kernel_rfl) (fun _ _ _ h => h) (gives_value (by rfl) ?_) (by assumption) ?_
    rotate_left
    · intro w hSw
      obtain ⟨s0, s1, s2⟩ := hSw
      go_simp
      (try with_reducible rfl)
    (try simp only [Act.put, List.getElem_toArray, List.getElem_cons_succ, List.getElem_cons_zero, List.setIfInBounds_toArray, List.set_cons_zero, List.set_cons_succ])
    refine wpAnyZ_takeS (i := 4) (v := ?_) rfl (by kernel_rfl) (by kernel_rfl) (by kernel_rfl) (by kernel_rfl) (fun _ _ _ h => h) (gives_value (by rfl) ?_) (by assumption) ?_
    rotate_left
    · intro w hSw
      obtain ⟨s0, s1, s2⟩ := hSw
      go_simp
      (try with_reducible rfl)
    (try simp only [Act.put, List.getElem_toArray, List.getElem_cons_succ, List.getElem_cons_zero, List.setIfInBounds_toArray, List.set_cons_zero, List.set_cons_succ])
    refine wpAnyZ_takeS (i := 5) (v := ?_) rfl (by kernel_rfl) (by kernel_rfl) (by kernel_rfl) (by kernel_rfl) (fun _ _ _ h => h) (gives_value (by rfl) ?_) (by assumption) ?_
    rotate_left
    · intro w hSw
      obtain ⟨s0, s1, s2⟩ := hSw
      go_simp
      (try with_reducible rfl)
    (try simp only [Act.put, List.getElem_toArray, List.getElem_cons_succ, List.getElem_cons_zero, List.setIfInBounds_toArray, List.set_cons_zero, List.set_cons_succ])
    refine wpAnyZ_takeS (i := 6) (v := ?_) rfl (by kernel_rfl) (by kernel_rfl) (by kernel_rfl) (by kernel_rfl) (fun _ _ _ h => h) (gives_value (by rfl) ?_) (by assumption) ?_
    rotate_left
    · intro w hSw
      obtain ⟨s0, s1, s2⟩ := hSw
      go_simp
      (try with_reducible rfl)
    (try simp only [Act.put, List.getElem_toArray, List.getElem_cons_succ, List.getElem_cons_zero, List.setIfInBounds_toArray, List.set_cons_zero, List.set_cons_succ])
    refine wpAnyZ_takeS (i := 7) (v := ?_) rfl (by kernel_rfl) (by kernel_rfl) (by kernel_rfl) (by kernel_rfl) (fun _ _ _ h => h) (gives_value (by rfl) ?_) (by assumption) ?_
    rotate_left
    · intro w hSw
      obtain ⟨s0, s1, s2⟩ := hSw
      go_simp
      (try with_reducible rfl)
    (try simp only [Act.put, List.getElem_toArray, List.getElem_cons_succ, List.getElem_cons_zero, List.setIfInBounds_toArray, List.set_cons_zero, List.set_cons_succ])
    refine wpAnyZ_takeS (i := 8) (v := ?_) rfl (by kernel_rfl) (by kernel_rfl) (by kernel_rfl) (by kernel_rfl) (fun _ _ _ h => h) (gives_value (by rfl) ?_) (by assumption) ?_
    rotate_left
    · intro w hSw
      obtain ⟨s0, s1, s2⟩ := hSw
      go_simp
      (try with_reducible rfl)
    (try simp only [Act.put, List.getElem_toArray, List.getElem_cons_succ, List.getElem_cons_zero, List.setIfInBounds_toArray, List.set_cons_zero, List.set_cons_succ])
    refine wpAnyZ_takeS (i := 9) (v := ?_) rfl (by kernel_rfl) (by kernel_rfl) (by kernel_rfl) (by kernel_rfl) (fun _ _ _ h => h) (gives_value (by rfl) ?_) (by assumption) ?_
    rotate_left
    · intro w hSw
      obtain ⟨s0, s1, s2⟩ := hSw
      go_simp
      (try with_reducible rfl)
    (try simp only [Act.put, List.getElem_toArray, List.getElem_cons_succ, List.getElem_cons_zero, List.setIfInBounds_toArray, List.set_cons_zero, List.set_cons_succ])
    refine wpAnyZ_takeS (i := 10) (v := ?_) rfl (by kernel_rfl) (by kernel_rfl) (by kernel_rfl) (by kernel_rfl) (fun _ _ _ h => h) (gives_value (by rfl) ?_) (by assumption) ?_
    rotate_left
    · intro w hSw
      obtain ⟨s0, s1, s2⟩ := hSw
      go_simp
      (try with_reducible rfl)
    (try simp only [Act.put, List.getElem_toArray, List.getElem_cons_succ, List.getElem_cons_zero, List.setIfInBounds_toArray, List.set_cons_zero, List.set_cons_succ])
    refine wpAnyZ_one (i := 11) (by kernel_rfl) ?_
    refine zstep rfl (fun K hK => ?_)
    go_simp
    have oth : ∀ (q j : Nat), q ≠ r1 → (wd.setCell ⟨r1, 0, none⟩ (.int .i64 (-7))).cell? ⟨q, j, none⟩ = wd.cell? ⟨q, j, none⟩ := fun q j hq => World.cell?_setCell_other _ _ _ _ (fun e => hq (by injection e with e1; first | exact e1 | exact e1.symm))
    replace bI0 := (oth gi 0 n5).trans bI0
    replace bT0 := (oth gt 0 n7).trans bT0
    replace cI1 := (oth q1 1 n1).trans cI1
    replace cI2 := (oth q1 2 n1).trans cI2
    replace cT1 := (oth q2 1 n3).trans cT1
    clear oth
    obtain ⟨u2, k2, z2⟩ := cell_stays ⟨r1, 0, none⟩ (.int .i64 (-7)) ⟨u2, k2, z2⟩
    obtain ⟨u3, k3, z3⟩ := cell_stays ⟨r1, 0, none⟩ (.int .i64 (-7)) ⟨u3, k3, z3⟩
    replace HB : Hid (Below Wd.heap.size Wd (wd.setCell ⟨r1, 0, none⟩ (.int .i64 (-7)))) := Lib.hid (HB.out.setCell hr1 _)
    clear k1 z1
    generalize (wd.setCell ⟨r1, 0, none⟩ (.int .i64 (-7))) = w69 at *
    refine hK.out _ _ (fun _ => ⟨bI0, cI1, cI2⟩) (fun hH => ?_)
    replace hH := hH (by decide)
    clear hK K
    (try simp only [Act.put, List.getElem_toArray, List.getElem_cons_succ, List.getElem_cons_zero, List.setIfInBounds_toArray, List.set_cons_zero, List.set_cons_succ])
    refine wpAnyZ_takeS (i := 12) (v := ?_) rfl (by kernel_rfl) (by kernel_rfl) (by kernel_rfl) (by kernel_rfl) (fun _ _ _ h => h) (gives_value (by rfl) ?_) (by assumption) ?_
    rotate_left
    · intro w hSw
      obtain ⟨s0, s1, s2⟩ := hSw
      go_simp
      (try with_reducible rfl)
    (try simp only [Act.put, List.getElem_toArray, List.getElem_cons_succ, List.getElem_cons_zero, List.setIfInBounds_toArray, List.set_cons_zero, List.set_cons_succ])
    refine wpAnyZ_one (i := 13) (by kernel_rfl) ?_
    refine zstep rfl (fun K hK => ?_)
    go_simp
    have oth : ∀ (q j : Nat), q ≠ r2 → (w69.setCell ⟨r2, 0, none⟩ (.int .i64 (-8))).cell? ⟨q, j, none⟩ = w69.cell? ⟨q, j, none⟩ := fun q j hq => World.cell?_setCell_other _ _ _ _ (fun e => hq (by injection e with e1; first | exact e1 | exact e1.symm))
    replace bI0 := (oth gi 0 n6).trans bI0
    replace bT0 := (oth gt 0 n8).trans bT0
    replace cI1 := (oth q1 1 n2).trans cI1
    replace cI2 := (oth q1 2 n2).trans cI2
    replace cT1 := (oth q2 1 n4).trans cT1
    clear oth
    obtain ⟨u3, k3, z3⟩ := cell_stays ⟨r2, 0, none⟩ (.int .i64 (-8)) ⟨u3, k3, z3⟩
    replace HB : Hid (Below Wd.heap.size Wd (w69.setCell ⟨r2, 0, none⟩ (.int .i64 (-8)))) := Lib.hid (HB.out.setCell hr2 _)
    clear k2 z2
    generalize (w69.setCell ⟨r2, 0, none⟩ (.int .i64 (-8))) = w70 at *
    refine hK.out _ _ (fun _ => ⟨bI0, cI1, cI2⟩) (fun hH => ?_)
    replace hH := hH (by decide)
    clear hK K
    (try simp only [Act.put, List.getElem_toArray, List.getElem_cons_succ, List.getElem_cons_zero, List.setIfInBounds_toArray, List.set_cons_zero, List.set_cons_succ])
    refine wpAnyZ_done (by kernel_rfl) ?_ _
    clear hH
    have t8 : decide ((na : Int) > 0) = true := by simp; omega
    have t8' : decide (0 < (na : Int)) = true := by simp; omega
    have hz31 : (0 : Int) < (na : Int) := by omega
    go_upto_region 10 with (fail)
    have HX := Lib.hid (fun W (hb : Below Wd.heap.size Wd W) => (own_recs1 (by rw [hla]; exact HXd.out) : Recs Wd 1 num_ (.slice Ax na Cx) a1).below (hb))
    have HA := Lib.hid (fun W (hb : Below Wd.heap.size Wd W) => (own_recs1 (by rw [hla]; exact HPd.out) : Recs Wd 1 num_ (.slice A2 na C2) a1).below (hb))
    have HY := Lib.hid (fun W (hb : Below Wd.heap.size Wd W) => (own_recs1 (by rw [hlb]; exact HYd.out) : Recs Wd 1 num_ (.slice Ay nb Cy) b1).below (hb))
    have HBq := Lib.hid (fun W (hb : Below Wd.heap.size Wd W) => (own_recs1 (by rw [hlb]; exact HQd.out) : Recs Wd 1 num_ (.slice A4 nb C4) b1).below (hb))
    have HBz : Hid (Below Wd.heap.size Wd (w70.setCell ⟨r3, 0, none⟩ (.int .i64 (-9)))) := Lib.hid (HB.out.setCell hr3 _)
    generalize w70.setCell ⟨r3, 0, none⟩ (.int .i64 (-9)) = we at *
    have S1 := Lib.hid (fun W (hb : Below Wd.heap.size Wd W) => same_ints (.slice Ax na Cx) (.slice A2 na C2) a1 W (HX.out W hb) (HA.out W hb) (by omega))
    have S2 := Lib.hid (fun W (hb : Below Wd.heap.size Wd W) => same_ints (.slice Ay nb Cy) (.slice A4 nb C4) b1 W (HY.out W hb) (HBq.out W hb) (by omega))
    clear HX HA HY HBq
    go_wp2_with (go_at_call 12; fail)
    (with_reducible refine (S1.out _ HBz.out).mono ?_)
    rintro e wf ⟨rfl, n9, rfl⟩
    have HBy : Hid (Below Wd.heap.size Wd (we.drewN n9)) := Lib.hid (below_draws HBz.out n9)
    generalize we.drewN n9 = wy at *
    go_wp2_with (go_at_call 12; fail)
    (with_reducible refine (S2.out _ HBy.out).mono ?_)
    rintro e wg ⟨rfl, n10, rfl⟩
    have HBx : Hid (Below Wd.heap.size Wd (wy.drewN n10)) := Lib.hid (below_draws HBy.out n10)
    generalize wy.drewN n10 = wx at *
    go_wp2_with (go_at_call 14; fail)
    refine (wakes7_any _).mono ?_
    rintro e wh ⟨rfl, hb⟩
    have HBt : Hid (Below w.heap.size w wh) := Lib.hid (HBd.out.trans ((HBx.out.trans (hb.mono HBx.out.size)).mono HBd.out.size))
    clear hb
    go_wp2
    go_ret
    exact ⟨rfl, HBt.out⟩
end Go.Proofs.Ytbellnanikaffaa
