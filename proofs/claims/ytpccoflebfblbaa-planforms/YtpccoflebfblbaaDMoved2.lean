/- slices.Concat of two rows; Moved of an edit (laid by gen_dmoved2.py). -/
import Derived.Test.YtpccoflebfblbaaDMoved
namespace Go.Proofs.Ytpccoflebfblbaa
open Go.RowKit
set_option linter.unusedSimpArgs false

def Dis (v u : Value) : Prop := v.ownBlock = none ∨ v.ownBlock ≠ u.ownBlock
theorem Dis.symm {v u : Value} (h : Dis v u) : Dis u v := by
  unfold Dis at *
  rcases hu : u.ownBlock with _ | g
  · exact .inl rfl
  · refine .inr fun e => ?_
    rcases h with h | h
    · rw [h] at e; cases e
    · exact h (by rw [hu]; exact e.symm)
/-- the one row grows: the other one stands, and they stay apart -/
theorem own_apart {w w' : World} {B : Nat} {e : TypeId} {size n : Nat} {v u v' : Value} {xs : List Value} (h : w.ownsRow B e size u n xs) (hd : Dis v u) (hg : w.grownBy w' v.ownBlock) (hv : v'.ownBlock = v.ownBlock ∨ v'.ownBlock = some w.heap.size) : w'.ownsRow B e size u n xs ∧ Dis v' u := by
  have hs := hd.symm
  refine ⟨h.kept hg hs, ?_⟩
  rcases hv with hv | hv
  · unfold Dis; rw [hv]; exact hd
  · refine .inr fun e => ?_
    rw [hv] at e
    have := (h.lt _ e.symm).2
    omega
theorem outI_put {B : Nat} {W : World} {v : Value} {a b : List Int} (h : W.ownsRow B 3 1 v (a.length + b.length) (ints a ++ ints b)) : W.ownsRow B 3 1 v (a ++ b).length (ints (a ++ b)) := by
  have e : ints (a ++ b) = ints a ++ ints b := by simp [ints]
  rw [e, List.length_append]
  exact h
set_option maxRecDepth 100000 in
set_option maxHeartbeats 1500000 in
theorem concat_any (g : Nat) (A1 A2 : Option Addr) (c1 c2 : Nat) (a b : List Int) (w : World) (e0 : w.cell? ⟨g, 0, none⟩ = some (.slice A1 a.length c1)) (e1 : w.cell? ⟨g, 1, none⟩ = some (.slice A2 b.length c2)) (hg : g < w.heap.size)
    (h1 : Recs w 1 num_ (.slice A1 a.length c1) a) (h2 : Recs w 1 num_ (.slice A2 b.length c2) b) (ha : a.length ≤ 100000000) (hb : b.length ≤ 100000000) :
    Calls Try.prog 51 #[.slice (some ⟨g, 0, none⟩) 2 2] w (NewRow 3 1 (a ++ b).length (ints (a ++ b)) w) := by
  obtain ⟨i0, hi0, hz0, hz1, hz2⟩ := info_parts int_info
  have R1 := Lib.hid (recs_reads1 h1)
  have R2 := Lib.hid (recs_reads1 h2)
  have K1 := Lib.hid (grow_own (a.length + b.length) w (by omega))
  have hn1 : decide ((a.length : Int) < 0) = false := by simp
  have hn2 : decide ((a.length : Int) + (b.length : Int) < 0) = false := by simp; omega
  have hw : wrap64 ((a.length : Int) + (b.length : Int)) = (a.length : Int) + (b.length : Int) := by unfold wrap64; omega
  have hw0 : wrap64 ((0 : Int) + (a.length : Int)) = (a.length : Int) := by unfold wrap64; omega
  have hcast : ((a.length + b.length : Nat) : Int) = (a.length : Int) + (b.length : Int) := by omega
  rw [hcast] at K1
  clear h1 h2 hcast
  go_enter Try.func51, Try.ntmps51
  go_wp2
  refine wp_loop_rounds 3 ?_
  rw [rounds_succ]
  go_wp2
  rw [rounds_succ]
  go_wp2
  rw [rounds_succ]
  go_wp2_with (go_at_call 71; fail)
  refine K1.out.mono ?_
  rintro e w1 ⟨v1, rfl, ho, hb1⟩
  obtain ⟨B1, C1, rfl, _⟩ := own_slice_n ho
  have HO1 := Lib.hid ho
  have HB1 := Lib.hid hb1
  have f0 : w1.cell? ⟨g, 0, none⟩ = some (.slice A1 a.length c1) := by rw [hb1.cell hg]; exact e0
  have f1 : w1.cell? ⟨g, 1, none⟩ = some (.slice A2 b.length c2) := by rw [hb1.cell hg]; exact e1
  have RA := Lib.hid (R1.out.below HB1.out)
  clear ho hb1 e0 e1
  go_wp2_with (fail)
  refine wp_loop_rounds 3 ?_
  rw [rounds_succ]
  go_wp2_with (at_builtin; refine wpList_append_any _ rfl _ _ 28 rfl w.heap.size 3 i0 _ 1 8 Try.underlying28 hi0 hz0 hz1 hz2 rfl (by decide) _ 0 [] rfl HO1.out w.heap.size A1 a.length c1 (ints a) rfl RA.out ?c1 ?c2 ?c3 ?c4 ?_)
  case c1 => exact ints_one _
  case c2 => unfold maxLen; omega
  case c3 => omega
  case c4 => exact HB1.out.size
  intro v2 w2 hown hgrow hob
  have HO2 : Hid (w2.ownsRow w.heap.size 3 1 v2 a.length (ints a)) := Lib.hid (by simpa using hown)
  have HB2 : Hid (Below w.heap.size w w2) := Lib.hid (HB1.out.grown hgrow HB1.out.size (fun q hq => (HO1.out.lt q hq).1))
  have f1 : w2.cell? ⟨g, 1, none⟩ = some (.slice A2 b.length c2) := by rw [World.cell?_of_block (hgrow.block g (Nat.lt_of_lt_of_le hg HB1.out.size) (fun e => by have := (HO1.out.lt g e.symm).1; omega))]; exact f1
  have RB := Lib.hid (R2.out.below HB2.out)
  obtain ⟨B2, C2, rfl, _⟩ := own_slice_n HO2.out
  clear hown hgrow hob f0
  go_wp2_with (fail)
  rw [rounds_succ]
  go_wp2_with (at_builtin; refine wpList_append_any _ rfl _ _ 28 rfl w.heap.size 3 i0 _ 1 8 Try.underlying28 hi0 hz0 hz1 hz2 rfl (by decide) _ a.length (ints a) rfl HO2.out w.heap.size A2 b.length c2 (ints b) rfl RB.out ?c1 ?c2 ?c3 ?c4 ?_)
  case c1 => exact ints_one _
  case c2 => unfold maxLen; omega
  case c3 => omega
  case c4 => exact HB2.out.size
  intro v3 w3 hown hgrow hob
  have HO3 : Hid (w3.ownsRow w.heap.size 3 1 v3 (a ++ b).length (ints (a ++ b))) := Lib.hid (outI_put hown)
  have HB3 : Hid (Below w.heap.size w w3) := Lib.hid (HB2.out.grown hgrow HB2.out.size (fun q hq => (HO2.out.lt q hq).1))
  clear hown hgrow hob f1
  go_wp2_with (fail)
  rw [rounds_succ]
  go_wp2
  go_ret
  exact ⟨_, rfl, HO3.out, HB3.out⟩

def befE (d : Edit) : List Int := d.turns.flatMap Turn.b
def aftE (d : Edit) : List Int := d.turns.flatMap Turn.a
def outOf (l o : List Int) : List Int := l.filter (fun x => !decide (x ∈ o))
def movedE (d : Edit) : List Int := Lib.compact (sortI (outOf (sortI (befE d)) (sortI (aftE d)) ++ outOf (sortI (aftE d)) (sortI (befE d))))
theorem movedE_strict (d : Edit) : StrictI (movedE d) := compact_strict (sortI_rising _)
theorem movedE_mem (d : Edit) (x : Int) : x ∈ movedE d ↔ (x ∈ befE d ∧ x ∉ aftE d) ∨ (x ∈ aftE d ∧ x ∉ befE d) := by
  unfold movedE outOf
  rw [compact_mem (sortI_rising _), sortI_mem]
  simp only [List.mem_append, List.mem_filter, sortI_mem, Bool.not_eq_true', decide_eq_false_iff_not]
theorem flat_le {f : Turn → List Int} {M : Nat} : ∀ (l : List Turn), (∀ t ∈ l, (f t).length ≤ M) → (l.flatMap f).length ≤ l.length * M
  | [], _ => by simp
  | t :: l, h => by
    have h1 := h t (by simp)
    have h2 := flat_le l (fun t ht => h t (by simp [ht]))
    rw [List.flatMap_cons, List.length_append, List.length_cons, Nat.succ_mul]
    omega
theorem outOf_len (l o : List Int) : (outOf l o).length ≤ l.length := List.length_filter_le _ _
set_option maxRecDepth 100000 in
set_option maxHeartbeats 1500000 in
theorem moved_any (At Al Ai : Option Addr) (ct cl ci : Nat) (d : Edit) (w : World) (h : EditIn w At Al Ai ct cl ci d) :
    Calls Try.prog 54 #[.agg #[.slice At d.turns.length ct, .slice Al d.locks.length cl, .slice Ai d.ices.length ci]] w (NewRow 3 1 (movedE d).length (ints (movedE d)) w) := by
  obtain ⟨i0, hi0, hz0, hz1, hz2⟩ := info_parts int_info
  have HB0 : Hid (Below w.heap.size w (w.alloc (.cells #[.slice At d.turns.length ct, .slice Al d.locks.length cl, .slice Ai d.ices.length ci] 46))) := Lib.hid ((Below.refl _ _).alloc (Nat.le_refl _) _)
  have BD : Hid (Blk (w.alloc (.cells #[.slice At d.turns.length ct, .slice Al d.locks.length cl, .slice Ai d.ices.length ci] 46)) w.heap.size [.slice At d.turns.length ct, .slice Al d.locks.length cl, .slice Ai d.ices.length ci]) := Lib.hid (blk_new w _ _)
  have HR := Lib.hid h.t
  have hnt := h.nt
  have HM := Lib.hid h.nm
  have LB : Hid (∀ k, ((d.turns.take k).flatMap Turn.b).length ≤ 20000000) := Lib.hid (fun k => by
    have := flat_le (f := Turn.b) (M := 1000000) (d.turns.take k) (fun t ht => (h.nm t (List.mem_of_mem_take ht)).1)
    rw [List.length_take] at this
    have : min k d.turns.length * 1000000 ≤ 20 * 1000000 := Nat.mul_le_mul_right _ (by omega)
    omega)
  have LA : Hid (∀ k, ((d.turns.take k).flatMap Turn.a).length ≤ 20000000) := Lib.hid (fun k => by
    have := flat_le (f := Turn.a) (M := 1000000) (d.turns.take k) (fun t ht => (h.nm t (List.mem_of_mem_take ht)).2)
    rw [List.length_take] at this
    have : min k d.turns.length * 1000000 ≤ 20 * 1000000 := Nat.mul_le_mul_right _ (by omega)
    omega)
  clear h
  go_enter Try.func54, Try.ntmps54
  go_upto_region 2 with (fail)
  generalize w.alloc (.cells #[.slice At d.turns.length ct, .slice Al d.locks.length cl, .slice Ai d.ices.length ci] 46) = W0 at *
  have c0 := BD.out.at0.1
  go_wp2_with (fail)
  go_loopw [3, 4, 11] (fun bv av kv wr => ∃ k : Nat, k ≤ d.turns.length ∧ kv = .int .i64 k ∧ Hid (wr.ownsRow w.heap.size 3 1 bv ((d.turns.take k).flatMap Turn.b).length (ints ((d.turns.take k).flatMap Turn.b))) ∧ Hid (wr.ownsRow w.heap.size 3 1 av ((d.turns.take k).flatMap Turn.a).length (ints ((d.turns.take k).flatMap Turn.a))) ∧ Hid (Dis bv av) ∧ Hid (Below w.heap.size w wr)) (fun _ _ kv _ => d.turns.length - (intOf kv).toNat)
  case atStart => exact ⟨0, Nat.zero_le _, rfl, Lib.hid (World.ownsRow_nil _ _ _ _), Lib.hid (World.ownsRow_nil _ _ _ _), Lib.hid (.inl rfl), HB0⟩
  case round =>
    obtain ⟨k, hk, rfl, HO1, HO2, HD, HB⟩ := hrel
    by_cases hlt : k < d.turns.length
    · obtain ⟨B, o, rfl, hB, d0, d1, d2⟩ := HR.out.1.turn hlt
      have c0 : wr.cell? ⟨B, o + k * 3, none⟩ = some (.int .i64 d.turns[k].c) := by rw [HB.out.cell hB]; exact d0
      have c1 : wr.cell? ⟨B, o + k * 3 + 1, none⟩ = some d.turns[k].x := by rw [HB.out.cell hB]; exact d1
      have c2 : wr.cell? ⟨B, o + k * 3 + 2, none⟩ = some d.turns[k].y := by rw [HB.out.cell hB]; exact d2
      clear d0 d1 d2
      have HT : Hid (d.turns.take (k + 1) = d.turns.take k ++ [d.turns[k]]) := take_snoc hlt
      have HX := Lib.hid (HR.out.2 _ (List.getElem_mem hlt))
      have hlen := HM.out _ (List.getElem_mem hlt)
      have hlb := LB.out k
      have hla := LA.out k
      generalize d.turns[k] = x at *
      obtain ⟨xc, xx, xy, xb, xa⟩ := x
      obtain ⟨⟨A1, p1, e1, Q1⟩, A2, p2, e2, Q2⟩ := HX.out
      dsimp only at e1 e2 c0 c1 c2 hlen
      subst e1 e2
      have L1 := Lib.hid (fun W (hb : Below w.heap.size w W) => recs_reads1 (A := A1) (cap := p1) (l := xb) ((show Recs w 1 num_ _ xb from ⟨A1, p1, rfl, Q1⟩).below hb))
      have L2 := Lib.hid (fun W (hb : Below w.heap.size w W) => recs_reads1 (A := A2) (cap := p2) (l := xa) ((show Recs w 1 num_ _ xa from ⟨A2, p2, rfl, Q2⟩).below hb))
      clear Q1 Q2 HX
      generalize hP : (d.turns.take k).flatMap Turn.b = P at *
      generalize hQ : (d.turns.take k).flatMap Turn.a = Q at *
      have TC := Lib.hid (blk_new wr #[.int .i64 xc, .slice A1 xb.length p1, .slice A2 xa.length p2] 40)
      have HB1 := Lib.hid (HB.out.alloc HB.out.size (.cells #[.int .i64 xc, .slice A1 xb.length p1, .slice A2 xa.length p2] 40))
      have HP1 := Lib.hid (World.ownsRow.alloc HO1.out (.cells #[.int .i64 xc, .slice A1 xb.length p1, .slice A2 xa.length p2] 40))
      have HQ1 := Lib.hid (World.ownsRow.alloc HO2.out (.cells #[.int .i64 xc, .slice A1 xb.length p1, .slice A2 xa.length p2] 40))
      have HTy := Lib.hid (fun g hg => (HO1.out.lt g hg).2)
      go_upto_region 5 with (fail)
      generalize wr.alloc (.cells #[.int .i64 xc, .slice A1 xb.length p1, .slice A2 xa.length p2] 40) = w1 at *
      have hT1 := TC.out.1
      have b1 := TC.out.at1.1
      have b2 := TC.out.at2.1
      generalize wr.heap.size = T at *
      obtain ⟨AP, CP, rfl, _⟩ := own_slice_n HP1.out
      obtain ⟨AQ, CQ, rfl, _⟩ := own_slice_n HQ1.out
      clear c0 c1 c2 HO1 HO2 HB
      go_wp2_with (at_builtin; refine wpList_append_any _ rfl _ _ 28 rfl w.heap.size 3 i0 _ 1 8 Try.underlying28 hi0 hz0 hz1 hz2 rfl (by decide) _ P.length (ints P) rfl HP1.out w1.heap.size A1 xb.length p1 (ints xb) rfl (L1.out _ HB1.out) ?c1 ?c2 ?c3 ?c4 ?_)
      case c1 => exact ints_one _
      case c2 => unfold maxLen; omega
      case c3 => omega
      case c4 => exact HB1.out.size
      intro v2 w2 hown hgrow hob
      obtain ⟨AP2, CP2, rfl, _⟩ := own_slice_n hown
      have HP2 := Lib.hid (outI_put hown)
      have HQ2 := Lib.hid (own_apart HQ1.out HD.out hgrow hob)
      have HB2 : Hid (Below w.heap.size w w2) := Lib.hid (HB1.out.grown hgrow HB1.out.size (fun q hq => (HP1.out.lt q hq).1))
      have b2 : w2.cell? ⟨T, 2, none⟩ = some (.slice A2 xa.length p2) := by rw [World.cell?_of_block (hgrow.block T hT1 (fun e => by have := HTy.out T e.symm; omega))]; exact b2
      clear hown hgrow hob b1
      go_wp2_with (at_builtin; refine wpList_append_any _ rfl _ _ 28 rfl w.heap.size 3 i0 _ 1 8 Try.underlying28 hi0 hz0 hz1 hz2 rfl (by decide) _ Q.length (ints Q) rfl HQ2.out.1 w2.heap.size A2 xa.length p2 (ints xa) rfl (L2.out _ HB2.out) ?c1 ?c2 ?c3 ?c4 ?_)
      case c1 => exact ints_one _
      case c2 => unfold maxLen; omega
      case c3 => omega
      case c4 => exact HB2.out.size
      intro v3 w3 hown hgrow hob
      have HQ3 := Lib.hid (outI_put hown)
      have HP3 := Lib.hid (own_apart HP2.out HQ2.out.2.symm hgrow hob)
      have HB3 : Hid (Below w.heap.size w w3) := Lib.hid (HB2.out.grown hgrow HB2.out.size (fun q hq => (HQ2.out.1.lt q hq).1))
      clear hown hgrow hob b2
      go_wp2_with (fail)
      go_roundw
      case rel => exact ⟨k + 1, by omega, by go_num, Lib.hid (by rw [HT.out, List.flatMap_append, hP, List.flatMap_singleton]; exact HP3.out.1), Lib.hid (by rw [HT.out, List.flatMap_append, hQ, List.flatMap_singleton]; exact HQ3.out), Lib.hid HP3.out.2.symm, HB3⟩
      case measure => simp [intOf]; omega
    · have hall : d.turns.take k = d.turns := List.take_of_length_le (by omega)
      rw [hall] at HO1 HO2
      change Hid (wr.ownsRow w.heap.size 3 1 _ (befE d).length (ints (befE d))) at HO1
      change Hid (wr.ownsRow w.heap.size 3 1 _ (aftE d).length (ints (aftE d))) at HO2
      have lb : (befE d).length ≤ 20000000 := by have := LB.out d.turns.length; rw [List.take_length] at this; exact this
      have la : (aftE d).length ≤ 20000000 := by have := LA.out d.turns.length; rw [List.take_length] at this; exact this
      have HMv : Hid (movedE d = Lib.compact (sortI (outOf (sortI (befE d)) (sortI (aftE d)) ++ outOf (sortI (aftE d)) (sortI (befE d))))) := Lib.hid rfl
      have HSb := Lib.hid (sortI_rising (befE d))
      have HSa := Lib.hid (sortI_rising (aftE d))
      have sb := sortI_length (befE d)
      have sa := sortI_length (aftE d)
      obtain ⟨AP, CP, rfl, _⟩ := own_slice_n HO1.out
      obtain ⟨AQ, CQ, rfl, _⟩ := own_slice_n HO2.out
      have K1 := Lib.hid (sort_own w.heap.size _ (befE d) wr HO1.out (by omega))
      have K2 := Lib.hid (fun W (h : World.ownsRow W w.heap.size 3 1 (.slice AQ (aftE d).length CQ) (aftE d).length (ints (aftE d))) => sort_own w.heap.size _ (aftE d) W h (by omega))
      generalize befE d = bs at *
      generalize aftE d = zs at *
      go_upto_region 9 with (go_at_call 52; refine K1.out.mono ?_; rintro e w1 ⟨rfl, ho, hgr⟩)
      have HP1 := Lib.hid ho
      have HQ1 := Lib.hid (own_apart HO2.out HD.out hgr (.inl rfl))
      have HB1 : Hid (Below w.heap.size w w1) := Lib.hid (HB.out.grown hgr HB.out.size (fun q hq => (HO1.out.lt q hq).1))
      have K2' := Lib.hid (K2.out w1 HQ1.out.1)
      clear ho hgr
      go_upto_region 10 with (go_at_call 52; refine K2'.out.mono ?_; rintro e w2 ⟨rfl, ho, hgr⟩)
      have HQ2 := Lib.hid ho
      have HP2 := Lib.hid (own_apart HP1.out HQ1.out.2.symm hgr (.inl rfl))
      have HB2 : Hid (Below w.heap.size w w2) := Lib.hid (HB1.out.grown hgr HB1.out.size (fun q hq => (HQ1.out.1.lt q hq).1))
      clear ho hgr K1 K2 K2'
      have RP := Lib.hid (own_recs1 (l := sortI bs) (by rw [sb]; exact HP2.out.1))
      have RQ := Lib.hid (own_recs1 (l := sortI zs) (by rw [sa]; exact HQ2.out))
      rw [← sb] at RP
      rw [← sa] at RQ
      have k1 := without_any AP CP (sortI bs) AQ CQ (sortI zs) w2 RP.out RQ.out (by omega) (by omega) HSa.out
      have K4 := Lib.hid (fun W (hb : Below w2.heap.size w2 W) => without_any AQ CQ (sortI zs) AP CP (sortI bs) W (RQ.out.below hb) (RP.out.below hb) (by omega) (by omega) HSb.out)
      have K3 := Lib.hid k1
      clear k1
      have lu := outOf_len (sortI bs) (sortI zs)
      have lv := outOf_len (sortI zs) (sortI bs)
      rw [sb, sa] at K3 K4
      change Hid (Calls _ _ _ _ (NewRow _ _ (outOf (sortI bs) (sortI zs)).length (ints (outOf (sortI bs) (sortI zs))) _)) at K3
      change Hid (∀ W, _ → Calls _ _ _ _ (NewRow _ _ (outOf (sortI zs) (sortI bs)).length (ints (outOf (sortI zs) (sortI bs))) _)) at K4
      generalize outOf (sortI bs) (sortI zs) = us at *
      generalize outOf (sortI zs) (sortI bs) = vs at *
      clear HSa HSb HP2 HQ2 HP1 HQ1 RP RQ HO1 HO2 HD HB HB1
      go_wp2_with (go_at_call 74; fail)
      (refine K3.out.mono ?_)
      rintro e w3 ⟨v3, rfl, ho, hb⟩
      have HU3 := Lib.hid (own_lower ho HB2.out.size)
      have HG3 := Lib.hid hb
      have HB3 : Hid (Below w.heap.size w w3) := Lib.hid (HB2.out.trans (hb.mono HB2.out.size))
      obtain ⟨AU, CU, rfl, _⟩ := own_slice_n HU3.out
      clear ho hb
      go_wp2_with (go_at_call 74; fail)
      (with_reducible refine (K4.out _ HG3.out).mono ?_)
      rintro e w4 ⟨v4, rfl, ho, hb⟩
      have HU4 := Lib.hid (own_below HU3.out hb)
      have HV4 := Lib.hid (own_lower ho HB3.out.size)
      have HB4 : Hid (Below w.heap.size w w4) := Lib.hid (HB3.out.trans (hb.mono HB3.out.size))
      obtain ⟨AV, CV, rfl, _⟩ := own_slice_n HV4.out
      clear ho hb K3 K4
      have BV := Lib.hid (blk_new w4 #[.slice AU us.length CU, .slice AV vs.length CV] 28)
      have HB5 := Lib.hid (HB4.out.alloc HB4.out.size (.cells #[.slice AU us.length CU, .slice AV vs.length CV] 28))
      have K5 := Lib.hid (concat_any w4.heap.size AU AV CU CV us vs (w4.alloc (.cells #[.slice AU us.length CU, .slice AV vs.length CV] 28)) BV.out.at0.1 BV.out.at1.1 BV.out.1 (own_recs1 (World.ownsRow.alloc HU4.out _)) (own_recs1 (World.ownsRow.alloc HV4.out _)) (by omega) (by omega))
      rw [List.length_append] at K5
      go_upto_region 11 with (go_at_call 51; refine K5.out.mono ?_; rintro e w5 ⟨v5, rfl, ho, hb⟩; obtain ⟨A5, C5, rfl, _⟩ := own_slice_n ho)
      have HW5 := Lib.hid (own_lower ho HB5.out.size)
      have HB6 : Hid (Below w.heap.size w w5) := Lib.hid (HB5.out.trans (hb.mono HB5.out.size))
      clear ho hb K5
      have lw : (us ++ vs).length ≤ 100000000 := by rw [List.length_append]; omega
      have HQl := Lib.hid (sortI_length (us ++ vs))
      have K6 := Lib.hid (sort_own w.heap.size (.slice A5 (us.length + vs.length) C5) (us ++ vs) w5 (by rw [List.length_append]; exact HW5.out) (by omega))
      have K7 := Lib.hid (fun W (h : World.ownsRow W w.heap.size 3 1 (.slice A5 (us.length + vs.length) C5) (us ++ vs).length (ints (sortI (us ++ vs)))) => compact_own w.heap.size _ (sortI (us ++ vs)) W (by rw [HQl.out]; exact h) (by rw [HQl.out]; omega))
      have HLT := Lib.hid (fun q hq => (HW5.out.lt q hq).1)
      generalize us ++ vs = ws at *
      generalize us.length + vs.length = mm at *
      go_upto_region 12 with (go_at_call 52; refine K6.out.mono ?_; rintro e w6 ⟨rfl, ho, hgr⟩)
      have HB7 : Hid (Below w.heap.size w w6) := Lib.hid (HB6.out.grown hgr HB6.out.size HLT.out)
      have K8 := Lib.hid (K7.out w6 ho)
      clear ho hgr
      go_wp2_with (go_at_call 53; fail)
      refine K8.out.mono ?_
      rintro e w7 ⟨v7, rfl, ho, hgr, hle⟩
      have HB8 : Hid (Below w.heap.size w w7) := Lib.hid (HB7.out.grown hgr HB7.out.size HLT.out)
      have HF := Lib.hid ho
      clear ho hgr
      rw [← HMv.out] at HF
      go_wp2
      go_ret
      exact ⟨_, rfl, HF.out, HB8.out⟩
end Go.Proofs.Ytpccoflebfblbaa
