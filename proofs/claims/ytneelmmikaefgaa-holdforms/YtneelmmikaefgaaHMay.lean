/- Package hold: May; the holds of one that end (laid by gen_hold.py). -/
import Derived.Test.YtneelmmikaefgaaHAny
import Derived.Test.YtneelmmikaefgaaDEdit
namespace Go.Proofs.Ytneelmmikaefgaa
open Go.RowKit
set_option linter.unusedSimpArgs false
set_option linter.unusedVariables false

theorem any_pl {f g : List Turn} {p : Turn → Bool} {q : Int × List Int × List Int → Bool} (hp : ∀ t, p t = q t.pl) (h : f.map Turn.pl = g.map Turn.pl) : f.any p = g.any p := by
  have e : ∀ l : List Turn, l.any p = (l.map Turn.pl).any q := fun l => by rw [List.any_map]; congr 1; funext t; exact hp t
  rw [e, e, h]
def icedP (ic : List Int) (d : Edit) : Bool := (tidyT d.turns).any (icedB ic)
def movP (rs : List (List Int)) (lk : List Int) (who : Int) (d : Edit) : Bool := (tidyT d.turns).any (movB rs lk who)
def mayB (a b c e : Bool) : Int := if a || b then 11 else if c || e then 12 else 0
def mayN (rs : List (List Int)) (lk ic : List Int) (who : Int) (d : Edit) : Int := mayB (icedP ic d) ((holdsL d.ices).any (othB who)) ((holdsL d.locks).any (othB who)) (movP rs lk who d)
set_option maxRecDepth 100000 in
set_option maxHeartbeats 4000000 in
theorem may_any (A1 A2 A3 A4 A5 A6 : Option Addr) (n4 n5 n6 c1 c2 c3 c4 c5 c6 : Nat) (pv : Int) (rs : List (List Int)) (lk ic : List Int) (who : Int) (At Al Ai : Option Addr) (ct cl ci : Nat) (d : Edit) (w : World) (hr : Trav w (.slice A1 rs.length c1) rs) (hl : Recs w 1 num_ (.slice A2 lk.length c2) lk) (hi : Recs w 1 num_ (.slice A3 ic.length c3) ic) (n1 : rs.length ≤ 1000) (n2 : ∀ r ∈ rs, r.length ≤ 1000000) (hd : EditIn w At Al Ai ct cl ci d) :
    Calls Try.prog 5 #[.agg #[.slice A1 rs.length c1, .slice A2 lk.length c2, .slice A3 ic.length c3, .slice A4 n4 c4, .slice A5 n5 c5, .slice A6 n6 c6, .int .i64 pv], .int .i64 who, .agg #[.slice At d.turns.length ct, .slice Al d.locks.length cl, .slice Ai d.ices.length ci]] w fun e w' => e = .returned (.int .i64 (mayN rs lk ic who d)) ∧ Below w.heap.size w w' := by
  have W0B : Hid (Below w.heap.size w ((w.alloc (.cells #[.slice A1 rs.length c1, .slice A2 lk.length c2, .slice A3 ic.length c3, .slice A4 n4 c4, .slice A5 n5 c5, .slice A6 n6 c6, .int .i64 pv] 25)).alloc (.cells #[.slice At d.turns.length ct, .slice Al d.locks.length cl, .slice Ai d.ices.length ci] 31))) := Lib.hid (((Below.refl _ _).alloc (Nat.le_refl _) _).alloc (by simp) _)
  have BP : Hid (Blk ((w.alloc (.cells #[.slice A1 rs.length c1, .slice A2 lk.length c2, .slice A3 ic.length c3, .slice A4 n4 c4, .slice A5 n5 c5, .slice A6 n6 c6, .int .i64 pv] 25)).alloc (.cells #[.slice At d.turns.length ct, .slice Al d.locks.length cl, .slice Ai d.ices.length ci] 31)) w.heap.size #[.slice A1 rs.length c1, .slice A2 lk.length c2, .slice A3 ic.length c3, .slice A4 n4 c4, .slice A5 n5 c5, .slice A6 n6 c6, .int .i64 pv].toList) := Lib.hid ((blk_new w _ _).alloc _)
  have BD : Hid (Blk ((w.alloc (.cells #[.slice A1 rs.length c1, .slice A2 lk.length c2, .slice A3 ic.length c3, .slice A4 n4 c4, .slice A5 n5 c5, .slice A6 n6 c6, .int .i64 pv] 25)).alloc (.cells #[.slice At d.turns.length ct, .slice Al d.locks.length cl, .slice Ai d.ices.length ci] 31)) (w.heap.size + 1) #[.slice At d.turns.length ct, .slice Al d.locks.length cl, .slice Ai d.ices.length ci].toList) := Lib.hid (blk_at (w := w.alloc _) #[.slice At d.turns.length ct, .slice Al d.locks.length cl, .slice Ai d.ices.length ci] 31 (by simp))
  have HR := Lib.hid (hr.below W0B.out)
  have HL := Lib.hid (hl.below W0B.out)
  have HI := Lib.hid (hi.below W0B.out)
  have HD := Lib.hid (hd.below W0B.out)
  have N2 := Lib.hid n2
  clear hr hl hi hd n2
  obtain ⟨z, hz⟩ : ∃ z, mayN rs lk ic who d = z := ⟨_, rfl⟩
  rw [hz]
  have HZ := Lib.hid hz
  clear hz
  go_enter Try.func5, Try.ntmps5
  go_upto_region 1 with (fail)
  generalize ((w.alloc (.cells #[.slice A1 rs.length c1, .slice A2 lk.length c2, .slice A3 ic.length c3, .slice A4 n4 c4, .slice A5 n5 c5, .slice A6 n6 c6, .int .i64 pv] 25)).alloc (.cells #[.slice At d.turns.length ct, .slice Al d.locks.length cl, .slice Ai d.ices.length ci] 31)) = W0 at *
  generalize hs : w.heap.size = s at *
  have hW0 : s + 1 < W0.heap.size := BD.out.1
  have CP : Hid (∀ W, Below W0.heap.size W0 W → W.cell? ⟨s, 0, none⟩ = some (.slice A1 rs.length c1) ∧ W.cell? ⟨s, 1, none⟩ = some (.slice A2 lk.length c2) ∧ W.cell? ⟨s, 2, none⟩ = some (.slice A3 ic.length c3) ∧ W.cell? ⟨s, 3, none⟩ = some (.slice A4 n4 c4) ∧ W.cell? ⟨s, 4, none⟩ = some (.slice A5 n5 c5) ∧ W.cell? ⟨s, 5, none⟩ = some (.slice A6 n6 c6) ∧ W.cell? ⟨s, 6, none⟩ = some (.int .i64 pv)) := Lib.hid (fun W hb => by
    have B := BP.out.below hb
    exact ⟨(B.2 0 (by simp)).1, (B.2 1 (by simp)).1, (B.2 2 (by simp)).1, (B.2 3 (by simp)).1, (B.2 4 (by simp)).1, (B.2 5 (by simp)).1, (B.2 6 (by simp)).1⟩)
  have KT := Lib.hid (tidy_any At Al Ai ct cl ci d W0 HD.out)
  have d0 := (BD.out.2 0 (by simp)).1
  have d1 := (BD.out.2 1 (by simp)).1
  have d2 := (BD.out.2 2 (by simp)).1
  clear BP BD
  go_upto_region 2 with (go_at_call 18; refine KT.out.mono ?_; rintro e w2 ⟨v1, v2, v3, f, rfl, ht, hf, ho2, ho3, hb⟩; obtain ⟨B1, e1, rfl, _⟩ := own_slice_n ht.1; obtain ⟨B2, e2, rfl, _⟩ := own_slice_n ho2; obtain ⟨B3, e3, rfl, _⟩ := own_slice_n ho3)
  have HB2 : Hid (Below W0.heap.size W0 (w2.alloc (.cells #[.slice B1 f.length e1, .slice B2 (holdsL d.locks).length e2, .slice B3 (holdsL d.ices).length e3] 31))) := Lib.hid (hb.alloc hb.size _)
  have BF := Lib.hid (blk_new w2 #[.slice B1 f.length e1, .slice B2 (holdsL d.locks).length e2, .slice B3 (holdsL d.ices).length e3] 31)
  have FT : Hid (Turns (w2.alloc (.cells #[.slice B1 f.length e1, .slice B2 (holdsL d.locks).length e2, .slice B3 (holdsL d.ices).length e3] 31)) (.slice B1 f.length e1) f) := Lib.hid (ht.turns.below ((Below.refl _ _).alloc (Nat.le_refl _) _))
  have FL : Hid (Rows (w2.alloc (.cells #[.slice B1 f.length e1, .slice B2 (holdsL d.locks).length e2, .slice B3 (holdsL d.ices).length e3] 31)) 3 Hold.cells (.slice B2 (holdsL d.locks).length e2) (holdsL d.locks)) := Lib.hid ((Rows.of_own ho2 hold_len).below ((Below.refl _ _).alloc (Nat.le_refl _) _))
  have FI : Hid (Rows (w2.alloc (.cells #[.slice B1 f.length e1, .slice B2 (holdsL d.locks).length e2, .slice B3 (holdsL d.ices).length e3] 31)) 3 Hold.cells (.slice B3 (holdsL d.ices).length e3) (holdsL d.ices)) := Lib.hid ((Rows.of_own ho3 hold_len).below ((Below.refl _ _).alloc (Nat.le_refl _) _))
  have E1 : Hid (f.any (icedB ic) = icedP ic d) := Lib.hid (any_pl (q := fun t => decide (holderL ic 0 t.1 ≠ -1)) (fun t => rfl) hf)
  have E2 : Hid (f.any (movB rs lk who) = movP rs lk who d) := Lib.hid (any_pl (q := fun t => turnMoves rs lk who t.1 t.2.2) (fun t => rfl) hf)
  have hfl : f.length ≤ 20 := by
    have := congrArg List.length hf
    rw [List.length_map, List.length_map] at this
    have h2 := tidyT_length d.turns
    have := HD.out.nt
    omega
  have hll : (holdsL d.locks).length ≤ 20 := Nat.le_trans (holdsL_length _) (by have := HD.out.nl; omega)
  have hil : (holdsL d.ices).length ≤ 20 := Nat.le_trans (holdsL_length _) (by have := HD.out.ni; omega)
  have N3 : Hid (∀ t ∈ f, t.a.length ≤ 1000000) := Lib.hid (fun t ht => by
    have h1 : t.pl ∈ (tidyT d.turns).map Turn.pl := by rw [← hf]; exact List.mem_map_of_mem ht
    obtain ⟨u, hu, he⟩ := List.mem_map.1 h1
    have h2 := (HD.out.nm u (tidyT_mem hu)).2
    have h3 : u.a = t.a := congrArg (fun p => p.2.2) he
    rwa [h3] at h2)
  clear ht hf ho2 ho3 hb d0 d1 d2
  generalize w2.alloc (.cells #[.slice B1 f.length e1, .slice B2 (holdsL d.locks).length e2, .slice B3 (holdsL d.ices).length e3] 31) = w3 at *
  generalize w2.heap.size = T at *
  have CF : Hid (∀ W, Below w3.heap.size w3 W → W.cell? ⟨T, 0, none⟩ = some (.slice B1 f.length e1) ∧ W.cell? ⟨T, 1, none⟩ = some (.slice B2 (holdsL d.locks).length e2) ∧ W.cell? ⟨T, 2, none⟩ = some (.slice B3 (holdsL d.ices).length e3)) := Lib.hid (fun W hb => by
    have B := BF.out.below hb
    exact ⟨(B.2 0 (by simp)).1, (B.2 1 (by simp)).1, (B.2 2 (by simp)).1⟩)
  clear BF
  have HZ2 : Hid (mayB (icedP ic d) ((holdsL d.ices).any (othB who)) ((holdsL d.locks).any (othB who)) (movP rs lk who d) = z) := Lib.hid HZ.out
  clear HZ
  have HBr := Lib.hid (Below.refl w3.heap.size w3)
  obtain ⟨b0, b1, b2, b3, b4, b5, b6⟩ := CP.out _ HB2.out
  obtain ⟨f0, f1, f2⟩ := CF.out _ HBr.out
  have K1 := Lib.hid (anyIced_any A1 A2 A3 A4 A5 A6 n4 n5 n6 c1 c2 c3 c4 c5 c6 pv rs lk ic B1 e1 f w3 (HI.out.below HB2.out) FT.out (by omega))
  rw [E1.out] at K1
  generalize icedP ic d = x1 at *
  go_wp2_with (go_at_call 19; fail)
  go_at_call 19
  (with_reducible refine K1.out.mono ?_)
  rintro e w4 ⟨rfl, hb4⟩
  have HB4 : Hid (Below w3.heap.size w3 w4) := Lib.hid hb4
  clear hb4 b0 b1 b2 b3 b4 b5 b6 f0 f1 f2
  cases x1
  · obtain ⟨b0, b1, b2, b3, b4, b5, b6⟩ := CP.out _ (HB2.out.trans (HB4.out.mono HB2.out.size))
    obtain ⟨f0, f1, f2⟩ := CF.out _ HB4.out
    have K2 := Lib.hid (anyOthers_any B3 e3 (holdsL d.ices) who w4 (FI.out.below HB4.out) (by omega))
    generalize (holdsL d.ices).any (othB who) = x2 at *
    go_wp2_with (go_at_call 20; fail)
    go_at_call 20
    (with_reducible refine K2.out.mono ?_)
    rintro e w5 ⟨rfl, hb5⟩
    have HB5 : Hid (Below w3.heap.size w3 w5) := Lib.hid (HB4.out.trans (hb5.mono HB4.out.size))
    clear hb5 b0 b1 b2 b3 b4 b5 b6 f0 f1 f2
    cases x2
    · obtain ⟨b0, b1, b2, b3, b4, b5, b6⟩ := CP.out _ (HB2.out.trans (HB5.out.mono HB2.out.size))
      obtain ⟨f0, f1, f2⟩ := CF.out _ HB5.out
      have K3 := Lib.hid (anyOthers_any B2 e2 (holdsL d.locks) who w5 (FL.out.below HB5.out) (by omega))
      generalize (holdsL d.locks).any (othB who) = x3 at *
      go_wp2_with (go_at_call 20; fail)
      go_at_call 20
      (with_reducible refine K3.out.mono ?_)
      rintro e w6 ⟨rfl, hb6⟩
      have HB6 : Hid (Below w3.heap.size w3 w6) := Lib.hid (HB5.out.trans (hb6.mono HB5.out.size))
      have HBP : Hid (Below W0.heap.size W0 w6) := Lib.hid (HB2.out.trans (HB6.out.mono HB2.out.size))
      clear hb6 b0 b1 b2 b3 b4 b5 b6 f0 f1 f2
      cases x3
      · obtain ⟨b0, b1, b2, b3, b4, b5, b6⟩ := CP.out _ HBP.out
        obtain ⟨f0, f1, f2⟩ := CF.out _ HB6.out
        have K4 := Lib.hid (anyHeldMoves_any A1 A2 A3 A4 A5 A6 n4 n5 n6 c1 c2 c3 c4 c5 c6 pv rs lk ic who B1 e1 f w6 (HR.out.below HBP.out) (HL.out.below HBP.out) n1 N2.out N3.out (FT.out.below HB6.out) (by omega))
        rw [E2.out] at K4
        generalize movP rs lk who d = x4 at *
        go_wp2_with (go_at_call 21; fail)
        go_at_call 21
        (with_reducible refine K4.out.mono ?_)
        rintro e w7 ⟨rfl, hb7⟩
        have HB7 : Hid (Below W0.heap.size W0 w7) := Lib.hid (HBP.out.trans (hb7.mono HBP.out.size))
        clear hb7 b0 b1 b2 b3 b4 b5 b6 f0 f1 f2
        have HBF : Hid (Below s w w7) := Lib.hid (W0B.out.trans (HB7.out.mono (by omega)))
        cases x4
        · have HF : Hid (z = 0) := Lib.hid (by rw [← HZ2.out]; rfl)
          go_wp2
          go_ret
          exact ⟨by rw [HF.out]; rfl, by first | (rw [hs]; exact HBF.out) | exact HBF.out⟩
        · have HF : Hid (z = 12) := Lib.hid (by rw [← HZ2.out]; rfl)
          go_wp2
          go_ret
          exact ⟨by rw [HF.out]; rfl, by first | (rw [hs]; exact HBF.out) | exact HBF.out⟩
      · have HF : Hid (z = 12) := Lib.hid (by rw [← HZ2.out]; rfl)
        have HBF : Hid (Below s w w6) := Lib.hid (W0B.out.trans (HBP.out.mono (by omega)))
        go_wp2
        go_ret
        exact ⟨by rw [HF.out]; rfl, by first | (rw [hs]; exact HBF.out) | exact HBF.out⟩
    · have HF : Hid (z = 11) := Lib.hid (by rw [← HZ2.out]; rfl)
      have HBF : Hid (Below s w w5) := Lib.hid (W0B.out.trans ((HB2.out.trans (HB5.out.mono HB2.out.size)).mono (by omega)))
      go_wp2
      go_ret
      exact ⟨by rw [HF.out]; rfl, by first | (rw [hs]; exact HBF.out) | exact HBF.out⟩
  · have HF : Hid (z = 11) := Lib.hid (by rw [← HZ2.out]; rfl)
    have HBF : Hid (Below s w w4) := Lib.hid (W0B.out.trans ((HB2.out.trans (HB4.out.mono HB2.out.size)).mono (by omega)))
    go_wp2
    go_ret
    exact ⟨by rw [HF.out]; rfl, by first | (rw [hs]; exact HBF.out) | exact HBF.out⟩
def endsL (l : List Int) (lo : Nat) (who : Int) (k : Nat) : List Hold := ((List.range k).filter fun j => decide (lo ≤ j) && decide (l.getD j 0 = who)).map fun (j : Nat) => (⟨(j : Int), who, -1⟩ : Hold)
theorem endsL_succ (l : List Int) (lo : Nat) (who : Int) (k : Nat) : endsL l lo who (k + 1) = if lo ≤ k ∧ l.getD k 0 = who then endsL l lo who k ++ [⟨(k : Int), who, -1⟩] else endsL l lo who k := by
  unfold endsL
  have hf : ∀ f : Nat → Bool, [k].filter f = if f k = true then [k] else [] := fun f => by simp [List.filter_cons]
  rw [List.range_succ, List.filter_append, List.map_append, hf]
  by_cases h : lo ≤ k ∧ l.getD k 0 = who
  · rw [if_pos h, if_pos (by simp only [Bool.and_eq_true, decide_eq_true_eq]; exact h)]; rfl
  · rw [if_neg h, if_neg (by simp only [Bool.and_eq_true, decide_eq_true_eq]; exact h)]; simp
theorem endsL_low (l : List Int) (lo : Nat) (who : Int) : endsL l lo who lo = [] := by
  unfold endsL
  rw [List.map_eq_nil_iff, List.filter_eq_nil_iff]
  intro j hj
  have := List.mem_range.1 hj
  simp; omega
theorem endsL_length (l : List Int) (lo : Nat) (who : Int) (k : Nat) : (endsL l lo who k).length ≤ k := by
  unfold endsL
  rw [List.length_map]
  exact Nat.le_trans (List.length_filter_le _ _) (by simp)
set_option maxRecDepth 100000 in
set_option maxHeartbeats 4000000 in
theorem ends_any (A : Option Addr) (cap : Nat) (l : List Int) (lo : Nat) (who : Int) (w : World) (h : Recs w 1 num_ (.slice A l.length cap) l) (hl : l.length ≤ 1000000) (hlo : lo ≤ l.length ∨ lo ≤ 1) :
    Calls Try.prog 22 #[.slice A l.length cap, .int .i64 (lo : Int), .int .i64 who] w fun e w' => ∃ v, e = .returned v ∧ OutH w.heap.size w' v (endsL l lo who (max lo l.length)) ∧ Below w.heap.size w w' := by
  obtain ⟨i0, hi0, hz0, hz1, hz2⟩ := info_parts hold_info
  have HR := Lib.hid h
  clear h
  have hlo2 : lo ≤ 1000000 := by omega
  have HB0 := Lib.hid (Below.refl w.heap.size w)
  go_enter Try.func22, Try.ntmps22
  go_wp2
  go_loopw [7, 8] (fun ov kv wr => ∃ k : Nat, lo ≤ k ∧ k ≤ max lo l.length ∧ kv = .int .i64 k ∧ Hid (OutH w.heap.size wr ov (endsL l lo who k)) ∧ Hid (Below w.heap.size w wr)) (fun _ kv _ => l.length - (intOf kv).toNat)
  case atStart => exact ⟨lo, Nat.le_refl _, by omega, rfl, Lib.hid (by rw [endsL_low]; exact World.ownsRow_nil _ _ _ _), HB0⟩
  case round =>
    obtain ⟨k, hk0, hk, rfl, HO, hb⟩ := hrel
    by_cases hlt : k < l.length
    · have hlt2 : (k : Int) < (l.length : Int) := by omega
      obtain ⟨B, o, rfl, hB, d0⟩ := recs_num HR.out hlt
      have c0 : wr.cell? ⟨B, o + k, none⟩ = some (.int .i64 l[k]) := by rw [hb.out.cell hB]; exact d0
      have HS : Hid (endsL l lo who (k + 1) = if l[k] = who then endsL l lo who k ++ [⟨(k : Int), who, -1⟩] else endsL l lo who k) := Lib.hid (by
        rw [endsL_succ]
        have e : l.getD k 0 = l[k] := by simp [hlt]
        rw [e]
        by_cases hx : l[k] = who
        · rw [if_pos ⟨hk0, hx⟩, if_pos hx]
        · rw [if_neg (fun h => hx h.2), if_neg hx])
      have hle := endsL_length l lo who k
      clear d0
      generalize l[k] = x at *
      by_cases hx : x = who
      · have q1 : (x == who) = true := by simpa using hx
        have HE : Hid (endsL l lo who (k + 1) = endsL l lo who k ++ [⟨(k : Int), who, -1⟩]) := Lib.hid (by rw [HS.out, if_pos hx])
        clear hx HS
        generalize endsL l lo who k = q at *
        have HB2 := Lib.hid (hb.out.alloc hb.out.size (.cells #[.int .i64 (k : Int), .int .i64 who, .int .i64 (-1)] 35))
        have OW : Hid ((wr.alloc (.cells #[.int .i64 (k : Int), .int .i64 who, .int .i64 (-1)] 35)).ownsRow w.heap.size 35 3 _ q.length (q.flatMap Hold.cells)) := Lib.hid (World.ownsRow.alloc HO.out (.cells #[.int .i64 (k : Int), .int .i64 who, .int .i64 (-1)] 35))
        have RN : Hid (Reads (wr.alloc (.cells #[.int .i64 (k : Int), .int .i64 who, .int .i64 (-1)] 35)) (wr.heap.size + 1) 3 (some ⟨wr.heap.size, 0, none⟩) 1 (Hold.cells ⟨(k : Int), who, -1⟩)) := Lib.hid (reads_new wr (Hold.cells ⟨(k : Int), who, -1⟩) 35)
        go_wp2_with (at_builtin; refine wpList_append_any _ rfl _ _ 29 rfl w.heap.size 35 i0 _ 3 24 Try.underlying29 hi0 hz0 hz1 hz2 rfl (by decide) _ q.length (q.flatMap Hold.cells) rfl OW.out _ _ 1 1 (Hold.cells ⟨(k : Int), who, -1⟩) ?c0 RN.out ?c1 ?c2 ?c3 ?c4 ?_)
        case c0 => simp [Act.eval, Act.put]
        case c1 => exact fun u hu => hold_one [⟨(k : Int), who, -1⟩] u (by simpa using hu)
        case c2 => unfold maxLen; omega
        case c3 => omega
        case c4 => exact HB2.out.size
        intro v' w4 hown hgrow hob
        have HO4 := Lib.hid (outH_cat hown)
        have HB4 : Hid (Below w.heap.size w w4) := Lib.hid (HB2.out.grown hgrow HB2.out.size (fun g hg => (own_typed OW.out hg).2))
        clear hown hgrow hob
        go_wp2
        go_roundw
        case rel => exact ⟨k + 1, by omega, by omega, by go_num, Lib.hid (by rw [HE.out]; exact HO4.out), HB4⟩
        case measure => simp [intOf]; omega
      · have q1 : (x == who) = false := by simpa using hx
        have HE : Hid (endsL l lo who (k + 1) = endsL l lo who k) := Lib.hid (by rw [HS.out, if_neg hx])
        clear hx HS
        go_wp2
        go_roundw
        case rel => exact ⟨k + 1, by omega, by omega, by go_num, Lib.hid (by rw [HE.out]; exact HO.out), hb⟩
        case measure => simp [intOf]; omega
    · have hlt2 : ¬ (k : Int) < (l.length : Int) := by omega
      have hkk : k = max lo l.length := by omega
      have HF : Hid (OutH w.heap.size wr _ (endsL l lo who (max lo l.length))) := Lib.hid (by rw [← hkk]; exact HO.out)
      clear hkk
      go_wp2
      go_ret
      exact ⟨_, rfl, HF.out, hb.out⟩
end Go.Proofs.Ytneelmmikaefgaa
