/- Package hold: of an edit's turns and holds, whether one is held (laid by gen_hold.py). -/
import Derived.Test.YtneelmmikaefgaaHMoves
namespace Go.Proofs.Ytneelmmikaefgaa
open Go.RowKit
set_option linter.unusedSimpArgs false
set_option linter.unusedVariables false

def icedB (ic : List Int) (t : Turn) : Bool := decide (holderL ic 0 t.c ≠ -1)
def movB (rs : List (List Int)) (lk : List Int) (who : Int) (t : Turn) : Bool := turnMoves rs lk who t.c t.a
def othB (who : Int) (h : Hold) : Bool := another h.b who
set_option maxRecDepth 100000 in
set_option maxHeartbeats 4000000 in
theorem anyIced_any (A1 A2 A3 A4 A5 A6 : Option Addr) (n4 n5 n6 c1 c2 c3 c4 c5 c6 : Nat) (pv : Int) (rs : List (List Int)) (lk ic : List Int) (At : Option Addr) (ct : Nat) (ts : List Turn) (w : World) (hi : Recs w 1 num_ (.slice A3 ic.length c3) ic) (ht : Turns w (.slice At ts.length ct) ts) (hnt : ts.length ≤ 1000) :
    Calls Try.prog 19 #[.agg #[.slice A1 rs.length c1, .slice A2 lk.length c2, .slice A3 ic.length c3, .slice A4 n4 c4, .slice A5 n5 c5, .slice A6 n6 c6, .int .i64 pv], .slice At ts.length ct] w fun e w' => e = .returned (.bool (ts.any (icedB ic))) ∧ Below w.heap.size w w' := by
  have W0B : Hid (Below w.heap.size w (w.alloc (.cells #[.slice A1 rs.length c1, .slice A2 lk.length c2, .slice A3 ic.length c3, .slice A4 n4 c4, .slice A5 n5 c5, .slice A6 n6 c6, .int .i64 pv] 25))) := Lib.hid ((Below.refl _ _).alloc (Nat.le_refl _) _)
  have BP : Hid (Blk (w.alloc (.cells #[.slice A1 rs.length c1, .slice A2 lk.length c2, .slice A3 ic.length c3, .slice A4 n4 c4, .slice A5 n5 c5, .slice A6 n6 c6, .int .i64 pv] 25)) w.heap.size #[.slice A1 rs.length c1, .slice A2 lk.length c2, .slice A3 ic.length c3, .slice A4 n4 c4, .slice A5 n5 c5, .slice A6 n6 c6, .int .i64 pv].toList) := Lib.hid (blk_new w _ _)
  have HD := Lib.hid (ht.below W0B.out)
  have HI := Lib.hid (hi.below W0B.out)
  clear hi
  clear ht
  obtain ⟨z, hz⟩ : ∃ z, ts.any (icedB ic) = z := ⟨_, rfl⟩
  rw [hz]
  have HZ := Lib.hid hz
  clear hz
  go_enter Try.func19, Try.ntmps19
  go_upto_region 1 with (fail)
  generalize w.alloc (.cells #[.slice A1 rs.length c1, .slice A2 lk.length c2, .slice A3 ic.length c3, .slice A4 n4 c4, .slice A5 n5 c5, .slice A6 n6 c6, .int .i64 pv] 25) = W0 at *
  generalize hs : w.heap.size = s at *
  have hW0 : s < W0.heap.size := BP.out.1
  have CP : Hid (∀ W, Below W0.heap.size W0 W → W.cell? ⟨s, 0, none⟩ = some (.slice A1 rs.length c1) ∧ W.cell? ⟨s, 1, none⟩ = some (.slice A2 lk.length c2) ∧ W.cell? ⟨s, 2, none⟩ = some (.slice A3 ic.length c3) ∧ W.cell? ⟨s, 3, none⟩ = some (.slice A4 n4 c4) ∧ W.cell? ⟨s, 4, none⟩ = some (.slice A5 n5 c5) ∧ W.cell? ⟨s, 5, none⟩ = some (.slice A6 n6 c6) ∧ W.cell? ⟨s, 6, none⟩ = some (.int .i64 pv)) := Lib.hid (fun W hb => by
    have B := BP.out.below hb
    exact ⟨(B.2 0 (by simp)).1, (B.2 1 (by simp)).1, (B.2 2 (by simp)).1, (B.2 3 (by simp)).1, (B.2 4 (by simp)).1, (B.2 5 (by simp)).1, (B.2 6 (by simp)).1⟩)
  have HB0 := Lib.hid (Below.refl W0.heap.size W0)
  clear BP
  go_wp2
  go_loopw [9] (fun kv wr => ∃ k : Nat, k ≤ ts.length ∧ kv = .int .i64 k ∧ Hid ((ts.take k).any (icedB ic) = false) ∧ Hid (Below W0.heap.size W0 wr)) (fun kv _ => ts.length - (intOf kv).toNat)
  case atStart => exact ⟨0, Nat.zero_le _, rfl, Lib.hid (by simp), HB0⟩
  case round =>
    obtain ⟨k, hk, rfl, hn, hb⟩ := hrel
    by_cases hlt : k < ts.length
    · obtain ⟨BT0, o, eT, hBT, d0, d1, d2⟩ := HD.out.1.turn hlt
      obtain ⟨⟨Ax, cx, ex, hq1⟩, Ay, cy, ey, hq2⟩ := HD.out.2 _ (List.getElem_mem hlt)
      rw [ex] at d1
      rw [ey] at d2
      subst eT
      have HQ2 : Hid (Recs W0 1 num_ (.slice Ay ts[k].a.length cy) ts[k].a) := Lib.hid ⟨Ay, cy, rfl, hq2⟩
      have HT1 : Hid ((ts.take (k + 1)).any (icedB ic) = ((ts.take k).any (icedB ic) || icedB ic ts[k])) := Lib.hid (by rw [take_snoc hlt, List.any_append, List.any_cons, List.any_nil, Bool.or_false])
      have HT2 : Hid (icedB ic ts[k] = true → z = true) := Lib.hid (fun h => by rw [← HZ.out, List.any_eq_true]; exact ⟨_, List.getElem_mem hlt, h⟩)
      have x0 : wr.cell? ⟨BT0, o + k * 3, none⟩ = some (.int .i64 ts[k].c) := by rw [hb.out.cell hBT]; exact d0
      have x1 : wr.cell? ⟨BT0, o + k * 3 + 1, none⟩ = some (.slice Ax ts[k].b.length cx) := by rw [hb.out.cell hBT]; exact d1
      have x2 : wr.cell? ⟨BT0, o + k * 3 + 2, none⟩ = some (.slice Ay ts[k].a.length cy) := by rw [hb.out.cell hBT]; exact d2
      clear d0 d1 d2 ex ey hq1 hq2
      generalize ts[k] = t at *
      have BT := Lib.hid (blk_new wr #[.int .i64 t.c, .slice Ax t.b.length cx, .slice Ay t.a.length cy] 27)
      have HBT := Lib.hid (hb.out.alloc hb.out.size (.cells #[.int .i64 t.c, .slice Ax t.b.length cx, .slice Ay t.a.length cy] 27))
      clear hb
      go_upto_region 4 with (fail)
      generalize wr.alloc (.cells #[.int .i64 t.c, .slice Ax t.b.length cx, .slice Ay t.a.length cy] 27) = wt at *
      generalize wr.heap.size = T at *
      clear x0 x1 x2
      have t0 := (BT.out.2 0 (by simp)).1
      have t1 := (BT.out.2 1 (by simp)).1
      have t2 := (BT.out.2 2 (by simp)).1
      obtain ⟨b0, b1, b2, b3, b4, b5, b6⟩ := CP.out _ HBT.out

      have KX := Lib.hid (fun W (hB : Below W0.heap.size W0 W) => holder_any A3 c3 ic 0 t.c W (HI.out.below hB) (by decide))
      have HQ : Hid (icedB ic t = decide (holderL ic 0 t.c ≠ -1)) := Lib.hid rfl
      generalize icedB ic t = q at *
      generalize holderL ic 0 t.c = x at *
      go_wp2_with (go_at_call 36; fail)
      go_at_call 36
      (with_reducible refine (KX.out _ HBT.out).mono ?_)
      rintro e w2 ⟨rfl, hw⟩
      replace hw := hw.symm
      subst hw
      by_cases hx : x = -1
      · have q1 : (x == -1) = true := by simpa using hx
        have q2 : (x != -1) = false := by simpa using hx
        have HS : Hid (q = false) := Lib.hid (by rw [HQ.out]; simp [hx])
        clear hx
        go_wp2
        go_roundw
        case rel => exact ⟨k + 1, by omega, by go_num, Lib.hid (by rw [HT1.out, hn.out, HS.out]; rfl), HBT⟩
        case measure => simp [intOf]; omega
      · have q1 : (x == -1) = false := by simpa using hx
        have q2 : (x != -1) = true := by simpa using hx
        have HF : Hid (z = true) := Lib.hid (HT2.out (by rw [HQ.out]; simp [hx]))
        clear hx
        have HBF : Hid (Below s w wt) := Lib.hid (W0B.out.trans (HBT.out.mono (by omega)))
        go_wp2
        go_ret
        exact ⟨by rw [HF.out]; rfl, by first | (rw [hs]; exact HBF.out) | exact HBF.out⟩
    · have HF : Hid (z = false) := Lib.hid (by
        have := hn.out
        rw [List.take_of_length_le (by omega)] at this
        rw [← HZ.out]; exact this)
      have HBF : Hid (Below s w wr) := Lib.hid (W0B.out.trans (hb.out.mono (by omega)))
      go_wp2
      go_ret
      exact ⟨by rw [HF.out]; rfl, by first | (rw [hs]; exact HBF.out) | exact HBF.out⟩
set_option maxRecDepth 100000 in
set_option maxHeartbeats 4000000 in
theorem anyHeldMoves_any (A1 A2 A3 A4 A5 A6 : Option Addr) (n4 n5 n6 c1 c2 c3 c4 c5 c6 : Nat) (pv : Int) (rs : List (List Int)) (lk ic : List Int) (who : Int) (At : Option Addr) (ct : Nat) (ts : List Turn) (w : World) (hr : Trav w (.slice A1 rs.length c1) rs) (hl : Recs w 1 num_ (.slice A2 lk.length c2) lk) (n1 : rs.length ≤ 1000) (n2 : ∀ r ∈ rs, r.length ≤ 1000000) (n3 : ∀ t ∈ ts, t.a.length ≤ 1000000) (ht : Turns w (.slice At ts.length ct) ts) (hnt : ts.length ≤ 1000) :
    Calls Try.prog 21 #[.agg #[.slice A1 rs.length c1, .slice A2 lk.length c2, .slice A3 ic.length c3, .slice A4 n4 c4, .slice A5 n5 c5, .slice A6 n6 c6, .int .i64 pv], .int .i64 who, .slice At ts.length ct] w fun e w' => e = .returned (.bool (ts.any (movB rs lk who))) ∧ Below w.heap.size w w' := by
  have W0B : Hid (Below w.heap.size w (w.alloc (.cells #[.slice A1 rs.length c1, .slice A2 lk.length c2, .slice A3 ic.length c3, .slice A4 n4 c4, .slice A5 n5 c5, .slice A6 n6 c6, .int .i64 pv] 25))) := Lib.hid ((Below.refl _ _).alloc (Nat.le_refl _) _)
  have BP : Hid (Blk (w.alloc (.cells #[.slice A1 rs.length c1, .slice A2 lk.length c2, .slice A3 ic.length c3, .slice A4 n4 c4, .slice A5 n5 c5, .slice A6 n6 c6, .int .i64 pv] 25)) w.heap.size #[.slice A1 rs.length c1, .slice A2 lk.length c2, .slice A3 ic.length c3, .slice A4 n4 c4, .slice A5 n5 c5, .slice A6 n6 c6, .int .i64 pv].toList) := Lib.hid (blk_new w _ _)
  have HD := Lib.hid (ht.below W0B.out)
  have HR := Lib.hid (hr.below W0B.out)
  have HL := Lib.hid (hl.below W0B.out)
  have N2 := Lib.hid n2
  have N3 := Lib.hid n3
  clear hr hl n2 n3
  clear ht
  obtain ⟨z, hz⟩ : ∃ z, ts.any (movB rs lk who) = z := ⟨_, rfl⟩
  rw [hz]
  have HZ := Lib.hid hz
  clear hz
  go_enter Try.func21, Try.ntmps21
  go_upto_region 1 with (fail)
  generalize w.alloc (.cells #[.slice A1 rs.length c1, .slice A2 lk.length c2, .slice A3 ic.length c3, .slice A4 n4 c4, .slice A5 n5 c5, .slice A6 n6 c6, .int .i64 pv] 25) = W0 at *
  generalize hs : w.heap.size = s at *
  have hW0 : s < W0.heap.size := BP.out.1
  have CP : Hid (∀ W, Below W0.heap.size W0 W → W.cell? ⟨s, 0, none⟩ = some (.slice A1 rs.length c1) ∧ W.cell? ⟨s, 1, none⟩ = some (.slice A2 lk.length c2) ∧ W.cell? ⟨s, 2, none⟩ = some (.slice A3 ic.length c3) ∧ W.cell? ⟨s, 3, none⟩ = some (.slice A4 n4 c4) ∧ W.cell? ⟨s, 4, none⟩ = some (.slice A5 n5 c5) ∧ W.cell? ⟨s, 5, none⟩ = some (.slice A6 n6 c6) ∧ W.cell? ⟨s, 6, none⟩ = some (.int .i64 pv)) := Lib.hid (fun W hb => by
    have B := BP.out.below hb
    exact ⟨(B.2 0 (by simp)).1, (B.2 1 (by simp)).1, (B.2 2 (by simp)).1, (B.2 3 (by simp)).1, (B.2 4 (by simp)).1, (B.2 5 (by simp)).1, (B.2 6 (by simp)).1⟩)
  have HB0 := Lib.hid (Below.refl W0.heap.size W0)
  clear BP
  go_wp2
  go_loopw [11] (fun kv wr => ∃ k : Nat, k ≤ ts.length ∧ kv = .int .i64 k ∧ Hid ((ts.take k).any (movB rs lk who) = false) ∧ Hid (Below W0.heap.size W0 wr)) (fun kv _ => ts.length - (intOf kv).toNat)
  case atStart => exact ⟨0, Nat.zero_le _, rfl, Lib.hid (by simp), HB0⟩
  case round =>
    obtain ⟨k, hk, rfl, hn, hb⟩ := hrel
    by_cases hlt : k < ts.length
    · obtain ⟨BT0, o, eT, hBT, d0, d1, d2⟩ := HD.out.1.turn hlt
      obtain ⟨⟨Ax, cx, ex, hq1⟩, Ay, cy, ey, hq2⟩ := HD.out.2 _ (List.getElem_mem hlt)
      rw [ex] at d1
      rw [ey] at d2
      subst eT
      have HQ2 : Hid (Recs W0 1 num_ (.slice Ay ts[k].a.length cy) ts[k].a) := Lib.hid ⟨Ay, cy, rfl, hq2⟩
      have hla := N3.out _ (List.getElem_mem hlt)
      have HT1 : Hid ((ts.take (k + 1)).any (movB rs lk who) = ((ts.take k).any (movB rs lk who) || movB rs lk who ts[k])) := Lib.hid (by rw [take_snoc hlt, List.any_append, List.any_cons, List.any_nil, Bool.or_false])
      have HT2 : Hid (movB rs lk who ts[k] = true → z = true) := Lib.hid (fun h => by rw [← HZ.out, List.any_eq_true]; exact ⟨_, List.getElem_mem hlt, h⟩)
      have x0 : wr.cell? ⟨BT0, o + k * 3, none⟩ = some (.int .i64 ts[k].c) := by rw [hb.out.cell hBT]; exact d0
      have x1 : wr.cell? ⟨BT0, o + k * 3 + 1, none⟩ = some (.slice Ax ts[k].b.length cx) := by rw [hb.out.cell hBT]; exact d1
      have x2 : wr.cell? ⟨BT0, o + k * 3 + 2, none⟩ = some (.slice Ay ts[k].a.length cy) := by rw [hb.out.cell hBT]; exact d2
      clear d0 d1 d2 ex ey hq1 hq2
      generalize ts[k] = t at *
      have BT := Lib.hid (blk_new wr #[.int .i64 t.c, .slice Ax t.b.length cx, .slice Ay t.a.length cy] 27)
      have HBT := Lib.hid (hb.out.alloc hb.out.size (.cells #[.int .i64 t.c, .slice Ax t.b.length cx, .slice Ay t.a.length cy] 27))
      clear hb
      go_upto_region 4 with (fail)
      generalize wr.alloc (.cells #[.int .i64 t.c, .slice Ax t.b.length cx, .slice Ay t.a.length cy] 27) = wt at *
      generalize wr.heap.size = T at *
      clear x0 x1 x2
      have t0 := (BT.out.2 0 (by simp)).1
      have t1 := (BT.out.2 1 (by simp)).1
      have t2 := (BT.out.2 2 (by simp)).1
      obtain ⟨b0, b1, b2, b3, b4, b5, b6⟩ := CP.out _ HBT.out

      have KX := Lib.hid (fun W (hB : Below W0.heap.size W0 W) => heldMoves_any A1 A2 A3 A4 A5 A6 n4 n5 n6 c1 c2 c3 c4 c5 c6 pv rs lk ic who t.c Ax Ay t.b.length cx cy t.a W (HR.out.below hB) (HL.out.below hB) (HQ2.out.below hB) n1 N2.out hla)
      have HQ : movB rs lk who t = turnMoves rs lk who t.c t.a := rfl
      rw [← HQ] at KX
      clear HQ
      generalize movB rs lk who t = x at *
      go_wp2_with (go_at_call 38; fail)
      go_at_call 38
      (with_reducible refine (KX.out _ HBT.out).mono ?_)
      rintro e w2 ⟨rfl, hb2⟩
      have HB2 : Hid (Below W0.heap.size W0 w2) := Lib.hid (HBT.out.trans (hb2.mono HBT.out.size))
      clear hb2
      cases x
      · go_wp2
        go_roundw
        case rel => exact ⟨k + 1, by omega, by go_num, Lib.hid (by rw [HT1.out, hn.out]; rfl), HB2⟩
        case measure => simp [intOf]; omega
      · have HF : Hid (z = true) := Lib.hid (HT2.out rfl)
        have HBF : Hid (Below s w w2) := Lib.hid (W0B.out.trans (HB2.out.mono (by omega)))
        go_wp2
        go_ret
        exact ⟨by rw [HF.out]; rfl, by first | (rw [hs]; exact HBF.out) | exact HBF.out⟩
    · have HF : Hid (z = false) := Lib.hid (by
        have := hn.out
        rw [List.take_of_length_le (by omega)] at this
        rw [← HZ.out]; exact this)
      have HBF : Hid (Below s w wr) := Lib.hid (W0B.out.trans (hb.out.mono (by omega)))
      go_wp2
      go_ret
      exact ⟨by rw [HF.out]; rfl, by first | (rw [hs]; exact HBF.out) | exact HBF.out⟩
set_option maxRecDepth 100000 in
set_option maxHeartbeats 4000000 in
theorem anyOthers_any (A : Option Addr) (cap : Nat) (l : List Hold) (who : Int) (w : World) (h : Rows w 3 Hold.cells (.slice A l.length cap) l) (hl : l.length ≤ 1000) :
    Calls Try.prog 20 #[.slice A l.length cap, .int .i64 who] w fun e w' => e = .returned (.bool (l.any (othB who))) ∧ Below w.heap.size w w' := by
  have HR := Lib.hid h
  clear h
  obtain ⟨z, hz⟩ : ∃ z, (l.any (othB who)) = z := ⟨_, rfl⟩
  rw [hz]
  have HZ := Lib.hid hz
  clear hz
  have HB0 := Lib.hid (Below.refl w.heap.size w)
  go_enter Try.func20, Try.ntmps20
  go_wp2
  go_loopw [9] (fun kv wr => ∃ k : Nat, k ≤ l.length ∧ kv = .int .i64 k ∧ Hid ((l.take k).any (othB who) = false) ∧ Hid (Below w.heap.size w wr)) (fun kv _ => l.length - (intOf kv).toNat)
  case atStart => exact ⟨0, Nat.zero_le _, rfl, Lib.hid (by simp), HB0⟩
  case round =>
    obtain ⟨k, hk, rfl, hn, hb⟩ := hrel
    by_cases hlt : k < l.length
    · obtain ⟨B, o, rfl, hB, d0, d1, d2⟩ := HR.out.hold hlt
      have c0 : wr.cell? ⟨B, o + k * 3, none⟩ = some (.int .i64 l[k].n) := by rw [hb.out.cell hB]; exact d0
      have c1 : wr.cell? ⟨B, o + k * 3 + 1, none⟩ = some (.int .i64 l[k].b) := by rw [hb.out.cell hB]; exact d1
      have c2 : wr.cell? ⟨B, o + k * 3 + 2, none⟩ = some (.int .i64 l[k].a) := by rw [hb.out.cell hB]; exact d2
      have HT1 : Hid ((l.take (k + 1)).any (othB who) = ((l.take k).any (othB who) || othB who l[k])) := Lib.hid (by rw [take_snoc hlt, List.any_append, List.any_cons, List.any_nil, Bool.or_false])
      have HT2 : Hid (othB who l[k] = true → z = true) := Lib.hid (fun h => by rw [← HZ.out, List.any_eq_true]; exact ⟨_, List.getElem_mem hlt, h⟩)
      clear d0 d1 d2
      generalize l[k] = x at *
      have HB1 := Lib.hid (hb.out.alloc hb.out.size (.cells #[.int .i64 x.n, .int .i64 x.b, .int .i64 x.a] 35))
      have KA := Lib.hid (fun W => another_any x.b who W)
      have HQ : othB who x = another x.b who := rfl
      rw [← HQ] at KA
      clear HQ
      generalize othB who x = q at *
      go_wp2_with (go_at_call 37; fail)
      go_at_call 37
      (with_reducible refine (KA.out _).mono ?_)
      rintro e w2 ⟨rfl, rfl⟩
      cases q
      · go_wp2
        go_roundw
        case rel => exact ⟨k + 1, by omega, by go_num, Lib.hid (by rw [HT1.out, hn.out]; rfl), HB1⟩
        case measure => simp [intOf]; omega
      · have HF : Hid (z = true) := Lib.hid (HT2.out rfl)
        go_wp2
        go_ret
        exact ⟨by rw [HF.out]; rfl, HB1.out⟩
    · have HF : Hid (z = false) := Lib.hid (by
        have := hn.out
        rw [List.take_of_length_le (by omega)] at this
        rw [← HZ.out]; exact this)
      go_wp2
      go_ret
      exact ⟨by rw [HF.out]; rfl, hb.out⟩
end Go.Proofs.Ytneelmmikaefgaa
