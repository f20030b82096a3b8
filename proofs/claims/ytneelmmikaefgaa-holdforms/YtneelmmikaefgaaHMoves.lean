/- Package hold: of a turn, whether it moves a stop that another one holds (laid by gen_hold.py). -/
import Derived.Test.YtneelmmikaefgaaHLow
namespace Go.Proofs.Ytneelmmikaefgaa
open Go.RowKit
set_option linter.unusedSimpArgs false
set_option linter.unusedVariables false

theorem max2 (n m : Nat) (W : World) (P : Program) (ts : Array TypeId) (t : TypeId) : (Builtin.max_ ts t #[.int .i64 (n : Int), .int .i64 (m : Int)]).run P W = .ok (.int .i64 ((max n m : Nat) : Int)) W := by
  have e : ∀ W, (Builtin.max2 (.int .i64 (n : Int)) (.int .i64 (m : Int))).run P W = .ok (.int .i64 ((max n m : Nat) : Int)) W := fun W => by
    simp only [Builtin.max2]
    by_cases h : (n : Int) < m
    · rw [if_pos h]; have : max n m = m := by omega
      rw [this]; rfl
    · rw [if_neg h]; have : max n m = n := by omega
      rw [this]; rfl
  unfold Builtin.max_
  simp [e]
set_option maxRecDepth 100000 in
set_option maxHeartbeats 4000000 in
theorem heldMoves_any (A1 A2 A3 A4 A5 A6 : Option Addr) (n4 n5 n6 c1 c2 c3 c4 c5 c6 : Nat) (pv : Int) (rs : List (List Int)) (lk ic : List Int) (who c : Int) (Ax Ay : Option Addr) (nb cx cy : Nat) (a : List Int) (w : World) (hr : Trav w (.slice A1 rs.length c1) rs) (hl : Recs w 1 num_ (.slice A2 lk.length c2) lk) (ha : Recs w 1 num_ (.slice Ay a.length cy) a) (n1 : rs.length ≤ 1000) (n2 : ∀ r ∈ rs, r.length ≤ 1000000) (n3 : a.length ≤ 1000000) :
    Calls Try.prog 38 #[.agg #[.slice A1 rs.length c1, .slice A2 lk.length c2, .slice A3 ic.length c3, .slice A4 n4 c4, .slice A5 n5 c5, .slice A6 n6 c6, .int .i64 pv], .int .i64 who, .agg #[.int .i64 c, .slice Ax nb cx, .slice Ay a.length cy]] w fun e w' => e = .returned (.bool (turnMoves rs lk who c a)) ∧ Below w.heap.size w w' := by
  have W0B : Hid (Below w.heap.size w ((w.alloc (.cells #[.slice A1 rs.length c1, .slice A2 lk.length c2, .slice A3 ic.length c3, .slice A4 n4 c4, .slice A5 n5 c5, .slice A6 n6 c6, .int .i64 pv] 25)).alloc (.cells #[.int .i64 c, .slice Ax nb cx, .slice Ay a.length cy] 27))) := Lib.hid (((Below.refl _ _).alloc (Nat.le_refl _) _).alloc (by simp) _)
  have BP : Hid (Blk ((w.alloc (.cells #[.slice A1 rs.length c1, .slice A2 lk.length c2, .slice A3 ic.length c3, .slice A4 n4 c4, .slice A5 n5 c5, .slice A6 n6 c6, .int .i64 pv] 25)).alloc (.cells #[.int .i64 c, .slice Ax nb cx, .slice Ay a.length cy] 27)) w.heap.size #[.slice A1 rs.length c1, .slice A2 lk.length c2, .slice A3 ic.length c3, .slice A4 n4 c4, .slice A5 n5 c5, .slice A6 n6 c6, .int .i64 pv].toList) := Lib.hid ((blk_new w _ _).alloc _)
  have BT : Hid (Blk ((w.alloc (.cells #[.slice A1 rs.length c1, .slice A2 lk.length c2, .slice A3 ic.length c3, .slice A4 n4 c4, .slice A5 n5 c5, .slice A6 n6 c6, .int .i64 pv] 25)).alloc (.cells #[.int .i64 c, .slice Ax nb cx, .slice Ay a.length cy] 27)) (w.heap.size + 1) #[.int .i64 c, .slice Ax nb cx, .slice Ay a.length cy].toList) := Lib.hid (blk_at (w := w.alloc _) #[.int .i64 c, .slice Ax nb cx, .slice Ay a.length cy] 27 (by simp))
  have HR := Lib.hid (hr.below W0B.out)
  have HL := Lib.hid (hl.below W0B.out)
  have HA := Lib.hid (ha.below W0B.out)
  have N2 := Lib.hid n2
  clear hr hl ha n2
  obtain ⟨z, hz⟩ : ∃ z, turnMoves rs lk who c a = z := ⟨_, rfl⟩
  rw [hz]
  have HZ := Lib.hid hz
  clear hz
  go_enter Try.func38, Try.ntmps38
  go_upto_region 1 with (fail)
  generalize ((w.alloc (.cells #[.slice A1 rs.length c1, .slice A2 lk.length c2, .slice A3 ic.length c3, .slice A4 n4 c4, .slice A5 n5 c5, .slice A6 n6 c6, .int .i64 pv] 25)).alloc (.cells #[.int .i64 c, .slice Ax nb cx, .slice Ay a.length cy] 27)) = W0 at *
  generalize hs : w.heap.size = s at *
  have hW0 : s + 1 < W0.heap.size := BT.out.1
  have CP : Hid (∀ W, Below W0.heap.size W0 W → W.cell? ⟨s, 0, none⟩ = some (.slice A1 rs.length c1) ∧ W.cell? ⟨s, 1, none⟩ = some (.slice A2 lk.length c2) ∧ W.cell? ⟨s, 2, none⟩ = some (.slice A3 ic.length c3) ∧ W.cell? ⟨s, 3, none⟩ = some (.slice A4 n4 c4) ∧ W.cell? ⟨s, 4, none⟩ = some (.slice A5 n5 c5) ∧ W.cell? ⟨s, 5, none⟩ = some (.slice A6 n6 c6) ∧ W.cell? ⟨s, 6, none⟩ = some (.int .i64 pv)) := Lib.hid (fun W hb => by
    have B := BP.out.below hb
    exact ⟨(B.2 0 (by simp)).1, (B.2 1 (by simp)).1, (B.2 2 (by simp)).1, (B.2 3 (by simp)).1, (B.2 4 (by simp)).1, (B.2 5 (by simp)).1, (B.2 6 (by simp)).1⟩)
  have HB0 := Lib.hid (Below.refl W0.heap.size W0)
  obtain ⟨b0, b1, b2, b3, b4, b5, b6⟩ := CP.out W0 HB0.out
  have t0 := (BT.out.2 0 (by simp)).1
  have t1 := (BT.out.2 1 (by simp)).1
  have t2 := (BT.out.2 2 (by simp)).1
  by_cases h0 : c < 0
  · have HE : Hid (z = false) := Lib.hid (by rw [← HZ.out]; unfold turnMoves; rw [if_pos (.inl h0)])
    go_wp2
    go_ret
    exact ⟨by rw [HE.out]; rfl, by first | (rw [hs]; exact W0B.out) | exact W0B.out⟩
  by_cases h1 : (rs.length : Int) ≤ c
  · have HE : Hid (z = false) := Lib.hid (by rw [← HZ.out]; unfold turnMoves; rw [if_pos (.inr h1)])
    go_wp2
    go_ret
    exact ⟨by rw [HE.out]; rfl, by first | (rw [hs]; exact W0B.out) | exact W0B.out⟩
  obtain ⟨m, rfl⟩ : ∃ m : Nat, c = (m : Int) := ⟨c.toNat, by omega⟩
  have hm : m < rs.length := by omega
  have hm2 : (m : Int) < (rs.length : Int) := by omega
  have KB := Lib.hid (fun (W : World) (hB : Below W0.heap.size W0 W) (x : Int) => heldBy_any A1 A2 A3 A4 A5 A6 n4 n5 n6 c1 c2 c3 c4 c5 c6 pv rs lk ic who x W (HL.out.below hB))
  obtain ⟨B, o, Ar, cr, rfl, hB, d0, hrr⟩ := trav_at HR.out hm
  have HE : Hid (z = movesL lk who rs[m] a) := Lib.hid (by rw [← HZ.out]; unfold turnMoves; rw [if_neg (by omega)]; simp [hm])
  have HRR := Lib.hid hrr
  have hlr := N2.out _ (List.getElem_mem hm)
  clear hrr h1 h0 HZ
  generalize rs[m] = r at *
  have MX := fun W => max2 r.length a.length W Try.prog #[3, 3] 3
  obtain ⟨M, hM⟩ : ∃ M, max r.length a.length = M := ⟨_, rfl⟩
  rw [hM] at MX
  have HM := Lib.hid hM
  have hMl : M ≤ 1000000 := by omega
  clear hM
  go_wp2
  go_loopw [34] (fun kv wr => ∃ k : Nat, k ≤ M ∧ kv = .int .i64 k ∧ Hid (∀ j, j < k → movesAt lk who r a j = false) ∧ Hid (Below W0.heap.size W0 wr)) (fun kv _ => M - (intOf kv).toNat)
  case atStart => exact ⟨0, Nat.zero_le _, rfl, Lib.hid (fun j hj => by omega), HB0⟩
  case round =>
    obtain ⟨k, hk, rfl, hn, hb⟩ := hrel
    clear b0 b1 b2 b3 b4 b5 b6 t0 t1 t2 d0
    obtain ⟨b0, b1, b2, b3, b4, b5, b6⟩ := CP.out wr hb.out
    have BT2 := BT.out.below hb.out
    have t0 := (BT2.2 0 (by simp)).1
    have t1 := (BT2.2 1 (by simp)).1
    have t2 := (BT2.2 2 (by simp)).1
    clear BT2
    by_cases hlt : k < M
    · have hlt2 : (k : Int) < (M : Int) := by omega
      have KS1 := Lib.hid (fun n => stopAt_any Ar cr r k (wr.drewN n) (HRR.out.below (below_draws' hb.out n)))
      have KS2 := Lib.hid (fun n => stopAt_any Ay cy a k (wr.drewN n) (HA.out.below (below_draws' hb.out n)))
      have HMV : Hid (movesAt lk who r a k = (decide (stopL r k ≠ stopL a k) && (heldBy lk who (stopL r k) || heldBy lk who (stopL a k)))) := Lib.hid rfl
      have HT : Hid (movesAt lk who r a k = true → z = true) := Lib.hid (fun h => by
        rw [HE.out]; unfold movesL; rw [List.any_eq_true]
        exact ⟨k, List.mem_range.2 (by have := HM.out; omega), h⟩)
      have HN : Hid (movesAt lk who r a k = false → ∀ j, j < k + 1 → movesAt lk who r a j = false) := Lib.hid (fun h j hj => by
        rcases Nat.lt_succ_iff_lt_or_eq.1 hj with h' | rfl
        · exact hn.out j h'
        · exact h)
      generalize movesAt lk who r a k = mv at *
      generalize stopL r k = x at *
      generalize stopL a k = y at *
      go_upto_region 7 with (fail)
      go_quiet (first | (go_at_call 56; (with_reducible exact Calls.quiet_of_same (KS1.out _))) | (go_at_call 56; (with_reducible exact Calls.quiet_of_same (KS2.out _))))
      have HBQ : Hid (Below W0.heap.size W0 (wr.drewN nq)) := Lib.hid (below_draws' hb.out nq)
      by_cases hxy : x = y
      · have q1 : (x == y) = true := by simpa using hxy
        have q2 : (x != y) = false := by simpa using hxy
        have HF : Hid (mv = false) := Lib.hid (by rw [HMV.out]; simp [hxy])
        clear hxy
        go_wp2
        go_roundw
        case rel => exact ⟨k + 1, by omega, by go_num, Lib.hid (HN.out HF.out), HBQ⟩
        case measure => simp [intOf]; omega
      · have q1 : (x == y) = false := by simpa using hxy
        have q2 : (x != y) = true := by simpa using hxy
        have HXY := Lib.hid hxy
        clear hxy
        have KX := Lib.hid (KB.out _ HBQ.out x)
        obtain ⟨u1, hu1⟩ : ∃ u, heldBy lk who x = u := ⟨_, rfl⟩
        rw [hu1] at KX HMV
        clear hu1
        go_wp2_with (go_at_call 57; fail)
        go_at_call 57
        (with_reducible refine KX.out.mono ?_)
        rintro e w2 ⟨rfl, hb2⟩
        have HB2 : Hid (Below W0.heap.size W0 w2) := Lib.hid (HBQ.out.trans (hb2.mono HBQ.out.size))
        clear hb2
        cases u1
        · obtain ⟨b0, b1, b2, b3, b4, b5, b6⟩ := CP.out w2 HB2.out
          have KY := Lib.hid (KB.out _ HB2.out y)
          obtain ⟨u2, hu2⟩ : ∃ u, heldBy lk who y = u := ⟨_, rfl⟩
          rw [hu2] at KY HMV
          clear hu2
          go_wp2_with (go_at_call 57; fail)
          go_at_call 57
          (with_reducible refine KY.out.mono ?_)
          rintro e w3 ⟨rfl, hb3⟩
          have HB3 : Hid (Below W0.heap.size W0 w3) := Lib.hid (HB2.out.trans (hb3.mono HB2.out.size))
          clear hb3
          cases u2
          · have HF : Hid (mv = false) := Lib.hid (by rw [HMV.out]; simp)
            go_wp2
            go_roundw
            case rel => exact ⟨k + 1, by omega, by go_num, Lib.hid (HN.out HF.out), HB3⟩
            case measure => simp [intOf]; omega
          · have HF : Hid (z = true) := Lib.hid (HT.out (by rw [HMV.out]; simpa using HXY.out))
            have HBF : Hid (Below s w w3) := Lib.hid (W0B.out.trans (HB3.out.mono (by omega)))
            go_wp2
            go_ret
            exact ⟨by rw [HF.out]; rfl, by first | (rw [hs]; exact HBF.out) | exact HBF.out⟩
        · have HF : Hid (z = true) := Lib.hid (HT.out (by rw [HMV.out]; simpa using HXY.out))
          have HBF : Hid (Below s w w2) := Lib.hid (W0B.out.trans (HB2.out.mono (by omega)))
          go_wp2
          go_ret
          exact ⟨by rw [HF.out]; rfl, by first | (rw [hs]; exact HBF.out) | exact HBF.out⟩
    · have HF : Hid (z = false) := Lib.hid (by
        rw [HE.out]; unfold movesL; rw [List.any_eq_false]
        intro j hj
        have := List.mem_range.1 hj
        have hM := HM.out
        rw [hn.out j (by omega)]; simp)
      have HBF : Hid (Below s w wr) := Lib.hid (W0B.out.trans (hb.out.mono (by omega)))
      go_wp2
      go_ret
      exact ⟨by rw [HF.out]; rfl, by first | (rw [hs]; exact HBF.out) | exact HBF.out⟩
end Go.Proofs.Ytneelmmikaefgaa
