/- draymanref01.within, car, Cost: what they answer. -/
import Derived.Test.YtcllnfhjbfmomaaTripTwo
namespace Go.Proofs.Ytcllnfhjbfmomaa
open Go.RowKit
set_option linter.unusedSimpArgs false

theorem refWithin_yes (n low high : Int) (w : World) (h : inB n low high = true) :
    Calls Try.prog 31 #[.int .i64 n, .int .i64 low, .int .i64 high] w fun e w' => e = .returned (.bool true) ∧ w' = w := by
  obtain ⟨h1, h2⟩ := inB_iff.1 h
  clear h
  go_enter Try.func31, Try.ntmps31
  go_wp2
  go_ret
  exact ⟨rfl, rfl⟩
theorem refWithin_no (n low high : Int) (w : World) (h : inB n low high = false) :
    Calls Try.prog 31 #[.int .i64 n, .int .i64 low, .int .i64 high] w fun e w' => e = .returned (.bool false) ∧ w' = w := by
  by_cases h1 : low ≤ n
  · have h2 : ¬ n ≤ high := by rcases inB_no.1 h with h | h <;> omega
    clear h
    go_enter Try.func31, Try.ntmps31
    go_wp2
    go_ret
    exact ⟨rfl, rfl⟩
  · clear h
    go_enter Try.func31, Try.ntmps31
    go_wp2
    go_ret
    exact ⟨rfl, rfl⟩
theorem refWithin_any (n low high : Int) (b : Bool) (h : inB n low high = b) (w : World) :
    Calls Try.prog 31 #[.int .i64 n, .int .i64 low, .int .i64 high] w fun e w' => e = .returned (.bool b) ∧ w' = w := by
  cases b
  · exact refWithin_no n low high w h
  · exact refWithin_yes n low high w h
theorem refCar_any (v : Value) (i : Prob) (c : Int) (b : Bool) (w : World) (h : Lies w v i) (hc : i.cars.length ≤ 1000) (hb : inB c 0 (i.cars.length - 1) = b) :
    Calls Try.prog 30 #[v, .int .i64 c] w fun e w' => e = .returned (.bool b) ∧ Below w.heap.size w w' := by
  obtain ⟨vc, vs, vp, vt, rfl, ⟨A, cap, rfl, _⟩, _⟩ := h
  have C := Lib.hid (fun W => refWithin_any c 0 ((i.cars.length : Int) - 1) b hb W)
  clear hb
  go_enter Try.func30, Try.ntmps30
  go_wp2_with (go_at_call 31; fail)
  (with_reducible refine (C.out _).mono ?_)
  rintro e w1 ⟨rfl, rfl⟩
  go_wp2
  go_ret
  exact ⟨rfl, (Below.refl _ _).alloc (Nat.le_refl _) _⟩
theorem costP_nil {i : Prob} (h : probOk i = true) : costP i [] = 0 := by
  show (if thereB i [] = true then costL i 0 [] else 0) = 0
  rw [if_pos (show thereB i [] = true from rfl)]
  exact way_diag h 0

set_option maxRecDepth 100000 in
set_option maxHeartbeats 4000000 in
theorem refCost_any (v u : Value) (i : Prob) (l : List Int) (w : World) (h : Lies w v i) (hok : probOk i = true) (hr : Recs w 1 num_ u l) (hl : l.length ≤ 1000000) :
    Calls Try.prog 19 #[v, u] w fun e w' => e = .returned (.int .i64 (costP i l)) ∧ Below w.heap.size w w' := by
  obtain ⟨vc, vs, vp, vt, rfl, _, ⟨A1, c1, rfl, _⟩, _, hT⟩ := h
  obtain ⟨A, cap, rfl, hc⟩ := hr.num
  have hf := fine_of hok
  have HC := Lib.hid hc
  have HTR := Lib.hid hT
  have HF := Lib.hid hf
  have HOK := Lib.hid hok
  have hst := hf.stops
  clear hc hr hT hf hok
  go_enter Try.func19, Try.ntmps19
  go_wp2
  go_loopw [5, 6, 11] (fun sv lv c wr => ∃ (k q : Nat) (sum : Int), k ≤ l.length ∧ q ≤ i.stops.length ∧ sv = .int .i64 sum ∧ lv = .int .i64 q ∧ c = .int .i64 k ∧ (∀ j (hj : j < l.length), j < k → inB l[j] 1 i.stops.length = true) ∧ costL i 0 l = sum + costL i q (l.drop k) ∧ 0 ≤ sum ∧ sum ≤ 1000 * (k : Int) ∧ Below w.heap.size w wr ∧
    wr.cell? ⟨w.heap.size, 1, none⟩ = some (.slice A1 i.stops.length c1) ∧ wr.cell? ⟨w.heap.size, 3, none⟩ = some vt ∧ w.heap.size < wr.heap.size) (fun _ _ c _ => l.length - (intOf c).toNat)
  case atStart => exact ⟨0, 0, 0, Nat.zero_le _, Nat.zero_le _, rfl, rfl, rfl, fun j _ h => absurd h (by omega), by simp, by omega, by omega, (Below.refl _ _).alloc (Nat.le_refl _) _, by simp, by simp, by simp⟩
  case round =>
    obtain ⟨k, q, sum, hk, hq, rfl, rfl, rfl, hin, he, hs0, hs1, hb, hx1, hx, hz⟩ := hrel
    have HX := Lib.hid hx
    have HX1 := Lib.hid hx1
    have HIN := Lib.hid hin
    clear hin
    by_cases hlt : k < l.length
    · obtain ⟨B, o, rfl, hB, hcell⟩ := HC.out k hlt
      rw [costL_drop hlt] at he
      have c0 : wr.cell? ⟨B, o + k, none⟩ = some (.int .i64 l[k]) := by rw [hb.cell hB]; exact hcell
      have HB := Lib.hid hb
      clear hcell
      cases hib : inB l[k] 1 i.stops.length
      · have C := Lib.hid (fun W => refWithin_any l[k] 1 i.stops.length false hib W)
        have HN : Hid (costP i l = 0) := by
          show _ = _
          unfold costP
          rw [if_neg]
          intro ht
          unfold thereB at ht
          rw [List.all_eq_true] at ht
          rw [ht l[k] (List.getElem_mem _)] at hib
          cases hib
        clear hib he hb
        generalize l[k] = s at *
        go_wp2_with (go_at_call 31; fail)
        (with_reducible refine (C.out _).mono ?_)
        rintro e w1 ⟨rfl, rfl⟩
        go_wp2
        go_ret
        exact ⟨ret_i HN.out.symm, HB.out⟩
      · have C := Lib.hid (fun W => refWithin_any l[k] 1 i.stops.length true hib W)
        have HIN2 : Hid (∀ j (hj : j < l.length), j < k + 1 → inB l[j] 1 i.stops.length = true) := fun j hj hjk => by
          by_cases e : j = k
          · subst e; exact hib
          · exact HIN.out j hj (by omega)
        have hib' := inB_iff.1 hib
        obtain ⟨p, hpe⟩ : ∃ p : Nat, l[k] = (p : Int) + 1 := ⟨(l[k] - 1).toNat, by omega⟩
        rw [hpe] at c0 he hib' C
        have hwb := way_bounds HF.out (q : Int) ((p : Int) + 1)
        obtain ⟨X1, y1, B1, o1, A2, c2, B2, o2, rfl, rfl, hB1, d1, rfl, hB2, d2⟩ := (HTR.out.below hb).way HF.out (a := q) (b := p + 1) hq (by omega)
        rw [show ((p + 1 : Nat) : Int) = (p : Int) + 1 by omega] at d2
        have HE := Lib.hid he
        clear he hb hpe hib
        generalize way i (q : Int) ((p : Int) + 1) = y at *
        go_wp2_with (go_at_call 31; fail)
        (with_reducible refine (C.out _).mono ?_)
        rintro e w1 ⟨rfl, rfl⟩
        go_wp2
        go_roundw
        case rel => exact ⟨k + 1, p + 1, sum + y, by omega, by omega, by go_num, by go_num, by go_num, HIN2.out, by rw [HE.out]; simp only [Int.natCast_add, Int.natCast_one]; omega, by omega, by omega, HB.out, HX1.out, HX.out, hz⟩
        case measure => simp [intOf]; omega
    · have hth : thereB i l = true := by
        unfold thereB
        rw [List.all_eq_true]
        intro x hx
        obtain ⟨j, hj, rfl⟩ := List.getElem_of_mem hx
        exact HIN.out j hj (by omega)
      have hcp : costP i l = costL i 0 l := by unfold costP; rw [if_pos hth]
      have : l.drop k = [] := List.drop_eq_nil_of_le (by omega)
      rw [this] at he
      have hwb := way_bounds HF.out (q : Int) 0
      obtain ⟨X1, y1, B1, o1, A2, c2, B2, o2, rfl, rfl, hB1, d1, rfl, hB2, d2⟩ := (HTR.out.below hb).way HF.out (a := q) (b := 0) hq (by omega)
      simp only [Int.natCast_zero, Nat.add_zero] at d2
      simp only [costL] at he
      have HE : Hid (costP i l = sum + way i (q : Int) 0) := by show _ = _; rw [hcp]; exact he
      have HB := Lib.hid hb
      clear he hb this hth hcp
      generalize way i (q : Int) 0 = y at *
      by_cases hl0 : l.length = 0
      · have hln : l = [] := List.eq_nil_of_length_eq_zero hl0
        have HZ : Hid (costP i l = 0) := by show _ = _; rw [hln]; exact costP_nil HOK.out
        have t1 : ((l.length : Int) == 0) = true := by simpa using hl0
        have t2 : (l.length == 0) = true := by simpa using hl0
        clear hln
        go_wp2
        go_ret
        exact ⟨ret_i HZ.out.symm, HB.out⟩
      · have t1 : ((l.length : Int) == 0) = false := by rw [beq_eq_false_iff_ne]; omega
        have t2 : (l.length == 0) = false := by rw [beq_eq_false_iff_ne]; exact hl0
        go_wp2
        go_ret
        exact ⟨ret_i HE.out.symm, HB.out⟩
end Go.Proofs.Ytcllnfhjbfmomaa
