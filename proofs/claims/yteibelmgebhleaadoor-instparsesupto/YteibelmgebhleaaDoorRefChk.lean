/- draymanref01.CheckInst, walked: for any problem in memory it answers whether it may be; old memory stands. -/
import Derived.Test.YteibelmgebhleaaDoorRefCheck
namespace Go.Proofs.YteibelmgebhleaaDoor
open Go.RowKit Go.Maps
set_option linter.unusedSimpArgs false
set_option maxRecDepth 100000

set_option maxHeartbeats 8000000 in
theorem refCheck_any (v : Value) (i : Prob) (w : World) (h : Lies w v i) (hs : Short i) :
    Calls Tryd.prog 16 #[v] w fun e w' => e = .returned (.bool (probOk i)) ∧ Below w.heap.size w w' := by
  have hmm := @run_makeMap Tryd.prog
  obtain ⟨vc, vs, vp, vt, rfl, r1, r2, r3, r4⟩ := h
  obtain ⟨s1, s2, s3⟩ := hs
  obtain ⟨Ac, capc, rfl, hc⟩ := r1
  obtain ⟨As, caps, rfl, hst⟩ := r2
  obtain ⟨Ap, capp, rfl, hpr⟩ := r3
  obtain ⟨At, capt, rfl, htr⟩ := r4
  have HC := Lib.hid hc
  have HS := Lib.hid hst
  have HPR := Lib.hid hpr
  have HTR := Lib.hid htr
  clear hc hst hpr htr
  have HBX := Lib.hid ((Below.refl w.heap.size w).alloc (Nat.le_refl _) (.cells #[.slice Ac i.cars.length capc, .slice As i.stops.length caps, .slice Ap i.pairs.length capp, .slice At i.travel.length capt] 30))
  cases hn1 : inB i.cars.length 1 3
  · have C1 := Lib.hid (fun W => refWithin_no _ _ _ W hn1)
    have HP := Lib.hid (prob_head (i := i) (by rw [hn1]; simp))
    clear hn1
    go_enter Tryd.func16, Tryd.ntmps16
    go_wp2_with (go_at_call 32; fail)
    (with_reducible refine (C1.out _).mono ?_); rintro e w' ⟨rfl, rfl⟩
    go_wp2
    go_ret
    exact ⟨by rw [HP.out]; rfl, HBX.out⟩
  have C1 := Lib.hid (fun W => refWithin_yes _ _ _ W hn1)
  by_cases hn2 : i.stops.length ≤ 10
  case neg =>
    have HP := Lib.hid (prob_head (i := i) (fun h => hn2 h.2.1))
    have t1 : (10 : Int) < (i.stops.length : Int) := by omega
    clear hn1 hn2
    go_enter Tryd.func16, Tryd.ntmps16
    go_wp2_with (go_at_call 32; fail)
    (with_reducible refine (C1.out _).mono ?_); rintro e w' ⟨rfl, rfl⟩
    go_wp2
    go_ret
    exact ⟨by rw [HP.out]; rfl, HBX.out⟩
  by_cases hn3 : i.travel.length = i.stops.length + 1
  case neg =>
    have HP := Lib.hid (prob_head (i := i) (fun h => hn3 h.2.2))
    have t1 : decide ((10 : Int) < (i.stops.length : Int)) = false := by simp; omega
    have t2 : ((i.travel.length : Int) != (i.stops.length : Int) + 1) = true := by rw [bne_iff_ne]; omega
    clear hn1 hn2 hn3
    go_enter Tryd.func16, Tryd.ntmps16
    go_wp2_with (go_at_call 32; fail)
    (with_reducible refine (C1.out _).mono ?_); rintro e w' ⟨rfl, rfl⟩
    go_wp2
    go_ret
    exact ⟨by rw [HP.out]; rfl, HBX.out⟩
  have HP := Lib.hid (prob_parts hn1 hn2 hn3)
  have t1 : decide ((10 : Int) < (i.stops.length : Int)) = false := by simp; omega
  have t2 : ((i.travel.length : Int) != (i.stops.length : Int) + 1) = false := by rw [bne_eq_false_iff_eq]; omega
  have hc3 : i.cars.length ≤ 3 := by have := (inB_iff.1 hn1).2; omega
  have htl : i.travel.length ≤ 11 := by omega
  clear hn1 hn3
  go_enter Tryd.func16, Tryd.ntmps16
  go_wp2_with (go_at_call 32; fail)
  (with_reducible refine (C1.out _).mono ?_); rintro e w' ⟨rfl, rfl⟩
  clear C1
  go_wp2
  clear t1 t2
  have d0 : (w.alloc (.cells #[.slice Ac i.cars.length capc, .slice As i.stops.length caps, .slice Ap i.pairs.length capp, .slice At i.travel.length capt] 30)).cell? ⟨w.heap.size, 0, none⟩ = some (.slice Ac i.cars.length capc) := by simp
  have d1 : (w.alloc (.cells #[.slice Ac i.cars.length capc, .slice As i.stops.length caps, .slice Ap i.pairs.length capp, .slice At i.travel.length capt] 30)).cell? ⟨w.heap.size, 1, none⟩ = some (.slice As i.stops.length caps) := by simp
  have d2 : (w.alloc (.cells #[.slice Ac i.cars.length capc, .slice As i.stops.length caps, .slice Ap i.pairs.length capp, .slice At i.travel.length capt] 30)).cell? ⟨w.heap.size, 2, none⟩ = some (.slice Ap i.pairs.length capp) := by simp
  have d3 : (w.alloc (.cells #[.slice Ac i.cars.length capc, .slice As i.stops.length caps, .slice Ap i.pairs.length capp, .slice At i.travel.length capt] 30)).cell? ⟨w.heap.size, 3, none⟩ = some (.slice At i.travel.length capt) := by simp
  have z1 : w.heap.size < (w.alloc (.cells #[.slice Ac i.cars.length capc, .slice As i.stops.length caps, .slice Ap i.pairs.length capp, .slice At i.travel.length capt] 30)).heap.size := by simp
  generalize w.alloc (.cells #[.slice Ac i.cars.length capc, .slice As i.stops.length caps, .slice Ap i.pairs.length capp, .slice At i.travel.length capt] 30) = w1 at *
  have D0 := Lib.hid d0
  have D1 := Lib.hid d1
  have D2 := Lib.hid d2
  have D3 := Lib.hid d3
  clear d0 d1 d2 d3
  generalize hR1 : (i.stops.all stopOk && (pairsFrom i.stops [] i.pairs && rowsFrom i.travel.length 0 i.travel)) = R1 at HP
  have HR1 := Lib.hid hR1
  clear hR1
  go_loopw [41] (fun c wr => ∃ k : Nat, k ≤ i.cars.length ∧ c = .int .i64 k ∧ probOk i = ((i.cars.drop k).all carOk && R1) ∧ Below w1.heap.size w1 wr) (fun c _ => i.cars.length - (intOf c).toNat)
  case atStart => exact ⟨0, Nat.zero_le _, rfl, HP.out, Below.refl _ _⟩
  case round =>
    obtain ⟨k, hk, rfl, he, hb⟩ := hrel
    have HW : Hid (Below w.heap.size w wr) := HBX.out.trans (hb.mono (by omega))
    by_cases hlt : k < i.cars.length
    · obtain ⟨B, o, rfl, hB, hcell⟩ := HC.out k hlt
      rw [all_drop hlt] at he
      have c0 : wr.cell? ⟨B, o + k * 3, none⟩ = some (.int .i64 i.cars[k].c) := by rw [HW.out.cell hB]; exact hcell 0 (by omega)
      have c1 : wr.cell? ⟨B, o + k * 3 + 1, none⟩ = some (.int .i64 i.cars[k].s) := by rw [HW.out.cell hB]; exact hcell 1 (by omega)
      have c2 : wr.cell? ⟨B, o + k * 3 + 2, none⟩ = some (.int .i64 i.cars[k].e) := by rw [HW.out.cell hB]; exact hcell 2 (by omega)
      have HE := Lib.hid he
      have HB := Lib.hid hb
      have zr := hb.size
      clear he hb hcell HP
      generalize i.cars[k] = x at *
      obtain ⟨xc, xs, xe⟩ := x
      simp only at c0 c1 c2
      cases h1 : inB xc 0 60
      · have HX : Hid (carOk ⟨xc, xs, xe⟩ = false) := by show _ = _; simp [carOk, h1]
        have C1 := Lib.hid (fun W => refWithin_no _ _ _ W h1)
        clear h1
        go_wp2_with (go_at_call 32; fail)
        (with_reducible refine (C1.out _).mono ?_); rintro e w' ⟨rfl, rfl⟩
        go_wp2
        go_ret
        exact ⟨by rw [HE.out, HX.out]; rfl, HW.out.alloc HW.out.size _⟩
      · have C1 := Lib.hid (fun W => refWithin_yes _ _ _ W h1)
        cases h2 : inB xs 0 xe
        · have HX : Hid (carOk ⟨xc, xs, xe⟩ = false) := by show _ = _; simp [carOk, h1, h2]
          have C2 := Lib.hid (fun W => refWithin_no _ _ _ W h2)
          clear h1 h2
          go_wp2_with (go_at_call 32; fail)
          (with_reducible refine (C1.out _).mono ?_); rintro e w' ⟨rfl, rfl⟩
          go_wp2_with (go_at_call 32; fail)
          (with_reducible refine (C2.out _).mono ?_); rintro e w' ⟨rfl, rfl⟩
          go_wp2
          go_ret
          exact ⟨by rw [HE.out, HX.out]; rfl, HW.out.alloc HW.out.size _⟩
        · have C2 := Lib.hid (fun W => refWithin_yes _ _ _ W h2)
          by_cases h3 : xe ≤ 1000
          · have HX : Hid (carOk ⟨xc, xs, xe⟩ = true) := by show _ = _; simp [carOk, h1, h2, h3]
            have t3 : decide ((1000 : Int) < xe) = false := by simp; omega
            clear h1 h2 h3
            go_wp2_with (go_at_call 32; fail)
            (with_reducible refine (C1.out _).mono ?_); rintro e w' ⟨rfl, rfl⟩
            go_wp2_with (go_at_call 32; fail)
            (with_reducible refine (C2.out _).mono ?_); rintro e w' ⟨rfl, rfl⟩
            go_wp2
            go_roundw
            case rel => exact ⟨k + 1, by omega, by go_num, by rw [HE.out, HX.out]; rfl, HB.out.alloc HB.out.size _⟩
            case measure => simp [intOf]; omega
          · have HX : Hid (carOk ⟨xc, xs, xe⟩ = false) := by show _ = _; simp [carOk, h1, h2, h3]
            have t3 : decide ((1000 : Int) < xe) = true := by simp; omega
            clear h1 h2 h3
            go_wp2_with (go_at_call 32; fail)
            (with_reducible refine (C1.out _).mono ?_); rintro e w' ⟨rfl, rfl⟩
            go_wp2_with (go_at_call 32; fail)
            (with_reducible refine (C2.out _).mono ?_); rintro e w' ⟨rfl, rfl⟩
            go_wp2
            go_ret
            exact ⟨by rw [HE.out, HX.out]; rfl, HW.out.alloc HW.out.size _⟩
    · have hd : i.cars.drop k = [] := List.drop_eq_nil_of_le (by omega)
      rw [hd] at he
      have d1 : wr.cell? ⟨w.heap.size, 1, none⟩ = some (.slice As i.stops.length caps) := by rw [hb.cell z1]; exact D1.out
      generalize hR2 : (pairsFrom i.stops [] i.pairs && rowsFrom i.travel.length 0 i.travel) = R2 at HR1
      have HR2 := Lib.hid hR2
      have HE1 : Hid (probOk i = (i.stops.all stopOk && R2)) := by show _ = _; rw [he, ← HR1.out]; rfl
      have HB := Lib.hid hb
      clear he hb hd HP HR1 hR2
      go_wp2
      clear d1
      go_loopw [66] (fun c wr => ∃ k : Nat, k ≤ i.stops.length ∧ c = .int .i64 k ∧ probOk i = ((i.stops.drop k).all stopOk && R2) ∧ (i.stops.take k).all stopOk = true ∧ Below w1.heap.size w1 wr) (fun c _ => i.stops.length - (intOf c).toNat)
      case atStart => exact ⟨0, Nat.zero_le _, rfl, HE1.out, rfl, HB.out⟩
      case round =>
        clear HW HB HE1 hlt hk
        obtain ⟨k, hk, rfl, he, ht, hb⟩ := hrel
        have HW : Hid (Below w.heap.size w wr) := HBX.out.trans (hb.mono (by omega))
        by_cases hlt : k < i.stops.length
        · obtain ⟨B, o, rfl, hB, hcell⟩ := HS.out k hlt
          rw [all_drop hlt] at he
          have c0 : wr.cell? ⟨B, o + k * 4, none⟩ = some (.int .i64 i.stops[k].d) := by rw [HW.out.cell hB]; exact hcell 0 (by omega)
          have c1 : wr.cell? ⟨B, o + k * 4 + 1, none⟩ = some (.int .i64 i.stops[k].o) := by rw [HW.out.cell hB]; exact hcell 1 (by omega)
          have c2 : wr.cell? ⟨B, o + k * 4 + 2, none⟩ = some (.int .i64 i.stops[k].c) := by rw [HW.out.cell hB]; exact hcell 2 (by omega)
          have c3 : wr.cell? ⟨B, o + k * 4 + 3, none⟩ = some (.int .i64 i.stops[k].s) := by rw [HW.out.cell hB]; exact hcell 3 (by omega)
          have HE := Lib.hid he
          have HB := Lib.hid hb
          have HT := Lib.hid (all_take (p := stopOk) hlt)
          rw [ht] at HT
          have zr := hb.size
          clear he hb hcell ht
          generalize i.stops[k] = x at *
          obtain ⟨xd, xo, xc, xs⟩ := x
          simp only at c0 c1 c2 c3
          cases h1 : inB xd (-20) 20
          · have HX : Hid (stopOk ⟨xd, xo, xc, xs⟩ = false) := by show _ = _; simp [stopOk, h1]
            have C1 := Lib.hid (fun W => refWithin_no _ _ _ W h1)
            clear h1
            go_wp2_with (go_at_call 32; fail)
            (with_reducible refine (C1.out _).mono ?_); rintro e w' ⟨rfl, rfl⟩
            go_wp2
            go_ret
            exact ⟨by rw [HE.out, HX.out]; rfl, HW.out.alloc HW.out.size _⟩
          · have C1 := Lib.hid (fun W => refWithin_yes _ _ _ W h1)
            cases h2 : inB xo 0 xc
            · have HX : Hid (stopOk ⟨xd, xo, xc, xs⟩ = false) := by show _ = _; simp [stopOk, h1, h2]
              have C2 := Lib.hid (fun W => refWithin_no _ _ _ W h2)
              clear h1 h2
              go_wp2_with (go_at_call 32; fail)
              (with_reducible refine (C1.out _).mono ?_); rintro e w' ⟨rfl, rfl⟩
              go_wp2_with (go_at_call 32; fail)
              (with_reducible refine (C2.out _).mono ?_); rintro e w' ⟨rfl, rfl⟩
              go_wp2
              go_ret
              exact ⟨by rw [HE.out, HX.out]; rfl, HW.out.alloc HW.out.size _⟩
            · have C2 := Lib.hid (fun W => refWithin_yes _ _ _ W h2)
              by_cases h3 : xc ≤ 1000
              case neg =>
                have HX : Hid (stopOk ⟨xd, xo, xc, xs⟩ = false) := by show _ = _; simp [stopOk, h1, h2, h3]
                have t3 : decide ((1000 : Int) < xc) = true := by simp; omega
                clear h1 h2 h3
                go_wp2_with (go_at_call 32; fail)
                (with_reducible refine (C1.out _).mono ?_); rintro e w' ⟨rfl, rfl⟩
                go_wp2_with (go_at_call 32; fail)
                (with_reducible refine (C2.out _).mono ?_); rintro e w' ⟨rfl, rfl⟩
                go_wp2
                go_ret
                exact ⟨by rw [HE.out, HX.out]; rfl, HW.out.alloc HW.out.size _⟩
              have t3 : decide ((1000 : Int) < xc) = false := by simp; omega
              cases h4 : inB xs 0 1000
              · have HX : Hid (stopOk ⟨xd, xo, xc, xs⟩ = false) := by show _ = _; simp [stopOk, h1, h2, h3, h4]
                have C3 := Lib.hid (fun W => refWithin_no _ _ _ W h4)
                clear h1 h2 h3 h4
                go_wp2_with (go_at_call 32; fail)
                (with_reducible refine (C1.out _).mono ?_); rintro e w' ⟨rfl, rfl⟩
                go_wp2_with (go_at_call 32; fail)
                (with_reducible refine (C2.out _).mono ?_); rintro e w' ⟨rfl, rfl⟩
                go_wp2_with (go_at_call 32; fail)
                (with_reducible refine (C3.out _).mono ?_); rintro e w' ⟨rfl, rfl⟩
                go_wp2
                go_ret
                exact ⟨by rw [HE.out, HX.out]; rfl, HW.out.alloc HW.out.size _⟩
              · have HX : Hid (stopOk ⟨xd, xo, xc, xs⟩ = true) := by show _ = _; simp [stopOk, h1, h2, h3, h4]
                have C3 := Lib.hid (fun W => refWithin_yes _ _ _ W h4)
                clear h1 h2 h3 h4
                go_wp2_with (go_at_call 32; fail)
                (with_reducible refine (C1.out _).mono ?_); rintro e w' ⟨rfl, rfl⟩
                go_wp2_with (go_at_call 32; fail)
                (with_reducible refine (C2.out _).mono ?_); rintro e w' ⟨rfl, rfl⟩
                go_wp2_with (go_at_call 32; fail)
                (with_reducible refine (C3.out _).mono ?_); rintro e w' ⟨rfl, rfl⟩
                go_wp2
                go_roundw
                case rel => exact ⟨k + 1, by omega, by go_num, by rw [HE.out, HX.out]; rfl, by rw [HT.out, HX.out]; rfl, HB.out.alloc HB.out.size _⟩
                case measure => simp [intOf]; omega
        · have hd : i.stops.drop k = [] := List.drop_eq_nil_of_le (by omega)
          obtain rfl : k = i.stops.length := by omega
          rw [List.take_length] at ht
          rw [hd] at he
          have HO := Lib.hid ht
          have d2 : wr.cell? ⟨w.heap.size, 2, none⟩ = some (.slice Ap i.pairs.length capp) := by rw [hb.cell z1]; exact D2.out
          generalize hR3 : rowsFrom i.travel.length 0 i.travel = R3 at HR2
          have HR3 := Lib.hid hR3
          have HE2 : Hid (probOk i = (pairsFrom i.stops [] i.pairs && R3)) := by show _ = _; rw [he, ← HR2.out]; rfl
          have HB := Lib.hid hb
          have zr := hb.size
          have HMP := Lib.hid (World.ownsMap_made (H := Unit) wr Tryd.prog 3 (plainElem Tryd.prog 4))
          have HBM := Lib.hid (hb.alloc hb.size (.map #[] 0))
          have d2' : (wr.alloc (.map #[] 0)).cell? ⟨w.heap.size, 2, none⟩ = some (.slice Ap i.pairs.length capp) := by rw [HBM.out.cell z1]; exact D2.out
          clear he hb hd HR2 hR3 ht d2
          go_wp2
          clear d2' hmm
          have zr0 : w1.heap.size ≤ wr.heap.size := HB.out.size
          generalize hPB : wr.heap.size = PB at *
          clear hPB
          generalize wr.alloc (.map #[] 0) = w2 at *
          go_loopw [98] (fun c wr => ∃ (k : Nat) (seen : List Int) (m : Nat) (D : DataW Unit), k ≤ i.pairs.length ∧ c = .int .i64 k ∧ probOk i = (pairsFrom i.stops seen (i.pairs.drop k) && R3) ∧ m ≤ 2 * k ∧ wr.ownsMap Tryd.prog 3 (plainElem Tryd.prog 4) PB m D ∧ Sees D seen ∧ Below w1.heap.size w1 wr) (fun c _ => i.pairs.length - (intOf c).toNat)
          case atStart => exact ⟨0, [], 0, _, Nat.zero_le _, rfl, HE2.out, Nat.le_refl _, HMP.out, Sees.start, HBM.out⟩
          case round =>
            clear HW HB HE2 hlt hk HMP HBM
            obtain ⟨k, seen, m, D, hk, rfl, he, hm, hown, hsee, hb⟩ := hrel
            have HW : Hid (Below w.heap.size w wr) := HBX.out.trans (hb.mono (by omega))
            by_cases hlt : k < i.pairs.length
            · obtain ⟨B, o, rfl, hB, hcell⟩ := HPR.out k hlt
              rw [pairsFrom_drop hlt] at he
              have c0 : wr.cell? ⟨B, o + k * 2, none⟩ = some (.int .i64 i.pairs[k].a) := by rw [HW.out.cell hB]; exact hcell 0 (by omega)
              have c1 : wr.cell? ⟨B, o + k * 2 + 1, none⟩ = some (.int .i64 i.pairs[k].b) := by rw [HW.out.cell hB]; exact hcell 1 (by omega)
              have HE := Lib.hid he
              have HB := Lib.hid hb
              have HOW := Lib.hid hown
              have HSE := Lib.hid hsee
              have zr := hb.size
              have hPz : PB < wr.heap.size := hown.lt
              clear he hb hcell hown hsee
              generalize i.pairs[k] = p at *
              obtain ⟨a, b⟩ := p
              simp only at c0 c1
              have q0 := Lib.hid (show (wr.alloc (.cells #[.int .i64 a, .int .i64 b] 62)).cell? ⟨wr.heap.size, 0, none⟩ = some (.int .i64 a) by rw [World.cell?_alloc_new]; rfl)
              have q1 := Lib.hid (show (wr.alloc (.cells #[.int .i64 a, .int .i64 b] 62)).cell? ⟨wr.heap.size, 1, none⟩ = some (.int .i64 b) by rw [World.cell?_alloc_new]; rfl)
              have q2 := Lib.hid (show wr.heap.size < (wr.alloc (.cells #[.int .i64 a, .int .i64 b] 62)).heap.size by simp)
              go_wp2
              clear c0 c1
              have HB2 := Lib.hid (HB.out.alloc HB.out.size (.cells #[.int .i64 a, .int .i64 b] 62))
              have HOW2 := Lib.hid (HOW.out.alloc (.cells #[.int .i64 a, .int .i64 b] 62))
              clear HB HOW HW
              generalize hQB : wr.heap.size = QB at *
              clear hQB
              generalize wr.alloc (.cells #[.int .i64 a, .int .i64 b] 62) = w3 at *
              go_loopw [103] (fun c wr' => ∃ j : Nat, j ≤ 2 ∧ c = .int .i64 j ∧ RMid m i.stops.length seen a b w1 PB QB j wr') (fun c _ => 2 - (intOf c).toNat)
              case atStart => exact ⟨0, by omega, rfl, m, D, HB2.out, Nat.le_refl _, HOW2.out, HSE.out, q0.out, q1.out, hPz, q2.out, fun h => absurd h (by omega), fun h => absurd h (by omega)⟩
              case round =>
                clear HB2 HOW2 HSE q0 q1 q2
                obtain ⟨j, hj, rfl, m', D', n1, n2, n3, n4, n5, n6, n7, n8, n9, n10⟩ := hrel
                have m1 := Lib.hid n1
                have m3 := Lib.hid n3
                have m4 := Lib.hid n4
                have m5 := Lib.hid n5
                have m6 := Lib.hid n6
                have m9 := Lib.hid n9
                have m10 := Lib.hid n10
                have MW : Hid (Below w.heap.size w wr) := HBX.out.trans (n1.mono (by omega))
                have d1 : wr.cell? ⟨w.heap.size, 1, none⟩ = some (.slice As i.stops.length caps) := by rw [n1.cell z1]; exact D1.out
                clear n1 n3 n4 n5 n6 n9 n10
                have i0 := idx_pair0 a b
                have i1 := idx_pair1 a b
                obtain rfl | rfl | rfl : j = 0 ∨ j = 1 ∨ j = 2 := by omega
                · cases h1 : inB a 1 i.stops.length
                  · have HX : Hid (elemOk i.stops.length seen a = false) := by show _ = _; simp [elemOk, h1]
                    have C1 := Lib.hid (fun W => refWithin_no _ _ _ W h1)
                    clear h1
                    go_wp2_with (go_at_call 32; fail)
                    (with_reducible refine (C1.out _).mono ?_); rintro e w' ⟨rfl, rfl⟩
                    go_wp2
                    go_ret
                    exact ⟨by rw [HE.out, pairOk_parts, HX.out]; rfl, MW.out⟩
                  · have C1 := Lib.hid (fun W => refWithin_yes _ _ _ W h1)
                    have hb1 := inB_iff.1 h1
                    have hwf : (Lit.int .i64 a).wf = true := wf_small (by omega) (by omega)
                    have hkey := keyOf_int_mk Tryd.underlying3 hwf
                    have hlook := look_seen m3.out m4.out hwf
                    simp only [tops] at hlook
                    cases hcc : seen.contains a
                    · rw [hcc] at hlook
                      have HX : Hid (elemOk i.stops.length seen a = true) := by show _ = _; unfold elemOk; rw [h1, hcc]; rfl
                      have HPUT := Lib.hid (m4.out.put m3.out.isMap a hwf)
                      clear h1 hb1 hcc hwf
                      go_wp2_with (go_at_call 32; fail)
                      (with_reducible refine (C1.out _).mono ?_); rintro e w' ⟨rfl, rfl⟩
                      go_wp2_with (at_mapUpdate; refine wpList_mapUpdate_in _ rfl _ _ _ 75 rfl 3 4 key_int Tryd.underlying75 _ PB m' D' rfl m3.out (by unfold maxLen; omega) _ _ _ rfl rfl hkey _ [] (plainElem_bool Tryd.underlying4 true) ?_; intro w4 hown4 hturn4)
                      have HB4 := Lib.hid (m1.out.grown hturn4.grown m1.out.size (fun k hk => by cases hk; exact zr0))
                      have HOW4 := Lib.hid hown4
                      have z4 := hturn4.grown.size
                      have u0 := Lib.hid (turned_cell hturn4 (a := ⟨QB, 0, none⟩) (show QB ≠ PB by omega) n8)
                      have u1 := Lib.hid (turned_cell hturn4 (a := ⟨QB, 1, none⟩) (show QB ≠ PB by omega) n8)
                      clear hown4 hturn4
                      go_roundw
                      case rel => exact ⟨1, by omega, by go_num, m' + 1, _, HB4.out, by omega, HOW4.out, HPUT.out, by rw [u0.out]; exact m5.out, by rw [u1.out]; exact m6.out, n7, by omega, fun _ => HX.out, fun h => absurd h (by omega)⟩
                      case measure => simp [intOf]
                    · rw [hcc] at hlook
                      have HX : Hid (elemOk i.stops.length seen a = false) := by show _ = _; unfold elemOk; rw [h1, hcc]; rfl
                      clear h1 hb1 hcc hwf
                      go_wp2_with (go_at_call 32; fail)
                      (with_reducible refine (C1.out _).mono ?_); rintro e w' ⟨rfl, rfl⟩
                      go_wp2
                      go_ret
                      exact ⟨by rw [HE.out, pairOk_parts, HX.out]; rfl, MW.out⟩
                · cases h1 : inB b 1 i.stops.length
                  · have HX : Hid (elemOk i.stops.length (a :: seen) b = false) := by show _ = _; simp [elemOk, h1]
                    have C1 := Lib.hid (fun W => refWithin_no _ _ _ W h1)
                    clear h1
                    go_wp2_with (go_at_call 32; fail)
                    (with_reducible refine (C1.out _).mono ?_); rintro e w' ⟨rfl, rfl⟩
                    go_wp2
                    go_ret
                    exact ⟨by rw [HE.out, pairOk_parts, m9.out (by omega), HX.out]; rfl, MW.out⟩
                  · have C1 := Lib.hid (fun W => refWithin_yes _ _ _ W h1)
                    have hb1 := inB_iff.1 h1
                    have hwf : (Lit.int .i64 b).wf = true := wf_small (by omega) (by omega)
                    have hkey := keyOf_int_mk Tryd.underlying3 hwf
                    have hlook := look_seen m3.out m4.out hwf
                    simp only [tops] at hlook
                    cases hcc : (a :: seen).contains b
                    · rw [hcc] at hlook
                      have HX : Hid (elemOk i.stops.length (a :: seen) b = true) := by show _ = _; unfold elemOk; rw [h1, hcc]; rfl
                      have HPUT := Lib.hid (m4.out.put m3.out.isMap b hwf)
                      clear h1 hb1 hcc hwf
                      go_wp2_with (go_at_call 32; fail)
                      (with_reducible refine (C1.out _).mono ?_); rintro e w' ⟨rfl, rfl⟩
                      go_wp2_with (at_mapUpdate; refine wpList_mapUpdate_in _ rfl _ _ _ 75 rfl 3 4 key_int Tryd.underlying75 _ PB m' D' rfl m3.out (by unfold maxLen; omega) _ _ _ rfl rfl hkey _ [] (plainElem_bool Tryd.underlying4 true) ?_; intro w4 hown4 hturn4)
                      have HB4 := Lib.hid (m1.out.grown hturn4.grown m1.out.size (fun k hk => by cases hk; exact zr0))
                      have HOW4 := Lib.hid hown4
                      have z4 := hturn4.grown.size
                      have u0 := Lib.hid (turned_cell hturn4 (a := ⟨QB, 0, none⟩) (show QB ≠ PB by omega) n8)
                      have u1 := Lib.hid (turned_cell hturn4 (a := ⟨QB, 1, none⟩) (show QB ≠ PB by omega) n8)
                      clear hown4 hturn4
                      go_roundw
                      case rel => exact ⟨2, by omega, by go_num, m' + 1, _, HB4.out, by omega, HOW4.out, HPUT.out, by rw [u0.out]; exact m5.out, by rw [u1.out]; exact m6.out, n7, by omega, fun _ => m9.out (by omega), fun _ => HX.out⟩
                      case measure => simp [intOf]
                    · rw [hcc] at hlook
                      have HX : Hid (elemOk i.stops.length (a :: seen) b = false) := by show _ = _; unfold elemOk; rw [h1, hcc]; rfl
                      clear h1 hb1 hcc hwf
                      go_wp2_with (go_at_call 32; fail)
                      (with_reducible refine (C1.out _).mono ?_); rintro e w' ⟨rfl, rfl⟩
                      go_wp2
                      go_ret
                      exact ⟨by rw [HE.out, pairOk_parts, m9.out (by omega), HX.out]; rfl, MW.out⟩
                · have ea := m9.out (by omega)
                  have eb := m10.out (by omega)
                  obtain ⟨qa, hqa, rfl⟩ := elemOk_nat ea
                  obtain ⟨qb, hqb, rfl⟩ := elemOk_nat eb
                  have da := demand_nat i.stops hqa
                  have db := demand_nat i.stops hqb
                  have ba := stopOk_d (List.all_eq_true.1 HO.out i.stops[qa] (List.getElem_mem _))
                  have bb := stopOk_d (List.all_eq_true.1 HO.out i.stops[qb] (List.getElem_mem _))
                  have HP := Lib.hid (pairOk_parts i.stops seen ((qa : Int) + 1) ((qb : Int) + 1))
                  rw [ea, eb, da, db] at HP
                  obtain ⟨B2, o2, rfl, hB2, s1⟩ := HS.out qa hqa
                  obtain ⟨B3, o3, e3, hB3, s2⟩ := HS.out qb hqb
                  obtain ⟨rfl, rfl⟩ : B2 = B3 ∧ o2 = o3 := by simpa using e3
                  have t1 : wr.cell? ⟨B2, o2 + qa * 4, none⟩ = some (.int .i64 i.stops[qa].d) := by rw [MW.out.cell hB2]; exact s1 0 (by omega)
                  have t2 : wr.cell? ⟨B2, o2 + qb * 4, none⟩ = some (.int .i64 i.stops[qb].d) := by rw [MW.out.cell hB2]; exact s2 0 (by omega)
                  have u1 := m5.out
                  have u2 := m6.out
                  clear ea eb da db s1 s2 e3 i0 i1
                  generalize i.stops[qa].d = x at *
                  generalize i.stops[qb].d = y at *
                  by_cases hx0 : x < 0
                  · have HX : Hid (pairOk i.stops seen ⟨(qa : Int) + 1, (qb : Int) + 1⟩ = false) := by
                      show _ = _
                      rw [HP.out]; simp; omega
                    clear HP
                    go_wp2
                    go_ret
                    exact ⟨by rw [HE.out, HX.out]; rfl, MW.out⟩
                  · by_cases hxy : y = -x
                    · have HX : Hid (pairOk i.stops seen ⟨(qa : Int) + 1, (qb : Int) + 1⟩ = true) := by
                        show _ = _
                        rw [HP.out]; simp; omega
                      subst hxy
                      clear HP
                      go_wp2
                      go_roundw
                      case rel => exact ⟨k + 1, _, m', D', by omega, by go_num, by rw [HE.out, HX.out]; rfl, by omega, m3.out, m4.out, m1.out⟩
                      case measure => simp [intOf]; omega
                    · have HX : Hid (pairOk i.stops seen ⟨(qa : Int) + 1, (qb : Int) + 1⟩ = false) := by
                        show _ = _
                        rw [HP.out]; simp; omega
                      have n1 : (y == -x) = false := by simpa using hxy
                      have n2 : (y != -x) = true := by simpa using hxy
                      clear HP
                      go_wp2
                      go_ret
                      exact ⟨by rw [HE.out, HX.out]; rfl, MW.out⟩
            · have hd : i.pairs.drop k = [] := List.drop_eq_nil_of_le (by omega)
              rw [hd] at he
              have d3 : wr.cell? ⟨w.heap.size, 3, none⟩ = some (.slice At i.travel.length capt) := by rw [hb.cell z1]; exact D3.out
              have HE3 : Hid (probOk i = rowsFrom i.travel.length 0 i.travel) := by show _ = _; rw [he, HR3.out]; rfl
              have HB := Lib.hid hb
              clear he hb hd HR3 hown hsee
              go_wp2
              clear d3
              go_loopw [147] (fun c wr => ∃ k : Nat, k ≤ i.travel.length ∧ c = .int .i64 k ∧ probOk i = rowsFrom i.travel.length k (i.travel.drop k) ∧ Below w1.heap.size w1 wr) (fun c _ => i.travel.length - (intOf c).toNat)
              case atStart => exact ⟨0, Nat.zero_le _, rfl, HE3.out, HB.out⟩
              case round =>
                clear HW HB HE3 hlt hk hm
                obtain ⟨k, hk, rfl, he, hb⟩ := hrel
                have HW : Hid (Below w.heap.size w wr) := HBX.out.trans (hb.mono (by omega))
                by_cases hlt : k < i.travel.length
                · obtain ⟨B, o, u, rfl, hB, hu, hrow⟩ := HTR.out k hlt
                  rw [rowsFrom_drop hlt] at he
                  have c0 : wr.cell? ⟨B, o + k, none⟩ = some u := by rw [HW.out.cell hB]; exact hu
                  have d3 : wr.cell? ⟨w.heap.size, 3, none⟩ = some (.slice (some ⟨B, o, none⟩) i.travel.length capt) := by rw [hb.cell z1]; exact D3.out
                  obtain ⟨A2, cap2, rfl, hcell⟩ := (hrow.below HW.out).num
                  have HE := Lib.hid he
                  have HB := Lib.hid hb
                  clear he hb hu hrow
                  generalize i.travel[k] = r at *
                  by_cases hlen : r.length = i.travel.length
                  case neg =>
                    have h2 : ((r.length : Int) == (i.travel.length : Int)) = false := by simp; omega
                    have h3 : ((r.length : Int) != (i.travel.length : Int)) = true := by simp; omega
                    have h4 : (r.length == i.travel.length) = false := by simpa using hlen
                    have h5 : (r.length != i.travel.length) = true := by simpa using hlen
                    have HX := Lib.hid (rowOk_size (k := k) hlen)
                    clear hcell hlen
                    go_wp2
                    go_ret
                    exact ⟨by rw [HE.out, HX.out]; rfl, HW.out⟩
                  case pos =>
                    have hrl : r.length ≤ 1000 := by omega
                    have HL := Lib.hid hcell
                    have HX := Lib.hid (rowOk_cells (a := k) hlen)
                    have h4 : (r.length == i.travel.length) = true := by simpa using hlen
                    have h5 : (r.length != i.travel.length) = false := by simpa using hlen
                    have h6 : ((r.length : Int) == (i.travel.length : Int)) = true := by simp; omega
                    have h7 : ((r.length : Int) != (i.travel.length : Int)) = false := by simp; omega
                    clear hcell hlen
                    go_wp2
                    clear c0 d3 h4 h5 h6 h7
                    go_loopw [160] (fun c wr' => ∃ j : Nat, j ≤ r.length ∧ c = .int .i64 j ∧ cellsFrom k 0 r = cellsFrom k j (r.drop j) ∧ Below wr.heap.size wr wr') (fun c _ => r.length - (intOf c).toNat)
                    case atStart => exact ⟨0, Nat.zero_le _, rfl, rfl, Below.refl _ _⟩
                    case round =>
                      obtain ⟨j, hj, rfl, he2, hb2⟩ := hrel
                      have HW2 := Lib.hid (HW.out.trans (hb2.mono HW.out.size))
                      have HB2 := Lib.hid (HB.out.trans (hb2.mono HB.out.size))
                      by_cases hjl : j < r.length
                      · obtain ⟨B3, o3, rfl, hB3, e3⟩ := HL.out j hjl
                        rw [cellsFrom_drop hjl] at he2
                        rw [← hb2.cell hB3] at e3
                        have HE2 := Lib.hid he2
                        have HB3 := Lib.hid hb2
                        clear he2 hb2
                        generalize r[j] = x at *
                        cases h1 : inB x 0 1000
                        · have HY : Hid (cellOk k j x = false) := by show _ = _; simp [cellOk, h1]
                          have C1 := Lib.hid (fun W => refWithin_no _ _ _ W h1)
                          clear h1
                          go_wp2_with (go_at_call 32; fail)
                          (with_reducible refine (C1.out _).mono ?_); rintro e w' ⟨rfl, rfl⟩
                          go_wp2
                          go_ret
                          exact ⟨by rw [HE.out, HX.out, HE2.out, HY.out]; rfl, HW2.out⟩
                        · have C1 := Lib.hid (fun W => refWithin_yes _ _ _ W h1)
                          by_cases hkj : k = j
                          · have g1 : ((k : Int) == (j : Int)) = true := by rw [beq_iff_eq]; omega
                            have g2 : (k == j) = true := by simpa using hkj
                            by_cases hx0 : x = 0
                            · have g3 : (x != 0) = false := by simpa using hx0
                              have g4 : (x == 0) = true := by simpa using hx0
                              have HY : Hid (cellOk k j x = true) := by show _ = _; unfold cellOk; rw [h1, g4]; simp
                              clear h1 hkj hx0
                              go_wp2_with (go_at_call 32; fail)
                              (with_reducible refine (C1.out _).mono ?_); rintro e w' ⟨rfl, rfl⟩
                              go_wp2
                              go_roundw
                              case rel => exact ⟨j + 1, by omega, by go_num, by rw [HE2.out, HY.out]; rfl, HB3.out⟩
                              case measure => simp [intOf]; omega
                            · have g3 : (x != 0) = true := by simpa using hx0
                              have g4 : (x == 0) = false := by simpa using hx0
                              have HY : Hid (cellOk k j x = false) := by show _ = _; simp [cellOk, hkj, hx0]
                              clear h1 hkj hx0
                              go_wp2_with (go_at_call 32; fail)
                              (with_reducible refine (C1.out _).mono ?_); rintro e w' ⟨rfl, rfl⟩
                              go_wp2
                              go_ret
                              exact ⟨by rw [HE.out, HX.out, HE2.out, HY.out]; rfl, HW2.out⟩
                          · have g1 : ((k : Int) == (j : Int)) = false := by rw [beq_eq_false_iff_ne]; omega
                            have g2 : (k == j) = false := by simpa using hkj
                            have HY : Hid (cellOk k j x = true) := by show _ = _; simp [cellOk, h1, hkj]
                            clear h1 hkj
                            go_wp2_with (go_at_call 32; fail)
                            (with_reducible refine (C1.out _).mono ?_); rintro e w' ⟨rfl, rfl⟩
                            go_wp2
                            go_roundw
                            case rel => exact ⟨j + 1, by omega, by go_num, by rw [HE2.out, HY.out]; rfl, HB3.out⟩
                            case measure => simp [intOf]; omega
                      · have hd : r.drop j = [] := List.drop_eq_nil_of_le (by omega)
                        rw [hd] at he2
                        have HE2 := Lib.hid he2
                        clear he2 hb2 hd
                        go_wp2
                        go_roundw
                        case rel => exact ⟨k + 1, by omega, by go_num, by rw [HE.out, HX.out, HE2.out]; rfl, HB2.out⟩
                        case measure => simp [intOf]; omega
                · have hd : i.travel.drop k = [] := List.drop_eq_nil_of_le (by omega)
                  rw [hd] at he
                  have HE := Lib.hid he
                  clear he hb hd
                  go_wp2
                  go_ret
                  exact ⟨by rw [HE.out]; rfl, HW.out⟩
end Go.Proofs.YteibelmgebhleaaDoor
