/- Contract of inst.Check. -/
import Derived.Test.YtpccoflebfblbaaInstCheck
import Derived.Test.YtpccoflebfblbaaInstTravel
import Derived.Test.YtpccoflebfblbaaInstPairs
namespace Go.Proofs.Ytpccoflebfblbaa
set_option linter.unusedSimpArgs false
open Go.RowKit

theorem travel_any' (v : Value) (l : List (List Int)) (n : Nat) (w : World) (hr : Trav w v l) (hz : n ≤ 900) :
    Calls Try.prog 43 #[v, .int .i64 ((n : Int) + 1)] w fun e w' => e = .returned (.bool (travelOk (n + 1) l)) ∧ Below w.heap.size w w' := by
  have := travel_any v l (n + 1) w hr (by omega)
  rwa [show (((n + 1 : Nat)) : Int) = (n : Int) + 1 by omega] at this
def errOf (b : Bool) : Int := if b then 0 else 1
theorem errOf_true : errOf true = 0 := rfl
theorem errOf_false : errOf false = 1 := rfl
def Short (i : Prob) : Prop := i.cars.length ≤ 1099511627776 ∧ i.stops.length ≤ 1099511627776 ∧ i.pairs.length ≤ 1099511627776
set_option maxHeartbeats 2000000 in
theorem check_any (v : Value) (i : Prob) (w : World) (h : Lies w v i) (hs : Short i) :
    Calls Try.prog 19 #[v] w fun e w' => e = .returned (.int .i64 (errOf (probOk i))) ∧ Below w.heap.size w w' := by
  obtain ⟨vc, vs, vp, vt, rfl, h1, h2, h3, h4⟩ := h
  obtain ⟨s1, s2, s3⟩ := hs
  have hp : probOk i = (carsOk i.cars && stopsOk i.stops && pairsFrom i.stops [] i.pairs && travelOk (i.stops.length + 1) i.travel) := rfl
  have C1 := Lib.hid (fun W (hb : Below w.heap.size w W) => cars_any vc i.cars W (h1.below hb) s1)
  have C2 := Lib.hid (fun W (hb : Below w.heap.size w W) => stops_any vs i.stops W (h2.below hb) s2)
  have C3 := Lib.hid (fun W (hb : Below w.heap.size w W) hst => pairs_any vp vs i.pairs i.stops W (h3.below hb) (h2.below hb) hst s3)
  have C4 := Lib.hid (fun W (hb : Below w.heap.size w W) hn => travel_any' vt i.travel i.stops.length W (h4.below hb) hn)
  have HS : Hid (∃ A cap, vs = .slice A i.stops.length cap) := by obtain ⟨A, cap, e, _⟩ := h2; exact ⟨A, cap, e⟩
  clear h1 h2 h3 h4
  cases hc : carsOk i.cars
  · rw [hp, hc]; simp only [Bool.false_and, errOf_false]
    rw [hc] at C1
    clear hp hc
    go_enter Try.func19, Try.ntmps19
    go_wp2_with (go_at_call 40; fail)
    (with_reducible refine (C1.out _ ?_).mono ?_)
    · exact (Below.refl _ _).alloc (Nat.le_refl _) _
    rintro e w1 ⟨rfl, hb1⟩
    have HB1 := Lib.hid hb1
    clear hb1
    go_wp2
    go_ret
    exact ⟨rfl, ((Below.refl _ _).alloc (Nat.le_refl _) _).trans (HB1.out.mono (by simp))⟩
  · rw [hc] at C1
    cases hst : stopsOk i.stops
    · rw [hp, hc, hst]; simp only [Bool.false_and, Bool.true_and, errOf_false]
      rw [hst] at C2
      clear hp hc hst
      go_enter Try.func19, Try.ntmps19
      go_wp2_with (go_at_call 40; fail)
      (with_reducible refine (C1.out _ ?_ ).mono ?_)
      · exact ((Below.refl _ _).alloc (Nat.le_refl _) _)
      rintro e w1 ⟨rfl, hb1⟩
      have T1 := Lib.hid (Below.trans ((Below.refl _ _).alloc (Nat.le_refl _) _) (hb1.mono (by simp)))
      have d10 : w1.cell? ⟨w.heap.size, 0, none⟩ = some vc := by rw [hb1.cell (by simp)]; simp
      have d11 : w1.cell? ⟨w.heap.size, 1, none⟩ = some vs := by rw [hb1.cell (by simp)]; simp
      have d12 : w1.cell? ⟨w.heap.size, 2, none⟩ = some vp := by rw [hb1.cell (by simp)]; simp
      have d13 : w1.cell? ⟨w.heap.size, 3, none⟩ = some vt := by rw [hb1.cell (by simp)]; simp
      have hz1 : w.heap.size < w1.heap.size := by have := hb1.size; simp at this; omega
      clear hb1
      go_wp2_with (go_at_call 41; fail)
      (with_reducible refine (C2.out _ ?_ ).mono ?_)
      · exact T1.out
      rintro e w2 ⟨rfl, hb2⟩
      have T2 := Lib.hid (Below.trans T1.out (hb2.mono (by simpa using (show Below w.heap.size w _ from T1.out).size)))
      have d20 : w2.cell? ⟨w.heap.size, 0, none⟩ = some vc := by rw [hb2.cell (hz1)]; exact d10
      have d21 : w2.cell? ⟨w.heap.size, 1, none⟩ = some vs := by rw [hb2.cell (hz1)]; exact d11
      have d22 : w2.cell? ⟨w.heap.size, 2, none⟩ = some vp := by rw [hb2.cell (hz1)]; exact d12
      have d23 : w2.cell? ⟨w.heap.size, 3, none⟩ = some vt := by rw [hb2.cell (hz1)]; exact d13
      have hz2 : w.heap.size < w2.heap.size := by have := hb2.size; omega
      clear d10 d11 d12 d13
      clear hb2
      go_wp2
      go_ret
      exact ⟨rfl, T2.out⟩
    · have HT := Lib.hid hst
      have hn := stopsOk_len hst
      rw [hst] at C2
      cases hpr : pairsFrom i.stops [] i.pairs
      · rw [hp, hc, hst, hpr]; simp only [Bool.false_and, Bool.true_and, errOf_false]
        rw [hpr] at C3
        clear hp hc hst hpr
        go_enter Try.func19, Try.ntmps19
        go_wp2_with (go_at_call 40; fail)
        (with_reducible refine (C1.out _ ?_ ).mono ?_)
        · exact ((Below.refl _ _).alloc (Nat.le_refl _) _)
        rintro e w1 ⟨rfl, hb1⟩
        have T1 := Lib.hid (Below.trans ((Below.refl _ _).alloc (Nat.le_refl _) _) (hb1.mono (by simp)))
        have d10 : w1.cell? ⟨w.heap.size, 0, none⟩ = some vc := by rw [hb1.cell (by simp)]; simp
        have d11 : w1.cell? ⟨w.heap.size, 1, none⟩ = some vs := by rw [hb1.cell (by simp)]; simp
        have d12 : w1.cell? ⟨w.heap.size, 2, none⟩ = some vp := by rw [hb1.cell (by simp)]; simp
        have d13 : w1.cell? ⟨w.heap.size, 3, none⟩ = some vt := by rw [hb1.cell (by simp)]; simp
        have hz1 : w.heap.size < w1.heap.size := by have := hb1.size; simp at this; omega
        clear hb1
        go_wp2_with (go_at_call 41; fail)
        (with_reducible refine (C2.out _ ?_ ).mono ?_)
        · exact T1.out
        rintro e w2 ⟨rfl, hb2⟩
        have T2 := Lib.hid (Below.trans T1.out (hb2.mono (by simpa using (show Below w.heap.size w _ from T1.out).size)))
        have d20 : w2.cell? ⟨w.heap.size, 0, none⟩ = some vc := by rw [hb2.cell (hz1)]; exact d10
        have d21 : w2.cell? ⟨w.heap.size, 1, none⟩ = some vs := by rw [hb2.cell (hz1)]; exact d11
        have d22 : w2.cell? ⟨w.heap.size, 2, none⟩ = some vp := by rw [hb2.cell (hz1)]; exact d12
        have d23 : w2.cell? ⟨w.heap.size, 3, none⟩ = some vt := by rw [hb2.cell (hz1)]; exact d13
        have hz2 : w.heap.size < w2.heap.size := by have := hb2.size; omega
        clear d10 d11 d12 d13
        clear hb2
        go_wp2_with (go_at_call 42; fail)
        (with_reducible refine (C3.out _ ?_ HT.out).mono ?_)
        · exact T2.out
        rintro e w3 ⟨rfl, hb3⟩
        have T3 := Lib.hid (Below.trans T2.out (hb3.mono (by simpa using (show Below w.heap.size w _ from T2.out).size)))
        have d30 : w3.cell? ⟨w.heap.size, 0, none⟩ = some vc := by rw [hb3.cell (hz2)]; exact d20
        have d31 : w3.cell? ⟨w.heap.size, 1, none⟩ = some vs := by rw [hb3.cell (hz2)]; exact d21
        have d32 : w3.cell? ⟨w.heap.size, 2, none⟩ = some vp := by rw [hb3.cell (hz2)]; exact d22
        have d33 : w3.cell? ⟨w.heap.size, 3, none⟩ = some vt := by rw [hb3.cell (hz2)]; exact d23
        have hz3 : w.heap.size < w3.heap.size := by have := hb3.size; omega
        clear d20 d21 d22 d23
        clear hb3
        go_wp2
        go_ret
        exact ⟨rfl, T3.out⟩
      · rw [hpr] at C3
        obtain ⟨A, cap, rfl⟩ := HS.out
        cases htr : travelOk (i.stops.length + 1) i.travel
        · rw [hp, hc, hst, hpr, htr]; simp only [Bool.false_and, Bool.true_and, errOf_false]
          rw [htr] at C4
          clear hp hc hst hpr htr
          go_enter Try.func19, Try.ntmps19
          go_wp2_with (go_at_call 40; fail)
          (with_reducible refine (C1.out _ ?_ ).mono ?_)
          · exact ((Below.refl _ _).alloc (Nat.le_refl _) _)
          rintro e w1 ⟨rfl, hb1⟩
          have T1 := Lib.hid (Below.trans ((Below.refl _ _).alloc (Nat.le_refl _) _) (hb1.mono (by simp)))
          have d10 : w1.cell? ⟨w.heap.size, 0, none⟩ = some vc := by rw [hb1.cell (by simp)]; simp
          have d11 : w1.cell? ⟨w.heap.size, 1, none⟩ = some (.slice A i.stops.length cap) := by rw [hb1.cell (by simp)]; simp
          have d12 : w1.cell? ⟨w.heap.size, 2, none⟩ = some vp := by rw [hb1.cell (by simp)]; simp
          have d13 : w1.cell? ⟨w.heap.size, 3, none⟩ = some vt := by rw [hb1.cell (by simp)]; simp
          have hz1 : w.heap.size < w1.heap.size := by have := hb1.size; simp at this; omega
          clear hb1
          go_wp2_with (go_at_call 41; fail)
          (with_reducible refine (C2.out _ ?_ ).mono ?_)
          · exact T1.out
          rintro e w2 ⟨rfl, hb2⟩
          have T2 := Lib.hid (Below.trans T1.out (hb2.mono (by simpa using (show Below w.heap.size w _ from T1.out).size)))
          have d20 : w2.cell? ⟨w.heap.size, 0, none⟩ = some vc := by rw [hb2.cell (hz1)]; exact d10
          have d21 : w2.cell? ⟨w.heap.size, 1, none⟩ = some (.slice A i.stops.length cap) := by rw [hb2.cell (hz1)]; exact d11
          have d22 : w2.cell? ⟨w.heap.size, 2, none⟩ = some vp := by rw [hb2.cell (hz1)]; exact d12
          have d23 : w2.cell? ⟨w.heap.size, 3, none⟩ = some vt := by rw [hb2.cell (hz1)]; exact d13
          have hz2 : w.heap.size < w2.heap.size := by have := hb2.size; omega
          clear d10 d11 d12 d13
          clear hb2
          go_wp2_with (go_at_call 42; fail)
          (with_reducible refine (C3.out _ ?_ HT.out).mono ?_)
          · exact T2.out
          rintro e w3 ⟨rfl, hb3⟩
          have T3 := Lib.hid (Below.trans T2.out (hb3.mono (by simpa using (show Below w.heap.size w _ from T2.out).size)))
          have d30 : w3.cell? ⟨w.heap.size, 0, none⟩ = some vc := by rw [hb3.cell (hz2)]; exact d20
          have d31 : w3.cell? ⟨w.heap.size, 1, none⟩ = some (.slice A i.stops.length cap) := by rw [hb3.cell (hz2)]; exact d21
          have d32 : w3.cell? ⟨w.heap.size, 2, none⟩ = some vp := by rw [hb3.cell (hz2)]; exact d22
          have d33 : w3.cell? ⟨w.heap.size, 3, none⟩ = some vt := by rw [hb3.cell (hz2)]; exact d23
          have hz3 : w.heap.size < w3.heap.size := by have := hb3.size; omega
          clear d20 d21 d22 d23
          clear hb3
          go_wp2_with (go_at_call 43; fail)
          (with_reducible refine (C4.out _ ?_ (by omega)).mono ?_)
          · exact T3.out
          rintro e w4 ⟨rfl, hb4⟩
          have T4 := Lib.hid (Below.trans T3.out (hb4.mono (by simpa using (show Below w.heap.size w _ from T3.out).size)))
          have d40 : w4.cell? ⟨w.heap.size, 0, none⟩ = some vc := by rw [hb4.cell (hz3)]; exact d30
          have d41 : w4.cell? ⟨w.heap.size, 1, none⟩ = some (.slice A i.stops.length cap) := by rw [hb4.cell (hz3)]; exact d31
          have d42 : w4.cell? ⟨w.heap.size, 2, none⟩ = some vp := by rw [hb4.cell (hz3)]; exact d32
          have d43 : w4.cell? ⟨w.heap.size, 3, none⟩ = some vt := by rw [hb4.cell (hz3)]; exact d33
          have hz4 : w.heap.size < w4.heap.size := by have := hb4.size; omega
          clear d30 d31 d32 d33
          clear hb4
          go_wp2
          go_ret
          exact ⟨rfl, T4.out⟩
        · rw [hp, hc, hst, hpr, htr]; simp only [Bool.false_and, Bool.true_and, errOf_true]
          rw [htr] at C4
          clear hp hc hst hpr htr
          go_enter Try.func19, Try.ntmps19
          go_wp2_with (go_at_call 40; fail)
          (with_reducible refine (C1.out _ ?_ ).mono ?_)
          · exact ((Below.refl _ _).alloc (Nat.le_refl _) _)
          rintro e w1 ⟨rfl, hb1⟩
          have T1 := Lib.hid (Below.trans ((Below.refl _ _).alloc (Nat.le_refl _) _) (hb1.mono (by simp)))
          have d10 : w1.cell? ⟨w.heap.size, 0, none⟩ = some vc := by rw [hb1.cell (by simp)]; simp
          have d11 : w1.cell? ⟨w.heap.size, 1, none⟩ = some (.slice A i.stops.length cap) := by rw [hb1.cell (by simp)]; simp
          have d12 : w1.cell? ⟨w.heap.size, 2, none⟩ = some vp := by rw [hb1.cell (by simp)]; simp
          have d13 : w1.cell? ⟨w.heap.size, 3, none⟩ = some vt := by rw [hb1.cell (by simp)]; simp
          have hz1 : w.heap.size < w1.heap.size := by have := hb1.size; simp at this; omega
          clear hb1
          go_wp2_with (go_at_call 41; fail)
          (with_reducible refine (C2.out _ ?_ ).mono ?_)
          · exact T1.out
          rintro e w2 ⟨rfl, hb2⟩
          have T2 := Lib.hid (Below.trans T1.out (hb2.mono (by simpa using (show Below w.heap.size w _ from T1.out).size)))
          have d20 : w2.cell? ⟨w.heap.size, 0, none⟩ = some vc := by rw [hb2.cell (hz1)]; exact d10
          have d21 : w2.cell? ⟨w.heap.size, 1, none⟩ = some (.slice A i.stops.length cap) := by rw [hb2.cell (hz1)]; exact d11
          have d22 : w2.cell? ⟨w.heap.size, 2, none⟩ = some vp := by rw [hb2.cell (hz1)]; exact d12
          have d23 : w2.cell? ⟨w.heap.size, 3, none⟩ = some vt := by rw [hb2.cell (hz1)]; exact d13
          have hz2 : w.heap.size < w2.heap.size := by have := hb2.size; omega
          clear d10 d11 d12 d13
          clear hb2
          go_wp2_with (go_at_call 42; fail)
          (with_reducible refine (C3.out _ ?_ HT.out).mono ?_)
          · exact T2.out
          rintro e w3 ⟨rfl, hb3⟩
          have T3 := Lib.hid (Below.trans T2.out (hb3.mono (by simpa using (show Below w.heap.size w _ from T2.out).size)))
          have d30 : w3.cell? ⟨w.heap.size, 0, none⟩ = some vc := by rw [hb3.cell (hz2)]; exact d20
          have d31 : w3.cell? ⟨w.heap.size, 1, none⟩ = some (.slice A i.stops.length cap) := by rw [hb3.cell (hz2)]; exact d21
          have d32 : w3.cell? ⟨w.heap.size, 2, none⟩ = some vp := by rw [hb3.cell (hz2)]; exact d22
          have d33 : w3.cell? ⟨w.heap.size, 3, none⟩ = some vt := by rw [hb3.cell (hz2)]; exact d23
          have hz3 : w.heap.size < w3.heap.size := by have := hb3.size; omega
          clear d20 d21 d22 d23
          clear hb3
          go_wp2_with (go_at_call 43; fail)
          (with_reducible refine (C4.out _ ?_ (by omega)).mono ?_)
          · exact T3.out
          rintro e w4 ⟨rfl, hb4⟩
          have T4 := Lib.hid (Below.trans T3.out (hb4.mono (by simpa using (show Below w.heap.size w _ from T3.out).size)))
          have d40 : w4.cell? ⟨w.heap.size, 0, none⟩ = some vc := by rw [hb4.cell (hz3)]; exact d30
          have d41 : w4.cell? ⟨w.heap.size, 1, none⟩ = some (.slice A i.stops.length cap) := by rw [hb4.cell (hz3)]; exact d31
          have d42 : w4.cell? ⟨w.heap.size, 2, none⟩ = some vp := by rw [hb4.cell (hz3)]; exact d32
          have d43 : w4.cell? ⟨w.heap.size, 3, none⟩ = some vt := by rw [hb4.cell (hz3)]; exact d33
          have hz4 : w.heap.size < w4.heap.size := by have := hb4.size; omega
          clear d30 d31 d32 d33
          clear hb4
          go_wp2
          go_ret
          exact ⟨rfl, T4.out⟩
theorem check_ok {v : Value} {i : Prob} {w : World} (h : Lies w v i) (hs : Short i) (hp : probOk i = true) :
    Calls Try.prog 19 #[v] w fun e w' => e = .returned (.int .i64 0) ∧ Below w.heap.size w w' := by
  have := check_any v i w h hs
  rwa [hp, errOf_true] at this
theorem check_bad {v : Value} {i : Prob} {w : World} (h : Lies w v i) (hs : Short i) (hp : probOk i = false) :
    Calls Try.prog 19 #[v] w fun e w' => e = .returned (.int .i64 1) ∧ Below w.heap.size w w' := by
  have := check_any v i w h hs
  rwa [hp, errOf_false] at this
end Go.Proofs.Ytpccoflebfblbaa
