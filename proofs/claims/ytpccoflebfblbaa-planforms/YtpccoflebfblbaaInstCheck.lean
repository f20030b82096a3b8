/- Contracts of inst.within, rightCars, rightStops: what they answer of a problem in memory. -/
import Derived.Test.YtpccoflebfblbaaInstViews
namespace Go.Proofs.Ytpccoflebfblbaa
open Go.RowKit

theorem within_yes (n low high : Int) (w : World) (h : inB n low high = true) :
    Calls Try.prog 68 #[.int .i64 n, .int .i64 low, .int .i64 high] w fun e w' => e = .returned (.bool true) ∧ w = w' := by
  obtain ⟨h1, h2⟩ := inB_iff.1 h
  clear h
  go_enter Try.func68, Try.ntmps68
  go_wp2
  go_ret
  exact ⟨rfl, rfl⟩
theorem within_no (n low high : Int) (w : World) (h : inB n low high = false) :
    Calls Try.prog 68 #[.int .i64 n, .int .i64 low, .int .i64 high] w fun e w' => e = .returned (.bool false) ∧ w = w' := by
  by_cases h1 : low ≤ n
  · have h2 : ¬ n ≤ high := by rcases inB_no.1 h with h | h <;> omega
    clear h
    go_enter Try.func68, Try.ntmps68
    go_wp2
    go_ret
    exact ⟨rfl, rfl⟩
  · clear h
    go_enter Try.func68, Try.ntmps68
    go_wp2
    go_ret
    exact ⟨rfl, rfl⟩
theorem inst_within_any (n low high : Int) (w : World) :
    Calls Try.prog 68 #[.int .i64 n, .int .i64 low, .int .i64 high] w fun e w' => e = .returned (.bool (inB n low high)) ∧ w = w' := by
  cases h : inB n low high
  · exact within_no n low high w h
  · exact within_yes n low high w h

set_option maxHeartbeats 1000000 in
theorem cars_any (v : Value) (l : List Car) (w : World) (hr : Recs w 3 Car.at_ v l) (hl : l.length ≤ 1099511627776) :
    Calls Try.prog 40 #[v] w fun e w' => e = .returned (.bool (carsOk l)) ∧ Below w.heap.size w w' := by
  obtain ⟨A, cap, rfl, hc⟩ := hr
  have HC := Lib.hid hc
  clear hc
  cases hn : inB l.length 1 3
  · have hf : carsOk l = false := by simp [carsOk, hn]
    rw [hf]
    have H1 := Lib.hid (fun W => within_no l.length 1 3 W hn)
    clear hf hn
    go_enter Try.func40, Try.ntmps40
    go_wp2_with (go_at_call 68; fail)
    (with_reducible refine (H1.out _).mono ?_); rintro e w' ⟨rfl, rfl⟩
    go_wp2
    go_ret
    exact ⟨rfl, Below.refl _ _⟩
  · have hf : carsOk l = l.all carOk := by simp [carsOk, hn]
    rw [hf]
    have H1 := Lib.hid (fun W => within_yes l.length 1 3 W hn)
    clear hf hn
    go_enter Try.func40, Try.ntmps40
    go_wp2_with (go_at_call 68; fail)
    (with_reducible refine (H1.out _).mono ?_); rintro e w' ⟨rfl, rfl⟩
    go_wp2
    go_loopw [11] (fun i wr => ∃ k : Nat, k ≤ l.length ∧ i = .int .i64 k ∧ l.all carOk = (l.drop k).all carOk ∧ Below w.heap.size w wr) (fun i _ => l.length - (intOf i).toNat)
    case atStart => exact ⟨0, Nat.zero_le _, rfl, rfl, Below.refl _ _⟩
    case round =>
      obtain ⟨k, hk, rfl, he, hb⟩ := hrel
      by_cases hlt : k < l.length
      · obtain ⟨B, o, rfl, hB, hcell⟩ := HC.out k hlt
        rw [all_drop hlt] at he
        have c0 : wr.cell? ⟨B, o + k * 3, none⟩ = some (.int .i64 l[k].c) := by rw [hb.cell hB]; exact hcell 0 (by omega)
        have c1 : wr.cell? ⟨B, o + k * 3 + 1, none⟩ = some (.int .i64 l[k].s) := by rw [hb.cell hB]; exact hcell 1 (by omega)
        have c2 : wr.cell? ⟨B, o + k * 3 + 2, none⟩ = some (.int .i64 l[k].e) := by rw [hb.cell hB]; exact hcell 2 (by omega)
        have HE := Lib.hid he
        have HB := Lib.hid hb
        clear he hb hcell
        generalize l[k] = x at *
        go_wp2
        all_goals first
          | (have hx : carOk x = true := by
               simp only [carOk, inB, Bool.and_eq_true, decide_eq_true_eq]; omega
             have HX := Lib.hid hx
             clear hx
             go_roundw
             case rel => exact ⟨k + 1, by omega, by go_num, by rw [HE.out, HX.out]; rfl, HB.out.alloc HB.out.size _⟩
             case measure => simp [intOf]; omega)
          | (have hx : carOk x = false := bool_no (by simp only [carOk, inB, Bool.and_eq_true, decide_eq_true_eq]; omega)
             have HX := Lib.hid hx
             clear hx
             go_ret
             exact ⟨by rw [HE.out, HX.out]; rfl, HB.out.alloc HB.out.size _⟩)
      · have : l.drop k = [] := List.drop_eq_nil_of_le (by omega)
        rw [this] at he
        have HE := Lib.hid he
        have HB := Lib.hid hb
        clear he hb this
        go_wp2
        go_ret
        exact ⟨by rw [HE.out]; rfl, HB.out⟩

set_option maxHeartbeats 1000000 in
theorem stops_any (v : Value) (l : List Stop) (w : World) (hr : Recs w 4 Stop.at_ v l) (hl : l.length ≤ 1099511627776) :
    Calls Try.prog 41 #[v] w fun e w' => e = .returned (.bool (stopsOk l)) ∧ Below w.heap.size w w' := by
  obtain ⟨A, cap, rfl, hc⟩ := hr
  have HC := Lib.hid hc
  clear hc
  by_cases hn : l.length ≤ 10
  case neg =>
    have hf : stopsOk l = false := by simp [stopsOk, hn]
    rw [hf]
    clear hf
    have hn' : 10 < l.length := by omega
    have hn2 : 10 < (l.length : Int) := by omega
    clear hn
    go_enter Try.func41, Try.ntmps41
    go_wp2
    go_ret
    exact ⟨rfl, Below.refl _ _⟩
  case pos =>
    have hf : stopsOk l = l.all stopOk := by simp [stopsOk, hn]
    rw [hf]
    clear hf
    have hn2 : decide (10 < (l.length : Int)) = false := by simp; omega
    have hn3 : decide (10 < l.length) = false := by simp; omega
    go_enter Try.func41, Try.ntmps41
    go_wp2
    go_loopw [10] (fun i wr => ∃ k : Nat, k ≤ l.length ∧ i = .int .i64 k ∧ l.all stopOk = (l.drop k).all stopOk ∧ Below w.heap.size w wr) (fun i _ => l.length - (intOf i).toNat)
    case atStart => exact ⟨0, Nat.zero_le _, rfl, rfl, Below.refl _ _⟩
    case round =>
      obtain ⟨k, hk, rfl, he, hb⟩ := hrel
      by_cases hlt : k < l.length
      · obtain ⟨B, o, rfl, hB, hcell⟩ := HC.out k hlt
        rw [all_drop hlt] at he
        have c0 : wr.cell? ⟨B, o + k * 4, none⟩ = some (.int .i64 l[k].d) := by rw [hb.cell hB]; exact hcell 0 (by omega)
        have c1 : wr.cell? ⟨B, o + k * 4 + 1, none⟩ = some (.int .i64 l[k].o) := by rw [hb.cell hB]; exact hcell 1 (by omega)
        have c2 : wr.cell? ⟨B, o + k * 4 + 2, none⟩ = some (.int .i64 l[k].c) := by rw [hb.cell hB]; exact hcell 2 (by omega)
        have c3 : wr.cell? ⟨B, o + k * 4 + 3, none⟩ = some (.int .i64 l[k].s) := by rw [hb.cell hB]; exact hcell 3 (by omega)
        have HE := Lib.hid he
        have HB := Lib.hid hb
        clear he hb hcell
        generalize l[k] = x at *
        go_wp2
        all_goals first
          | (have hx : stopOk x = true := by
               (try simp only [Bool.not_eq_true', Bool.not_eq_false', decide_eq_true_eq, decide_eq_false_iff_not] at *)
               simp only [stopOk, inB, Bool.and_eq_true, decide_eq_true_eq]; omega
             have HX := Lib.hid hx
             clear hx
             go_roundw
             case rel => exact ⟨k + 1, by omega, by go_num, by rw [HE.out, HX.out]; rfl, HB.out.alloc HB.out.size _⟩
             case measure => simp [intOf]; omega)
          | (have hx : stopOk x = false := bool_no (by (try simp only [Bool.not_eq_true', Bool.not_eq_false', decide_eq_true_eq, decide_eq_false_iff_not] at *); simp only [stopOk, inB, Bool.and_eq_true, decide_eq_true_eq]; omega)
             have HX := Lib.hid hx
             clear hx
             go_ret
             exact ⟨by rw [HE.out, HX.out]; rfl, HB.out.alloc HB.out.size _⟩)
      · have : l.drop k = [] := List.drop_eq_nil_of_le (by omega)
        rw [this] at he
        have HE := Lib.hid he
        have HB := Lib.hid hb
        clear he hb this
        go_wp2
        go_ret
        exact ⟨by rw [HE.out]; rfl, HB.out⟩
end Go.Proofs.Ytpccoflebfblbaa
