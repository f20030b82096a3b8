/- Contract of inst.rightTravel. -/
import Derived.Test.YtpccoflebfblbaaInstViews
namespace Go.Proofs.Ytpccoflebfblbaa
set_option linter.unusedSimpArgs false
open Go.RowKit

theorem Recs.num {W : World} {v : Value} {l : List Int} (h : Recs W 1 num_ v l) : ∃ A cap, v = .slice A l.length cap ∧ ∀ k (h : k < l.length), ∃ B o, A = some ⟨B, o, none⟩ ∧ B < W.heap.size ∧ W.cell? ⟨B, o + k, none⟩ = some (.int .i64 l[k]) := by
  obtain ⟨A, cap, rfl, h⟩ := h
  refine ⟨A, cap, rfl, fun k hk => ?_⟩
  obtain ⟨B, o, rfl, hB, hc⟩ := h k hk
  exact ⟨B, o, rfl, hB, by have := hc 0 (by omega); simpa [num_] using this⟩

set_option maxHeartbeats 1000000 in
theorem travel_any (v : Value) (l : List (List Int)) (size : Nat) (w : World) (hr : Trav w v l) (hz : size ≤ 1000) :
    Calls Try.prog 43 #[v, .int .i64 size] w fun e w' => e = .returned (.bool (travelOk size l)) ∧ Below w.heap.size w w' := by
  obtain ⟨A, cap, rfl, hc⟩ := hr
  have HC := Lib.hid hc
  clear hc
  by_cases hn : l.length = size
  case neg =>
    have hf : travelOk size l = false := by simp [travelOk, hn]
    rw [hf]
    clear hf
    have h2 : ((l.length : Int) == (size : Int)) = false := by simp; omega
    have h3 : ((l.length : Int) != (size : Int)) = true := by simp; omega
    have h4 : (l.length == size) = false := by simpa using hn
    have h5 : (l.length != size) = true := by simpa using hn
    go_enter Try.func43, Try.ntmps43
    go_wp2
    go_ret
    exact ⟨rfl, Below.refl _ _⟩
  case pos =>
    subst hn
    have hf : travelOk l.length l = rowsFrom l.length 0 l := by simp [travelOk]
    rw [hf]
    clear hf
    go_enter Try.func43, Try.ntmps43
    go_wp2
    go_loopw [15] (fun i wr => ∃ k : Nat, k ≤ l.length ∧ i = .int .i64 k ∧ rowsFrom l.length 0 l = rowsFrom l.length k (l.drop k) ∧ Below w.heap.size w wr) (fun i _ => l.length - (intOf i).toNat)
    case atStart => exact ⟨0, Nat.zero_le _, rfl, rfl, Below.refl _ _⟩
    case round =>
      obtain ⟨k, hk, rfl, he, hb⟩ := hrel
      by_cases hlt : k < l.length
      · obtain ⟨B, o, u, rfl, hB, hu, hrow⟩ := HC.out k hlt
        rw [rowsFrom_drop hlt] at he
        have c0 : wr.cell? ⟨B, o + k, none⟩ = some u := by rw [hb.cell hB]; exact hu
        obtain ⟨A2, cap2, rfl, hcell⟩ := (hrow.below (hb.mono (Nat.le_refl _))).num
        have HE := Lib.hid he
        have HB := Lib.hid hb
        clear he hb hu hrow
        generalize l[k] = r at *
        by_cases hlen : r.length = l.length
        case neg =>
          have h2 : ((r.length : Int) == (l.length : Int)) = false := by simp; omega
          have h3 : ((r.length : Int) != (l.length : Int)) = true := by simp; omega
          have h4 : (r.length == l.length) = false := by simpa using hlen
          have h5 : (r.length != l.length) = true := by simpa using hlen
          have HX := Lib.hid (rowOk_size (k := k) hlen)
          have HL := Lib.hid hcell
          clear hcell hlen
          go_wp2
          go_ret
          exact ⟨by rw [HE.out, HX.out]; rfl, HB.out⟩
        case pos =>
          have hkr : k < r.length := by omega
          have hrl : r.length ≤ 1000 := by omega
          obtain ⟨B2, o2, rfl, hB2, d0⟩ := hcell k hkr
          have HL := Lib.hid hcell
          have HX := Lib.hid (rowOk_at (size := l.length) hkr)
          have h4 : (r.length == l.length) = true := by simpa using hlen
          have h5 : (r.length != l.length) = false := by simpa using hlen
          have h6 : ((r.length : Int) == (l.length : Int)) = true := by simp; omega
          have h7 : ((r.length : Int) != (l.length : Int)) = false := by simp; omega
          have HN := Lib.hid hlen
          clear hcell
          by_cases hz0 : r[k] = 0
          · have HR : Hid (rowOk l.length k r = r.all fun t => inB t 0 1000) := by
              show _ = _
              rw [HX.out, hz0, hlen]; simp
            rw [hz0] at d0
            clear hz0 hlen HX
            go_wp2
            go_loopw [33] (fun i wr' => ∃ j : Nat, j ≤ r.length ∧ i = .int .i64 j ∧ (r.all fun t => inB t 0 1000) = ((r.drop j).all fun t => inB t 0 1000) ∧ Below wr.heap.size wr wr') (fun i _ => r.length - (intOf i).toNat)
            case atStart => exact ⟨0, Nat.zero_le _, rfl, rfl, Below.refl _ _⟩
            case round =>
              obtain ⟨j, hj, rfl, he2, hb2⟩ := hrel
              by_cases hjl : j < r.length
              · obtain ⟨B3, o3, e3, hB3, d3⟩ := HL.out j hjl
                obtain ⟨rfl, rfl⟩ : B2 = B3 ∧ o2 = o3 := by simpa using e3
                clear e3
                rw [all_drop hjl] at he2
                rw [← hb2.cell hB3] at d3
                have HE2 := Lib.hid he2
                have HB2 := Lib.hid hb2
                clear he2 hb2 d0 c0
                generalize r[j] = x at *
                go_wp2
                all_goals first
                  | (have hx : inB x 0 1000 = true := by
                       (try simp only [Bool.not_eq_true', Bool.not_eq_false', decide_eq_true_eq, decide_eq_false_iff_not] at *)
                       simp only [inB, Bool.and_eq_true, decide_eq_true_eq]; omega
                     have HX := Lib.hid hx
                     clear hx
                     go_roundw
                     case rel => exact ⟨j + 1, by omega, by go_num, by rw [HE2.out, HX.out]; rfl, HB2.out⟩
                     case measure => simp [intOf]; omega)
                  | (have hx : inB x 0 1000 = false := bool_no (by (try simp only [Bool.not_eq_true', Bool.not_eq_false', decide_eq_true_eq, decide_eq_false_iff_not] at *); simp only [inB, Bool.and_eq_true, decide_eq_true_eq]; omega)
                     have HX := Lib.hid hx
                     clear hx
                     go_ret
                     exact ⟨by rw [HE.out, HR.out, HE2.out, HX.out]; rfl, HB.out.trans (HB2.out.mono HB.out.size)⟩)
              · have : r.drop j = [] := List.drop_eq_nil_of_le (by omega)
                rw [this] at he2
                have HE2 := Lib.hid he2
                have HB2 := Lib.hid hb2
                clear he2 hb2 this d0 c0
                go_wp2
                go_roundw
                case rel => exact ⟨k + 1, by omega, by go_num, by rw [HE.out, HR.out, HE2.out]; rfl, HB.out.trans (HB2.out.mono HB.out.size)⟩
                case measure => simp [intOf]; omega
          · have HR : Hid (rowOk l.length k r = false) := by
              show _ = _
              rw [HX.out]; simp [hz0]
            clear hlen HX
            have h2 : (r[k] == 0) = false := by simpa using hz0
            have h3 : (r[k] != 0) = true := by simpa using hz0
            generalize r[k] = x at *
            go_wp2
            go_ret
            exact ⟨by rw [HE.out, HR.out]; rfl, HB.out⟩
      · have : l.drop k = [] := List.drop_eq_nil_of_le (by omega)
        rw [this] at he
        have HE := Lib.hid he
        have HB := Lib.hid hb
        clear he hb this
        go_wp2
        go_ret
        exact ⟨by rw [HE.out]; rfl, HB.out⟩
end Go.Proofs.Ytpccoflebfblbaa
