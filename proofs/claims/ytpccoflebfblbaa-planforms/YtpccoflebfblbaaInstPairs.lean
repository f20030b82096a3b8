/- Contract of inst.rightPairs. -/
import Derived.Test.YtpccoflebfblbaaInstViews
namespace Go.Proofs.Ytpccoflebfblbaa
open Go.RowKit

/-- the array of what is paired, in block P -/
def Had (W : World) (P : Nat) (seen : List Int) : Prop := P < W.heap.size ∧ ∀ x : Nat, x ≤ 10 → W.cell? ⟨P, x, none⟩ = some (.bool (seen.contains (x : Int))) ∧ W.frozen? ⟨P, x, none⟩ = false
theorem Had.below {W W' : World} {P : Nat} {seen : List Int} (h : Had W P seen) (hb : Below W.heap.size W W') : Had W' P seen :=
  ⟨Nat.lt_of_lt_of_le h.1 hb.size, fun x hx => ⟨by rw [hb.cell h.1]; exact (h.2 x hx).1, by rw [hb.frozen h.1]; exact (h.2 x hx).2⟩⟩
theorem Had.set {W : World} {P : Nat} {seen : List Int} (h : Had W P seen) {y : Nat} (hy : y ≤ 10) : Had (W.setCell ⟨P, y, none⟩ (.bool true)) P ((y : Int) :: seen) := by
  refine ⟨by simpa using h.1, fun x hx => ⟨?_, by rw [World.frozen?_setCell]; exact (h.2 x hx).2⟩⟩
  by_cases e : x = y
  · subst e
    rw [World.cell?_setCell_same _ _ _ (h.2 x hx).1]; simp
  · rw [World.cell?_setCell_other _ _ _ _ (by intro hh; injection hh with _ h2 _; exact e h2.symm), (h.2 x hx).1]
    have : ¬ (x : Int) = (y : Int) := by omega
    simp [this]
theorem had_start (w : World) (t : TypeId) : Had (w.alloc (.cells #[.bool false, .bool false, .bool false, .bool false, .bool false, .bool false, .bool false, .bool false, .bool false, .bool false, .bool false] t)) w.heap.size [] := by
  refine ⟨by simp, fun x hx => ?_⟩
  match x, hx with
  | 0, _ | 1, _ | 2, _ | 3, _ | 4, _ | 5, _ | 6, _ | 7, _ | 8, _ | 9, _ | 10, _ => exact ⟨by rw [World.cell?_alloc_new]; rfl, by simp [go_sem]⟩

theorem idx_pair0 (a b : Int) (W : World) : (Instr.index 77 (.agg #[.int .i64 a, .int .i64 b]) (.int .i64 0)).run Try.prog W = .ok (.int .i64 a) W := by kernel_rfl
theorem idx_pair1 (a b : Int) (W : World) : (Instr.index 77 (.agg #[.int .i64 a, .int .i64 b]) (.int .i64 1)).run Try.prog W = .ok (.int .i64 b) W := by kernel_rfl
def elemOk (n : Nat) (seen : List Int) (x : Int) : Bool := inB x 1 n && !seen.contains x
def tops (a b : Int) (seen : List Int) : Nat → List Int | 0 => seen | 1 => a :: seen | _ => b :: a :: seen
def Mid (n : Nat) (seen : List Int) (a b : Int) (w : World) (P Q j : Nat) (W : World) : Prop :=
  Below w.heap.size w W ∧ Had W P (tops a b seen j) ∧ W.cell? ⟨Q, 0, none⟩ = some (.int .i64 a) ∧ W.cell? ⟨Q, 1, none⟩ = some (.int .i64 b) ∧ P < Q ∧ Q < W.heap.size ∧
    (1 ≤ j → elemOk n seen a = true) ∧ (2 ≤ j → elemOk n (a :: seen) b = true)
theorem pairOk_parts (st : List Stop) (seen : List Int) (a b : Int) : pairOk st seen ⟨a, b⟩ = (elemOk st.length seen a && elemOk st.length (a :: seen) b && (decide (0 ≤ demand st a) && decide (demand st b = - demand st a))) := rfl
theorem elemOk_nat {n : Nat} {seen : List Int} {x : Int} (h : elemOk n seen x = true) : ∃ k : Nat, k < n ∧ x = (k : Int) + 1 := by
  simp only [elemOk, Bool.and_eq_true, inB_iff] at h
  exact ⟨(x - 1).toNat, by omega, by omega⟩
theorem elemOk_cases (n : Nat) (seen : List Int) (x : Int) : (elemOk n seen x = false ∧ x < 1) ∨ (elemOk n seen x = false ∧ 1 ≤ x ∧ (n : Int) < x) ∨
    ∃ k : Nat, k < n ∧ x = (k : Int) + 1 ∧ elemOk n seen x = !seen.contains x := by
  by_cases h1 : x < 1
  · exact .inl ⟨by simp [elemOk, inB]; omega, h1⟩
  · by_cases h2 : (n : Int) < x
    · exact .inr (.inl ⟨by simp [elemOk, inB]; omega, by omega, h2⟩)
    · refine .inr (.inr ⟨(x - 1).toNat, by omega, by omega, ?_⟩)
      have : inB x 1 n = true := inB_iff.2 ⟨by omega, by omega⟩
      simp [elemOk, this]

set_option maxHeartbeats 4000000 in
theorem pairs_any (v vs : Value) (l : List Pair) (st : List Stop) (w : World) (hr : Recs w 2 Pair.at_ v l) (hs : Recs w 4 Stop.at_ vs st) (hst : stopsOk st = true) (hl : l.length ≤ 1099511627776) :
    Calls Try.prog 42 #[v, vs] w fun e w' => e = .returned (.bool (pairsFrom st [] l)) ∧ Below w.heap.size w w' := by
  obtain ⟨A, cap, rfl, hc⟩ := hr
  have HC := Lib.hid hc
  clear hc
  obtain ⟨A2, cap2, rfl, hc2⟩ := hs
  have HS := Lib.hid hc2
  have HO := Lib.hid hst
  have hn := stopsOk_len hst
  clear hc2 hst
  go_enter Try.func42, Try.ntmps42
  go_wp2
  go_loopw [13] (fun i wr => ∃ (k : Nat) (seen : List Int), k ≤ l.length ∧ i = .int .i64 k ∧ pairsFrom st [] l = pairsFrom st seen (l.drop k) ∧ Below w.heap.size w wr ∧ Had wr w.heap.size seen) (fun i _ => l.length - (intOf i).toNat)
  case atStart => exact ⟨0, [], Nat.zero_le _, rfl, rfl, (Below.refl _ _).alloc (Nat.le_refl _) _, had_start w _⟩
  case round =>
    obtain ⟨k, seen, hk, rfl, he, hb, hh⟩ := hrel
    by_cases hlt : k < l.length
    · obtain ⟨B, o, rfl, hB, hcell⟩ := HC.out k hlt
      rw [pairsFrom_drop hlt] at he
      have c0 : wr.cell? ⟨B, o + k * 2, none⟩ = some (.int .i64 l[k].a) := by rw [hb.cell hB]; exact hcell 0 (by omega)
      have c1 : wr.cell? ⟨B, o + k * 2 + 1, none⟩ = some (.int .i64 l[k].b) := by rw [hb.cell hB]; exact hcell 1 (by omega)
      have HE := Lib.hid he
      have HB := Lib.hid hb
      have HH := Lib.hid hh
      have hP : w.heap.size < wr.heap.size := hh.1
      clear he hb hcell hh
      generalize l[k] = p at *
      obtain ⟨a, b⟩ := p
      simp only at c0 c1
      go_wp2
      go_loopw [18] (fun i wr' => ∃ j : Nat, j ≤ 2 ∧ i = .int .i64 j ∧ Mid st.length seen a b w w.heap.size wr.heap.size j wr') (fun i _ => 2 - (intOf i).toNat)
      case atStart => exact ⟨0, by omega, rfl, HB.out.alloc HB.out.size _, HH.out.below ((Below.refl _ _).alloc (Nat.le_refl _) _), by rw [World.cell?_alloc_new]; rfl, by rw [World.cell?_alloc_new]; rfl, hP, by simp, fun h => absurd h (by omega), fun h => absurd h (by omega)⟩
      case round =>
        obtain ⟨j, hj, rfl, n1, n2, n3, n4, m5a, m5b, n6, n7⟩ := hrel
        have m1 := Lib.hid n1
        have m2 := Lib.hid n2
        have m3 := Lib.hid n3
        have m4 := Lib.hid n4
        have m6 := Lib.hid n6
        have m7 := Lib.hid n7
        clear n1 n2 n3 n4 n6 n7 c0 c1
        have i0 := idx_pair0 a b
        have i1 := idx_pair1 a b
        obtain rfl | rfl | rfl : j = 0 ∨ j = 1 ∨ j = 2 := by omega
        · rcases elemOk_cases st.length seen a with ⟨hx, h1⟩ | ⟨hx, h1, h2⟩ | ⟨q, hq, hxq, hx⟩
          · have HX := Lib.hid hx
            clear hx
            go_wp2
            go_ret
            exact ⟨by rw [HE.out, pairOk_parts, HX.out]; rfl, m1.out⟩
          · have HX := Lib.hid hx
            clear hx
            go_wp2
            go_ret
            exact ⟨by rw [HE.out, pairOk_parts, HX.out]; rfl, m1.out⟩
          · have hcell : wr.cell? ⟨w.heap.size, q + 1, none⟩ = some (.bool (seen.contains a)) := by
              have := (m2.out.2 (q + 1) (by omega)).1
              rw [hxq]; simpa [tops] using this
            have hfr : wr.frozen? ⟨w.heap.size, q + 1, none⟩ = false := (m2.out.2 (q + 1) (by omega)).2
            have hPz : w.heap.size < wr.heap.size := m2.out.1
            cases hcc : seen.contains a
            · rw [hcc] at hcell
              have HX : Hid (elemOk st.length seen a = true) := by show _ = _; rw [hx, hcc]; rfl
              have HQ := Lib.hid hxq
              clear hx hcc
              have hq1 : ((a : Int)).toNat = q + 1 := by omega
              have hq2 : 1 ≤ a := by omega
              have hq3 : a ≤ st.length := by omega
              have hq4 : a < 11 := by omega
              have hq5 : 0 ≤ a := by omega
              clear hxq
              go_wp2
              go_roundw
              case rel => exact ⟨0+1, by omega, by go_num, m1.out.setCell (Nat.le_refl _) _, by rw [HQ.out]; simpa [tops, HQ.out] using m2.out.set (y := q + 1) (by omega), by rw [World.cell?_setCell_other _ _ _ _ (by intro hh; injection hh with h1 _ _; omega)]; exact m3.out, by rw [World.cell?_setCell_other _ _ _ _ (by intro hh; injection hh with h1 _ _; omega)]; exact m4.out, m5a, by simpa using m5b, fun _ => HX.out, fun h => absurd h (by omega)⟩
              case measure => simp [intOf]
            · rw [hcc] at hcell
              have HX : Hid (elemOk st.length seen a = false) := by show _ = _; rw [hx, hcc]; rfl
              have HQ := Lib.hid hxq
              clear hx hcc
              have hq1 : ((a : Int)).toNat = q + 1 := by omega
              have hq2 : 1 ≤ a := by omega
              have hq3 : a ≤ st.length := by omega
              have hq4 : a < 11 := by omega
              have hq5 : 0 ≤ a := by omega
              clear hxq
              go_wp2
              go_ret
              exact ⟨by rw [HE.out, pairOk_parts, HX.out]; rfl, m1.out⟩
        · rcases elemOk_cases st.length (a :: seen) b with ⟨hx, h1⟩ | ⟨hx, h1, h2⟩ | ⟨q, hq, hxq, hx⟩
          · have HX := Lib.hid hx
            clear hx
            go_wp2
            go_ret
            exact ⟨by rw [HE.out, pairOk_parts, m6.out (by omega), HX.out]; rfl, m1.out⟩
          · have HX := Lib.hid hx
            clear hx
            go_wp2
            go_ret
            exact ⟨by rw [HE.out, pairOk_parts, m6.out (by omega), HX.out]; rfl, m1.out⟩
          · have hcell : wr.cell? ⟨w.heap.size, q + 1, none⟩ = some (.bool ((a :: seen).contains b)) := by
              have := (m2.out.2 (q + 1) (by omega)).1
              rw [hxq]; simpa [tops] using this
            have hfr : wr.frozen? ⟨w.heap.size, q + 1, none⟩ = false := (m2.out.2 (q + 1) (by omega)).2
            have hPz : w.heap.size < wr.heap.size := m2.out.1
            cases hcc : (a :: seen).contains b
            · rw [hcc] at hcell
              have HX : Hid (elemOk st.length (a :: seen) b = true) := by show _ = _; rw [hx, hcc]; rfl
              have HQ := Lib.hid hxq
              clear hx hcc
              have hq1 : ((b : Int)).toNat = q + 1 := by omega
              have hq2 : 1 ≤ b := by omega
              have hq3 : b ≤ st.length := by omega
              have hq4 : b < 11 := by omega
              have hq5 : 0 ≤ b := by omega
              clear hxq
              go_wp2
              go_roundw
              case rel => exact ⟨1+1, by omega, by go_num, m1.out.setCell (Nat.le_refl _) _, by rw [HQ.out]; simpa [tops, HQ.out] using m2.out.set (y := q + 1) (by omega), by rw [World.cell?_setCell_other _ _ _ _ (by intro hh; injection hh with h1 _ _; omega)]; exact m3.out, by rw [World.cell?_setCell_other _ _ _ _ (by intro hh; injection hh with h1 _ _; omega)]; exact m4.out, m5a, by simpa using m5b, fun _ => m6.out (by omega), fun _ => HX.out⟩
              case measure => simp [intOf]
            · rw [hcc] at hcell
              have HX : Hid (elemOk st.length (a :: seen) b = false) := by show _ = _; rw [hx, hcc]; rfl
              have HQ := Lib.hid hxq
              clear hx hcc
              have hq1 : ((b : Int)).toNat = q + 1 := by omega
              have hq2 : 1 ≤ b := by omega
              have hq3 : b ≤ st.length := by omega
              have hq4 : b < 11 := by omega
              have hq5 : 0 ≤ b := by omega
              clear hxq
              go_wp2
              go_ret
              exact ⟨by rw [HE.out, pairOk_parts, m6.out (by omega), HX.out]; rfl, m1.out⟩
        · have ea := m6.out (by omega)
          have eb := m7.out (by omega)
          obtain ⟨qa, hqa, rfl⟩ := elemOk_nat ea
          obtain ⟨qb, hqb, rfl⟩ := elemOk_nat eb
          have da := demand_nat st hqa
          have db := demand_nat st hqb
          have ba := stopOk_d (stopsOk_at HO.out hqa)
          have bb := stopOk_d (stopsOk_at HO.out hqb)
          have HP := Lib.hid (pairOk_parts st seen ((qa : Int) + 1) ((qb : Int) + 1))
          rw [ea, eb, da, db] at HP
          obtain ⟨B2, o2, rfl, hB2, s1⟩ := HS.out qa hqa
          obtain ⟨B3, o3, e3, hB3, s2⟩ := HS.out qb hqb
          obtain ⟨rfl, rfl⟩ : B2 = B3 ∧ o2 = o3 := by simpa using e3
          have t1 : wr.cell? ⟨B2, o2 + qa * 4, none⟩ = some (.int .i64 st[qa].d) := by rw [m1.out.cell hB2]; exact s1 0 (by omega)
          have t2 : wr.cell? ⟨B2, o2 + qb * 4, none⟩ = some (.int .i64 st[qb].d) := by rw [m1.out.cell hB2]; exact s2 0 (by omega)
          have u1 := m3.out
          have u2 := m4.out
          clear ea eb da db s1 s2 e3 i0 i1
          generalize st[qa].d = x at *
          generalize st[qb].d = y at *
          by_cases hx0 : x < 0
          · have HX : Hid (pairOk st seen ⟨(qa : Int) + 1, (qb : Int) + 1⟩ = false) := by
              show _ = _
              rw [HP.out]; simp; omega
            clear HP
            go_wp2
            go_ret
            exact ⟨by rw [HE.out, HX.out]; rfl, m1.out⟩
          · by_cases hxy : y = -x
            · have HX : Hid (pairOk st seen ⟨(qa : Int) + 1, (qb : Int) + 1⟩ = true) := by
                show _ = _
                rw [HP.out]; simp; omega
              subst hxy
              clear HP
              go_wp2
              go_roundw
              case rel => exact ⟨k + 1, _, by omega, by go_num, by rw [HE.out, HX.out]; rfl, m1.out, m2.out⟩
              case measure => simp [intOf]; omega
            · have HX : Hid (pairOk st seen ⟨(qa : Int) + 1, (qb : Int) + 1⟩ = false) := by
                show _ = _
                rw [HP.out]; simp; omega
              have n1 : (y == -x) = false := by simpa using hxy
              have n2 : (y != -x) = true := by simpa using hxy
              clear HP
              go_wp2
              go_ret
              exact ⟨by rw [HE.out, HX.out]; rfl, m1.out⟩
    · have : l.drop k = [] := List.drop_eq_nil_of_le (by omega)
      rw [this] at he
      have HE := Lib.hid he
      have HB := Lib.hid hb
      clear he hb this hh
      go_wp2
      go_ret
      exact ⟨by rw [HE.out]; rfl, HB.out⟩
end Go.Proofs.Ytpccoflebfblbaa
