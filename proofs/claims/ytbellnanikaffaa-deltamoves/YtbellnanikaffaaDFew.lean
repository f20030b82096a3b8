/- few of DeltaMoves: unlike numbers from a number on (laid by gen_dfew.py). -/
import Derived.Test.YtbellnanikaffaaDLaw
import Derived.Deep.CutBlock
import Derived.ChangeMaps5
import Derived.RowKit3
import Derived.Maps.OwnSet
import Derived.Maps.RangeWalk
namespace Go.Proofs.Ytbellnanikaffaa
open Go.RowKit Go.Maps
set_option linter.unusedSimpArgs false

def Sees (D : DataW Unit) (seen : List Int) : Prop := ∀ x : Int, D.atKey (.int .i64 x) (.lit (.bool false)) = .lit (.bool (seen.contains x))
theorem Sees.start : Sees (.map []) [] := fun _ => rfl
theorem Sees.put {D : DataW Unit} {seen : List Int} (h : Sees D seen) (hD : IsMap D) (y : Int) (hw : (Lit.int .i64 y).wf = true) : Sees (D.put (.int .i64 y) (.lit (.bool true))) (y :: seen) := by
  intro x
  by_cases e : x = y
  · subst e
    rw [atKey_put_same hD (by simp [WideAt.IsKeyLit])]
    simp
  · rw [atKey_put_other (fun h => e (Lit.int.inj h).2), h x]
    simp [e]
theorem key_int : Keyed Try.prog 3 := int_keyed Try.underlying3
theorem zero_bool (w : World) : (zeroValue 4).run Try.prog w = .ok (.bool false) w := by kernel_rfl
theorem look_seen {D : DataW Unit} {seen : List Int} {wr : World} {B n : Nat} (hown : wr.ownsMap Try.prog 3 (plainElem Try.prog 4) B n D) (h : Sees D seen) {x : Int} (hw : (Lit.int .i64 x).wf = true) :
    (Instr.lookup 56 (.map (some B)) (.int .i64 x) false).run Try.prog wr = .ok (.bool (seen.contains x)) wr := by
  obtain ⟨v, ps, hrun, hv⟩ := hown.lookup key_int Try.underlying56 (zero_bool wr) (plainElem_bool Try.underlying4 false) (keyOf_int_mk Try.underlying3 hw)
  rw [h x] at hv
  have : v = .bool (seen.contains x) := by
    unfold plainElem at hv
    rw [Try.underlying4] at hv
    cases v <;> simp at hv
    rw [hv.1]; simp
  rw [hrun, this]
set_option maxRecDepth 100000 in
set_option maxHeartbeats 2000000 in
theorem few_any (A : Option Addr) (cap : Nat) (l : List Int) (fr : Nat) (w : World) (h : Recs w 1 num_ (.slice A l.length cap) l) (hf : fr ≤ 100) :
    Calls Try.prog 17 #[.slice A l.length cap, .int .i64 (fr : Int)] w fun e w' => ∃ r v, e = .returned v ∧ w'.ownsRow w.heap.size 3 1 v r.length (ints r) ∧ r.length ≤ 6 ∧ (∀ x ∈ r, (fr : Int) ≤ x ∧ x < (fr : Int) + 20) ∧ r.Nodup ∧ Below w.heap.size w w' := by
  obtain ⟨i0, hi0, hz0, hz1, hz2⟩ := info_parts int_info
  have hmm := @run_makeMap Try.prog
  have HR := Lib.hid h
  have HB0 := Lib.hid ((Below.refl w.heap.size w).alloc (Nat.le_refl _) (.map #[] 0))
  have HM0 := Lib.hid (World.ownsMap_made (H := Unit) w Try.prog 3 (plainElem Try.prog 4))
  clear h
  go_enter Try.func17, Try.ntmps17
  go_upto_region 3 with (fail)
  have HS0 : w.heap.size + 1 ≤ (w.alloc (.map #[] 0)).heap.size := by simp
  generalize hB : w.heap.size = B at *
  generalize w.alloc (.map #[] 0) = w1 at *
  go_wp2_with (fail)
  go_loopw [5, 7] (fun ov kv wr => ∃ (k m : Nat) (r : List Int) (D : DataW Unit), k ≤ l.length ∧ k ≤ 6 ∧ m ≤ k ∧ r.length ≤ k ∧ kv = .int .i64 k ∧ Hid (wr.ownsRow (B + 1) 3 1 ov r.length (ints r)) ∧ Hid (wr.ownsMap Try.prog 3 (plainElem Try.prog 4) B m D) ∧ Hid (Sees D r) ∧ Hid ((∀ x ∈ r, (fr : Int) ≤ x ∧ x < (fr : Int) + 20) ∧ r.Nodup) ∧ Hid (Below B w wr) ∧ B + 1 ≤ wr.heap.size) (fun _ kv _ => l.length - (intOf kv).toNat)
  case atStart => exact ⟨0, 0, [], _, Nat.zero_le _, by omega, Nat.le_refl _, by simp, rfl, Lib.hid (World.ownsRow_nil _ _ _ _), HM0, Lib.hid Sees.start, Lib.hid ⟨fun x hx => (by cases hx), List.nodup_nil⟩, HB0, HS0⟩
  case round =>
    obtain ⟨k, m, r, D, hk, hk6, hmk, hrk, rfl, HO, HMp, HS, HP, HB, hsz⟩ := hrel
    by_cases hlt : k < l.length
    · by_cases h6 : k < 6
      · obtain ⟨g, q, rfl, hg, d0⟩ := recs_num HR.out hlt
        rw [hB] at hg
        have c0 : wr.cell? ⟨g, q + k, none⟩ = some (.int .i64 l[k]) := by rw [HB.out.cell hg]; exact d0
        clear d0
        generalize l[k] = x0 at *
        have hwb := withinI_bounds (v := x0) (n := 20) (by omega)
        have KW := Lib.hid (within_any x0 20 wr (by omega) (by omega))
        generalize withinI x0 20 = x1 at *
        have hw64 : wrap64 ((fr : Int) + x1) = (fr : Int) + x1 := by unfold wrap64; omega
        have hyb : (fr : Int) ≤ ((fr : Int) + x1) ∧ ((fr : Int) + x1) < (fr : Int) + 20 := by omega
        have hwf : (Lit.int .i64 ((fr : Int) + x1)).wf = true := WalkArith.wf_i64 (by omega)
        have LK := Lib.hid (look_seen HMp.out HS.out hwf)
        have lk := LK.out
        by_cases hin : ((fr : Int) + x1) ∈ r
        · have hc : r.contains ((fr : Int) + x1) = true := by simpa using hin
          rw [hc] at lk
          go_wp2_with (go_at_call 7; refine KW.out.mono ?_; rintro e w2 ⟨rfl, rfl⟩)
          go_roundw
          case rel => exact ⟨k + 1, m, r, D, by omega, by omega, by omega, by omega, by go_num, HO, HMp, HS, HP, HB, hsz⟩
          case measure => simp [intOf]; omega
        · have hc : r.contains ((fr : Int) + x1) = false := by simpa using hin
          rw [hc] at lk
          have HP2 : Hid ((∀ x ∈ r ++ [((fr : Int) + x1)], (fr : Int) ≤ x ∧ x < (fr : Int) + 20) ∧ (r ++ [((fr : Int) + x1)]).Nodup) := Lib.hid ⟨fun x hx => by
            rcases List.mem_append.1 hx with hx | hx
            · exact HP.out.1 x hx
            · obtain rfl := List.mem_singleton.1 hx
              exact hyb, by
            rw [List.nodup_append]
            refine ⟨HP.out.2, by simp, fun a ha b hb e => ?_⟩
            obtain rfl := List.mem_singleton.1 hb
            exact hin (e ▸ ha)⟩
          have OW : Hid ((wr.alloc (.cells #[.int .i64 ((fr : Int) + x1)] 3)).ownsRow (B + 1) 3 1 _ _ _) := Lib.hid (World.ownsRow.alloc HO.out _)
          have OM : Hid ((wr.alloc (.cells #[.int .i64 ((fr : Int) + x1)] 3)).ownsMap Try.prog 3 (plainElem Try.prog 4) B m D) := Lib.hid (HMp.out.kept (World.grownBy_alloc wr _ none) (by simp))
          have RN : Hid (Reads (wr.alloc (.cells #[.int .i64 ((fr : Int) + x1)] 3)) (wr.heap.size + 1) 1 (some ⟨wr.heap.size, 0, none⟩) 1 (ints [((fr : Int) + x1)])) := Lib.hid (reads_new wr (ints [((fr : Int) + x1)]) 3)
          have HB3 : Hid (Below B w (wr.alloc (.cells #[.int .i64 ((fr : Int) + x1)] 3))) := Lib.hid (HB.out.alloc (by omega) _)
          go_wp2_with (first
            | (go_at_call 7; refine KW.out.mono ?_; rintro e w2 ⟨rfl, rfl⟩)
            | (at_builtin; refine wpList_append_any _ rfl _ _ 22 rfl (B + 1) 3 i0 _ 1 8 Try.underlying22 hi0 hz0 hz1 hz2 rfl (by decide) _ r.length (ints r) rfl OW.out (wr.heap.size + 1) (some ⟨wr.heap.size, 0, none⟩) 1 1 (ints [((fr : Int) + x1)]) rfl RN.out ?c1 ?c2 ?c3 ?c4 ?_))
          case c1 => exact ints_one _
          case c2 => unfold maxLen; omega
          case c3 => omega
          case c4 => simp; omega
          intro v' w4 hown hgrow hob
          have hrow : ∀ q, (some q : Option Nat) = _ → B + 1 ≤ q := fun q hq => (OW.out.lt q hq.symm).1
          have HO4 := Lib.hid (outI_put hown)
          have HB4 : Hid (Below B w w4) := Lib.hid (HB3.out.grown hgrow (by have := HB3.out.size; simp; omega) (fun q hq => by have := (OW.out.lt q hq).1; omega))
          have HM4 : Hid (w4.ownsMap Try.prog 3 (plainElem Try.prog 4) B m D) := Lib.hid (OM.out.kept hgrow (fun e => by have := (OW.out.lt B e.symm).1; omega))
          have hsz4 : B + 1 ≤ w4.heap.size := Nat.le_trans (by simp; omega) hgrow.size
          obtain ⟨A5, C5, rfl, _⟩ := own_slice_n hown
          clear hown hgrow hob hrow OW OM RN HB3
          have hkey := keyOf_int_mk Try.underlying3 hwf
          go_wp2_with (at_mapUpdate; refine wpList_mapUpdate_own _ rfl _ _ _ 56 rfl 3 4 key_int Try.underlying56 _ B m D rfl HM4.out (by unfold maxLen; omega) _ _ _ rfl rfl hkey _ [] (plainElem_bool Try.underlying4 true) ?_; intro w5 hown5 hgr5; go_frame)
          have HM5 := Lib.hid hown5
          have HS5 : Hid (Sees (D.put (.int .i64 ((fr : Int) + x1)) (.lit (.bool true))) (r ++ [((fr : Int) + x1)])) := Lib.hid (fun x => by
            have := HS.out.put HM4.out.isMap ((fr : Int) + x1) hwf x
            rw [this]
            simp [Bool.or_comm])
          have HO5 := Lib.hid (HO4.out.kept hgr5 (.inr fun e => by have := (HO4.out.lt _ e).1; omega))
          have HB5 : Hid (Below B w w5) := Lib.hid (HB4.out.grown hgr5 (by omega) (fun q hq => by injection hq with hq; omega))
          have hsz5 : B + 1 ≤ w5.heap.size := Nat.le_trans hsz4 hgr5.size
          clear hown5 hgr5
          go_roundw
          case rel => exact ⟨k + 1, m + 1, r ++ [((fr : Int) + x1)], _, by omega, by omega, by omega, by simp; omega, by go_num, HO5, HM5, HS5, HP2, HB5, hsz5⟩
          case measure => simp [intOf]; omega
      · have t1 : decide ((k : Int) < 6) = false := by simp; omega
        go_wp2
        go_ret
        exact ⟨r, _, rfl, own_lower HO.out (by omega), by omega, HP.out.1, HP.out.2, by rw [hB]; exact HB.out⟩
    · go_wp2
      go_ret
      exact ⟨r, _, rfl, own_lower HO.out (by omega), by omega, HP.out.1, HP.out.2, by rw [hB]; exact HB.out⟩
end Go.Proofs.Ytbellnanikaffaa
