/- Check of an edit: is a car, a stop named twice? (laid by gen_dtwice.py) -/
import Derived.Test.YtpccoflebfblbaaDEdit
import Derived.Test.YtpccoflebfblbaaDStrict
namespace Go.Proofs.Ytpccoflebfblbaa
open Go.RowKit
set_option linter.unusedSimpArgs false

theorem made_ints (n : Nat) : (madeCells #[.int .i64 0] (n * 1)).toList = ints (List.replicate n 0) := by
  apply List.ext_getElem
  · simp [madeCells, ints]
  · intro j h1 h2
    have hj : j < n := by simpa [ints] using h2
    simp [madeCells, ints, Nat.mod_one]
theorem made_own (w : World) (n : Nat) (hn : n ≤ 1000000) : (w.alloc (.cells (madeCells #[.int .i64 0] (n * 1)) 3)).ownsRow w.heap.size 3 1 (.slice (some ⟨w.heap.size, 0, none⟩) n n) n (ints (List.replicate n 0)) := by
  have hs : (madeCells #[.int .i64 0] (n * 1)).size = n * 1 := by
    rw [← Array.length_toList, made_ints]; simp [ints]
  refine ⟨by simp [ints], .inr ⟨w.heap.size, n, _, rfl, Nat.le_refl _, heap_new w _, Nat.le_refl _, by unfold maxLen; omega, hs, ?_⟩⟩
  rw [← made_ints, List.take_of_length_le (by rw [Array.length_toList, hs]; exact Nat.le_refl _)]
theorem make_ints (n : Nat) (hn : n ≤ 1000000) (W : World) :
    (Instr.makeSlice 28 (.int .i64 (n : Int)) (.int .i64 (n : Int))).run Try.prog W = .ok (.slice (some ⟨W.heap.size, 0, none⟩) n n) (W.alloc (.cells (madeCells #[.int .i64 0] (n * 1)) 3)) := by
  obtain ⟨i0, hi, hz0, hz1, hz2⟩ := info_parts int_info
  have := run_make (P := Try.prog) W 28 3 i0 _ Try.underlying28 hi hz0 .i64 .i64 (n : Int) (n : Int) (by omega) (by omega) (by rw [hz2, ← Int.natCast_mul]; omega) (by omega)
  rw [this, hz1]
  simp only [Int.toNat_natCast]
  rfl
theorem set_key {l : List Int} {k n : Nat} (hl : l.length = n) (hk : k < n) : (ints (l.take k ++ List.replicate (n - k) 0)).set k (.int .i64 (l[k]'(by omega))) = ints (l.take (k + 1) ++ List.replicate (n - (k + 1)) 0) := by
  have e : n - k = (n - (k + 1)) + 1 := by omega
  have hlt : (l.take k).length = k := by rw [List.length_take]; omega
  rw [e, List.replicate_succ, take_snoc (by omega)]
  unfold ints
  rw [List.map_append, List.map_append, List.map_append, List.map_cons, List.set_append_right _ _ (by rw [List.length_map, hlt]; exact Nat.le_refl _), List.length_map, hlt, Nat.sub_self]
  simp
set_option maxHeartbeats 1000000 in
theorem carOf_any (c : Int) (A1 : Option Addr) (n1 p1 : Nat) (A2 : Option Addr) (n2 p2 : Nat) (W : World) : Calls Try.prog 46 #[.agg #[.int .i64 c, .slice A1 n1 p1, .slice A2 n2 p2]] W fun e w' => e = .returned (.int .i64 c) ∧ w' = W.alloc (.cells #[.int .i64 c, .slice A1 n1 p1, .slice A2 n2 p2] 40) := by
  go_enter Try.func46, Try.ntmps46
  go_wp2
  go_ret
  exact ⟨rfl, rfl⟩
set_option maxRecDepth 100000 in
set_option maxHeartbeats 4000000 in
theorem twiceTurn_any (A : Option Addr) (cap : Nat) (l : List Turn) (w : World) (h : Turns w (.slice A l.length cap) l) (hl : l.length ≤ 100000) :
    Calls Try.prog 45 #[.slice A l.length cap, .func (.func 46) #[] #[]] w fun e w' => e = .returned (.bool (twiceI (l.map Turn.c))) ∧ Below w.heap.size w w' := by
  have HR := Lib.hid h
  have HMK := Lib.hid (make_ints l.length (by omega))
  have hmk := HMK.out w
  have OM := Lib.hid (made_own w l.length (by omega))
  have HB0 := Lib.hid ((Below.refl w.heap.size w).alloc (Nat.le_refl _) (.cells (madeCells #[.int .i64 0] (l.length * 1)) 3))
  clear h
  go_enter Try.func45, Try.ntmps45
  go_upto_region 2 with (fail)
  rw [Nat.mul_one] at OM HB0 hmk
  generalize w.alloc (.cells (madeCells #[.int .i64 0] l.length) 3) = w1 at *
  have hgw : w.heap.size ≤ w.heap.size := Nat.le_refl _
  clear hmk
  generalize hg : w.heap.size = g at OM ⊢
  have hge : w.heap.size ≤ g := by omega
  go_wp2_with (fail)
  go_loopw [13] (fun kv wr => ∃ k : Nat, k ≤ l.length ∧ kv = .int .i64 k ∧ Hid (wr.ownsRow w.heap.size 3 1 (.slice (some ⟨g, 0, none⟩) l.length l.length) l.length (ints ((l.map Turn.c).take k ++ List.replicate (l.length - k) 0))) ∧ Hid (Below w.heap.size w wr)) (fun kv _ => l.length - (intOf kv).toNat)
  case atStart => exact ⟨0, Nat.zero_le _, rfl, by rw [hg]; simpa using OM, by rw [hg]; rw [hg] at HB0; exact HB0⟩
  case round =>
    obtain ⟨k, hk, rfl, HO, HB⟩ := hrel
    by_cases hlt : k < l.length
    · obtain ⟨B, o, rfl, hB, d0, d1, d2⟩ := HR.out.1.turn hlt
      have c0 : wr.cell? ⟨B, o + k * 3, none⟩ = some (.int .i64 l[k].c) := by rw [HB.out.cell hB]; exact d0
      have c1 : wr.cell? ⟨B, o + k * 3 + 1, none⟩ = some l[k].x := by rw [HB.out.cell hB]; exact d1
      have c2 : wr.cell? ⟨B, o + k * 3 + 2, none⟩ = some l[k].y := by rw [HB.out.cell hB]; exact d2
      clear d0 d1 d2
      have HSet := Lib.hid (set_key (l := l.map Turn.c) (k := k) (n := l.length) (by simp) hlt)
      have hkey : (l.map Turn.c)[k]'(by simpa using hlt) = l[k].c := by simp
      rw [hkey] at HSet
      have HX := Lib.hid (HR.out.2 _ (List.getElem_mem hlt))
      generalize l[k] = x at *
      obtain ⟨xc, xx, xy, xb, xa⟩ := x
      obtain ⟨⟨A1, p1, e1, R1⟩, A2, p2, e2, R2⟩ := HX.out
      dsimp only at e1 e2 c0 c1 c2
      subst e1 e2
      clear R1 R2 HX
      have HB1 := Lib.hid (HB.out.alloc HB.out.size (.cells #[.int .i64 xc, .slice A1 xb.length p1, .slice A2 xa.length p2] 40))
      have HO1 := Lib.hid (World.ownsRow.alloc HO.out (.cells #[.int .i64 xc, .slice A1 xb.length p1, .slice A2 xa.length p2] 40))
      have HB2 := Lib.hid (HB1.out.alloc HB1.out.size (.cells #[.int .i64 xc, .slice A1 xb.length p1, .slice A2 xa.length p2] 40))
      have HO2 := Lib.hid (World.ownsRow.alloc HO1.out (.cells #[.int .i64 xc, .slice A1 xb.length p1, .slice A2 xa.length p2] 40))
      have n0 : (0 : Int) ≤ (k : Int) := by omega
      have n1 : (k : Int) < (l.length : Int) := by omega
      have n2 : (k : Int).toNat = k := by omega
      obtain ⟨u1, q1, q2⟩ := own_cell HO2.out (j := k) (by omega)
      have HO3 := Lib.hid (own_store HO2.out k (.int .i64 xc))
      have HB3 : Hid (Below w.heap.size w (((wr.alloc (.cells #[.int .i64 xc, .slice A1 xb.length p1, .slice A2 xa.length p2] 40)).alloc (.cells #[.int .i64 xc, .slice A1 xb.length p1, .slice A2 xa.length p2] 40)).setCell ⟨g, k, none⟩ (.int .i64 xc))) := Lib.hid (HB2.out.setCell hge _)
      rw [HSet.out] at HO3
      go_wp2_with (go_at_call 46; refine (carOf_any _ _ _ _ _ _ _ _).mono ?_; rintro e w5 ⟨rfl, rfl⟩)
      go_roundw
      case rel => exact ⟨k + 1, by omega, by go_num, HO3, HB3⟩
      case measure => simp [intOf]; omega
    · have hk' : k = l.length := by omega
      have HOk : Hid (wr.ownsRow w.heap.size 3 1 (.slice (some ⟨g, 0, none⟩) l.length l.length) (l.map Turn.c).length (ints (l.map Turn.c))) := Lib.hid (by
        have := HO.out
        rw [hk', Nat.sub_self, List.replicate_zero, List.append_nil, List.take_of_length_le (by simp)] at this
        rw [List.length_map]
        exact this)
      have KS := Lib.hid (sort_own w.heap.size _ (l.map Turn.c) wr HOk.out (by simp; omega))
      have HTw : Hid (decide ((Lib.compact (sortI (l.map Turn.c))).length < l.length) = twiceI (l.map Turn.c)) := Lib.hid (by unfold twiceI; rw [List.length_map])
      have KC := Lib.hid (fun W (h : World.ownsRow W w.heap.size 3 1 (.slice (some ⟨g, 0, none⟩) l.length l.length) (l.map Turn.c).length (ints (sortI (l.map Turn.c)))) => compact_own w.heap.size (.slice (some ⟨g, 0, none⟩) l.length l.length) (sortI (l.map Turn.c)) W (by rw [sortI_length]; exact h) (by rw [sortI_length]; simp; omega))
      generalize hks : (l.map Turn.c) = ks at *
      go_upto_region 8 with (go_at_call 52; refine KS.out.mono ?_; rintro e w5 ⟨rfl, ho, hgr⟩)
      have HB5 := Lib.hid (HB.out.grown hgr HB.out.size (fun g' hg' => by simp [Value.ownBlock] at hg'; omega))
      have KC5 := Lib.hid (KC.out w5 ho)
      clear ho hgr
      go_wp2_with (go_at_call 53; refine KC5.out.mono ?_; rintro e w6 ⟨v6, rfl, ho, hgr, hle⟩; obtain ⟨A6, C6, rfl, _⟩ := own_slice_n ho; have HB6 := Lib.hid (HB5.out.grown hgr HB5.out.size (fun g' hg' => by simp [Value.ownBlock] at hg'; omega)); clear ho hgr)
      go_ret
      exact ⟨congrArg (fun b => Ending.returned (Value.bool b)) (HTw.out.trans (by rw [hks])), HB6.out⟩
set_option maxHeartbeats 1000000 in
theorem numberOf_any (x : Hold) (W : World) : Calls Try.prog 48 #[.agg #[.int .i64 x.n, .int .i64 x.b, .int .i64 x.a]] W fun e w' => e = .returned (.int .i64 x.n) ∧ w' = W.alloc (.cells #[.int .i64 x.n, .int .i64 x.b, .int .i64 x.a] 43) := by
  go_enter Try.func48, Try.ntmps48
  go_wp2
  go_ret
  exact ⟨rfl, rfl⟩
set_option maxRecDepth 100000 in
set_option maxHeartbeats 4000000 in
theorem twiceHold_any (A : Option Addr) (cap : Nat) (l : List Hold) (w : World) (h : Rows w 3 Hold.cells (.slice A l.length cap) l) (hl : l.length ≤ 100000) :
    Calls Try.prog 47 #[.slice A l.length cap, .func (.func 48) #[] #[]] w fun e w' => e = .returned (.bool (twiceI (l.map Hold.n))) ∧ Below w.heap.size w w' := by
  have HR := Lib.hid h
  have HMK := Lib.hid (make_ints l.length (by omega))
  have hmk := HMK.out w
  have OM := Lib.hid (made_own w l.length (by omega))
  have HB0 := Lib.hid ((Below.refl w.heap.size w).alloc (Nat.le_refl _) (.cells (madeCells #[.int .i64 0] (l.length * 1)) 3))
  clear h
  go_enter Try.func47, Try.ntmps47
  go_upto_region 2 with (fail)
  rw [Nat.mul_one] at OM HB0 hmk
  generalize w.alloc (.cells (madeCells #[.int .i64 0] l.length) 3) = w1 at *
  have hgw : w.heap.size ≤ w.heap.size := Nat.le_refl _
  clear hmk
  generalize hg : w.heap.size = g at OM ⊢
  have hge : w.heap.size ≤ g := by omega
  go_wp2_with (fail)
  go_loopw [13] (fun kv wr => ∃ k : Nat, k ≤ l.length ∧ kv = .int .i64 k ∧ Hid (wr.ownsRow w.heap.size 3 1 (.slice (some ⟨g, 0, none⟩) l.length l.length) l.length (ints ((l.map Hold.n).take k ++ List.replicate (l.length - k) 0))) ∧ Hid (Below w.heap.size w wr)) (fun kv _ => l.length - (intOf kv).toNat)
  case atStart => exact ⟨0, Nat.zero_le _, rfl, by rw [hg]; simpa using OM, by rw [hg]; rw [hg] at HB0; exact HB0⟩
  case round =>
    obtain ⟨k, hk, rfl, HO, HB⟩ := hrel
    by_cases hlt : k < l.length
    · obtain ⟨B, o, rfl, hB, d0, d1, d2⟩ := HR.out.hold hlt
      have c0 : wr.cell? ⟨B, o + k * 3, none⟩ = some (.int .i64 l[k].n) := by rw [HB.out.cell hB]; exact d0
      have c1 : wr.cell? ⟨B, o + k * 3 + 1, none⟩ = some (.int .i64 l[k].b) := by rw [HB.out.cell hB]; exact d1
      have c2 : wr.cell? ⟨B, o + k * 3 + 2, none⟩ = some (.int .i64 l[k].a) := by rw [HB.out.cell hB]; exact d2
      clear d0 d1 d2
      have HSet := Lib.hid (set_key (l := l.map Hold.n) (k := k) (n := l.length) (by simp) hlt)
      have hkey : (l.map Hold.n)[k]'(by simpa using hlt) = l[k].n := by simp
      rw [hkey] at HSet
      generalize l[k] = x at *
      have HB1 := Lib.hid (HB.out.alloc HB.out.size (.cells #[.int .i64 x.n, .int .i64 x.b, .int .i64 x.a] 43))
      have HO1 := Lib.hid (World.ownsRow.alloc HO.out (.cells #[.int .i64 x.n, .int .i64 x.b, .int .i64 x.a] 43))
      have HB2 := Lib.hid (HB1.out.alloc HB1.out.size (.cells #[.int .i64 x.n, .int .i64 x.b, .int .i64 x.a] 43))
      have HO2 := Lib.hid (World.ownsRow.alloc HO1.out (.cells #[.int .i64 x.n, .int .i64 x.b, .int .i64 x.a] 43))
      have n0 : (0 : Int) ≤ (k : Int) := by omega
      have n1 : (k : Int) < (l.length : Int) := by omega
      have n2 : (k : Int).toNat = k := by omega
      obtain ⟨u1, q1, q2⟩ := own_cell HO2.out (j := k) (by omega)
      have HO3 := Lib.hid (own_store HO2.out k (.int .i64 x.n))
      have HB3 : Hid (Below w.heap.size w (((wr.alloc (.cells #[.int .i64 x.n, .int .i64 x.b, .int .i64 x.a] 43)).alloc (.cells #[.int .i64 x.n, .int .i64 x.b, .int .i64 x.a] 43)).setCell ⟨g, k, none⟩ (.int .i64 x.n))) := Lib.hid (HB2.out.setCell hge _)
      rw [HSet.out] at HO3
      go_wp2_with (go_at_call 48; refine (numberOf_any _ _).mono ?_; rintro e w5 ⟨rfl, rfl⟩)
      go_roundw
      case rel => exact ⟨k + 1, by omega, by go_num, HO3, HB3⟩
      case measure => simp [intOf]; omega
    · have hk' : k = l.length := by omega
      have HOk : Hid (wr.ownsRow w.heap.size 3 1 (.slice (some ⟨g, 0, none⟩) l.length l.length) (l.map Hold.n).length (ints (l.map Hold.n))) := Lib.hid (by
        have := HO.out
        rw [hk', Nat.sub_self, List.replicate_zero, List.append_nil, List.take_of_length_le (by simp)] at this
        rw [List.length_map]
        exact this)
      have KS := Lib.hid (sort_own w.heap.size _ (l.map Hold.n) wr HOk.out (by simp; omega))
      have HTw : Hid (decide ((Lib.compact (sortI (l.map Hold.n))).length < l.length) = twiceI (l.map Hold.n)) := Lib.hid (by unfold twiceI; rw [List.length_map])
      have KC := Lib.hid (fun W (h : World.ownsRow W w.heap.size 3 1 (.slice (some ⟨g, 0, none⟩) l.length l.length) (l.map Hold.n).length (ints (sortI (l.map Hold.n)))) => compact_own w.heap.size (.slice (some ⟨g, 0, none⟩) l.length l.length) (sortI (l.map Hold.n)) W (by rw [sortI_length]; exact h) (by rw [sortI_length]; simp; omega))
      generalize hks : (l.map Hold.n) = ks at *
      go_upto_region 8 with (go_at_call 52; refine KS.out.mono ?_; rintro e w5 ⟨rfl, ho, hgr⟩)
      have HB5 := Lib.hid (HB.out.grown hgr HB.out.size (fun g' hg' => by simp [Value.ownBlock] at hg'; omega))
      have KC5 := Lib.hid (KC.out w5 ho)
      clear ho hgr
      go_wp2_with (go_at_call 53; refine KC5.out.mono ?_; rintro e w6 ⟨v6, rfl, ho, hgr, hle⟩; obtain ⟨A6, C6, rfl, _⟩ := own_slice_n ho; have HB6 := Lib.hid (HB5.out.grown hgr HB5.out.size (fun g' hg' => by simp [Value.ownBlock] at hg'; omega)); clear ho hgr)
      go_ret
      exact ⟨congrArg (fun b => Ending.returned (Value.bool b)) (HTw.out.trans (by rw [hks])), HB6.out⟩
end Go.Proofs.Ytpccoflebfblbaa
