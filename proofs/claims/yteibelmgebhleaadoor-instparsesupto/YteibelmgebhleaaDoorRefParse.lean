/- draymanref01.ParseInst: what any text writes as a problem, or that it is none. -/
import Derived.Test.YteibelmgebhleaaDoorRefMap
import Derived.Test.YteibelmgebhleaaDoorRefChk
import Derived.Test.YteibelmgebhleaaDoorRefWords
import Derived.Test.YteibelmgebhleaaDoorRefInt
import Derived.Test.YteibelmgebhleaaDoorOrders
import Derived.Test.YteibelmgebhleaaDoorPlayPlain
import Derived.Deep.Cut
import Derived.Deep.CutRange
import Derived.Deep.CutBlock
namespace Go.Proofs.YteibelmgebhleaaDoor
open Go.RowKit Go.Maps
set_option linter.unusedSimpArgs false
set_option maxRecDepth 100000

theorem strs_get {l : List (List UInt8)} {j : Nat} (h : j < l.length) : (strs l)[j]? = some (.string (ofL l[j])) := by simp [strs, h]
theorem drop_take_snoc {α : Type} {l : List α} {j : Nat} (h : j < l.length) (hj : 0 < j) : (l.take (j + 1)).drop 1 = (l.take j).drop 1 ++ [l[j]] := by
  rw [List.take_succ_eq_append_getElem h, List.drop_append_of_le_length (by simp; omega)]
/-- the words of a line joined so far, the numbers of those behind the first -/
structure LineAt (ws : List (List UInt8)) (j : Nat) (c : ByteArray) (ns : List Int) : Prop where
  join : c.data.toList = joinL (ws.take j)
  nums : ns = ((ws.take j).drop 1).map intVal
  ok : ((ws.take j).drop 1).all intOk = true
theorem LineAt.zero (ws : List (List UInt8)) : LineAt ws 0 ⟨#[]⟩ [] := ⟨by simp [joinL], by simp, by simp⟩
theorem LineAt.first {ws : List (List UInt8)} {c : ByteArray} {ns : List Int} (h : LineAt ws 0 c ns) (h0 : 0 < ws.length) : LineAt ws 1 (c ++ ofL ws[0]) ns := by
  have e : ws.take 1 = [ws[0]] := by cases ws with | nil => simp at h0 | cons x l => simp
  refine ⟨?_, ?_, ?_⟩
  · rw [e, joinL_one, ByteArray.data_append, Array.toList_append, h.join]; simp [joinL, ofL]
  · rw [h.nums, e]; simp
  · rw [e]; simp
theorem LineAt.more {ws : List (List UInt8)} {j : Nat} {c : ByteArray} {ns : List Int} (h : LineAt ws j c ns) (hj : j < ws.length) (h0 : 0 < j) (ho : intOk ws[j] = true) : LineAt ws (j + 1) (c ++ ⟨#[32]⟩ ++ ofL ws[j]) (ns ++ [intVal ws[j]]) := by
  refine ⟨?_, ?_, ?_⟩
  · rw [List.take_succ_eq_append_getElem hj, joinL_more (by intro e; have := congrArg List.length e; rw [List.length_take, List.length_nil] at this; omega)]
    rw [ByteArray.data_append, Array.toList_append, ByteArray.data_append, Array.toList_append, h.join]; simp [ofL]
  · rw [drop_take_snoc hj h0, h.nums]; simp
  · rw [drop_take_snoc hj h0]; simp only [List.all_append, h.ok, List.all_cons, ho, List.all_nil]; rfl
theorem LineAt.bad {ws : List (List UInt8)} {j : Nat} (hj : j < ws.length) (h0 : 0 < j) (ho : intOk ws[j] = false) : ∃ x l, ws = x :: l ∧ l.all intOk = false := by
  cases ws with
  | nil => simp at hj
  | cons x l =>
    refine ⟨x, l, rfl, ?_⟩
    obtain ⟨q, rfl⟩ : ∃ q, j = q + 1 := ⟨j - 1, by omega⟩
    simp only [List.getElem_cons_succ] at ho
    rw [List.all_eq_false]
    exact ⟨l[q]'(by simpa using hj), List.getElem_mem _, by rw [ho]; simp⟩

set_option maxHeartbeats 16000000 in
theorem refParse_any (s : ByteArray) (w : World) (hs : s.size ≤ 100000000) :
    Calls Tryd.prog 22 #[.string s] w (ParseEnd s.data.toList w) := by
  have hmm := @run_makeMap Tryd.prog
  go_enter Tryd.func22, Tryd.ntmps22
  go_wp2
  generalize hW0 : w.alloc (.cells #[.slice none 0 0, .slice none 0 0, .slice none 0 0, .slice none 0 0] 30) = W0
  have hz0 : W0.heap.size = w.heap.size + 1 := by rw [← hW0]; simp
  have HB0 : Hid (Below w.heap.size w W0) := by show Below _ _ _; rw [← hW0]; exact (Below.refl _ _).alloc (Nat.le_refl _) _
  have HR0 : Hid (Blk W0 w.heap.size [.slice none 0 0, .slice none 0 0, .slice none 0 0, .slice none 0 0]) := by show Blk _ _ _; rw [← hW0]; exact blk_new _ _ _
  have HS0 : Hid (HeldSome (W0.alloc (.cells #[.slice none 0 0, .slice none 0 0, .slice none 0 0, .slice none 0 0] 30)) (w.heap.size + 1) (w.heap.size + 1) noProb) := by
    have := held_start W0; rw [hz0] at this; exact this
  have hz1 : W0.heap.size ≤ w.heap.size + 1 := by omega
  have hz2 : w.heap.size + 1 ≤ W0.heap.size := by omega
  clear hW0 hz0
  go_loopw [0, 5] (fun tv kv wr => ∃ (t : ByteArray) (k m st : Nat) (i : Prob), tv = .string t ∧ kv = .int .i64 st ∧ (st = 0 ∧ k = 0 ∨ st = k + 1) ∧ k < 4 ∧ t.size ≤ m ∧ parseL s.data.toList = parseF m k i t.data.toList ∧ HeldSome wr (w.heap.size + 1) (w.heap.size + 1) i ∧ Below (w.heap.size + 1) W0 wr ∧ total i + t.size ≤ s.size) (fun tv _ _ => lenS tv)
  case atStart => exact ⟨s, 0, s.size, 0, noProb, rfl, rfl, .inl ⟨rfl, rfl⟩, by omega, Nat.le_refl _, by unfold parseL; simp, HS0.out, (Below.refl _ _).alloc (by omega) _, by simp [total, noProb]⟩
  case round =>
    obtain ⟨t, k, m, st, i, rfl, rfl, hst, hk4, htm, hp, hh, hb, htot⟩ := hrel
    have HP := Lib.hid hp
    have HH := Lib.hid hh
    have HB := Lib.hid hb
    have hsz := hb.size
    have HW : Hid (Below w.heap.size w wr) := HB0.out.trans (hb.mono (by omega))
    have HR := Lib.hid (HR0.out.below (hb.mono hz1)).nilR
    clear hp hh hb HS0
    by_cases ht0 : t.size = 0
    · have e1 := empty_size ht0
      rw [e1, parseF_nil] at HP
      clear e1
      have t0 : decide ((0 : Int) < (t.size : Int)) = false := decide_eq_false (by omega)
      obtain ⟨vc, vs, vp, vt, us, hheld⟩ := HH.out
      obtain ⟨ac, nc, cc, rfl⟩ := own_slice hheld.cars
      obtain ⟨as', nS, cs, rfl⟩ := own_slice hheld.stops
      obtain ⟨ap, np, cp, rfl⟩ := own_slice hheld.pairs
      obtain ⟨at', nt, ct, rfl⟩ := own_slice hheld.travel
      have HHE := Lib.hid hheld
      have i0 : wr.cell? ⟨w.heap.size + 1, 0, none⟩ = some (.slice ac nc cc) := by rw [Lib.cell_of_heap hheld.box]; rfl
      have i1 : wr.cell? ⟨w.heap.size + 1, 1, none⟩ = some (.slice as' nS cs) := by rw [Lib.cell_of_heap hheld.box]; rfl
      have i2 : wr.cell? ⟨w.heap.size + 1, 2, none⟩ = some (.slice ap np cp) := by rw [Lib.cell_of_heap hheld.box]; rfl
      have i3 : wr.cell? ⟨w.heap.size + 1, 3, none⟩ = some (.slice at' nt ct) := by rw [Lib.cell_of_heap hheld.box]; rfl
      have hI : w.heap.size + 1 < wr.heap.size := (Array.getElem?_eq_some_iff.1 hheld.box).1
      have HL := Lib.hid hheld.lies
      have HSH : Hid (Short i) := by unfold total at htot; exact ⟨by omega, by omega, by omega⟩
      clear hheld
      go_wp2_with (go_at_call 16; fail)
      (with_reducible refine (refCheck_any _ i _ HL.out HSH.out).mono ?_)
      rintro e w2 ⟨rfl, hb2⟩
      have HB2 := Lib.hid hb2
      have HR2 := Lib.hid ((HR0.out.below (HB.out.mono hz1)).below hb2).nilR
      have j0 : w2.cell? ⟨w.heap.size + 1, 0, none⟩ = some (.slice ac nc cc) := by rw [hb2.cell hI]; exact i0
      have j1 : w2.cell? ⟨w.heap.size + 1, 1, none⟩ = some (.slice as' nS cs) := by rw [hb2.cell hI]; exact i1
      have j2 : w2.cell? ⟨w.heap.size + 1, 2, none⟩ = some (.slice ap np cp) := by rw [hb2.cell hI]; exact i2
      have j3 : w2.cell? ⟨w.heap.size + 1, 3, none⟩ = some (.slice at' nt ct) := by rw [hb2.cell hI]; exact i3
      clear hb2 i0 i1 i2 i3 t0
      have r0 := HR2.out.1 0 (by omega)
      have r1 := HR2.out.1 1 (by omega)
      have r2 := HR2.out.1 2 (by omega)
      have r3 := HR2.out.1 3 (by omega)
      have g0 := HR2.out.2 0 (by omega)
      have g1 := HR2.out.2 1 (by omega)
      have g2 := HR2.out.2 2 (by omega)
      have g3 := HR2.out.2 3 (by omega)
      cases hok : probOk i
      · have HOK := Lib.hid hok
        clear hok
        go_wp2
        refine bodyPost_ret (v := .tuple #[.agg #[.slice none 0 0, .slice none 0 0, .slice none 0 0, .slice none 0 0], .int .i64 1]) (by simp [results, Tryd.results22, go_sem, r0, r1, r2, r3]) rfl ⟨(((((HW.out.trans (HB2.out.mono HW.out.size)).setCell (p := ⟨w.heap.size, 0, none⟩) (Nat.le_refl _) _).setCell (p := ⟨w.heap.size, 1, none⟩) (Nat.le_refl _) _).setCell (p := ⟨w.heap.size, 2, none⟩) (Nat.le_refl _) _).setCell (p := ⟨w.heap.size, 3, none⟩) (Nat.le_refl _) _), .inr ⟨i, HP.out, .inl ⟨HOK.out, rfl⟩⟩⟩
      · have HOK := Lib.hid hok
        clear hok
        have HHF := Lib.hid ((((((HHE.out.below HB2.out).low (R := w.heap.size) (by omega) 0 (.slice ac nc cc)).low (R := w.heap.size) (by omega) 1 (.slice as' nS cs)).low (R := w.heap.size) (by omega) 2 (.slice ap np cp)).low (R := w.heap.size) (by omega) 3 (.slice at' nt ct)).lies)
        go_wp2
        refine bodyPost_ret (v := .tuple #[.agg #[.slice ac nc cc, .slice as' nS cs, .slice ap np cp, .slice at' nt ct], .int .i64 0]) (by simp [results, Tryd.results22, go_sem, r0, r1, r2, r3]) rfl ⟨((((HW.out.trans (HB2.out.mono HW.out.size)).setCell (p := ⟨w.heap.size, 0, none⟩) (Nat.le_refl _) _).setCell (p := ⟨w.heap.size, 1, none⟩) (Nat.le_refl _) _).setCell (p := ⟨w.heap.size, 2, none⟩) (Nat.le_refl _) _).setCell (p := ⟨w.heap.size, 3, none⟩) (Nat.le_refl _) _, .inr ⟨i, HP.out, .inr ⟨HOK.out, _, rfl, HHF.out⟩⟩⟩
    · have t0 : decide ((0 : Int) < (t.size : Int)) = true := by simp; omega
      have ht1 : 0 < t.data.toList.length := by rw [data_len]; omega
      have HE1 : Hid (t.data.toList ≠ []) := fun e => by rw [e] at ht1; simp at ht1
      clear ht1
      go_wp2
      go_loopw [6] (fun qv wr' => ∃ q : Nat, q ≤ t.size ∧ qv = .int .i64 q ∧ (∀ j, j < q → t.data.toList[j]? ≠ some 10) ∧ wr' = wr) (fun qv _ => t.size - (intOf qv).toNat)
      case atStart => exact ⟨0, Nat.zero_le _, rfl, fun j hj => absurd hj (by omega), rfl⟩
      case round =>
        obtain ⟨q, hq, rfl, hno, rfl⟩ := hrel
        have HNO := Lib.hid hno
        clear hno t0
        by_cases hqs : q < t.size
        case neg =>
          obtain rfl : q = t.size := by omega
          have HPN := Lib.hid (HP.out.trans (parseF_open htm HE1.out (by rw [cutL_no (fun j hj => HNO.out j (by rw [data_len] at hj; exact hj))])))
          have t1 : decide ((t.size : Int) < (t.size : Int)) = false := by simp
          have t2 : ((t.size : Int) == (t.size : Int)) = true := by simp
          have r0 := HR.out.1 0 (by omega)
          have r1 := HR.out.1 1 (by omega)
          have r2 := HR.out.1 2 (by omega)
          have r3 := HR.out.1 3 (by omega)
          have g0 := HR.out.2 0 (by omega)
          have g1 := HR.out.2 1 (by omega)
          have g2 := HR.out.2 2 (by omega)
          have g3 := HR.out.2 3 (by omega)
          go_wp2
          refine bodyPost_ret (v := .tuple #[.agg #[.slice none 0 0, .slice none 0 0, .slice none 0 0, .slice none 0 0], .int .i64 2]) (by simp [results, Tryd.results22, go_sem, r0, r1, r2, r3]) rfl ⟨((((HW.out.setCell (p := ⟨w.heap.size, 0, none⟩) (Nat.le_refl _) _).setCell (p := ⟨w.heap.size, 1, none⟩) (Nat.le_refl _) _).setCell (p := ⟨w.heap.size, 2, none⟩) (Nat.le_refl _) _).setCell (p := ⟨w.heap.size, 3, none⟩) (Nat.le_refl _) _), .inl ⟨HPN.out, rfl⟩⟩
        case pos =>
          have hq2 : (q : Int) < (t.size : Int) := by omega
          by_cases h10 : t[q] = 10
          case neg =>
            have hc' : ((t[q].toNat : Int) != 10) = true := by
              rw [bne_iff_ne]; intro h; exact h10 (UInt8.toNat.inj (show t[q].toNat = 10 by omega))
            have HN2 : Hid (∀ j, j < q + 1 → t.data.toList[j]? ≠ some 10) := fun j hj => by
              rcases Nat.lt_succ_iff_lt_or_eq.1 hj with h | rfl
              · exact HNO.out j h
              · rw [List.getElem?_eq_getElem (by rw [data_len]; exact hqs)]
                exact fun e => h10 (Option.some.inj e)
            clear h10
            go_wp2
            go_roundw
            case rel => exact ⟨q + 1, by omega, by go_num, HN2.out, trivial⟩
            case measure => simp [intOf]; omega
          case pos =>
            have hc' : ((t[q].toNat : Int) != 10) = false := by rw [h10]; rfl
            have t2 : ((q : Int) == (t.size : Int)) = false := by rw [beq_eq_false_iff_ne]; omega
            have HCUT := Lib.hid (cutL_first (l := t.data.toList) (q := q) (by rw [data_len]; exact hqs) h10 HNO.out)
            clear h10
            have hq3 : q ≤ t.size := by omega
            have hq4 : (q : Int) ≤ (t.size : Int) := by omega
            have hq5 : (q : Int) + 1 ≤ (t.size : Int) := by omega
            have hq6 : q + 1 ≤ t.size := by omega
            obtain ⟨ln, hln⟩ : ∃ ln, t.extract 0 q = ln := ⟨_, rfl⟩
            obtain ⟨rs, hrs⟩ : ∃ rs, t.extract (q + 1) t.size = rs := ⟨_, rfl⟩
            have HLN : Hid (ln.data.toList = t.data.toList.take q) := by show _ = _; rw [← hln, Lib.extract_data]; simp
            have HRS : Hid (rs.data.toList = t.data.toList.drop (q + 1)) := by
              show _ = _
              rw [← hrs, Lib.extract_data, List.take_of_length_le (by rw [List.length_drop, data_len]; omega)]
            have hls : ln.size ≤ t.size := by rw [← data_len, HLN.out, List.length_take, data_len]; omega
            have hrz : rs.size + (q + 1) = t.size := by rw [← data_len, HRS.out, List.length_drop, data_len]; omega
            rw [← HLN.out, ← HRS.out] at HCUT
            have C1 := Lib.hid (refWords_any ln wr (by omega))
            go_wp2_with (go_at_call 39; fail)
            (with_reducible refine (C1.out).mono ?_)
            rintro e w1 ⟨vw, rfl, hown1, hb1⟩
            obtain ⟨Aw, cw, rfl, hgw⟩ := own_get hown1
            have HGW := Lib.hid hgw
            have HB1 := Lib.hid hb1
            have hz11 := hb1.size
            have hwl := words_length ln.data.toList
            rw [data_len] at hwl
            have HWL := Lib.hid (fun x (hx : x ∈ words ln.data.toList) => word_len hx)
            have HJL := Lib.hid (fun j => join_take_len ln.data.toList j)
            rw [data_len] at HWL HJL
            clear C1 hown1 hgw hb1 hc' t2
            obtain ⟨ws, hws⟩ : ∃ ws, words ln.data.toList = ws := ⟨_, rfl⟩
            rw [hws] at HGW hwl HWL HJL
            have HWS := Lib.hid hws
            rw [hws]
            clear hws
            obtain ⟨n0, hn0, hnz0, hnz1, hnz2⟩ := info_parts int_info
            have t3 : IntKind.i64.wrap 0 = 0 := by decide
            go_wp2
            go_loopw [8, 9, 41] (fun nv cv jv wr' => ∃ (j : Nat) (c : ByteArray) (ns : List Int), j ≤ ws.length ∧ jv = .int .i64 j ∧ cv = .string c ∧ LineAt ws j c ns ∧ wr'.ownsRow w1.heap.size 3 1 nv ns.length (ints ns) ∧ Below w1.heap.size w1 wr') (fun _ _ jv _ => ws.length - (intOf jv).toNat)
            case atStart => exact ⟨0, _, [], Nat.zero_le _, rfl, rfl, LineAt.zero ws, World.ownsRow_nil _ _ _ _, Below.refl _ _⟩
            case round =>
              obtain ⟨j, c, ns, hj, rfl, rfl, hla, hown, hb⟩ := hrel
              have HLA := Lib.hid hla
              have HOW := Lib.hid hown
              have HB2 := Lib.hid hb
              have hz2' := hb.size
              have hcs : c.size ≤ 2 * ln.size := by rw [← data_len, hla.join]; exact HJL.out j
              have hnl : ns.length ≤ j := by rw [hla.nums]; simp; omega
              have HWW : Hid (Below w.heap.size w wr) := (HW.out.trans (HB1.out.mono HW.out.size)).trans (HB2.out.mono (by have := HW.out.size; omega))
              have HBW := Lib.hid (HB1.out.trans (HB2.out.mono hz11))
              have HR2 := Lib.hid ((HR0.out.below (HB.out.mono hz1)).below HBW.out).nilR
              clear hla hown hb
              by_cases hjl : j < ws.length
              · obtain ⟨gw, rfl, hgl, hcell⟩ := HGW.out (by omega)
                have c0 : wr.cell? ⟨gw, j, none⟩ = some (.string (ofL ws[j])) := by rw [HB2.out.cell hgl]; exact hcell j _ (strs_get hjl)
                have hxl : (ofL ws[j]).size ≤ ln.size := HWL.out ws[j] (List.getElem_mem _)
                clear hcell
                by_cases hj0 : j = 0
                · subst hj0
                  have HL2 := Lib.hid (HLA.out.first hjl)
                  generalize ofL ws[0] = x at *
                  go_wp2
                  go_roundw
                  case rel => exact ⟨1, _, ns, by omega, by go_num, rfl, HL2.out, HOW.out, HB2.out⟩
                  case measure => simp [intOf]; omega
                · have t4 : decide ((0 : Int) < (j : Int)) = true := by simp; omega
                  have CI := Lib.hid (fun W => refInt_any (ofL ws[j]) W (by omega))
                  rw [ofL_toList] at CI
                  cases hok : intOk ws[j]
                  · rw [hok] at CI
                    obtain ⟨x0, l0, hx0, hbad⟩ := LineAt.bad hjl (by omega) hok
                    have HPN := Lib.hid (HP.out.trans (parseF_none htm HE1.out (by rw [HCUT.out]; exact line_bad (HWS.out.trans hx0) hbad)))
                    clear hok hx0 hbad
                    generalize intVal ws[j] = y at *
                    generalize ofL ws[j] = x at *
                    go_wp2_with (go_at_call 40; fail)
                    (with_reducible refine (CI.out _).mono ?_)
                    rintro e w2 ⟨rfl, rfl⟩
                    have r0 := HR2.out.1 0 (by omega)
                    have r1 := HR2.out.1 1 (by omega)
                    have r2 := HR2.out.1 2 (by omega)
                    have r3 := HR2.out.1 3 (by omega)
                    have g0 := HR2.out.2 0 (by omega)
                    have g1 := HR2.out.2 1 (by omega)
                    have g2 := HR2.out.2 2 (by omega)
                    have g3 := HR2.out.2 3 (by omega)
                    go_wp2
                    refine bodyPost_ret (v := .tuple #[.agg #[.slice none 0 0, .slice none 0 0, .slice none 0 0, .slice none 0 0], .int .i64 2]) (by simp [results, Tryd.results22, go_sem, r0, r1, r2, r3]) rfl ⟨((((HWW.out.setCell (p := ⟨w.heap.size, 0, none⟩) (Nat.le_refl _) _).setCell (p := ⟨w.heap.size, 1, none⟩) (Nat.le_refl _) _).setCell (p := ⟨w.heap.size, 2, none⟩) (Nat.le_refl _) _).setCell (p := ⟨w.heap.size, 3, none⟩) (Nat.le_refl _) _), .inl ⟨HPN.out, rfl⟩⟩
                  · rw [hok] at CI
                    have HL2 := Lib.hid (HLA.out.more hjl (by omega) hok)
                    clear hok
                    generalize intVal ws[j] = y at *
                    generalize ofL ws[j] = x at *
                    obtain ⟨an, nn, cn, rfl⟩ := own_slice HOW.out
                    go_wp2_with (go_at_call 40; fail)
                    (with_reducible refine (CI.out _).mono ?_)
                    rintro e w2 ⟨rfl, rfl⟩
                    go_wp2_with (at_builtin; refine wpList_append_any _ rfl _ _ 42 rfl w1.heap.size 3 n0 _ 1 8 Tryd.underlying42 hn0 hnz0 hnz1 hnz2 rfl (by decide) (.slice an nn cn) ns.length (ints ns) rfl (own_below HOW.out ((Below.refl _ _).alloc (Nat.le_refl _) _)) (wr.heap.size + 1) (some ⟨wr.heap.size, 0, none⟩) 1 1 (ints [y]) rfl (reads_new _ _ _) (ints_one _) (by unfold maxLen; omega) (by omega) (by simp; omega) ?_)
                    intro v' w3 hown' hgrow hob
                    have HO3 := Lib.hid hown'
                    have HB3 := Lib.hid ((HB2.out.alloc hz2' _).grown hgrow (by simp; omega) (fun q hq => (own_typed HOW.out hq).2))
                    clear hown' hgrow hob
                    go_wp2
                    go_roundw
                    case rel => exact ⟨j + 1, _, ns ++ [y], by omega, by go_num, rfl, HL2.out, by have := HO3.out; simpa [ints] using this, HB3.out⟩
                    case measure => simp [intOf]; omega
              · obtain rfl : j = ws.length := by omega
                have hla := HLA.out
                have hjn := hla.join
                have hnn := hla.nums
                have hok := hla.ok
                rw [List.take_length] at hjn hnn hok
                obtain ⟨An, cn, rfl, hgn⟩ := own_get HOW.out
                clear hla HLA
                have HH2 := Lib.hid (HH.out.below HBW.out)
                have HBB := Lib.hid (HB.out.trans (HBW.out.mono (Nat.le_trans hz2 hsz)))
                have HRB := Lib.hid ((HR0.out.below (HB.out.mono hz1)).below HBW.out)
                by_cases hw0 : ws.length = 0
                case pos =>
                  have HPN := Lib.hid (HP.out.trans (parseF_none htm HE1.out (by rw [HCUT.out]; exact line_empty (HWS.out.trans (List.eq_nil_of_length_eq_zero hw0)))))
                  have u0 : ((ws.length : Int) == 0) = true := by rw [beq_iff_eq]; omega
                  have r0 := HR2.out.1 0 (by omega)
                  have r1 := HR2.out.1 1 (by omega)
                  have r2 := HR2.out.1 2 (by omega)
                  have r3 := HR2.out.1 3 (by omega)
                  have g0 := HR2.out.2 0 (by omega)
                  have g1 := HR2.out.2 1 (by omega)
                  have g2 := HR2.out.2 2 (by omega)
                  have g3 := HR2.out.2 3 (by omega)
                  go_wp2
                  refine bodyPost_ret (v := .tuple #[.agg #[.slice none 0 0, .slice none 0 0, .slice none 0 0, .slice none 0 0], .int .i64 2]) (by simp [results, Tryd.results22, go_sem, r0, r1, r2, r3]) rfl ⟨((((HWW.out.setCell (p := ⟨w.heap.size, 0, none⟩) (Nat.le_refl _) _).setCell (p := ⟨w.heap.size, 1, none⟩) (Nat.le_refl _) _).setCell (p := ⟨w.heap.size, 2, none⟩) (Nat.le_refl _) _).setCell (p := ⟨w.heap.size, 3, none⟩) (Nat.le_refl _) _), .inl ⟨HPN.out, rfl⟩⟩
                case neg =>
                  have u0 : ((ws.length : Int) == 0) = false := by rw [beq_eq_false_iff_ne]; omega
                  obtain ⟨x, l, hxl⟩ : ∃ x l, ws = x :: l := by
                    cases ws with
                    | nil => simp at hw0
                    | cons x l => exact ⟨x, l, rfl⟩
                  have HXL := Lib.hid hxl
                  have hok2 : l.all intOk = true := by rw [hxl] at hok; simpa using hok
                  have hnn2 : ns = l.map intVal := by rw [hnn, hxl]; simp
                  by_cases hjq : joinL (x :: l) = ln.data.toList
                  case neg =>
                    have HPN := Lib.hid (HP.out.trans (parseF_none htm HE1.out (by rw [HCUT.out]; exact line_unlike (HWS.out.trans hxl) hjq)))
                    have u3 : (c.toList != ln.toList) = true := by
                      rw [Lib.toList_data, Lib.toList_data, hjn, bne_iff_ne, hxl]; exact hjq
                    have u5 : (c.toList == ln.toList) = false := by
                      rw [Lib.toList_data, Lib.toList_data, hjn, beq_eq_false_iff_ne, hxl]; exact hjq
                    clear hxl hjn hnn hok hok2 hnn2 hjq
                    have r0 := HR2.out.1 0 (by omega)
                    have r1 := HR2.out.1 1 (by omega)
                    have r2 := HR2.out.1 2 (by omega)
                    have r3 := HR2.out.1 3 (by omega)
                    have g0 := HR2.out.2 0 (by omega)
                    have g1 := HR2.out.2 1 (by omega)
                    have g2 := HR2.out.2 2 (by omega)
                    have g3 := HR2.out.2 3 (by omega)
                    go_wp2
                    refine bodyPost_ret (v := .tuple #[.agg #[.slice none 0 0, .slice none 0 0, .slice none 0 0, .slice none 0 0], .int .i64 2]) (by simp [results, Tryd.results22, go_sem, r0, r1, r2, r3]) rfl ⟨((((HWW.out.setCell (p := ⟨w.heap.size, 0, none⟩) (Nat.le_refl _) _).setCell (p := ⟨w.heap.size, 1, none⟩) (Nat.le_refl _) _).setCell (p := ⟨w.heap.size, 2, none⟩) (Nat.le_refl _) _).setCell (p := ⟨w.heap.size, 3, none⟩) (Nat.le_refl _) _), .inl ⟨HPN.out, rfl⟩⟩
                  case pos =>
                    have u3 : (c.toList != ln.toList) = false := by
                      rw [Lib.toList_data, Lib.toList_data, hjn, bne_eq_false_iff_eq, hxl]; exact hjq
                    have u5 : (c.toList == ln.toList) = true := by
                      rw [Lib.toList_data, Lib.toList_data, hjn, beq_iff_eq, hxl]; exact hjq
                    have HLK := Lib.hid (line_kind (HWS.out.trans hxl) hjq hok2)
                    have HNL : Hid (ns.length = l.length) := by show _ = _; rw [hnn2]; simp
                    rw [← hnn2] at HLK
                    obtain ⟨gw, rfl, hgl0, hcell⟩ := HGW.out (by omega)
                    have cw0 : wr.cell? ⟨gw, 0, none⟩ = some (.string (ofL x)) := by
                      rw [HB2.out.cell hgl0]
                      have := hcell 0 _ (strs_get (l := ws) (j := 0) (by omega))
                      rw [this]; simp [hxl]
                    have hxs : (ofL x).size ≤ ln.size := HWL.out x (by rw [hxl]; simp)
                    have HM0 := Lib.hid (World.ownsMap_made (H := Unit) wr Tryd.prog 9 (plainElem Tryd.prog 3))
                    have HA0 := Lib.hid ((Below.refl wr.heap.size wr).alloc (Nat.le_refl _) (.map #[] 0))
                    have u4 : (0 : Int) < (ws.length : Int) := by omega
                    clear hxl hjn hnn hok hok2 hnn2 hjq hcell
                    go_upto_region 26 with (fail)
                    go_wp2_with (refine wpList_insert_in _ rfl _ _ _ 85 rfl 9 3 key_str Tryd.underlying85 _ wr.heap.size 0 (DataW.map []) rfl HM0.out (by unfold maxLen; omega) _ _ (.string (nameL 0)) rfl rfl (key_name (s := ofL (nameL 0)) (by decide)) (.lit (.int .i64 1)) [] (plainElem_int Tryd.underlying3 (by decide)) ?_)
                    intro w2 ho0 hu0
                    go_wp2_with (refine wpList_insert_in _ rfl _ _ _ 85 rfl 9 3 key_str Tryd.underlying85 _ wr.heap.size 1 ((DataW.map []).put (.string (nameL 0)) (.lit (.int .i64 1))) rfl ho0 (by unfold maxLen; omega) _ _ (.string (nameL 1)) rfl rfl (key_name (s := ofL (nameL 1)) (by decide)) (.lit (.int .i64 2)) [] (plainElem_int Tryd.underlying3 (by decide)) ?_)
                    intro w3 ho1 hu1
                    go_wp2_with (refine wpList_insert_in _ rfl _ _ _ 85 rfl 9 3 key_str Tryd.underlying85 _ wr.heap.size 2 (((DataW.map []).put (.string (nameL 0)) (.lit (.int .i64 1))).put (.string (nameL 1)) (.lit (.int .i64 2))) rfl ho1 (by unfold maxLen; omega) _ _ (.string (nameL 2)) rfl rfl (key_name (s := ofL (nameL 2)) (by decide)) (.lit (.int .i64 3)) [] (plainElem_int Tryd.underlying3 (by decide)) ?_)
                    intro w4 ho2 hu2
                    go_wp2_with (refine wpList_insert_in _ rfl _ _ _ 85 rfl 9 3 key_str Tryd.underlying85 _ wr.heap.size 3 ((((DataW.map []).put (.string (nameL 0)) (.lit (.int .i64 1))).put (.string (nameL 1)) (.lit (.int .i64 2))).put (.string (nameL 2)) (.lit (.int .i64 3))) rfl ho2 (by unfold maxLen; omega) _ _ (.string (nameL 3)) rfl rfl (key_name (s := ofL (nameL 3)) (by decide)) (.lit (.int .i64 4)) [] (plainElem_int Tryd.underlying3 (by decide)) ?_)
                    intro w5 ho3 hu3
                    have hlook := look_kind ho3 (x := ofL x) (by omega)
                    rw [ofL_toList] at hlook
                    have HW5 := Lib.hid ((((HA0.out.grown hu0.grown (by simp) (fun k hk => by cases hk; exact Nat.le_refl _)).grown hu1.grown (by have := hu0.grown.size; simp at this; omega) (fun k hk => by cases hk; exact Nat.le_refl _)).grown hu2.grown (by have := hu0.grown.size; have := hu1.grown.size; simp at *; omega) (fun k hk => by cases hk; exact Nat.le_refl _)).grown hu3.grown (by have := hu0.grown.size; have := hu1.grown.size; have := hu2.grown.size; simp at *; omega) (fun k hk => by cases hk; exact Nat.le_refl _))
                    have HWW5 := Lib.hid (HWW.out.trans (HW5.out.mono HWW.out.size))
                    have HR5 := Lib.hid (HRB.out.below HW5.out).nilR
                    have cw5 : w5.cell? ⟨gw, 0, none⟩ = some (.string (ofL x)) := by rw [HW5.out.cell (show gw < wr.heap.size by omega)]; exact cw0
                    clear ho0 ho1 ho2 ho3 hu0 hu1 hu2 hu3 HM0 HA0 cw0 u3 u5 u0
                    go_upto_region 27 with (fail)
                    clear hlook cw5
                    have HKN : Hid (kindNum x = match kindL x with | none => 0 | some k => (k : Int) + 1) := by show _ = _; rfl
                    cases hkx : kindL x with
                    | none =>
                      have HPN := Lib.hid (HP.out.trans (parseF_none htm HE1.out (by rw [HCUT.out]; have := HLK.out; rw [hkx] at this; exact this)))
                      have hk0 : kindNum x = 0 := by have := HKN.out; rw [hkx] at this; exact this
                      rw [hk0]
                      clear HKN HLK hkx
                      have r0 := HR5.out.1 0 (by omega)
                      have r1 := HR5.out.1 1 (by omega)
                      have r2 := HR5.out.1 2 (by omega)
                      have r3 := HR5.out.1 3 (by omega)
                      have g0 := HR5.out.2 0 (by omega)
                      have g1 := HR5.out.2 1 (by omega)
                      have g2 := HR5.out.2 2 (by omega)
                      have g3 := HR5.out.2 3 (by omega)
                      go_wp2
                      refine bodyPost_ret (v := .tuple #[.agg #[.slice none 0 0, .slice none 0 0, .slice none 0 0, .slice none 0 0], .int .i64 2]) (by simp [results, Tryd.results22, go_sem, r0, r1, r2, r3]) rfl ⟨((((HWW5.out.setCell (p := ⟨w.heap.size, 0, none⟩) (Nat.le_refl _) _).setCell (p := ⟨w.heap.size, 1, none⟩) (Nat.le_refl _) _).setCell (p := ⟨w.heap.size, 2, none⟩) (Nat.le_refl _) _).setCell (p := ⟨w.heap.size, 3, none⟩) (Nat.le_refl _) _), .inl ⟨HPN.out, rfl⟩⟩
                    | some kk =>
                      have hk4' := (kindL_lt hkx).1
                      have hkn : kindNum x = (kk : Int) + 1 := by have := HKN.out; rw [hkx] at this; exact this
                      rw [hkn]
                      rw [hkx] at HLK
                      clear HKN hkx hkn
                      obtain rfl | rfl | rfl | rfl : kk = 0 ∨ kk = 1 ∨ kk = 2 ∨ kk = 3 := by omega
                      · skip
                        by_cases hback : 0 < k
                        · have HPN := Lib.hid (HP.out.trans (parseF_if_back htm HE1.out (by rw [HCUT.out]; exact HLK.out) hback))
                          have u1 : decide ((1 : Int) < (st : Int)) = true := decide_eq_true (by omega)
                          clear HLK
                          have r0 := HR5.out.1 0 (by omega)
                          have r1 := HR5.out.1 1 (by omega)
                          have r2 := HR5.out.1 2 (by omega)
                          have r3 := HR5.out.1 3 (by omega)
                          have g0 := HR5.out.2 0 (by omega)
                          have g1 := HR5.out.2 1 (by omega)
                          have g2 := HR5.out.2 2 (by omega)
                          have g3 := HR5.out.2 3 (by omega)
                          go_wp2
                          refine bodyPost_ret (v := .tuple #[.agg #[.slice none 0 0, .slice none 0 0, .slice none 0 0, .slice none 0 0], .int .i64 2]) (by simp [results, Tryd.results22, go_sem, r0, r1, r2, r3]) rfl ⟨((((HWW5.out.setCell (p := ⟨w.heap.size, 0, none⟩) (Nat.le_refl _) _).setCell (p := ⟨w.heap.size, 1, none⟩) (Nat.le_refl _) _).setCell (p := ⟨w.heap.size, 2, none⟩) (Nat.le_refl _) _).setCell (p := ⟨w.heap.size, 3, none⟩) (Nat.le_refl _) _), .inl ⟨HPN.out, rfl⟩⟩
                        · have u1 : decide ((1 : Int) < (st : Int)) = false := decide_eq_false (by omega)
                          by_cases hlen : ns.length = 3
                          case neg =>
                            have HPN := Lib.hid (HP.out.trans (parseF_none htm HE1.out (by rw [HCUT.out]; exact HLK.out.trans (if_neg (by have := HNL.out; show ¬ (l.length == 3) = true; rw [beq_iff_eq]; omega)))))
                            have u2 : ((ns.length : Int) != 3) = true := by rw [bne_iff_ne]; omega
                            clear HLK
                            have HW6 : Hid (Below wr.heap.size wr (w5.alloc (.cells #[.int .i64 0, .int .i64 3, .int .i64 4, .int .i64 2] 3))) := HW5.out.alloc HW5.out.size _
                            have HWW6 : Hid (Below w.heap.size w (w5.alloc (.cells #[.int .i64 0, .int .i64 3, .int .i64 4, .int .i64 2] 3))) := HWW5.out.alloc HWW5.out.size _
                            have HR6 := Lib.hid (HRB.out.below HW6.out).nilR
                            have r0 := HR6.out.1 0 (by omega)
                            have r1 := HR6.out.1 1 (by omega)
                            have r2 := HR6.out.1 2 (by omega)
                            have r3 := HR6.out.1 3 (by omega)
                            have g0 := HR6.out.2 0 (by omega)
                            have g1 := HR6.out.2 1 (by omega)
                            have g2 := HR6.out.2 2 (by omega)
                            have g3 := HR6.out.2 3 (by omega)
                            go_wp2
                            refine bodyPost_ret (v := .tuple #[.agg #[.slice none 0 0, .slice none 0 0, .slice none 0 0, .slice none 0 0], .int .i64 2]) (by simp [results, Tryd.results22, go_sem, r0, r1, r2, r3]) rfl ⟨((((HWW6.out.setCell (p := ⟨w.heap.size, 0, none⟩) (Nat.le_refl _) _).setCell (p := ⟨w.heap.size, 1, none⟩) (Nat.le_refl _) _).setCell (p := ⟨w.heap.size, 2, none⟩) (Nat.le_refl _) _).setCell (p := ⟨w.heap.size, 3, none⟩) (Nat.le_refl _) _), .inl ⟨HPN.out, rfl⟩⟩
                          case pos =>
                            have HPN := Lib.hid (HP.out.trans (parseF_step htm HE1.out (by rw [HCUT.out]) (by rw [HCUT.out]; exact HLK.out.trans (if_pos (by have := HNL.out; show (l.length == 3) = true; rw [beq_iff_eq]; omega))) hback))
                            rw [HCUT.out] at HPN
                            have u2 : ((ns.length : Int) != 3) = false := by rw [bne_eq_false_iff_eq]; omega
                            clear HLK
                            have HW6 : Hid (Below wr.heap.size wr (w5.alloc (.cells #[.int .i64 0, .int .i64 3, .int .i64 4, .int .i64 2] 3))) := HW5.out.alloc HW5.out.size _
                            go_upto_region 33 with (fail)
                            generalize w5.alloc (.cells #[.int .i64 0, .int .i64 3, .int .i64 4, .int .i64 2] 3) = w6 at *
                            obtain ⟨a, b, c, hns⟩ := three_of hlen
                            obtain ⟨gn, rfl, hgl, hnc⟩ := hgn (by omega)
                            have hgw1 := (own_typed HOW.out (g := gn) rfl).2
                            rw [hns] at hnc
                            obtain ⟨vc, vs, vp, vt, us, hheld⟩ := (HH2.out.below HW6.out)
                            obtain ⟨af, nf, cf, rfl⟩ := own_slice hheld.cars
                            have HHE := Lib.hid hheld
                            have f0 : w6.cell? ⟨w.heap.size + 1, 0, none⟩ = some (.slice af nf cf) := by rw [Lib.cell_of_heap hheld.box]; rfl
                            have hI : w.heap.size + 1 < w6.heap.size := (Array.getElem?_eq_some_iff.1 hheld.box).1
                            have z6 := HW6.out.size
                            have hgn6 : gn < w6.heap.size := by omega
                            have m0 : w6.cell? ⟨gn, 0, none⟩ = some (.int .i64 a) := by rw [HW6.out.cell hgl]; exact hnc 0 _ (by simp [ints])
                            have m1 : w6.cell? ⟨gn, 1, none⟩ = some (.int .i64 b) := by rw [HW6.out.cell hgl]; exact hnc 1 _ (by simp [ints])
                            have m2 : w6.cell? ⟨gn, 2, none⟩ = some (.int .i64 c) := by rw [HW6.out.cell hgl]; exact hnc 2 _ (by simp [ints])
                            have htyn : Typed w6 gn 3 := (own_typed HOW.out (g := gn) rfl).1.below HW6.out
                            have hgnI : gn ≠ w.heap.size + 1 := typed_ne htyn hheld.typedI (by decide)
                            have hgv : ∀ q, (Value.slice af nf cf).ownBlock = some q → gn ≠ q := fun q hq => typed_ne htyn (own_typed hheld.cars hq).1 (by decide)
                            have HGV := Lib.hid hgv
                            have hli : i.cars.length ≤ 100000000 := by unfold total at htot; omega
                            have HNS := Lib.hid hns
                            clear hheld hnc hgn htyn hgv hns
                            obtain ⟨q0, hq0, hqz, hq1, hq2⟩ := info_parts car_info
                            refine wp_region_z (S := (fun w' => w'.cell? ⟨w.heap.size + 1, 0, none⟩ = some (.slice af nf cf) ∧ w'.cell? ⟨gn, 0, none⟩ = some (.int .i64 a) ∧ w'.cell? ⟨gn, 1, none⟩ = some (.int .i64 b) ∧ w'.cell? ⟨gn, 2, none⟩ = some (.int .i64 c))) (z := 15) (by kernel_rfl) ⟨f0, m0, m1, m2⟩ (fun hH => ?_)
                            refine wpAnyZ_take (i := 0) (v := ?_) rfl (by kernel_rfl) (by kernel_rfl) (by kernel_rfl) rfl (by kernel_rfl) (fun _ _ _ h => h) (gives_value (by rfl) ?_) (by assumption) ?_
                            rotate_left
                            · intro w hSw
                              (try dsimp only at hSw)
                              go_simp
                              (try with_reducible rfl)
                            (try simp only [Act.put, List.getElem_toArray, List.getElem_cons_succ, List.getElem_cons_zero, List.setIfInBounds_toArray, List.set_cons_zero, List.set_cons_succ])
                            refine wpAnyZ_take (i := 1) (v := ?_) rfl (by kernel_rfl) (by kernel_rfl) (by kernel_rfl) rfl (by kernel_rfl) (fun _ _ _ h => h) (gives_value (by rfl) ?_) (by assumption) ?_
                            rotate_left
                            · intro w hSw
                              (try dsimp only at hSw)
                              go_simp
                              (try with_reducible rfl)
                            (try simp only [Act.put, List.getElem_toArray, List.getElem_cons_succ, List.getElem_cons_zero, List.setIfInBounds_toArray, List.set_cons_zero, List.set_cons_succ])
                            refine wpAnyZ_take (i := 2) (v := ?_) rfl (by kernel_rfl) (by kernel_rfl) (by kernel_rfl) rfl (by kernel_rfl) (fun _ _ _ h => h) (gives_value (by rfl) ?_) (by assumption) ?_
                            rotate_left
                            · intro w hSw
                              (try dsimp only at hSw)
                              go_simp
                              (try with_reducible rfl)
                            (try simp only [Act.put, List.getElem_toArray, List.getElem_cons_succ, List.getElem_cons_zero, List.setIfInBounds_toArray, List.set_cons_zero, List.set_cons_succ])
                            refine wpAnyZ_take (i := 3) (v := ?_) rfl (by kernel_rfl) (by kernel_rfl) (by kernel_rfl) rfl (by kernel_rfl) (fun _ _ _ h => h) (gives_value (by rfl) ?_) (by assumption) ?_
                            rotate_left
                            · intro w hSw
                              (try dsimp only at hSw)
                              go_simp
                              (try with_reducible rfl)
                            (try simp only [Act.put, List.getElem_toArray, List.getElem_cons_succ, List.getElem_cons_zero, List.setIfInBounds_toArray, List.set_cons_zero, List.set_cons_succ])
                            refine wpAnyZ_take (i := 4) (v := ?_) rfl (by kernel_rfl) (by kernel_rfl) (by kernel_rfl) rfl (by kernel_rfl) (fun _ _ _ h => h) (gives_value (by rfl) ?_) (by assumption) ?_
                            rotate_left
                            · intro w hSw
                              (try dsimp only at hSw)
                              go_simp
                              (try with_reducible rfl)
                            (try simp only [Act.put, List.getElem_toArray, List.getElem_cons_succ, List.getElem_cons_zero, List.setIfInBounds_toArray, List.set_cons_zero, List.set_cons_succ])
                            refine wpAnyZ_take (i := 5) (v := ?_) rfl (by kernel_rfl) (by kernel_rfl) (by kernel_rfl) rfl (by kernel_rfl) (fun _ _ _ h => h) (gives_value (by rfl) ?_) (by assumption) ?_
                            rotate_left
                            · intro w hSw
                              (try dsimp only at hSw)
                              go_simp
                              (try with_reducible rfl)
                            (try simp only [Act.put, List.getElem_toArray, List.getElem_cons_succ, List.getElem_cons_zero, List.setIfInBounds_toArray, List.set_cons_zero, List.set_cons_succ])
                            refine wpAnyZ_take (i := 6) (v := ?_) rfl (by kernel_rfl) (by kernel_rfl) (by kernel_rfl) rfl (by kernel_rfl) (fun _ _ _ h => h) (gives_value (by rfl) ?_) (by assumption) ?_
                            rotate_left
                            · intro w hSw
                              (try dsimp only at hSw)
                              go_simp
                              (try with_reducible rfl)
                            (try simp only [Act.put, List.getElem_toArray, List.getElem_cons_succ, List.getElem_cons_zero, List.setIfInBounds_toArray, List.set_cons_zero, List.set_cons_succ])
                            refine wpAnyZ_take (i := 7) (v := ?_) rfl (by kernel_rfl) (by kernel_rfl) (by kernel_rfl) rfl (by kernel_rfl) (fun _ _ _ h => h) (gives_value (by rfl) ?_) (by assumption) ?_
                            rotate_left
                            · intro w hSw
                              (try dsimp only at hSw)
                              go_simp
                              (try with_reducible rfl)
                            (try simp only [Act.put, List.getElem_toArray, List.getElem_cons_succ, List.getElem_cons_zero, List.setIfInBounds_toArray, List.set_cons_zero, List.set_cons_succ])
                            refine wpAnyZ_take (i := 8) (v := ?_) rfl (by kernel_rfl) (by kernel_rfl) (by kernel_rfl) rfl (by kernel_rfl) (fun _ _ _ h => h) (gives_value (by rfl) ?_) (by assumption) ?_
                            rotate_left
                            · intro w hSw
                              (try dsimp only at hSw)
                              go_simp
                              (try with_reducible rfl)
                            (try simp only [Act.put, List.getElem_toArray, List.getElem_cons_succ, List.getElem_cons_zero, List.setIfInBounds_toArray, List.set_cons_zero, List.set_cons_succ])
                            refine wpAnyZ_take (i := 9) (v := ?_) rfl (by kernel_rfl) (by kernel_rfl) (by kernel_rfl) rfl (by kernel_rfl) (fun _ _ _ h => h) (gives_value (by rfl) ?_) (by assumption) ?_
                            rotate_left
                            · intro w hSw
                              (try dsimp only at hSw)
                              go_simp
                              (try with_reducible rfl)
                            (try simp only [Act.put, List.getElem_toArray, List.getElem_cons_succ, List.getElem_cons_zero, List.setIfInBounds_toArray, List.set_cons_zero, List.set_cons_succ])
                            refine wpAnyZ_take (i := 10) (v := ?_) rfl (by kernel_rfl) (by kernel_rfl) (by kernel_rfl) rfl (by kernel_rfl) (fun _ _ _ h => h) (gives_value (by rfl) ?_) (by assumption) ?_
                            rotate_left
                            · intro w hSw
                              (try dsimp only at hSw)
                              go_simp
                              (try with_reducible rfl)
                            (try simp only [Act.put, List.getElem_toArray, List.getElem_cons_succ, List.getElem_cons_zero, List.setIfInBounds_toArray, List.set_cons_zero, List.set_cons_succ])
                            refine wpAnyZ_take (i := 11) (v := ?_) rfl (by kernel_rfl) (by kernel_rfl) (by kernel_rfl) rfl (by kernel_rfl) (fun _ _ _ h => h) (gives_value (by rfl) ?_) (by assumption) ?_
                            rotate_left
                            · intro w hSw
                              (try dsimp only at hSw)
                              go_simp
                              (try with_reducible rfl)
                            (try simp only [Act.put, List.getElem_toArray, List.getElem_cons_succ, List.getElem_cons_zero, List.setIfInBounds_toArray, List.set_cons_zero, List.set_cons_succ])
                            refine wpAnyZ_one (i := 12) (by kernel_rfl) ?_
                            refine zstep rfl (fun K hK => ?_)
                            go_simp
                            refine hK.out _ _ (fun _ => ⟨(Below.cell (Below.drew ((Below.refl w6.heap.size w6).alloc (Nat.le_refl _) (.cells (ints [a, b, c]).toArray 58))) hI).trans f0, (Below.cell (Below.drew ((Below.refl w6.heap.size w6).alloc (Nat.le_refl _) (.cells (ints [a, b, c]).toArray 58))) hgn6).trans m0, (Below.cell (Below.drew ((Below.refl w6.heap.size w6).alloc (Nat.le_refl _) (.cells (ints [a, b, c]).toArray 58))) hgn6).trans m1, (Below.cell (Below.drew ((Below.refl w6.heap.size w6).alloc (Nat.le_refl _) (.cells (ints [a, b, c]).toArray 58))) hgn6).trans m2⟩) (fun hH => ?_)
                            replace hH := hH (by decide)
                            clear hK K
                            (try simp only [Act.put, List.getElem_toArray, List.getElem_cons_succ, List.getElem_cons_zero, List.setIfInBounds_toArray, List.set_cons_zero, List.set_cons_succ])
                            refine wpAnyZ_one (i := 13) (by kernel_rfl) ?_
                            refine zstep rfl (fun K hK => ?_)
                            refine step_append_any _ rfl (.tmp 128) (.tmp 139) 25 rfl (w.heap.size + 1) 58 q0 _ 3 24 Tryd.underlying25 hq0 hqz hq1 hq2 rfl (by decide) (.slice af nf cf) i.cars.length (carCells i.cars) (by rfl) (own_below HHE.out.cars (Below.drew ((Below.refl w6.heap.size w6).alloc (Nat.le_refl _) (.cells (ints [a, b, c]).toArray 58)))) (w6.heap.size + 1) (some ⟨w6.heap.size, 0, none⟩) 1 1 (ints [a, b, c]) (by rfl) (Reads.drew (reads_new _ _ _)) (ints_one _) (by unfold maxLen; omega) (by omega) (by simp; omega) ?_
                            intro v' w7 hown' hgrow hob
                            obtain ⟨ao, nn, capn, rfl⟩ := own_slice hown'
                            have hbx := (HHE.out.below (Below.drew ((Below.refl w6.heap.size w6).alloc (Nat.le_refl _) (.cells (ints [a, b, c]).toArray 58)))).box_car hgrow
                            have d0 : w7.cell? ⟨w.heap.size + 1, 0, none⟩ = some (.slice af nf cf) := by rw [Lib.cell_of_heap hbx]; rfl
                            have e0 : w7.frozen? ⟨w.heap.size + 1, 0, none⟩ = false := Lib.frozen_of_heap hbx 0
                            have zw7 : w.heap.size + 1 < w7.heap.size := (Array.getElem?_eq_some_iff.1 hbx).1
                            have hkc : ∀ j, w7.cell? ⟨gn, j, none⟩ = w6.cell? ⟨gn, j, none⟩ := fun j => by
                              rw [World.cell?_of_block (hgrow.block gn (Nat.lt_of_lt_of_le hgn6 (Below.size (Below.drew ((Below.refl w6.heap.size w6).alloc (Nat.le_refl _) (.cells (ints [a, b, c]).toArray 58))))) (fun e => HGV.out gn e.symm rfl))]
                              exact Below.cell (Below.drew ((Below.refl w6.heap.size w6).alloc (Nat.le_refl _) (.cells (ints [a, b, c]).toArray 58))) hgn6
                            have HO := Lib.hid hown'
                            have HG := Lib.hid hgrow
                            refine hK.out _ _ (fun _ => ⟨d0, (hkc 0).trans m0, (hkc 1).trans m1, (hkc 2).trans m2⟩) (fun hH => ?_)
                            replace hH := hH (by decide)
                            clear hK K hown' hgrow hob hbx hkc
                            (try simp only [Act.put, List.getElem_toArray, List.getElem_cons_succ, List.getElem_cons_zero, List.setIfInBounds_toArray, List.set_cons_zero, List.set_cons_succ])
                            refine wpAnyZ_take (i := 14) (v := ?_) rfl (by kernel_rfl) (by kernel_rfl) (by kernel_rfl) rfl (by kernel_rfl) (fun _ _ _ h => h) (gives_value (by rfl) ?_) (by assumption) ?_
                            rotate_left
                            · intro w hSw
                              (try dsimp only at hSw)
                              go_simp
                              (try with_reducible rfl)
                            (try simp only [Act.put, List.getElem_toArray, List.getElem_cons_succ, List.getElem_cons_zero, List.setIfInBounds_toArray, List.set_cons_zero, List.set_cons_succ])
                            refine wpAnyZ_one (i := 15) (by kernel_rfl) ?_
                            refine zstep rfl (fun K hK => ?_)
                            go_simp
                            refine hK.out _ _ (fun h => absurd rfl h) (fun hH => ?_)
                            clear hK K hH
                            (try simp only [Act.put, List.getElem_toArray, List.getElem_cons_succ, List.getElem_cons_zero, List.setIfInBounds_toArray, List.set_cons_zero, List.set_cons_succ])
                            refine wpAnyZ_done (by kernel_rfl) ?_ _
                            have HH8 := Lib.hid ((HHE.out.below (Below.drew ((Below.refl w6.heap.size w6).alloc (Nat.le_refl _) (.cells (ints [a, b, c]).toArray 58)))).put_car ⟨a, b, c⟩ HO.out HG.out)
                            have HB8 := Lib.hid (((HBB.out.trans (HW6.out.mono (by have := HBB.out.size; omega))).trans (Below.mono (Below.drew ((Below.refl w6.heap.size w6).alloc (Nat.le_refl _) (.cells (ints [a, b, c]).toArray 58))) (by omega))).grown HG.out (by simp; omega) (fun q hq => (own_typed HHE.out.cars hq).2))
                            clear HHE HO HG d0 e0 f0 m0 m1 m2
                            go_wp2
                            go_roundw
                            case rel => exact ⟨rs, 0, m - 1, 1, addL i 0 ns, rfl, rfl, .inr rfl, by omega, by omega, HPN.out, by rw [HNS.out]; exact HH8.out, HB8.out.setCell (Nat.le_refl _) _, by have := total_add i 0 ns; omega⟩
                            case measure => simp [lenS]; omega
                      · skip
                        by_cases hback : 1 < k
                        · have HPN := Lib.hid (HP.out.trans (parseF_if_back htm HE1.out (by rw [HCUT.out]; exact HLK.out) hback))
                          have u1 : decide ((2 : Int) < (st : Int)) = true := decide_eq_true (by omega)
                          clear HLK
                          have r0 := HR5.out.1 0 (by omega)
                          have r1 := HR5.out.1 1 (by omega)
                          have r2 := HR5.out.1 2 (by omega)
                          have r3 := HR5.out.1 3 (by omega)
                          have g0 := HR5.out.2 0 (by omega)
                          have g1 := HR5.out.2 1 (by omega)
                          have g2 := HR5.out.2 2 (by omega)
                          have g3 := HR5.out.2 3 (by omega)
                          go_wp2
                          refine bodyPost_ret (v := .tuple #[.agg #[.slice none 0 0, .slice none 0 0, .slice none 0 0, .slice none 0 0], .int .i64 2]) (by simp [results, Tryd.results22, go_sem, r0, r1, r2, r3]) rfl ⟨((((HWW5.out.setCell (p := ⟨w.heap.size, 0, none⟩) (Nat.le_refl _) _).setCell (p := ⟨w.heap.size, 1, none⟩) (Nat.le_refl _) _).setCell (p := ⟨w.heap.size, 2, none⟩) (Nat.le_refl _) _).setCell (p := ⟨w.heap.size, 3, none⟩) (Nat.le_refl _) _), .inl ⟨HPN.out, rfl⟩⟩
                        · have u1 : decide ((2 : Int) < (st : Int)) = false := decide_eq_false (by omega)
                          by_cases hlen : ns.length = 4
                          case neg =>
                            have HPN := Lib.hid (HP.out.trans (parseF_none htm HE1.out (by rw [HCUT.out]; exact HLK.out.trans (if_neg (by have := HNL.out; show ¬ (l.length == 4) = true; rw [beq_iff_eq]; omega)))))
                            have u2 : ((ns.length : Int) != 4) = true := by rw [bne_iff_ne]; omega
                            clear HLK
                            have HW6 : Hid (Below wr.heap.size wr (w5.alloc (.cells #[.int .i64 0, .int .i64 3, .int .i64 4, .int .i64 2] 3))) := HW5.out.alloc HW5.out.size _
                            have HWW6 : Hid (Below w.heap.size w (w5.alloc (.cells #[.int .i64 0, .int .i64 3, .int .i64 4, .int .i64 2] 3))) := HWW5.out.alloc HWW5.out.size _
                            have HR6 := Lib.hid (HRB.out.below HW6.out).nilR
                            have r0 := HR6.out.1 0 (by omega)
                            have r1 := HR6.out.1 1 (by omega)
                            have r2 := HR6.out.1 2 (by omega)
                            have r3 := HR6.out.1 3 (by omega)
                            have g0 := HR6.out.2 0 (by omega)
                            have g1 := HR6.out.2 1 (by omega)
                            have g2 := HR6.out.2 2 (by omega)
                            have g3 := HR6.out.2 3 (by omega)
                            go_wp2
                            refine bodyPost_ret (v := .tuple #[.agg #[.slice none 0 0, .slice none 0 0, .slice none 0 0, .slice none 0 0], .int .i64 2]) (by simp [results, Tryd.results22, go_sem, r0, r1, r2, r3]) rfl ⟨((((HWW6.out.setCell (p := ⟨w.heap.size, 0, none⟩) (Nat.le_refl _) _).setCell (p := ⟨w.heap.size, 1, none⟩) (Nat.le_refl _) _).setCell (p := ⟨w.heap.size, 2, none⟩) (Nat.le_refl _) _).setCell (p := ⟨w.heap.size, 3, none⟩) (Nat.le_refl _) _), .inl ⟨HPN.out, rfl⟩⟩
                          case pos =>
                            have HPN := Lib.hid (HP.out.trans (parseF_step htm HE1.out (by rw [HCUT.out]) (by rw [HCUT.out]; exact HLK.out.trans (if_pos (by have := HNL.out; show (l.length == 4) = true; rw [beq_iff_eq]; omega))) hback))
                            rw [HCUT.out] at HPN
                            have u2 : ((ns.length : Int) != 4) = false := by rw [bne_eq_false_iff_eq]; omega
                            clear HLK
                            have HW6 : Hid (Below wr.heap.size wr (w5.alloc (.cells #[.int .i64 0, .int .i64 3, .int .i64 4, .int .i64 2] 3))) := HW5.out.alloc HW5.out.size _
                            go_upto_region 35 with (fail)
                            generalize w5.alloc (.cells #[.int .i64 0, .int .i64 3, .int .i64 4, .int .i64 2] 3) = w6 at *
                            obtain ⟨a, b, c, d, hns⟩ := four_of hlen
                            obtain ⟨gn, rfl, hgl, hnc⟩ := hgn (by omega)
                            have hgw1 := (own_typed HOW.out (g := gn) rfl).2
                            rw [hns] at hnc
                            obtain ⟨vc, vs, vp, vt, us, hheld⟩ := (HH2.out.below HW6.out)
                            obtain ⟨af, nf, cf, rfl⟩ := own_slice hheld.stops
                            have HHE := Lib.hid hheld
                            have f0 : w6.cell? ⟨w.heap.size + 1, 1, none⟩ = some (.slice af nf cf) := by rw [Lib.cell_of_heap hheld.box]; rfl
                            have hI : w.heap.size + 1 < w6.heap.size := (Array.getElem?_eq_some_iff.1 hheld.box).1
                            have z6 := HW6.out.size
                            have hgn6 : gn < w6.heap.size := by omega
                            have m0 : w6.cell? ⟨gn, 0, none⟩ = some (.int .i64 a) := by rw [HW6.out.cell hgl]; exact hnc 0 _ (by simp [ints])
                            have m1 : w6.cell? ⟨gn, 1, none⟩ = some (.int .i64 b) := by rw [HW6.out.cell hgl]; exact hnc 1 _ (by simp [ints])
                            have m2 : w6.cell? ⟨gn, 2, none⟩ = some (.int .i64 c) := by rw [HW6.out.cell hgl]; exact hnc 2 _ (by simp [ints])
                            have m3 : w6.cell? ⟨gn, 3, none⟩ = some (.int .i64 d) := by rw [HW6.out.cell hgl]; exact hnc 3 _ (by simp [ints])
                            have htyn : Typed w6 gn 3 := (own_typed HOW.out (g := gn) rfl).1.below HW6.out
                            have hgnI : gn ≠ w.heap.size + 1 := typed_ne htyn hheld.typedI (by decide)
                            have hgv : ∀ q, (Value.slice af nf cf).ownBlock = some q → gn ≠ q := fun q hq => typed_ne htyn (own_typed hheld.stops hq).1 (by decide)
                            have HGV := Lib.hid hgv
                            have hli : i.stops.length ≤ 100000000 := by unfold total at htot; omega
                            have HNS := Lib.hid hns
                            clear hheld hnc hgn htyn hgv hns
                            obtain ⟨q0, hq0, hqz, hq1, hq2⟩ := info_parts stop_info
                            refine wp_region_z (S := (fun w' => w'.cell? ⟨w.heap.size + 1, 1, none⟩ = some (.slice af nf cf) ∧ w'.cell? ⟨gn, 0, none⟩ = some (.int .i64 a) ∧ w'.cell? ⟨gn, 1, none⟩ = some (.int .i64 b) ∧ w'.cell? ⟨gn, 2, none⟩ = some (.int .i64 c) ∧ w'.cell? ⟨gn, 3, none⟩ = some (.int .i64 d))) (z := 18) (by kernel_rfl) ⟨f0, m0, m1, m2, m3⟩ (fun hH => ?_)
                            refine wpAnyZ_take (i := 0) (v := ?_) rfl (by kernel_rfl) (by kernel_rfl) (by kernel_rfl) rfl (by kernel_rfl) (fun _ _ _ h => h) (gives_value (by rfl) ?_) (by assumption) ?_
                            rotate_left
                            · intro w hSw
                              (try dsimp only at hSw)
                              go_simp
                              (try with_reducible rfl)
                            (try simp only [Act.put, List.getElem_toArray, List.getElem_cons_succ, List.getElem_cons_zero, List.setIfInBounds_toArray, List.set_cons_zero, List.set_cons_succ])
                            refine wpAnyZ_take (i := 1) (v := ?_) rfl (by kernel_rfl) (by kernel_rfl) (by kernel_rfl) rfl (by kernel_rfl) (fun _ _ _ h => h) (gives_value (by rfl) ?_) (by assumption) ?_
                            rotate_left
                            · intro w hSw
                              (try dsimp only at hSw)
                              go_simp
                              (try with_reducible rfl)
                            (try simp only [Act.put, List.getElem_toArray, List.getElem_cons_succ, List.getElem_cons_zero, List.setIfInBounds_toArray, List.set_cons_zero, List.set_cons_succ])
                            refine wpAnyZ_take (i := 2) (v := ?_) rfl (by kernel_rfl) (by kernel_rfl) (by kernel_rfl) rfl (by kernel_rfl) (fun _ _ _ h => h) (gives_value (by rfl) ?_) (by assumption) ?_
                            rotate_left
                            · intro w hSw
                              (try dsimp only at hSw)
                              go_simp
                              (try with_reducible rfl)
                            (try simp only [Act.put, List.getElem_toArray, List.getElem_cons_succ, List.getElem_cons_zero, List.setIfInBounds_toArray, List.set_cons_zero, List.set_cons_succ])
                            refine wpAnyZ_take (i := 3) (v := ?_) rfl (by kernel_rfl) (by kernel_rfl) (by kernel_rfl) rfl (by kernel_rfl) (fun _ _ _ h => h) (gives_value (by rfl) ?_) (by assumption) ?_
                            rotate_left
                            · intro w hSw
                              (try dsimp only at hSw)
                              go_simp
                              (try with_reducible rfl)
                            (try simp only [Act.put, List.getElem_toArray, List.getElem_cons_succ, List.getElem_cons_zero, List.setIfInBounds_toArray, List.set_cons_zero, List.set_cons_succ])
                            refine wpAnyZ_take (i := 4) (v := ?_) rfl (by kernel_rfl) (by kernel_rfl) (by kernel_rfl) rfl (by kernel_rfl) (fun _ _ _ h => h) (gives_value (by rfl) ?_) (by assumption) ?_
                            rotate_left
                            · intro w hSw
                              (try dsimp only at hSw)
                              go_simp
                              (try with_reducible rfl)
                            (try simp only [Act.put, List.getElem_toArray, List.getElem_cons_succ, List.getElem_cons_zero, List.setIfInBounds_toArray, List.set_cons_zero, List.set_cons_succ])
                            refine wpAnyZ_take (i := 5) (v := ?_) rfl (by kernel_rfl) (by kernel_rfl) (by kernel_rfl) rfl (by kernel_rfl) (fun _ _ _ h => h) (gives_value (by rfl) ?_) (by assumption) ?_
                            rotate_left
                            · intro w hSw
                              (try dsimp only at hSw)
                              go_simp
                              (try with_reducible rfl)
                            (try simp only [Act.put, List.getElem_toArray, List.getElem_cons_succ, List.getElem_cons_zero, List.setIfInBounds_toArray, List.set_cons_zero, List.set_cons_succ])
                            refine wpAnyZ_take (i := 6) (v := ?_) rfl (by kernel_rfl) (by kernel_rfl) (by kernel_rfl) rfl (by kernel_rfl) (fun _ _ _ h => h) (gives_value (by rfl) ?_) (by assumption) ?_
                            rotate_left
                            · intro w hSw
                              (try dsimp only at hSw)
                              go_simp
                              (try with_reducible rfl)
                            (try simp only [Act.put, List.getElem_toArray, List.getElem_cons_succ, List.getElem_cons_zero, List.setIfInBounds_toArray, List.set_cons_zero, List.set_cons_succ])
                            refine wpAnyZ_take (i := 7) (v := ?_) rfl (by kernel_rfl) (by kernel_rfl) (by kernel_rfl) rfl (by kernel_rfl) (fun _ _ _ h => h) (gives_value (by rfl) ?_) (by assumption) ?_
                            rotate_left
                            · intro w hSw
                              (try dsimp only at hSw)
                              go_simp
                              (try with_reducible rfl)
                            (try simp only [Act.put, List.getElem_toArray, List.getElem_cons_succ, List.getElem_cons_zero, List.setIfInBounds_toArray, List.set_cons_zero, List.set_cons_succ])
                            refine wpAnyZ_take (i := 8) (v := ?_) rfl (by kernel_rfl) (by kernel_rfl) (by kernel_rfl) rfl (by kernel_rfl) (fun _ _ _ h => h) (gives_value (by rfl) ?_) (by assumption) ?_
                            rotate_left
                            · intro w hSw
                              (try dsimp only at hSw)
                              go_simp
                              (try with_reducible rfl)
                            (try simp only [Act.put, List.getElem_toArray, List.getElem_cons_succ, List.getElem_cons_zero, List.setIfInBounds_toArray, List.set_cons_zero, List.set_cons_succ])
                            refine wpAnyZ_take (i := 9) (v := ?_) rfl (by kernel_rfl) (by kernel_rfl) (by kernel_rfl) rfl (by kernel_rfl) (fun _ _ _ h => h) (gives_value (by rfl) ?_) (by assumption) ?_
                            rotate_left
                            · intro w hSw
                              (try dsimp only at hSw)
                              go_simp
                              (try with_reducible rfl)
                            (try simp only [Act.put, List.getElem_toArray, List.getElem_cons_succ, List.getElem_cons_zero, List.setIfInBounds_toArray, List.set_cons_zero, List.set_cons_succ])
                            refine wpAnyZ_take (i := 10) (v := ?_) rfl (by kernel_rfl) (by kernel_rfl) (by kernel_rfl) rfl (by kernel_rfl) (fun _ _ _ h => h) (gives_value (by rfl) ?_) (by assumption) ?_
                            rotate_left
                            · intro w hSw
                              (try dsimp only at hSw)
                              go_simp
                              (try with_reducible rfl)
                            (try simp only [Act.put, List.getElem_toArray, List.getElem_cons_succ, List.getElem_cons_zero, List.setIfInBounds_toArray, List.set_cons_zero, List.set_cons_succ])
                            refine wpAnyZ_take (i := 11) (v := ?_) rfl (by kernel_rfl) (by kernel_rfl) (by kernel_rfl) rfl (by kernel_rfl) (fun _ _ _ h => h) (gives_value (by rfl) ?_) (by assumption) ?_
                            rotate_left
                            · intro w hSw
                              (try dsimp only at hSw)
                              go_simp
                              (try with_reducible rfl)
                            (try simp only [Act.put, List.getElem_toArray, List.getElem_cons_succ, List.getElem_cons_zero, List.setIfInBounds_toArray, List.set_cons_zero, List.set_cons_succ])
                            refine wpAnyZ_take (i := 12) (v := ?_) rfl (by kernel_rfl) (by kernel_rfl) (by kernel_rfl) rfl (by kernel_rfl) (fun _ _ _ h => h) (gives_value (by rfl) ?_) (by assumption) ?_
                            rotate_left
                            · intro w hSw
                              (try dsimp only at hSw)
                              go_simp
                              (try with_reducible rfl)
                            (try simp only [Act.put, List.getElem_toArray, List.getElem_cons_succ, List.getElem_cons_zero, List.setIfInBounds_toArray, List.set_cons_zero, List.set_cons_succ])
                            refine wpAnyZ_take (i := 13) (v := ?_) rfl (by kernel_rfl) (by kernel_rfl) (by kernel_rfl) rfl (by kernel_rfl) (fun _ _ _ h => h) (gives_value (by rfl) ?_) (by assumption) ?_
                            rotate_left
                            · intro w hSw
                              (try dsimp only at hSw)
                              go_simp
                              (try with_reducible rfl)
                            (try simp only [Act.put, List.getElem_toArray, List.getElem_cons_succ, List.getElem_cons_zero, List.setIfInBounds_toArray, List.set_cons_zero, List.set_cons_succ])
                            refine wpAnyZ_take (i := 14) (v := ?_) rfl (by kernel_rfl) (by kernel_rfl) (by kernel_rfl) rfl (by kernel_rfl) (fun _ _ _ h => h) (gives_value (by rfl) ?_) (by assumption) ?_
                            rotate_left
                            · intro w hSw
                              (try dsimp only at hSw)
                              go_simp
                              (try with_reducible rfl)
                            (try simp only [Act.put, List.getElem_toArray, List.getElem_cons_succ, List.getElem_cons_zero, List.setIfInBounds_toArray, List.set_cons_zero, List.set_cons_succ])
                            refine wpAnyZ_one (i := 15) (by kernel_rfl) ?_
                            refine zstep rfl (fun K hK => ?_)
                            go_simp
                            refine hK.out _ _ (fun _ => ⟨(Below.cell (Below.drew ((Below.refl w6.heap.size w6).alloc (Nat.le_refl _) (.cells (ints [a, b, c, d]).toArray 61))) hI).trans f0, (Below.cell (Below.drew ((Below.refl w6.heap.size w6).alloc (Nat.le_refl _) (.cells (ints [a, b, c, d]).toArray 61))) hgn6).trans m0, (Below.cell (Below.drew ((Below.refl w6.heap.size w6).alloc (Nat.le_refl _) (.cells (ints [a, b, c, d]).toArray 61))) hgn6).trans m1, (Below.cell (Below.drew ((Below.refl w6.heap.size w6).alloc (Nat.le_refl _) (.cells (ints [a, b, c, d]).toArray 61))) hgn6).trans m2, (Below.cell (Below.drew ((Below.refl w6.heap.size w6).alloc (Nat.le_refl _) (.cells (ints [a, b, c, d]).toArray 61))) hgn6).trans m3⟩) (fun hH => ?_)
                            replace hH := hH (by decide)
                            clear hK K
                            (try simp only [Act.put, List.getElem_toArray, List.getElem_cons_succ, List.getElem_cons_zero, List.setIfInBounds_toArray, List.set_cons_zero, List.set_cons_succ])
                            refine wpAnyZ_one (i := 16) (by kernel_rfl) ?_
                            refine zstep rfl (fun K hK => ?_)
                            refine step_append_any _ rfl (.tmp 145) (.tmp 159) 26 rfl (w.heap.size + 1) 61 q0 _ 4 32 Tryd.underlying26 hq0 hqz hq1 hq2 rfl (by decide) (.slice af nf cf) i.stops.length (stopCells i.stops) (by rfl) (own_below HHE.out.stops (Below.drew ((Below.refl w6.heap.size w6).alloc (Nat.le_refl _) (.cells (ints [a, b, c, d]).toArray 61)))) (w6.heap.size + 1) (some ⟨w6.heap.size, 0, none⟩) 1 1 (ints [a, b, c, d]) (by rfl) (Reads.drew (reads_new _ _ _)) (ints_one _) (by unfold maxLen; omega) (by omega) (by simp; omega) ?_
                            intro v' w7 hown' hgrow hob
                            obtain ⟨ao, nn, capn, rfl⟩ := own_slice hown'
                            have hbx := (HHE.out.below (Below.drew ((Below.refl w6.heap.size w6).alloc (Nat.le_refl _) (.cells (ints [a, b, c, d]).toArray 61)))).box_stop hgrow
                            have d0 : w7.cell? ⟨w.heap.size + 1, 1, none⟩ = some (.slice af nf cf) := by rw [Lib.cell_of_heap hbx]; rfl
                            have e0 : w7.frozen? ⟨w.heap.size + 1, 1, none⟩ = false := Lib.frozen_of_heap hbx 1
                            have zw7 : w.heap.size + 1 < w7.heap.size := (Array.getElem?_eq_some_iff.1 hbx).1
                            have hkc : ∀ j, w7.cell? ⟨gn, j, none⟩ = w6.cell? ⟨gn, j, none⟩ := fun j => by
                              rw [World.cell?_of_block (hgrow.block gn (Nat.lt_of_lt_of_le hgn6 (Below.size (Below.drew ((Below.refl w6.heap.size w6).alloc (Nat.le_refl _) (.cells (ints [a, b, c, d]).toArray 61))))) (fun e => HGV.out gn e.symm rfl))]
                              exact Below.cell (Below.drew ((Below.refl w6.heap.size w6).alloc (Nat.le_refl _) (.cells (ints [a, b, c, d]).toArray 61))) hgn6
                            have HO := Lib.hid hown'
                            have HG := Lib.hid hgrow
                            refine hK.out _ _ (fun _ => ⟨d0, (hkc 0).trans m0, (hkc 1).trans m1, (hkc 2).trans m2, (hkc 3).trans m3⟩) (fun hH => ?_)
                            replace hH := hH (by decide)
                            clear hK K hown' hgrow hob hbx hkc
                            (try simp only [Act.put, List.getElem_toArray, List.getElem_cons_succ, List.getElem_cons_zero, List.setIfInBounds_toArray, List.set_cons_zero, List.set_cons_succ])
                            refine wpAnyZ_take (i := 17) (v := ?_) rfl (by kernel_rfl) (by kernel_rfl) (by kernel_rfl) rfl (by kernel_rfl) (fun _ _ _ h => h) (gives_value (by rfl) ?_) (by assumption) ?_
                            rotate_left
                            · intro w hSw
                              (try dsimp only at hSw)
                              go_simp
                              (try with_reducible rfl)
                            (try simp only [Act.put, List.getElem_toArray, List.getElem_cons_succ, List.getElem_cons_zero, List.setIfInBounds_toArray, List.set_cons_zero, List.set_cons_succ])
                            refine wpAnyZ_one (i := 18) (by kernel_rfl) ?_
                            refine zstep rfl (fun K hK => ?_)
                            go_simp
                            refine hK.out _ _ (fun h => absurd rfl h) (fun hH => ?_)
                            clear hK K hH
                            (try simp only [Act.put, List.getElem_toArray, List.getElem_cons_succ, List.getElem_cons_zero, List.setIfInBounds_toArray, List.set_cons_zero, List.set_cons_succ])
                            refine wpAnyZ_done (by kernel_rfl) ?_ _
                            have HH8 := Lib.hid ((HHE.out.below (Below.drew ((Below.refl w6.heap.size w6).alloc (Nat.le_refl _) (.cells (ints [a, b, c, d]).toArray 61)))).put_stop ⟨a, b, c, d⟩ HO.out HG.out)
                            have HB8 := Lib.hid (((HBB.out.trans (HW6.out.mono (by have := HBB.out.size; omega))).trans (Below.mono (Below.drew ((Below.refl w6.heap.size w6).alloc (Nat.le_refl _) (.cells (ints [a, b, c, d]).toArray 61))) (by omega))).grown HG.out (by simp; omega) (fun q hq => (own_typed HHE.out.stops hq).2))
                            clear HHE HO HG d0 e0 f0 m0 m1 m2 m3
                            go_wp2
                            go_roundw
                            case rel => exact ⟨rs, 1, m - 1, 2, addL i 1 ns, rfl, rfl, .inr rfl, by omega, by omega, HPN.out, by rw [HNS.out]; exact HH8.out, HB8.out.setCell (Nat.le_refl _) _, by have := total_add i 1 ns; omega⟩
                            case measure => simp [lenS]; omega
                      · skip
                        by_cases hback : 2 < k
                        · have HPN := Lib.hid (HP.out.trans (parseF_if_back htm HE1.out (by rw [HCUT.out]; exact HLK.out) hback))
                          have u1 : decide ((3 : Int) < (st : Int)) = true := decide_eq_true (by omega)
                          clear HLK
                          have r0 := HR5.out.1 0 (by omega)
                          have r1 := HR5.out.1 1 (by omega)
                          have r2 := HR5.out.1 2 (by omega)
                          have r3 := HR5.out.1 3 (by omega)
                          have g0 := HR5.out.2 0 (by omega)
                          have g1 := HR5.out.2 1 (by omega)
                          have g2 := HR5.out.2 2 (by omega)
                          have g3 := HR5.out.2 3 (by omega)
                          go_wp2
                          refine bodyPost_ret (v := .tuple #[.agg #[.slice none 0 0, .slice none 0 0, .slice none 0 0, .slice none 0 0], .int .i64 2]) (by simp [results, Tryd.results22, go_sem, r0, r1, r2, r3]) rfl ⟨((((HWW5.out.setCell (p := ⟨w.heap.size, 0, none⟩) (Nat.le_refl _) _).setCell (p := ⟨w.heap.size, 1, none⟩) (Nat.le_refl _) _).setCell (p := ⟨w.heap.size, 2, none⟩) (Nat.le_refl _) _).setCell (p := ⟨w.heap.size, 3, none⟩) (Nat.le_refl _) _), .inl ⟨HPN.out, rfl⟩⟩
                        · have u1 : decide ((3 : Int) < (st : Int)) = false := decide_eq_false (by omega)
                          by_cases hlen : ns.length = 2
                          case neg =>
                            have HPN := Lib.hid (HP.out.trans (parseF_none htm HE1.out (by rw [HCUT.out]; exact HLK.out.trans (if_neg (by have := HNL.out; show ¬ (l.length == 2) = true; rw [beq_iff_eq]; omega)))))
                            have u2 : ((ns.length : Int) != 2) = true := by rw [bne_iff_ne]; omega
                            clear HLK
                            have HW6 : Hid (Below wr.heap.size wr (w5.alloc (.cells #[.int .i64 0, .int .i64 3, .int .i64 4, .int .i64 2] 3))) := HW5.out.alloc HW5.out.size _
                            have HWW6 : Hid (Below w.heap.size w (w5.alloc (.cells #[.int .i64 0, .int .i64 3, .int .i64 4, .int .i64 2] 3))) := HWW5.out.alloc HWW5.out.size _
                            have HR6 := Lib.hid (HRB.out.below HW6.out).nilR
                            have r0 := HR6.out.1 0 (by omega)
                            have r1 := HR6.out.1 1 (by omega)
                            have r2 := HR6.out.1 2 (by omega)
                            have r3 := HR6.out.1 3 (by omega)
                            have g0 := HR6.out.2 0 (by omega)
                            have g1 := HR6.out.2 1 (by omega)
                            have g2 := HR6.out.2 2 (by omega)
                            have g3 := HR6.out.2 3 (by omega)
                            go_wp2
                            refine bodyPost_ret (v := .tuple #[.agg #[.slice none 0 0, .slice none 0 0, .slice none 0 0, .slice none 0 0], .int .i64 2]) (by simp [results, Tryd.results22, go_sem, r0, r1, r2, r3]) rfl ⟨((((HWW6.out.setCell (p := ⟨w.heap.size, 0, none⟩) (Nat.le_refl _) _).setCell (p := ⟨w.heap.size, 1, none⟩) (Nat.le_refl _) _).setCell (p := ⟨w.heap.size, 2, none⟩) (Nat.le_refl _) _).setCell (p := ⟨w.heap.size, 3, none⟩) (Nat.le_refl _) _), .inl ⟨HPN.out, rfl⟩⟩
                          case pos =>
                            have HPN := Lib.hid (HP.out.trans (parseF_step htm HE1.out (by rw [HCUT.out]) (by rw [HCUT.out]; exact HLK.out.trans (if_pos (by have := HNL.out; show (l.length == 2) = true; rw [beq_iff_eq]; omega))) hback))
                            rw [HCUT.out] at HPN
                            have u2 : ((ns.length : Int) != 2) = false := by rw [bne_eq_false_iff_eq]; omega
                            clear HLK
                            have HW6 : Hid (Below wr.heap.size wr (w5.alloc (.cells #[.int .i64 0, .int .i64 3, .int .i64 4, .int .i64 2] 3))) := HW5.out.alloc HW5.out.size _
                            go_upto_region 37 with (fail)
                            generalize w5.alloc (.cells #[.int .i64 0, .int .i64 3, .int .i64 4, .int .i64 2] 3) = w6 at *
                            obtain ⟨a, b, hns⟩ := two_of hlen
                            obtain ⟨gn, rfl, hgl, hnc⟩ := hgn (by omega)
                            have hgw1 := (own_typed HOW.out (g := gn) rfl).2
                            rw [hns] at hnc
                            obtain ⟨vc, vs, vp, vt, us, hheld⟩ := (HH2.out.below HW6.out)
                            obtain ⟨af, nf, cf, rfl⟩ := own_slice hheld.pairs
                            have HHE := Lib.hid hheld
                            have f0 : w6.cell? ⟨w.heap.size + 1, 2, none⟩ = some (.slice af nf cf) := by rw [Lib.cell_of_heap hheld.box]; rfl
                            have hI : w.heap.size + 1 < w6.heap.size := (Array.getElem?_eq_some_iff.1 hheld.box).1
                            have z6 := HW6.out.size
                            have hgn6 : gn < w6.heap.size := by omega
                            have m0 : w6.cell? ⟨gn, 0, none⟩ = some (.int .i64 a) := by rw [HW6.out.cell hgl]; exact hnc 0 _ (by simp [ints])
                            have m1 : w6.cell? ⟨gn, 1, none⟩ = some (.int .i64 b) := by rw [HW6.out.cell hgl]; exact hnc 1 _ (by simp [ints])
                            have htyn : Typed w6 gn 3 := (own_typed HOW.out (g := gn) rfl).1.below HW6.out
                            have hgnI : gn ≠ w.heap.size + 1 := typed_ne htyn hheld.typedI (by decide)
                            have hgv : ∀ q, (Value.slice af nf cf).ownBlock = some q → gn ≠ q := fun q hq => typed_ne htyn (own_typed hheld.pairs hq).1 (by decide)
                            have HGV := Lib.hid hgv
                            have hli : i.pairs.length ≤ 100000000 := by unfold total at htot; omega
                            have HNS := Lib.hid hns
                            clear hheld hnc hgn htyn hgv hns
                            obtain ⟨q0, hq0, hqz, hq1, hq2⟩ := info_parts pair_info
                            refine wp_region_z (S := (fun w' => w'.cell? ⟨w.heap.size + 1, 2, none⟩ = some (.slice af nf cf) ∧ w'.cell? ⟨gn, 0, none⟩ = some (.int .i64 a) ∧ w'.cell? ⟨gn, 1, none⟩ = some (.int .i64 b))) (z := 12) (by kernel_rfl) ⟨f0, m0, m1⟩ (fun hH => ?_)
                            refine wpAnyZ_take (i := 0) (v := ?_) rfl (by kernel_rfl) (by kernel_rfl) (by kernel_rfl) rfl (by kernel_rfl) (fun _ _ _ h => h) (gives_value (by rfl) ?_) (by assumption) ?_
                            rotate_left
                            · intro w hSw
                              (try dsimp only at hSw)
                              go_simp
                              (try with_reducible rfl)
                            (try simp only [Act.put, List.getElem_toArray, List.getElem_cons_succ, List.getElem_cons_zero, List.setIfInBounds_toArray, List.set_cons_zero, List.set_cons_succ])
                            refine wpAnyZ_take (i := 1) (v := ?_) rfl (by kernel_rfl) (by kernel_rfl) (by kernel_rfl) rfl (by kernel_rfl) (fun _ _ _ h => h) (gives_value (by rfl) ?_) (by assumption) ?_
                            rotate_left
                            · intro w hSw
                              (try dsimp only at hSw)
                              go_simp
                              (try with_reducible rfl)
                            (try simp only [Act.put, List.getElem_toArray, List.getElem_cons_succ, List.getElem_cons_zero, List.setIfInBounds_toArray, List.set_cons_zero, List.set_cons_succ])
                            refine wpAnyZ_take (i := 2) (v := ?_) rfl (by kernel_rfl) (by kernel_rfl) (by kernel_rfl) rfl (by kernel_rfl) (fun _ _ _ h => h) (gives_value (by rfl) ?_) (by assumption) ?_
                            rotate_left
                            · intro w hSw
                              (try dsimp only at hSw)
                              go_simp
                              (try with_reducible rfl)
                            (try simp only [Act.put, List.getElem_toArray, List.getElem_cons_succ, List.getElem_cons_zero, List.setIfInBounds_toArray, List.set_cons_zero, List.set_cons_succ])
                            refine wpAnyZ_take (i := 3) (v := ?_) rfl (by kernel_rfl) (by kernel_rfl) (by kernel_rfl) rfl (by kernel_rfl) (fun _ _ _ h => h) (gives_value (by rfl) ?_) (by assumption) ?_
                            rotate_left
                            · intro w hSw
                              (try dsimp only at hSw)
                              go_simp
                              (try with_reducible rfl)
                            (try simp only [Act.put, List.getElem_toArray, List.getElem_cons_succ, List.getElem_cons_zero, List.setIfInBounds_toArray, List.set_cons_zero, List.set_cons_succ])
                            refine wpAnyZ_take (i := 4) (v := ?_) rfl (by kernel_rfl) (by kernel_rfl) (by kernel_rfl) rfl (by kernel_rfl) (fun _ _ _ h => h) (gives_value (by rfl) ?_) (by assumption) ?_
                            rotate_left
                            · intro w hSw
                              (try dsimp only at hSw)
                              go_simp
                              (try with_reducible rfl)
                            (try simp only [Act.put, List.getElem_toArray, List.getElem_cons_succ, List.getElem_cons_zero, List.setIfInBounds_toArray, List.set_cons_zero, List.set_cons_succ])
                            refine wpAnyZ_take (i := 5) (v := ?_) rfl (by kernel_rfl) (by kernel_rfl) (by kernel_rfl) rfl (by kernel_rfl) (fun _ _ _ h => h) (gives_value (by rfl) ?_) (by assumption) ?_
                            rotate_left
                            · intro w hSw
                              (try dsimp only at hSw)
                              go_simp
                              (try with_reducible rfl)
                            (try simp only [Act.put, List.getElem_toArray, List.getElem_cons_succ, List.getElem_cons_zero, List.setIfInBounds_toArray, List.set_cons_zero, List.set_cons_succ])
                            refine wpAnyZ_take (i := 6) (v := ?_) rfl (by kernel_rfl) (by kernel_rfl) (by kernel_rfl) rfl (by kernel_rfl) (fun _ _ _ h => h) (gives_value (by rfl) ?_) (by assumption) ?_
                            rotate_left
                            · intro w hSw
                              (try dsimp only at hSw)
                              go_simp
                              (try with_reducible rfl)
                            (try simp only [Act.put, List.getElem_toArray, List.getElem_cons_succ, List.getElem_cons_zero, List.setIfInBounds_toArray, List.set_cons_zero, List.set_cons_succ])
                            refine wpAnyZ_take (i := 7) (v := ?_) rfl (by kernel_rfl) (by kernel_rfl) (by kernel_rfl) rfl (by kernel_rfl) (fun _ _ _ h => h) (gives_value (by rfl) ?_) (by assumption) ?_
                            rotate_left
                            · intro w hSw
                              (try dsimp only at hSw)
                              go_simp
                              (try with_reducible rfl)
                            (try simp only [Act.put, List.getElem_toArray, List.getElem_cons_succ, List.getElem_cons_zero, List.setIfInBounds_toArray, List.set_cons_zero, List.set_cons_succ])
                            refine wpAnyZ_take (i := 8) (v := ?_) rfl (by kernel_rfl) (by kernel_rfl) (by kernel_rfl) rfl (by kernel_rfl) (fun _ _ _ h => h) (gives_value (by rfl) ?_) (by assumption) ?_
                            rotate_left
                            · intro w hSw
                              (try dsimp only at hSw)
                              go_simp
                              (try with_reducible rfl)
                            (try simp only [Act.put, List.getElem_toArray, List.getElem_cons_succ, List.getElem_cons_zero, List.setIfInBounds_toArray, List.set_cons_zero, List.set_cons_succ])
                            refine wpAnyZ_one (i := 9) (by kernel_rfl) ?_
                            refine zstep rfl (fun K hK => ?_)
                            go_simp
                            refine hK.out _ _ (fun _ => ⟨(Below.cell (Below.drew ((Below.refl w6.heap.size w6).alloc (Nat.le_refl _) (.cells (ints [a, b]).toArray 62))) hI).trans f0, (Below.cell (Below.drew ((Below.refl w6.heap.size w6).alloc (Nat.le_refl _) (.cells (ints [a, b]).toArray 62))) hgn6).trans m0, (Below.cell (Below.drew ((Below.refl w6.heap.size w6).alloc (Nat.le_refl _) (.cells (ints [a, b]).toArray 62))) hgn6).trans m1⟩) (fun hH => ?_)
                            replace hH := hH (by decide)
                            clear hK K
                            (try simp only [Act.put, List.getElem_toArray, List.getElem_cons_succ, List.getElem_cons_zero, List.setIfInBounds_toArray, List.set_cons_zero, List.set_cons_succ])
                            refine wpAnyZ_one (i := 10) (by kernel_rfl) ?_
                            refine zstep rfl (fun K hK => ?_)
                            refine step_append_any _ rfl (.tmp 165) (.tmp 173) 27 rfl (w.heap.size + 1) 62 q0 _ 2 16 Tryd.underlying27 hq0 hqz hq1 hq2 rfl (by decide) (.slice af nf cf) i.pairs.length (pairCells i.pairs) (by rfl) (own_below HHE.out.pairs (Below.drew ((Below.refl w6.heap.size w6).alloc (Nat.le_refl _) (.cells (ints [a, b]).toArray 62)))) (w6.heap.size + 1) (some ⟨w6.heap.size, 0, none⟩) 1 1 (ints [a, b]) (by rfl) (Reads.drew (reads_new _ _ _)) (ints_one _) (by unfold maxLen; omega) (by omega) (by simp; omega) ?_
                            intro v' w7 hown' hgrow hob
                            obtain ⟨ao, nn, capn, rfl⟩ := own_slice hown'
                            have hbx := (HHE.out.below (Below.drew ((Below.refl w6.heap.size w6).alloc (Nat.le_refl _) (.cells (ints [a, b]).toArray 62)))).box_pair hgrow
                            have d0 : w7.cell? ⟨w.heap.size + 1, 2, none⟩ = some (.slice af nf cf) := by rw [Lib.cell_of_heap hbx]; rfl
                            have e0 : w7.frozen? ⟨w.heap.size + 1, 2, none⟩ = false := Lib.frozen_of_heap hbx 2
                            have zw7 : w.heap.size + 1 < w7.heap.size := (Array.getElem?_eq_some_iff.1 hbx).1
                            have hkc : ∀ j, w7.cell? ⟨gn, j, none⟩ = w6.cell? ⟨gn, j, none⟩ := fun j => by
                              rw [World.cell?_of_block (hgrow.block gn (Nat.lt_of_lt_of_le hgn6 (Below.size (Below.drew ((Below.refl w6.heap.size w6).alloc (Nat.le_refl _) (.cells (ints [a, b]).toArray 62))))) (fun e => HGV.out gn e.symm rfl))]
                              exact Below.cell (Below.drew ((Below.refl w6.heap.size w6).alloc (Nat.le_refl _) (.cells (ints [a, b]).toArray 62))) hgn6
                            have HO := Lib.hid hown'
                            have HG := Lib.hid hgrow
                            refine hK.out _ _ (fun _ => ⟨d0, (hkc 0).trans m0, (hkc 1).trans m1⟩) (fun hH => ?_)
                            replace hH := hH (by decide)
                            clear hK K hown' hgrow hob hbx hkc
                            (try simp only [Act.put, List.getElem_toArray, List.getElem_cons_succ, List.getElem_cons_zero, List.setIfInBounds_toArray, List.set_cons_zero, List.set_cons_succ])
                            refine wpAnyZ_take (i := 11) (v := ?_) rfl (by kernel_rfl) (by kernel_rfl) (by kernel_rfl) rfl (by kernel_rfl) (fun _ _ _ h => h) (gives_value (by rfl) ?_) (by assumption) ?_
                            rotate_left
                            · intro w hSw
                              (try dsimp only at hSw)
                              go_simp
                              (try with_reducible rfl)
                            (try simp only [Act.put, List.getElem_toArray, List.getElem_cons_succ, List.getElem_cons_zero, List.setIfInBounds_toArray, List.set_cons_zero, List.set_cons_succ])
                            refine wpAnyZ_one (i := 12) (by kernel_rfl) ?_
                            refine zstep rfl (fun K hK => ?_)
                            go_simp
                            refine hK.out _ _ (fun h => absurd rfl h) (fun hH => ?_)
                            clear hK K hH
                            (try simp only [Act.put, List.getElem_toArray, List.getElem_cons_succ, List.getElem_cons_zero, List.setIfInBounds_toArray, List.set_cons_zero, List.set_cons_succ])
                            refine wpAnyZ_done (by kernel_rfl) ?_ _
                            have HH8 := Lib.hid ((HHE.out.below (Below.drew ((Below.refl w6.heap.size w6).alloc (Nat.le_refl _) (.cells (ints [a, b]).toArray 62)))).put_pair ⟨a, b⟩ HO.out HG.out)
                            have HB8 := Lib.hid (((HBB.out.trans (HW6.out.mono (by have := HBB.out.size; omega))).trans (Below.mono (Below.drew ((Below.refl w6.heap.size w6).alloc (Nat.le_refl _) (.cells (ints [a, b]).toArray 62))) (by omega))).grown HG.out (by simp; omega) (fun q hq => (own_typed HHE.out.pairs hq).2))
                            clear HHE HO HG d0 e0 f0 m0 m1
                            go_wp2
                            go_roundw
                            case rel => exact ⟨rs, 2, m - 1, 3, addL i 2 ns, rfl, rfl, .inr rfl, by omega, by omega, HPN.out, by rw [HNS.out]; exact HH8.out, HB8.out.setCell (Nat.le_refl _) _, by have := total_add i 2 ns; omega⟩
                            case measure => simp [lenS]; omega
                      · skip
                        have hback : ¬ 3 < k := by omega
                        · have u1 : decide ((4 : Int) < (st : Int)) = false := decide_eq_false (by omega)
                          by_cases hlen : ns.length = 0
                          case pos =>
                            have HPN := Lib.hid (HP.out.trans (parseF_none htm HE1.out (by rw [HCUT.out]; exact HLK.out.trans (if_neg (by have := HNL.out; show ¬ decide (1 ≤ l.length) = true; rw [decide_eq_true_eq]; omega)))))
                            have u2 : ((ns.length : Int) == 0) = true := by rw [beq_iff_eq]; omega
                            clear HLK hlen
                            have r0 := HR5.out.1 0 (by omega)
                            have r1 := HR5.out.1 1 (by omega)
                            have r2 := HR5.out.1 2 (by omega)
                            have r3 := HR5.out.1 3 (by omega)
                            have g0 := HR5.out.2 0 (by omega)
                            have g1 := HR5.out.2 1 (by omega)
                            have g2 := HR5.out.2 2 (by omega)
                            have g3 := HR5.out.2 3 (by omega)
                            go_wp2
                            refine bodyPost_ret (v := .tuple #[.agg #[.slice none 0 0, .slice none 0 0, .slice none 0 0, .slice none 0 0], .int .i64 2]) (by simp [results, Tryd.results22, go_sem, r0, r1, r2, r3]) rfl ⟨((((HWW5.out.setCell (p := ⟨w.heap.size, 0, none⟩) (Nat.le_refl _) _).setCell (p := ⟨w.heap.size, 1, none⟩) (Nat.le_refl _) _).setCell (p := ⟨w.heap.size, 2, none⟩) (Nat.le_refl _) _).setCell (p := ⟨w.heap.size, 3, none⟩) (Nat.le_refl _) _), .inl ⟨HPN.out, rfl⟩⟩
                          case neg =>
                            have HPN := Lib.hid (HP.out.trans (parseF_step htm HE1.out (by rw [HCUT.out]) (by rw [HCUT.out]; exact HLK.out.trans (if_pos (by have := HNL.out; show decide (1 ≤ l.length) = true; exact decide_eq_true (by omega)))) hback))
                            rw [HCUT.out] at HPN
                            have u2 : ((ns.length : Int) == 0) = false := by rw [beq_eq_false_iff_ne]; omega
                            clear HLK
                            have HRS2 : Hid (RowSome w5 (w.heap.size + 1) (.slice An ns.length cn) ns) := (own_row (own_mono HOW.out (by omega)) rfl (by omega)).below HW5.out
                            obtain ⟨vc, vs, vp, vt, us, hheld⟩ := (HH2.out.below HW5.out)
                            obtain ⟨at', nt, ct, rfl⟩ := own_slice hheld.travel
                            have HV := Lib.hid hheld
                            have c3 : w5.cell? ⟨w.heap.size + 1, 3, none⟩ = some (.slice at' nt ct) := by rw [Lib.cell_of_heap hheld.box]; rfl
                            have hIv : w.heap.size + 1 < w5.heap.size := (Array.getElem?_eq_some_iff.1 hheld.box).1
                            obtain ⟨q0, hq0, hqz, hq1, hq2⟩ := info_parts row_info
                            have hli : i.travel.length ≤ 100000000 := by unfold total at htot; omega
                            clear hheld
                            go_wp2_with (at_builtin; refine wpList_append_any _ rfl _ _ 28 rfl (w.heap.size + 1) 42 q0 _ 1 24 Tryd.underlying28 hq0 hqz hq1 hq2 rfl (by decide) (.slice at' nt ct) i.travel.length us rfl (own_below HV.out.travel ((Below.refl _ _).alloc (Nat.le_refl _) _)) (w5.heap.size + 1) (some ⟨w5.heap.size, 0, none⟩) 1 1 [.slice An ns.length cn] rfl (reads_new _ _ _) (by intro x hx; simp at hx; subst hx; rfl) (by unfold maxLen; omega) (by omega) (by simp; omega) ?_)
                            intro v' w7 hown' hgrow hob
                            obtain ⟨ao, nn, capn, rfl⟩ := own_slice hown'
                            have hbx := (HV.out.below ((Below.refl _ _).alloc (Nat.le_refl _) _)).box_row hgrow
                            have d0 : w7.cell? ⟨w.heap.size + 1, 3, none⟩ = some (.slice at' nt ct) := by rw [Lib.cell_of_heap hbx]; rfl
                            have e0 : w7.frozen? ⟨w.heap.size + 1, 3, none⟩ = false := Lib.frozen_of_heap hbx 3
                            have zw7 : w.heap.size + 1 < w7.heap.size := (Array.getElem?_eq_some_iff.1 hbx).1
                            have HH8 := Lib.hid ((HV.out.below ((Below.refl _ _).alloc (Nat.le_refl _) _)).put_row ns _ (HRS2.out.below ((Below.refl _ _).alloc (Nat.le_refl _) _)) hown' hgrow)
                            have HB8 := Lib.hid (((HBB.out.trans (HW5.out.mono (by have := HBB.out.size; omega))).alloc (by omega) _).grown hgrow (by simp; omega) (fun q hq => (own_typed HV.out.travel hq).2))
                            clear hown' hgrow hob hbx c3
                            go_wp2
                            go_roundw
                            case rel => exact ⟨rs, 3, m - 1, 4, addL i 3 ns, rfl, rfl, .inr rfl, by omega, by omega, HPN.out, HH8.out, HB8.out.setCell (Nat.le_refl _) _, by have := total_add i 3 ns; omega⟩
                            case measure => simp [lenS]; omega
end Go.Proofs.YteibelmgebhleaaDoor
