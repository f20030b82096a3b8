/- The walk of InstParses: for any row of numbers, any numbers, any text of at most 1048576 bytes the law returns true; old memory stands. -/
import Derived.Test.YteibelmgebhleaaDoorParsesPlain
import Derived.Test.YteibelmgebhleaaDoorRefPrint
import Derived.Test.YteibelmgebhleaaDoorInstBackWalk
namespace Go.Proofs.YteibelmgebhleaaDoor
open Go.RowKit
set_option linter.unusedSimpArgs false
set_option maxRecDepth 100000

theorem nodup_len : ∀ (n : Nat) (l : List Int), l.Nodup → (∀ x ∈ l, 1 ≤ x ∧ x ≤ n) → l.length ≤ n
  | 0, l, _, h => by
    cases l with
    | nil => simp
    | cons x l => have := h x (by simp); omega
  | n + 1, l, hn, h => by
    by_cases hm : ((n : Int) + 1) ∈ l
    · have h1 := nodup_len n (l.erase ((n : Int) + 1)) (hn.erase _) (fun x hx => by
        have h2 := (hn.mem_erase_iff).1 hx
        have h3 := h x h2.2
        have h4 := h2.1
        omega)
      rw [List.length_erase_of_mem hm] at h1
      omega
    · have := nodup_len n l hn (fun x hx => by
        have h3 := h x hx
        have : x ≠ (n : Int) + 1 := fun e => hm (e ▸ hx)
        omega)
      omega
theorem pairs_few {i : Prob} (h : probOk i = true) : i.pairs.length ≤ 10 := by
  have hf := (fine_of h).stops
  simp only [probOk, Bool.and_eq_true] at h
  obtain ⟨hn, hin⟩ := flat_of h.1.2
  have h1 := nodup_len i.stops.length _ hn (fun x hx => (hin x hx).2)
  have h2 := flatP_len i.pairs
  omega
/-- what a text comes to, and its error -/
def outL (l : List UInt8) : Prob × Int := match parseL l with | none => (noProb, 2) | some i => if probOk i then (i, 0) else (noProb, 1)
def OutSaid (l : List UInt8) (w : World) (e : Ending) (w' : World) : Prop := ∃ (i : Prob) (A1 A2 A3 A4 : Option Addr) (c1 c2 c3 c4 : Nat) (cd : Int), e = .returned (.tuple #[.agg #[.slice A1 i.cars.length c1, .slice A2 i.stops.length c2, .slice A3 i.pairs.length c3, .slice A4 i.travel.length c4], .int .i64 cd]) ∧ Said w' A1 A2 A3 A4 c1 c2 c3 c4 i ∧ (i, cd) = outL l ∧ Below w.heap.size w w'
theorem said_none (w : World) : Said w none none none none 0 0 0 0 noProb := ⟨_, _, _, _, rfl, .nil, .nil, .nil, .nil⟩
theorem out_said {l : List UInt8} {w w' : World} {e : Ending} (h : ParseEnd l w e w') : OutSaid l w e w' := by
  obtain ⟨hb, ⟨hq, rfl⟩ | ⟨j, hq, ⟨ho, rfl⟩ | ⟨ho, v, rfl, hl⟩⟩⟩ := h
  · exact ⟨noProb, none, none, none, none, 0, 0, 0, 0, 2, rfl, said_none _, by unfold outL; rw [hq], hb⟩
  · exact ⟨noProb, none, none, none, none, 0, 0, 0, 0, 1, rfl, said_none _, by unfold outL; rw [hq]; simp [ho], hb⟩
  · obtain ⟨A1, A2, A3, A4, c1, c2, c3, c4, rfl, hs⟩ := hl.said
    exact ⟨j, A1, A2, A3, A4, c1, c2, c3, c4, 0, rfl, hs, by unfold outL; rw [hq]; simp [ho], hb⟩
theorem out_few {l : List UInt8} {i : Prob} {cd : Int} (h : (i, cd) = outL l) : Short i ∧ i.travel.length ≤ 1000000 ∧ ∀ r ∈ i.travel, r.length ≤ 1000000 := by
  have key : i = noProb ∨ probOk i = true := by
    unfold outL at h
    cases hp : parseL l with
    | none => rw [hp] at h; simp only [Prod.mk.injEq] at h; exact .inl h.1
    | some j =>
      rw [hp] at h
      simp only at h
      split at h
      · simp only [Prod.mk.injEq] at h; rw [h.1]; exact .inr (by assumption)
      · simp only [Prod.mk.injEq] at h; exact .inl h.1
  rcases key with rfl | hok
  · exact ⟨⟨by simp [noProb], by simp [noProb], by simp [noProb]⟩, by simp [noProb], fun r hr => by simp [noProb] at hr⟩
  · have hf := fine_of hok
    have h1 := hf.cars
    have h2 := hf.stops
    have h3 := hf.travel
    have h4 := pairs_few hok
    exact ⟨⟨by omega, by omega, by omega⟩, by omega, fun r hr => by have := hf.rowL r hr; omega⟩
theorem parse_out (s : ByteArray) (mx : Int) (w : World) (hs : s.size ≤ 100000000) (hn : Names w) (hm : w.cell? ⟨1, 0, none⟩ = some (.int .i64 mx)) (h1 : 1 < w.heap.size) :
    Calls Tryd.prog 9 #[.string s] w (OutSaid s.data.toList w) := (parse_any s mx w hs hn hm h1).mono fun _ _ h => out_said h
theorem ref_out (s : ByteArray) (w : World) (hs : s.size ≤ 100000000) :
    Calls Tryd.prog 22 #[.string s] w (OutSaid s.data.toList w) := (refParse_any s w hs).mono fun _ _ h => out_said h
theorem lits_at (r : Nat) (h : r < 8) : ∃ x : ByteArray, ([.string ⟨#[99, 97, 114, 32, 49, 32, 50, 32, 51, 10]⟩, .string ⟨#[115, 116, 111, 112, 32, 49, 32, 50, 32, 51, 32, 52, 10]⟩, .string ⟨#[112, 97, 105, 114, 32, 49, 32, 50, 10]⟩, .string ⟨#[114, 111, 119, 32, 48, 10]⟩, .string ⟨#[114, 111, 119, 10]⟩, .string ⟨#[32]⟩, .string ⟨#[10]⟩, .string ⟨#[48]⟩] : List Value)[r]'(by simpa using h) = .string x ∧ x.size ≤ 13 := by
  match r, h with
  | 0, _ => exact ⟨_, rfl, by decide⟩
  | 1, _ => exact ⟨_, rfl, by decide⟩
  | 2, _ => exact ⟨_, rfl, by decide⟩
  | 3, _ => exact ⟨_, rfl, by decide⟩
  | 4, _ => exact ⟨_, rfl, by decide⟩
  | 5, _ => exact ⟨_, rfl, by decide⟩
  | 6, _ => exact ⟨_, rfl, by decide⟩
  | 7, _ => exact ⟨_, rfl, by decide⟩
theorem car_text {c : Car} {l : List Car} : 1 ≤ (carsText (c :: l)).length := by
  simp only [carsText, List.flatMap_cons, List.length_append, lineText, List.length_cons, List.length_nil]; omega
theorem text_one {i : Prob} (h : probOk i = true) : 1 ≤ (probText i).length := by
  have hf := (fine_of h).cars
  cases hc : i.cars with
  | nil => rw [hc] at hf; simp at hf
  | cons c l =>
    have := car_text (c := c) (l := l)
    simp only [probText, hc, List.length_append]; omega

set_option maxHeartbeats 16000000 in
theorem parses_walk (v : Value) (l : List Int) (n m at' : Int) (s : ByteArray) (c : Int) (raw : Bool) (mx : Int) (w : World) (h : Recs w 1 num_ v l) (hl : l.length ≤ 9223372036854775807) (hs : s.size ≤ 1048576) (hn : Names w) (hm : w.cell? ⟨1, 0, none⟩ = some (.int .i64 mx)) (h1 : 1 < w.heap.size) :
    Calls Tryd.prog 5 #[v, .int .i64 n, .int .i64 m, .string s, .int .i64 at', .int .u8 c, .bool raw] w fun e w' => e = .returned (.bool true) ∧ Below w.heap.size w w' := by
  have HP := Lib.hid (play_said v l w h hl)
  have HN := Lib.hid hn
  have HM := Lib.hid hm
  obtain ⟨r, hr, hr6⟩ := within_nat n 6 (by omega)
  have HR0 := Lib.hid (fun W => within_call n 6 W (by omega) (by omega) _ hr)
  clear h hn hm hr
  go_enter Tryd.func5, Tryd.ntmps5
  go_wp2_with (go_at_call 21; fail)
  (with_reducible refine (HP.out).mono ?_)
  rintro e w1 ⟨i, A1, A2, A3, A4, c1, c2, c3, c4, rfl, hs1, hok, hs2, hs8, hp2, hb1⟩
  have HSH := Lib.hid (short_of hok (by omega))
  have HOK := Lib.hid hok
  have HS1 := Lib.hid hs1
  have HB1 := Lib.hid hb1
  have z1 := hb1.size
  clear hs1 hb1 hok HP
  go_wp2_with (go_at_call 17; fail)
  (with_reducible refine (refPrint_good _ i w1 HS1.out HSH.out HOK.out (by omega)).mono ?_)
  rintro e w2 ⟨rfl, hb2⟩
  have HB2 := Lib.hid (HB1.out.trans (hb2.mono z1))
  have z2 := HB2.out.size
  have hx1 : 1 ≤ (ofL (probText i)).size := text_one HOK.out
  have hx2 : (ofL (probText i)).size ≤ 50000000 := text_len HOK.out (by omega)
  clear hb2 HS1 HB1 HOK HSH
  generalize ofL (probText i) = tx at *
  have hcv := Lib.run_convert_string_bytes (P := Tryd.prog) w2 9 50 5 tx Tryd.underlying9 Tryd.underlying50 Tryd.underlying5
  have MK := Lib.hid (marked_new w2 tx)
  have HB3 := Lib.hid (HB2.out.trans ((bytes_below w2 tx).mono z2))
  go_upto_region 5 with (fail)
  clear hcv
  have z3 : w2.heap.size < (Lib.bytesWorld w2 5 tx).heap.size := by rw [Lib.bytesWorld_size]; omega
  generalize Lib.bytesWorld w2 5 tx = W at *
  generalize grownCap w2 tx.size 0 5 = cap at *
  generalize w2.heap.size = g at *
  go_wp2_with (go_at_call 11; fail)
  (with_reducible refine (HR0.out _).mono ?_)
  rintro e w3 ⟨rfl, rfl⟩
  clear HR0 HB2
  have BT := Lib.hid (MK.out.bytes z2)
  have hcap : tx.size ≤ cap := by obtain ⟨cur, fz, _, _, _, hh, _⟩ := MK.out; exact hh
  go_upto_block 0 with (fail)
  go_cut [17, 18] from 36 to 82 (fun bv _ wx => ∃ nn, nn ≤ 60000000 ∧ BytesAt wx w.heap.size bv nn ∧ Below w.heap.size w wx)
  case first =>
    obtain rfl | rfl | rfl | rfl | hr5 : r = 0 ∨ r = 1 ∨ r = 2 ∨ r = 3 ∨ (r = 4 ∨ r = 5) := by omega
    · obtain ⟨q, hq, hql⟩ := within_nat at' tx.size hx1
      have HQ := Lib.hid (fun W => within_call at' tx.size W (by omega) (by omega) _ hq)
      clear hq
      have hq2 : (q : Int) < (tx.size : Int) := by omega
      obtain ⟨x, hx⟩ : ∃ x, W.cell? ⟨g, q, none⟩ = some (.int .u8 x) := by
        obtain ⟨A, c', e, _, hh⟩ := BT.out
        obtain ⟨g', o', e', _, _, x, hx⟩ := hh q hql
        injection e with e _ _
        rw [e'] at e
        obtain ⟨rfl, rfl⟩ : g = g' ∧ 0 = o' := by simpa using e
        exact ⟨x, by simpa using hx⟩
      have hf := MK.out.thaw (k := q) (by omega)
      have BS := Lib.hid (fun y => BT.out.set hx y)
      have HS := Lib.hid (fun y => HB3.out.setCell (p := ⟨g, q, none⟩) (by simp only; omega) (.int .u8 y))
      go_wp2_with (go_at_call 11; fail)
      (with_reducible refine (HQ.out _).mono ?_)
      rintro e w4 ⟨rfl, rfl⟩
      go_wp2
      go_meet
      exact ⟨_, by omega, BS.out _, HS.out _⟩
    · obtain ⟨q, hq, hql⟩ := within_nat at' (tx.size + 1) (by omega)
      have hq' : withinI at' ((tx.size : Int) + 1) = (q : Int) := by rw [← hq]; simp
      have HQ := Lib.hid (fun W => within_call at' ((tx.size : Int) + 1) W (by omega) (by omega) _ hq')
      clear hq hq'
      have hq1 : q ≤ tx.size := by omega
      have hq2 : (q : Int) ≤ (cap : Int) := by omega
      have hq3 : q ≤ cap := by omega
      go_wp2_with (go_at_call 11; fail)
      (with_reducible refine (HQ.out _).mono ?_)
      rintro e w4 ⟨rfl, rfl⟩
      go_wp2
      go_meet
      exact ⟨q, by omega, BT.out.cut hq1, HB3.out⟩
    · obtain ⟨v', w4, hrun, hbt, hbe⟩ := append_marked MK.out z2 s (by omega) 50
      have HBT := Lib.hid hbt
      have HBE := Lib.hid (HB3.out.trans hbe)
      clear hbt hbe
      go_wp2_with (at_builtin; refine wpList_run_append _ rfl _ _ 50 9 rfl (.slice (some ⟨g, 0, none⟩) tx.size cap) (.string s) rfl rfl v' w4 hrun ?_)
      go_wp2
      go_meet
      exact ⟨_, by omega, HBT.out, HBE.out⟩
    · obtain ⟨q, hq, hql⟩ := within_nat at' (tx.size + 1) (by omega)
      have hq' : withinI at' ((tx.size : Int) + 1) = (q : Int) := by rw [← hq]; simp
      have HQ := Lib.hid (fun W => within_call at' ((tx.size : Int) + 1) W (by omega) (by omega) _ hq')
      clear hq hq'
      have hq1 : q ≤ tx.size := by omega
      have hq2 : (q : Int) ≤ (cap : Int) := by omega
      have hq3 : q ≤ cap := by omega
      have hq4 : (q : Int) ≤ (tx.size : Int) := by omega
      have hq5 : (tx.size : Int) ≤ (cap : Int) := by omega
      obtain ⟨r2, hr2, hr2l⟩ := within_nat m 8 (by omega)
      have HR2 := Lib.hid (fun W => within_call m 8 W (by omega) (by omega) _ hr2)
      clear hr2
      have hr2i : (r2 : Int) < 8 := by omega
      obtain ⟨lit, hlit, hlits⟩ := lits_at r2 hr2l
      obtain ⟨b0, hb0, hbz, hb1, hb2⟩ := info_parts byte_info
      obtain ⟨xs1, hd1, hx1', hl1⟩ := (BT.out.cut hq1).reads
      have HD1 := Lib.hid hd1
      have HX1 := Lib.hid hx1'
      clear hd1 hx1'
      go_wp2_with (go_at_call 11; fail)
      (with_reducible refine (HQ.out _).mono ?_)
      rintro e w4 ⟨rfl, rfl⟩
      go_wp2
      by_cases hqc : cap = q
      · obtain rfl : q = cap := hqc.symm
        have hn12 : tx.size - q = 0 := by omega
        have HD2 : Hid (Reads W W.heap.size 1 (some ⟨g, 0, none⟩) 0 []) := Reads.none_
        have HX2 : Hid (∀ u ∈ ([] : List Value), ∃ y, u = .int .u8 y) := fun u hu => by simp at hu
        obtain ⟨xs2, hxs2⟩ : ∃ xs : List Value, xs = [] := ⟨_, rfl⟩
        rw [← hxs2] at HD2 HX2
        clear hn12 hxs2
        refine wp_region_z (S := (fun _ => True)) (z := 14) (by kernel_rfl) trivial (fun hH => ?_)
        refine wpAnyZ_take (i := 0) (v := ?_) rfl (by kernel_rfl) (by kernel_rfl) (by kernel_rfl) rfl (by kernel_rfl) (fun _ _ _ h => h) (gives_value (by rfl) ?_) (by assumption) ?_
        rotate_left
        · intro w hSw
          (try dsimp only at hSw)
          go_simp
          (try with_reducible rfl)
        (try simp only [Act.put, List.getElem_toArray, List.getElem_cons_succ, List.getElem_cons_zero, List.setIfInBounds_toArray, List.set_cons_zero, List.set_cons_succ])
        refine wpAnyZ_take (i := 1) (v := ?_) rfl (by kernel_rfl) (by kernel_rfl) (by kernel_rfl) rfl (by kernel_rfl) (fun _ _ _ h => h) (gives_value (by rfl) ?_) (by assumption) ?_
        rotate_left
        · intro w hSw
          (try dsimp only at hSw)
          go_simp
          (try with_reducible rfl)
        (try simp only [Act.put, List.getElem_toArray, List.getElem_cons_succ, List.getElem_cons_zero, List.setIfInBounds_toArray, List.set_cons_zero, List.set_cons_succ])
        refine wpAnyZ_take (i := 2) (v := ?_) rfl (by kernel_rfl) (by kernel_rfl) (by kernel_rfl) rfl (by kernel_rfl) (fun _ _ _ h => h) (gives_value (by rfl) ?_) (by assumption) ?_
        rotate_left
        · intro w hSw
          (try dsimp only at hSw)
          go_simp
          (try with_reducible rfl)
        (try simp only [Act.put, List.getElem_toArray, List.getElem_cons_succ, List.getElem_cons_zero, List.setIfInBounds_toArray, List.set_cons_zero, List.set_cons_succ])
        refine wpAnyZ_take (i := 5) (v := ?_) rfl (by kernel_rfl) (by kernel_rfl) (by kernel_rfl) rfl (by kernel_rfl) (fun _ _ _ h => h) (gives_value (by rfl) ?_) (by assumption) ?_
        rotate_left
        · intro w hSw
          (try dsimp only at hSw)
          go_simp
          (try with_reducible rfl)
        (try simp only [Act.put, List.getElem_toArray, List.getElem_cons_succ, List.getElem_cons_zero, List.setIfInBounds_toArray, List.set_cons_zero, List.set_cons_succ])
        refine wpAnyZ_take (i := 10) (v := ?_) rfl (by kernel_rfl) (by kernel_rfl) (by kernel_rfl) rfl (by kernel_rfl) (fun _ _ _ h => h) (gives_value (by rfl) ?_) (by assumption) ?_
        rotate_left
        · intro w hSw
          (try dsimp only at hSw)
          go_simp
          (try with_reducible rfl)
        (try simp only [Act.put, List.getElem_toArray, List.getElem_cons_succ, List.getElem_cons_zero, List.setIfInBounds_toArray, List.set_cons_zero, List.set_cons_succ])
        refine wpAnyZ_take (i := 11) (v := ?_) rfl (by kernel_rfl) (by kernel_rfl) (by kernel_rfl) rfl (by kernel_rfl) (fun _ _ _ h => h) (gives_value (by rfl) ?_) (by assumption) ?_
        rotate_left
        · intro w hSw
          (try dsimp only at hSw)
          go_simp
          (try with_reducible rfl)
        (try simp only [Act.put, List.getElem_toArray, List.getElem_cons_succ, List.getElem_cons_zero, List.setIfInBounds_toArray, List.set_cons_zero, List.set_cons_succ])
        refine wpAnyZ_take (i := 12) (v := ?_) rfl (by kernel_rfl) (by kernel_rfl) (by kernel_rfl) rfl (by kernel_rfl) (fun _ _ _ h => h) (gives_value (by rfl) ?_) (by assumption) ?_
        rotate_left
        · intro w hSw
          (try dsimp only at hSw)
          go_simp
          (try with_reducible rfl)
        (try simp only [Act.put, List.getElem_toArray, List.getElem_cons_succ, List.getElem_cons_zero, List.setIfInBounds_toArray, List.set_cons_zero, List.set_cons_succ])
        refine wpAnyZ_two (i := 3) (j := 4) (by kernel_rfl) ?_ ?_
        · skip
          refine zstep rfl (fun K hK => ?_)
          refine step_append_any _ rfl (.const (.slice none 0 0)) (.tmp 71) 50 rfl W.heap.size 5 b0 _ 1 1 Tryd.underlying50 hb0 hbz hb1 hb2 rfl (by decide) (.slice none 0 0) 0 [] (by rfl) (World.ownsRow_nil _ _ _ _) W.heap.size (some ⟨g, 0, none⟩) q q xs1 (by rfl) (HD1.out.below (Below.drew (Below.refl W.heap.size W))) (bytes_one HX1.out) (by unfold maxLen; omega) (by omega) (Below.size (Below.drew (Below.refl W.heap.size W))) ?_
          intro v3 w3 hown3 hgrow3 hob3
          have hb3 : Below W.heap.size W w3 := Below.grown (Below.drew (Below.refl W.heap.size W)) hgrow3 (Below.size (Below.drew (Below.refl W.heap.size W))) (fun k hk => by cases hk)
          have HG3 := Lib.hid hgrow3
          have HO3 := Lib.hid hown3
          have HB5 := Lib.hid hb3
          clear hown3 hgrow3 hob3 hb3
          refine hK.out _ _ (fun _ => trivial) (fun hH => ?_)
          replace hH := hH (by decide)
          clear hK K
          (try simp only [Act.put, List.getElem_toArray, List.getElem_cons_succ, List.getElem_cons_zero, List.setIfInBounds_toArray, List.set_cons_zero, List.set_cons_succ])
          refine wpAnyZ_take (i := 6) (v := .int .i64 (r2 : Nat)) rfl (by kernel_rfl) (by kernel_rfl) (by kernel_rfl) rfl (by kernel_rfl) (fun _ _ _ h => h) (gives_call (by rfl) ?_ (fun w _ => HR2.out w)) (by assumption) ?_
          · intro w
            go_simp
            (try with_reducible rfl)
          (try simp only [Act.put, List.getElem_toArray, List.getElem_cons_succ, List.getElem_cons_zero, List.setIfInBounds_toArray, List.set_cons_zero, List.set_cons_succ])
          refine wpAnyZ_one (i := 4) (by kernel_rfl) ?_
          refine zstep rfl (fun K hK => ?_)
          go_simp
          refine hK.out _ _ (fun _ => trivial) (fun hH => ?_)
          replace hH := hH (by decide)
          clear hK K
          (try simp only [Act.put, List.getElem_toArray, List.getElem_cons_succ, List.getElem_cons_zero, List.setIfInBounds_toArray, List.set_cons_zero, List.set_cons_succ])
          have tc : (w3.alloc (.cells #[.string ⟨#[99, 97, 114, 32, 49, 32, 50, 32, 51, 10]⟩, .string ⟨#[115, 116, 111, 112, 32, 49, 32, 50, 32, 51, 32, 52, 10]⟩, .string ⟨#[112, 97, 105, 114, 32, 49, 32, 50, 10]⟩, .string ⟨#[114, 111, 119, 32, 48, 10]⟩, .string ⟨#[114, 111, 119, 10]⟩, .string ⟨#[32]⟩, .string ⟨#[10]⟩, .string ⟨#[48]⟩] 9)).cell? ⟨w3.heap.size, r2, none⟩ = some (.string lit) := by
            rw [World.cell?_alloc_new, ← hlit]; simp [hr2l]
          have zc : w3.heap.size < (w3.alloc (.cells #[.string ⟨#[99, 97, 114, 32, 49, 32, 50, 32, 51, 10]⟩, .string ⟨#[115, 116, 111, 112, 32, 49, 32, 50, 32, 51, 32, 52, 10]⟩, .string ⟨#[112, 97, 105, 114, 32, 49, 32, 50, 10]⟩, .string ⟨#[114, 111, 119, 32, 48, 10]⟩, .string ⟨#[114, 111, 119, 10]⟩, .string ⟨#[32]⟩, .string ⟨#[10]⟩, .string ⟨#[48]⟩] 9)).heap.size := by simp
          have HO4 := Lib.hid (own_below HO3.out ((Below.refl w3.heap.size w3).alloc (Nat.le_refl _) (.cells #[.string ⟨#[99, 97, 114, 32, 49, 32, 50, 32, 51, 10]⟩, .string ⟨#[115, 116, 111, 112, 32, 49, 32, 50, 32, 51, 32, 52, 10]⟩, .string ⟨#[112, 97, 105, 114, 32, 49, 32, 50, 10]⟩, .string ⟨#[114, 111, 119, 32, 48, 10]⟩, .string ⟨#[114, 111, 119, 10]⟩, .string ⟨#[32]⟩, .string ⟨#[10]⟩, .string ⟨#[48]⟩] 9)))
          have HB4 := Lib.hid (HB5.out.alloc HB5.out.size (.cells #[.string ⟨#[99, 97, 114, 32, 49, 32, 50, 32, 51, 10]⟩, .string ⟨#[115, 116, 111, 112, 32, 49, 32, 50, 32, 51, 32, 52, 10]⟩, .string ⟨#[112, 97, 105, 114, 32, 49, 32, 50, 10]⟩, .string ⟨#[114, 111, 119, 32, 48, 10]⟩, .string ⟨#[114, 111, 119, 10]⟩, .string ⟨#[32]⟩, .string ⟨#[10]⟩, .string ⟨#[48]⟩] 9))
          clear HO3 HB5 HG3
          generalize w3.alloc (.cells #[.string ⟨#[99, 97, 114, 32, 49, 32, 50, 32, 51, 10]⟩, .string ⟨#[115, 116, 111, 112, 32, 49, 32, 50, 32, 51, 32, 52, 10]⟩, .string ⟨#[112, 97, 105, 114, 32, 49, 32, 50, 10]⟩, .string ⟨#[114, 111, 119, 32, 48, 10]⟩, .string ⟨#[114, 111, 119, 10]⟩, .string ⟨#[32]⟩, .string ⟨#[10]⟩, .string ⟨#[48]⟩] 9) = w4 at *
          generalize w3.heap.size = T at *
          refine wpAnyZ_take (i := 7) (v := ?_) rfl (by kernel_rfl) (by kernel_rfl) (by kernel_rfl) rfl (by kernel_rfl) (fun _ _ _ h => h) (gives_value (by rfl) ?_) (by assumption) ?_
          rotate_left
          · intro w hSw
            (try dsimp only at hSw)
            go_simp
            (try with_reducible rfl)
          (try simp only [Act.put, List.getElem_toArray, List.getElem_cons_succ, List.getElem_cons_zero, List.setIfInBounds_toArray, List.set_cons_zero, List.set_cons_succ])
          refine wpAnyZ_one (i := 8) (by kernel_rfl) ?_
          refine zstep rfl (fun K hK => ?_)
          go_simp
          refine hK.out _ _ (fun _ => trivial) (fun hH => ?_)
          replace hH := hH (by decide)
          clear hK K
          (try simp only [Act.put, List.getElem_toArray, List.getElem_cons_succ, List.getElem_cons_zero, List.setIfInBounds_toArray, List.set_cons_zero, List.set_cons_succ])
          refine wpAnyZ_one (i := 9) (by kernel_rfl) ?_
          obtain ⟨v5, w5, hr5, hown5, hgrow5, _⟩ := Lib.run_append_own_string (P := Tryd.prog) w4 W.heap.size 50 9 50 5 b0 Tryd.underlying50 Tryd.underlying9 hb0 hbz hb1 hb2 v3 (0 + q) ([] ++ xs1) HO4.out lit (by unfold maxLen; omega) (by omega) HB4.out.size
          have HO5 := Lib.hid hown5
          have HB6 := Lib.hid (HB4.out.grown hgrow5 HB4.out.size (fun k hk => (own_typed HO4.out hk).2))
          clear hown5 hgrow5
          refine zstep rfl (fun K hK => ?_)
          refine step_run_append rfl (.tmp 72) (.tmp 77) 50 9 rfl v3 (.string lit) (by rfl) (by rfl) v5 w5 hr5 ?_
          refine hK.out _ _ (fun _ => trivial) (fun hH => ?_)
          replace hH := hH (by decide)
          clear hK K hr5
          (try simp only [Act.put, List.getElem_toArray, List.getElem_cons_succ, List.getElem_cons_zero, List.setIfInBounds_toArray, List.set_cons_zero, List.set_cons_succ])
          refine wpAnyZ_one (i := 13) (by kernel_rfl) ?_
          refine zstep rfl (fun K hK => ?_)
          refine step_append_any _ rfl (.tmp 78) (.tmp 81) 50 rfl W.heap.size 5 b0 _ 1 1 Tryd.underlying50 hb0 hbz hb1 hb2 rfl (by decide) v5 (0 + q + lit.size) ([] ++ xs1 ++ Lib.strCells lit) (by rfl) HO5.out W.heap.size (some ⟨g, 0, none⟩) 0 0 xs2 (by rfl) (HD2.out.below HB6.out) (bytes_one HX2.out) (by unfold maxLen; omega) (by omega) HB6.out.size ?_
          intro v6 w6 hown6 hgrow6 hob6
          have HO6 := Lib.hid (own_bytes (own_mono hown6 (B' := w.heap.size) HB3.out.size) (bytes_app (bytes_app (bytes_app (by simp) HX1.out) (strCells_byte lit)) HX2.out))
          have HB7 := Lib.hid (HB3.out.trans ((HB6.out.grown hgrow6 HB6.out.size (fun k hk => (own_typed HO5.out hk).2)).mono HB3.out.size))
          clear hown6 hgrow6 hob6
          refine hK.out _ _ (fun _ => trivial) (fun hH => ?_)
          replace hH := hH (by decide)
          clear hK K
          (try simp only [Act.put, List.getElem_toArray, List.getElem_cons_succ, List.getElem_cons_zero, List.setIfInBounds_toArray, List.set_cons_zero, List.set_cons_succ])
          refine wpAnyZ_one (i := 14) (by kernel_rfl) ?_
          refine zstep rfl (fun K hK => ?_)
          go_simp
          refine hK.out _ _ (fun h => absurd rfl h) (fun hH => ?_)
          clear hK K hH
          (try simp only [Act.put, List.getElem_toArray, List.getElem_cons_succ, List.getElem_cons_zero, List.setIfInBounds_toArray, List.set_cons_zero, List.set_cons_succ])
          refine wpAnyZ_done (by kernel_rfl) ?_ _
          go_wp2
          go_meet
          exact ⟨_, by omega, HO6.out, HB7.out⟩
        · skip
          refine zstep rfl (fun K hK => ?_)
          go_simp
          refine hK.out _ _ (fun _ => trivial) (fun hH => ?_)
          replace hH := hH (by decide)
          clear hK K
          (try simp only [Act.put, List.getElem_toArray, List.getElem_cons_succ, List.getElem_cons_zero, List.setIfInBounds_toArray, List.set_cons_zero, List.set_cons_succ])
          have tc : (W.alloc (.cells #[.string ⟨#[99, 97, 114, 32, 49, 32, 50, 32, 51, 10]⟩, .string ⟨#[115, 116, 111, 112, 32, 49, 32, 50, 32, 51, 32, 52, 10]⟩, .string ⟨#[112, 97, 105, 114, 32, 49, 32, 50, 10]⟩, .string ⟨#[114, 111, 119, 32, 48, 10]⟩, .string ⟨#[114, 111, 119, 10]⟩, .string ⟨#[32]⟩, .string ⟨#[10]⟩, .string ⟨#[48]⟩] 9)).drew.cell? ⟨W.heap.size, r2, none⟩ = some (.string lit) := by
            show (W.alloc (.cells #[.string ⟨#[99, 97, 114, 32, 49, 32, 50, 32, 51, 10]⟩, .string ⟨#[115, 116, 111, 112, 32, 49, 32, 50, 32, 51, 32, 52, 10]⟩, .string ⟨#[112, 97, 105, 114, 32, 49, 32, 50, 10]⟩, .string ⟨#[114, 111, 119, 32, 48, 10]⟩, .string ⟨#[114, 111, 119, 10]⟩, .string ⟨#[32]⟩, .string ⟨#[10]⟩, .string ⟨#[48]⟩] 9)).cell? ⟨W.heap.size, r2, none⟩ = _
            rw [World.cell?_alloc_new, ← hlit]; simp [hr2l]
          have zc : W.heap.size < (W.alloc (.cells #[.string ⟨#[99, 97, 114, 32, 49, 32, 50, 32, 51, 10]⟩, .string ⟨#[115, 116, 111, 112, 32, 49, 32, 50, 32, 51, 32, 52, 10]⟩, .string ⟨#[112, 97, 105, 114, 32, 49, 32, 50, 10]⟩, .string ⟨#[114, 111, 119, 32, 48, 10]⟩, .string ⟨#[114, 111, 119, 10]⟩, .string ⟨#[32]⟩, .string ⟨#[10]⟩, .string ⟨#[48]⟩] 9)).drew.heap.size := by simp
          have HBT := Lib.hid (((Below.refl W.heap.size W).alloc (Nat.le_refl _) (.cells #[.string ⟨#[99, 97, 114, 32, 49, 32, 50, 32, 51, 10]⟩, .string ⟨#[115, 116, 111, 112, 32, 49, 32, 50, 32, 51, 32, 52, 10]⟩, .string ⟨#[112, 97, 105, 114, 32, 49, 32, 50, 10]⟩, .string ⟨#[114, 111, 119, 32, 48, 10]⟩, .string ⟨#[114, 111, 119, 10]⟩, .string ⟨#[32]⟩, .string ⟨#[10]⟩, .string ⟨#[48]⟩] 9)).drew)
          generalize (W.alloc (.cells #[.string ⟨#[99, 97, 114, 32, 49, 32, 50, 32, 51, 10]⟩, .string ⟨#[115, 116, 111, 112, 32, 49, 32, 50, 32, 51, 32, 52, 10]⟩, .string ⟨#[112, 97, 105, 114, 32, 49, 32, 50, 10]⟩, .string ⟨#[114, 111, 119, 32, 48, 10]⟩, .string ⟨#[114, 111, 119, 10]⟩, .string ⟨#[32]⟩, .string ⟨#[10]⟩, .string ⟨#[48]⟩] 9)).drew = wt at *
          refine wpAnyZ_one (i := 3) (by kernel_rfl) ?_
          refine zstep rfl (fun K hK => ?_)
          refine step_append_any _ rfl (.const (.slice none 0 0)) (.tmp 71) 50 rfl W.heap.size 5 b0 _ 1 1 Tryd.underlying50 hb0 hbz hb1 hb2 rfl (by decide) (.slice none 0 0) 0 [] (by rfl) (World.ownsRow_nil _ _ _ _) W.heap.size (some ⟨g, 0, none⟩) q q xs1 (by rfl) (HD1.out.below HBT.out) (bytes_one HX1.out) (by unfold maxLen; omega) (by omega) (Below.size HBT.out) ?_
          intro v3 w3 hown3 hgrow3 hob3
          have hb3 : Below W.heap.size W w3 := Below.grown HBT.out hgrow3 (Below.size HBT.out) (fun k hk => by cases hk)
          have HG3 := Lib.hid hgrow3
          have HO3 := Lib.hid hown3
          have HB5 := Lib.hid hb3
          clear hown3 hgrow3 hob3 hb3
          refine hK.out _ _ (fun _ => trivial) (fun hH => ?_)
          replace hH := hH (by decide)
          clear hK K
          (try simp only [Act.put, List.getElem_toArray, List.getElem_cons_succ, List.getElem_cons_zero, List.setIfInBounds_toArray, List.set_cons_zero, List.set_cons_succ])
          have tc3 : w3.cell? ⟨W.heap.size, r2, none⟩ = some (.string lit) := by
            rw [World.cell?_of_block (HG3.out.block W.heap.size zc (by simp [Value.ownBlock]))]; exact tc
          refine wpAnyZ_take (i := 6) (v := .int .i64 (r2 : Nat)) rfl (by kernel_rfl) (by kernel_rfl) (by kernel_rfl) rfl (by kernel_rfl) (fun _ _ _ h => h) (gives_call (by rfl) ?_ (fun w _ => HR2.out w)) (by assumption) ?_
          · intro w
            go_simp
            (try with_reducible rfl)
          (try simp only [Act.put, List.getElem_toArray, List.getElem_cons_succ, List.getElem_cons_zero, List.setIfInBounds_toArray, List.set_cons_zero, List.set_cons_succ])
          refine wpAnyZ_take (i := 7) (v := ?_) rfl (by kernel_rfl) (by kernel_rfl) (by kernel_rfl) rfl (by kernel_rfl) (fun _ _ _ h => h) (gives_value (by rfl) ?_) (by assumption) ?_
          rotate_left
          · intro w hSw
            (try dsimp only at hSw)
            go_simp
            (try with_reducible rfl)
          (try simp only [Act.put, List.getElem_toArray, List.getElem_cons_succ, List.getElem_cons_zero, List.setIfInBounds_toArray, List.set_cons_zero, List.set_cons_succ])
          refine wpAnyZ_one (i := 8) (by kernel_rfl) ?_
          refine zstep rfl (fun K hK => ?_)
          go_simp
          refine hK.out _ _ (fun _ => trivial) (fun hH => ?_)
          replace hH := hH (by decide)
          clear hK K
          (try simp only [Act.put, List.getElem_toArray, List.getElem_cons_succ, List.getElem_cons_zero, List.setIfInBounds_toArray, List.set_cons_zero, List.set_cons_succ])
          clear tc tc3
          refine wpAnyZ_one (i := 9) (by kernel_rfl) ?_
          obtain ⟨v5, w5, hr5, hown5, hgrow5, _⟩ := Lib.run_append_own_string (P := Tryd.prog) w3 W.heap.size 50 9 50 5 b0 Tryd.underlying50 Tryd.underlying9 hb0 hbz hb1 hb2 v3 (0 + q) ([] ++ xs1) HO3.out lit (by unfold maxLen; omega) (by omega) HB5.out.size
          have HO5 := Lib.hid hown5
          have HB6 := Lib.hid (HB5.out.grown hgrow5 HB5.out.size (fun k hk => (own_typed HO3.out hk).2))
          clear hown5 hgrow5
          refine zstep rfl (fun K hK => ?_)
          refine step_run_append rfl (.tmp 72) (.tmp 77) 50 9 rfl v3 (.string lit) (by rfl) (by rfl) v5 w5 hr5 ?_
          refine hK.out _ _ (fun _ => trivial) (fun hH => ?_)
          replace hH := hH (by decide)
          clear hK K hr5
          (try simp only [Act.put, List.getElem_toArray, List.getElem_cons_succ, List.getElem_cons_zero, List.setIfInBounds_toArray, List.set_cons_zero, List.set_cons_succ])
          refine wpAnyZ_one (i := 13) (by kernel_rfl) ?_
          refine zstep rfl (fun K hK => ?_)
          refine step_append_any _ rfl (.tmp 78) (.tmp 81) 50 rfl W.heap.size 5 b0 _ 1 1 Tryd.underlying50 hb0 hbz hb1 hb2 rfl (by decide) v5 (0 + q + lit.size) ([] ++ xs1 ++ Lib.strCells lit) (by rfl) HO5.out W.heap.size (some ⟨g, 0, none⟩) 0 0 xs2 (by rfl) (HD2.out.below HB6.out) (bytes_one HX2.out) (by unfold maxLen; omega) (by omega) HB6.out.size ?_
          intro v6 w6 hown6 hgrow6 hob6
          have HO6 := Lib.hid (own_bytes (own_mono hown6 (B' := w.heap.size) HB3.out.size) (bytes_app (bytes_app (bytes_app (by simp) HX1.out) (strCells_byte lit)) HX2.out))
          have HB7 := Lib.hid (HB3.out.trans ((HB6.out.grown hgrow6 HB6.out.size (fun k hk => (own_typed HO5.out hk).2)).mono HB3.out.size))
          clear hown6 hgrow6 hob6
          refine hK.out _ _ (fun _ => trivial) (fun hH => ?_)
          replace hH := hH (by decide)
          clear hK K
          (try simp only [Act.put, List.getElem_toArray, List.getElem_cons_succ, List.getElem_cons_zero, List.setIfInBounds_toArray, List.set_cons_zero, List.set_cons_succ])
          refine wpAnyZ_one (i := 14) (by kernel_rfl) ?_
          refine zstep rfl (fun K hK => ?_)
          go_simp
          refine hK.out _ _ (fun h => absurd rfl h) (fun hH => ?_)
          clear hK K hH
          (try simp only [Act.put, List.getElem_toArray, List.getElem_cons_succ, List.getElem_cons_zero, List.setIfInBounds_toArray, List.set_cons_zero, List.set_cons_succ])
          refine wpAnyZ_done (by kernel_rfl) ?_ _
          go_wp2
          go_meet
          exact ⟨_, by omega, HO6.out, HB7.out⟩
      · have u1 : (cap == q) = false := by simpa using hqc
        have BD := Lib.hid (BT.out.drop (k := q) (c' := cap - q) hq1 (by omega))
        obtain ⟨xs2, hd2, hx2', hl2⟩ := BD.out.reads
        have HD2 := Lib.hid hd2
        have HX2 := Lib.hid hx2'
        clear hd2 hx2'
        refine wp_region_z (S := (fun _ => True)) (z := 14) (by kernel_rfl) trivial (fun hH => ?_)
        refine wpAnyZ_take (i := 0) (v := ?_) rfl (by kernel_rfl) (by kernel_rfl) (by kernel_rfl) rfl (by kernel_rfl) (fun _ _ _ h => h) (gives_value (by rfl) ?_) (by assumption) ?_
        rotate_left
        · intro w hSw
          (try dsimp only at hSw)
          go_simp
          (try with_reducible rfl)
        (try simp only [Act.put, List.getElem_toArray, List.getElem_cons_succ, List.getElem_cons_zero, List.setIfInBounds_toArray, List.set_cons_zero, List.set_cons_succ])
        refine wpAnyZ_take (i := 1) (v := ?_) rfl (by kernel_rfl) (by kernel_rfl) (by kernel_rfl) rfl (by kernel_rfl) (fun _ _ _ h => h) (gives_value (by rfl) ?_) (by assumption) ?_
        rotate_left
        · intro w hSw
          (try dsimp only at hSw)
          go_simp
          (try with_reducible rfl)
        (try simp only [Act.put, List.getElem_toArray, List.getElem_cons_succ, List.getElem_cons_zero, List.setIfInBounds_toArray, List.set_cons_zero, List.set_cons_succ])
        refine wpAnyZ_take (i := 2) (v := ?_) rfl (by kernel_rfl) (by kernel_rfl) (by kernel_rfl) rfl (by kernel_rfl) (fun _ _ _ h => h) (gives_value (by rfl) ?_) (by assumption) ?_
        rotate_left
        · intro w hSw
          (try dsimp only at hSw)
          go_simp
          (try with_reducible rfl)
        (try simp only [Act.put, List.getElem_toArray, List.getElem_cons_succ, List.getElem_cons_zero, List.setIfInBounds_toArray, List.set_cons_zero, List.set_cons_succ])
        refine wpAnyZ_take (i := 5) (v := ?_) rfl (by kernel_rfl) (by kernel_rfl) (by kernel_rfl) rfl (by kernel_rfl) (fun _ _ _ h => h) (gives_value (by rfl) ?_) (by assumption) ?_
        rotate_left
        · intro w hSw
          (try dsimp only at hSw)
          go_simp
          (try with_reducible rfl)
        (try simp only [Act.put, List.getElem_toArray, List.getElem_cons_succ, List.getElem_cons_zero, List.setIfInBounds_toArray, List.set_cons_zero, List.set_cons_succ])
        refine wpAnyZ_take (i := 10) (v := ?_) rfl (by kernel_rfl) (by kernel_rfl) (by kernel_rfl) rfl (by kernel_rfl) (fun _ _ _ h => h) (gives_value (by rfl) ?_) (by assumption) ?_
        rotate_left
        · intro w hSw
          (try dsimp only at hSw)
          go_simp
          (try with_reducible rfl)
        (try simp only [Act.put, List.getElem_toArray, List.getElem_cons_succ, List.getElem_cons_zero, List.setIfInBounds_toArray, List.set_cons_zero, List.set_cons_succ])
        refine wpAnyZ_take (i := 11) (v := ?_) rfl (by kernel_rfl) (by kernel_rfl) (by kernel_rfl) rfl (by kernel_rfl) (fun _ _ _ h => h) (gives_value (by rfl) ?_) (by assumption) ?_
        rotate_left
        · intro w hSw
          (try dsimp only at hSw)
          go_simp
          (try with_reducible rfl)
        (try simp only [Act.put, List.getElem_toArray, List.getElem_cons_succ, List.getElem_cons_zero, List.setIfInBounds_toArray, List.set_cons_zero, List.set_cons_succ])
        refine wpAnyZ_take (i := 12) (v := ?_) rfl (by kernel_rfl) (by kernel_rfl) (by kernel_rfl) rfl (by kernel_rfl) (fun _ _ _ h => h) (gives_value (by rfl) ?_) (by assumption) ?_
        rotate_left
        · intro w hSw
          (try dsimp only at hSw)
          go_simp
          (try with_reducible rfl)
        (try simp only [Act.put, List.getElem_toArray, List.getElem_cons_succ, List.getElem_cons_zero, List.setIfInBounds_toArray, List.set_cons_zero, List.set_cons_succ])
        refine wpAnyZ_two (i := 3) (j := 4) (by kernel_rfl) ?_ ?_
        · skip
          refine zstep rfl (fun K hK => ?_)
          refine step_append_any _ rfl (.const (.slice none 0 0)) (.tmp 71) 50 rfl W.heap.size 5 b0 _ 1 1 Tryd.underlying50 hb0 hbz hb1 hb2 rfl (by decide) (.slice none 0 0) 0 [] (by rfl) (World.ownsRow_nil _ _ _ _) W.heap.size (some ⟨g, 0, none⟩) q cap xs1 (by rfl) (HD1.out.below (Below.drew (Below.refl W.heap.size W))) (bytes_one HX1.out) (by unfold maxLen; omega) (by omega) (Below.size (Below.drew (Below.refl W.heap.size W))) ?_
          intro v3 w3 hown3 hgrow3 hob3
          have hb3 : Below W.heap.size W w3 := Below.grown (Below.drew (Below.refl W.heap.size W)) hgrow3 (Below.size (Below.drew (Below.refl W.heap.size W))) (fun k hk => by cases hk)
          have HG3 := Lib.hid hgrow3
          have HO3 := Lib.hid hown3
          have HB5 := Lib.hid hb3
          clear hown3 hgrow3 hob3 hb3
          refine hK.out _ _ (fun _ => trivial) (fun hH => ?_)
          replace hH := hH (by decide)
          clear hK K
          (try simp only [Act.put, List.getElem_toArray, List.getElem_cons_succ, List.getElem_cons_zero, List.setIfInBounds_toArray, List.set_cons_zero, List.set_cons_succ])
          refine wpAnyZ_take (i := 6) (v := .int .i64 (r2 : Nat)) rfl (by kernel_rfl) (by kernel_rfl) (by kernel_rfl) rfl (by kernel_rfl) (fun _ _ _ h => h) (gives_call (by rfl) ?_ (fun w _ => HR2.out w)) (by assumption) ?_
          · intro w
            go_simp
            (try with_reducible rfl)
          (try simp only [Act.put, List.getElem_toArray, List.getElem_cons_succ, List.getElem_cons_zero, List.setIfInBounds_toArray, List.set_cons_zero, List.set_cons_succ])
          refine wpAnyZ_one (i := 4) (by kernel_rfl) ?_
          refine zstep rfl (fun K hK => ?_)
          go_simp
          refine hK.out _ _ (fun _ => trivial) (fun hH => ?_)
          replace hH := hH (by decide)
          clear hK K
          (try simp only [Act.put, List.getElem_toArray, List.getElem_cons_succ, List.getElem_cons_zero, List.setIfInBounds_toArray, List.set_cons_zero, List.set_cons_succ])
          have tc : (w3.alloc (.cells #[.string ⟨#[99, 97, 114, 32, 49, 32, 50, 32, 51, 10]⟩, .string ⟨#[115, 116, 111, 112, 32, 49, 32, 50, 32, 51, 32, 52, 10]⟩, .string ⟨#[112, 97, 105, 114, 32, 49, 32, 50, 10]⟩, .string ⟨#[114, 111, 119, 32, 48, 10]⟩, .string ⟨#[114, 111, 119, 10]⟩, .string ⟨#[32]⟩, .string ⟨#[10]⟩, .string ⟨#[48]⟩] 9)).cell? ⟨w3.heap.size, r2, none⟩ = some (.string lit) := by
            rw [World.cell?_alloc_new, ← hlit]; simp [hr2l]
          have zc : w3.heap.size < (w3.alloc (.cells #[.string ⟨#[99, 97, 114, 32, 49, 32, 50, 32, 51, 10]⟩, .string ⟨#[115, 116, 111, 112, 32, 49, 32, 50, 32, 51, 32, 52, 10]⟩, .string ⟨#[112, 97, 105, 114, 32, 49, 32, 50, 10]⟩, .string ⟨#[114, 111, 119, 32, 48, 10]⟩, .string ⟨#[114, 111, 119, 10]⟩, .string ⟨#[32]⟩, .string ⟨#[10]⟩, .string ⟨#[48]⟩] 9)).heap.size := by simp
          have HO4 := Lib.hid (own_below HO3.out ((Below.refl w3.heap.size w3).alloc (Nat.le_refl _) (.cells #[.string ⟨#[99, 97, 114, 32, 49, 32, 50, 32, 51, 10]⟩, .string ⟨#[115, 116, 111, 112, 32, 49, 32, 50, 32, 51, 32, 52, 10]⟩, .string ⟨#[112, 97, 105, 114, 32, 49, 32, 50, 10]⟩, .string ⟨#[114, 111, 119, 32, 48, 10]⟩, .string ⟨#[114, 111, 119, 10]⟩, .string ⟨#[32]⟩, .string ⟨#[10]⟩, .string ⟨#[48]⟩] 9)))
          have HB4 := Lib.hid (HB5.out.alloc HB5.out.size (.cells #[.string ⟨#[99, 97, 114, 32, 49, 32, 50, 32, 51, 10]⟩, .string ⟨#[115, 116, 111, 112, 32, 49, 32, 50, 32, 51, 32, 52, 10]⟩, .string ⟨#[112, 97, 105, 114, 32, 49, 32, 50, 10]⟩, .string ⟨#[114, 111, 119, 32, 48, 10]⟩, .string ⟨#[114, 111, 119, 10]⟩, .string ⟨#[32]⟩, .string ⟨#[10]⟩, .string ⟨#[48]⟩] 9))
          clear HO3 HB5 HG3
          generalize w3.alloc (.cells #[.string ⟨#[99, 97, 114, 32, 49, 32, 50, 32, 51, 10]⟩, .string ⟨#[115, 116, 111, 112, 32, 49, 32, 50, 32, 51, 32, 52, 10]⟩, .string ⟨#[112, 97, 105, 114, 32, 49, 32, 50, 10]⟩, .string ⟨#[114, 111, 119, 32, 48, 10]⟩, .string ⟨#[114, 111, 119, 10]⟩, .string ⟨#[32]⟩, .string ⟨#[10]⟩, .string ⟨#[48]⟩] 9) = w4 at *
          generalize w3.heap.size = T at *
          refine wpAnyZ_take (i := 7) (v := ?_) rfl (by kernel_rfl) (by kernel_rfl) (by kernel_rfl) rfl (by kernel_rfl) (fun _ _ _ h => h) (gives_value (by rfl) ?_) (by assumption) ?_
          rotate_left
          · intro w hSw
            (try dsimp only at hSw)
            go_simp
            (try with_reducible rfl)
          (try simp only [Act.put, List.getElem_toArray, List.getElem_cons_succ, List.getElem_cons_zero, List.setIfInBounds_toArray, List.set_cons_zero, List.set_cons_succ])
          refine wpAnyZ_one (i := 8) (by kernel_rfl) ?_
          refine zstep rfl (fun K hK => ?_)
          go_simp
          refine hK.out _ _ (fun _ => trivial) (fun hH => ?_)
          replace hH := hH (by decide)
          clear hK K
          (try simp only [Act.put, List.getElem_toArray, List.getElem_cons_succ, List.getElem_cons_zero, List.setIfInBounds_toArray, List.set_cons_zero, List.set_cons_succ])
          refine wpAnyZ_one (i := 9) (by kernel_rfl) ?_
          obtain ⟨v5, w5, hr5, hown5, hgrow5, _⟩ := Lib.run_append_own_string (P := Tryd.prog) w4 W.heap.size 50 9 50 5 b0 Tryd.underlying50 Tryd.underlying9 hb0 hbz hb1 hb2 v3 (0 + q) ([] ++ xs1) HO4.out lit (by unfold maxLen; omega) (by omega) HB4.out.size
          have HO5 := Lib.hid hown5
          have HB6 := Lib.hid (HB4.out.grown hgrow5 HB4.out.size (fun k hk => (own_typed HO4.out hk).2))
          clear hown5 hgrow5
          refine zstep rfl (fun K hK => ?_)
          refine step_run_append rfl (.tmp 72) (.tmp 77) 50 9 rfl v3 (.string lit) (by rfl) (by rfl) v5 w5 hr5 ?_
          refine hK.out _ _ (fun _ => trivial) (fun hH => ?_)
          replace hH := hH (by decide)
          clear hK K hr5
          (try simp only [Act.put, List.getElem_toArray, List.getElem_cons_succ, List.getElem_cons_zero, List.setIfInBounds_toArray, List.set_cons_zero, List.set_cons_succ])
          refine wpAnyZ_one (i := 13) (by kernel_rfl) ?_
          refine zstep rfl (fun K hK => ?_)
          refine step_append_any _ rfl (.tmp 78) (.tmp 81) 50 rfl W.heap.size 5 b0 _ 1 1 Tryd.underlying50 hb0 hbz hb1 hb2 rfl (by decide) v5 (0 + q + lit.size) ([] ++ xs1 ++ Lib.strCells lit) (by rfl) HO5.out W.heap.size (some ⟨g, q, none⟩) (tx.size - q) (cap - q) xs2 (by rfl) (HD2.out.below HB6.out) (bytes_one HX2.out) (by unfold maxLen; omega) (by omega) HB6.out.size ?_
          intro v6 w6 hown6 hgrow6 hob6
          have HO6 := Lib.hid (own_bytes (own_mono hown6 (B' := w.heap.size) HB3.out.size) (bytes_app (bytes_app (bytes_app (by simp) HX1.out) (strCells_byte lit)) HX2.out))
          have HB7 := Lib.hid (HB3.out.trans ((HB6.out.grown hgrow6 HB6.out.size (fun k hk => (own_typed HO5.out hk).2)).mono HB3.out.size))
          clear hown6 hgrow6 hob6
          refine hK.out _ _ (fun _ => trivial) (fun hH => ?_)
          replace hH := hH (by decide)
          clear hK K
          (try simp only [Act.put, List.getElem_toArray, List.getElem_cons_succ, List.getElem_cons_zero, List.setIfInBounds_toArray, List.set_cons_zero, List.set_cons_succ])
          refine wpAnyZ_one (i := 14) (by kernel_rfl) ?_
          refine zstep rfl (fun K hK => ?_)
          go_simp
          refine hK.out _ _ (fun h => absurd rfl h) (fun hH => ?_)
          clear hK K hH
          (try simp only [Act.put, List.getElem_toArray, List.getElem_cons_succ, List.getElem_cons_zero, List.setIfInBounds_toArray, List.set_cons_zero, List.set_cons_succ])
          refine wpAnyZ_done (by kernel_rfl) ?_ _
          go_wp2
          go_meet
          exact ⟨_, by omega, HO6.out, HB7.out⟩
        · skip
          refine zstep rfl (fun K hK => ?_)
          go_simp
          refine hK.out _ _ (fun _ => trivial) (fun hH => ?_)
          replace hH := hH (by decide)
          clear hK K
          (try simp only [Act.put, List.getElem_toArray, List.getElem_cons_succ, List.getElem_cons_zero, List.setIfInBounds_toArray, List.set_cons_zero, List.set_cons_succ])
          have tc : (W.alloc (.cells #[.string ⟨#[99, 97, 114, 32, 49, 32, 50, 32, 51, 10]⟩, .string ⟨#[115, 116, 111, 112, 32, 49, 32, 50, 32, 51, 32, 52, 10]⟩, .string ⟨#[112, 97, 105, 114, 32, 49, 32, 50, 10]⟩, .string ⟨#[114, 111, 119, 32, 48, 10]⟩, .string ⟨#[114, 111, 119, 10]⟩, .string ⟨#[32]⟩, .string ⟨#[10]⟩, .string ⟨#[48]⟩] 9)).drew.cell? ⟨W.heap.size, r2, none⟩ = some (.string lit) := by
            show (W.alloc (.cells #[.string ⟨#[99, 97, 114, 32, 49, 32, 50, 32, 51, 10]⟩, .string ⟨#[115, 116, 111, 112, 32, 49, 32, 50, 32, 51, 32, 52, 10]⟩, .string ⟨#[112, 97, 105, 114, 32, 49, 32, 50, 10]⟩, .string ⟨#[114, 111, 119, 32, 48, 10]⟩, .string ⟨#[114, 111, 119, 10]⟩, .string ⟨#[32]⟩, .string ⟨#[10]⟩, .string ⟨#[48]⟩] 9)).cell? ⟨W.heap.size, r2, none⟩ = _
            rw [World.cell?_alloc_new, ← hlit]; simp [hr2l]
          have zc : W.heap.size < (W.alloc (.cells #[.string ⟨#[99, 97, 114, 32, 49, 32, 50, 32, 51, 10]⟩, .string ⟨#[115, 116, 111, 112, 32, 49, 32, 50, 32, 51, 32, 52, 10]⟩, .string ⟨#[112, 97, 105, 114, 32, 49, 32, 50, 10]⟩, .string ⟨#[114, 111, 119, 32, 48, 10]⟩, .string ⟨#[114, 111, 119, 10]⟩, .string ⟨#[32]⟩, .string ⟨#[10]⟩, .string ⟨#[48]⟩] 9)).drew.heap.size := by simp
          have HBT := Lib.hid (((Below.refl W.heap.size W).alloc (Nat.le_refl _) (.cells #[.string ⟨#[99, 97, 114, 32, 49, 32, 50, 32, 51, 10]⟩, .string ⟨#[115, 116, 111, 112, 32, 49, 32, 50, 32, 51, 32, 52, 10]⟩, .string ⟨#[112, 97, 105, 114, 32, 49, 32, 50, 10]⟩, .string ⟨#[114, 111, 119, 32, 48, 10]⟩, .string ⟨#[114, 111, 119, 10]⟩, .string ⟨#[32]⟩, .string ⟨#[10]⟩, .string ⟨#[48]⟩] 9)).drew)
          generalize (W.alloc (.cells #[.string ⟨#[99, 97, 114, 32, 49, 32, 50, 32, 51, 10]⟩, .string ⟨#[115, 116, 111, 112, 32, 49, 32, 50, 32, 51, 32, 52, 10]⟩, .string ⟨#[112, 97, 105, 114, 32, 49, 32, 50, 10]⟩, .string ⟨#[114, 111, 119, 32, 48, 10]⟩, .string ⟨#[114, 111, 119, 10]⟩, .string ⟨#[32]⟩, .string ⟨#[10]⟩, .string ⟨#[48]⟩] 9)).drew = wt at *
          refine wpAnyZ_one (i := 3) (by kernel_rfl) ?_
          refine zstep rfl (fun K hK => ?_)
          refine step_append_any _ rfl (.const (.slice none 0 0)) (.tmp 71) 50 rfl W.heap.size 5 b0 _ 1 1 Tryd.underlying50 hb0 hbz hb1 hb2 rfl (by decide) (.slice none 0 0) 0 [] (by rfl) (World.ownsRow_nil _ _ _ _) W.heap.size (some ⟨g, 0, none⟩) q cap xs1 (by rfl) (HD1.out.below HBT.out) (bytes_one HX1.out) (by unfold maxLen; omega) (by omega) (Below.size HBT.out) ?_
          intro v3 w3 hown3 hgrow3 hob3
          have hb3 : Below W.heap.size W w3 := Below.grown HBT.out hgrow3 (Below.size HBT.out) (fun k hk => by cases hk)
          have HG3 := Lib.hid hgrow3
          have HO3 := Lib.hid hown3
          have HB5 := Lib.hid hb3
          clear hown3 hgrow3 hob3 hb3
          refine hK.out _ _ (fun _ => trivial) (fun hH => ?_)
          replace hH := hH (by decide)
          clear hK K
          (try simp only [Act.put, List.getElem_toArray, List.getElem_cons_succ, List.getElem_cons_zero, List.setIfInBounds_toArray, List.set_cons_zero, List.set_cons_succ])
          have tc3 : w3.cell? ⟨W.heap.size, r2, none⟩ = some (.string lit) := by
            rw [World.cell?_of_block (HG3.out.block W.heap.size zc (by simp [Value.ownBlock]))]; exact tc
          refine wpAnyZ_take (i := 6) (v := .int .i64 (r2 : Nat)) rfl (by kernel_rfl) (by kernel_rfl) (by kernel_rfl) rfl (by kernel_rfl) (fun _ _ _ h => h) (gives_call (by rfl) ?_ (fun w _ => HR2.out w)) (by assumption) ?_
          · intro w
            go_simp
            (try with_reducible rfl)
          (try simp only [Act.put, List.getElem_toArray, List.getElem_cons_succ, List.getElem_cons_zero, List.setIfInBounds_toArray, List.set_cons_zero, List.set_cons_succ])
          refine wpAnyZ_take (i := 7) (v := ?_) rfl (by kernel_rfl) (by kernel_rfl) (by kernel_rfl) rfl (by kernel_rfl) (fun _ _ _ h => h) (gives_value (by rfl) ?_) (by assumption) ?_
          rotate_left
          · intro w hSw
            (try dsimp only at hSw)
            go_simp
            (try with_reducible rfl)
          (try simp only [Act.put, List.getElem_toArray, List.getElem_cons_succ, List.getElem_cons_zero, List.setIfInBounds_toArray, List.set_cons_zero, List.set_cons_succ])
          refine wpAnyZ_one (i := 8) (by kernel_rfl) ?_
          refine zstep rfl (fun K hK => ?_)
          go_simp
          refine hK.out _ _ (fun _ => trivial) (fun hH => ?_)
          replace hH := hH (by decide)
          clear hK K
          (try simp only [Act.put, List.getElem_toArray, List.getElem_cons_succ, List.getElem_cons_zero, List.setIfInBounds_toArray, List.set_cons_zero, List.set_cons_succ])
          clear tc tc3
          refine wpAnyZ_one (i := 9) (by kernel_rfl) ?_
          obtain ⟨v5, w5, hr5, hown5, hgrow5, _⟩ := Lib.run_append_own_string (P := Tryd.prog) w3 W.heap.size 50 9 50 5 b0 Tryd.underlying50 Tryd.underlying9 hb0 hbz hb1 hb2 v3 (0 + q) ([] ++ xs1) HO3.out lit (by unfold maxLen; omega) (by omega) HB5.out.size
          have HO5 := Lib.hid hown5
          have HB6 := Lib.hid (HB5.out.grown hgrow5 HB5.out.size (fun k hk => (own_typed HO3.out hk).2))
          clear hown5 hgrow5
          refine zstep rfl (fun K hK => ?_)
          refine step_run_append rfl (.tmp 72) (.tmp 77) 50 9 rfl v3 (.string lit) (by rfl) (by rfl) v5 w5 hr5 ?_
          refine hK.out _ _ (fun _ => trivial) (fun hH => ?_)
          replace hH := hH (by decide)
          clear hK K hr5
          (try simp only [Act.put, List.getElem_toArray, List.getElem_cons_succ, List.getElem_cons_zero, List.setIfInBounds_toArray, List.set_cons_zero, List.set_cons_succ])
          refine wpAnyZ_one (i := 13) (by kernel_rfl) ?_
          refine zstep rfl (fun K hK => ?_)
          refine step_append_any _ rfl (.tmp 78) (.tmp 81) 50 rfl W.heap.size 5 b0 _ 1 1 Tryd.underlying50 hb0 hbz hb1 hb2 rfl (by decide) v5 (0 + q + lit.size) ([] ++ xs1 ++ Lib.strCells lit) (by rfl) HO5.out W.heap.size (some ⟨g, q, none⟩) (tx.size - q) (cap - q) xs2 (by rfl) (HD2.out.below HB6.out) (bytes_one HX2.out) (by unfold maxLen; omega) (by omega) HB6.out.size ?_
          intro v6 w6 hown6 hgrow6 hob6
          have HO6 := Lib.hid (own_bytes (own_mono hown6 (B' := w.heap.size) HB3.out.size) (bytes_app (bytes_app (bytes_app (by simp) HX1.out) (strCells_byte lit)) HX2.out))
          have HB7 := Lib.hid (HB3.out.trans ((HB6.out.grown hgrow6 HB6.out.size (fun k hk => (own_typed HO5.out hk).2)).mono HB3.out.size))
          clear hown6 hgrow6 hob6
          refine hK.out _ _ (fun _ => trivial) (fun hH => ?_)
          replace hH := hH (by decide)
          clear hK K
          (try simp only [Act.put, List.getElem_toArray, List.getElem_cons_succ, List.getElem_cons_zero, List.setIfInBounds_toArray, List.set_cons_zero, List.set_cons_succ])
          refine wpAnyZ_one (i := 14) (by kernel_rfl) ?_
          refine zstep rfl (fun K hK => ?_)
          go_simp
          refine hK.out _ _ (fun h => absurd rfl h) (fun hH => ?_)
          clear hK K hH
          (try simp only [Act.put, List.getElem_toArray, List.getElem_cons_succ, List.getElem_cons_zero, List.setIfInBounds_toArray, List.set_cons_zero, List.set_cons_succ])
          refine wpAnyZ_done (by kernel_rfl) ?_ _
          go_wp2
          go_meet
          exact ⟨_, by omega, HO6.out, HB7.out⟩
    · rcases hr5 with rfl | rfl
      · go_wp2
        go_meet
        exact ⟨_, by omega, BT.out, HB3.out⟩
      · go_wp2
        go_meet
        exact ⟨_, by omega, BT.out, HB3.out⟩
  case rest =>
    obtain ⟨nn, hnn, hbt, hb4⟩ := hcut
    clear BT MK HB3 hcap
    obtain ⟨A, cp, rfl, _, _⟩ := id hbt
    obtain ⟨x, hxs, hcv⟩ := hbt.text
    have HB4 := Lib.hid hb4
    have z4 := hb4.size
    have HN4 := Lib.hid (HN.out.below hb4 (by omega))
    have HM4 : Hid (wc.cell? ⟨1, 0, none⟩ = some (.int .i64 mx)) := by show _ = _; rw [hb4.cell h1]; exact HM.out
    clear hb4 hbt
    go_upto_region 16 with (fail)
    clear hcv
    generalize hwc : wc = W4 at *
    clear hwc
    cases raw
    · go_wp2_with (go_at_call 9; fail)
      (with_reducible refine (parse_out x mx W4 (by omega) HN4.out HM4.out (by omega)).mono ?_)
      rintro e w5 ⟨i5, A1, A2, A3, A4, c1, c2, c3, c4, cd, rfl, hs5, ho5, hb5⟩
      have HF := Lib.hid (out_few ho5)
      have HO5 := Lib.hid ho5
      have z5 := hb5.size
      have HB5 := Lib.hid (HB4.out.trans (hb5.mono z4))
      have BX5 := Lib.hid (box_new hs5 30)
      have HB6 := Lib.hid (HB5.out.alloc HB5.out.size (.cells #[.slice A1 i5.cars.length c1, .slice A2 i5.stops.length c2, .slice A3 i5.pairs.length c3, .slice A4 i5.travel.length c4] 30))
      clear hs5 ho5 hb5 HB4 HB5
      go_upto_region 19 with (fail)
      generalize w5.alloc (.cells #[.slice A1 i5.cars.length c1, .slice A2 i5.stops.length c2, .slice A3 i5.pairs.length c3, .slice A4 i5.travel.length c4] 30) = w6 at *
      generalize w5.heap.size = J1 at *
      have z6 := HB6.out.size
      go_wp2_with (go_at_call 22; fail)
      (with_reducible refine (ref_out x w6 (by omega)).mono ?_)
      rintro e w7 ⟨i7, D1, D2, D3, D4, d1, d2, d3, d4, cd7, rfl, hs7, ho7, hb7⟩
      obtain ⟨rfl, rfl⟩ : i7 = i5 ∧ cd7 = cd := by
        have := ho7.trans HO5.out.symm
        simpa using this
      have BX7 := Lib.hid (BX5.out.below hb7)
      have HB7 := Lib.hid (HB6.out.trans (hb7.mono z6))
      have BY := Lib.hid (box_new hs7 30)
      have BX8 := Lib.hid (BX7.out.below ((Below.refl _ _).alloc (Nat.le_refl _) (.cells #[.slice D1 i7.cars.length d1, .slice D2 i7.stops.length d2, .slice D3 i7.pairs.length d3, .slice D4 i7.travel.length d4] 30)))
      have HB8 := Lib.hid (HB7.out.alloc HB7.out.size (.cells #[.slice D1 i7.cars.length d1, .slice D2 i7.stops.length d2, .slice D3 i7.pairs.length d3, .slice D4 i7.travel.length d4] 30))
      clear hs7 ho7 hb7 BX5 BX7 HB6 HB7 HO5
      have hcd : (cd7 == cd7) = true := by simp
      go_upto_region 20 with (fail)
      generalize w7.alloc (.cells #[.slice D1 i7.cars.length d1, .slice D2 i7.stops.length d2, .slice D3 i7.pairs.length d3, .slice D4 i7.travel.length d4] 30) = w8 at *
      generalize w7.heap.size = J2 at *
      have k0 := BX8.out.b0
      have k1 := BX8.out.b1
      have k2 := BX8.out.b2
      have k3 := BX8.out.b3
      have j0 := BY.out.b0
      have j1 := BY.out.b1
      have j2 := BY.out.b2
      have j3 := BY.out.b3
      go_wp2_with (go_at_call 10; fail)
      (with_reducible refine (same_prob _ _ i7 w8 BX8.out.lies BY.out.lies HF.out.1 HF.out.2.1 HF.out.2.2).mono ?_)
      rintro e w9 ⟨rfl, hb9⟩
      have HB9 := Lib.hid (HB8.out.trans (hb9.mono HB8.out.size))
      clear hb9 k0 k1 k2 k3 j0 j1 j2 j3 BX8 BY HB8
      go_wp2_with (go_at_call 14; fail)
      (with_reducible refine (wakes_any _).mono ?_)
      rintro e w10 ⟨rfl, hb10⟩
      have HB10 := Lib.hid (HB9.out.trans (hb10.mono HB9.out.size))
      clear hb10
      go_wp2
      go_ret
      exact ⟨rfl, HB10.out⟩
    · go_wp2_with (go_at_call 9; fail)
      (with_reducible refine (parse_out s mx W4 (by omega) HN4.out HM4.out (by omega)).mono ?_)
      rintro e w5 ⟨i5, A1, A2, A3, A4, c1, c2, c3, c4, cd, rfl, hs5, ho5, hb5⟩
      have HF := Lib.hid (out_few ho5)
      have HO5 := Lib.hid ho5
      have z5 := hb5.size
      have HB5 := Lib.hid (HB4.out.trans (hb5.mono z4))
      have BX5 := Lib.hid (box_new hs5 30)
      have HB6 := Lib.hid (HB5.out.alloc HB5.out.size (.cells #[.slice A1 i5.cars.length c1, .slice A2 i5.stops.length c2, .slice A3 i5.pairs.length c3, .slice A4 i5.travel.length c4] 30))
      clear hs5 ho5 hb5 HB4 HB5
      go_upto_region 19 with (fail)
      generalize w5.alloc (.cells #[.slice A1 i5.cars.length c1, .slice A2 i5.stops.length c2, .slice A3 i5.pairs.length c3, .slice A4 i5.travel.length c4] 30) = w6 at *
      generalize w5.heap.size = J1 at *
      have z6 := HB6.out.size
      go_wp2_with (go_at_call 22; fail)
      (with_reducible refine (ref_out s w6 (by omega)).mono ?_)
      rintro e w7 ⟨i7, D1, D2, D3, D4, d1, d2, d3, d4, cd7, rfl, hs7, ho7, hb7⟩
      obtain ⟨rfl, rfl⟩ : i7 = i5 ∧ cd7 = cd := by
        have := ho7.trans HO5.out.symm
        simpa using this
      have BX7 := Lib.hid (BX5.out.below hb7)
      have HB7 := Lib.hid (HB6.out.trans (hb7.mono z6))
      have BY := Lib.hid (box_new hs7 30)
      have BX8 := Lib.hid (BX7.out.below ((Below.refl _ _).alloc (Nat.le_refl _) (.cells #[.slice D1 i7.cars.length d1, .slice D2 i7.stops.length d2, .slice D3 i7.pairs.length d3, .slice D4 i7.travel.length d4] 30)))
      have HB8 := Lib.hid (HB7.out.alloc HB7.out.size (.cells #[.slice D1 i7.cars.length d1, .slice D2 i7.stops.length d2, .slice D3 i7.pairs.length d3, .slice D4 i7.travel.length d4] 30))
      clear hs7 ho7 hb7 BX5 BX7 HB6 HB7 HO5
      have hcd : (cd7 == cd7) = true := by simp
      go_upto_region 20 with (fail)
      generalize w7.alloc (.cells #[.slice D1 i7.cars.length d1, .slice D2 i7.stops.length d2, .slice D3 i7.pairs.length d3, .slice D4 i7.travel.length d4] 30) = w8 at *
      generalize w7.heap.size = J2 at *
      have k0 := BX8.out.b0
      have k1 := BX8.out.b1
      have k2 := BX8.out.b2
      have k3 := BX8.out.b3
      have j0 := BY.out.b0
      have j1 := BY.out.b1
      have j2 := BY.out.b2
      have j3 := BY.out.b3
      go_wp2_with (go_at_call 10; fail)
      (with_reducible refine (same_prob _ _ i7 w8 BX8.out.lies BY.out.lies HF.out.1 HF.out.2.1 HF.out.2.2).mono ?_)
      rintro e w9 ⟨rfl, hb9⟩
      have HB9 := Lib.hid (HB8.out.trans (hb9.mono HB8.out.size))
      clear hb9 k0 k1 k2 k3 j0 j1 j2 j3 BX8 BY HB8
      go_wp2_with (go_at_call 14; fail)
      (with_reducible refine (wakes_any _).mono ?_)
      rintro e w10 ⟨rfl, hb10⟩
      have HB10 := Lib.hid (HB9.out.trans (hb10.mono HB9.out.size))
      clear hb10
      go_wp2
      go_ret
      exact ⟨rfl, HB10.out⟩
end Go.Proofs.YteibelmgebhleaaDoor
