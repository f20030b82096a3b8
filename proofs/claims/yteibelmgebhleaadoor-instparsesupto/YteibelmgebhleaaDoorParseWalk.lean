/- inst.Parse: what a text writes, or the error. -/
import Derived.Test.YteibelmgebhleaaDoorAddCar
import Derived.Test.YteibelmgebhleaaDoorAddStop
import Derived.Test.YteibelmgebhleaaDoorAddPair
import Derived.Test.YteibelmgebhleaaDoorAddRow
import Derived.Test.YteibelmgebhleaaDoorInstChk
namespace Go.Proofs.YteibelmgebhleaaDoor
open Go.RowKit
set_option linter.unusedSimpArgs false

theorem own_low {w : World} {B : Nat} {e : TypeId} {size n : Nat} {v : Value} {xs : List Value} (h : w.ownsRow B e size v n xs) {R : Nat} (hR : R < B) (j : Nat) (u : Value) : (w.setCell ⟨R, j, none⟩ u).ownsRow B e size v n xs := by
  refine h.kept (grown_set w R j u) ?_
  rcases hv : v.ownBlock with _ | g
  · exact .inl rfl
  · have := (own_typed h hv).2
    exact .inr (by intro e; injection e with e; omega)
theorem Held.low {W : World} {B I : Nat} {i : Prob} {vc vs vp vt : Value} {us : List Value} (h : Held W B I i vc vs vp vt us) {R : Nat} (hR : R < B) (j : Nat) (u : Value) : Held (W.setCell ⟨R, j, none⟩ u) B I i vc vs vp vt us := by
  have hl := h.lt
  refine ⟨h.lt, by rw [Below.heap_setCell _ _ _ _ (by simp; omega)]; exact h.box, own_low h.cars hR j u, own_low h.stops hR j u, own_low h.pairs hR j u, own_low h.travel hR j u, fun k hk => ?_⟩
  obtain ⟨x, h1, g, cap, rfl, hg, hbl, hty, hcp⟩ := h.rows k hk
  exact ⟨_, h1, g, cap, rfl, hg, hbl.other (by simp; omega) _, hty.setCell _ _ _, hcp⟩
theorem HeldSome.below {W W' : World} {B I : Nat} {i : Prob} (h : HeldSome W B I i) (hb : Below W.heap.size W W') : HeldSome W' B I i := by
  obtain ⟨vc, vs, vp, vt, us, h⟩ := h
  exact ⟨vc, vs, vp, vt, us, h.below hb⟩
theorem countOk_len {k n : Nat} (h : countOk k n = true) : (k = 0 → n = 3) ∧ (k = 1 → n = 4) ∧ (k = 2 → n = 2) := by
  unfold countOk at h
  split at h <;> simp at h <;> refine ⟨fun e => ?_, fun e => ?_, fun e => ?_⟩ <;> first | exact h | omega | (subst e; simp_all)
def total (i : Prob) : Nat := i.cars.length + i.stops.length + i.pairs.length + i.travel.length
theorem total_add (i : Prob) (k : Nat) (ns : List Int) : total (addL i k ns) ≤ total i + 1 := by
  unfold addL
  split <;> simp [total] <;> omega
theorem add_any (B I k : Nat) (i : Prob) (ns : List Int) (u : Value) (w : World) (h : HeldSome w B I i) (hr : RowAt w B u ns) (hB : B ≤ w.heap.size) (hk : k < 4) (hc : countOk k ns.length = true) (hl : total i ≤ 1000000000) :
    Calls Tryd.prog 27 #[.pointer (some ⟨I, 0, none⟩), .int .i64 k, u] w fun e w' => e = .returned (.tuple #[]) ∧ HeldSome w' B I (addL i k ns) ∧ Below B w w' := by
  obtain ⟨vc, vs, vp, vt, us, h⟩ := h
  obtain ⟨c0, c1, c2⟩ := countOk_len hc
  unfold total at hl
  obtain rfl | rfl | rfl | rfl : k = 0 ∨ k = 1 ∨ k = 2 ∨ k = 3 := by omega
  · have hn := c0 rfl
    match ns, hn, hr with
    | [a, b, c], _, hr =>
      obtain ⟨g, hu, _, hbl, _⟩ := hr
      subst hu
      exact add_car B I g i vc vs vp vt us a b c w h hbl hB (by omega)
  · have hn := c1 rfl
    match ns, hn, hr with
    | [a, b, c, d], _, hr =>
      obtain ⟨g, hu, _, hbl, hty⟩ := hr
      subst hu
      exact add_stop B I g i vc vs vp vt us a b c d w h hbl hty hB (by omega)
  · have hn := c2 rfl
    match ns, hn, hr with
    | [a, b], _, hr =>
      obtain ⟨g, hu, _, hbl, _⟩ := hr
      subst hu
      exact add_pair B I g i vc vs vp vt us a b w h hbl hB (by omega)
  · exact add_row B I i vc vs vp vt us ns u w h hr hB (by omega)
theorem flat_get {α : Type} {c : Nat} {f : α → List Value} (hf : ∀ x, (f x).length = c) : ∀ (l : List α) (k j : Nat) (hk : k < l.length), j < c → (l.flatMap f)[k * c + j]? = (f l[k])[j]?
  | x :: l, 0, j, _, hj => by
    rw [List.flatMap_cons, List.getElem?_append_left (by rw [hf]; omega)]; simp
  | x :: l, k + 1, j, hk, hj => by
    have := flat_get hf l k j (by simpa using hk) hj
    rw [List.flatMap_cons, List.getElem?_append_right (by rw [hf, Nat.succ_mul]; omega), hf, show (k + 1) * c + j - c = k * c + j by rw [Nat.succ_mul]; omega, this]
    rfl
theorem own_get {w : World} {B : Nat} {e : TypeId} {size n : Nat} {v : Value} {xs : List Value} (h : w.ownsRow B e size v n xs) : ∃ A cap, v = .slice A n cap ∧ (0 < n → ∃ g, A = some ⟨g, 0, none⟩ ∧ g < w.heap.size ∧ ∀ j u, xs[j]? = some u → w.cell? ⟨g, j, none⟩ = some u) := by
  rcases h.2 with ⟨rfl, rfl⟩ | ⟨g, cap, cur, rfl, _, hg, _⟩
  · exact ⟨_, _, rfl, fun h => absurd h (by omega)⟩
  · refine ⟨_, _, rfl, fun _ => ⟨g, rfl, (Array.getElem?_eq_some_iff.1 hg).1, fun j u hu => ?_⟩⟩
    have := h.cells (g := g) rfl j u hu
    have e : (⟨g, 0, none⟩ : Addr).add j = ⟨g, j, none⟩ := by
      unfold Addr.add; split
      · next h => rw [h]
      · simp
    rwa [e] at this
theorem own_recs {α : Type} {w : World} {B : Nat} {e : TypeId} {c : Nat} {v : Value} {l : List α} {f : α → List Value} {g : α → Nat → Int} (h : w.ownsRow B e c v l.length (l.flatMap f)) (hf : ∀ x, (f x).length = c) (hg : ∀ x j, j < c → (f x)[j]? = some (.int .i64 (g x j))) : Recs w c g v l := by
  obtain ⟨A, cap, rfl, hc⟩ := own_get h
  refine ⟨A, cap, rfl, fun k hk => ?_⟩
  obtain ⟨b, rfl, hb, hcell⟩ := hc (by omega)
  refine ⟨b, 0, rfl, hb, fun j hj => ?_⟩
  rw [Nat.zero_add]
  exact hcell _ _ (by rw [flat_get hf l k j hk hj]; exact hg _ j hj)
theorem Held.lies {W : World} {B I : Nat} {i : Prob} {vc vs vp vt : Value} {us : List Value} (h : Held W B I i vc vs vp vt us) : Lies W (.agg #[vc, vs, vp, vt]) i := by
  refine ⟨vc, vs, vp, vt, rfl, ?_, ?_, ?_, ?_⟩
  · exact own_recs h.cars (fun x => rfl) (fun x j hj => by match j, hj with | 0, _ | 1, _ | 2, _ => rfl)
  · exact own_recs h.stops (fun x => rfl) (fun x j hj => by match j, hj with | 0, _ | 1, _ | 2, _ | 3, _ => rfl)
  · exact own_recs h.pairs (fun x => rfl) (fun x j hj => by match j, hj with | 0, _ | 1, _ => rfl)
  · obtain ⟨A, cap, rfl, hc⟩ := own_get h.travel
    refine ⟨A, cap, rfl, fun k hk => ?_⟩
    obtain ⟨b, rfl, hb, hcell⟩ := hc (by omega)
    obtain ⟨u, hu, g, cap', rfl, _, hbl, _⟩ := h.rows k hk
    refine ⟨b, 0, _, rfl, hb, by rw [Nat.zero_add]; exact hcell _ _ hu, ?_⟩
    exact hbl.recs 1 num_ i.travel[k] _ (fun k' hk' j hj => by
      obtain rfl : j = 0 := by omega
      simp [ints, num_, hk'])
theorem cut_line (t : ByteArray) (m : Int) (w : World) (hs : t.size < 4294967281) (hm : w.cell? ⟨1, 0, none⟩ = some (.int .i64 m)) :
    Calls Tryd.prog 25 #[.string t, .string ⟨#[10]⟩] w fun e w' => e = .returned (.tuple #[.string (ofL (cutL t.data.toList).1), .string (ofL (cutL t.data.toList).2.1), .bool (cutL t.data.toList).2.2]) ∧ Below w.heap.size w w' := by
  refine (strings_Cut t ⟨#[10]⟩ m w hs hm).mono ?_
  rintro e w' ⟨rfl, n, rfl⟩
  refine ⟨?_, below_draws (Below.refl _ _) n⟩
  rw [show (⟨#[10]⟩ : ByteArray).data.toList = [10] from rfl, cut_ten]
  rfl
def nilProb : Value := .agg #[.slice none 0 0, .slice none 0 0, .slice none 0 0, .slice none 0 0]
def ParseEnd (l : List UInt8) (w : World) (e : Ending) (w' : World) : Prop := Below w.heap.size w w' ∧
  ((parseL l = none ∧ e = .returned (.tuple #[.agg #[.slice none 0 0, .slice none 0 0, .slice none 0 0, .slice none 0 0], .int .i64 2])) ∨
   ∃ i, parseL l = some i ∧ ((probOk i = false ∧ e = .returned (.tuple #[.agg #[.slice none 0 0, .slice none 0 0, .slice none 0 0, .slice none 0 0], .int .i64 1])) ∨
     (probOk i = true ∧ ∃ v, e = .returned (.tuple #[v, .int .i64 0]) ∧ Lies w' v i)))
def lenS : Value → Nat | .string s => s.size | _ => 0
theorem held_start (w : World) : HeldSome (w.alloc (.cells #[.slice none 0 0, .slice none 0 0, .slice none 0 0, .slice none 0 0] 30)) w.heap.size w.heap.size noProb :=
  ⟨_, _, _, _, [], Nat.le_refl _, by unfold World.alloc; simp, ⟨rfl, .inl ⟨rfl, rfl⟩⟩, ⟨rfl, .inl ⟨rfl, rfl⟩⟩, ⟨rfl, .inl ⟨rfl, rfl⟩⟩, ⟨rfl, .inl ⟨rfl, rfl⟩⟩, fun k hk => absurd hk (by simp [noProb])⟩
theorem empty_size {t : ByteArray} (h : t.size = 0) : t.data.toList = [] := List.eq_nil_of_length_eq_zero (by simpa using h)
theorem Blk.nilR {W : World} {R : Nat} (h : Blk W R [.slice none 0 0, .slice none 0 0, .slice none 0 0, .slice none 0 0]) : (∀ j, j < 4 → W.cell? ⟨R, j, none⟩ = some (.slice none 0 0)) ∧ ∀ j, j < 4 → W.frozen? ⟨R, j, none⟩ = false :=
  ⟨fun j hj => by match j, hj with
    | 0, _ => exact (h.2 0 (by simp)).1
    | 1, _ => exact (h.2 1 (by simp)).1
    | 2, _ => exact (h.2 2 (by simp)).1
    | 3, _ => exact (h.2 3 (by simp)).1, fun j hj => (h.2 j (by simpa using hj)).2⟩
set_option maxRecDepth 100000 in
set_option maxHeartbeats 8000000 in
theorem parse_any (s : ByteArray) (mx : Int) (w : World) (hs : s.size ≤ 100000000) (hn : Names w) (hm : w.cell? ⟨1, 0, none⟩ = some (.int .i64 mx)) (h1 : 1 < w.heap.size) :
    Calls Tryd.prog 9 #[.string s] w (ParseEnd s.data.toList w) := by
  have HN := Lib.hid hn
  have HM := Lib.hid hm
  clear hn hm
  go_enter Tryd.func9, Tryd.ntmps9
  go_wp2
  generalize hW0 : w.alloc (.cells #[.slice none 0 0, .slice none 0 0, .slice none 0 0, .slice none 0 0] 30) = W0
  have hz0 : W0.heap.size = w.heap.size + 1 := by rw [← hW0]; simp
  have HB0 : Hid (Below w.heap.size w W0) := by show Below _ _ _; rw [← hW0]; exact (Below.refl _ _).alloc (Nat.le_refl _) _
  have HR0 : Hid (Blk W0 w.heap.size [.slice none 0 0, .slice none 0 0, .slice none 0 0, .slice none 0 0]) := by show Blk _ _ _; rw [← hW0]; exact blk_new _ _ _
  have HS0 : Hid (HeldSome (W0.alloc (.cells #[.slice none 0 0, .slice none 0 0, .slice none 0 0, .slice none 0 0] 30)) (w.heap.size + 1) (w.heap.size + 1) noProb) := by
    have := held_start W0; rw [hz0] at this; exact this
  have HZ := Lib.hid hz0
  have hz1 : W0.heap.size ≤ w.heap.size + 1 := by omega
  have hz2 : w.heap.size + 1 ≤ W0.heap.size := by omega
  clear hW0 hz0
  go_loopw [0, 5] (fun tv kv wr => ∃ (t : ByteArray) (k m : Nat) (i : Prob), tv = .string t ∧ kv = .int .i64 k ∧ k < 4 ∧ t.size ≤ m ∧ parseL s.data.toList = parseF m k i t.data.toList ∧ HeldSome wr (w.heap.size + 1) (w.heap.size + 1) i ∧ Below (w.heap.size + 1) W0 wr ∧ total i + t.size ≤ s.size) (fun tv _ _ => lenS tv)
  case atStart => exact ⟨s, 0, s.size, noProb, rfl, rfl, by omega, Nat.le_refl _, by unfold parseL; simp, HS0.out, (Below.refl _ _).alloc (by omega) _, by simp [total, noProb]⟩
  case round =>
    obtain ⟨t, k, m, i, rfl, rfl, hk4, htm, hp, hh, hb, htot⟩ := hrel
    have HP := Lib.hid hp
    have HH := Lib.hid hh
    have HB := Lib.hid hb
    have hsz := hb.size
    have HW : Hid (Below w.heap.size w wr) := HB0.out.trans (hb.mono (by omega))
    have HN1 := Lib.hid (HN.out.below HW.out (by omega))
    have HM1 : Hid (wr.cell? ⟨1, 0, none⟩ = some (.int .i64 mx)) := by show _ = _; rw [HW.out.cell h1]; exact HM.out
    clear hp hh hb
    by_cases ht0 : t.size = 0
    · have e1 := empty_size ht0
      have e2 : t.toList.isEmpty = true := by rw [Lib.toList_data, e1]; rfl
      have e3 : t.toList = [] := by rw [Lib.toList_data, e1]
      have e4 : (t.toList == []) = true := by rw [e3]; rfl
      have e5 : (t.toList != []) = false := by rw [e3]; rfl
      rw [e1, parseF_nil] at HP
      clear e1
      obtain ⟨vc, vs, vp, vt, us, hheld⟩ := HH.out
      obtain ⟨ac, nc, cc, rfl⟩ := own_slice hheld.cars
      obtain ⟨as', nS, cs, rfl⟩ := own_slice hheld.stops
      obtain ⟨ap, np, cp, rfl⟩ := own_slice hheld.pairs
      obtain ⟨at', nt, ct, rfl⟩ := own_slice hheld.travel
      have HHE := Lib.hid hheld
      have i0 : wr.cell? ⟨w.heap.size + 1, 0, none⟩ = some (.slice ac nc cc) := by rw [Lib.cell_of_heap hheld.box]; rfl
      have i1 : wr.cell? ⟨w.heap.size + 1, 1, none⟩ = some (.slice as' nS cs) := by rw [Lib.cell_of_heap hheld.box]; rfl
      have i2 : wr.cell? ⟨w.heap.size + 1, 2, none⟩ = some (.slice ap np cp) := by rw [Lib.cell_of_heap hheld.box]; rfl
      have i3 : wr.cell? ⟨w.heap.size + 1, 3, none⟩ = some (.slice at' nt ct) := by rw [Lib.cell_of_heap hheld.box]; rfl
      have hI : w.heap.size + 1 < wr.heap.size := (Array.getElem?_eq_some_iff.1 hheld.box).1
      have HL := Lib.hid hheld.lies
      have HSH : Hid (Short i) := by unfold total at htot; exact ⟨by omega, by omega, by omega⟩
      clear hheld
      cases hok : probOk i
      · have HOK := Lib.hid hok
        clear hok
        go_wp2_with (go_at_call 18; fail)
        (with_reducible refine (check_bad HL.out HSH.out HOK.out).mono ?_)
        rintro e w2 ⟨rfl, hb2⟩
        have HB2 := Lib.hid hb2
        have HR := Lib.hid ((HR0.out.below (HB.out.mono hz1)).below hb2).nilR
        clear hb2 i0 i1 i2 i3
        have r0 := HR.out.1 0 (by omega)
        have r1 := HR.out.1 1 (by omega)
        have r2 := HR.out.1 2 (by omega)
        have r3 := HR.out.1 3 (by omega)
        have g0 := HR.out.2 0 (by omega)
        have g1 := HR.out.2 1 (by omega)
        have g2 := HR.out.2 2 (by omega)
        have g3 := HR.out.2 3 (by omega)
        go_wp2
        refine bodyPost_ret (v := .tuple #[.agg #[.slice none 0 0, .slice none 0 0, .slice none 0 0, .slice none 0 0], .int .i64 1]) (by simp [results, Tryd.results9, go_sem, r0, r1, r2, r3]) rfl ⟨(((((HW.out.trans (HB2.out.mono HW.out.size)).setCell (p := ⟨w.heap.size, 0, none⟩) (Nat.le_refl _) _).setCell (p := ⟨w.heap.size, 1, none⟩) (Nat.le_refl _) _).setCell (p := ⟨w.heap.size, 2, none⟩) (Nat.le_refl _) _).setCell (p := ⟨w.heap.size, 3, none⟩) (Nat.le_refl _) _), .inr ⟨i, HP.out, .inl ⟨HOK.out, rfl⟩⟩⟩
      · have HOK := Lib.hid hok
        clear hok
        go_wp2_with (go_at_call 18; fail)
        (with_reducible refine (check_ok HL.out HSH.out HOK.out).mono ?_)
        rintro e w2 ⟨rfl, hb2⟩
        have HB2 := Lib.hid hb2
        have HR := Lib.hid ((HR0.out.below (HB.out.mono hz1)).below hb2).nilR
        have j0 : w2.cell? ⟨w.heap.size + 1, 0, none⟩ = some (.slice ac nc cc) := by rw [hb2.cell hI]; exact i0
        have j1 : w2.cell? ⟨w.heap.size + 1, 1, none⟩ = some (.slice as' nS cs) := by rw [hb2.cell hI]; exact i1
        have j2 : w2.cell? ⟨w.heap.size + 1, 2, none⟩ = some (.slice ap np cp) := by rw [hb2.cell hI]; exact i2
        have j3 : w2.cell? ⟨w.heap.size + 1, 3, none⟩ = some (.slice at' nt ct) := by rw [hb2.cell hI]; exact i3
        clear hb2 i0 i1 i2 i3
        have r0 := HR.out.1 0 (by omega)
        have r1 := HR.out.1 1 (by omega)
        have r2 := HR.out.1 2 (by omega)
        have r3 := HR.out.1 3 (by omega)
        have g0 := HR.out.2 0 (by omega)
        have g1 := HR.out.2 1 (by omega)
        have g2 := HR.out.2 2 (by omega)
        have g3 := HR.out.2 3 (by omega)
        have HHF := Lib.hid ((((((HHE.out.below HB2.out).low (R := w.heap.size) (by omega) 0 (.slice ac nc cc)).low (R := w.heap.size) (by omega) 1 (.slice as' nS cs)).low (R := w.heap.size) (by omega) 2 (.slice ap np cp)).low (R := w.heap.size) (by omega) 3 (.slice at' nt ct)).lies)
        go_wp2
        refine bodyPost_ret (v := .tuple #[.agg #[.slice ac nc cc, .slice as' nS cs, .slice ap np cp, .slice at' nt ct], .int .i64 0]) (by simp [results, Tryd.results9, go_sem, r0, r1, r2, r3]) rfl ⟨((((HW.out.trans (HB2.out.mono HW.out.size)).setCell (p := ⟨w.heap.size, 0, none⟩) (Nat.le_refl _) _).setCell (p := ⟨w.heap.size, 1, none⟩) (Nat.le_refl _) _).setCell (p := ⟨w.heap.size, 2, none⟩) (Nat.le_refl _) _).setCell (p := ⟨w.heap.size, 3, none⟩) (Nat.le_refl _) _, .inr ⟨i, HP.out, .inr ⟨HOK.out, _, rfl, HHF.out⟩⟩⟩
    · have ht1 : 0 < t.data.toList.length := by have : t.data.toList.length = t.size := rfl; omega
      have e1 : t.data.toList ≠ [] := fun e => by rw [e] at ht1; simp at ht1
      have HE1 := Lib.hid e1
      have e2 : t.toList.isEmpty = false := by rw [Lib.toList_data]; simpa using e1
      have e3 : (t.toList == []) = false := by rw [Lib.toList_data]; simpa using e1
      have e4 : (t.toList != []) = true := by rw [Lib.toList_data]; simpa using e1
      have hcl := cutL_len t.data.toList
      have hcl3 := hcl.2.2 e1
      have C1 := Lib.hid (cut_line t mx wr (by omega) HM1.out)
      have hts : t.data.toList.length = t.size := rfl
      have hln : (cutL t.data.toList).1.length ≤ t.size := hcl.1
      have hrs : (cutL t.data.toList).2.1.length < t.size := hcl3
      clear e1 hcl hcl3 hts ht1
      generalize hcut : cutL t.data.toList = ct at *
      obtain ⟨ln, rs, en⟩ := ct
      have HCUT := Lib.hid hcut
      clear hcut
      simp only at C1 hln hrs
      go_wp2_with (go_at_call 25; fail)
      (with_reducible refine (C1.out).mono ?_)
      rintro e w1 ⟨rfl, hb1⟩
      have HB1 := Lib.hid hb1
      have hs1 := hb1.size
      have C2 := Lib.hid (line_read (ofL ln) w1 (by have : (ofL ln).size = ln.length := rfl; omega) (HN1.out.below hb1 (by omega)) (by omega))
      rw [ofL_toList] at C2
      clear hb1 C1
      go_wp2_with (go_at_call 26; fail)
      (with_reducible refine (C2.out).mono ?_)
      rintro e w2 ⟨hb2, ⟨hl, kk, u, rfl⟩ | ⟨k', ns, g, hl, rfl, hgw, hbl, hty⟩⟩
      · have HL := Lib.hid hl
        have HB2 := Lib.hid ((HB1.out.trans (hb2.mono HB1.out.size)) : Below wr.heap.size wr w2)
        have HR := Lib.hid ((HR0.out.below (HB.out.mono hz1)).below HB2.out).nilR
        clear hb2 hl C2
        have r0 := HR.out.1 0 (by omega)
        have r1 := HR.out.1 1 (by omega)
        have r2 := HR.out.1 2 (by omega)
        have r3 := HR.out.1 3 (by omega)
        have g0 := HR.out.2 0 (by omega)
        have g1 := HR.out.2 1 (by omega)
        have g2 := HR.out.2 2 (by omega)
        have g3 := HR.out.2 3 (by omega)
        have HPN := Lib.hid (HP.out.trans (parseF_none htm HE1.out (by rw [HCUT.out]; exact HL.out)))
        cases en
        all_goals
          go_wp2
          refine bodyPost_ret (v := .tuple #[.agg #[.slice none 0 0, .slice none 0 0, .slice none 0 0, .slice none 0 0], .int .i64 2]) (by simp [results, Tryd.results9, go_sem, r0, r1, r2, r3]) rfl ⟨(((((HW.out.trans (HB2.out.mono HW.out.size)).setCell (p := ⟨w.heap.size, 0, none⟩) (Nat.le_refl _) _).setCell (p := ⟨w.heap.size, 1, none⟩) (Nat.le_refl _) _).setCell (p := ⟨w.heap.size, 2, none⟩) (Nat.le_refl _) _).setCell (p := ⟨w.heap.size, 3, none⟩) (Nat.le_refl _) _), .inl ⟨HPN.out, rfl⟩⟩
      · obtain ⟨x, ws, hw1, hw2, hw3, hw4, hw5, hw6⟩ := lineL_some hl
        have hk'4 := (kindL_lt hw3).1
        have hco : countOk k' ns.length = true := by rw [hw6, List.length_map]; exact hw4
        have HL := Lib.hid hl
        have HB2 := Lib.hid ((HB1.out.trans (hb2.mono HB1.out.size)) : Below wr.heap.size wr w2)
        have HR := Lib.hid ((HR0.out.below (HB.out.mono hz1)).below HB2.out).nilR
        have HRA : Hid (RowAt w2 (w.heap.size + 1) (.slice (some ⟨g, 0, none⟩) ns.length ns.length) ns) := ⟨g, rfl, by omega, hbl, hty⟩
        have hs2 := hb2.size
        have HH2 := Lib.hid (HH.out.below HB2.out)
        clear hb2 hl C2 hbl hty hw1 hw2 hw3 hw4 hw5 hw6
        cases en
        · have HPN := Lib.hid (HP.out.trans (parseF_open htm HE1.out (by rw [HCUT.out])))
          have r0 := HR.out.1 0 (by omega)
          have r1 := HR.out.1 1 (by omega)
          have r2 := HR.out.1 2 (by omega)
          have r3 := HR.out.1 3 (by omega)
          have g0 := HR.out.2 0 (by omega)
          have g1 := HR.out.2 1 (by omega)
          have g2 := HR.out.2 2 (by omega)
          have g3 := HR.out.2 3 (by omega)
          go_wp2
          refine bodyPost_ret (v := .tuple #[.agg #[.slice none 0 0, .slice none 0 0, .slice none 0 0, .slice none 0 0], .int .i64 2]) (by simp [results, Tryd.results9, go_sem, r0, r1, r2, r3]) rfl ⟨(((((HW.out.trans (HB2.out.mono HW.out.size)).setCell (p := ⟨w.heap.size, 0, none⟩) (Nat.le_refl _) _).setCell (p := ⟨w.heap.size, 1, none⟩) (Nat.le_refl _) _).setCell (p := ⟨w.heap.size, 2, none⟩) (Nat.le_refl _) _).setCell (p := ⟨w.heap.size, 3, none⟩) (Nat.le_refl _) _), .inl ⟨HPN.out, rfl⟩⟩
        · by_cases hlt : k' < k
          · have HPN := Lib.hid (HP.out.trans (parseF_back htm HE1.out (by rw [HCUT.out]; exact HL.out) hlt))
            have t1 : decide (k' < k) = true := by simpa using hlt
            have t2 : decide ((k' : Int) < (k : Int)) = true := by simp; omega
            have r0 := HR.out.1 0 (by omega)
            have r1 := HR.out.1 1 (by omega)
            have r2 := HR.out.1 2 (by omega)
            have r3 := HR.out.1 3 (by omega)
            have g0 := HR.out.2 0 (by omega)
            have g1 := HR.out.2 1 (by omega)
            have g2 := HR.out.2 2 (by omega)
            have g3 := HR.out.2 3 (by omega)
            go_wp2
            refine bodyPost_ret (v := .tuple #[.agg #[.slice none 0 0, .slice none 0 0, .slice none 0 0, .slice none 0 0], .int .i64 2]) (by simp [results, Tryd.results9, go_sem, r0, r1, r2, r3]) rfl ⟨(((((HW.out.trans (HB2.out.mono HW.out.size)).setCell (p := ⟨w.heap.size, 0, none⟩) (Nat.le_refl _) _).setCell (p := ⟨w.heap.size, 1, none⟩) (Nat.le_refl _) _).setCell (p := ⟨w.heap.size, 2, none⟩) (Nat.le_refl _) _).setCell (p := ⟨w.heap.size, 3, none⟩) (Nat.le_refl _) _), .inl ⟨HPN.out, rfl⟩⟩
          · have HPN := Lib.hid (HP.out.trans (parseF_step htm HE1.out (by rw [HCUT.out]) (by rw [HCUT.out]; exact HL.out) hlt))
            rw [HCUT.out] at HPN
            have t1 : decide (k' < k) = false := by simpa using hlt
            have t2 : decide ((k' : Int) < (k : Int)) = false := by simp; omega
            have C3 := Lib.hid (add_any (w.heap.size + 1) (w.heap.size + 1) k' i ns _ w2 HH2.out HRA.out (by omega) hk'4 hco (by omega))
            go_wp2_with (go_at_call 27; fail)
            (with_reducible refine (C3.out).mono ?_)
            rintro e w3 ⟨rfl, hh3, hb3⟩
            have HH3 := Lib.hid hh3
            have HB3 := Lib.hid ((HB.out.trans (HB2.out.mono (by omega))).trans hb3)
            have htt := total_add i k' ns
            clear hh3 hb3 C3
            go_wp2
            go_roundw
            case rel => exact ⟨ofL rs, k', m - 1, addL i k' ns, rfl, rfl, hk'4, by have : (ofL rs).size = rs.length := rfl; omega, HPN.out, HH3.out, HB3.out, by have : (ofL rs).size = rs.length := rfl; omega⟩
            case measure => simp [lenS]; have : (ofL rs).size = rs.length := rfl; omega
end Go.Proofs.YteibelmgebhleaaDoor
