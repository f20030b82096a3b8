/- The library's calls at rows of numbers and of records, in the words of owned rows. -/
import Derived.Test.YtneelmmikaefgaaDPlain
import Derived.Test.YtneelmmikaefgaaShelf
import Derived.Lib.SliceRun
import Derived.Lib.SlicesCompact
namespace Go.Proofs.Ytneelmmikaefgaa
open Go.RowKit
set_option linter.unusedSimpArgs false

/-- a new row of n records -/
def NewRow (T : TypeId) (c n : Nat) (xs : List Value) (w : World) (e : Ending) (w' : World) : Prop := ∃ v, e = .returned v ∧ w'.ownsRow w.heap.size T c v n xs ∧ Below w.heap.size w w'
theorem flat_ints (l : List Int) : l.flatMap (fun x => ints [x]) = ints l := by
  induction l with
  | nil => rfl
  | cons x l ih => rw [List.flatMap_cons, ih]; rfl
theorem recs_reads1 {w : World} {A : Option Addr} {cap : Nat} {l : List Int} (h : Recs w 1 num_ (.slice A l.length cap) l) : Reads w w.heap.size 1 A l.length (ints l) := by
  refine ⟨by simp [ints], fun hn => ?_⟩
  obtain ⟨B, o, rfl, hB, _⟩ := recs_num h hn
  refine ⟨_, rfl, hB, fun j u hu => ?_⟩
  have hj : j < l.length := by have := (List.getElem?_eq_some_iff.1 hu).1; simpa [ints] using this
  obtain ⟨B', o', e', _, hx⟩ := recs_num h hj
  injection e' with e'
  injection e' with e1 e2 _
  subst e1 e2
  have ha : (⟨B, o, none⟩ : Addr).add j = ⟨B, o + j, none⟩ := by unfold Addr.add; split <;> simp_all
  rw [ha, hx, ← hu]
  simp [ints, hj]
theorem own_recs1 {w : World} {B : Nat} {e : TypeId} {v : Value} {l : List Int} (h : w.ownsRow B e 1 v l.length (ints l)) : Recs w 1 num_ v l := by
  rw [← flat_ints] at h
  exact own_recs h (fun _ => rfl) (fun x j hj => by obtain rfl : j = 0 := by omega
                                                    rfl)
set_option maxRecDepth 100000 in
set_option maxHeartbeats 1000000 in
theorem clone_own (A : Option Addr) (cap : Nat) (l : List Int) (w : World) (h : Recs w 1 num_ (.slice A l.length cap) l) (hl : l.length ≤ 1000000) :
    Calls Try.prog 29 #[.slice A l.length cap] w (NewRow 3 1 l.length (ints l) w) := by
  obtain ⟨i0, hi, hz0, hz1, hz2⟩ := info_parts int_info
  have qT : ∀ (w : World) (a : Option Addr) (n c n' c' : Nat), (binOp .eql 22 (.slice a n c) (.slice none n' c')).run Try.prog w = .ok (.bool a.isNone) w := fun w a n c n' c' => Lib.run_eql_slice_nil w _ _ a n c n' c' Try.underlying22
  have HR := Lib.hid (recs_reads1 h)
  have HO : Hid (∀ u ∈ ints l, u.oneCell' = true) := Lib.hid (ints_one l)
  cases A with
  | none =>
    have hn : l.length = 0 := by
      rcases Nat.eq_zero_or_pos l.length with h | h
      · exact h
      · obtain ⟨_, e, _⟩ := HR.out.2 h
        cases e
    have HX : Hid (ints l = []) := by
      obtain rfl : l = [] := List.length_eq_zero_iff.1 hn
      exact Lib.hid rfl
    rw [hn]
    go_enter Try.func29, Try.ntmps29
    go_wp2
    go_ret
    exact ⟨_, rfl, by rw [HX.out]; exact World.ownsRow_nil _ _ _ _, Below.refl _ _⟩
  | some ad =>
    have RD : Hid (Reads (w.alloc (.cells #[] 3)) w.heap.size 1 (some ad) l.length (ints l)) := Lib.hid (HR.out.alloc (Nat.le_refl _) _)
    have OW : Hid ((w.alloc (.cells #[] 3)).ownsRow w.heap.size 3 1 (.slice (some ⟨w.heap.size, 0, none⟩) 0 0) 0 []) := World.ownsRow_made w #[] 0 (Nat.le_refl _) (by decide) rfl
    have HB0 := Lib.hid ((Below.refl w.heap.size w).alloc (Nat.le_refl _) (.cells #[] 3))
    go_enter Try.func29, Try.ntmps29
    go_wp2_with (at_builtin; refine wpList_append_any _ rfl _ _ 22 rfl w.heap.size 3 i0 _ 1 8 Try.underlying22 hi hz0 hz1 hz2 rfl (by decide) (.slice (some ⟨w.heap.size, 0, none⟩) 0 0) 0 [] rfl OW.out w.heap.size (some ad) l.length cap (ints l) rfl RD.out ?c1 ?c2 ?c3 ?c4 ?_)
    case c1 => exact HO.out
    case c2 => unfold maxLen; omega
    case c3 => omega
    case c4 => simp
    intro v' w2 hown hgrow hob
    have HOW := Lib.hid hown
    have HG := Lib.hid (HB0.out.grown hgrow HB0.out.size (fun k hk => by simp [Value.ownBlock] at hk; omega))
    clear hown hgrow hob
    go_wp2
    go_ret
    exact ⟨_, rfl, HOW.out, HG.out⟩
theorem recs_getD {w : World} {A : Option Addr} {cap : Nat} {l : List Int} (h : Recs w 1 num_ (.slice A l.length cap) l) (hn : 0 < l.length) : ∃ B o, A = some ⟨B, o, none⟩ ∧ ∀ j, j < l.length → w.cell? ⟨B, o + j, none⟩ = some (.int .i64 (l.getD j 0)) := by
  obtain ⟨B, o, rfl, hB, _⟩ := recs_num h hn
  refine ⟨B, o, rfl, fun j hj => ?_⟩
  obtain ⟨B', o', e', _, hx⟩ := recs_num h hj
  injection e' with e'
  injection e' with e1 e2 _
  subst e1 e2
  rw [hx]
  simp [List.getD, hj]
theorem equal_own (A1 A2 : Option Addr) (c1 c2 : Nat) (a b : List Int) (w : World) (h1 : Recs w 1 num_ (.slice A1 a.length c1) a) (h2 : Recs w 1 num_ (.slice A2 b.length c2) b) (hl : a.length ≤ 1099511627776) (hm : b.length ≤ 1099511627776) :
    Calls Try.prog 50 #[.slice A1 a.length c1, .slice A2 b.length c2] w fun e w' => e = .returned (.bool (decide (a = b))) ∧ ∃ n, w' = w.drewN n := by
  by_cases hn : a.length = b.length
  · rcases Nat.eq_zero_or_pos a.length with h0 | h0
    · have ha : a = [] := List.length_eq_zero_iff.1 h0
      have hb : b = [] := List.length_eq_zero_iff.1 (by omega)
      subst ha hb
      refine (slices_Equal_int_empty A1 A2 c1 0 c2 w (by omega)).mono ?_
      rintro e w' ⟨rfl, rfl⟩
      exact ⟨by simp, 0, rfl⟩
    · obtain ⟨B1, o1, rfl, k1⟩ := recs_getD h1 h0
      obtain ⟨B2, o2, rfl, k2⟩ := recs_getD h2 (by omega)
      refine (slices_Equal_int B1 o1 a.length c1 B2 o2 b.length c2 a b w (Nat.le_refl _) (Nat.le_refl _) (by omega) (by omega) k1 k2).mono ?_
      rintro e w' ⟨rfl, q, rfl⟩
      refine ⟨?_, q, rfl⟩
      rw [List.take_of_length_le (Nat.le_refl _), List.take_of_length_le (Nat.le_refl _)]
      by_cases hab : a = b
      · subst hab; simp
      · simp [hab]
  · refine (slices_Equal_int_lens A1 A2 a.length c1 b.length c2 w hn).mono ?_
    rintro e w' ⟨rfl, rfl⟩
    exact ⟨by rw [decide_eq_false (fun h => hn (by rw [h]))], 0, rfl⟩
theorem compact_len (l : List Int) : (Lib.compact l).length ≤ l.length := by
  unfold Lib.compact Lib.compactUpTo
  rw [List.length_map]
  exact Nat.le_trans (List.length_filter_le _ _) (by simp)
def sortI (l : List Int) : List Int := l.mergeSort fun x y => decide (x ≤ y)
theorem sortI_length (l : List Int) : (sortI l).length = l.length := List.length_mergeSort l
end Go.Proofs.Ytneelmmikaefgaa
