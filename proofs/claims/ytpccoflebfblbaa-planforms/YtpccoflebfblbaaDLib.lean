/- The library's calls at rows of numbers and of records, in the words of owned rows. -/
import Derived.Test.YtpccoflebfblbaaDPlain
import Derived.Test.YtpccoflebfblbaaShelf
import Derived.Lib.SliceRun
namespace Go.Proofs.Ytpccoflebfblbaa
open Go.RowKit
set_option linter.unusedSimpArgs false

/-- a new row of n records -/
def NewRow (T : TypeId) (c n : Nat) (xs : List Value) (w : World) (e : Ending) (w' : World) : Prop := ∃ v, e = .returned v ∧ w'.ownsRow w.heap.size T c v n xs ∧ Below w.heap.size w w'
theorem flat_ints (l : List Int) : l.flatMap (fun x => ints [x]) = ints l := by
  induction l with
  | nil => rfl
  | cons x l ih => rw [List.flatMap_cons, ih]; rfl
theorem recs_reads1 {w : World} {A : Option Addr} {cap : Nat} {l : List Int} (h : Recs w 1 num_ (.slice A l.length cap) l) : Reads w w.heap.size 1 A l.length (ints l) := by
  refine ⟨by simp [ints], fun hn => ?_⟩
  obtain ⟨B, o, rfl, hB, _⟩ := recs_num h hn
  refine ⟨_, rfl, hB, fun j u hu => ?_⟩
  have hj : j < l.length := by have := (List.getElem?_eq_some_iff.1 hu).1; simpa [ints] using this
  obtain ⟨B', o', e', _, hx⟩ := recs_num h hj
  injection e' with e'
  injection e' with e1 e2 _
  subst e1 e2
  have ha : (⟨B, o, none⟩ : Addr).add j = ⟨B, o + j, none⟩ := by unfold Addr.add; split <;> simp_all
  rw [ha, hx, ← hu]
  simp [ints, hj]
theorem own_recs1 {w : World} {B : Nat} {e : TypeId} {v : Value} {l : List Int} (h : w.ownsRow B e 1 v l.length (ints l)) : Recs w 1 num_ v l := by
  rw [← flat_ints] at h
  exact own_recs h (fun _ => rfl) (fun x j hj => by obtain rfl : j = 0 := by omega
                                                    rfl)
set_option maxRecDepth 100000 in
set_option maxHeartbeats 1000000 in
theorem clone_own (A : Option Addr) (cap : Nat) (l : List Int) (w : World) (h : Recs w 1 num_ (.slice A l.length cap) l) (hl : l.length ≤ 1000000) :
    Calls Try.prog 39 #[.slice A l.length cap] w (NewRow 3 1 l.length (ints l) w) := by
  obtain ⟨i0, hi, hz0, hz1, hz2⟩ := info_parts int_info
  have qT : ∀ (w : World) (a : Option Addr) (n c n' c' : Nat), (binOp .eql 28 (.slice a n c) (.slice none n' c')).run Try.prog w = .ok (.bool a.isNone) w := fun w a n c n' c' => Lib.run_eql_slice_nil w _ _ a n c n' c' Try.underlying28
  have HR := Lib.hid (recs_reads1 h)
  have HO : Hid (∀ u ∈ ints l, u.oneCell' = true) := Lib.hid (ints_one l)
  cases A with
  | none =>
    have hn : l.length = 0 := by
      rcases Nat.eq_zero_or_pos l.length with h | h
      · exact h
      · obtain ⟨_, e, _⟩ := HR.out.2 h
        cases e
    have HX : Hid (ints l = []) := by
      obtain rfl : l = [] := List.length_eq_zero_iff.1 hn
      exact Lib.hid rfl
    rw [hn]
    go_enter Try.func39, Try.ntmps39
    go_wp2
    go_ret
    exact ⟨_, rfl, by rw [HX.out]; exact World.ownsRow_nil _ _ _ _, Below.refl _ _⟩
  | some ad =>
    have RD : Hid (Reads (w.alloc (.cells #[] 3)) w.heap.size 1 (some ad) l.length (ints l)) := Lib.hid (HR.out.alloc (Nat.le_refl _) _)
    have OW : Hid ((w.alloc (.cells #[] 3)).ownsRow w.heap.size 3 1 (.slice (some ⟨w.heap.size, 0, none⟩) 0 0) 0 []) := World.ownsRow_made w #[] 0 (Nat.le_refl _) (by decide) rfl
    have HB0 := Lib.hid ((Below.refl w.heap.size w).alloc (Nat.le_refl _) (.cells #[] 3))
    go_enter Try.func39, Try.ntmps39
    go_wp2_with (at_builtin; refine wpList_append_any _ rfl _ _ 28 rfl w.heap.size 3 i0 _ 1 8 Try.underlying28 hi hz0 hz1 hz2 rfl (by decide) (.slice (some ⟨w.heap.size, 0, none⟩) 0 0) 0 [] rfl OW.out w.heap.size (some ad) l.length cap (ints l) rfl RD.out ?c1 ?c2 ?c3 ?c4 ?_)
    case c1 => exact HO.out
    case c2 => unfold maxLen; omega
    case c3 => omega
    case c4 => simp
    intro v' w2 hown hgrow hob
    have HOW := Lib.hid hown
    have HG := Lib.hid (HB0.out.grown hgrow HB0.out.size (fun k hk => by simp [Value.ownBlock] at hk; omega))
    clear hown hgrow hob
    go_wp2
    go_ret
    exact ⟨_, rfl, HOW.out, HG.out⟩
theorem recs_getD {w : World} {A : Option Addr} {cap : Nat} {l : List Int} (h : Recs w 1 num_ (.slice A l.length cap) l) (hn : 0 < l.length) : ∃ B o, A = some ⟨B, o, none⟩ ∧ ∀ j, j < l.length → w.cell? ⟨B, o + j, none⟩ = some (.int .i64 (l.getD j 0)) := by
  obtain ⟨B, o, rfl, hB, _⟩ := recs_num h hn
  refine ⟨B, o, rfl, fun j hj => ?_⟩
  obtain ⟨B', o', e', _, hx⟩ := recs_num h hj
  injection e' with e'
  injection e' with e1 e2 _
  subst e1 e2
  rw [hx]
  simp [List.getD, hj]
theorem equal_own (A1 A2 : Option Addr) (c1 c2 : Nat) (a b : List Int) (w : World) (h1 : Recs w 1 num_ (.slice A1 a.length c1) a) (h2 : Recs w 1 num_ (.slice A2 b.length c2) b) (hl : a.length ≤ 1099511627776) (hm : b.length ≤ 1099511627776) :
    Calls Try.prog 34 #[.slice A1 a.length c1, .slice A2 b.length c2] w fun e w' => e = .returned (.bool (decide (a = b))) ∧ ∃ n, w' = w.drewN n := by
  by_cases hn : a.length = b.length
  · rcases Nat.eq_zero_or_pos a.length with h0 | h0
    · have ha : a = [] := List.length_eq_zero_iff.1 h0
      have hb : b = [] := List.length_eq_zero_iff.1 (by omega)
      subst ha hb
      refine (slices_Equal_int_empty A1 A2 c1 0 c2 w (by omega)).mono ?_
      rintro e w' ⟨rfl, rfl⟩
      exact ⟨by simp, 0, rfl⟩
    · obtain ⟨B1, o1, rfl, k1⟩ := recs_getD h1 h0
      obtain ⟨B2, o2, rfl, k2⟩ := recs_getD h2 (by omega)
      refine (slices_Equal_int B1 o1 a.length c1 B2 o2 b.length c2 a b w (Nat.le_refl _) (Nat.le_refl _) (by omega) (by omega) k1 k2).mono ?_
      rintro e w' ⟨rfl, q, rfl⟩
      refine ⟨?_, q, rfl⟩
      rw [List.take_of_length_le (Nat.le_refl _), List.take_of_length_le (Nat.le_refl _)]
      by_cases hab : a = b
      · subst hab; simp
      · simp [hab]
  · refine (slices_Equal_int_lens A1 A2 a.length c1 b.length c2 w hn).mono ?_
    rintro e w' ⟨rfl, rfl⟩
    exact ⟨by rw [decide_eq_false (fun h => hn (by rw [h]))], 0, rfl⟩
theorem compact_len (l : List Int) : (Lib.compact l).length ≤ l.length := by
  unfold Lib.compact Lib.compactUpTo
  rw [List.length_map]
  exact Nat.le_trans (List.length_filter_le _ _) (by simp)
def sortI (l : List Int) : List Int := l.mergeSort fun x y => decide (x ≤ y)
theorem sortI_length (l : List Int) : (sortI l).length = l.length := List.length_mergeSort l
theorem sort_own (B : Nat) (v : Value) (l : List Int) (w : World) (h : w.ownsRow B 3 1 v l.length (ints l)) (hl : l.length < 4611686018427387904) :
    Calls Try.prog 52 #[v] w fun e w' => e = .returned (.tuple #[]) ∧ w'.ownsRow B 3 1 v l.length (ints (sortI l)) ∧ w.grownBy w' v.ownBlock := by
  rcases h.2 with ⟨rfl, hn⟩ | ⟨g, cap, cur, rfl, hbase, hb, h1, h2, h3, h4⟩
  · have : l = [] := List.length_eq_zero_iff.1 hn
    subst this
    refine (slices_Sort_int_none none 0 w).mono ?_
    rintro e w' ⟨rfl, rfl⟩
    exact ⟨rfl, by rw [show sortI [] = [] by simp [sortI]]; exact h, only_of_below (Below.refl _ _) _⟩
  · have hH := holds_of_blockI hb (by rw [Nat.mul_one] at h4; exact h4)
    refine (slices_Sort_int g 0 cap l w hH (Array.getElem?_eq_some_iff.1 hb).1 hl).mono ?_
    rintro e w' ⟨rfl, n, os, rfl⟩
    refine ⟨rfl, ?_, grownBy_sortedI _⟩
    have := ownsRow_sortedI (n := n) (os := os) (ts := l.mergeSort fun x y => decide (x ≤ y)) (sortI_length l) hbase hb h1 h2 h3
    exact this
theorem compact_own (B : Nat) (v : Value) (l : List Int) (w : World) (h : w.ownsRow B 3 1 v l.length (ints l)) (hl : l.length ≤ 1099511627776) :
    Calls Try.prog 53 #[v] w fun e w' => ∃ v', e = .returned v' ∧ w'.ownsRow B 3 1 v' (Lib.compact l).length (ints (Lib.compact l)) ∧ w.grownBy w' v.ownBlock ∧ (Lib.compact l).length ≤ l.length := by
  have hc : (Lib.compact l).length ≤ l.length := compact_len l
  rcases h.2 with ⟨rfl, hn⟩ | ⟨g, cap, cur, rfl, hbase, hb, h1, h2, h3, h4⟩
  · have : l = [] := List.length_eq_zero_iff.1 hn
    subst this
    refine (slices_Compact_int_empty none 0 w).mono ?_
    rintro e w' ⟨rfl, rfl⟩
    exact ⟨_, rfl, h, only_of_below (Below.refl _ _) _, hc⟩
  · have hH := holds_of_blockI hb (by rw [Nat.mul_one] at h4; exact h4)
    refine (slices_Compact_int g 0 cap l w hH (by omega) h1).mono ?_
    rintro e w' ⟨rfl, q, rfl⟩
    have e1 : Go.Sort.putRow (Value.int .i64) (Go.Sort.ahead w q) g 0 (Lib.compact l ++ List.replicate (l.length - (Lib.compact l).length) 0).toArray = Go.Sort.grow (Go.Sort.putRow (Value.int .i64) (Go.Sort.ahead w q) g 0 (Lib.compact l ++ List.replicate (l.length - (Lib.compact l).length) 0).toArray) #[] := by rw [Go.Sort.grow_empty]
    rw [e1]
    refine ⟨_, rfl, ?_, grownBy_sortedI _, hc⟩
    have hz : (Lib.compact l ++ List.replicate (l.length - (Lib.compact l).length) 0).length = l.length := by rw [List.length_append, List.length_replicate]; omega
    refine ⟨by simp [ints], .inr ⟨g, cap, _, rfl, hbase, heap_sortedI _ hb, by omega, h2, by simp [Go.Sort.putCells, h3], ?_⟩⟩
    have := take_putCellsI cur (Lib.compact l ++ List.replicate (l.length - (Lib.compact l).length) 0) (by rw [hz]; omega)
    rw [hz] at this
    have h5 := congrArg (List.take (Lib.compact l).length) this
    rw [List.take_take, Nat.min_eq_left hc, List.map_append, List.take_left' (by simp)] at h5
    rw [Nat.mul_one]
    exact h5
theorem search_own (A : Option Addr) (cap : Nat) (l : List Int) (x : Int) (w : World) (h : Recs w 1 num_ (.slice A l.length cap) l) (hl : l.length ≤ 1099511627776) (hs : l.Pairwise (· ≤ ·)) :
    Calls Try.prog 123 #[.slice A l.length cap, .int .i64 x] w fun e w' => ∃ k : Int, e = .returned (.tuple #[.int .i64 k, .bool (decide (x ∈ l))]) ∧ ∃ n, w' = w.drewN n := by
  rcases Nat.eq_zero_or_pos l.length with h0 | h0
  · have : l = [] := List.length_eq_zero_iff.1 h0
    subst this
    refine (slices_BinarySearch_int_empty A cap x w).mono ?_
    rintro e w' ⟨rfl, rfl⟩
    exact ⟨0, by simp, 0, rfl⟩
  · obtain ⟨B, o, rfl, k1⟩ := recs_getD h h0
    refine (slices_BinarySearch_int B o l.length cap l x w (Nat.le_refl _) (by omega) k1 (by rw [List.take_of_length_le (Nat.le_refl _)]; exact hs)).mono ?_
    rintro e w' ⟨rfl, q, rfl⟩
    rw [List.take_of_length_le (Nat.le_refl _)]
    have hx : l.contains x = decide (x ∈ l) := by by_cases hx : x ∈ l <;> simp [hx]
    rw [hx]
    exact ⟨_, rfl, q, rfl⟩
theorem grow_own (n : Nat) (w : World) (hn : n ≤ 1000000000) :
    Calls Try.prog 71 #[.slice none 0 0, .int .i64 (n : Int)] w (NewRow 3 1 0 [] w) := by
  rcases Nat.eq_zero_or_pos n with h0 | h0
  · subst h0
    refine (Any8.slices_Grow_room growI none 0 0 0 w (Nat.le_refl _) (by omega) (by omega) (by omega)).mono ?_
    rintro e w' ⟨rfl, rfl⟩
    exact ⟨_, rfl, World.ownsRow_nil _ _ _ _, Below.refl _ _⟩
  · obtain ⟨i0, hi, hz0, hz1, hz2⟩ := info_parts int_info
    have hb8 : (0 + n) * i0.bytes ≤ 140737488355328 := by rw [hz2]; omega
    refine (Any8.slices_Grow_grow growI i0 (.int .i64 0) hi hz0 (by rw [hz1]; omega) none 0 0 n [] w (Nat.le_refl _) (by omega) hb8 (by omega) (by simp) (fun _ => rfl) (by intro a ha; cases ha)).mono ?_
    rintro e w' ⟨rfl, rfl⟩
    have hG : 0 + n ≤ grownCap w (0 + n) 0 (growI_ren.t 25) := grownCap_ge w _ _ _
    have hF : grownCap w (0 + n) 0 (growI_ren.t 25) ≤ maxLen := grownCap_le_maxLen w _ _ _ (by unfold maxLen; omega)
    refine ⟨_, rfl, ?_, (Below.drew (Below.refl _ _)).alloc (Nat.le_refl _) _⟩
    exact World.ownsRow_made w.drew _ _ (Nat.le_refl _) hF (by
      rw [Array.size_append, Array.size_append, size_zeroCells, size_zeroCells, show (Value.int .i64 0).cells.size = 1 from rfl]
      simp only [List.size_toArray, List.length_nil]
      omega)
end Go.Proofs.Ytpccoflebfblbaa
