/- draymankeep.Same of numbers that are the same; draymanlaw04.Same, wakes. -/
import Derived.Test.YtcllnfhjbfmomaaTripEval
import Derived.Laws.StructEq
namespace Go.Proofs.Ytcllnfhjbfmomaa
open Go.RowKit
set_option linter.unusedSimpArgs false

set_option maxRecDepth 100000 in
set_option maxHeartbeats 1000000 in
theorem same_ints (v1 v2 : Value) (l : List Int) (w : World) (h1 : Recs w 1 num_ v1 l) (h2 : Recs w 1 num_ v2 l) (hl : l.length ≤ 1099511627776) :
    Calls Try.prog 11 #[v1, v2] w fun e w' => e = .returned (.bool true) ∧ ∃ n, w' = w.drewN n := by
  obtain ⟨A1, c1, rfl, hc1⟩ := h1
  obtain ⟨A2, c2, rfl, hc2⟩ := h2
  have H1 := Lib.hid hc1
  have H2 := Lib.hid hc2
  clear hc1 hc2
  go_enter Try.func11, Try.ntmps11
  go_wp2
  go_loopw [5] (fun i wr => ∃ k n : Nat, k ≤ l.length ∧ i = .int .i64 k ∧ wr = w.drewN n) (fun i _ => l.length - (intOf i).toNat)
  case atStart => exact ⟨0, 0, Nat.zero_le _, rfl, rfl⟩
  case round =>
    obtain ⟨k, n, hk, rfl, rfl⟩ := hrel
    by_cases hlt : k < l.length
    · obtain ⟨g1, o1, rfl, hg1, d1⟩ := H1.out k hlt
      obtain ⟨g2, o2, rfl, hg2, d2⟩ := H2.out k hlt
      have a0 : w.cell? ⟨g1, o1 + k, none⟩ = some (.int .i64 l[k]) := by have := d1 0 (by omega); simpa [num_] using this
      have b0 : w.cell? ⟨g2, o2 + k, none⟩ = some (.int .i64 l[k]) := by have := d2 0 (by omega); simpa [num_] using this
      clear d1 d2
      generalize l[k] = x at *
      go_wp2
      go_quiet (fail)
      go_wp2
      go_roundw
      case rel => exact ⟨k + 1, _, by omega, by go_num, rfl⟩
      case measure => simp [intOf]; omega
    · go_wp2
      go_ret
      exact ⟨rfl, n, rfl⟩
theorem Recs.drewN {α : Type} {W : World} {c : Nat} {g : α → Nat → Int} {v : Value} {l : List α} (h : Recs W c g v l) (n : Nat) : Recs (W.drewN n) c g v l := h.below (below_draws' (Below.refl _ _) n)

set_option maxRecDepth 100000 in
set_option maxHeartbeats 2000000 in
theorem same_trip (A1 A2 D1 D2 : Option Addr) (c1 c2 d1 d2 : Nat) (arr load : List Int) (c h : Int) (w : World) (ha : Recs w 1 num_ (.slice A1 arr.length c1) arr) (hl : Recs w 1 num_ (.slice A2 load.length c2) load)
    (ka : Recs w 1 num_ (.slice D1 arr.length d1) arr) (kl : Recs w 1 num_ (.slice D2 load.length d2) load) (hn : arr.length ≤ 1000000) (hm : load.length ≤ 1000000) :
    Calls Try.prog 17 #[.agg #[.slice A1 arr.length c1, .slice A2 load.length c2, .int .i64 c, .int .i64 h], .agg #[.slice D1 arr.length d1, .slice D2 load.length d2, .int .i64 c, .int .i64 h]] w fun e w' => e = .returned (.bool true) ∧ Below w.heap.size w w' := by
  have BA := Lib.hid ((blk_new w #[.slice A1 arr.length c1, .slice A2 load.length c2, .int .i64 c, .int .i64 h] 26).alloc (.cells #[.slice D1 arr.length d1, .slice D2 load.length d2, .int .i64 c, .int .i64 h] 48))
  have BD := Lib.hid (blk_at (w := w.alloc (.cells #[.slice A1 arr.length c1, .slice A2 load.length c2, .int .i64 c, .int .i64 h] 26)) #[.slice D1 arr.length d1, .slice D2 load.length d2, .int .i64 c, .int .i64 h] 48 (show w.heap.size + 1 = _ by simp))
  have HB0 := Lib.hid (((Below.refl _ _).alloc (Nat.le_refl _) (.cells #[.slice A1 arr.length c1, .slice A2 load.length c2, .int .i64 c, .int .i64 h] 26)).alloc (by simp) (.cells #[.slice D1 arr.length d1, .slice D2 load.length d2, .int .i64 c, .int .i64 h] 48) : Below w.heap.size w _)
  have R1 := Lib.hid ha
  have R2 := Lib.hid hl
  have R3 := Lib.hid ka
  have R4 := Lib.hid kl
  clear ha hl ka kl
  go_enter Try.func17, Try.ntmps17
  go_upto_region 1 with (fail)
  generalize (w.alloc (.cells #[.slice A1 arr.length c1, .slice A2 load.length c2, .int .i64 c, .int .i64 h] 26)).alloc (.cells #[.slice D1 arr.length d1, .slice D2 load.length d2, .int .i64 c, .int .i64 h] 48) = w0 at *
  have a0 := BA.out.c0
  have a1 := BA.out.c1
  have a2 := BA.out.c2
  have a3 := BA.out.c3
  have b0 := BD.out.c0
  have b1 := BD.out.c1
  have b2 := BD.out.c2
  have b3 := BD.out.c3
  go_wp2_with (go_at_call 11; fail)
  (with_reducible refine (same_ints _ _ arr w0 (R1.out.below HB0.out) (R3.out.below HB0.out) (by omega)).mono ?_)
  rintro e w1 ⟨rfl, n1, rfl⟩
  go_wp2_with (go_at_call 11; fail)
  (with_reducible refine (same_ints _ _ load _ (R2.out.below (below_draws' HB0.out _)) (R4.out.below (below_draws' HB0.out _)) (by omega)).mono ?_)
  rintro e w2 ⟨rfl, n2, rfl⟩
  go_wp2
  go_ret
  exact ⟨rfl, below_draws' HB0.out _⟩

def wakeProb : Prob := ⟨[⟨0, 2, 5⟩], [], [], [[0]]⟩
theorem wake_lies {w : World} {S : Nat} (h0 : Blk w S (ints [0, 2, 5])) (h1 : Blk w (S + 1) (ints [0])) (h2 : Blk w (S + 1 + 1) [.slice (some ⟨S + 1, 0, none⟩) 1 1]) :
    Lies w (.agg #[.slice (some ⟨S, 0, none⟩) 1 1, .slice none 0 0, .slice none 0 0, .slice (some ⟨S + 1 + 1, 0, none⟩) 1 1]) wakeProb :=
  ⟨_, _, _, _, rfl, h0.car _, Recs.nil, Recs.nil, h2.trav [[0]] 1 fun k hk => by
    match k, hk with
    | 0, _ => exact ⟨_, rfl, h1.recs 1 num_ [0] 1 fun k hk j hj => by
        match k, hk, j, hj with
        | 0, _, 0, _ => rfl⟩⟩
set_option maxRecDepth 100000 in
set_option maxHeartbeats 2000000 in
theorem wakes_any (w : World) : Calls Try.prog 14 #[] w fun e w' => e = .returned (.bool true) ∧ Below w.heap.size w w' := by
  have HL := Lib.hid (wake_lies (w := ((w.alloc (.cells #[.int .i64 0, .int .i64 2, .int .i64 5] 44)).alloc (.cells #[.int .i64 0] 3)).alloc (.cells #[.slice (some ⟨w.heap.size + 1, 0, none⟩) 1 1] 22)) (S := w.heap.size)
    (((blk_at _ _ rfl).alloc _).alloc _) ((blk_at _ _ (by simp)).alloc _) (blk_at _ _ (by simp)))
  have HB0 := Lib.hid ((((Below.refl _ _).alloc (Nat.le_refl _) (.cells #[.int .i64 0, .int .i64 2, .int .i64 5] 44)).alloc (by simp) (.cells #[.int .i64 0] 3)).alloc (by simp; omega) (.cells #[.slice (some ⟨w.heap.size + 1, 0, none⟩) 1 1] 22) : Below w.heap.size w _)
  go_enter Try.func14, Try.ntmps14
  go_wp2_with (go_at_call 9; fail)
  generalize ((w.alloc (.cells #[.int .i64 0, .int .i64 2, .int .i64 5] 44)).alloc (.cells #[.int .i64 0] 3)).alloc (.cells #[.slice (some ⟨w.heap.size + 1, 0, none⟩) 1 1] 22) = w0 at *
  (with_reducible refine (eval_any _ _ wakeProb 0 [] w0 HL.out rfl (by decide) Recs.nil (by decide)).mono ?_)
  rintro e w1 hti
  obtain ⟨hb1, ⟨hn, _⟩ | ⟨r, A1, c1, A2, c2, hr, rfl, _⟩⟩ := hti
  · exact absurd hn (by decide)
  · obtain rfl : r = ⟨[], [], 0, 2⟩ := by
      have : evalL wakeProb 0 [] = some ⟨[], [], 0, 2⟩ := by decide
      rw [this] at hr
      injection hr with hr
      exact hr.symm
    have HB1 := Lib.hid (HB0.out.trans (hb1.mono HB0.out.size))
    clear hb1 hr
    go_wp2
    go_ret
    exact ⟨rfl, HB1.out.alloc HB1.out.size _⟩

/-- a slice of numbers, as an append reads it -/
theorem Recs.reads {w : World} {A : Option Addr} {cap : Nat} {r : List Int} (h : Recs w 1 num_ (.slice A r.length cap) r) : Reads w w.heap.size 1 A r.length (ints r) := by
  obtain ⟨A', cap', e, hc⟩ := h.num
  injection e with e1 _ e3
  subst e1 e3
  refine ⟨by simp [ints], fun hpos => ?_⟩
  obtain ⟨B, o, rfl, hB, _⟩ := hc 0 hpos
  refine ⟨_, rfl, hB, fun j u hu => ?_⟩
  simp only [ints, List.getElem?_map, Option.map_eq_some_iff] at hu
  obtain ⟨y, hy, rfl⟩ := hu
  obtain ⟨hj, rfl⟩ := List.getElem?_eq_some_iff.1 hy
  obtain ⟨B', o', e', _, hcell⟩ := hc j hj
  injection e' with e'
  injection e' with e1 e2 _
  subst e1 e2
  have ha : (⟨B, o, none⟩ : Addr).add j = ⟨B, o + j, none⟩ := by unfold Addr.add; split <;> simp_all
  rw [ha]
  exact hcell
set_option maxRecDepth 100000 in
set_option maxHeartbeats 2000000 in
theorem copy_any (A : Option Addr) (cap : Nat) (r : List Int) (w : World) (h : Recs w 1 num_ (.slice A r.length cap) r) (hl : r.length ≤ 1000000) :
    Calls Try.prog 20 #[.slice A r.length cap] w fun e w' => ∃ A' cap', e = .returned (.slice A' r.length cap') ∧ w'.ownsRow w.heap.size 3 1 (.slice A' r.length cap') r.length (ints r) ∧ Below w.heap.size w w' := by
  obtain ⟨i0, hi0, hz0, hz1, hz2⟩ := info_parts int_info
  have HR := Lib.hid h.reads
  clear h
  go_enter Try.func20, Try.ntmps20
  go_wp2_with (at_builtin; refine wpList_append_any _ rfl _ _ 22 rfl w.heap.size 3 i0 _ 1 8 Try.underlying22 hi0 hz0 hz1 hz2 rfl (by decide) (.slice none 0 0) 0 [] rfl ⟨rfl, .inl ⟨rfl, rfl⟩⟩ w.heap.size A r.length cap (ints r) rfl HR.out (ints_one r) ?c2 ?c3 (Nat.le_refl _) ?_)
  case c2 => unfold maxLen; omega
  case c3 => omega
  intro v' w2 hown' hgrow hob
  have hb : Below w.heap.size w w2 := (Below.refl _ _).grown hgrow (Nat.le_refl _) (fun g hg => by cases hg)
  (try simp only [Nat.zero_add, List.nil_append] at hown')
  obtain ⟨A', n', cap', rfl⟩ := own_slice hown'
  obtain rfl : n' = r.length := by
    rcases hown'.2 with ⟨h, h0⟩ | ⟨_, _, _, h, _⟩
    · injection h with _ h _; omega
    · injection h
  have HO := Lib.hid hown'
  have HB := Lib.hid hb
  clear hown' hgrow hob hb
  go_wp2
  go_ret
  exact ⟨A', cap', rfl, HO.out, HB.out⟩
end Go.Proofs.Ytcllnfhjbfmomaa
