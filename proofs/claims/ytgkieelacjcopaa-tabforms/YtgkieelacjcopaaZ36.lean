/- draymanlaw05.hand: the problem by hand, in new memory. · The walk of TabForms: whatever the number, the law returns true; old memory stands. -/
import Derived.Test.YtgkieelacjcopaaZ17
namespace Go.Proofs.Ytgkieelacjcopaa
open Go.RowKit
set_option linter.unusedSimpArgs false

def handP5 : Prob := ⟨[⟨6, 10, 60⟩], [⟨3, 0, 40, 2⟩, ⟨2, 30, 35, 5⟩, ⟨-2, 0, 50, 0⟩], [⟨2, 3⟩], [[0, 4, 6, 8], [5, 0, 2, 9], [7, 3, 0, 2], [1, 1, 1, 0]]⟩
theorem hand5_ok : probOk handP5 = true := by decide
def slc (B n : Nat) : Value := .slice (some ⟨B, 0, none⟩) n n
theorem hand5_lies {W : World} {S : Nat} (hc : Blk W (S + 1) (ints [6, 10, 60])) (hs : Blk W (S + 1 + 1) (ints [3, 0, 40, 2, 2, 30, 35, 5, -2, 0, 50, 0])) (hp : Blk W (S + 1 + 1 + 1) (ints [2, 3]))
    (h0 : Blk W (S + 1 + 1 + 1 + 1) (ints [0, 4, 6, 8])) (h1 : Blk W (S + 1 + 1 + 1 + 1 + 1) (ints [5, 0, 2, 9])) (h2 : Blk W (S + 1 + 1 + 1 + 1 + 1 + 1) (ints [7, 3, 0, 2])) (h3 : Blk W (S + 1 + 1 + 1 + 1 + 1 + 1 + 1) (ints [1, 1, 1, 0]))
    (ht : Blk W (S + 1 + 1 + 1 + 1 + 1 + 1 + 1 + 1) [slc (S + 1 + 1 + 1 + 1) 4, slc (S + 1 + 1 + 1 + 1 + 1) 4, slc (S + 1 + 1 + 1 + 1 + 1 + 1) 4, slc (S + 1 + 1 + 1 + 1 + 1 + 1 + 1) 4]) :
    Lies W (.agg #[slc (S + 1) 1, slc (S + 1 + 1) 3, slc (S + 1 + 1 + 1) 1, slc (S + 1 + 1 + 1 + 1 + 1 + 1 + 1 + 1) 4]) handP5 := by
  have row : ∀ {B : Nat} {l : List Int}, l.length = 4 → Blk W B (ints l) → Recs W 1 num_ (slc B 4) l := fun {B l} hl h => by
    have := h.recs 1 num_ l 4 (fun k hk j hj => by
      obtain rfl : j = 0 := by omega
      simp [ints, num_, hk])
    rw [hl] at this
    exact this
  refine ⟨_, _, _, _, rfl, ?_, ?_, hp.pair 1, ?_⟩
  · exact hc.car 1
  · exact hs.recs 4 Stop.at_ handP5.stops 3 (fun k hk j hj => by
      match k, hk, j, hj with
      | 0, _, 0, _ | 0, _, 1, _ | 0, _, 2, _ | 0, _, 3, _ | 1, _, 0, _ | 1, _, 1, _ | 1, _, 2, _ | 1, _, 3, _ | 2, _, 0, _ | 2, _, 1, _ | 2, _, 2, _ | 2, _, 3, _ => rfl)
  · exact ht.trav handP5.travel 4 (fun k hk => by
      match k, hk with
      | 0, _ => exact ⟨_, rfl, row rfl h0⟩
      | 1, _ => exact ⟨_, rfl, row rfl h1⟩
      | 2, _ => exact ⟨_, rfl, row rfl h2⟩
      | 3, _ => exact ⟨_, rfl, row rfl h3⟩)
/-- the problem by hand, its four rows -/
def HandEnd5 (w : World) (e : Ending) (w' : World) : Prop := ∃ B1 B2 B3 B4 : Nat, e = .returned (.agg #[.slice (some ⟨B1, 0, none⟩) 1 1, .slice (some ⟨B2, 0, none⟩) 3 3, .slice (some ⟨B3, 0, none⟩) 1 1, .slice (some ⟨B4, 0, none⟩) 4 4]) ∧
  Lies w' (.agg #[.slice (some ⟨B1, 0, none⟩) 1 1, .slice (some ⟨B2, 0, none⟩) 3 3, .slice (some ⟨B3, 0, none⟩) 1 1, .slice (some ⟨B4, 0, none⟩) 4 4]) handP5 ∧ Below w.heap.size w w'
set_option maxRecDepth 100000 in
set_option maxHeartbeats 4000000 in
theorem hand5_any (w : World) : Calls Try.prog 9 #[] w (HandEnd5 w) := by
  go_enter Try.func9, Try.ntmps9
  go_wp2
  refine bodyPost_ret (v := .agg #[slc (w.heap.size + 1) 1, slc (w.heap.size + 1 + 1) 3, slc (w.heap.size + 1 + 1 + 1) 1, slc (w.heap.size + 1 + 1 + 1 + 1 + 1 + 1 + 1 + 1) 4]) (by simp [results, Try.results9, go_sem, slc]) rfl ⟨_, _, _, _, rfl, hand5_lies ?_ ?_ ?_ ?_ ?_ ?_ ?_ ?_, ?_⟩
  iterate 8 · repeat (first | exact blk_at _ _ (by simp) | refine Blk.alloc ?_ _)
  repeat (first | exact Below.refl _ _ | refine Below.alloc ?_ (by simp <;> omega) _)
end Go.Proofs.Ytgkieelacjcopaa
namespace Go.Proofs.Ytgkieelacjcopaa
open Go.RowKit
set_option linter.unusedSimpArgs false

theorem h5fine : Fine handP5 := fine_of hand5_ok
theorem h5mated : Mated handP5 := mated_of hand5_ok
theorem h5car : inB 0 0 (handP5.cars.length - 1) = true := by decide
theorem h5head0 : headL handP5 0 (List.take 0 [1, 2, 3]) = some ⟨0, 10, 0, 0, 0, 0⟩ := by decide
theorem h5tail0 : tailL handP5 0 (List.drop 0 [1, 2, 3]) = some ⟨1, 31, 0, 5, 0, 14, 5⟩ := by decide
theorem h5hb0 : ∀ h, some (⟨0, 10, 0, 0, 0, 0⟩ : HeadP) = some h → HB handP5 h ∧ HdA handP5 0 h := fun h e => head_bd h5fine h5mated (r := [1, 2, 3]) (by decide) (k := 0) (by decide) h (h5head0.trans e)
theorem h5tb0 : ∀ t, some (⟨1, 31, 0, 5, 0, 14, 5⟩ : TailP) = some t → TBd handP5 t ∧ 0 ≤ t.late ∧ t.late ≤ 1000 ∧ TlA handP5 0 t := fun t e => tail_bd' h5fine h5mated h5car (r := [1, 2, 3]) (by decide) (k := 0) t (h5tail0.trans e)
theorem h5head1 : headL handP5 0 (List.take 1 [1, 2, 3]) = some ⟨1, 16, 3, 0, 2, 4⟩ := by decide
theorem h5tail1 : tailL handP5 0 (List.drop 1 [1, 2, 3]) = some ⟨2, 35, 0, 2, 0, 12, 3⟩ := by decide
theorem h5hb1 : ∀ h, some (⟨1, 16, 3, 0, 2, 4⟩ : HeadP) = some h → HB handP5 h ∧ HdA handP5 0 h := fun h e => head_bd h5fine h5mated (r := [1, 2, 3]) (by decide) (k := 1) (by decide) h (h5head1.trans e)
theorem h5tb1 : ∀ t, some (⟨2, 35, 0, 2, 0, 12, 3⟩ : TailP) = some t → TBd handP5 t ∧ 0 ≤ t.late ∧ t.late ≤ 1000 ∧ TlA handP5 0 t := fun t e => tail_bd' h5fine h5mated h5car (r := [1, 2, 3]) (by decide) (k := 1) t (h5tail1.trans e)
theorem h5head2 : headL handP5 0 (List.take 2 [1, 2, 3]) = some ⟨2, 35, 5, 4, 6, 6⟩ := by decide
theorem h5tail2 : tailL handP5 0 (List.drop 2 [1, 2, 3]) = some ⟨3, 50, (-2), 0, 4, 8, 1⟩ := by decide
theorem h5hb2 : ∀ h, some (⟨2, 35, 5, 4, 6, 6⟩ : HeadP) = some h → HB handP5 h ∧ HdA handP5 0 h := fun h e => head_bd h5fine h5mated (r := [1, 2, 3]) (by decide) (k := 2) (by decide) h (h5head2.trans e)
theorem h5tb2 : ∀ t, some (⟨3, 50, (-2), 0, 4, 8, 1⟩ : TailP) = some t → TBd handP5 t ∧ 0 ≤ t.late ∧ t.late ≤ 1000 ∧ TlA handP5 0 t := fun t e => tail_bd' h5fine h5mated h5car (r := [1, 2, 3]) (by decide) (k := 2) t (h5tail2.trans e)
theorem h5head3 : headL handP5 0 (List.take 3 [1, 2, 3]) = some ⟨3, 37, 3, 0, 14, 8⟩ := by decide
theorem h5tail3 : tailL handP5 0 (List.drop 3 [1, 2, 3]) = some ⟨0, 60, 0, 0, 0, 0, 0⟩ := by decide
theorem h5hb3 : ∀ h, some (⟨3, 37, 3, 0, 14, 8⟩ : HeadP) = some h → HB handP5 h ∧ HdA handP5 0 h := fun h e => head_bd h5fine h5mated (r := [1, 2, 3]) (by decide) (k := 3) (by decide) h (h5head3.trans e)
theorem h5tb3 : ∀ t, some (⟨0, 60, 0, 0, 0, 0, 0⟩ : TailP) = some t → TBd handP5 t ∧ 0 ≤ t.late ∧ t.late ≤ 1000 ∧ TlA handP5 0 t := fun t e => tail_bd' h5fine h5mated h5car (r := [1, 2, 3]) (by decide) (k := 3) t (h5tail3.trans e)
theorem row3 {W : World} {B : Nat} (h : Blk W B [.int .i64 1, .int .i64 2, .int .i64 3]) : Recs W 1 num_ (.slice (some ⟨B, 0, none⟩) [1, 2, 3].length 3) [1, 2, 3] := h.recs 1 num_ [1, 2, 3] 3 (fun k hk j hj => by
  match k, hk, j, hj with
  | 0, _, 0, _ | 1, _, 0, _ | 2, _, 0, _ => rfl)
theorem row1 {W : World} {B : Nat} (h : Blk W B [.int .i64 1]) : Recs W 1 num_ (.slice (some ⟨B, 0, none⟩) [1].length 1) [1] := h.recs 1 num_ [1] 1 (fun k hk j hj => by
  match k, hk, j, hj with
  | 0, _, 0, _ => rfl)
/-- the problem by hand in a variable, its heads and tails -/
structure F5 (w W : World) (I B1 B2 B3 B4 gh gt : Nat) : Prop where
  below : Below w.heap.size w W
  box : Blk W I #[.slice (some ⟨B1, 0, none⟩) 1 1, .slice (some ⟨B2, 0, none⟩) 3 3, .slice (some ⟨B3, 0, none⟩) 1 1, .slice (some ⟨B4, 0, none⟩) 4 4].toList
  lies : Lies W (.agg #[.slice (some ⟨B1, 0, none⟩) 1 1, .slice (some ⟨B2, 0, none⟩) 3 3, .slice (some ⟨B3, 0, none⟩) 1 1, .slice (some ⟨B4, 0, none⟩) 4 4]) handP5
  hr : RowC W gh 7 (fun k => headC (headL handP5 0 (List.take k [1, 2, 3]))) 4
  tr : RowC W gt 8 (fun k => tailC (tailL handP5 0 (List.drop k [1, 2, 3]))) 4
theorem F5.on {w W W' : World} {I B1 B2 B3 B4 gh gt : Nat} (h : F5 w W I B1 B2 B3 B4 gh gt) (hb : Below W.heap.size W W') : F5 w W' I B1 B2 B3 B4 gh gt :=
  ⟨h.below.trans (hb.mono h.below.size), h.box.below hb, h.lies.below hb, h.hr.below hb, h.tr.below hb⟩
theorem F5.h0 {w W : World} {I B1 B2 B3 B4 gh gt : Nat} (h : F5 w W I B1 B2 B3 B4 gh gt) : W.cell? ⟨gh, 0, none⟩ = some (.bool true) ∧ W.cell? ⟨gh, 1, none⟩ = some (.int .i64 0) ∧ W.cell? ⟨gh, 2, none⟩ = some (.int .i64 10) ∧ W.cell? ⟨gh, 3, none⟩ = some (.int .i64 0) ∧ W.cell? ⟨gh, 4, none⟩ = some (.int .u32 0) ∧ W.cell? ⟨gh, 5, none⟩ = some (.int .u32 0) ∧ W.cell? ⟨gh, 6, none⟩ = some (.int .i64 0) := by
  have := h.hr.at7 (k := 0) (by decide) (show headC (headL handP5 0 (List.take 0 [1, 2, 3])) = _ by rw [h5head0]; rfl)
  simpa using this
theorem F5.t0 {w W : World} {I B1 B2 B3 B4 gh gt : Nat} (h : F5 w W I B1 B2 B3 B4 gh gt) : W.cell? ⟨gt, 0, none⟩ = some (.bool true) ∧ W.cell? ⟨gt, 1, none⟩ = some (.int .i64 1) ∧ W.cell? ⟨gt, 2, none⟩ = some (.int .i64 31) ∧ W.cell? ⟨gt, 3, none⟩ = some (.int .i64 0) ∧ W.cell? ⟨gt, 4, none⟩ = some (.int .i64 5) ∧ W.cell? ⟨gt, 5, none⟩ = some (.int .u32 0) ∧ W.cell? ⟨gt, 6, none⟩ = some (.int .u32 14) ∧ W.cell? ⟨gt, 7, none⟩ = some (.int .i64 5) := by
  have := h.tr.at8 (k := 0) (by decide) (show tailC (tailL handP5 0 (List.drop 0 [1, 2, 3])) = _ by rw [h5tail0]; rfl)
  simpa using this
theorem F5.b {w W : World} {I B1 B2 B3 B4 gh gt : Nat} (h : F5 w W I B1 B2 B3 B4 gh gt) : W.cell? ⟨I, 0, none⟩ = some (.slice (some ⟨B1, 0, none⟩) 1 1) ∧ W.cell? ⟨I, 1, none⟩ = some (.slice (some ⟨B2, 0, none⟩) 3 3) ∧ W.cell? ⟨I, 2, none⟩ = some (.slice (some ⟨B3, 0, none⟩) 1 1) ∧ W.cell? ⟨I, 3, none⟩ = some (.slice (some ⟨B4, 0, none⟩) 4 4) := ⟨h.box.cell (j := 0) rfl, h.box.cell (j := 1) rfl, h.box.cell (j := 2) rfl, h.box.cell (j := 3) rfl⟩
theorem F5.h1 {w W : World} {I B1 B2 B3 B4 gh gt : Nat} (h : F5 w W I B1 B2 B3 B4 gh gt) : W.cell? ⟨gh, 7, none⟩ = some (.bool true) ∧ W.cell? ⟨gh, 8, none⟩ = some (.int .i64 1) ∧ W.cell? ⟨gh, 9, none⟩ = some (.int .i64 16) ∧ W.cell? ⟨gh, 10, none⟩ = some (.int .i64 3) ∧ W.cell? ⟨gh, 11, none⟩ = some (.int .u32 0) ∧ W.cell? ⟨gh, 12, none⟩ = some (.int .u32 2) ∧ W.cell? ⟨gh, 13, none⟩ = some (.int .i64 4) := by
  have := h.hr.at7 (k := 1) (by decide) (show headC (headL handP5 0 (List.take 1 [1, 2, 3])) = _ by rw [h5head1]; rfl)
  simpa using this
theorem F5.t1 {w W : World} {I B1 B2 B3 B4 gh gt : Nat} (h : F5 w W I B1 B2 B3 B4 gh gt) : W.cell? ⟨gt, 8, none⟩ = some (.bool true) ∧ W.cell? ⟨gt, 9, none⟩ = some (.int .i64 2) ∧ W.cell? ⟨gt, 10, none⟩ = some (.int .i64 35) ∧ W.cell? ⟨gt, 11, none⟩ = some (.int .i64 0) ∧ W.cell? ⟨gt, 12, none⟩ = some (.int .i64 2) ∧ W.cell? ⟨gt, 13, none⟩ = some (.int .u32 0) ∧ W.cell? ⟨gt, 14, none⟩ = some (.int .u32 12) ∧ W.cell? ⟨gt, 15, none⟩ = some (.int .i64 3) := by
  have := h.tr.at8 (k := 1) (by decide) (show tailC (tailL handP5 0 (List.drop 1 [1, 2, 3])) = _ by rw [h5tail1]; rfl)
  simpa using this
theorem F5.h2 {w W : World} {I B1 B2 B3 B4 gh gt : Nat} (h : F5 w W I B1 B2 B3 B4 gh gt) : W.cell? ⟨gh, 14, none⟩ = some (.bool true) ∧ W.cell? ⟨gh, 15, none⟩ = some (.int .i64 2) ∧ W.cell? ⟨gh, 16, none⟩ = some (.int .i64 35) ∧ W.cell? ⟨gh, 17, none⟩ = some (.int .i64 5) ∧ W.cell? ⟨gh, 18, none⟩ = some (.int .u32 4) ∧ W.cell? ⟨gh, 19, none⟩ = some (.int .u32 6) ∧ W.cell? ⟨gh, 20, none⟩ = some (.int .i64 6) := by
  have := h.hr.at7 (k := 2) (by decide) (show headC (headL handP5 0 (List.take 2 [1, 2, 3])) = _ by rw [h5head2]; rfl)
  simpa using this
theorem F5.t2 {w W : World} {I B1 B2 B3 B4 gh gt : Nat} (h : F5 w W I B1 B2 B3 B4 gh gt) : W.cell? ⟨gt, 16, none⟩ = some (.bool true) ∧ W.cell? ⟨gt, 17, none⟩ = some (.int .i64 3) ∧ W.cell? ⟨gt, 18, none⟩ = some (.int .i64 50) ∧ W.cell? ⟨gt, 19, none⟩ = some (.int .i64 (-2)) ∧ W.cell? ⟨gt, 20, none⟩ = some (.int .i64 0) ∧ W.cell? ⟨gt, 21, none⟩ = some (.int .u32 4) ∧ W.cell? ⟨gt, 22, none⟩ = some (.int .u32 8) ∧ W.cell? ⟨gt, 23, none⟩ = some (.int .i64 1) := by
  have := h.tr.at8 (k := 2) (by decide) (show tailC (tailL handP5 0 (List.drop 2 [1, 2, 3])) = _ by rw [h5tail2]; rfl)
  simpa using this
theorem F5.h3 {w W : World} {I B1 B2 B3 B4 gh gt : Nat} (h : F5 w W I B1 B2 B3 B4 gh gt) : W.cell? ⟨gh, 21, none⟩ = some (.bool true) ∧ W.cell? ⟨gh, 22, none⟩ = some (.int .i64 3) ∧ W.cell? ⟨gh, 23, none⟩ = some (.int .i64 37) ∧ W.cell? ⟨gh, 24, none⟩ = some (.int .i64 3) ∧ W.cell? ⟨gh, 25, none⟩ = some (.int .u32 0) ∧ W.cell? ⟨gh, 26, none⟩ = some (.int .u32 14) ∧ W.cell? ⟨gh, 27, none⟩ = some (.int .i64 8) := by
  have := h.hr.at7 (k := 3) (by decide) (show headC (headL handP5 0 (List.take 3 [1, 2, 3])) = _ by rw [h5head3]; rfl)
  simpa using this
theorem F5.t3 {w W : World} {I B1 B2 B3 B4 gh gt : Nat} (h : F5 w W I B1 B2 B3 B4 gh gt) : W.cell? ⟨gt, 24, none⟩ = some (.bool true) ∧ W.cell? ⟨gt, 25, none⟩ = some (.int .i64 0) ∧ W.cell? ⟨gt, 26, none⟩ = some (.int .i64 60) ∧ W.cell? ⟨gt, 27, none⟩ = some (.int .i64 0) ∧ W.cell? ⟨gt, 28, none⟩ = some (.int .i64 0) ∧ W.cell? ⟨gt, 29, none⟩ = some (.int .u32 0) ∧ W.cell? ⟨gt, 30, none⟩ = some (.int .u32 0) ∧ W.cell? ⟨gt, 31, none⟩ = some (.int .i64 0) := by
  have := h.tr.at8 (k := 3) (by decide) (show tailC (tailL handP5 0 (List.drop 3 [1, 2, 3])) = _ by rw [h5tail3]; rfl)
  simpa using this
set_option maxRecDepth 100000 in
set_option maxHeartbeats 16000000 in
theorem forms5_walk (n : Int) (w : World) : Calls Try.prog 3 #[.int .i64 n] w fun e w' => e = .returned (.bool true) ∧ Below w.heap.size w w' := by
  have HX0 := Lib.hid (hand5_any w)
  go_enter Try.func3, Try.ntmps3
  go_wp2_with (go_at_call 9; fail)
  (with_reducible refine (HX0.out).mono ?_)
  rintro e w1 ⟨B1, B2, B3, B4, rfl, hl1, hb1⟩
  have LI := Lib.hid (hl1.below ((Below.refl w1.heap.size w1).alloc (Nat.le_refl _) (.cells #[.slice (some ⟨B1, 0, none⟩) 1 1, .slice (some ⟨B2, 0, none⟩) 3 3, .slice (some ⟨B3, 0, none⟩) 1 1, .slice (some ⟨B4, 0, none⟩) 4 4] 27)))
  have BI := Lib.hid (blk_new w1 #[.slice (some ⟨B1, 0, none⟩) 1 1, .slice (some ⟨B2, 0, none⟩) 3 3, .slice (some ⟨B3, 0, none⟩) 1 1, .slice (some ⟨B4, 0, none⟩) 4 4] 27)
  have HB1 := Lib.hid (hb1.alloc hb1.size (.cells #[.slice (some ⟨B1, 0, none⟩) 1 1, .slice (some ⟨B2, 0, none⟩) 3 3, .slice (some ⟨B3, 0, none⟩) 1 1, .slice (some ⟨B4, 0, none⟩) 4 4] 27))
  clear hl1 hb1 HX0
  go_upto_region 2 with (fail)
  generalize w1.alloc (.cells #[.slice (some ⟨B1, 0, none⟩) 1 1, .slice (some ⟨B2, 0, none⟩) 3 3, .slice (some ⟨B3, 0, none⟩) 1 1, .slice (some ⟨B4, 0, none⟩) 4 4] 27) = wa at *
  generalize w1.heap.size = I at *
  have SS : Hid (∀ W, Below wa.heap.size wa W → W.cell? ⟨I, 0, none⟩ = some (.slice (some ⟨B1, 0, none⟩) 1 1) ∧ W.cell? ⟨I, 1, none⟩ = some (.slice (some ⟨B2, 0, none⟩) 3 3) ∧ W.cell? ⟨I, 2, none⟩ = some (.slice (some ⟨B3, 0, none⟩) 1 1) ∧ W.cell? ⟨I, 3, none⟩ = some (.slice (some ⟨B4, 0, none⟩) 4 4)) := fun W hB => ⟨(BI.out.below hB).cell (j := 0) rfl, (BI.out.below hB).cell (j := 1) rfl, (BI.out.below hB).cell (j := 2) rfl, (BI.out.below hB).cell (j := 3) rfl⟩
  have KH : Hid (∀ (B : Nat) (W : World), Below wa.heap.size wa W → Blk W B [.int .i64 1, .int .i64 2, .int .i64 3] → Calls Try.prog 10 #[.agg #[.slice (some ⟨B1, 0, none⟩) 1 1, .slice (some ⟨B2, 0, none⟩) 3 3, .slice (some ⟨B3, 0, none⟩) 1 1, .slice (some ⟨B4, 0, none⟩) 4 4], .int .i64 0, .slice (some ⟨B, 0, none⟩) 3 3] W fun e w' => ∃ g, e = .returned (.slice (some ⟨g, 0, none⟩) 4 4) ∧ W.heap.size ≤ g ∧ RowC w' g 7 (fun k => headC (headL handP5 0 (List.take k [1, 2, 3]))) 4 ∧ Below W.heap.size W w') := fun B W hB hbl =>
    pheads_in _ _ handP5 0 [1, 2, 3] W (LI.out.below hB) hand5_ok (by decide) (row3 hbl) (by decide) h5car
  have KT : Hid (∀ (B : Nat) (W : World), Below wa.heap.size wa W → Blk W B [.int .i64 1, .int .i64 2, .int .i64 3] → Calls Try.prog 11 #[.agg #[.slice (some ⟨B1, 0, none⟩) 1 1, .slice (some ⟨B2, 0, none⟩) 3 3, .slice (some ⟨B3, 0, none⟩) 1 1, .slice (some ⟨B4, 0, none⟩) 4 4], .int .i64 0, .slice (some ⟨B, 0, none⟩) 3 3] W fun e w' => ∃ g, e = .returned (.slice (some ⟨g, 0, none⟩) 4 4) ∧ W.heap.size ≤ g ∧ RowC w' g 8 (fun k => tailC (tailL handP5 0 (List.drop k [1, 2, 3]))) 4 ∧ Below W.heap.size W w') := fun B W hB hbl =>
    ptails_in _ _ handP5 0 [1, 2, 3] W (LI.out.below hB) hand5_ok (by decide) (row3 hbl) (by decide) h5car
  go_cut [4, 5] from 19 to 24 (fun hv tv wx => ∃ gh gt, hv = .slice (some ⟨gh, 0, none⟩) 4 4 ∧ tv = .slice (some ⟨gt, 0, none⟩) 4 4 ∧ F5 w wx I B1 B2 B3 B4 gh gt)
  case first =>
    as_aux_lemma =>
      refine wp_region_z (S := (fun W => W.cell? ⟨I, 0, none⟩ = some (.slice (some ⟨B1, 0, none⟩) 1 1) ∧ W.cell? ⟨I, 1, none⟩ = some (.slice (some ⟨B2, 0, none⟩) 3 3) ∧ W.cell? ⟨I, 2, none⟩ = some (.slice (some ⟨B3, 0, none⟩) 1 1) ∧ W.cell? ⟨I, 3, none⟩ = some (.slice (some ⟨B4, 0, none⟩) 4 4))) (z := 8) (by kernel_rfl) (SS.out _ (Below.refl wa.heap.size wa).drew) (fun hH => ?_)
      refine wpAnyZ_takeS (i := 0) (v := ?_) rfl (by kernel_rfl) (by kernel_rfl) (by kernel_rfl) (by kernel_rfl) (fun _ _ _ h => h) (gives_value (by rfl) ?_) (by assumption) ?_
      rotate_left
      · intro w hSw
        (try dsimp only at hSw)
        go_simp
        (try with_reducible rfl)
      (try simp only [Act.put, List.getElem_toArray, List.getElem_cons_succ, List.getElem_cons_zero, List.setIfInBounds_toArray, List.set_cons_zero, List.set_cons_succ])
      refine wpAnyZ_takeS (i := 3) (v := ?_) rfl (by kernel_rfl) (by kernel_rfl) (by kernel_rfl) (by kernel_rfl) (fun _ _ _ h => h) (gives_value (by rfl) ?_) (by assumption) ?_
      rotate_left
      · intro w hSw
        (try dsimp only at hSw)
        go_simp
        (try with_reducible rfl)
      (try simp only [Act.put, List.getElem_toArray, List.getElem_cons_succ, List.getElem_cons_zero, List.setIfInBounds_toArray, List.set_cons_zero, List.set_cons_succ])
      refine wpAnyZ_two (i := 1) (j := 4) (by kernel_rfl) ?_ ?_
      · refine zstep rfl (fun K hK => ?_)
        go_simp
        have HBx1 : Hid (Below wa.heap.size wa (wa.alloc (.cells #[.int .i64 1, .int .i64 2, .int .i64 3] 3)).drew) := ((Below.refl wa.heap.size wa).alloc (Nat.le_refl _) (.cells #[.int .i64 1, .int .i64 2, .int .i64 3] 3)).drew
        have HSx1 : Hid (Below wa.heap.size wa (wa.alloc (.cells #[.int .i64 1, .int .i64 2, .int .i64 3] 3)).drew) := ((Below.refl wa.heap.size wa).alloc (Nat.le_refl _) (.cells #[.int .i64 1, .int .i64 2, .int .i64 3] 3)).drew
        have BLx1 : Hid (Blk (wa.alloc (.cells #[.int .i64 1, .int .i64 2, .int .i64 3] 3)).drew wa.heap.size #[.int .i64 1, .int .i64 2, .int .i64 3].toList) := (blk_new wa #[.int .i64 1, .int .i64 2, .int .i64 3] 3).drew
        refine hK.out _ _ (fun _ => SS.out _ HBx1.out) (fun hH => ?_)
        replace hH := hH (by decide)
        clear hK K
        (try simp only [Act.put, List.getElem_toArray, List.getElem_cons_succ, List.getElem_cons_zero, List.setIfInBounds_toArray, List.set_cons_zero, List.set_cons_succ])
        generalize (wa.alloc (.cells #[.int .i64 1, .int .i64 2, .int .i64 3] 3)).drew = x1 at *
        refine wpAnyZ_two (i := 2) (j := 4) (by kernel_rfl) ?_ ?_
        · refine zstep rfl (fun K hK => ?_)
          go_simp
          (with_reducible refine (KH.out _ _ HBx1.out BLx1.out).mono ?_)
          rintro e x2 ⟨gh, rfl, hgh, hrh, hb⟩
          have RHx2 := Lib.hid hrh
          have HSx2 := Lib.hid hb
          have HBx2 := Lib.hid (HBx1.out.trans (hb.mono HBx1.out.size))
          clear hrh hgh hb
          refine hK.out _ _ (fun _ => SS.out _ HBx2.out) (fun hH => ?_)
          replace hH := hH (by decide)
          clear hK K
          (try simp only [Act.put, List.getElem_toArray, List.getElem_cons_succ, List.getElem_cons_zero, List.setIfInBounds_toArray, List.set_cons_zero, List.set_cons_succ])
          refine wpAnyZ_one (i := 4) (by kernel_rfl) ?_
          refine zstep rfl (fun K hK => ?_)
          go_simp
          have HBx3 : Hid (Below wa.heap.size wa (x2.alloc (.cells #[.int .i64 1, .int .i64 2, .int .i64 3] 3))) := (HBx2.out.alloc HBx2.out.size (.cells #[.int .i64 1, .int .i64 2, .int .i64 3] 3))
          have HSx3 : Hid (Below x2.heap.size x2 (x2.alloc (.cells #[.int .i64 1, .int .i64 2, .int .i64 3] 3))) := ((Below.refl x2.heap.size x2).alloc (Nat.le_refl _) (.cells #[.int .i64 1, .int .i64 2, .int .i64 3] 3))
          have BLx3 : Hid (Blk (x2.alloc (.cells #[.int .i64 1, .int .i64 2, .int .i64 3] 3)) x2.heap.size #[.int .i64 1, .int .i64 2, .int .i64 3].toList) := (blk_new x2 #[.int .i64 1, .int .i64 2, .int .i64 3] 3)
          refine hK.out _ _ (fun _ => SS.out _ HBx3.out) (fun hH => ?_)
          replace hH := hH (by decide)
          clear hK K
          (try simp only [Act.put, List.getElem_toArray, List.getElem_cons_succ, List.getElem_cons_zero, List.setIfInBounds_toArray, List.set_cons_zero, List.set_cons_succ])
          generalize (x2.alloc (.cells #[.int .i64 1, .int .i64 2, .int .i64 3] 3)) = x3 at *
          refine wpAnyZ_one (i := 5) (by kernel_rfl) ?_
          refine zstep rfl (fun K hK => ?_)
          go_simp
          (with_reducible refine (KT.out _ _ HBx3.out BLx3.out).mono ?_)
          rintro e x4 ⟨gt, rfl, hgt, hrt, hb⟩
          have F5a := Lib.hid (⟨HB1.out.trans ((HBx3.out.trans (hb.mono HBx3.out.size)).mono HB1.out.size), BI.out.below (HBx3.out.trans (hb.mono HBx3.out.size)), LI.out.below (HBx3.out.trans (hb.mono HBx3.out.size)), (RHx2.out.below HSx3.out).below hb, hrt⟩ : F5 w x4 I B1 B2 B3 B4 gh gt)
          have HBx4 := Lib.hid (HBx3.out.trans (hb.mono HBx3.out.size))
          clear hrt hgt hb
          refine hK.out _ _ (fun _ => SS.out _ HBx4.out) (fun hH => ?_)
          replace hH := hH (by decide)
          clear hK K
          (try simp only [Act.put, List.getElem_toArray, List.getElem_cons_succ, List.getElem_cons_zero, List.setIfInBounds_toArray, List.set_cons_zero, List.set_cons_succ])
          refine wpAnyZ_takeS (i := 6) (v := ?_) rfl (by kernel_rfl) (by kernel_rfl) (by kernel_rfl) (by kernel_rfl) (fun _ _ _ h => h) (gives_value (by rfl) ?_) (by assumption) ?_
          rotate_left
          · intro w hSw
            (try dsimp only at hSw)
            go_simp
            (try with_reducible rfl)
          (try simp only [Act.put, List.getElem_toArray, List.getElem_cons_succ, List.getElem_cons_zero, List.setIfInBounds_toArray, List.set_cons_zero, List.set_cons_succ])
          refine wpAnyZ_takeS (i := 7) (v := ?_) rfl (by kernel_rfl) (by kernel_rfl) (by kernel_rfl) (by kernel_rfl) (fun _ _ _ h => h) (gives_value (by rfl) ?_) (by assumption) ?_
          rotate_left
          · intro w hSw
            (try dsimp only at hSw)
            go_simp
            (try with_reducible rfl)
          (try simp only [Act.put, List.getElem_toArray, List.getElem_cons_succ, List.getElem_cons_zero, List.setIfInBounds_toArray, List.set_cons_zero, List.set_cons_succ])
          refine wpAnyZ_done (by kernel_rfl) ?_ _
          clear hH
          go_wp2_with fail
          go_meet
          exact ⟨gh, gt, rfl, rfl, F5a.out⟩
        · refine zstep rfl (fun K hK => ?_)
          go_simp
          have HBx2 : Hid (Below wa.heap.size wa (x1.alloc (.cells #[.int .i64 1, .int .i64 2, .int .i64 3] 3))) := (HBx1.out.alloc HBx1.out.size (.cells #[.int .i64 1, .int .i64 2, .int .i64 3] 3))
          have HSx2 : Hid (Below x1.heap.size x1 (x1.alloc (.cells #[.int .i64 1, .int .i64 2, .int .i64 3] 3))) := ((Below.refl x1.heap.size x1).alloc (Nat.le_refl _) (.cells #[.int .i64 1, .int .i64 2, .int .i64 3] 3))
          have BLx2 : Hid (Blk (x1.alloc (.cells #[.int .i64 1, .int .i64 2, .int .i64 3] 3)) x1.heap.size #[.int .i64 1, .int .i64 2, .int .i64 3].toList) := (blk_new x1 #[.int .i64 1, .int .i64 2, .int .i64 3] 3)
          refine hK.out _ _ (fun _ => SS.out _ HBx2.out) (fun hH => ?_)
          replace hH := hH (by decide)
          clear hK K
          (try simp only [Act.put, List.getElem_toArray, List.getElem_cons_succ, List.getElem_cons_zero, List.setIfInBounds_toArray, List.set_cons_zero, List.set_cons_succ])
          generalize (x1.alloc (.cells #[.int .i64 1, .int .i64 2, .int .i64 3] 3)) = x2 at *
          refine wpAnyZ_one (i := 2) (by kernel_rfl) ?_
          refine zstep rfl (fun K hK => ?_)
          go_simp
          (with_reducible refine (KH.out _ _ HBx2.out (BLx1.out.below HSx2.out)).mono ?_)
          rintro e x3 ⟨gh, rfl, hgh, hrh, hb⟩
          have RHx3 := Lib.hid hrh
          have HSx3 := Lib.hid hb
          have HBx3 := Lib.hid (HBx2.out.trans (hb.mono HBx2.out.size))
          clear hrh hgh hb
          refine hK.out _ _ (fun _ => SS.out _ HBx3.out) (fun hH => ?_)
          replace hH := hH (by decide)
          clear hK K
          (try simp only [Act.put, List.getElem_toArray, List.getElem_cons_succ, List.getElem_cons_zero, List.setIfInBounds_toArray, List.set_cons_zero, List.set_cons_succ])
          refine wpAnyZ_one (i := 5) (by kernel_rfl) ?_
          refine zstep rfl (fun K hK => ?_)
          go_simp
          (with_reducible refine (KT.out _ _ HBx3.out (BLx2.out.below HSx3.out)).mono ?_)
          rintro e x4 ⟨gt, rfl, hgt, hrt, hb⟩
          have F5a := Lib.hid (⟨HB1.out.trans ((HBx3.out.trans (hb.mono HBx3.out.size)).mono HB1.out.size), BI.out.below (HBx3.out.trans (hb.mono HBx3.out.size)), LI.out.below (HBx3.out.trans (hb.mono HBx3.out.size)), RHx3.out.below hb, hrt⟩ : F5 w x4 I B1 B2 B3 B4 gh gt)
          have HBx4 := Lib.hid (HBx3.out.trans (hb.mono HBx3.out.size))
          clear hrt hgt hb
          refine hK.out _ _ (fun _ => SS.out _ HBx4.out) (fun hH => ?_)
          replace hH := hH (by decide)
          clear hK K
          (try simp only [Act.put, List.getElem_toArray, List.getElem_cons_succ, List.getElem_cons_zero, List.setIfInBounds_toArray, List.set_cons_zero, List.set_cons_succ])
          refine wpAnyZ_takeS (i := 6) (v := ?_) rfl (by kernel_rfl) (by kernel_rfl) (by kernel_rfl) (by kernel_rfl) (fun _ _ _ h => h) (gives_value (by rfl) ?_) (by assumption) ?_
          rotate_left
          · intro w hSw
            (try dsimp only at hSw)
            go_simp
            (try with_reducible rfl)
          (try simp only [Act.put, List.getElem_toArray, List.getElem_cons_succ, List.getElem_cons_zero, List.setIfInBounds_toArray, List.set_cons_zero, List.set_cons_succ])
          refine wpAnyZ_takeS (i := 7) (v := ?_) rfl (by kernel_rfl) (by kernel_rfl) (by kernel_rfl) (by kernel_rfl) (fun _ _ _ h => h) (gives_value (by rfl) ?_) (by assumption) ?_
          rotate_left
          · intro w hSw
            (try dsimp only at hSw)
            go_simp
            (try with_reducible rfl)
          (try simp only [Act.put, List.getElem_toArray, List.getElem_cons_succ, List.getElem_cons_zero, List.setIfInBounds_toArray, List.set_cons_zero, List.set_cons_succ])
          refine wpAnyZ_done (by kernel_rfl) ?_ _
          clear hH
          go_wp2_with fail
          go_meet
          exact ⟨gh, gt, rfl, rfl, F5a.out⟩
      · refine zstep rfl (fun K hK => ?_)
        go_simp
        have HBx1 : Hid (Below wa.heap.size wa (wa.alloc (.cells #[.int .i64 1, .int .i64 2, .int .i64 3] 3)).drew) := ((Below.refl wa.heap.size wa).alloc (Nat.le_refl _) (.cells #[.int .i64 1, .int .i64 2, .int .i64 3] 3)).drew
        have HSx1 : Hid (Below wa.heap.size wa (wa.alloc (.cells #[.int .i64 1, .int .i64 2, .int .i64 3] 3)).drew) := ((Below.refl wa.heap.size wa).alloc (Nat.le_refl _) (.cells #[.int .i64 1, .int .i64 2, .int .i64 3] 3)).drew
        have BLx1 : Hid (Blk (wa.alloc (.cells #[.int .i64 1, .int .i64 2, .int .i64 3] 3)).drew wa.heap.size #[.int .i64 1, .int .i64 2, .int .i64 3].toList) := (blk_new wa #[.int .i64 1, .int .i64 2, .int .i64 3] 3).drew
        refine hK.out _ _ (fun _ => SS.out _ HBx1.out) (fun hH => ?_)
        replace hH := hH (by decide)
        clear hK K
        (try simp only [Act.put, List.getElem_toArray, List.getElem_cons_succ, List.getElem_cons_zero, List.setIfInBounds_toArray, List.set_cons_zero, List.set_cons_succ])
        generalize (wa.alloc (.cells #[.int .i64 1, .int .i64 2, .int .i64 3] 3)).drew = x1 at *
        refine wpAnyZ_one (i := 1) (by kernel_rfl) ?_
        refine zstep rfl (fun K hK => ?_)
        go_simp
        have HBx2 : Hid (Below wa.heap.size wa (x1.alloc (.cells #[.int .i64 1, .int .i64 2, .int .i64 3] 3))) := (HBx1.out.alloc HBx1.out.size (.cells #[.int .i64 1, .int .i64 2, .int .i64 3] 3))
        have HSx2 : Hid (Below x1.heap.size x1 (x1.alloc (.cells #[.int .i64 1, .int .i64 2, .int .i64 3] 3))) := ((Below.refl x1.heap.size x1).alloc (Nat.le_refl _) (.cells #[.int .i64 1, .int .i64 2, .int .i64 3] 3))
        have BLx2 : Hid (Blk (x1.alloc (.cells #[.int .i64 1, .int .i64 2, .int .i64 3] 3)) x1.heap.size #[.int .i64 1, .int .i64 2, .int .i64 3].toList) := (blk_new x1 #[.int .i64 1, .int .i64 2, .int .i64 3] 3)
        refine hK.out _ _ (fun _ => SS.out _ HBx2.out) (fun hH => ?_)
        replace hH := hH (by decide)
        clear hK K
        (try simp only [Act.put, List.getElem_toArray, List.getElem_cons_succ, List.getElem_cons_zero, List.setIfInBounds_toArray, List.set_cons_zero, List.set_cons_succ])
        generalize (x1.alloc (.cells #[.int .i64 1, .int .i64 2, .int .i64 3] 3)) = x2 at *
        refine wpAnyZ_one (i := 2) (by kernel_rfl) ?_
        refine zstep rfl (fun K hK => ?_)
        go_simp
        (with_reducible refine (KH.out _ _ HBx2.out BLx2.out).mono ?_)
        rintro e x3 ⟨gh, rfl, hgh, hrh, hb⟩
        have RHx3 := Lib.hid hrh
        have HSx3 := Lib.hid hb
        have HBx3 := Lib.hid (HBx2.out.trans (hb.mono HBx2.out.size))
        clear hrh hgh hb
        refine hK.out _ _ (fun _ => SS.out _ HBx3.out) (fun hH => ?_)
        replace hH := hH (by decide)
        clear hK K
        (try simp only [Act.put, List.getElem_toArray, List.getElem_cons_succ, List.getElem_cons_zero, List.setIfInBounds_toArray, List.set_cons_zero, List.set_cons_succ])
        refine wpAnyZ_one (i := 5) (by kernel_rfl) ?_
        refine zstep rfl (fun K hK => ?_)
        go_simp
        (with_reducible refine (KT.out _ _ HBx3.out ((BLx1.out.below HSx2.out).below HSx3.out)).mono ?_)
        rintro e x4 ⟨gt, rfl, hgt, hrt, hb⟩
        have F5a := Lib.hid (⟨HB1.out.trans ((HBx3.out.trans (hb.mono HBx3.out.size)).mono HB1.out.size), BI.out.below (HBx3.out.trans (hb.mono HBx3.out.size)), LI.out.below (HBx3.out.trans (hb.mono HBx3.out.size)), RHx3.out.below hb, hrt⟩ : F5 w x4 I B1 B2 B3 B4 gh gt)
        have HBx4 := Lib.hid (HBx3.out.trans (hb.mono HBx3.out.size))
        clear hrt hgt hb
        refine hK.out _ _ (fun _ => SS.out _ HBx4.out) (fun hH => ?_)
        replace hH := hH (by decide)
        clear hK K
        (try simp only [Act.put, List.getElem_toArray, List.getElem_cons_succ, List.getElem_cons_zero, List.setIfInBounds_toArray, List.set_cons_zero, List.set_cons_succ])
        refine wpAnyZ_takeS (i := 6) (v := ?_) rfl (by kernel_rfl) (by kernel_rfl) (by kernel_rfl) (by kernel_rfl) (fun _ _ _ h => h) (gives_value (by rfl) ?_) (by assumption) ?_
        rotate_left
        · intro w hSw
          (try dsimp only at hSw)
          go_simp
          (try with_reducible rfl)
        (try simp only [Act.put, List.getElem_toArray, List.getElem_cons_succ, List.getElem_cons_zero, List.setIfInBounds_toArray, List.set_cons_zero, List.set_cons_succ])
        refine wpAnyZ_takeS (i := 7) (v := ?_) rfl (by kernel_rfl) (by kernel_rfl) (by kernel_rfl) (by kernel_rfl) (fun _ _ _ h => h) (gives_value (by rfl) ?_) (by assumption) ?_
        rotate_left
        · intro w hSw
          (try dsimp only at hSw)
          go_simp
          (try with_reducible rfl)
        (try simp only [Act.put, List.getElem_toArray, List.getElem_cons_succ, List.getElem_cons_zero, List.setIfInBounds_toArray, List.set_cons_zero, List.set_cons_succ])
        refine wpAnyZ_done (by kernel_rfl) ?_ _
        clear hH
        go_wp2_with fail
        go_meet
        exact ⟨gh, gt, rfl, rfl, F5a.out⟩
  case rest =>
    obtain ⟨gh, gt, rfl, rfl, hf5⟩ := hcut
    have FA := Lib.hid hf5
    clear hf5 SS KH KT HB1 BI LI
    obtain ⟨a0_0, a0_1, a0_2, a0_3, a0_4, a0_5, a0_6⟩ := FA.out.h0
    obtain ⟨b0_0, b0_1, b0_2, b0_3, b0_4, b0_5, b0_6, b0_7⟩ := FA.out.t0
    obtain ⟨a1_0, a1_1, a1_2, a1_3, a1_4, a1_5, a1_6⟩ := FA.out.h1
    obtain ⟨b1_0, b1_1, b1_2, b1_3, b1_4, b1_5, b1_6, b1_7⟩ := FA.out.t1
    obtain ⟨a2_0, a2_1, a2_2, a2_3, a2_4, a2_5, a2_6⟩ := FA.out.h2
    obtain ⟨b2_0, b2_1, b2_2, b2_3, b2_4, b2_5, b2_6, b2_7⟩ := FA.out.t2
    obtain ⟨a3_0, a3_1, a3_2, a3_3, a3_4, a3_5, a3_6⟩ := FA.out.h3
    obtain ⟨b3_0, b3_1, b3_2, b3_3, b3_4, b3_5, b3_6, b3_7⟩ := FA.out.t3
    have zh := FA.out.hr.1
    have zt := FA.out.tr.1
    obtain ⟨q, hq, hql⟩ := within_nat n 1000 (by omega)
    have K0 := Lib.hid (fun W => within_q n 1000 W (by omega) (by omega) _ hq)
    clear hq
    go_wp2_with (go_at_call 12; fail)
    (with_reducible refine (K0.out _).mono ?_)
    rintro e w2 ⟨rfl, hww⟩
    replace hww := hww.symm
    subst hww
    have hw1 : IntKind.i64.wrap (1 + (q : Int)) = 1 + (q : Int) := IntWalk.i64_in _ (by omega)
    clear K0 a0_0 a0_1 a0_2 a0_3 a0_4 a0_5 a0_6 b0_0 b0_1 b0_2 b0_3 b0_4 b0_5 b0_6 b0_7 a1_0 a1_1 a1_2 a1_3 a1_4 a1_5 a1_6 b1_0 b1_1 b1_2 b1_3 b1_4 b1_5 b1_6 b1_7 a2_0 a2_1 a2_2 a2_3 a2_4 a2_5 a2_6 b2_0 b2_1 b2_2 b2_3 b2_4 b2_5 b2_6 b2_7 a3_0 a3_1 a3_2 a3_3 a3_4 a3_5 a3_6 b3_0 b3_1 b3_2 b3_3 b3_4 b3_5 b3_6 b3_7 zh zt
    as_aux_lemma =>
      have KM : Hid (∀ W, Below wc.heap.size wc W → Calls Try.prog 13 #[.agg #[.slice (some ⟨B1, 0, none⟩) 1 1, .slice (some ⟨B2, 0, none⟩) 3 3, .slice (some ⟨B3, 0, none⟩) 1 1, .slice (some ⟨B4, 0, none⟩) 4 4], .int .i64 0, .agg #[.bool true, .int .i64 2, .int .i64 35, .int .i64 5, .int .u32 4, .int .u32 6, .int .i64 6], .agg #[.bool true, .int .i64 3, .int .i64 50, .int .i64 (-2), .int .i64 0, .int .u32 4, .int .u32 8, .int .i64 1]] W fun e w' => e = .returned (.tuple #[.int .i64 9, .bool true]) ∧ Below W.heap.size W w') := fun W hB => by
        have := pmeet_any _ handP5 0 (some ⟨2, 35, 5, 4, 6, 6⟩) (some ⟨3, 50, (-2), 0, 4, 8, 1⟩) W (FA.out.lies.below hB) hand5_ok (by decide) h5hb2 (fun _ => h5tb2)
        rw [show (if inB 0 0 (handP5.cars.length - 1) = true then meetO handP5 0 (some ⟨2, 35, 5, 4, 6, 6⟩) (some ⟨3, 50, (-2), 0, 4, 8, 1⟩) else none) = some 9 by decide] at this
        exact this
      have SS : Hid (∀ W, Below wc.heap.size wc W → W.cell? ⟨I, 0, none⟩ = some (.slice (some ⟨B1, 0, none⟩) 1 1) ∧ W.cell? ⟨I, 1, none⟩ = some (.slice (some ⟨B2, 0, none⟩) 3 3) ∧ W.cell? ⟨I, 2, none⟩ = some (.slice (some ⟨B3, 0, none⟩) 1 1) ∧ W.cell? ⟨I, 3, none⟩ = some (.slice (some ⟨B4, 0, none⟩) 4 4) ∧ W.cell? ⟨gh, 14, none⟩ = some (.bool true) ∧ W.cell? ⟨gh, 15, none⟩ = some (.int .i64 2) ∧ W.cell? ⟨gh, 16, none⟩ = some (.int .i64 35) ∧ W.cell? ⟨gh, 17, none⟩ = some (.int .i64 5) ∧ W.cell? ⟨gh, 18, none⟩ = some (.int .u32 4) ∧ W.cell? ⟨gh, 19, none⟩ = some (.int .u32 6) ∧ W.cell? ⟨gh, 20, none⟩ = some (.int .i64 6) ∧ W.cell? ⟨gt, 16, none⟩ = some (.bool true) ∧ W.cell? ⟨gt, 17, none⟩ = some (.int .i64 3) ∧ W.cell? ⟨gt, 18, none⟩ = some (.int .i64 50) ∧ W.cell? ⟨gt, 19, none⟩ = some (.int .i64 (-2)) ∧ W.cell? ⟨gt, 20, none⟩ = some (.int .i64 0) ∧ W.cell? ⟨gt, 21, none⟩ = some (.int .u32 4) ∧ W.cell? ⟨gt, 22, none⟩ = some (.int .u32 8) ∧ W.cell? ⟨gt, 23, none⟩ = some (.int .i64 1)) := fun W hB => by
        have X := FA.out.on hB
        obtain ⟨s0, s1, s2, s3⟩ := X.b
        obtain ⟨u0, u1, u2, u3, u4, u5, u6⟩ := X.h2
        obtain ⟨v0, v1, v2, v3, v4, v5, v6, v7⟩ := X.t2
        exact ⟨s0, s1, s2, s3, u0, u1, u2, u3, u4, u5, u6, v0, v1, v2, v3, v4, v5, v6, v7⟩
      go_upto_region 10 with (fail)
      refine wp_region_z (S := (fun W => W.cell? ⟨I, 0, none⟩ = some (.slice (some ⟨B1, 0, none⟩) 1 1) ∧ W.cell? ⟨I, 1, none⟩ = some (.slice (some ⟨B2, 0, none⟩) 3 3) ∧ W.cell? ⟨I, 2, none⟩ = some (.slice (some ⟨B3, 0, none⟩) 1 1) ∧ W.cell? ⟨I, 3, none⟩ = some (.slice (some ⟨B4, 0, none⟩) 4 4) ∧ W.cell? ⟨gh, 14, none⟩ = some (.bool true) ∧ W.cell? ⟨gh, 15, none⟩ = some (.int .i64 2) ∧ W.cell? ⟨gh, 16, none⟩ = some (.int .i64 35) ∧ W.cell? ⟨gh, 17, none⟩ = some (.int .i64 5) ∧ W.cell? ⟨gh, 18, none⟩ = some (.int .u32 4) ∧ W.cell? ⟨gh, 19, none⟩ = some (.int .u32 6) ∧ W.cell? ⟨gh, 20, none⟩ = some (.int .i64 6) ∧ W.cell? ⟨gt, 16, none⟩ = some (.bool true) ∧ W.cell? ⟨gt, 17, none⟩ = some (.int .i64 3) ∧ W.cell? ⟨gt, 18, none⟩ = some (.int .i64 50) ∧ W.cell? ⟨gt, 19, none⟩ = some (.int .i64 (-2)) ∧ W.cell? ⟨gt, 20, none⟩ = some (.int .i64 0) ∧ W.cell? ⟨gt, 21, none⟩ = some (.int .u32 4) ∧ W.cell? ⟨gt, 22, none⟩ = some (.int .u32 8) ∧ W.cell? ⟨gt, 23, none⟩ = some (.int .i64 1))) (z := 13) (by kernel_rfl) (SS.out _ (Below.refl wc.heap.size wc).drew) (fun hH => ?_)
      refine wpAnyZ_takeS (i := 0) (v := ?_) rfl (by kernel_rfl) (by kernel_rfl) (by kernel_rfl) (by kernel_rfl) (fun _ _ _ h => h) (gives_value (by rfl) ?_) (by assumption) ?_
      rotate_left
      · intro w hSw
        (try dsimp only at hSw)
        go_simp
        (try with_reducible rfl)
      (try simp only [Act.put, List.getElem_toArray, List.getElem_cons_succ, List.getElem_cons_zero, List.setIfInBounds_toArray, List.set_cons_zero, List.set_cons_succ])
      refine wpAnyZ_takeS (i := 1) (v := ?_) rfl (by kernel_rfl) (by kernel_rfl) (by kernel_rfl) (by kernel_rfl) (fun _ _ _ h => h) (gives_value (by rfl) ?_) (by assumption) ?_
      rotate_left
      · intro w hSw
        (try dsimp only at hSw)
        go_simp
        (try with_reducible rfl)
      (try simp only [Act.put, List.getElem_toArray, List.getElem_cons_succ, List.getElem_cons_zero, List.setIfInBounds_toArray, List.set_cons_zero, List.set_cons_succ])
      refine wpAnyZ_takeS (i := 2) (v := ?_) rfl (by kernel_rfl) (by kernel_rfl) (by kernel_rfl) (by kernel_rfl) (fun _ _ _ h => h) (gives_value (by rfl) ?_) (by assumption) ?_
      rotate_left
      · intro w hSw
        (try dsimp only at hSw)
        go_simp
        (try with_reducible rfl)
      (try simp only [Act.put, List.getElem_toArray, List.getElem_cons_succ, List.getElem_cons_zero, List.setIfInBounds_toArray, List.set_cons_zero, List.set_cons_succ])
      refine wpAnyZ_takeS (i := 3) (v := ?_) rfl (by kernel_rfl) (by kernel_rfl) (by kernel_rfl) (by kernel_rfl) (fun _ _ _ h => h) (gives_value (by rfl) ?_) (by assumption) ?_
      rotate_left
      · intro w hSw
        (try dsimp only at hSw)
        go_simp
        (try with_reducible rfl)
      (try simp only [Act.put, List.getElem_toArray, List.getElem_cons_succ, List.getElem_cons_zero, List.setIfInBounds_toArray, List.set_cons_zero, List.set_cons_succ])
      refine wpAnyZ_takeS (i := 4) (v := ?_) rfl (by kernel_rfl) (by kernel_rfl) (by kernel_rfl) (by kernel_rfl) (fun _ _ _ h => h) (gives_value (by rfl) ?_) (by assumption) ?_
      rotate_left
      · intro w hSw
        (try dsimp only at hSw)
        go_simp
        (try with_reducible rfl)
      (try simp only [Act.put, List.getElem_toArray, List.getElem_cons_succ, List.getElem_cons_zero, List.setIfInBounds_toArray, List.set_cons_zero, List.set_cons_succ])
      refine wpAnyZ_takeS (i := 5) (v := ?_) rfl (by kernel_rfl) (by kernel_rfl) (by kernel_rfl) (by kernel_rfl) (fun _ _ _ h => h) (gives_value (by rfl) ?_) (by assumption) ?_
      rotate_left
      · intro w hSw
        (try dsimp only at hSw)
        go_simp
        (try with_reducible rfl)
      (try simp only [Act.put, List.getElem_toArray, List.getElem_cons_succ, List.getElem_cons_zero, List.setIfInBounds_toArray, List.set_cons_zero, List.set_cons_succ])
      refine wpAnyZ_takeS (i := 6) (v := ?_) rfl (by kernel_rfl) (by kernel_rfl) (by kernel_rfl) (by kernel_rfl) (fun _ _ _ h => h) (gives_value (by rfl) ?_) (by assumption) ?_
      rotate_left
      · intro w hSw
        (try dsimp only at hSw)
        go_simp
        (try with_reducible rfl)
      (try simp only [Act.put, List.getElem_toArray, List.getElem_cons_succ, List.getElem_cons_zero, List.setIfInBounds_toArray, List.set_cons_zero, List.set_cons_succ])
      refine wpAnyZ_one (i := 7) (by kernel_rfl) ?_
      refine zstep rfl (fun K hK => ?_)
      go_simp
      (with_reducible refine (KM.out _ (Below.refl wc.heap.size wc).drew).mono ?_)
      rintro e m0 ⟨rfl, hb⟩
      have HBm0 := Lib.hid (((Below.refl wc.heap.size wc).drew).trans hb)
      clear hb
      refine hK.out _ _ (fun _ => SS.out _ HBm0.out) (fun hH => ?_)
      replace hH := hH (by decide)
      clear hK K
      (try simp only [Act.put, List.getElem_toArray, List.getElem_cons_succ, List.getElem_cons_zero, List.setIfInBounds_toArray, List.set_cons_zero, List.set_cons_succ])
      refine wpAnyZ_takeS (i := 8) (v := ?_) rfl (by kernel_rfl) (by kernel_rfl) (by kernel_rfl) (by kernel_rfl) (fun _ _ _ h => h) (gives_value (by rfl) ?_) (by assumption) ?_
      rotate_left
      · intro w hSw
        (try dsimp only at hSw)
        go_simp
        (try with_reducible rfl)
      (try simp only [Act.put, List.getElem_toArray, List.getElem_cons_succ, List.getElem_cons_zero, List.setIfInBounds_toArray, List.set_cons_zero, List.set_cons_succ])
      refine wpAnyZ_takeS (i := 9) (v := ?_) rfl (by kernel_rfl) (by kernel_rfl) (by kernel_rfl) (by kernel_rfl) (fun _ _ _ h => h) (gives_value (by rfl) ?_) (by assumption) ?_
      rotate_left
      · intro w hSw
        (try dsimp only at hSw)
        go_simp
        (try with_reducible rfl)
      (try simp only [Act.put, List.getElem_toArray, List.getElem_cons_succ, List.getElem_cons_zero, List.setIfInBounds_toArray, List.set_cons_zero, List.set_cons_succ])
      refine wpAnyZ_takeS (i := 10) (v := ?_) rfl (by kernel_rfl) (by kernel_rfl) (by kernel_rfl) (by kernel_rfl) (fun _ _ _ h => h) (gives_value (by rfl) ?_) (by assumption) ?_
      rotate_left
      · intro w hSw
        (try dsimp only at hSw)
        go_simp
        (try with_reducible rfl)
      (try simp only [Act.put, List.getElem_toArray, List.getElem_cons_succ, List.getElem_cons_zero, List.setIfInBounds_toArray, List.set_cons_zero, List.set_cons_succ])
      refine wpAnyZ_takeS (i := 11) (v := ?_) rfl (by kernel_rfl) (by kernel_rfl) (by kernel_rfl) (by kernel_rfl) (fun _ _ _ h => h) (gives_value (by rfl) ?_) (by assumption) ?_
      rotate_left
      · intro w hSw
        (try dsimp only at hSw)
        go_simp
        (try with_reducible rfl)
      (try simp only [Act.put, List.getElem_toArray, List.getElem_cons_succ, List.getElem_cons_zero, List.setIfInBounds_toArray, List.set_cons_zero, List.set_cons_succ])
      refine wpAnyZ_takeS (i := 12) (v := ?_) rfl (by kernel_rfl) (by kernel_rfl) (by kernel_rfl) (by kernel_rfl) (fun _ _ _ h => h) (gives_value (by rfl) ?_) (by assumption) ?_
      rotate_left
      · intro w hSw
        (try dsimp only at hSw)
        go_simp
        (try with_reducible rfl)
      (try simp only [Act.put, List.getElem_toArray, List.getElem_cons_succ, List.getElem_cons_zero, List.setIfInBounds_toArray, List.set_cons_zero, List.set_cons_succ])
      refine wpAnyZ_done (by kernel_rfl) ?_ _
      have Fm0 := Lib.hid (FA.out.on HBm0.out)
      clear hH SS KM HBm0 FA
      as_aux_lemma =>
        have KM : Hid (∀ W, Below m0.heap.size m0 W → Calls Try.prog 13 #[.agg #[.slice (some ⟨B1, 0, none⟩) 1 1, .slice (some ⟨B2, 0, none⟩) 3 3, .slice (some ⟨B3, 0, none⟩) 1 1, .slice (some ⟨B4, 0, none⟩) 4 4], .int .i64 0, .agg #[.bool true, .int .i64 1, .int .i64 16, .int .i64 3, .int .u32 0, .int .u32 2, .int .i64 4], .agg #[.bool true, .int .i64 3, .int .i64 50, .int .i64 (-2), .int .i64 0, .int .u32 4, .int .u32 8, .int .i64 1]] W fun e w' => e = .returned (.tuple #[.int .i64 0, .bool false]) ∧ Below W.heap.size W w') := fun W hB => by
          have := pmeet_any _ handP5 0 (some ⟨1, 16, 3, 0, 2, 4⟩) (some ⟨3, 50, (-2), 0, 4, 8, 1⟩) W (Fm0.out.lies.below hB) hand5_ok (by decide) h5hb1 (fun _ => h5tb2)
          rw [show (if inB 0 0 (handP5.cars.length - 1) = true then meetO handP5 0 (some ⟨1, 16, 3, 0, 2, 4⟩) (some ⟨3, 50, (-2), 0, 4, 8, 1⟩) else none) = none by decide] at this
          exact this
        have SS : Hid (∀ W, Below m0.heap.size m0 W → W.cell? ⟨I, 0, none⟩ = some (.slice (some ⟨B1, 0, none⟩) 1 1) ∧ W.cell? ⟨I, 1, none⟩ = some (.slice (some ⟨B2, 0, none⟩) 3 3) ∧ W.cell? ⟨I, 2, none⟩ = some (.slice (some ⟨B3, 0, none⟩) 1 1) ∧ W.cell? ⟨I, 3, none⟩ = some (.slice (some ⟨B4, 0, none⟩) 4 4) ∧ W.cell? ⟨gh, 7, none⟩ = some (.bool true) ∧ W.cell? ⟨gh, 8, none⟩ = some (.int .i64 1) ∧ W.cell? ⟨gh, 9, none⟩ = some (.int .i64 16) ∧ W.cell? ⟨gh, 10, none⟩ = some (.int .i64 3) ∧ W.cell? ⟨gh, 11, none⟩ = some (.int .u32 0) ∧ W.cell? ⟨gh, 12, none⟩ = some (.int .u32 2) ∧ W.cell? ⟨gh, 13, none⟩ = some (.int .i64 4) ∧ W.cell? ⟨gt, 16, none⟩ = some (.bool true) ∧ W.cell? ⟨gt, 17, none⟩ = some (.int .i64 3) ∧ W.cell? ⟨gt, 18, none⟩ = some (.int .i64 50) ∧ W.cell? ⟨gt, 19, none⟩ = some (.int .i64 (-2)) ∧ W.cell? ⟨gt, 20, none⟩ = some (.int .i64 0) ∧ W.cell? ⟨gt, 21, none⟩ = some (.int .u32 4) ∧ W.cell? ⟨gt, 22, none⟩ = some (.int .u32 8) ∧ W.cell? ⟨gt, 23, none⟩ = some (.int .i64 1)) := fun W hB => by
          have X := Fm0.out.on hB
          obtain ⟨s0, s1, s2, s3⟩ := X.b
          obtain ⟨u0, u1, u2, u3, u4, u5, u6⟩ := X.h1
          obtain ⟨v0, v1, v2, v3, v4, v5, v6, v7⟩ := X.t2
          exact ⟨s0, s1, s2, s3, u0, u1, u2, u3, u4, u5, u6, v0, v1, v2, v3, v4, v5, v6, v7⟩
        go_upto_region 11 with (fail)
        refine wp_region_z (S := (fun W => W.cell? ⟨I, 0, none⟩ = some (.slice (some ⟨B1, 0, none⟩) 1 1) ∧ W.cell? ⟨I, 1, none⟩ = some (.slice (some ⟨B2, 0, none⟩) 3 3) ∧ W.cell? ⟨I, 2, none⟩ = some (.slice (some ⟨B3, 0, none⟩) 1 1) ∧ W.cell? ⟨I, 3, none⟩ = some (.slice (some ⟨B4, 0, none⟩) 4 4) ∧ W.cell? ⟨gh, 7, none⟩ = some (.bool true) ∧ W.cell? ⟨gh, 8, none⟩ = some (.int .i64 1) ∧ W.cell? ⟨gh, 9, none⟩ = some (.int .i64 16) ∧ W.cell? ⟨gh, 10, none⟩ = some (.int .i64 3) ∧ W.cell? ⟨gh, 11, none⟩ = some (.int .u32 0) ∧ W.cell? ⟨gh, 12, none⟩ = some (.int .u32 2) ∧ W.cell? ⟨gh, 13, none⟩ = some (.int .i64 4) ∧ W.cell? ⟨gt, 16, none⟩ = some (.bool true) ∧ W.cell? ⟨gt, 17, none⟩ = some (.int .i64 3) ∧ W.cell? ⟨gt, 18, none⟩ = some (.int .i64 50) ∧ W.cell? ⟨gt, 19, none⟩ = some (.int .i64 (-2)) ∧ W.cell? ⟨gt, 20, none⟩ = some (.int .i64 0) ∧ W.cell? ⟨gt, 21, none⟩ = some (.int .u32 4) ∧ W.cell? ⟨gt, 22, none⟩ = some (.int .u32 8) ∧ W.cell? ⟨gt, 23, none⟩ = some (.int .i64 1))) (z := 13) (by kernel_rfl) (SS.out _ (Below.refl m0.heap.size m0).drew) (fun hH => ?_)
        refine wpAnyZ_takeS (i := 0) (v := ?_) rfl (by kernel_rfl) (by kernel_rfl) (by kernel_rfl) (by kernel_rfl) (fun _ _ _ h => h) (gives_value (by rfl) ?_) (by assumption) ?_
        rotate_left
        · intro w hSw
          (try dsimp only at hSw)
          go_simp
          (try with_reducible rfl)
        (try simp only [Act.put, List.getElem_toArray, List.getElem_cons_succ, List.getElem_cons_zero, List.setIfInBounds_toArray, List.set_cons_zero, List.set_cons_succ])
        refine wpAnyZ_takeS (i := 1) (v := ?_) rfl (by kernel_rfl) (by kernel_rfl) (by kernel_rfl) (by kernel_rfl) (fun _ _ _ h => h) (gives_value (by rfl) ?_) (by assumption) ?_
        rotate_left
        · intro w hSw
          (try dsimp only at hSw)
          go_simp
          (try with_reducible rfl)
        (try simp only [Act.put, List.getElem_toArray, List.getElem_cons_succ, List.getElem_cons_zero, List.setIfInBounds_toArray, List.set_cons_zero, List.set_cons_succ])
        refine wpAnyZ_takeS (i := 2) (v := ?_) rfl (by kernel_rfl) (by kernel_rfl) (by kernel_rfl) (by kernel_rfl) (fun _ _ _ h => h) (gives_value (by rfl) ?_) (by assumption) ?_
        rotate_left
        · intro w hSw
          (try dsimp only at hSw)
          go_simp
          (try with_reducible rfl)
        (try simp only [Act.put, List.getElem_toArray, List.getElem_cons_succ, List.getElem_cons_zero, List.setIfInBounds_toArray, List.set_cons_zero, List.set_cons_succ])
        refine wpAnyZ_takeS (i := 3) (v := ?_) rfl (by kernel_rfl) (by kernel_rfl) (by kernel_rfl) (by kernel_rfl) (fun _ _ _ h => h) (gives_value (by rfl) ?_) (by assumption) ?_
        rotate_left
        · intro w hSw
          (try dsimp only at hSw)
          go_simp
          (try with_reducible rfl)
        (try simp only [Act.put, List.getElem_toArray, List.getElem_cons_succ, List.getElem_cons_zero, List.setIfInBounds_toArray, List.set_cons_zero, List.set_cons_succ])
        refine wpAnyZ_takeS (i := 4) (v := ?_) rfl (by kernel_rfl) (by kernel_rfl) (by kernel_rfl) (by kernel_rfl) (fun _ _ _ h => h) (gives_value (by rfl) ?_) (by assumption) ?_
        rotate_left
        · intro w hSw
          (try dsimp only at hSw)
          go_simp
          (try with_reducible rfl)
        (try simp only [Act.put, List.getElem_toArray, List.getElem_cons_succ, List.getElem_cons_zero, List.setIfInBounds_toArray, List.set_cons_zero, List.set_cons_succ])
        refine wpAnyZ_takeS (i := 5) (v := ?_) rfl (by kernel_rfl) (by kernel_rfl) (by kernel_rfl) (by kernel_rfl) (fun _ _ _ h => h) (gives_value (by rfl) ?_) (by assumption) ?_
        rotate_left
        · intro w hSw
          (try dsimp only at hSw)
          go_simp
          (try with_reducible rfl)
        (try simp only [Act.put, List.getElem_toArray, List.getElem_cons_succ, List.getElem_cons_zero, List.setIfInBounds_toArray, List.set_cons_zero, List.set_cons_succ])
        refine wpAnyZ_takeS (i := 6) (v := ?_) rfl (by kernel_rfl) (by kernel_rfl) (by kernel_rfl) (by kernel_rfl) (fun _ _ _ h => h) (gives_value (by rfl) ?_) (by assumption) ?_
        rotate_left
        · intro w hSw
          (try dsimp only at hSw)
          go_simp
          (try with_reducible rfl)
        (try simp only [Act.put, List.getElem_toArray, List.getElem_cons_succ, List.getElem_cons_zero, List.setIfInBounds_toArray, List.set_cons_zero, List.set_cons_succ])
        refine wpAnyZ_one (i := 7) (by kernel_rfl) ?_
        refine zstep rfl (fun K hK => ?_)
        go_simp
        (with_reducible refine (KM.out _ (Below.refl m0.heap.size m0).drew).mono ?_)
        rintro e m1 ⟨rfl, hb⟩
        have HBm1 := Lib.hid (((Below.refl m0.heap.size m0).drew).trans hb)
        clear hb
        refine hK.out _ _ (fun _ => SS.out _ HBm1.out) (fun hH => ?_)
        replace hH := hH (by decide)
        clear hK K
        (try simp only [Act.put, List.getElem_toArray, List.getElem_cons_succ, List.getElem_cons_zero, List.setIfInBounds_toArray, List.set_cons_zero, List.set_cons_succ])
        refine wpAnyZ_takeS (i := 8) (v := ?_) rfl (by kernel_rfl) (by kernel_rfl) (by kernel_rfl) (by kernel_rfl) (fun _ _ _ h => h) (gives_value (by rfl) ?_) (by assumption) ?_
        rotate_left
        · intro w hSw
          (try dsimp only at hSw)
          go_simp
          (try with_reducible rfl)
        (try simp only [Act.put, List.getElem_toArray, List.getElem_cons_succ, List.getElem_cons_zero, List.setIfInBounds_toArray, List.set_cons_zero, List.set_cons_succ])
        refine wpAnyZ_takeS (i := 9) (v := ?_) rfl (by kernel_rfl) (by kernel_rfl) (by kernel_rfl) (by kernel_rfl) (fun _ _ _ h => h) (gives_value (by rfl) ?_) (by assumption) ?_
        rotate_left
        · intro w hSw
          (try dsimp only at hSw)
          go_simp
          (try with_reducible rfl)
        (try simp only [Act.put, List.getElem_toArray, List.getElem_cons_succ, List.getElem_cons_zero, List.setIfInBounds_toArray, List.set_cons_zero, List.set_cons_succ])
        refine wpAnyZ_takeS (i := 10) (v := ?_) rfl (by kernel_rfl) (by kernel_rfl) (by kernel_rfl) (by kernel_rfl) (fun _ _ _ h => h) (gives_value (by rfl) ?_) (by assumption) ?_
        rotate_left
        · intro w hSw
          (try dsimp only at hSw)
          go_simp
          (try with_reducible rfl)
        (try simp only [Act.put, List.getElem_toArray, List.getElem_cons_succ, List.getElem_cons_zero, List.setIfInBounds_toArray, List.set_cons_zero, List.set_cons_succ])
        refine wpAnyZ_takeS (i := 11) (v := ?_) rfl (by kernel_rfl) (by kernel_rfl) (by kernel_rfl) (by kernel_rfl) (fun _ _ _ h => h) (gives_value (by rfl) ?_) (by assumption) ?_
        rotate_left
        · intro w hSw
          (try dsimp only at hSw)
          go_simp
          (try with_reducible rfl)
        (try simp only [Act.put, List.getElem_toArray, List.getElem_cons_succ, List.getElem_cons_zero, List.setIfInBounds_toArray, List.set_cons_zero, List.set_cons_succ])
        refine wpAnyZ_takeS (i := 12) (v := ?_) rfl (by kernel_rfl) (by kernel_rfl) (by kernel_rfl) (by kernel_rfl) (fun _ _ _ h => h) (gives_value (by rfl) ?_) (by assumption) ?_
        rotate_left
        · intro w hSw
          (try dsimp only at hSw)
          go_simp
          (try with_reducible rfl)
        (try simp only [Act.put, List.getElem_toArray, List.getElem_cons_succ, List.getElem_cons_zero, List.setIfInBounds_toArray, List.set_cons_zero, List.set_cons_succ])
        refine wpAnyZ_done (by kernel_rfl) ?_ _
        have Fm1 := Lib.hid (Fm0.out.on HBm1.out)
        clear hH SS KM HBm1 Fm0
        as_aux_lemma =>
          have KM : Hid (∀ W, Below m1.heap.size m1 W → Calls Try.prog 13 #[.agg #[.slice (some ⟨B1, 0, none⟩) 1 1, .slice (some ⟨B2, 0, none⟩) 3 3, .slice (some ⟨B3, 0, none⟩) 1 1, .slice (some ⟨B4, 0, none⟩) 4 4], .int .i64 0, .agg #[.bool true, .int .i64 2, .int .i64 35, .int .i64 5, .int .u32 4, .int .u32 6, .int .i64 6], .agg #[.bool true, .int .i64 2, .int .i64 35, .int .i64 0, .int .i64 2, .int .u32 0, .int .u32 12, .int .i64 3]] W fun e w' => e = .returned (.tuple #[.int .i64 0, .bool false]) ∧ Below W.heap.size W w') := fun W hB => by
            have := pmeet_any _ handP5 0 (some ⟨2, 35, 5, 4, 6, 6⟩) (some ⟨2, 35, 0, 2, 0, 12, 3⟩) W (Fm1.out.lies.below hB) hand5_ok (by decide) h5hb2 (fun _ => h5tb1)
            rw [show (if inB 0 0 (handP5.cars.length - 1) = true then meetO handP5 0 (some ⟨2, 35, 5, 4, 6, 6⟩) (some ⟨2, 35, 0, 2, 0, 12, 3⟩) else none) = none by decide] at this
            exact this
          have SS : Hid (∀ W, Below m1.heap.size m1 W → W.cell? ⟨I, 0, none⟩ = some (.slice (some ⟨B1, 0, none⟩) 1 1) ∧ W.cell? ⟨I, 1, none⟩ = some (.slice (some ⟨B2, 0, none⟩) 3 3) ∧ W.cell? ⟨I, 2, none⟩ = some (.slice (some ⟨B3, 0, none⟩) 1 1) ∧ W.cell? ⟨I, 3, none⟩ = some (.slice (some ⟨B4, 0, none⟩) 4 4) ∧ W.cell? ⟨gh, 14, none⟩ = some (.bool true) ∧ W.cell? ⟨gh, 15, none⟩ = some (.int .i64 2) ∧ W.cell? ⟨gh, 16, none⟩ = some (.int .i64 35) ∧ W.cell? ⟨gh, 17, none⟩ = some (.int .i64 5) ∧ W.cell? ⟨gh, 18, none⟩ = some (.int .u32 4) ∧ W.cell? ⟨gh, 19, none⟩ = some (.int .u32 6) ∧ W.cell? ⟨gh, 20, none⟩ = some (.int .i64 6) ∧ W.cell? ⟨gt, 8, none⟩ = some (.bool true) ∧ W.cell? ⟨gt, 9, none⟩ = some (.int .i64 2) ∧ W.cell? ⟨gt, 10, none⟩ = some (.int .i64 35) ∧ W.cell? ⟨gt, 11, none⟩ = some (.int .i64 0) ∧ W.cell? ⟨gt, 12, none⟩ = some (.int .i64 2) ∧ W.cell? ⟨gt, 13, none⟩ = some (.int .u32 0) ∧ W.cell? ⟨gt, 14, none⟩ = some (.int .u32 12) ∧ W.cell? ⟨gt, 15, none⟩ = some (.int .i64 3)) := fun W hB => by
            have X := Fm1.out.on hB
            obtain ⟨s0, s1, s2, s3⟩ := X.b
            obtain ⟨u0, u1, u2, u3, u4, u5, u6⟩ := X.h2
            obtain ⟨v0, v1, v2, v3, v4, v5, v6, v7⟩ := X.t1
            exact ⟨s0, s1, s2, s3, u0, u1, u2, u3, u4, u5, u6, v0, v1, v2, v3, v4, v5, v6, v7⟩
          go_upto_region 12 with (fail)
          refine wp_region_z (S := (fun W => W.cell? ⟨I, 0, none⟩ = some (.slice (some ⟨B1, 0, none⟩) 1 1) ∧ W.cell? ⟨I, 1, none⟩ = some (.slice (some ⟨B2, 0, none⟩) 3 3) ∧ W.cell? ⟨I, 2, none⟩ = some (.slice (some ⟨B3, 0, none⟩) 1 1) ∧ W.cell? ⟨I, 3, none⟩ = some (.slice (some ⟨B4, 0, none⟩) 4 4) ∧ W.cell? ⟨gh, 14, none⟩ = some (.bool true) ∧ W.cell? ⟨gh, 15, none⟩ = some (.int .i64 2) ∧ W.cell? ⟨gh, 16, none⟩ = some (.int .i64 35) ∧ W.cell? ⟨gh, 17, none⟩ = some (.int .i64 5) ∧ W.cell? ⟨gh, 18, none⟩ = some (.int .u32 4) ∧ W.cell? ⟨gh, 19, none⟩ = some (.int .u32 6) ∧ W.cell? ⟨gh, 20, none⟩ = some (.int .i64 6) ∧ W.cell? ⟨gt, 8, none⟩ = some (.bool true) ∧ W.cell? ⟨gt, 9, none⟩ = some (.int .i64 2) ∧ W.cell? ⟨gt, 10, none⟩ = some (.int .i64 35) ∧ W.cell? ⟨gt, 11, none⟩ = some (.int .i64 0) ∧ W.cell? ⟨gt, 12, none⟩ = some (.int .i64 2) ∧ W.cell? ⟨gt, 13, none⟩ = some (.int .u32 0) ∧ W.cell? ⟨gt, 14, none⟩ = some (.int .u32 12) ∧ W.cell? ⟨gt, 15, none⟩ = some (.int .i64 3))) (z := 13) (by kernel_rfl) (SS.out _ (Below.refl m1.heap.size m1).drew) (fun hH => ?_)
          refine wpAnyZ_takeS (i := 0) (v := ?_) rfl (by kernel_rfl) (by kernel_rfl) (by kernel_rfl) (by kernel_rfl) (fun _ _ _ h => h) (gives_value (by rfl) ?_) (by assumption) ?_
          rotate_left
          · intro w hSw
            (try dsimp only at hSw)
            go_simp
            (try with_reducible rfl)
          (try simp only [Act.put, List.getElem_toArray, List.getElem_cons_succ, List.getElem_cons_zero, List.setIfInBounds_toArray, List.set_cons_zero, List.set_cons_succ])
          refine wpAnyZ_takeS (i := 1) (v := ?_) rfl (by kernel_rfl) (by kernel_rfl) (by kernel_rfl) (by kernel_rfl) (fun _ _ _ h => h) (gives_value (by rfl) ?_) (by assumption) ?_
          rotate_left
          · intro w hSw
            (try dsimp only at hSw)
            go_simp
            (try with_reducible rfl)
          (try simp only [Act.put, List.getElem_toArray, List.getElem_cons_succ, List.getElem_cons_zero, List.setIfInBounds_toArray, List.set_cons_zero, List.set_cons_succ])
          refine wpAnyZ_takeS (i := 2) (v := ?_) rfl (by kernel_rfl) (by kernel_rfl) (by kernel_rfl) (by kernel_rfl) (fun _ _ _ h => h) (gives_value (by rfl) ?_) (by assumption) ?_
          rotate_left
          · intro w hSw
            (try dsimp only at hSw)
            go_simp
            (try with_reducible rfl)
          (try simp only [Act.put, List.getElem_toArray, List.getElem_cons_succ, List.getElem_cons_zero, List.setIfInBounds_toArray, List.set_cons_zero, List.set_cons_succ])
          refine wpAnyZ_takeS (i := 3) (v := ?_) rfl (by kernel_rfl) (by kernel_rfl) (by kernel_rfl) (by kernel_rfl) (fun _ _ _ h => h) (gives_value (by rfl) ?_) (by assumption) ?_
          rotate_left
          · intro w hSw
            (try dsimp only at hSw)
            go_simp
            (try with_reducible rfl)
          (try simp only [Act.put, List.getElem_toArray, List.getElem_cons_succ, List.getElem_cons_zero, List.setIfInBounds_toArray, List.set_cons_zero, List.set_cons_succ])
          refine wpAnyZ_takeS (i := 4) (v := ?_) rfl (by kernel_rfl) (by kernel_rfl) (by kernel_rfl) (by kernel_rfl) (fun _ _ _ h => h) (gives_value (by rfl) ?_) (by assumption) ?_
          rotate_left
          · intro w hSw
            (try dsimp only at hSw)
            go_simp
            (try with_reducible rfl)
          (try simp only [Act.put, List.getElem_toArray, List.getElem_cons_succ, List.getElem_cons_zero, List.setIfInBounds_toArray, List.set_cons_zero, List.set_cons_succ])
          refine wpAnyZ_takeS (i := 5) (v := ?_) rfl (by kernel_rfl) (by kernel_rfl) (by kernel_rfl) (by kernel_rfl) (fun _ _ _ h => h) (gives_value (by rfl) ?_) (by assumption) ?_
          rotate_left
          · intro w hSw
            (try dsimp only at hSw)
            go_simp
            (try with_reducible rfl)
          (try simp only [Act.put, List.getElem_toArray, List.getElem_cons_succ, List.getElem_cons_zero, List.setIfInBounds_toArray, List.set_cons_zero, List.set_cons_succ])
          refine wpAnyZ_takeS (i := 6) (v := ?_) rfl (by kernel_rfl) (by kernel_rfl) (by kernel_rfl) (by kernel_rfl) (fun _ _ _ h => h) (gives_value (by rfl) ?_) (by assumption) ?_
          rotate_left
          · intro w hSw
            (try dsimp only at hSw)
            go_simp
            (try with_reducible rfl)
          (try simp only [Act.put, List.getElem_toArray, List.getElem_cons_succ, List.getElem_cons_zero, List.setIfInBounds_toArray, List.set_cons_zero, List.set_cons_succ])
          refine wpAnyZ_one (i := 7) (by kernel_rfl) ?_
          refine zstep rfl (fun K hK => ?_)
          go_simp
          (with_reducible refine (KM.out _ (Below.refl m1.heap.size m1).drew).mono ?_)
          rintro e m2 ⟨rfl, hb⟩
          have HBm2 := Lib.hid (((Below.refl m1.heap.size m1).drew).trans hb)
          clear hb
          refine hK.out _ _ (fun _ => SS.out _ HBm2.out) (fun hH => ?_)
          replace hH := hH (by decide)
          clear hK K
          (try simp only [Act.put, List.getElem_toArray, List.getElem_cons_succ, List.getElem_cons_zero, List.setIfInBounds_toArray, List.set_cons_zero, List.set_cons_succ])
          refine wpAnyZ_takeS (i := 8) (v := ?_) rfl (by kernel_rfl) (by kernel_rfl) (by kernel_rfl) (by kernel_rfl) (fun _ _ _ h => h) (gives_value (by rfl) ?_) (by assumption) ?_
          rotate_left
          · intro w hSw
            (try dsimp only at hSw)
            go_simp
            (try with_reducible rfl)
          (try simp only [Act.put, List.getElem_toArray, List.getElem_cons_succ, List.getElem_cons_zero, List.setIfInBounds_toArray, List.set_cons_zero, List.set_cons_succ])
          refine wpAnyZ_takeS (i := 9) (v := ?_) rfl (by kernel_rfl) (by kernel_rfl) (by kernel_rfl) (by kernel_rfl) (fun _ _ _ h => h) (gives_value (by rfl) ?_) (by assumption) ?_
          rotate_left
          · intro w hSw
            (try dsimp only at hSw)
            go_simp
            (try with_reducible rfl)
          (try simp only [Act.put, List.getElem_toArray, List.getElem_cons_succ, List.getElem_cons_zero, List.setIfInBounds_toArray, List.set_cons_zero, List.set_cons_succ])
          refine wpAnyZ_takeS (i := 10) (v := ?_) rfl (by kernel_rfl) (by kernel_rfl) (by kernel_rfl) (by kernel_rfl) (fun _ _ _ h => h) (gives_value (by rfl) ?_) (by assumption) ?_
          rotate_left
          · intro w hSw
            (try dsimp only at hSw)
            go_simp
            (try with_reducible rfl)
          (try simp only [Act.put, List.getElem_toArray, List.getElem_cons_succ, List.getElem_cons_zero, List.setIfInBounds_toArray, List.set_cons_zero, List.set_cons_succ])
          refine wpAnyZ_takeS (i := 11) (v := ?_) rfl (by kernel_rfl) (by kernel_rfl) (by kernel_rfl) (by kernel_rfl) (fun _ _ _ h => h) (gives_value (by rfl) ?_) (by assumption) ?_
          rotate_left
          · intro w hSw
            (try dsimp only at hSw)
            go_simp
            (try with_reducible rfl)
          (try simp only [Act.put, List.getElem_toArray, List.getElem_cons_succ, List.getElem_cons_zero, List.setIfInBounds_toArray, List.set_cons_zero, List.set_cons_succ])
          refine wpAnyZ_takeS (i := 12) (v := ?_) rfl (by kernel_rfl) (by kernel_rfl) (by kernel_rfl) (by kernel_rfl) (fun _ _ _ h => h) (gives_value (by rfl) ?_) (by assumption) ?_
          rotate_left
          · intro w hSw
            (try dsimp only at hSw)
            go_simp
            (try with_reducible rfl)
          (try simp only [Act.put, List.getElem_toArray, List.getElem_cons_succ, List.getElem_cons_zero, List.setIfInBounds_toArray, List.set_cons_zero, List.set_cons_succ])
          refine wpAnyZ_done (by kernel_rfl) ?_ _
          have Fm2 := Lib.hid (Fm1.out.on HBm2.out)
          clear hH SS KM HBm2 Fm1
          as_aux_lemma =>
            have KM : Hid (∀ W, Below m2.heap.size m2 W → Calls Try.prog 13 #[.agg #[.slice (some ⟨B1, 0, none⟩) 1 1, .slice (some ⟨B2, 0, none⟩) 3 3, .slice (some ⟨B3, 0, none⟩) 1 1, .slice (some ⟨B4, 0, none⟩) 4 4], .int .i64 0, .agg #[.bool true, .int .i64 3, .int .i64 37, .int .i64 3, .int .u32 0, .int .u32 14, .int .i64 8], .agg #[.bool true, .int .i64 3, .int .i64 50, .int .i64 (-2), .int .i64 0, .int .u32 4, .int .u32 8, .int .i64 1]] W fun e w' => e = .returned (.tuple #[.int .i64 0, .bool false]) ∧ Below W.heap.size W w') := fun W hB => by
              have := pmeet_any _ handP5 0 (some ⟨3, 37, 3, 0, 14, 8⟩) (some ⟨3, 50, (-2), 0, 4, 8, 1⟩) W (Fm2.out.lies.below hB) hand5_ok (by decide) h5hb3 (fun _ => h5tb2)
              rw [show (if inB 0 0 (handP5.cars.length - 1) = true then meetO handP5 0 (some ⟨3, 37, 3, 0, 14, 8⟩) (some ⟨3, 50, (-2), 0, 4, 8, 1⟩) else none) = none by decide] at this
              exact this
            have SS : Hid (∀ W, Below m2.heap.size m2 W → W.cell? ⟨I, 0, none⟩ = some (.slice (some ⟨B1, 0, none⟩) 1 1) ∧ W.cell? ⟨I, 1, none⟩ = some (.slice (some ⟨B2, 0, none⟩) 3 3) ∧ W.cell? ⟨I, 2, none⟩ = some (.slice (some ⟨B3, 0, none⟩) 1 1) ∧ W.cell? ⟨I, 3, none⟩ = some (.slice (some ⟨B4, 0, none⟩) 4 4) ∧ W.cell? ⟨gh, 21, none⟩ = some (.bool true) ∧ W.cell? ⟨gh, 22, none⟩ = some (.int .i64 3) ∧ W.cell? ⟨gh, 23, none⟩ = some (.int .i64 37) ∧ W.cell? ⟨gh, 24, none⟩ = some (.int .i64 3) ∧ W.cell? ⟨gh, 25, none⟩ = some (.int .u32 0) ∧ W.cell? ⟨gh, 26, none⟩ = some (.int .u32 14) ∧ W.cell? ⟨gh, 27, none⟩ = some (.int .i64 8) ∧ W.cell? ⟨gt, 16, none⟩ = some (.bool true) ∧ W.cell? ⟨gt, 17, none⟩ = some (.int .i64 3) ∧ W.cell? ⟨gt, 18, none⟩ = some (.int .i64 50) ∧ W.cell? ⟨gt, 19, none⟩ = some (.int .i64 (-2)) ∧ W.cell? ⟨gt, 20, none⟩ = some (.int .i64 0) ∧ W.cell? ⟨gt, 21, none⟩ = some (.int .u32 4) ∧ W.cell? ⟨gt, 22, none⟩ = some (.int .u32 8) ∧ W.cell? ⟨gt, 23, none⟩ = some (.int .i64 1)) := fun W hB => by
              have X := Fm2.out.on hB
              obtain ⟨s0, s1, s2, s3⟩ := X.b
              obtain ⟨u0, u1, u2, u3, u4, u5, u6⟩ := X.h3
              obtain ⟨v0, v1, v2, v3, v4, v5, v6, v7⟩ := X.t2
              exact ⟨s0, s1, s2, s3, u0, u1, u2, u3, u4, u5, u6, v0, v1, v2, v3, v4, v5, v6, v7⟩
            go_upto_region 13 with (fail)
            refine wp_region_z (S := (fun W => W.cell? ⟨I, 0, none⟩ = some (.slice (some ⟨B1, 0, none⟩) 1 1) ∧ W.cell? ⟨I, 1, none⟩ = some (.slice (some ⟨B2, 0, none⟩) 3 3) ∧ W.cell? ⟨I, 2, none⟩ = some (.slice (some ⟨B3, 0, none⟩) 1 1) ∧ W.cell? ⟨I, 3, none⟩ = some (.slice (some ⟨B4, 0, none⟩) 4 4) ∧ W.cell? ⟨gh, 21, none⟩ = some (.bool true) ∧ W.cell? ⟨gh, 22, none⟩ = some (.int .i64 3) ∧ W.cell? ⟨gh, 23, none⟩ = some (.int .i64 37) ∧ W.cell? ⟨gh, 24, none⟩ = some (.int .i64 3) ∧ W.cell? ⟨gh, 25, none⟩ = some (.int .u32 0) ∧ W.cell? ⟨gh, 26, none⟩ = some (.int .u32 14) ∧ W.cell? ⟨gh, 27, none⟩ = some (.int .i64 8) ∧ W.cell? ⟨gt, 16, none⟩ = some (.bool true) ∧ W.cell? ⟨gt, 17, none⟩ = some (.int .i64 3) ∧ W.cell? ⟨gt, 18, none⟩ = some (.int .i64 50) ∧ W.cell? ⟨gt, 19, none⟩ = some (.int .i64 (-2)) ∧ W.cell? ⟨gt, 20, none⟩ = some (.int .i64 0) ∧ W.cell? ⟨gt, 21, none⟩ = some (.int .u32 4) ∧ W.cell? ⟨gt, 22, none⟩ = some (.int .u32 8) ∧ W.cell? ⟨gt, 23, none⟩ = some (.int .i64 1))) (z := 13) (by kernel_rfl) (SS.out _ (Below.refl m2.heap.size m2).drew) (fun hH => ?_)
            refine wpAnyZ_takeS (i := 0) (v := ?_) rfl (by kernel_rfl) (by kernel_rfl) (by kernel_rfl) (by kernel_rfl) (fun _ _ _ h => h) (gives_value (by rfl) ?_) (by assumption) ?_
            rotate_left
            · intro w hSw
              (try dsimp only at hSw)
              go_simp
              (try with_reducible rfl)
            (try simp only [Act.put, List.getElem_toArray, List.getElem_cons_succ, List.getElem_cons_zero, List.setIfInBounds_toArray, List.set_cons_zero, List.set_cons_succ])
            refine wpAnyZ_takeS (i := 1) (v := ?_) rfl (by kernel_rfl) (by kernel_rfl) (by kernel_rfl) (by kernel_rfl) (fun _ _ _ h => h) (gives_value (by rfl) ?_) (by assumption) ?_
            rotate_left
            · intro w hSw
              (try dsimp only at hSw)
              go_simp
              (try with_reducible rfl)
            (try simp only [Act.put, List.getElem_toArray, List.getElem_cons_succ, List.getElem_cons_zero, List.setIfInBounds_toArray, List.set_cons_zero, List.set_cons_succ])
            refine wpAnyZ_takeS (i := 2) (v := ?_) rfl (by kernel_rfl) (by kernel_rfl) (by kernel_rfl) (by kernel_rfl) (fun _ _ _ h => h) (gives_value (by rfl) ?_) (by assumption) ?_
            rotate_left
            · intro w hSw
              (try dsimp only at hSw)
              go_simp
              (try with_reducible rfl)
            (try simp only [Act.put, List.getElem_toArray, List.getElem_cons_succ, List.getElem_cons_zero, List.setIfInBounds_toArray, List.set_cons_zero, List.set_cons_succ])
            refine wpAnyZ_takeS (i := 3) (v := ?_) rfl (by kernel_rfl) (by kernel_rfl) (by kernel_rfl) (by kernel_rfl) (fun _ _ _ h => h) (gives_value (by rfl) ?_) (by assumption) ?_
            rotate_left
            · intro w hSw
              (try dsimp only at hSw)
              go_simp
              (try with_reducible rfl)
            (try simp only [Act.put, List.getElem_toArray, List.getElem_cons_succ, List.getElem_cons_zero, List.setIfInBounds_toArray, List.set_cons_zero, List.set_cons_succ])
            refine wpAnyZ_takeS (i := 4) (v := ?_) rfl (by kernel_rfl) (by kernel_rfl) (by kernel_rfl) (by kernel_rfl) (fun _ _ _ h => h) (gives_value (by rfl) ?_) (by assumption) ?_
            rotate_left
            · intro w hSw
              (try dsimp only at hSw)
              go_simp
              (try with_reducible rfl)
            (try simp only [Act.put, List.getElem_toArray, List.getElem_cons_succ, List.getElem_cons_zero, List.setIfInBounds_toArray, List.set_cons_zero, List.set_cons_succ])
            refine wpAnyZ_takeS (i := 5) (v := ?_) rfl (by kernel_rfl) (by kernel_rfl) (by kernel_rfl) (by kernel_rfl) (fun _ _ _ h => h) (gives_value (by rfl) ?_) (by assumption) ?_
            rotate_left
            · intro w hSw
              (try dsimp only at hSw)
              go_simp
              (try with_reducible rfl)
            (try simp only [Act.put, List.getElem_toArray, List.getElem_cons_succ, List.getElem_cons_zero, List.setIfInBounds_toArray, List.set_cons_zero, List.set_cons_succ])
            refine wpAnyZ_takeS (i := 6) (v := ?_) rfl (by kernel_rfl) (by kernel_rfl) (by kernel_rfl) (by kernel_rfl) (fun _ _ _ h => h) (gives_value (by rfl) ?_) (by assumption) ?_
            rotate_left
            · intro w hSw
              (try dsimp only at hSw)
              go_simp
              (try with_reducible rfl)
            (try simp only [Act.put, List.getElem_toArray, List.getElem_cons_succ, List.getElem_cons_zero, List.setIfInBounds_toArray, List.set_cons_zero, List.set_cons_succ])
            refine wpAnyZ_one (i := 7) (by kernel_rfl) ?_
            refine zstep rfl (fun K hK => ?_)
            go_simp
            (with_reducible refine (KM.out _ (Below.refl m2.heap.size m2).drew).mono ?_)
            rintro e m3 ⟨rfl, hb⟩
            have HBm3 := Lib.hid (((Below.refl m2.heap.size m2).drew).trans hb)
            clear hb
            refine hK.out _ _ (fun _ => SS.out _ HBm3.out) (fun hH => ?_)
            replace hH := hH (by decide)
            clear hK K
            (try simp only [Act.put, List.getElem_toArray, List.getElem_cons_succ, List.getElem_cons_zero, List.setIfInBounds_toArray, List.set_cons_zero, List.set_cons_succ])
            refine wpAnyZ_takeS (i := 8) (v := ?_) rfl (by kernel_rfl) (by kernel_rfl) (by kernel_rfl) (by kernel_rfl) (fun _ _ _ h => h) (gives_value (by rfl) ?_) (by assumption) ?_
            rotate_left
            · intro w hSw
              (try dsimp only at hSw)
              go_simp
              (try with_reducible rfl)
            (try simp only [Act.put, List.getElem_toArray, List.getElem_cons_succ, List.getElem_cons_zero, List.setIfInBounds_toArray, List.set_cons_zero, List.set_cons_succ])
            refine wpAnyZ_takeS (i := 9) (v := ?_) rfl (by kernel_rfl) (by kernel_rfl) (by kernel_rfl) (by kernel_rfl) (fun _ _ _ h => h) (gives_value (by rfl) ?_) (by assumption) ?_
            rotate_left
            · intro w hSw
              (try dsimp only at hSw)
              go_simp
              (try with_reducible rfl)
            (try simp only [Act.put, List.getElem_toArray, List.getElem_cons_succ, List.getElem_cons_zero, List.setIfInBounds_toArray, List.set_cons_zero, List.set_cons_succ])
            refine wpAnyZ_takeS (i := 10) (v := ?_) rfl (by kernel_rfl) (by kernel_rfl) (by kernel_rfl) (by kernel_rfl) (fun _ _ _ h => h) (gives_value (by rfl) ?_) (by assumption) ?_
            rotate_left
            · intro w hSw
              (try dsimp only at hSw)
              go_simp
              (try with_reducible rfl)
            (try simp only [Act.put, List.getElem_toArray, List.getElem_cons_succ, List.getElem_cons_zero, List.setIfInBounds_toArray, List.set_cons_zero, List.set_cons_succ])
            refine wpAnyZ_takeS (i := 11) (v := ?_) rfl (by kernel_rfl) (by kernel_rfl) (by kernel_rfl) (by kernel_rfl) (fun _ _ _ h => h) (gives_value (by rfl) ?_) (by assumption) ?_
            rotate_left
            · intro w hSw
              (try dsimp only at hSw)
              go_simp
              (try with_reducible rfl)
            (try simp only [Act.put, List.getElem_toArray, List.getElem_cons_succ, List.getElem_cons_zero, List.setIfInBounds_toArray, List.set_cons_zero, List.set_cons_succ])
            refine wpAnyZ_takeS (i := 12) (v := ?_) rfl (by kernel_rfl) (by kernel_rfl) (by kernel_rfl) (by kernel_rfl) (fun _ _ _ h => h) (gives_value (by rfl) ?_) (by assumption) ?_
            rotate_left
            · intro w hSw
              (try dsimp only at hSw)
              go_simp
              (try with_reducible rfl)
            (try simp only [Act.put, List.getElem_toArray, List.getElem_cons_succ, List.getElem_cons_zero, List.setIfInBounds_toArray, List.set_cons_zero, List.set_cons_succ])
            refine wpAnyZ_done (by kernel_rfl) ?_ _
            have Fm3 := Lib.hid (Fm2.out.on HBm3.out)
            clear hH SS KM HBm3 Fm2
            as_aux_lemma =>
              have KM : Hid (∀ W, Below m3.heap.size m3 W → Calls Try.prog 13 #[.agg #[.slice (some ⟨B1, 0, none⟩) 1 1, .slice (some ⟨B2, 0, none⟩) 3 3, .slice (some ⟨B3, 0, none⟩) 1 1, .slice (some ⟨B4, 0, none⟩) 4 4], .int .i64 0, .agg #[.bool true, .int .i64 2, .int .i64 35, .int .i64 5, .int .u32 4, .int .u32 6, .int .i64 6], .agg #[.bool true, .int .i64 0, .int .i64 60, .int .i64 0, .int .i64 0, .int .u32 0, .int .u32 0, .int .i64 0]] W fun e w' => e = .returned (.tuple #[.int .i64 0, .bool false]) ∧ Below W.heap.size W w') := fun W hB => by
                have := pmeet_any _ handP5 0 (some ⟨2, 35, 5, 4, 6, 6⟩) (some ⟨0, 60, 0, 0, 0, 0, 0⟩) W (Fm3.out.lies.below hB) hand5_ok (by decide) h5hb2 (fun _ => h5tb3)
                rw [show (if inB 0 0 (handP5.cars.length - 1) = true then meetO handP5 0 (some ⟨2, 35, 5, 4, 6, 6⟩) (some ⟨0, 60, 0, 0, 0, 0, 0⟩) else none) = none by decide] at this
                exact this
              have SS : Hid (∀ W, Below m3.heap.size m3 W → W.cell? ⟨I, 0, none⟩ = some (.slice (some ⟨B1, 0, none⟩) 1 1) ∧ W.cell? ⟨I, 1, none⟩ = some (.slice (some ⟨B2, 0, none⟩) 3 3) ∧ W.cell? ⟨I, 2, none⟩ = some (.slice (some ⟨B3, 0, none⟩) 1 1) ∧ W.cell? ⟨I, 3, none⟩ = some (.slice (some ⟨B4, 0, none⟩) 4 4) ∧ W.cell? ⟨gh, 14, none⟩ = some (.bool true) ∧ W.cell? ⟨gh, 15, none⟩ = some (.int .i64 2) ∧ W.cell? ⟨gh, 16, none⟩ = some (.int .i64 35) ∧ W.cell? ⟨gh, 17, none⟩ = some (.int .i64 5) ∧ W.cell? ⟨gh, 18, none⟩ = some (.int .u32 4) ∧ W.cell? ⟨gh, 19, none⟩ = some (.int .u32 6) ∧ W.cell? ⟨gh, 20, none⟩ = some (.int .i64 6) ∧ W.cell? ⟨gt, 24, none⟩ = some (.bool true) ∧ W.cell? ⟨gt, 25, none⟩ = some (.int .i64 0) ∧ W.cell? ⟨gt, 26, none⟩ = some (.int .i64 60) ∧ W.cell? ⟨gt, 27, none⟩ = some (.int .i64 0) ∧ W.cell? ⟨gt, 28, none⟩ = some (.int .i64 0) ∧ W.cell? ⟨gt, 29, none⟩ = some (.int .u32 0) ∧ W.cell? ⟨gt, 30, none⟩ = some (.int .u32 0) ∧ W.cell? ⟨gt, 31, none⟩ = some (.int .i64 0)) := fun W hB => by
                have X := Fm3.out.on hB
                obtain ⟨s0, s1, s2, s3⟩ := X.b
                obtain ⟨u0, u1, u2, u3, u4, u5, u6⟩ := X.h2
                obtain ⟨v0, v1, v2, v3, v4, v5, v6, v7⟩ := X.t3
                exact ⟨s0, s1, s2, s3, u0, u1, u2, u3, u4, u5, u6, v0, v1, v2, v3, v4, v5, v6, v7⟩
              go_upto_region 14 with (fail)
              refine wp_region_z (S := (fun W => W.cell? ⟨I, 0, none⟩ = some (.slice (some ⟨B1, 0, none⟩) 1 1) ∧ W.cell? ⟨I, 1, none⟩ = some (.slice (some ⟨B2, 0, none⟩) 3 3) ∧ W.cell? ⟨I, 2, none⟩ = some (.slice (some ⟨B3, 0, none⟩) 1 1) ∧ W.cell? ⟨I, 3, none⟩ = some (.slice (some ⟨B4, 0, none⟩) 4 4) ∧ W.cell? ⟨gh, 14, none⟩ = some (.bool true) ∧ W.cell? ⟨gh, 15, none⟩ = some (.int .i64 2) ∧ W.cell? ⟨gh, 16, none⟩ = some (.int .i64 35) ∧ W.cell? ⟨gh, 17, none⟩ = some (.int .i64 5) ∧ W.cell? ⟨gh, 18, none⟩ = some (.int .u32 4) ∧ W.cell? ⟨gh, 19, none⟩ = some (.int .u32 6) ∧ W.cell? ⟨gh, 20, none⟩ = some (.int .i64 6) ∧ W.cell? ⟨gt, 24, none⟩ = some (.bool true) ∧ W.cell? ⟨gt, 25, none⟩ = some (.int .i64 0) ∧ W.cell? ⟨gt, 26, none⟩ = some (.int .i64 60) ∧ W.cell? ⟨gt, 27, none⟩ = some (.int .i64 0) ∧ W.cell? ⟨gt, 28, none⟩ = some (.int .i64 0) ∧ W.cell? ⟨gt, 29, none⟩ = some (.int .u32 0) ∧ W.cell? ⟨gt, 30, none⟩ = some (.int .u32 0) ∧ W.cell? ⟨gt, 31, none⟩ = some (.int .i64 0))) (z := 13) (by kernel_rfl) (SS.out _ (Below.refl m3.heap.size m3).drew) (fun hH => ?_)
              refine wpAnyZ_takeS (i := 0) (v := ?_) rfl (by kernel_rfl) (by kernel_rfl) (by kernel_rfl) (by kernel_rfl) (fun _ _ _ h => h) (gives_value (by rfl) ?_) (by assumption) ?_
              rotate_left
              · intro w hSw
                (try dsimp only at hSw)
                go_simp
                (try with_reducible rfl)
              (try simp only [Act.put, List.getElem_toArray, List.getElem_cons_succ, List.getElem_cons_zero, List.setIfInBounds_toArray, List.set_cons_zero, List.set_cons_succ])
              refine wpAnyZ_takeS (i := 1) (v := ?_) rfl (by kernel_rfl) (by kernel_rfl) (by kernel_rfl) (by kernel_rfl) (fun _ _ _ h => h) (gives_value (by rfl) ?_) (by assumption) ?_
              rotate_left
              · intro w hSw
                (try dsimp only at hSw)
                go_simp
                (try with_reducible rfl)
              (try simp only [Act.put, List.getElem_toArray, List.getElem_cons_succ, List.getElem_cons_zero, List.setIfInBounds_toArray, List.set_cons_zero, List.set_cons_succ])
              refine wpAnyZ_takeS (i := 2) (v := ?_) rfl (by kernel_rfl) (by kernel_rfl) (by kernel_rfl) (by kernel_rfl) (fun _ _ _ h => h) (gives_value (by rfl) ?_) (by assumption) ?_
              rotate_left
              · intro w hSw
                (try dsimp only at hSw)
                go_simp
                (try with_reducible rfl)
              (try simp only [Act.put, List.getElem_toArray, List.getElem_cons_succ, List.getElem_cons_zero, List.setIfInBounds_toArray, List.set_cons_zero, List.set_cons_succ])
              refine wpAnyZ_takeS (i := 3) (v := ?_) rfl (by kernel_rfl) (by kernel_rfl) (by kernel_rfl) (by kernel_rfl) (fun _ _ _ h => h) (gives_value (by rfl) ?_) (by assumption) ?_
              rotate_left
              · intro w hSw
                (try dsimp only at hSw)
                go_simp
                (try with_reducible rfl)
              (try simp only [Act.put, List.getElem_toArray, List.getElem_cons_succ, List.getElem_cons_zero, List.setIfInBounds_toArray, List.set_cons_zero, List.set_cons_succ])
              refine wpAnyZ_takeS (i := 4) (v := ?_) rfl (by kernel_rfl) (by kernel_rfl) (by kernel_rfl) (by kernel_rfl) (fun _ _ _ h => h) (gives_value (by rfl) ?_) (by assumption) ?_
              rotate_left
              · intro w hSw
                (try dsimp only at hSw)
                go_simp
                (try with_reducible rfl)
              (try simp only [Act.put, List.getElem_toArray, List.getElem_cons_succ, List.getElem_cons_zero, List.setIfInBounds_toArray, List.set_cons_zero, List.set_cons_succ])
              refine wpAnyZ_takeS (i := 5) (v := ?_) rfl (by kernel_rfl) (by kernel_rfl) (by kernel_rfl) (by kernel_rfl) (fun _ _ _ h => h) (gives_value (by rfl) ?_) (by assumption) ?_
              rotate_left
              · intro w hSw
                (try dsimp only at hSw)
                go_simp
                (try with_reducible rfl)
              (try simp only [Act.put, List.getElem_toArray, List.getElem_cons_succ, List.getElem_cons_zero, List.setIfInBounds_toArray, List.set_cons_zero, List.set_cons_succ])
              refine wpAnyZ_takeS (i := 6) (v := ?_) rfl (by kernel_rfl) (by kernel_rfl) (by kernel_rfl) (by kernel_rfl) (fun _ _ _ h => h) (gives_value (by rfl) ?_) (by assumption) ?_
              rotate_left
              · intro w hSw
                (try dsimp only at hSw)
                go_simp
                (try with_reducible rfl)
              (try simp only [Act.put, List.getElem_toArray, List.getElem_cons_succ, List.getElem_cons_zero, List.setIfInBounds_toArray, List.set_cons_zero, List.set_cons_succ])
              refine wpAnyZ_one (i := 7) (by kernel_rfl) ?_
              refine zstep rfl (fun K hK => ?_)
              go_simp
              (with_reducible refine (KM.out _ (Below.refl m3.heap.size m3).drew).mono ?_)
              rintro e m4 ⟨rfl, hb⟩
              have HBm4 := Lib.hid (((Below.refl m3.heap.size m3).drew).trans hb)
              clear hb
              refine hK.out _ _ (fun _ => SS.out _ HBm4.out) (fun hH => ?_)
              replace hH := hH (by decide)
              clear hK K
              (try simp only [Act.put, List.getElem_toArray, List.getElem_cons_succ, List.getElem_cons_zero, List.setIfInBounds_toArray, List.set_cons_zero, List.set_cons_succ])
              refine wpAnyZ_takeS (i := 8) (v := ?_) rfl (by kernel_rfl) (by kernel_rfl) (by kernel_rfl) (by kernel_rfl) (fun _ _ _ h => h) (gives_value (by rfl) ?_) (by assumption) ?_
              rotate_left
              · intro w hSw
                (try dsimp only at hSw)
                go_simp
                (try with_reducible rfl)
              (try simp only [Act.put, List.getElem_toArray, List.getElem_cons_succ, List.getElem_cons_zero, List.setIfInBounds_toArray, List.set_cons_zero, List.set_cons_succ])
              refine wpAnyZ_takeS (i := 9) (v := ?_) rfl (by kernel_rfl) (by kernel_rfl) (by kernel_rfl) (by kernel_rfl) (fun _ _ _ h => h) (gives_value (by rfl) ?_) (by assumption) ?_
              rotate_left
              · intro w hSw
                (try dsimp only at hSw)
                go_simp
                (try with_reducible rfl)
              (try simp only [Act.put, List.getElem_toArray, List.getElem_cons_succ, List.getElem_cons_zero, List.setIfInBounds_toArray, List.set_cons_zero, List.set_cons_succ])
              refine wpAnyZ_takeS (i := 10) (v := ?_) rfl (by kernel_rfl) (by kernel_rfl) (by kernel_rfl) (by kernel_rfl) (fun _ _ _ h => h) (gives_value (by rfl) ?_) (by assumption) ?_
              rotate_left
              · intro w hSw
                (try dsimp only at hSw)
                go_simp
                (try with_reducible rfl)
              (try simp only [Act.put, List.getElem_toArray, List.getElem_cons_succ, List.getElem_cons_zero, List.setIfInBounds_toArray, List.set_cons_zero, List.set_cons_succ])
              refine wpAnyZ_takeS (i := 11) (v := ?_) rfl (by kernel_rfl) (by kernel_rfl) (by kernel_rfl) (by kernel_rfl) (fun _ _ _ h => h) (gives_value (by rfl) ?_) (by assumption) ?_
              rotate_left
              · intro w hSw
                (try dsimp only at hSw)
                go_simp
                (try with_reducible rfl)
              (try simp only [Act.put, List.getElem_toArray, List.getElem_cons_succ, List.getElem_cons_zero, List.setIfInBounds_toArray, List.set_cons_zero, List.set_cons_succ])
              refine wpAnyZ_takeS (i := 12) (v := ?_) rfl (by kernel_rfl) (by kernel_rfl) (by kernel_rfl) (by kernel_rfl) (fun _ _ _ h => h) (gives_value (by rfl) ?_) (by assumption) ?_
              rotate_left
              · intro w hSw
                (try dsimp only at hSw)
                go_simp
                (try with_reducible rfl)
              (try simp only [Act.put, List.getElem_toArray, List.getElem_cons_succ, List.getElem_cons_zero, List.setIfInBounds_toArray, List.set_cons_zero, List.set_cons_succ])
              refine wpAnyZ_done (by kernel_rfl) ?_ _
              have Fm4 := Lib.hid (Fm3.out.on HBm4.out)
              clear hH SS KM HBm4 Fm3
              as_aux_lemma =>
                have KM : Hid (∀ W, Below m4.heap.size m4 W → Calls Try.prog 13 #[.agg #[.slice (some ⟨B1, 0, none⟩) 1 1, .slice (some ⟨B2, 0, none⟩) 3 3, .slice (some ⟨B3, 0, none⟩) 1 1, .slice (some ⟨B4, 0, none⟩) 4 4], .int .i64 0, .agg #[.bool false, .int .i64 0, .int .i64 0, .int .i64 0, .int .u32 0, .int .u32 0, .int .i64 0], .agg #[.bool true, .int .i64 0, .int .i64 60, .int .i64 0, .int .i64 0, .int .u32 0, .int .u32 0, .int .i64 0]] W fun e w' => e = .returned (.tuple #[.int .i64 0, .bool false]) ∧ Below W.heap.size W w') := fun W hB => by
                  have := pmeet_any _ handP5 0 none (some ⟨0, 60, 0, 0, 0, 0, 0⟩) W (Fm4.out.lies.below hB) hand5_ok (by decide) (fun _ h => by cases h) (fun _ => h5tb3)
                  rw [show (if inB 0 0 (handP5.cars.length - 1) = true then meetO handP5 0 none (some ⟨0, 60, 0, 0, 0, 0, 0⟩) else none) = none by decide] at this
                  exact this
                have SS : Hid (∀ W, Below m4.heap.size m4 W → W.cell? ⟨I, 0, none⟩ = some (.slice (some ⟨B1, 0, none⟩) 1 1) ∧ W.cell? ⟨I, 1, none⟩ = some (.slice (some ⟨B2, 0, none⟩) 3 3) ∧ W.cell? ⟨I, 2, none⟩ = some (.slice (some ⟨B3, 0, none⟩) 1 1) ∧ W.cell? ⟨I, 3, none⟩ = some (.slice (some ⟨B4, 0, none⟩) 4 4) ∧ W.cell? ⟨gt, 24, none⟩ = some (.bool true) ∧ W.cell? ⟨gt, 25, none⟩ = some (.int .i64 0) ∧ W.cell? ⟨gt, 26, none⟩ = some (.int .i64 60) ∧ W.cell? ⟨gt, 27, none⟩ = some (.int .i64 0) ∧ W.cell? ⟨gt, 28, none⟩ = some (.int .i64 0) ∧ W.cell? ⟨gt, 29, none⟩ = some (.int .u32 0) ∧ W.cell? ⟨gt, 30, none⟩ = some (.int .u32 0) ∧ W.cell? ⟨gt, 31, none⟩ = some (.int .i64 0)) := fun W hB => by
                  have X := Fm4.out.on hB
                  obtain ⟨s0, s1, s2, s3⟩ := X.b
                  obtain ⟨v0, v1, v2, v3, v4, v5, v6, v7⟩ := X.t3
                  exact ⟨s0, s1, s2, s3, v0, v1, v2, v3, v4, v5, v6, v7⟩
                go_upto_region 15 with (fail)
                refine wp_region_z (S := (fun W => W.cell? ⟨I, 0, none⟩ = some (.slice (some ⟨B1, 0, none⟩) 1 1) ∧ W.cell? ⟨I, 1, none⟩ = some (.slice (some ⟨B2, 0, none⟩) 3 3) ∧ W.cell? ⟨I, 2, none⟩ = some (.slice (some ⟨B3, 0, none⟩) 1 1) ∧ W.cell? ⟨I, 3, none⟩ = some (.slice (some ⟨B4, 0, none⟩) 4 4) ∧ W.cell? ⟨gt, 24, none⟩ = some (.bool true) ∧ W.cell? ⟨gt, 25, none⟩ = some (.int .i64 0) ∧ W.cell? ⟨gt, 26, none⟩ = some (.int .i64 60) ∧ W.cell? ⟨gt, 27, none⟩ = some (.int .i64 0) ∧ W.cell? ⟨gt, 28, none⟩ = some (.int .i64 0) ∧ W.cell? ⟨gt, 29, none⟩ = some (.int .u32 0) ∧ W.cell? ⟨gt, 30, none⟩ = some (.int .u32 0) ∧ W.cell? ⟨gt, 31, none⟩ = some (.int .i64 0))) (z := 11) (by kernel_rfl) (SS.out _ (Below.refl m4.heap.size m4).drew) (fun hH => ?_)
                refine wpAnyZ_takeS (i := 0) (v := ?_) rfl (by kernel_rfl) (by kernel_rfl) (by kernel_rfl) (by kernel_rfl) (fun _ _ _ h => h) (gives_value (by rfl) ?_) (by assumption) ?_
                rotate_left
                · intro w hSw
                  (try dsimp only at hSw)
                  go_simp
                  (try with_reducible rfl)
                (try simp only [Act.put, List.getElem_toArray, List.getElem_cons_succ, List.getElem_cons_zero, List.setIfInBounds_toArray, List.set_cons_zero, List.set_cons_succ])
                refine wpAnyZ_takeS (i := 1) (v := ?_) rfl (by kernel_rfl) (by kernel_rfl) (by kernel_rfl) (by kernel_rfl) (fun _ _ _ h => h) (gives_value (by rfl) ?_) (by assumption) ?_
                rotate_left
                · intro w hSw
                  (try dsimp only at hSw)
                  go_simp
                  (try with_reducible rfl)
                (try simp only [Act.put, List.getElem_toArray, List.getElem_cons_succ, List.getElem_cons_zero, List.setIfInBounds_toArray, List.set_cons_zero, List.set_cons_succ])
                refine wpAnyZ_takeS (i := 2) (v := ?_) rfl (by kernel_rfl) (by kernel_rfl) (by kernel_rfl) (by kernel_rfl) (fun _ _ _ h => h) (gives_value (by rfl) ?_) (by assumption) ?_
                rotate_left
                · intro w hSw
                  (try dsimp only at hSw)
                  go_simp
                  (try with_reducible rfl)
                (try simp only [Act.put, List.getElem_toArray, List.getElem_cons_succ, List.getElem_cons_zero, List.setIfInBounds_toArray, List.set_cons_zero, List.set_cons_succ])
                refine wpAnyZ_takeS (i := 3) (v := ?_) rfl (by kernel_rfl) (by kernel_rfl) (by kernel_rfl) (by kernel_rfl) (fun _ _ _ h => h) (gives_value (by rfl) ?_) (by assumption) ?_
                rotate_left
                · intro w hSw
                  (try dsimp only at hSw)
                  go_simp
                  (try with_reducible rfl)
                (try simp only [Act.put, List.getElem_toArray, List.getElem_cons_succ, List.getElem_cons_zero, List.setIfInBounds_toArray, List.set_cons_zero, List.set_cons_succ])
                refine wpAnyZ_takeS (i := 4) (v := ?_) rfl (by kernel_rfl) (by kernel_rfl) (by kernel_rfl) (by kernel_rfl) (fun _ _ _ h => h) (gives_value (by rfl) ?_) (by assumption) ?_
                rotate_left
                · intro w hSw
                  (try dsimp only at hSw)
                  go_simp
                  (try with_reducible rfl)
                (try simp only [Act.put, List.getElem_toArray, List.getElem_cons_succ, List.getElem_cons_zero, List.setIfInBounds_toArray, List.set_cons_zero, List.set_cons_succ])
                refine wpAnyZ_one (i := 5) (by kernel_rfl) ?_
                refine zstep rfl (fun K hK => ?_)
                go_simp
                (with_reducible refine (KM.out _ (Below.refl m4.heap.size m4).drew).mono ?_)
                rintro e m5 ⟨rfl, hb⟩
                have HBm5 := Lib.hid (((Below.refl m4.heap.size m4).drew).trans hb)
                clear hb
                refine hK.out _ _ (fun _ => SS.out _ HBm5.out) (fun hH => ?_)
                replace hH := hH (by decide)
                clear hK K
                (try simp only [Act.put, List.getElem_toArray, List.getElem_cons_succ, List.getElem_cons_zero, List.setIfInBounds_toArray, List.set_cons_zero, List.set_cons_succ])
                refine wpAnyZ_takeS (i := 6) (v := ?_) rfl (by kernel_rfl) (by kernel_rfl) (by kernel_rfl) (by kernel_rfl) (fun _ _ _ h => h) (gives_value (by rfl) ?_) (by assumption) ?_
                rotate_left
                · intro w hSw
                  (try dsimp only at hSw)
                  go_simp
                  (try with_reducible rfl)
                (try simp only [Act.put, List.getElem_toArray, List.getElem_cons_succ, List.getElem_cons_zero, List.setIfInBounds_toArray, List.set_cons_zero, List.set_cons_succ])
                refine wpAnyZ_takeS (i := 7) (v := ?_) rfl (by kernel_rfl) (by kernel_rfl) (by kernel_rfl) (by kernel_rfl) (fun _ _ _ h => h) (gives_value (by rfl) ?_) (by assumption) ?_
                rotate_left
                · intro w hSw
                  (try dsimp only at hSw)
                  go_simp
                  (try with_reducible rfl)
                (try simp only [Act.put, List.getElem_toArray, List.getElem_cons_succ, List.getElem_cons_zero, List.setIfInBounds_toArray, List.set_cons_zero, List.set_cons_succ])
                refine wpAnyZ_takeS (i := 8) (v := ?_) rfl (by kernel_rfl) (by kernel_rfl) (by kernel_rfl) (by kernel_rfl) (fun _ _ _ h => h) (gives_value (by rfl) ?_) (by assumption) ?_
                rotate_left
                · intro w hSw
                  (try dsimp only at hSw)
                  go_simp
                  (try with_reducible rfl)
                (try simp only [Act.put, List.getElem_toArray, List.getElem_cons_succ, List.getElem_cons_zero, List.setIfInBounds_toArray, List.set_cons_zero, List.set_cons_succ])
                refine wpAnyZ_takeS (i := 9) (v := ?_) rfl (by kernel_rfl) (by kernel_rfl) (by kernel_rfl) (by kernel_rfl) (fun _ _ _ h => h) (gives_value (by rfl) ?_) (by assumption) ?_
                rotate_left
                · intro w hSw
                  (try dsimp only at hSw)
                  go_simp
                  (try with_reducible rfl)
                (try simp only [Act.put, List.getElem_toArray, List.getElem_cons_succ, List.getElem_cons_zero, List.setIfInBounds_toArray, List.set_cons_zero, List.set_cons_succ])
                refine wpAnyZ_takeS (i := 10) (v := ?_) rfl (by kernel_rfl) (by kernel_rfl) (by kernel_rfl) (by kernel_rfl) (fun _ _ _ h => h) (gives_value (by rfl) ?_) (by assumption) ?_
                rotate_left
                · intro w hSw
                  (try dsimp only at hSw)
                  go_simp
                  (try with_reducible rfl)
                (try simp only [Act.put, List.getElem_toArray, List.getElem_cons_succ, List.getElem_cons_zero, List.setIfInBounds_toArray, List.set_cons_zero, List.set_cons_succ])
                refine wpAnyZ_done (by kernel_rfl) ?_ _
                have Fm5 := Lib.hid (Fm4.out.on HBm5.out)
                clear hH SS KM HBm5 Fm4
                as_aux_lemma =>
                  have no1 : inB (1 + (q : Int)) 0 (handP5.cars.length - 1) = false := inB_no.2 (.inr (by simp [handP5]; omega))
                  have no2 : inB (-(1 + (q : Int))) 0 (handP5.cars.length - 1) = false := inB_no.2 (.inl (by omega))
                  have no3 : inB (3 + (1 + (q : Int))) 1 handP5.stops.length = false := inB_no.2 (.inr (by simp [handP5]; omega))
                  have no4 : inB (-(1 + (q : Int))) 1 handP5.stops.length = false := inB_no.2 (.inl (by omega))
                  have K1 : Hid (∀ W, Below m5.heap.size m5 W → Calls Try.prog 14 #[.agg #[.slice (some ⟨B1, 0, none⟩) 1 1, .slice (some ⟨B2, 0, none⟩) 3 3, .slice (some ⟨B3, 0, none⟩) 1 1, .slice (some ⟨B4, 0, none⟩) 4 4], .int .i64 (1 + (q : Int))] W fun e w' => e = .returned (.agg #[.bool false, .int .i64 0, .int .i64 0, .int .i64 0, .int .u32 0, .int .u32 0, .int .i64 0]) ∧ Below W.heap.size W w') := fun W hB => by
                    have := pbegin_any _ handP5 (1 + (q : Int)) W (Fm5.out.lies.below hB) hand5_ok (by decide)
                    rw [if_neg (by rw [no1]; simp)] at this; exact this
                  have K2 : Hid (∀ W, Below m5.heap.size m5 W → Calls Try.prog 15 #[.agg #[.slice (some ⟨B1, 0, none⟩) 1 1, .slice (some ⟨B2, 0, none⟩) 3 3, .slice (some ⟨B3, 0, none⟩) 1 1, .slice (some ⟨B4, 0, none⟩) 4 4], .int .i64 (-(1 + (q : Int)))] W fun e w' => e = .returned (.agg #[.bool false, .int .i64 0, .int .i64 0, .int .i64 0, .int .i64 0, .int .u32 0, .int .u32 0, .int .i64 0]) ∧ Below W.heap.size W w') := fun W hB => by
                    have := pend_any _ handP5 (-(1 + (q : Int))) W (Fm5.out.lies.below hB) hand5_ok (by decide)
                    rw [if_neg (by rw [no2]; simp)] at this; exact this
                  have K3 : Hid (∀ W, Below m5.heap.size m5 W → Calls Try.prog 16 #[.agg #[.slice (some ⟨B1, 0, none⟩) 1 1, .slice (some ⟨B2, 0, none⟩) 3 3, .slice (some ⟨B3, 0, none⟩) 1 1, .slice (some ⟨B4, 0, none⟩) 4 4], .int .i64 0, .agg #[.bool true, .int .i64 0, .int .i64 10, .int .i64 0, .int .u32 0, .int .u32 0, .int .i64 0], .int .i64 (3 + (1 + (q : Int)))] W fun e w' => e = .returned (.agg #[.bool false, .int .i64 0, .int .i64 0, .int .i64 0, .int .u32 0, .int .u32 0, .int .i64 0]) ∧ Below W.heap.size W w') := fun W hB => by
                    have := pextend_any _ handP5 0 (some ⟨0, 10, 0, 0, 0, 0⟩) (3 + (1 + (q : Int))) W (Fm5.out.lies.below hB) hand5_ok (by decide) h5hb0
                    rw [if_pos h5car, show (some (⟨0, 10, 0, 0, 0, 0⟩ : HeadP)).bind (fun h => extendP handP5 0 h (3 + (1 + (q : Int)))) = none from if_neg (fun e => by have := e.1; rw [no3] at this; cases this)] at this
                    exact this
                  have K4 : Hid (∀ W, Below m5.heap.size m5 W → Calls Try.prog 16 #[.agg #[.slice (some ⟨B1, 0, none⟩) 1 1, .slice (some ⟨B2, 0, none⟩) 3 3, .slice (some ⟨B3, 0, none⟩) 1 1, .slice (some ⟨B4, 0, none⟩) 4 4], .int .i64 0, .agg #[.bool true, .int .i64 1, .int .i64 16, .int .i64 3, .int .u32 0, .int .u32 2, .int .i64 4], .int .i64 1] W fun e w' => e = .returned (.agg #[.bool false, .int .i64 0, .int .i64 0, .int .i64 0, .int .u32 0, .int .u32 0, .int .i64 0]) ∧ Below W.heap.size W w') := fun W hB => by
                    have := pextend_any _ handP5 0 (some ⟨1, 16, 3, 0, 2, 4⟩) 1 W (Fm5.out.lies.below hB) hand5_ok (by decide) h5hb1
                    rw [show (if inB 0 0 (handP5.cars.length - 1) = true then (some (⟨1, 16, 3, 0, 2, 4⟩ : HeadP)).bind (fun h => extendP handP5 0 h 1) else none) = none by decide] at this
                    exact this
                  have K5 : Hid (∀ W, Below m5.heap.size m5 W → Calls Try.prog 16 #[.agg #[.slice (some ⟨B1, 0, none⟩) 1 1, .slice (some ⟨B2, 0, none⟩) 3 3, .slice (some ⟨B3, 0, none⟩) 1 1, .slice (some ⟨B4, 0, none⟩) 4 4], .int .i64 0, .agg #[.bool true, .int .i64 0, .int .i64 10, .int .i64 0, .int .u32 0, .int .u32 0, .int .i64 0], .int .i64 3] W fun e w' => e = .returned (.agg #[.bool false, .int .i64 0, .int .i64 0, .int .i64 0, .int .u32 0, .int .u32 0, .int .i64 0]) ∧ Below W.heap.size W w') := fun W hB => by
                    have := pextend_any _ handP5 0 (some ⟨0, 10, 0, 0, 0, 0⟩) 3 W (Fm5.out.lies.below hB) hand5_ok (by decide) h5hb0
                    rw [show (if inB 0 0 (handP5.cars.length - 1) = true then (some (⟨0, 10, 0, 0, 0, 0⟩ : HeadP)).bind (fun h => extendP handP5 0 h 3) else none) = none by decide] at this
                    exact this
                  have K6 : Hid (∀ W, Below m5.heap.size m5 W → Calls Try.prog 17 #[.agg #[.slice (some ⟨B1, 0, none⟩) 1 1, .slice (some ⟨B2, 0, none⟩) 3 3, .slice (some ⟨B3, 0, none⟩) 1 1, .slice (some ⟨B4, 0, none⟩) 4 4], .int .i64 0, .int .i64 2, .agg #[.bool true, .int .i64 0, .int .i64 60, .int .i64 0, .int .i64 0, .int .u32 0, .int .u32 0, .int .i64 0]] W fun e w' => e = .returned (.agg #[.bool false, .int .i64 0, .int .i64 0, .int .i64 0, .int .i64 0, .int .u32 0, .int .u32 0, .int .i64 0]) ∧ Below W.heap.size W w') := fun W hB => by
                    have := pbefore_any _ handP5 0 (some ⟨0, 60, 0, 0, 0, 0, 0⟩) 2 W (Fm5.out.lies.below hB) hand5_ok (by decide) (fun _ => h5tb3)
                    rw [show (if inB 0 0 (handP5.cars.length - 1) = true then (some (⟨0, 60, 0, 0, 0, 0, 0⟩ : TailP)).bind (fun t => beforeP handP5 2 t) else none) = none by decide] at this
                    exact this
                  have K7 : Hid (∀ W, Below m5.heap.size m5 W → Calls Try.prog 17 #[.agg #[.slice (some ⟨B1, 0, none⟩) 1 1, .slice (some ⟨B2, 0, none⟩) 3 3, .slice (some ⟨B3, 0, none⟩) 1 1, .slice (some ⟨B4, 0, none⟩) 4 4], .int .i64 0, .int .i64 (-(1 + (q : Int))), .agg #[.bool true, .int .i64 0, .int .i64 60, .int .i64 0, .int .i64 0, .int .u32 0, .int .u32 0, .int .i64 0]] W fun e w' => e = .returned (.agg #[.bool false, .int .i64 0, .int .i64 0, .int .i64 0, .int .i64 0, .int .u32 0, .int .u32 0, .int .i64 0]) ∧ Below W.heap.size W w') := fun W hB => by
                    have := pbefore_any _ handP5 0 (some ⟨0, 60, 0, 0, 0, 0, 0⟩) (-(1 + (q : Int))) W (Fm5.out.lies.below hB) hand5_ok (by decide) (fun _ => h5tb3)
                    rw [if_pos h5car, show (some (⟨0, 60, 0, 0, 0, 0, 0⟩ : TailP)).bind (fun t => beforeP handP5 (-(1 + (q : Int))) t) = none from if_neg (fun e => by have := e.1; rw [no4] at this; cases this)] at this
                    exact this
                  have K8 : Hid (∀ (B : Nat) (W : World), Below m5.heap.size m5 W → Calls Try.prog 10 #[.agg #[.slice (some ⟨B1, 0, none⟩) 1 1, .slice (some ⟨B2, 0, none⟩) 3 3, .slice (some ⟨B3, 0, none⟩) 1 1, .slice (some ⟨B4, 0, none⟩) 4 4], .int .i64 (1 + (q : Int)), .slice (some ⟨B, 0, none⟩) 1 1] W fun e w' => e = .returned (.slice none 0 0) ∧ Below W.heap.size W w') := fun B W hB => pheads_no _ _ handP5 (1 + (q : Int)) W (Fm5.out.lies.below hB) hand5_ok (by decide) no1
                  have hw2 : IntKind.i64.wrap (-(1 + (q : Int))) = -(1 + (q : Int)) := IntWalk.i64_in _ (by omega)
                  have hw3 : IntKind.i64.wrap (3 + (1 + (q : Int))) = 3 + (1 + (q : Int)) := IntWalk.i64_in _ (by omega)
                  clear no1 no2 no3 no4
                  have SS : Hid (∀ W, Below m5.heap.size m5 W → W.cell? ⟨I, 0, none⟩ = some (.slice (some ⟨B1, 0, none⟩) 1 1) ∧ W.cell? ⟨I, 1, none⟩ = some (.slice (some ⟨B2, 0, none⟩) 3 3) ∧ W.cell? ⟨I, 2, none⟩ = some (.slice (some ⟨B3, 0, none⟩) 1 1) ∧ W.cell? ⟨I, 3, none⟩ = some (.slice (some ⟨B4, 0, none⟩) 4 4) ∧ W.cell? ⟨gh, 0, none⟩ = some (.bool true) ∧ W.cell? ⟨gh, 1, none⟩ = some (.int .i64 0) ∧ W.cell? ⟨gh, 2, none⟩ = some (.int .i64 10) ∧ W.cell? ⟨gh, 3, none⟩ = some (.int .i64 0) ∧ W.cell? ⟨gh, 4, none⟩ = some (.int .u32 0) ∧ W.cell? ⟨gh, 5, none⟩ = some (.int .u32 0) ∧ W.cell? ⟨gh, 6, none⟩ = some (.int .i64 0) ∧ W.cell? ⟨gh, 7, none⟩ = some (.bool true) ∧ W.cell? ⟨gh, 8, none⟩ = some (.int .i64 1) ∧ W.cell? ⟨gh, 9, none⟩ = some (.int .i64 16) ∧ W.cell? ⟨gh, 10, none⟩ = some (.int .i64 3) ∧ W.cell? ⟨gh, 11, none⟩ = some (.int .u32 0) ∧ W.cell? ⟨gh, 12, none⟩ = some (.int .u32 2) ∧ W.cell? ⟨gh, 13, none⟩ = some (.int .i64 4) ∧ W.cell? ⟨gt, 24, none⟩ = some (.bool true) ∧ W.cell? ⟨gt, 25, none⟩ = some (.int .i64 0) ∧ W.cell? ⟨gt, 26, none⟩ = some (.int .i64 60) ∧ W.cell? ⟨gt, 27, none⟩ = some (.int .i64 0) ∧ W.cell? ⟨gt, 28, none⟩ = some (.int .i64 0) ∧ W.cell? ⟨gt, 29, none⟩ = some (.int .u32 0) ∧ W.cell? ⟨gt, 30, none⟩ = some (.int .u32 0) ∧ W.cell? ⟨gt, 31, none⟩ = some (.int .i64 0)) := fun W hB => by
                    have X := Fm5.out.on hB
                    obtain ⟨s0, s1, s2, s3⟩ := X.b
                    obtain ⟨u0, u1, u2, u3, u4, u5, u6⟩ := X.h0
                    obtain ⟨x0, x1, x2, x3, x4, x5, x6⟩ := X.h1
                    obtain ⟨v0, v1, v2, v3, v4, v5, v6, v7⟩ := X.t3
                    exact ⟨s0, s1, s2, s3, u0, u1, u2, u3, u4, u5, u6, x0, x1, x2, x3, x4, x5, x6, v0, v1, v2, v3, v4, v5, v6, v7⟩
                  go_upto_region 16 with (fail)
                  simp only [List.append_eq, List.cons_append, List.nil_append]
                  refine wp_region_z (S := (fun W => W.cell? ⟨I, 0, none⟩ = some (.slice (some ⟨B1, 0, none⟩) 1 1) ∧ W.cell? ⟨I, 1, none⟩ = some (.slice (some ⟨B2, 0, none⟩) 3 3) ∧ W.cell? ⟨I, 2, none⟩ = some (.slice (some ⟨B3, 0, none⟩) 1 1) ∧ W.cell? ⟨I, 3, none⟩ = some (.slice (some ⟨B4, 0, none⟩) 4 4) ∧ W.cell? ⟨gh, 0, none⟩ = some (.bool true) ∧ W.cell? ⟨gh, 1, none⟩ = some (.int .i64 0) ∧ W.cell? ⟨gh, 2, none⟩ = some (.int .i64 10) ∧ W.cell? ⟨gh, 3, none⟩ = some (.int .i64 0) ∧ W.cell? ⟨gh, 4, none⟩ = some (.int .u32 0) ∧ W.cell? ⟨gh, 5, none⟩ = some (.int .u32 0) ∧ W.cell? ⟨gh, 6, none⟩ = some (.int .i64 0) ∧ W.cell? ⟨gh, 7, none⟩ = some (.bool true) ∧ W.cell? ⟨gh, 8, none⟩ = some (.int .i64 1) ∧ W.cell? ⟨gh, 9, none⟩ = some (.int .i64 16) ∧ W.cell? ⟨gh, 10, none⟩ = some (.int .i64 3) ∧ W.cell? ⟨gh, 11, none⟩ = some (.int .u32 0) ∧ W.cell? ⟨gh, 12, none⟩ = some (.int .u32 2) ∧ W.cell? ⟨gh, 13, none⟩ = some (.int .i64 4) ∧ W.cell? ⟨gt, 24, none⟩ = some (.bool true) ∧ W.cell? ⟨gt, 25, none⟩ = some (.int .i64 0) ∧ W.cell? ⟨gt, 26, none⟩ = some (.int .i64 60) ∧ W.cell? ⟨gt, 27, none⟩ = some (.int .i64 0) ∧ W.cell? ⟨gt, 28, none⟩ = some (.int .i64 0) ∧ W.cell? ⟨gt, 29, none⟩ = some (.int .u32 0) ∧ W.cell? ⟨gt, 30, none⟩ = some (.int .u32 0) ∧ W.cell? ⟨gt, 31, none⟩ = some (.int .i64 0))) (z := 101) (by kernel_rfl) (SS.out _ (Below.refl m5.heap.size m5).drew) (fun hH => ?_)
                  refine wpAnyZ_takeS (i := 0) (v := ?_) rfl (by kernel_rfl) (by kernel_rfl) (by kernel_rfl) (by kernel_rfl) (fun _ _ _ h => h) (gives_value (by rfl) ?_) (by assumption) ?_
                  rotate_left
                  · intro w hSw
                    (try dsimp only at hSw)
                    go_simp
                    (try with_reducible rfl)
                  (try simp only [Act.put, List.getElem_toArray, List.getElem_cons_succ, List.getElem_cons_zero, List.setIfInBounds_toArray, List.set_cons_zero, List.set_cons_succ])
                  refine wpAnyZ_takeS (i := 1) (v := ?_) rfl (by kernel_rfl) (by kernel_rfl) (by kernel_rfl) (by kernel_rfl) (fun _ _ _ h => h) (gives_value (by rfl) ?_) (by assumption) ?_
                  rotate_left
                  · intro w hSw
                    (try dsimp only at hSw)
                    go_simp
                    (try with_reducible rfl)
                  (try simp only [Act.put, List.getElem_toArray, List.getElem_cons_succ, List.getElem_cons_zero, List.setIfInBounds_toArray, List.set_cons_zero, List.set_cons_succ])
                  refine wpAnyZ_takeS (i := 2) (v := ?_) rfl (by kernel_rfl) (by kernel_rfl) (by kernel_rfl) (by kernel_rfl) (fun _ _ _ h => h) (gives_value (by rfl) ?_) (by assumption) ?_
                  rotate_left
                  · intro w hSw
                    (try dsimp only at hSw)
                    go_simp
                    (try with_reducible rfl)
                  (try simp only [Act.put, List.getElem_toArray, List.getElem_cons_succ, List.getElem_cons_zero, List.setIfInBounds_toArray, List.set_cons_zero, List.set_cons_succ])
                  refine wpAnyZ_takeS (i := 3) (v := ?_) rfl (by kernel_rfl) (by kernel_rfl) (by kernel_rfl) (by kernel_rfl) (fun _ _ _ h => h) (gives_value (by rfl) ?_) (by assumption) ?_
                  rotate_left
                  · intro w hSw
                    (try dsimp only at hSw)
                    go_simp
                    (try with_reducible rfl)
                  (try simp only [Act.put, List.getElem_toArray, List.getElem_cons_succ, List.getElem_cons_zero, List.setIfInBounds_toArray, List.set_cons_zero, List.set_cons_succ])
                  refine wpAnyZ_takeS (i := 4) (v := ?_) rfl (by kernel_rfl) (by kernel_rfl) (by kernel_rfl) (by kernel_rfl) (fun _ _ _ h => h) (gives_value (by rfl) ?_) (by assumption) ?_
                  rotate_left
                  · intro w hSw
                    (try dsimp only at hSw)
                    go_simp
                    (try with_reducible rfl)
                  (try simp only [Act.put, List.getElem_toArray, List.getElem_cons_succ, List.getElem_cons_zero, List.setIfInBounds_toArray, List.set_cons_zero, List.set_cons_succ])
                  refine wpAnyZ_takeS (i := 5) (v := ?_) rfl (by kernel_rfl) (by kernel_rfl) (by kernel_rfl) (by kernel_rfl) (fun _ _ _ h => h) (gives_value (by rfl) ?_) (by assumption) ?_
                  rotate_left
                  · intro w hSw
                    (try dsimp only at hSw)
                    go_simp
                    (try with_reducible rfl)
                  (try simp only [Act.put, List.getElem_toArray, List.getElem_cons_succ, List.getElem_cons_zero, List.setIfInBounds_toArray, List.set_cons_zero, List.set_cons_succ])
                  refine wpAnyZ_takeS (i := 6) (v := ?_) rfl (by kernel_rfl) (by kernel_rfl) (by kernel_rfl) (by kernel_rfl) (fun _ _ _ h => h) (gives_value (by rfl) ?_) (by assumption) ?_
                  rotate_left
                  · intro w hSw
                    (try dsimp only at hSw)
                    go_simp
                    (try with_reducible rfl)
                  (try simp only [Act.put, List.getElem_toArray, List.getElem_cons_succ, List.getElem_cons_zero, List.setIfInBounds_toArray, List.set_cons_zero, List.set_cons_succ])
                  refine wpAnyZ_takeS (i := 7) (v := ?_) rfl (by kernel_rfl) (by kernel_rfl) (by kernel_rfl) (by kernel_rfl) (fun _ _ _ h => h) (gives_value (by rfl) ?_) (by assumption) ?_
                  rotate_left
                  · intro w hSw
                    (try dsimp only at hSw)
                    go_simp
                    (try with_reducible rfl)
                  (try simp only [Act.put, List.getElem_toArray, List.getElem_cons_succ, List.getElem_cons_zero, List.setIfInBounds_toArray, List.set_cons_zero, List.set_cons_succ])
                  refine wpAnyZ_takeS (i := 8) (v := ?_) rfl (by kernel_rfl) (by kernel_rfl) (by kernel_rfl) (by kernel_rfl) (fun _ _ _ h => h) (gives_value (by rfl) ?_) (by assumption) ?_
                  rotate_left
                  · intro w hSw
                    (try dsimp only at hSw)
                    go_simp
                    (try with_reducible rfl)
                  (try simp only [Act.put, List.getElem_toArray, List.getElem_cons_succ, List.getElem_cons_zero, List.setIfInBounds_toArray, List.set_cons_zero, List.set_cons_succ])
                  refine wpAnyZ_takeS (i := 9) (v := ?_) rfl (by kernel_rfl) (by kernel_rfl) (by kernel_rfl) (by kernel_rfl) (fun _ _ _ h => h) (gives_value (by rfl) ?_) (by assumption) ?_
                  rotate_left
                  · intro w hSw
                    (try dsimp only at hSw)
                    go_simp
                    (try with_reducible rfl)
                  (try simp only [Act.put, List.getElem_toArray, List.getElem_cons_succ, List.getElem_cons_zero, List.setIfInBounds_toArray, List.set_cons_zero, List.set_cons_succ])
                  refine wpAnyZ_takeS (i := 10) (v := ?_) rfl (by kernel_rfl) (by kernel_rfl) (by kernel_rfl) (by kernel_rfl) (fun _ _ _ h => h) (gives_value (by rfl) ?_) (by assumption) ?_
                  rotate_left
                  · intro w hSw
                    (try dsimp only at hSw)
                    go_simp
                    (try with_reducible rfl)
                  (try simp only [Act.put, List.getElem_toArray, List.getElem_cons_succ, List.getElem_cons_zero, List.setIfInBounds_toArray, List.set_cons_zero, List.set_cons_succ])
                  refine wpAnyZ_takeS (i := 11) (v := ?_) rfl (by kernel_rfl) (by kernel_rfl) (by kernel_rfl) (by kernel_rfl) (fun _ _ _ h => h) (gives_value (by rfl) ?_) (by assumption) ?_
                  rotate_left
                  · intro w hSw
                    (try dsimp only at hSw)
                    go_simp
                    (try with_reducible rfl)
                  (try simp only [Act.put, List.getElem_toArray, List.getElem_cons_succ, List.getElem_cons_zero, List.setIfInBounds_toArray, List.set_cons_zero, List.set_cons_succ])
                  refine wpAnyZ_takeS (i := 12) (v := ?_) rfl (by kernel_rfl) (by kernel_rfl) (by kernel_rfl) (by kernel_rfl) (fun _ _ _ h => h) (gives_value (by rfl) ?_) (by assumption) ?_
                  rotate_left
                  · intro w hSw
                    (try dsimp only at hSw)
                    go_simp
                    (try with_reducible rfl)
                  (try simp only [Act.put, List.getElem_toArray, List.getElem_cons_succ, List.getElem_cons_zero, List.setIfInBounds_toArray, List.set_cons_zero, List.set_cons_succ])
                  refine wpAnyZ_takeS (i := 13) (v := ?_) rfl (by kernel_rfl) (by kernel_rfl) (by kernel_rfl) (by kernel_rfl) (fun _ _ _ h => h) (gives_value (by rfl) ?_) (by assumption) ?_
                  rotate_left
                  · intro w hSw
                    (try dsimp only at hSw)
                    go_simp
                    (try with_reducible rfl)
                  (try simp only [Act.put, List.getElem_toArray, List.getElem_cons_succ, List.getElem_cons_zero, List.setIfInBounds_toArray, List.set_cons_zero, List.set_cons_succ])
                  refine wpAnyZ_takeS (i := 14) (v := ?_) rfl (by kernel_rfl) (by kernel_rfl) (by kernel_rfl) (by kernel_rfl) (fun _ _ _ h => h) (gives_value (by rfl) ?_) (by assumption) ?_
                  rotate_left
                  · intro w hSw
                    (try dsimp only at hSw)
                    go_simp
                    (try with_reducible rfl)
                  (try simp only [Act.put, List.getElem_toArray, List.getElem_cons_succ, List.getElem_cons_zero, List.setIfInBounds_toArray, List.set_cons_zero, List.set_cons_succ])
                  refine wpAnyZ_takeS (i := 15) (v := ?_) rfl (by kernel_rfl) (by kernel_rfl) (by kernel_rfl) (by kernel_rfl) (fun _ _ _ h => h) (gives_value (by rfl) ?_) (by assumption) ?_
                  rotate_left
                  · intro w hSw
                    (try dsimp only at hSw)
                    go_simp
                    (try with_reducible rfl)
                  (try simp only [Act.put, List.getElem_toArray, List.getElem_cons_succ, List.getElem_cons_zero, List.setIfInBounds_toArray, List.set_cons_zero, List.set_cons_succ])
                  refine wpAnyZ_takeS (i := 16) (v := ?_) rfl (by kernel_rfl) (by kernel_rfl) (by kernel_rfl) (by kernel_rfl) (fun _ _ _ h => h) (gives_value (by rfl) ?_) (by assumption) ?_
                  rotate_left
                  · intro w hSw
                    (try dsimp only at hSw)
                    go_simp
                    (try with_reducible rfl)
                  (try simp only [Act.put, List.getElem_toArray, List.getElem_cons_succ, List.getElem_cons_zero, List.setIfInBounds_toArray, List.set_cons_zero, List.set_cons_succ])
                  refine wpAnyZ_takeS (i := 17) (v := ?_) rfl (by kernel_rfl) (by kernel_rfl) (by kernel_rfl) (by kernel_rfl) (fun _ _ _ h => h) (gives_value (by rfl) ?_) (by assumption) ?_
                  rotate_left
                  · intro w hSw
                    (try dsimp only at hSw)
                    go_simp
                    (try with_reducible rfl)
                  (try simp only [Act.put, List.getElem_toArray, List.getElem_cons_succ, List.getElem_cons_zero, List.setIfInBounds_toArray, List.set_cons_zero, List.set_cons_succ])
                  refine wpAnyZ_takeS (i := 18) (v := ?_) rfl (by kernel_rfl) (by kernel_rfl) (by kernel_rfl) (by kernel_rfl) (fun _ _ _ h => h) (gives_value (by rfl) ?_) (by assumption) ?_
                  rotate_left
                  · intro w hSw
                    (try dsimp only at hSw)
                    go_simp
                    (try with_reducible rfl)
                  (try simp only [Act.put, List.getElem_toArray, List.getElem_cons_succ, List.getElem_cons_zero, List.setIfInBounds_toArray, List.set_cons_zero, List.set_cons_succ])
                  refine wpAnyZ_takeS (i := 19) (v := ?_) rfl (by kernel_rfl) (by kernel_rfl) (by kernel_rfl) (by kernel_rfl) (fun _ _ _ h => h) (gives_value (by rfl) ?_) (by assumption) ?_
                  rotate_left
                  · intro w hSw
                    (try dsimp only at hSw)
                    go_simp
                    (try with_reducible rfl)
                  (try simp only [Act.put, List.getElem_toArray, List.getElem_cons_succ, List.getElem_cons_zero, List.setIfInBounds_toArray, List.set_cons_zero, List.set_cons_succ])
                  refine wpAnyZ_takeS (i := 20) (v := ?_) rfl (by kernel_rfl) (by kernel_rfl) (by kernel_rfl) (by kernel_rfl) (fun _ _ _ h => h) (gives_value (by rfl) ?_) (by assumption) ?_
                  rotate_left
                  · intro w hSw
                    (try dsimp only at hSw)
                    go_simp
                    (try with_reducible rfl)
                  (try simp only [Act.put, List.getElem_toArray, List.getElem_cons_succ, List.getElem_cons_zero, List.setIfInBounds_toArray, List.set_cons_zero, List.set_cons_succ])
                  refine wpAnyZ_takeS (i := 21) (v := ?_) rfl (by kernel_rfl) (by kernel_rfl) (by kernel_rfl) (by kernel_rfl) (fun _ _ _ h => h) (gives_value (by rfl) ?_) (by assumption) ?_
                  rotate_left
                  · intro w hSw
                    (try dsimp only at hSw)
                    go_simp
                    (try with_reducible rfl)
                  (try simp only [Act.put, List.getElem_toArray, List.getElem_cons_succ, List.getElem_cons_zero, List.setIfInBounds_toArray, List.set_cons_zero, List.set_cons_succ])
                  refine wpAnyZ_takeS (i := 22) (v := ?_) rfl (by kernel_rfl) (by kernel_rfl) (by kernel_rfl) (by kernel_rfl) (fun _ _ _ h => h) (gives_value (by rfl) ?_) (by assumption) ?_
                  rotate_left
                  · intro w hSw
                    (try dsimp only at hSw)
                    go_simp
                    (try with_reducible rfl)
                  (try simp only [Act.put, List.getElem_toArray, List.getElem_cons_succ, List.getElem_cons_zero, List.setIfInBounds_toArray, List.set_cons_zero, List.set_cons_succ])
                  refine wpAnyZ_takeS (i := 23) (v := ?_) rfl (by kernel_rfl) (by kernel_rfl) (by kernel_rfl) (by kernel_rfl) (fun _ _ _ h => h) (gives_value (by rfl) ?_) (by assumption) ?_
                  rotate_left
                  · intro w hSw
                    (try dsimp only at hSw)
                    go_simp
                    (try with_reducible rfl)
                  (try simp only [Act.put, List.getElem_toArray, List.getElem_cons_succ, List.getElem_cons_zero, List.setIfInBounds_toArray, List.set_cons_zero, List.set_cons_succ])
                  refine wpAnyZ_takeS (i := 24) (v := ?_) rfl (by kernel_rfl) (by kernel_rfl) (by kernel_rfl) (by kernel_rfl) (fun _ _ _ h => h) (gives_value (by rfl) ?_) (by assumption) ?_
                  rotate_left
                  · intro w hSw
                    (try dsimp only at hSw)
                    go_simp
                    (try with_reducible rfl)
                  (try simp only [Act.put, List.getElem_toArray, List.getElem_cons_succ, List.getElem_cons_zero, List.setIfInBounds_toArray, List.set_cons_zero, List.set_cons_succ])
                  refine wpAnyZ_takeS (i := 25) (v := ?_) rfl (by kernel_rfl) (by kernel_rfl) (by kernel_rfl) (by kernel_rfl) (fun _ _ _ h => h) (gives_value (by rfl) ?_) (by assumption) ?_
                  rotate_left
                  · intro w hSw
                    (try dsimp only at hSw)
                    go_simp
                    (try with_reducible rfl)
                  (try simp only [Act.put, List.getElem_toArray, List.getElem_cons_succ, List.getElem_cons_zero, List.setIfInBounds_toArray, List.set_cons_zero, List.set_cons_succ])
                  refine wpAnyZ_takeS (i := 26) (v := ?_) rfl (by kernel_rfl) (by kernel_rfl) (by kernel_rfl) (by kernel_rfl) (fun _ _ _ h => h) (gives_value (by rfl) ?_) (by assumption) ?_
                  rotate_left
                  · intro w hSw
                    (try dsimp only at hSw)
                    go_simp
                    (try with_reducible rfl)
                  (try simp only [Act.put, List.getElem_toArray, List.getElem_cons_succ, List.getElem_cons_zero, List.setIfInBounds_toArray, List.set_cons_zero, List.set_cons_succ])
                  refine wpAnyZ_takeS (i := 27) (v := ?_) rfl (by kernel_rfl) (by kernel_rfl) (by kernel_rfl) (by kernel_rfl) (fun _ _ _ h => h) (gives_value (by rfl) ?_) (by assumption) ?_
                  rotate_left
                  · intro w hSw
                    (try dsimp only at hSw)
                    go_simp
                    (try with_reducible rfl)
                  (try simp only [Act.put, List.getElem_toArray, List.getElem_cons_succ, List.getElem_cons_zero, List.setIfInBounds_toArray, List.set_cons_zero, List.set_cons_succ])
                  refine wpAnyZ_takeS (i := 29) (v := ?_) rfl (by kernel_rfl) (by kernel_rfl) (by kernel_rfl) (by kernel_rfl) (fun _ _ _ h => h) (gives_value (by rfl) ?_) (by assumption) ?_
                  rotate_left
                  · intro w hSw
                    (try dsimp only at hSw)
                    go_simp
                    (try with_reducible rfl)
                  (try simp only [Act.put, List.getElem_toArray, List.getElem_cons_succ, List.getElem_cons_zero, List.setIfInBounds_toArray, List.set_cons_zero, List.set_cons_succ])
                  refine wpAnyZ_one (i := 28) (by kernel_rfl) ?_
                  refine zstep rfl (fun K hK => ?_)
                  go_simp
                  (with_reducible refine (K1.out _ ((Below.refl m5.heap.size m5).drew)).mono ?_)
                  rintro e n0 ⟨rfl, hb⟩
                  have HBn0 := Lib.hid (((Below.refl m5.heap.size m5).drew).trans hb)
                  clear hb
                  refine hK.out _ _ (fun _ => SS.out _ HBn0.out) (fun hH => ?_)
                  replace hH := hH (by decide)
                  clear hK K
                  (try simp only [Act.put, List.getElem_toArray, List.getElem_cons_succ, List.getElem_cons_zero, List.setIfInBounds_toArray, List.set_cons_zero, List.set_cons_succ])
                  as_aux_lemma =>
                    refine wpAnyZ_takeS (i := 30) (v := ?_) rfl (by kernel_rfl) (by kernel_rfl) (by kernel_rfl) (by kernel_rfl) (fun _ _ _ h => h) (gives_value (by rfl) ?_) (by assumption) ?_
                    rotate_left
                    · intro w hSw
                      (try dsimp only at hSw)
                      go_simp
                      (try with_reducible rfl)
                    (try simp only [Act.put, List.getElem_toArray, List.getElem_cons_succ, List.getElem_cons_zero, List.setIfInBounds_toArray, List.set_cons_zero, List.set_cons_succ])
                    refine wpAnyZ_takeS (i := 31) (v := ?_) rfl (by kernel_rfl) (by kernel_rfl) (by kernel_rfl) (by kernel_rfl) (fun _ _ _ h => h) (gives_value (by rfl) ?_) (by assumption) ?_
                    rotate_left
                    · intro w hSw
                      (try dsimp only at hSw)
                      go_simp
                      (try with_reducible rfl)
                    (try simp only [Act.put, List.getElem_toArray, List.getElem_cons_succ, List.getElem_cons_zero, List.setIfInBounds_toArray, List.set_cons_zero, List.set_cons_succ])
                    refine wpAnyZ_takeS (i := 32) (v := ?_) rfl (by kernel_rfl) (by kernel_rfl) (by kernel_rfl) (by kernel_rfl) (fun _ _ _ h => h) (gives_value (by rfl) ?_) (by assumption) ?_
                    rotate_left
                    · intro w hSw
                      (try dsimp only at hSw)
                      go_simp
                      (try with_reducible rfl)
                    (try simp only [Act.put, List.getElem_toArray, List.getElem_cons_succ, List.getElem_cons_zero, List.setIfInBounds_toArray, List.set_cons_zero, List.set_cons_succ])
                    refine wpAnyZ_takeS (i := 33) (v := ?_) rfl (by kernel_rfl) (by kernel_rfl) (by kernel_rfl) (by kernel_rfl) (fun _ _ _ h => h) (gives_value (by rfl) ?_) (by assumption) ?_
                    rotate_left
                    · intro w hSw
                      (try dsimp only at hSw)
                      go_simp
                      (try with_reducible rfl)
                    (try simp only [Act.put, List.getElem_toArray, List.getElem_cons_succ, List.getElem_cons_zero, List.setIfInBounds_toArray, List.set_cons_zero, List.set_cons_succ])
                    refine wpAnyZ_takeS (i := 34) (v := ?_) rfl (by kernel_rfl) (by kernel_rfl) (by kernel_rfl) (by kernel_rfl) (fun _ _ _ h => h) (gives_value (by rfl) ?_) (by assumption) ?_
                    rotate_left
                    · intro w hSw
                      (try dsimp only at hSw)
                      go_simp
                      (try with_reducible rfl)
                    (try simp only [Act.put, List.getElem_toArray, List.getElem_cons_succ, List.getElem_cons_zero, List.setIfInBounds_toArray, List.set_cons_zero, List.set_cons_succ])
                    refine wpAnyZ_takeS (i := 35) (v := ?_) rfl (by kernel_rfl) (by kernel_rfl) (by kernel_rfl) (by kernel_rfl) (fun _ _ _ h => h) (gives_value (by rfl) ?_) (by assumption) ?_
                    rotate_left
                    · intro w hSw
                      (try dsimp only at hSw)
                      go_simp
                      (try with_reducible rfl)
                    (try simp only [Act.put, List.getElem_toArray, List.getElem_cons_succ, List.getElem_cons_zero, List.setIfInBounds_toArray, List.set_cons_zero, List.set_cons_succ])
                    refine wpAnyZ_takeS (i := 37) (v := ?_) rfl (by kernel_rfl) (by kernel_rfl) (by kernel_rfl) (by kernel_rfl) (fun _ _ _ h => h) (gives_value (by rfl) ?_) (by assumption) ?_
                    rotate_left
                    · intro w hSw
                      (try dsimp only at hSw)
                      go_simp
                      (try with_reducible rfl)
                    (try simp only [Act.put, List.getElem_toArray, List.getElem_cons_succ, List.getElem_cons_zero, List.setIfInBounds_toArray, List.set_cons_zero, List.set_cons_succ])
                    refine wpAnyZ_one (i := 36) (by kernel_rfl) ?_
                    refine zstep rfl (fun K hK => ?_)
                    go_simp
                    (with_reducible refine (K2.out _ (HBn0.out)).mono ?_)
                    rintro e n1 ⟨rfl, hb⟩
                    have HBn1 := Lib.hid (HBn0.out.trans (hb.mono HBn0.out.size))
                    clear hb
                    refine hK.out _ _ (fun _ => SS.out _ HBn1.out) (fun hH => ?_)
                    replace hH := hH (by decide)
                    clear hK K
                    (try simp only [Act.put, List.getElem_toArray, List.getElem_cons_succ, List.getElem_cons_zero, List.setIfInBounds_toArray, List.set_cons_zero, List.set_cons_succ])
                    as_aux_lemma =>
                      refine wpAnyZ_takeS (i := 38) (v := ?_) rfl (by kernel_rfl) (by kernel_rfl) (by kernel_rfl) (by kernel_rfl) (fun _ _ _ h => h) (gives_value (by rfl) ?_) (by assumption) ?_
                      rotate_left
                      · intro w hSw
                        (try dsimp only at hSw)
                        go_simp
                        (try with_reducible rfl)
                      (try simp only [Act.put, List.getElem_toArray, List.getElem_cons_succ, List.getElem_cons_zero, List.setIfInBounds_toArray, List.set_cons_zero, List.set_cons_succ])
                      refine wpAnyZ_takeS (i := 39) (v := ?_) rfl (by kernel_rfl) (by kernel_rfl) (by kernel_rfl) (by kernel_rfl) (fun _ _ _ h => h) (gives_value (by rfl) ?_) (by assumption) ?_
                      rotate_left
                      · intro w hSw
                        (try dsimp only at hSw)
                        go_simp
                        (try with_reducible rfl)
                      (try simp only [Act.put, List.getElem_toArray, List.getElem_cons_succ, List.getElem_cons_zero, List.setIfInBounds_toArray, List.set_cons_zero, List.set_cons_succ])
                      refine wpAnyZ_takeS (i := 40) (v := ?_) rfl (by kernel_rfl) (by kernel_rfl) (by kernel_rfl) (by kernel_rfl) (fun _ _ _ h => h) (gives_value (by rfl) ?_) (by assumption) ?_
                      rotate_left
                      · intro w hSw
                        (try dsimp only at hSw)
                        go_simp
                        (try with_reducible rfl)
                      (try simp only [Act.put, List.getElem_toArray, List.getElem_cons_succ, List.getElem_cons_zero, List.setIfInBounds_toArray, List.set_cons_zero, List.set_cons_succ])
                      refine wpAnyZ_takeS (i := 41) (v := ?_) rfl (by kernel_rfl) (by kernel_rfl) (by kernel_rfl) (by kernel_rfl) (fun _ _ _ h => h) (gives_value (by rfl) ?_) (by assumption) ?_
                      rotate_left
                      · intro w hSw
                        (try dsimp only at hSw)
                        go_simp
                        (try with_reducible rfl)
                      (try simp only [Act.put, List.getElem_toArray, List.getElem_cons_succ, List.getElem_cons_zero, List.setIfInBounds_toArray, List.set_cons_zero, List.set_cons_succ])
                      refine wpAnyZ_takeS (i := 42) (v := ?_) rfl (by kernel_rfl) (by kernel_rfl) (by kernel_rfl) (by kernel_rfl) (fun _ _ _ h => h) (gives_value (by rfl) ?_) (by assumption) ?_
                      rotate_left
                      · intro w hSw
                        (try dsimp only at hSw)
                        go_simp
                        (try with_reducible rfl)
                      (try simp only [Act.put, List.getElem_toArray, List.getElem_cons_succ, List.getElem_cons_zero, List.setIfInBounds_toArray, List.set_cons_zero, List.set_cons_succ])
                      refine wpAnyZ_takeS (i := 43) (v := ?_) rfl (by kernel_rfl) (by kernel_rfl) (by kernel_rfl) (by kernel_rfl) (fun _ _ _ h => h) (gives_value (by rfl) ?_) (by assumption) ?_
                      rotate_left
                      · intro w hSw
                        (try dsimp only at hSw)
                        go_simp
                        (try with_reducible rfl)
                      (try simp only [Act.put, List.getElem_toArray, List.getElem_cons_succ, List.getElem_cons_zero, List.setIfInBounds_toArray, List.set_cons_zero, List.set_cons_succ])
                      refine wpAnyZ_takeS (i := 44) (v := ?_) rfl (by kernel_rfl) (by kernel_rfl) (by kernel_rfl) (by kernel_rfl) (fun _ _ _ h => h) (gives_value (by rfl) ?_) (by assumption) ?_
                      rotate_left
                      · intro w hSw
                        (try dsimp only at hSw)
                        go_simp
                        (try with_reducible rfl)
                      (try simp only [Act.put, List.getElem_toArray, List.getElem_cons_succ, List.getElem_cons_zero, List.setIfInBounds_toArray, List.set_cons_zero, List.set_cons_succ])
                      refine wpAnyZ_takeS (i := 45) (v := ?_) rfl (by kernel_rfl) (by kernel_rfl) (by kernel_rfl) (by kernel_rfl) (fun _ _ _ h => h) (gives_value (by rfl) ?_) (by assumption) ?_
                      rotate_left
                      · intro w hSw
                        (try dsimp only at hSw)
                        go_simp
                        (try with_reducible rfl)
                      (try simp only [Act.put, List.getElem_toArray, List.getElem_cons_succ, List.getElem_cons_zero, List.setIfInBounds_toArray, List.set_cons_zero, List.set_cons_succ])
                      refine wpAnyZ_takeS (i := 46) (v := ?_) rfl (by kernel_rfl) (by kernel_rfl) (by kernel_rfl) (by kernel_rfl) (fun _ _ _ h => h) (gives_value (by rfl) ?_) (by assumption) ?_
                      rotate_left
                      · intro w hSw
                        (try dsimp only at hSw)
                        go_simp
                        (try with_reducible rfl)
                      (try simp only [Act.put, List.getElem_toArray, List.getElem_cons_succ, List.getElem_cons_zero, List.setIfInBounds_toArray, List.set_cons_zero, List.set_cons_succ])
                      refine wpAnyZ_takeS (i := 48) (v := ?_) rfl (by kernel_rfl) (by kernel_rfl) (by kernel_rfl) (by kernel_rfl) (fun _ _ _ h => h) (gives_value (by rfl) ?_) (by assumption) ?_
                      rotate_left
                      · intro w hSw
                        (try dsimp only at hSw)
                        go_simp
                        (try with_reducible rfl)
                      (try simp only [Act.put, List.getElem_toArray, List.getElem_cons_succ, List.getElem_cons_zero, List.setIfInBounds_toArray, List.set_cons_zero, List.set_cons_succ])
                      refine wpAnyZ_one (i := 47) (by kernel_rfl) ?_
                      refine zstep rfl (fun K hK => ?_)
                      go_simp
                      (with_reducible refine (K3.out _ (HBn1.out)).mono ?_)
                      rintro e n2 ⟨rfl, hb⟩
                      have HBn2 := Lib.hid (HBn1.out.trans (hb.mono HBn1.out.size))
                      clear hb
                      refine hK.out _ _ (fun _ => SS.out _ HBn2.out) (fun hH => ?_)
                      replace hH := hH (by decide)
                      clear hK K
                      (try simp only [Act.put, List.getElem_toArray, List.getElem_cons_succ, List.getElem_cons_zero, List.setIfInBounds_toArray, List.set_cons_zero, List.set_cons_succ])
                      as_aux_lemma =>
                        refine wpAnyZ_takeS (i := 49) (v := ?_) rfl (by kernel_rfl) (by kernel_rfl) (by kernel_rfl) (by kernel_rfl) (fun _ _ _ h => h) (gives_value (by rfl) ?_) (by assumption) ?_
                        rotate_left
                        · intro w hSw
                          (try dsimp only at hSw)
                          go_simp
                          (try with_reducible rfl)
                        (try simp only [Act.put, List.getElem_toArray, List.getElem_cons_succ, List.getElem_cons_zero, List.setIfInBounds_toArray, List.set_cons_zero, List.set_cons_succ])
                        refine wpAnyZ_takeS (i := 50) (v := ?_) rfl (by kernel_rfl) (by kernel_rfl) (by kernel_rfl) (by kernel_rfl) (fun _ _ _ h => h) (gives_value (by rfl) ?_) (by assumption) ?_
                        rotate_left
                        · intro w hSw
                          (try dsimp only at hSw)
                          go_simp
                          (try with_reducible rfl)
                        (try simp only [Act.put, List.getElem_toArray, List.getElem_cons_succ, List.getElem_cons_zero, List.setIfInBounds_toArray, List.set_cons_zero, List.set_cons_succ])
                        refine wpAnyZ_takeS (i := 51) (v := ?_) rfl (by kernel_rfl) (by kernel_rfl) (by kernel_rfl) (by kernel_rfl) (fun _ _ _ h => h) (gives_value (by rfl) ?_) (by assumption) ?_
                        rotate_left
                        · intro w hSw
                          (try dsimp only at hSw)
                          go_simp
                          (try with_reducible rfl)
                        (try simp only [Act.put, List.getElem_toArray, List.getElem_cons_succ, List.getElem_cons_zero, List.setIfInBounds_toArray, List.set_cons_zero, List.set_cons_succ])
                        refine wpAnyZ_takeS (i := 52) (v := ?_) rfl (by kernel_rfl) (by kernel_rfl) (by kernel_rfl) (by kernel_rfl) (fun _ _ _ h => h) (gives_value (by rfl) ?_) (by assumption) ?_
                        rotate_left
                        · intro w hSw
                          (try dsimp only at hSw)
                          go_simp
                          (try with_reducible rfl)
                        (try simp only [Act.put, List.getElem_toArray, List.getElem_cons_succ, List.getElem_cons_zero, List.setIfInBounds_toArray, List.set_cons_zero, List.set_cons_succ])
                        refine wpAnyZ_takeS (i := 53) (v := ?_) rfl (by kernel_rfl) (by kernel_rfl) (by kernel_rfl) (by kernel_rfl) (fun _ _ _ h => h) (gives_value (by rfl) ?_) (by assumption) ?_
                        rotate_left
                        · intro w hSw
                          (try dsimp only at hSw)
                          go_simp
                          (try with_reducible rfl)
                        (try simp only [Act.put, List.getElem_toArray, List.getElem_cons_succ, List.getElem_cons_zero, List.setIfInBounds_toArray, List.set_cons_zero, List.set_cons_succ])
                        refine wpAnyZ_takeS (i := 54) (v := ?_) rfl (by kernel_rfl) (by kernel_rfl) (by kernel_rfl) (by kernel_rfl) (fun _ _ _ h => h) (gives_value (by rfl) ?_) (by assumption) ?_
                        rotate_left
                        · intro w hSw
                          (try dsimp only at hSw)
                          go_simp
                          (try with_reducible rfl)
                        (try simp only [Act.put, List.getElem_toArray, List.getElem_cons_succ, List.getElem_cons_zero, List.setIfInBounds_toArray, List.set_cons_zero, List.set_cons_succ])
                        refine wpAnyZ_takeS (i := 55) (v := ?_) rfl (by kernel_rfl) (by kernel_rfl) (by kernel_rfl) (by kernel_rfl) (fun _ _ _ h => h) (gives_value (by rfl) ?_) (by assumption) ?_
                        rotate_left
                        · intro w hSw
                          (try dsimp only at hSw)
                          go_simp
                          (try with_reducible rfl)
                        (try simp only [Act.put, List.getElem_toArray, List.getElem_cons_succ, List.getElem_cons_zero, List.setIfInBounds_toArray, List.set_cons_zero, List.set_cons_succ])
                        refine wpAnyZ_takeS (i := 57) (v := ?_) rfl (by kernel_rfl) (by kernel_rfl) (by kernel_rfl) (by kernel_rfl) (fun _ _ _ h => h) (gives_value (by rfl) ?_) (by assumption) ?_
                        rotate_left
                        · intro w hSw
                          (try dsimp only at hSw)
                          go_simp
                          (try with_reducible rfl)
                        (try simp only [Act.put, List.getElem_toArray, List.getElem_cons_succ, List.getElem_cons_zero, List.setIfInBounds_toArray, List.set_cons_zero, List.set_cons_succ])
                        refine wpAnyZ_one (i := 56) (by kernel_rfl) ?_
                        refine zstep rfl (fun K hK => ?_)
                        go_simp
                        (with_reducible refine (K4.out _ (HBn2.out)).mono ?_)
                        rintro e n3 ⟨rfl, hb⟩
                        have HBn3 := Lib.hid (HBn2.out.trans (hb.mono HBn2.out.size))
                        clear hb
                        refine hK.out _ _ (fun _ => SS.out _ HBn3.out) (fun hH => ?_)
                        replace hH := hH (by decide)
                        clear hK K
                        (try simp only [Act.put, List.getElem_toArray, List.getElem_cons_succ, List.getElem_cons_zero, List.setIfInBounds_toArray, List.set_cons_zero, List.set_cons_succ])
                        as_aux_lemma =>
                          refine wpAnyZ_takeS (i := 58) (v := ?_) rfl (by kernel_rfl) (by kernel_rfl) (by kernel_rfl) (by kernel_rfl) (fun _ _ _ h => h) (gives_value (by rfl) ?_) (by assumption) ?_
                          rotate_left
                          · intro w hSw
                            (try dsimp only at hSw)
                            go_simp
                            (try with_reducible rfl)
                          (try simp only [Act.put, List.getElem_toArray, List.getElem_cons_succ, List.getElem_cons_zero, List.setIfInBounds_toArray, List.set_cons_zero, List.set_cons_succ])
                          refine wpAnyZ_takeS (i := 59) (v := ?_) rfl (by kernel_rfl) (by kernel_rfl) (by kernel_rfl) (by kernel_rfl) (fun _ _ _ h => h) (gives_value (by rfl) ?_) (by assumption) ?_
                          rotate_left
                          · intro w hSw
                            (try dsimp only at hSw)
                            go_simp
                            (try with_reducible rfl)
                          (try simp only [Act.put, List.getElem_toArray, List.getElem_cons_succ, List.getElem_cons_zero, List.setIfInBounds_toArray, List.set_cons_zero, List.set_cons_succ])
                          refine wpAnyZ_takeS (i := 60) (v := ?_) rfl (by kernel_rfl) (by kernel_rfl) (by kernel_rfl) (by kernel_rfl) (fun _ _ _ h => h) (gives_value (by rfl) ?_) (by assumption) ?_
                          rotate_left
                          · intro w hSw
                            (try dsimp only at hSw)
                            go_simp
                            (try with_reducible rfl)
                          (try simp only [Act.put, List.getElem_toArray, List.getElem_cons_succ, List.getElem_cons_zero, List.setIfInBounds_toArray, List.set_cons_zero, List.set_cons_succ])
                          refine wpAnyZ_takeS (i := 61) (v := ?_) rfl (by kernel_rfl) (by kernel_rfl) (by kernel_rfl) (by kernel_rfl) (fun _ _ _ h => h) (gives_value (by rfl) ?_) (by assumption) ?_
                          rotate_left
                          · intro w hSw
                            (try dsimp only at hSw)
                            go_simp
                            (try with_reducible rfl)
                          (try simp only [Act.put, List.getElem_toArray, List.getElem_cons_succ, List.getElem_cons_zero, List.setIfInBounds_toArray, List.set_cons_zero, List.set_cons_succ])
                          refine wpAnyZ_takeS (i := 62) (v := ?_) rfl (by kernel_rfl) (by kernel_rfl) (by kernel_rfl) (by kernel_rfl) (fun _ _ _ h => h) (gives_value (by rfl) ?_) (by assumption) ?_
                          rotate_left
                          · intro w hSw
                            (try dsimp only at hSw)
                            go_simp
                            (try with_reducible rfl)
                          (try simp only [Act.put, List.getElem_toArray, List.getElem_cons_succ, List.getElem_cons_zero, List.setIfInBounds_toArray, List.set_cons_zero, List.set_cons_succ])
                          refine wpAnyZ_takeS (i := 63) (v := ?_) rfl (by kernel_rfl) (by kernel_rfl) (by kernel_rfl) (by kernel_rfl) (fun _ _ _ h => h) (gives_value (by rfl) ?_) (by assumption) ?_
                          rotate_left
                          · intro w hSw
                            (try dsimp only at hSw)
                            go_simp
                            (try with_reducible rfl)
                          (try simp only [Act.put, List.getElem_toArray, List.getElem_cons_succ, List.getElem_cons_zero, List.setIfInBounds_toArray, List.set_cons_zero, List.set_cons_succ])
                          refine wpAnyZ_takeS (i := 64) (v := ?_) rfl (by kernel_rfl) (by kernel_rfl) (by kernel_rfl) (by kernel_rfl) (fun _ _ _ h => h) (gives_value (by rfl) ?_) (by assumption) ?_
                          rotate_left
                          · intro w hSw
                            (try dsimp only at hSw)
                            go_simp
                            (try with_reducible rfl)
                          (try simp only [Act.put, List.getElem_toArray, List.getElem_cons_succ, List.getElem_cons_zero, List.setIfInBounds_toArray, List.set_cons_zero, List.set_cons_succ])
                          refine wpAnyZ_takeS (i := 66) (v := ?_) rfl (by kernel_rfl) (by kernel_rfl) (by kernel_rfl) (by kernel_rfl) (fun _ _ _ h => h) (gives_value (by rfl) ?_) (by assumption) ?_
                          rotate_left
                          · intro w hSw
                            (try dsimp only at hSw)
                            go_simp
                            (try with_reducible rfl)
                          (try simp only [Act.put, List.getElem_toArray, List.getElem_cons_succ, List.getElem_cons_zero, List.setIfInBounds_toArray, List.set_cons_zero, List.set_cons_succ])
                          refine wpAnyZ_one (i := 65) (by kernel_rfl) ?_
                          refine zstep rfl (fun K hK => ?_)
                          go_simp
                          (with_reducible refine (K5.out _ (HBn3.out)).mono ?_)
                          rintro e n4 ⟨rfl, hb⟩
                          have HBn4 := Lib.hid (HBn3.out.trans (hb.mono HBn3.out.size))
                          clear hb
                          refine hK.out _ _ (fun _ => SS.out _ HBn4.out) (fun hH => ?_)
                          replace hH := hH (by decide)
                          clear hK K
                          (try simp only [Act.put, List.getElem_toArray, List.getElem_cons_succ, List.getElem_cons_zero, List.setIfInBounds_toArray, List.set_cons_zero, List.set_cons_succ])
                          as_aux_lemma =>
                            refine wpAnyZ_takeS (i := 67) (v := ?_) rfl (by kernel_rfl) (by kernel_rfl) (by kernel_rfl) (by kernel_rfl) (fun _ _ _ h => h) (gives_value (by rfl) ?_) (by assumption) ?_
                            rotate_left
                            · intro w hSw
                              (try dsimp only at hSw)
                              go_simp
                              (try with_reducible rfl)
                            (try simp only [Act.put, List.getElem_toArray, List.getElem_cons_succ, List.getElem_cons_zero, List.setIfInBounds_toArray, List.set_cons_zero, List.set_cons_succ])
                            refine wpAnyZ_takeS (i := 68) (v := ?_) rfl (by kernel_rfl) (by kernel_rfl) (by kernel_rfl) (by kernel_rfl) (fun _ _ _ h => h) (gives_value (by rfl) ?_) (by assumption) ?_
                            rotate_left
                            · intro w hSw
                              (try dsimp only at hSw)
                              go_simp
                              (try with_reducible rfl)
                            (try simp only [Act.put, List.getElem_toArray, List.getElem_cons_succ, List.getElem_cons_zero, List.setIfInBounds_toArray, List.set_cons_zero, List.set_cons_succ])
                            refine wpAnyZ_takeS (i := 69) (v := ?_) rfl (by kernel_rfl) (by kernel_rfl) (by kernel_rfl) (by kernel_rfl) (fun _ _ _ h => h) (gives_value (by rfl) ?_) (by assumption) ?_
                            rotate_left
                            · intro w hSw
                              (try dsimp only at hSw)
                              go_simp
                              (try with_reducible rfl)
                            (try simp only [Act.put, List.getElem_toArray, List.getElem_cons_succ, List.getElem_cons_zero, List.setIfInBounds_toArray, List.set_cons_zero, List.set_cons_succ])
                            refine wpAnyZ_takeS (i := 70) (v := ?_) rfl (by kernel_rfl) (by kernel_rfl) (by kernel_rfl) (by kernel_rfl) (fun _ _ _ h => h) (gives_value (by rfl) ?_) (by assumption) ?_
                            rotate_left
                            · intro w hSw
                              (try dsimp only at hSw)
                              go_simp
                              (try with_reducible rfl)
                            (try simp only [Act.put, List.getElem_toArray, List.getElem_cons_succ, List.getElem_cons_zero, List.setIfInBounds_toArray, List.set_cons_zero, List.set_cons_succ])
                            refine wpAnyZ_takeS (i := 71) (v := ?_) rfl (by kernel_rfl) (by kernel_rfl) (by kernel_rfl) (by kernel_rfl) (fun _ _ _ h => h) (gives_value (by rfl) ?_) (by assumption) ?_
                            rotate_left
                            · intro w hSw
                              (try dsimp only at hSw)
                              go_simp
                              (try with_reducible rfl)
                            (try simp only [Act.put, List.getElem_toArray, List.getElem_cons_succ, List.getElem_cons_zero, List.setIfInBounds_toArray, List.set_cons_zero, List.set_cons_succ])
                            refine wpAnyZ_takeS (i := 72) (v := ?_) rfl (by kernel_rfl) (by kernel_rfl) (by kernel_rfl) (by kernel_rfl) (fun _ _ _ h => h) (gives_value (by rfl) ?_) (by assumption) ?_
                            rotate_left
                            · intro w hSw
                              (try dsimp only at hSw)
                              go_simp
                              (try with_reducible rfl)
                            (try simp only [Act.put, List.getElem_toArray, List.getElem_cons_succ, List.getElem_cons_zero, List.setIfInBounds_toArray, List.set_cons_zero, List.set_cons_succ])
                            refine wpAnyZ_takeS (i := 73) (v := ?_) rfl (by kernel_rfl) (by kernel_rfl) (by kernel_rfl) (by kernel_rfl) (fun _ _ _ h => h) (gives_value (by rfl) ?_) (by assumption) ?_
                            rotate_left
                            · intro w hSw
                              (try dsimp only at hSw)
                              go_simp
                              (try with_reducible rfl)
                            (try simp only [Act.put, List.getElem_toArray, List.getElem_cons_succ, List.getElem_cons_zero, List.setIfInBounds_toArray, List.set_cons_zero, List.set_cons_succ])
                            refine wpAnyZ_takeS (i := 75) (v := ?_) rfl (by kernel_rfl) (by kernel_rfl) (by kernel_rfl) (by kernel_rfl) (fun _ _ _ h => h) (gives_value (by rfl) ?_) (by assumption) ?_
                            rotate_left
                            · intro w hSw
                              (try dsimp only at hSw)
                              go_simp
                              (try with_reducible rfl)
                            (try simp only [Act.put, List.getElem_toArray, List.getElem_cons_succ, List.getElem_cons_zero, List.setIfInBounds_toArray, List.set_cons_zero, List.set_cons_succ])
                            refine wpAnyZ_one (i := 74) (by kernel_rfl) ?_
                            refine zstep rfl (fun K hK => ?_)
                            go_simp
                            (with_reducible refine (K6.out _ (HBn4.out)).mono ?_)
                            rintro e n5 ⟨rfl, hb⟩
                            have HBn5 := Lib.hid (HBn4.out.trans (hb.mono HBn4.out.size))
                            clear hb
                            refine hK.out _ _ (fun _ => SS.out _ HBn5.out) (fun hH => ?_)
                            replace hH := hH (by decide)
                            clear hK K
                            (try simp only [Act.put, List.getElem_toArray, List.getElem_cons_succ, List.getElem_cons_zero, List.setIfInBounds_toArray, List.set_cons_zero, List.set_cons_succ])
                            as_aux_lemma =>
                              refine wpAnyZ_takeS (i := 76) (v := ?_) rfl (by kernel_rfl) (by kernel_rfl) (by kernel_rfl) (by kernel_rfl) (fun _ _ _ h => h) (gives_value (by rfl) ?_) (by assumption) ?_
                              rotate_left
                              · intro w hSw
                                (try dsimp only at hSw)
                                go_simp
                                (try with_reducible rfl)
                              (try simp only [Act.put, List.getElem_toArray, List.getElem_cons_succ, List.getElem_cons_zero, List.setIfInBounds_toArray, List.set_cons_zero, List.set_cons_succ])
                              refine wpAnyZ_takeS (i := 77) (v := ?_) rfl (by kernel_rfl) (by kernel_rfl) (by kernel_rfl) (by kernel_rfl) (fun _ _ _ h => h) (gives_value (by rfl) ?_) (by assumption) ?_
                              rotate_left
                              · intro w hSw
                                (try dsimp only at hSw)
                                go_simp
                                (try with_reducible rfl)
                              (try simp only [Act.put, List.getElem_toArray, List.getElem_cons_succ, List.getElem_cons_zero, List.setIfInBounds_toArray, List.set_cons_zero, List.set_cons_succ])
                              refine wpAnyZ_takeS (i := 78) (v := ?_) rfl (by kernel_rfl) (by kernel_rfl) (by kernel_rfl) (by kernel_rfl) (fun _ _ _ h => h) (gives_value (by rfl) ?_) (by assumption) ?_
                              rotate_left
                              · intro w hSw
                                (try dsimp only at hSw)
                                go_simp
                                (try with_reducible rfl)
                              (try simp only [Act.put, List.getElem_toArray, List.getElem_cons_succ, List.getElem_cons_zero, List.setIfInBounds_toArray, List.set_cons_zero, List.set_cons_succ])
                              refine wpAnyZ_takeS (i := 79) (v := ?_) rfl (by kernel_rfl) (by kernel_rfl) (by kernel_rfl) (by kernel_rfl) (fun _ _ _ h => h) (gives_value (by rfl) ?_) (by assumption) ?_
                              rotate_left
                              · intro w hSw
                                (try dsimp only at hSw)
                                go_simp
                                (try with_reducible rfl)
                              (try simp only [Act.put, List.getElem_toArray, List.getElem_cons_succ, List.getElem_cons_zero, List.setIfInBounds_toArray, List.set_cons_zero, List.set_cons_succ])
                              refine wpAnyZ_takeS (i := 80) (v := ?_) rfl (by kernel_rfl) (by kernel_rfl) (by kernel_rfl) (by kernel_rfl) (fun _ _ _ h => h) (gives_value (by rfl) ?_) (by assumption) ?_
                              rotate_left
                              · intro w hSw
                                (try dsimp only at hSw)
                                go_simp
                                (try with_reducible rfl)
                              (try simp only [Act.put, List.getElem_toArray, List.getElem_cons_succ, List.getElem_cons_zero, List.setIfInBounds_toArray, List.set_cons_zero, List.set_cons_succ])
                              refine wpAnyZ_takeS (i := 81) (v := ?_) rfl (by kernel_rfl) (by kernel_rfl) (by kernel_rfl) (by kernel_rfl) (fun _ _ _ h => h) (gives_value (by rfl) ?_) (by assumption) ?_
                              rotate_left
                              · intro w hSw
                                (try dsimp only at hSw)
                                go_simp
                                (try with_reducible rfl)
                              (try simp only [Act.put, List.getElem_toArray, List.getElem_cons_succ, List.getElem_cons_zero, List.setIfInBounds_toArray, List.set_cons_zero, List.set_cons_succ])
                              refine wpAnyZ_takeS (i := 82) (v := ?_) rfl (by kernel_rfl) (by kernel_rfl) (by kernel_rfl) (by kernel_rfl) (fun _ _ _ h => h) (gives_value (by rfl) ?_) (by assumption) ?_
                              rotate_left
                              · intro w hSw
                                (try dsimp only at hSw)
                                go_simp
                                (try with_reducible rfl)
                              (try simp only [Act.put, List.getElem_toArray, List.getElem_cons_succ, List.getElem_cons_zero, List.setIfInBounds_toArray, List.set_cons_zero, List.set_cons_succ])
                              refine wpAnyZ_takeS (i := 83) (v := ?_) rfl (by kernel_rfl) (by kernel_rfl) (by kernel_rfl) (by kernel_rfl) (fun _ _ _ h => h) (gives_value (by rfl) ?_) (by assumption) ?_
                              rotate_left
                              · intro w hSw
                                (try dsimp only at hSw)
                                go_simp
                                (try with_reducible rfl)
                              (try simp only [Act.put, List.getElem_toArray, List.getElem_cons_succ, List.getElem_cons_zero, List.setIfInBounds_toArray, List.set_cons_zero, List.set_cons_succ])
                              refine wpAnyZ_takeS (i := 84) (v := ?_) rfl (by kernel_rfl) (by kernel_rfl) (by kernel_rfl) (by kernel_rfl) (fun _ _ _ h => h) (gives_value (by rfl) ?_) (by assumption) ?_
                              rotate_left
                              · intro w hSw
                                (try dsimp only at hSw)
                                go_simp
                                (try with_reducible rfl)
                              (try simp only [Act.put, List.getElem_toArray, List.getElem_cons_succ, List.getElem_cons_zero, List.setIfInBounds_toArray, List.set_cons_zero, List.set_cons_succ])
                              refine wpAnyZ_takeS (i := 86) (v := ?_) rfl (by kernel_rfl) (by kernel_rfl) (by kernel_rfl) (by kernel_rfl) (fun _ _ _ h => h) (gives_value (by rfl) ?_) (by assumption) ?_
                              rotate_left
                              · intro w hSw
                                (try dsimp only at hSw)
                                go_simp
                                (try with_reducible rfl)
                              (try simp only [Act.put, List.getElem_toArray, List.getElem_cons_succ, List.getElem_cons_zero, List.setIfInBounds_toArray, List.set_cons_zero, List.set_cons_succ])
                              refine wpAnyZ_one (i := 85) (by kernel_rfl) ?_
                              refine zstep rfl (fun K hK => ?_)
                              go_simp
                              (with_reducible refine (K7.out _ (HBn5.out)).mono ?_)
                              rintro e n6 ⟨rfl, hb⟩
                              have HBn6 := Lib.hid (HBn5.out.trans (hb.mono HBn5.out.size))
                              clear hb
                              refine hK.out _ _ (fun _ => SS.out _ HBn6.out) (fun hH => ?_)
                              replace hH := hH (by decide)
                              clear hK K
                              (try simp only [Act.put, List.getElem_toArray, List.getElem_cons_succ, List.getElem_cons_zero, List.setIfInBounds_toArray, List.set_cons_zero, List.set_cons_succ])
                              as_aux_lemma =>
                                refine wpAnyZ_takeS (i := 87) (v := ?_) rfl (by kernel_rfl) (by kernel_rfl) (by kernel_rfl) (by kernel_rfl) (fun _ _ _ h => h) (gives_value (by rfl) ?_) (by assumption) ?_
                                rotate_left
                                · intro w hSw
                                  (try dsimp only at hSw)
                                  go_simp
                                  (try with_reducible rfl)
                                (try simp only [Act.put, List.getElem_toArray, List.getElem_cons_succ, List.getElem_cons_zero, List.setIfInBounds_toArray, List.set_cons_zero, List.set_cons_succ])
                                refine wpAnyZ_takeS (i := 88) (v := ?_) rfl (by kernel_rfl) (by kernel_rfl) (by kernel_rfl) (by kernel_rfl) (fun _ _ _ h => h) (gives_value (by rfl) ?_) (by assumption) ?_
                                rotate_left
                                · intro w hSw
                                  (try dsimp only at hSw)
                                  go_simp
                                  (try with_reducible rfl)
                                (try simp only [Act.put, List.getElem_toArray, List.getElem_cons_succ, List.getElem_cons_zero, List.setIfInBounds_toArray, List.set_cons_zero, List.set_cons_succ])
                                refine wpAnyZ_takeS (i := 89) (v := ?_) rfl (by kernel_rfl) (by kernel_rfl) (by kernel_rfl) (by kernel_rfl) (fun _ _ _ h => h) (gives_value (by rfl) ?_) (by assumption) ?_
                                rotate_left
                                · intro w hSw
                                  (try dsimp only at hSw)
                                  go_simp
                                  (try with_reducible rfl)
                                (try simp only [Act.put, List.getElem_toArray, List.getElem_cons_succ, List.getElem_cons_zero, List.setIfInBounds_toArray, List.set_cons_zero, List.set_cons_succ])
                                refine wpAnyZ_takeS (i := 90) (v := ?_) rfl (by kernel_rfl) (by kernel_rfl) (by kernel_rfl) (by kernel_rfl) (fun _ _ _ h => h) (gives_value (by rfl) ?_) (by assumption) ?_
                                rotate_left
                                · intro w hSw
                                  (try dsimp only at hSw)
                                  go_simp
                                  (try with_reducible rfl)
                                (try simp only [Act.put, List.getElem_toArray, List.getElem_cons_succ, List.getElem_cons_zero, List.setIfInBounds_toArray, List.set_cons_zero, List.set_cons_succ])
                                refine wpAnyZ_takeS (i := 91) (v := ?_) rfl (by kernel_rfl) (by kernel_rfl) (by kernel_rfl) (by kernel_rfl) (fun _ _ _ h => h) (gives_value (by rfl) ?_) (by assumption) ?_
                                rotate_left
                                · intro w hSw
                                  (try dsimp only at hSw)
                                  go_simp
                                  (try with_reducible rfl)
                                (try simp only [Act.put, List.getElem_toArray, List.getElem_cons_succ, List.getElem_cons_zero, List.setIfInBounds_toArray, List.set_cons_zero, List.set_cons_succ])
                                refine wpAnyZ_one (i := 92) (by kernel_rfl) ?_
                                refine zstep rfl (fun K hK => ?_)
                                go_simp
                                have HBn7 := Lib.hid (HBn6.out.alloc HBn6.out.size (.cells #[.int .i64 1] 3))
                                refine hK.out _ _ (fun _ => SS.out _ HBn7.out) (fun hH => ?_)
                                replace hH := hH (by decide)
                                clear hK K
                                (try simp only [Act.put, List.getElem_toArray, List.getElem_cons_succ, List.getElem_cons_zero, List.setIfInBounds_toArray, List.set_cons_zero, List.set_cons_succ])
                                generalize n6.alloc (.cells #[.int .i64 1] 3) = n7 at *
                                refine wpAnyZ_one (i := 93) (by kernel_rfl) ?_
                                refine zstep rfl (fun K hK => ?_)
                                go_simp
                                (with_reducible refine (K8.out _ _ (HBn7.out)).mono ?_)
                                rintro e n8 ⟨rfl, hb⟩
                                have HBn8 := Lib.hid (HBn7.out.trans (hb.mono HBn7.out.size))
                                clear hb
                                refine hK.out _ _ (fun _ => SS.out _ HBn8.out) (fun hH => ?_)
                                replace hH := hH (by decide)
                                clear hK K
                                (try simp only [Act.put, List.getElem_toArray, List.getElem_cons_succ, List.getElem_cons_zero, List.setIfInBounds_toArray, List.set_cons_zero, List.set_cons_succ])
                                refine wpAnyZ_takeS (i := 94) (v := ?_) rfl (by kernel_rfl) (by kernel_rfl) (by kernel_rfl) (by kernel_rfl) (fun _ _ _ h => h) (gives_value (by rfl) ?_) (by assumption) ?_
                                rotate_left
                                · intro w hSw
                                  (try dsimp only at hSw)
                                  go_simp
                                  (try with_reducible rfl)
                                (try simp only [Act.put, List.getElem_toArray, List.getElem_cons_succ, List.getElem_cons_zero, List.setIfInBounds_toArray, List.set_cons_zero, List.set_cons_succ])
                                refine wpAnyZ_takeS (i := 95) (v := ?_) rfl (by kernel_rfl) (by kernel_rfl) (by kernel_rfl) (by kernel_rfl) (fun _ _ _ h => h) (gives_value (by rfl) ?_) (by assumption) ?_
                                rotate_left
                                · intro w hSw
                                  (try dsimp only at hSw)
                                  go_simp
                                  (try with_reducible rfl)
                                (try simp only [Act.put, List.getElem_toArray, List.getElem_cons_succ, List.getElem_cons_zero, List.setIfInBounds_toArray, List.set_cons_zero, List.set_cons_succ])
                                refine wpAnyZ_takeS (i := 96) (v := ?_) rfl (by kernel_rfl) (by kernel_rfl) (by kernel_rfl) (by kernel_rfl) (fun _ _ _ h => h) (gives_value (by rfl) ?_) (by assumption) ?_
                                rotate_left
                                · intro w hSw
                                  (try dsimp only at hSw)
                                  go_simp
                                  (try with_reducible rfl)
                                (try simp only [Act.put, List.getElem_toArray, List.getElem_cons_succ, List.getElem_cons_zero, List.setIfInBounds_toArray, List.set_cons_zero, List.set_cons_succ])
                                refine wpAnyZ_takeS (i := 97) (v := ?_) rfl (by kernel_rfl) (by kernel_rfl) (by kernel_rfl) (by kernel_rfl) (fun _ _ _ h => h) (gives_value (by rfl) ?_) (by assumption) ?_
                                rotate_left
                                · intro w hSw
                                  (try dsimp only at hSw)
                                  go_simp
                                  (try with_reducible rfl)
                                (try simp only [Act.put, List.getElem_toArray, List.getElem_cons_succ, List.getElem_cons_zero, List.setIfInBounds_toArray, List.set_cons_zero, List.set_cons_succ])
                                refine wpAnyZ_one (i := 98) (by kernel_rfl) ?_
                                refine zstep rfl (fun K hK => ?_)
                                go_simp
                                (with_reducible refine (wakes5_any _).mono ?_)
                                rintro e n9 ⟨rfl, hb⟩
                                have HBn9 := Lib.hid (HBn8.out.trans (hb.mono HBn8.out.size))
                                clear hb
                                refine hK.out _ _ (fun _ => SS.out _ HBn9.out) (fun hH => ?_)
                                replace hH := hH (by decide)
                                clear hK K
                                (try simp only [Act.put, List.getElem_toArray, List.getElem_cons_succ, List.getElem_cons_zero, List.setIfInBounds_toArray, List.set_cons_zero, List.set_cons_succ])
                                refine wpAnyZ_takeS (i := 99) (v := ?_) rfl (by kernel_rfl) (by kernel_rfl) (by kernel_rfl) (by kernel_rfl) (fun _ _ _ h => h) (gives_value (by rfl) ?_) (by assumption) ?_
                                rotate_left
                                · intro w hSw
                                  (try dsimp only at hSw)
                                  go_simp
                                  (try with_reducible rfl)
                                (try simp only [Act.put, List.getElem_toArray, List.getElem_cons_succ, List.getElem_cons_zero, List.setIfInBounds_toArray, List.set_cons_zero, List.set_cons_succ])
                                refine wpAnyZ_takeS (i := 100) (v := ?_) rfl (by kernel_rfl) (by kernel_rfl) (by kernel_rfl) (by kernel_rfl) (fun _ _ _ h => h) (gives_value (by rfl) ?_) (by assumption) ?_
                                rotate_left
                                · intro w hSw
                                  (try dsimp only at hSw)
                                  go_simp
                                  (try with_reducible rfl)
                                (try simp only [Act.put, List.getElem_toArray, List.getElem_cons_succ, List.getElem_cons_zero, List.setIfInBounds_toArray, List.set_cons_zero, List.set_cons_succ])
                                refine wpAnyZ_done (by kernel_rfl) ?_ _
                                have FZ := Lib.hid (Fm5.out.on HBn9.out)
                                clear hH SS
                                go_wp2
                                go_ret
                                exact ⟨rfl, FZ.out.below⟩
end Go.Proofs.Ytgkieelacjcopaa
