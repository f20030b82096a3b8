/- DeltaForms: edits by hand (laid by gen_dforms.py). -/
import Derived.Test.YtbellnanikaffaaDSame
namespace Go.Proofs.Ytbellnanikaffaa
open Go.RowKit
set_option linter.unusedSimpArgs false

def lays (w : World) : List Obj → World
  | [] => w
  | b :: l => lays (w.alloc b) l
theorem lays_below {w0 : World} {B : Nat} : ∀ (l : List Obj) {w : World}, Below B w0 w → B ≤ w.heap.size → Below B w0 (lays w l)
  | [], _, h, _ => h
  | b :: l, w, h, hB => lays_below l (h.alloc hB b) (by simp; omega)
theorem lays_keep {B : Nat} {c : List Value} : ∀ (l : List Obj) {w : World}, Blk w B c → Blk (lays w l) B c
  | [], _, h => h
  | b :: l, _, h => lays_keep l (h.alloc b)
theorem lays_blk {c : Array Value} {t : TypeId} : ∀ (l : List Obj) (w : World) (k : Nat), l[k]? = some (.cells c t) → Blk (lays w l) (w.heap.size + k) c.toList
  | [], _, _, h => by simp at h
  | b :: l, w, 0, h => by
    obtain rfl : b = .cells c t := by simpa using h
    exact lays_keep l (blk_new w c t)
  | b :: l, w, k + 1, h => by
    have := lays_blk l (w.alloc b) k (by simpa using h)
    rw [show (w.alloc b).heap.size + k = w.heap.size + (k + 1) by simp; omega] at this
    exact this
/-- an edit lies in a variable: what it says -/
def EBox (W : World) (g : Nat) (pt : List (Int × List Int × List Int)) (l i : List Hold) : Prop := ∃ At Al Ai ct cl ci f, f.map Turn.pl = pt ∧ W.cell? ⟨g, 0, none⟩ = some (.slice At f.length ct) ∧ W.cell? ⟨g, 1, none⟩ = some (.slice Al l.length cl) ∧ W.cell? ⟨g, 2, none⟩ = some (.slice Ai i.length ci) ∧ EditIn W At Al Ai ct cl ci ⟨f, l, i⟩ ∧ g < W.heap.size
theorem EBox.below {W W' : World} {g : Nat} {pt : List (Int × List Int × List Int)} {l i : List Hold} (h : EBox W g pt l i) (hb : Below W.heap.size W W') : EBox W' g pt l i := by
  obtain ⟨At, Al, Ai, ct, cl, ci, f, h1, h2, h3, h4, h5, h6⟩ := h
  exact ⟨At, Al, Ai, ct, cl, ci, f, h1, (hb.cell (p := ⟨g, 0, none⟩) h6).trans h2, (hb.cell (p := ⟨g, 1, none⟩) h6).trans h3, (hb.cell (p := ⟨g, 2, none⟩) h6).trans h4, h5.below hb, Nat.lt_of_lt_of_le h6 hb.size⟩
theorem nm_of {f : List Turn} {pt : List (Int × List Int × List Int)} (h : f.map Turn.pl = pt) (hp : ∀ p ∈ pt, p.2.1.length ≤ 1000000 ∧ p.2.2.length ≤ 1000000) : ∀ t ∈ f, t.b.length ≤ 1000000 ∧ t.a.length ≤ 1000000 := fun t ht => hp t.pl (by rw [← h]; exact List.mem_map_of_mem ht)
def formD_l (S : Nat) : List Obj := [
  .cells #[.int .i64 3, .int .i64 1] 3,
  .cells #[.int .i64 1] 3,
  .cells #[.int .i64 5] 3,
  .cells #[.int .i64 5] 3,
  .cells #[.int .i64 7, .int .i64 3] 3,
  .cells #[.int .i64 2, .slice (some ⟨S, 0, none⟩) 2 2, .slice (some ⟨S + 1, 0, none⟩) 1 1, .int .i64 0, .slice (some ⟨S + 2, 0, none⟩) 1 1, .slice (some ⟨S + 3, 0, none⟩) 1 1, .int .i64 1, .slice none 0 0, .slice (some ⟨S + 4, 0, none⟩) 2 2] 24,
  .cells #[.int .i64 4, .int .i64 (-1), .int .i64 2, .int .i64 2, .int .i64 1, .int .i64 1, .int .i64 1, .int .i64 0, .int .i64 (-1)] 27,
  .cells #[.int .i64 1, .int .i64 (-1), .int .i64 (-1)] 27,
  .cells #[.slice (some ⟨S + 5, 0, none⟩) 3 3, .slice (some ⟨S + 6, 0, none⟩) 3 3, .slice (some ⟨S + 7, 0, none⟩) 1 1] 30]
set_option maxRecDepth 100000 in
theorem formD_lay (w : World) : EBox (lays w (formD_l w.heap.size)) (w.heap.size + 8) [(2, [3, 1], [1]), (0, [5], [5]), (1, [], [7, 3])] [⟨4, -1, 2⟩, ⟨2, 1, 1⟩, ⟨1, 0, -1⟩] [⟨1, -1, -1⟩] := by
  have b0 := lays_blk (c := #[.int .i64 3, .int .i64 1]) (t := 3) (formD_l w.heap.size) w 0 rfl
  have b1 := lays_blk (c := #[.int .i64 1]) (t := 3) (formD_l w.heap.size) w 1 rfl
  have b2 := lays_blk (c := #[.int .i64 5]) (t := 3) (formD_l w.heap.size) w 2 rfl
  have b3 := lays_blk (c := #[.int .i64 5]) (t := 3) (formD_l w.heap.size) w 3 rfl
  have b4 := lays_blk (c := #[.int .i64 7, .int .i64 3]) (t := 3) (formD_l w.heap.size) w 4 rfl
  have b5 := lays_blk (c := #[.int .i64 2, .slice (some ⟨w.heap.size, 0, none⟩) 2 2, .slice (some ⟨w.heap.size + 1, 0, none⟩) 1 1, .int .i64 0, .slice (some ⟨w.heap.size + 2, 0, none⟩) 1 1, .slice (some ⟨w.heap.size + 3, 0, none⟩) 1 1, .int .i64 1, .slice none 0 0, .slice (some ⟨w.heap.size + 4, 0, none⟩) 2 2]) (t := 24) (formD_l w.heap.size) w 5 rfl
  have b6 := lays_blk (c := #[.int .i64 4, .int .i64 (-1), .int .i64 2, .int .i64 2, .int .i64 1, .int .i64 1, .int .i64 1, .int .i64 0, .int .i64 (-1)]) (t := 27) (formD_l w.heap.size) w 6 rfl
  have b7 := lays_blk (c := #[.int .i64 1, .int .i64 (-1), .int .i64 (-1)]) (t := 27) (formD_l w.heap.size) w 7 rfl
  have b8 := lays_blk (c := #[.slice (some ⟨w.heap.size + 5, 0, none⟩) 3 3, .slice (some ⟨w.heap.size + 6, 0, none⟩) 3 3, .slice (some ⟨w.heap.size + 7, 0, none⟩) 1 1]) (t := 30) (formD_l w.heap.size) w 8 rfl
  refine ⟨some ⟨w.heap.size + 5, 0, none⟩, some ⟨w.heap.size + 6, 0, none⟩, some ⟨w.heap.size + 7, 0, none⟩, 3, 3, 1, [⟨2, (.slice (some ⟨w.heap.size + 0, 0, none⟩) 2 2), (.slice (some ⟨w.heap.size + 1, 0, none⟩) 1 1), [3, 1], [1]⟩, ⟨0, (.slice (some ⟨w.heap.size + 2, 0, none⟩) 1 1), (.slice (some ⟨w.heap.size + 3, 0, none⟩) 1 1), [5], [5]⟩, ⟨1, (.slice none 0 0), (.slice (some ⟨w.heap.size + 4, 0, none⟩) 2 2), [], [7, 3]⟩], rfl, b8.at0.1, b8.at1.1, b8.at2.1,
    ⟨⟨rows_blk (l := [⟨2, (.slice (some ⟨w.heap.size + 0, 0, none⟩) 2 2), (.slice (some ⟨w.heap.size + 1, 0, none⟩) 1 1), [3, 1], [1]⟩, ⟨0, (.slice (some ⟨w.heap.size + 2, 0, none⟩) 1 1), (.slice (some ⟨w.heap.size + 3, 0, none⟩) 1 1), [5], [5]⟩, ⟨1, (.slice none 0 0), (.slice (some ⟨w.heap.size + 4, 0, none⟩) 2 2), [], [7, 3]⟩]) b5 turn_len, fun t ht => ?_⟩, rows_blk (l := ([⟨4, -1, 2⟩, ⟨2, 1, 1⟩, ⟨1, 0, -1⟩] : List Hold)) b6 hold_len, rows_blk (l := ([⟨1, -1, -1⟩] : List Hold)) b7 hold_len, by simp, by simp, by simp, nm_of (pt := [(2, [3, 1], [1]), (0, [5], [5]), (1, [], [7, 3])]) rfl (by decide)⟩, b8.1⟩
  rcases List.mem_cons.1 ht with rfl | ht
  · exact ⟨(show Recs _ 1 num_ (.slice (some ⟨w.heap.size + 0, 0, none⟩) 2 2) [3, 1] from recs_blk (l := [3, 1]) b0), (show Recs _ 1 num_ (.slice (some ⟨w.heap.size + 1, 0, none⟩) 1 1) [1] from recs_blk (l := [1]) b1)⟩
  rcases List.mem_cons.1 ht with rfl | ht
  · exact ⟨(show Recs _ 1 num_ (.slice (some ⟨w.heap.size + 2, 0, none⟩) 1 1) [5] from recs_blk (l := [5]) b2), (show Recs _ 1 num_ (.slice (some ⟨w.heap.size + 3, 0, none⟩) 1 1) [5] from recs_blk (l := [5]) b3)⟩
  obtain rfl := List.mem_singleton.1 ht
  exact ⟨(show Recs _ 1 num_ (.slice none 0 0) [] from Recs.nil), (show Recs _ 1 num_ (.slice (some ⟨w.heap.size + 4, 0, none⟩) 2 2) [7, 3] from recs_blk (l := [7, 3]) b4)⟩
def formW_l (S : Nat) : List Obj := [
  .cells #[.int .i64 7, .int .i64 3] 3,
  .cells #[.int .i64 3, .int .i64 1] 3,
  .cells #[.int .i64 1] 3,
  .cells #[.int .i64 1, .slice none 0 0, .slice (some ⟨S, 0, none⟩) 2 2, .int .i64 2, .slice (some ⟨S + 1, 0, none⟩) 2 2, .slice (some ⟨S + 2, 0, none⟩) 1 1] 24,
  .cells #[.int .i64 1, .int .i64 0, .int .i64 (-1), .int .i64 4, .int .i64 (-1), .int .i64 2] 27,
  .cells #[.slice (some ⟨S + 3, 0, none⟩) 2 2, .slice (some ⟨S + 4, 0, none⟩) 2 2, .slice none 0 0] 30]
set_option maxRecDepth 100000 in
theorem formW_lay (w : World) : EBox (lays w (formW_l w.heap.size)) (w.heap.size + 5) [(1, [], [7, 3]), (2, [3, 1], [1])] [⟨1, 0, -1⟩, ⟨4, -1, 2⟩] [] := by
  have b0 := lays_blk (c := #[.int .i64 7, .int .i64 3]) (t := 3) (formW_l w.heap.size) w 0 rfl
  have b1 := lays_blk (c := #[.int .i64 3, .int .i64 1]) (t := 3) (formW_l w.heap.size) w 1 rfl
  have b2 := lays_blk (c := #[.int .i64 1]) (t := 3) (formW_l w.heap.size) w 2 rfl
  have b3 := lays_blk (c := #[.int .i64 1, .slice none 0 0, .slice (some ⟨w.heap.size, 0, none⟩) 2 2, .int .i64 2, .slice (some ⟨w.heap.size + 1, 0, none⟩) 2 2, .slice (some ⟨w.heap.size + 2, 0, none⟩) 1 1]) (t := 24) (formW_l w.heap.size) w 3 rfl
  have b4 := lays_blk (c := #[.int .i64 1, .int .i64 0, .int .i64 (-1), .int .i64 4, .int .i64 (-1), .int .i64 2]) (t := 27) (formW_l w.heap.size) w 4 rfl
  have b5 := lays_blk (c := #[.slice (some ⟨w.heap.size + 3, 0, none⟩) 2 2, .slice (some ⟨w.heap.size + 4, 0, none⟩) 2 2, .slice none 0 0]) (t := 30) (formW_l w.heap.size) w 5 rfl
  refine ⟨some ⟨w.heap.size + 3, 0, none⟩, some ⟨w.heap.size + 4, 0, none⟩, none, 2, 2, 0, [⟨1, (.slice none 0 0), (.slice (some ⟨w.heap.size + 0, 0, none⟩) 2 2), [], [7, 3]⟩, ⟨2, (.slice (some ⟨w.heap.size + 1, 0, none⟩) 2 2), (.slice (some ⟨w.heap.size + 2, 0, none⟩) 1 1), [3, 1], [1]⟩], rfl, b5.at0.1, b5.at1.1, b5.at2.1,
    ⟨⟨rows_blk (l := [⟨1, (.slice none 0 0), (.slice (some ⟨w.heap.size + 0, 0, none⟩) 2 2), [], [7, 3]⟩, ⟨2, (.slice (some ⟨w.heap.size + 1, 0, none⟩) 2 2), (.slice (some ⟨w.heap.size + 2, 0, none⟩) 1 1), [3, 1], [1]⟩]) b3 turn_len, fun t ht => ?_⟩, rows_blk (l := ([⟨1, 0, -1⟩, ⟨4, -1, 2⟩] : List Hold)) b4 hold_len, rows_nil, by simp, by simp, by simp, nm_of (pt := [(1, [], [7, 3]), (2, [3, 1], [1])]) rfl (by decide)⟩, b5.1⟩
  rcases List.mem_cons.1 ht with rfl | ht
  · exact ⟨(show Recs _ 1 num_ (.slice none 0 0) [] from Recs.nil), (show Recs _ 1 num_ (.slice (some ⟨w.heap.size + 0, 0, none⟩) 2 2) [7, 3] from recs_blk (l := [7, 3]) b0)⟩
  obtain rfl := List.mem_singleton.1 ht
  exact ⟨(show Recs _ 1 num_ (.slice (some ⟨w.heap.size + 1, 0, none⟩) 2 2) [3, 1] from recs_blk (l := [3, 1]) b1), (show Recs _ 1 num_ (.slice (some ⟨w.heap.size + 2, 0, none⟩) 1 1) [1] from recs_blk (l := [1]) b2)⟩
def formB_l (S : Nat) : List Obj := [
  .cells #[.int .i64 7, .int .i64 3] 3,
  .cells #[.int .i64 1] 3,
  .cells #[.int .i64 3, .int .i64 1] 3,
  .cells #[.int .i64 1, .slice (some ⟨S, 0, none⟩) 2 2, .slice none 0 0, .int .i64 2, .slice (some ⟨S + 1, 0, none⟩) 1 1, .slice (some ⟨S + 2, 0, none⟩) 2 2] 24,
  .cells #[.int .i64 1, .int .i64 (-1), .int .i64 0, .int .i64 4, .int .i64 2, .int .i64 (-1)] 27,
  .cells #[.slice (some ⟨S + 3, 0, none⟩) 2 2, .slice (some ⟨S + 4, 0, none⟩) 2 2, .slice none 0 0] 30]
set_option maxRecDepth 100000 in
theorem formB_lay (w : World) : EBox (lays w (formB_l w.heap.size)) (w.heap.size + 5) [(1, [7, 3], []), (2, [1], [3, 1])] [⟨1, -1, 0⟩, ⟨4, 2, -1⟩] [] := by
  have b0 := lays_blk (c := #[.int .i64 7, .int .i64 3]) (t := 3) (formB_l w.heap.size) w 0 rfl
  have b1 := lays_blk (c := #[.int .i64 1]) (t := 3) (formB_l w.heap.size) w 1 rfl
  have b2 := lays_blk (c := #[.int .i64 3, .int .i64 1]) (t := 3) (formB_l w.heap.size) w 2 rfl
  have b3 := lays_blk (c := #[.int .i64 1, .slice (some ⟨w.heap.size, 0, none⟩) 2 2, .slice none 0 0, .int .i64 2, .slice (some ⟨w.heap.size + 1, 0, none⟩) 1 1, .slice (some ⟨w.heap.size + 2, 0, none⟩) 2 2]) (t := 24) (formB_l w.heap.size) w 3 rfl
  have b4 := lays_blk (c := #[.int .i64 1, .int .i64 (-1), .int .i64 0, .int .i64 4, .int .i64 2, .int .i64 (-1)]) (t := 27) (formB_l w.heap.size) w 4 rfl
  have b5 := lays_blk (c := #[.slice (some ⟨w.heap.size + 3, 0, none⟩) 2 2, .slice (some ⟨w.heap.size + 4, 0, none⟩) 2 2, .slice none 0 0]) (t := 30) (formB_l w.heap.size) w 5 rfl
  refine ⟨some ⟨w.heap.size + 3, 0, none⟩, some ⟨w.heap.size + 4, 0, none⟩, none, 2, 2, 0, [⟨1, (.slice (some ⟨w.heap.size + 0, 0, none⟩) 2 2), (.slice none 0 0), [7, 3], []⟩, ⟨2, (.slice (some ⟨w.heap.size + 1, 0, none⟩) 1 1), (.slice (some ⟨w.heap.size + 2, 0, none⟩) 2 2), [1], [3, 1]⟩], rfl, b5.at0.1, b5.at1.1, b5.at2.1,
    ⟨⟨rows_blk (l := [⟨1, (.slice (some ⟨w.heap.size + 0, 0, none⟩) 2 2), (.slice none 0 0), [7, 3], []⟩, ⟨2, (.slice (some ⟨w.heap.size + 1, 0, none⟩) 1 1), (.slice (some ⟨w.heap.size + 2, 0, none⟩) 2 2), [1], [3, 1]⟩]) b3 turn_len, fun t ht => ?_⟩, rows_blk (l := ([⟨1, -1, 0⟩, ⟨4, 2, -1⟩] : List Hold)) b4 hold_len, rows_nil, by simp, by simp, by simp, nm_of (pt := [(1, [7, 3], []), (2, [1], [3, 1])]) rfl (by decide)⟩, b5.1⟩
  rcases List.mem_cons.1 ht with rfl | ht
  · exact ⟨(show Recs _ 1 num_ (.slice (some ⟨w.heap.size + 0, 0, none⟩) 2 2) [7, 3] from recs_blk (l := [7, 3]) b0), (show Recs _ 1 num_ (.slice none 0 0) [] from Recs.nil)⟩
  obtain rfl := List.mem_singleton.1 ht
  exact ⟨(show Recs _ 1 num_ (.slice (some ⟨w.heap.size + 1, 0, none⟩) 1 1) [1] from recs_blk (l := [1]) b1), (show Recs _ 1 num_ (.slice (some ⟨w.heap.size + 2, 0, none⟩) 2 2) [3, 1] from recs_blk (l := [3, 1]) b2)⟩

theorem formD_tidy {f : List Turn} (h : f.map Turn.pl = [(2, [3, 1], [1]), (0, [5], [5]), (1, [], [7, 3])]) : (tidyT f).map Turn.pl = [(1, [], [7, 3]), (2, [3, 1], [1])] := by
  have e : ∀ l : List Turn, (sortBy Turn.c l).map Turn.pl = sortBy Prod.fst (l.map Turn.pl) := fun l => sortBy_map Prod.fst Turn.pl l
  have e2 : ∀ l : List Turn, (l.filter fun t => decide (t.b ≠ t.a)).map Turn.pl = (l.map Turn.pl).filter (fun p => decide (p.2.1 ≠ p.2.2)) := fun l => by
    rw [List.filter_map]; rfl
  unfold tidyT
  rw [e, e2, h]
  rfl
theorem formD_empty {f : List Turn} (h : f.map Turn.pl = [(2, [3, 1], [1]), (0, [5], [5]), (1, [], [7, 3])]) (i : List Hold) (l : List Hold) : emptyE ⟨f, l, i⟩ = false := by
  have e2 : ∀ l : List Turn, (offT l).map Turn.pl = (l.map Turn.pl).filter (fun p => decide (p.2.1 ≠ p.2.2)) := fun l => by
    unfold offT; rw [List.filter_map]; rfl
  have : ((offT f).map Turn.pl).length = 2 := by rw [e2, h]; rfl
  rw [List.length_map] at this
  unfold emptyE
  rcases hq : offT f with _ | ⟨a, q⟩
  · rw [hq] at this; simp at this
  · simp [hq]
theorem formD_twice {f : List Turn} (h : f.map Turn.pl = [(2, [3, 1], [1]), (0, [5], [5]), (1, [], [7, 3])]) : twiceE ⟨f, [⟨4, -1, 2⟩, ⟨2, 1, 1⟩, ⟨1, 0, -1⟩], [⟨1, -1, -1⟩]⟩ = false := by
  have h1 : f.map Turn.c = [2, 0, 1] := by
    have : f.map Turn.c = (f.map Turn.pl).map Prod.fst := by rw [List.map_map]; rfl
    rw [this, h]; rfl
  have nt : ∀ l : List Int, l.Nodup → twiceI l = false := fun l hl => by
    rcases hq : twiceI l with _ | _
    · rfl
    · exact absurd hl ((twiceI_iff l).1 hq)
  unfold twiceE
  simp only
  rw [h1, nt _ (by decide), nt _ (by decide), nt _ (by decide)]
  rfl
theorem formD_moved {f : List Turn} (h : f.map Turn.pl = [(2, [3, 1], [1]), (0, [5], [5]), (1, [], [7, 3])]) (l i : List Hold) : movedE ⟨f, l, i⟩ = [7] := by
  refine strict_same (movedE_strict _) (List.pairwise_singleton _ _) fun a => ?_
  rw [movedE_mem]
  have eb : ∀ f : List Turn, f.flatMap Turn.b = (f.map Turn.pl).flatMap (fun p => p.2.1) := fun f => by simp [List.flatMap_map, Turn.pl]
  have ea : ∀ f : List Turn, f.flatMap Turn.a = (f.map Turn.pl).flatMap (fun p => p.2.2) := fun f => by simp [List.flatMap_map, Turn.pl]
  unfold befE aftE
  simp only
  rw [eb, ea, h]
  simp only [List.flatMap_cons, List.flatMap_nil, List.append_nil, List.mem_append, List.mem_cons, List.not_mem_nil, or_false]
  omega
theorem form_same {f : List Turn} (h : f.map Turn.pl = [(1, [], [7, 3]), (2, [3, 1], [1])]) : f.map Turn.fl = [(1, [7, 3], []), (2, [1], [3, 1])] := by
  have : f.map Turn.fl = (f.map Turn.pl).map (fun p => (p.1, p.2.2, p.2.1)) := by rw [List.map_map]; rfl
  rw [this, h]; rfl
def form3_l (x : Int) (S : Nat) : List Obj := [.cells #[.int .i64 x, .slice none 0 0, .slice none 0 0, .int .i64 x, .slice none 0 0, .slice none 0 0] 24, .cells #[.int .i64 x, .int .i64 0, .int .i64 0, .int .i64 x, .int .i64 0, .int .i64 1] 27, .cells #[.int .i64 x, .int .i64 0, .int .i64 0, .int .i64 x, .int .i64 0, .int .i64 0] 27, .cells #[.slice (some ⟨S, 0, none⟩) 2 2, .slice none 0 0, .slice none 0 0, .slice none 0 0, .slice (some ⟨S + 1, 0, none⟩) 2 2, .slice none 0 0, .slice none 0 0, .slice none 0 0, .slice (some ⟨S + 2, 0, none⟩) 2 2] 30]
theorem form_e3 : ∀ {x y : Value}, emptyE ⟨[⟨3, x, y, [1], [1]⟩], [], [⟨1, 2, 2⟩]⟩ = true := rfl
theorem twice_pair (x : Int) : twiceI [x, x] = true := (twiceI_iff _).2 (by simp)
set_option maxRecDepth 100000 in
set_option maxHeartbeats 60000000 in
theorem forms7_walk (n : Int) (w : World) : Calls Try.prog 3 #[.int .i64 n] w fun e w' => e = .returned (.bool true) ∧ Below w.heap.size w w' := by
  go_enter Try.func3, Try.ntmps3
  go_upto_region 1 with (fail)
  go_cut [3] from 9 to 25 (fun dv wc => ∃ gd, dv = .pointer (some ⟨gd, 0, none⟩) ∧ EBox wc gd [(2, [3, 1], [1]), (0, [5], [5]), (1, [], [7, 3])] [⟨4, -1, 2⟩, ⟨2, 1, 1⟩, ⟨1, 0, -1⟩] [⟨1, -1, -1⟩] ∧ Below w.heap.size w wc)
  case first =>
    go_wp2_with (fail)
    go_meet
    exact ⟨_, rfl, formD_lay w, lays_below (formD_l w.heap.size) (Below.refl _ _) (Nat.le_refl _)⟩
  case rest =>
    obtain ⟨gd, rfl, hD, hb⟩ := hcut
    have HD := Lib.hid hD
    have HB := Lib.hid hb
    obtain ⟨At, Al, Ai, ct, cl, ci, f, hf, d0, d1, d2, hE, hgd⟩ := hD
    clear hb
    have LDh : Hid (([⟨4, -1, 2⟩, ⟨2, 1, 1⟩, ⟨1, 0, -1⟩] : List Hold) = [⟨4, -1, 2⟩, ⟨2, 1, 1⟩, ⟨1, 0, -1⟩]) := Lib.hid rfl
    have hTi := formD_tidy hf
    have K := Lib.hid (tidy_any At Al Ai ct cl ci _ wc hE)
    generalize hLL : ([⟨4, -1, 2⟩, ⟨2, 1, 1⟩, ⟨1, 0, -1⟩] : List Hold) = ld at *
    generalize hII : ([⟨1, -1, -1⟩] : List Hold) = id_ at *
    have KLt : Hid (holdsL ld = [⟨1, 0, -1⟩, ⟨4, -1, 2⟩]) := Lib.hid (by rw [← hLL]; rfl)
    have KIt : Hid (holdsL id_ = []) := Lib.hid (by rw [← hII]; rfl)
    have HLL := Lib.hid hLL
    have HII := Lib.hid hII
    clear hLL hII
    clear hE hf
    go_upto_region 3 with (go_at_call 6; refine K.out.mono ?_; rintro e w2 ⟨v1, v2, v3, f2, rfl, hn2, hf2, h2, h3, hb2⟩; obtain ⟨T1, U1, rfl, _⟩ := own_slice_n hn2.1; obtain ⟨T2, U2, rfl, _⟩ := own_slice_n h2; obtain ⟨T3, U3, rfl, _⟩ := own_slice_n h3)
    have HT : Hid (EBox (w2.alloc (.cells #[.slice T1 f2.length U1, .slice T2 (holdsL ld).length U2, .slice T3 (holdsL id_).length U3] 30)) w2.heap.size [(1, [], [7, 3]), (2, [3, 1], [1])] [⟨1, 0, -1⟩, ⟨4, -1, 2⟩] []) := Lib.hid (by
      have hb := (Below.refl w2.heap.size w2).alloc (Nat.le_refl _) (.cells #[.slice T1 f2.length U1, .slice T2 (holdsL ld).length U2, .slice T3 (holdsL id_).length U3] 30)
      have B := blk_new w2 #[.slice T1 f2.length U1, .slice T2 (holdsL ld).length U2, .slice T3 (holdsL id_).length U3] 30
      have hp : f2.map Turn.pl = [(1, [], [7, 3]), (2, [3, 1], [1])] := hf2.trans hTi
      have hl : f2.length = 2 := by have := congrArg List.length hp; simpa using this
      rw [KLt.out] at h2 B hb ⊢
      rw [KIt.out] at h3 B hb ⊢
      exact ⟨T1, T2, T3, U1, U2, U3, f2, hp, B.at0.1, B.at1.1, B.at2.1, ⟨(hn2.turns).below hb, (Rows.of_own (l := ([⟨1, 0, -1⟩, ⟨4, -1, 2⟩] : List Hold)) h2 hold_len).below hb, (Rows.of_own (l := ([] : List Hold)) h3 hold_len).below hb, (by show f2.length < 20; omega), by simp, by simp, nm_of hp (by decide)⟩, B.1⟩)
    have HB2 : Hid (Below wc.heap.size wc (w2.alloc (.cells #[.slice T1 f2.length U1, .slice T2 (holdsL ld).length U2, .slice T3 (holdsL id_).length U3] 30))) := Lib.hid (hb2.alloc hb2.size _)
    generalize w2.alloc (.cells #[.slice T1 f2.length U1, .slice T2 (holdsL ld).length U2, .slice T3 (holdsL id_).length U3] 30) = w3 at *
    generalize w2.heap.size = gt at *
    replace HD := Lib.hid (HD.out.below HB2.out)
    replace HB := Lib.hid (HB.out.trans (HB2.out.mono HB.out.size))
    clear hn2 hf2 h2 h3 hb2 K HB2 d0 d1 d2 hTi KLt KIt LDh
    go_cut [5] from 27 to 37 (fun dv wb => ∃ gd, dv = .pointer (some ⟨gd, 0, none⟩) ∧ EBox wb gd [(1, [], [7, 3]), (2, [3, 1], [1])] [⟨1, 0, -1⟩, ⟨4, -1, 2⟩] [] ∧ Below w3.heap.size w3 wb)
    case first =>
      go_wp2_with (fail)
      go_meet
      exact ⟨_, rfl, formW_lay w3, lays_below (formW_l w3.heap.size) (Below.refl _ _) (Nat.le_refl _)⟩
    case rest =>
      obtain ⟨gw, rfl, hW, hb⟩ := hcut
      replace HD := Lib.hid (HD.out.below hb)
      replace HT := Lib.hid (HT.out.below hb)
      have HW := Lib.hid hW
      replace HB := Lib.hid (HB.out.trans (hb.mono HB.out.size))
      clear hW hb
      go_upto_region 4 with (fail)
      go_cut [6] from 37 to 47 (fun dv wd => ∃ gd, dv = .pointer (some ⟨gd, 0, none⟩) ∧ EBox wd gd [(1, [7, 3], []), (2, [1], [3, 1])] [⟨1, -1, 0⟩, ⟨4, 2, -1⟩] [] ∧ Below wc.heap.size wc wd)
      case first =>
        go_wp2_with (fail)
        go_meet
        exact ⟨_, rfl, formB_lay wc, lays_below (formB_l wc.heap.size) (Below.refl _ _) (Nat.le_refl _)⟩
      case rest =>
        obtain ⟨gb, rfl, hBk, hb⟩ := hcut
        obtain ⟨wd, hwd⟩ : ∃ W, W = wc := ⟨_, rfl⟩
        rw [← hwd] at hBk hb ⊢
        clear hwd
        replace HD := Lib.hid (HD.out.below hb)
        replace HT := Lib.hid (HT.out.below hb)
        replace HW := Lib.hid (HW.out.below hb)
        have HK := Lib.hid hBk
        replace HB := Lib.hid (HB.out.trans (hb.mono HB.out.size))
        clear hBk hb
        go_upto_region 5 with (fail)
        have KW := Lib.hid (within_any n 9 wd (by omega) (by omega))
        generalize withinI n 9 = x at *
        go_upto_region 6 with (go_at_call 7; refine KW.out.mono ?_; rintro e w5 ⟨rfl, rfl⟩)
        have P0 := Lib.hid (lays_blk (c := #[.int .i64 x, .slice none 0 0, .slice none 0 0, .int .i64 x, .slice none 0 0, .slice none 0 0]) (t := 24) (form3_l x wd.heap.size) wd 0 rfl)
        have P1 := Lib.hid (lays_blk (c := #[.int .i64 x, .int .i64 0, .int .i64 0, .int .i64 x, .int .i64 0, .int .i64 1]) (t := 27) (form3_l x wd.heap.size) wd 1 rfl)
        have P2 := Lib.hid (lays_blk (c := #[.int .i64 x, .int .i64 0, .int .i64 0, .int .i64 x, .int .i64 0, .int .i64 0]) (t := 27) (form3_l x wd.heap.size) wd 2 rfl)
        have P3 := Lib.hid (lays_blk (c := #[.slice (some ⟨wd.heap.size, 0, none⟩) 2 2, .slice none 0 0, .slice none 0 0, .slice none 0 0, .slice (some ⟨wd.heap.size + 1, 0, none⟩) 2 2, .slice none 0 0, .slice none 0 0, .slice none 0 0, .slice (some ⟨wd.heap.size + 2, 0, none⟩) 2 2]) (t := 30) (form3_l x wd.heap.size) wd 3 rfl)
        have HL := Lib.hid (lays_below (form3_l x wd.heap.size) (Below.refl wd.heap.size wd) (Nat.le_refl _))
        go_wp2_with (fail)
        change Hid (Blk ((((wd.alloc (.cells #[.int .i64 x, .slice none 0 0, .slice none 0 0, .int .i64 x, .slice none 0 0, .slice none 0 0] 24)).alloc (.cells #[.int .i64 x, .int .i64 0, .int .i64 0, .int .i64 x, .int .i64 0, .int .i64 1] 27)).alloc (.cells #[.int .i64 x, .int .i64 0, .int .i64 0, .int .i64 x, .int .i64 0, .int .i64 0] 27)).alloc (.cells #[.slice (some ⟨wd.heap.size, 0, none⟩) 2 2, .slice none 0 0, .slice none 0 0, .slice none 0 0, .slice (some ⟨wd.heap.size + 1, 0, none⟩) 2 2, .slice none 0 0, .slice none 0 0, .slice none 0 0, .slice (some ⟨wd.heap.size + 1 + 1, 0, none⟩) 2 2] 30)) wd.heap.size _) at P0
        change Hid (Blk ((((wd.alloc (.cells #[.int .i64 x, .slice none 0 0, .slice none 0 0, .int .i64 x, .slice none 0 0, .slice none 0 0] 24)).alloc (.cells #[.int .i64 x, .int .i64 0, .int .i64 0, .int .i64 x, .int .i64 0, .int .i64 1] 27)).alloc (.cells #[.int .i64 x, .int .i64 0, .int .i64 0, .int .i64 x, .int .i64 0, .int .i64 0] 27)).alloc (.cells #[.slice (some ⟨wd.heap.size, 0, none⟩) 2 2, .slice none 0 0, .slice none 0 0, .slice none 0 0, .slice (some ⟨wd.heap.size + 1, 0, none⟩) 2 2, .slice none 0 0, .slice none 0 0, .slice none 0 0, .slice (some ⟨wd.heap.size + 1 + 1, 0, none⟩) 2 2] 30)) (wd.heap.size + 1) _) at P1
        change Hid (Blk ((((wd.alloc (.cells #[.int .i64 x, .slice none 0 0, .slice none 0 0, .int .i64 x, .slice none 0 0, .slice none 0 0] 24)).alloc (.cells #[.int .i64 x, .int .i64 0, .int .i64 0, .int .i64 x, .int .i64 0, .int .i64 1] 27)).alloc (.cells #[.int .i64 x, .int .i64 0, .int .i64 0, .int .i64 x, .int .i64 0, .int .i64 0] 27)).alloc (.cells #[.slice (some ⟨wd.heap.size, 0, none⟩) 2 2, .slice none 0 0, .slice none 0 0, .slice none 0 0, .slice (some ⟨wd.heap.size + 1, 0, none⟩) 2 2, .slice none 0 0, .slice none 0 0, .slice none 0 0, .slice (some ⟨wd.heap.size + 1 + 1, 0, none⟩) 2 2] 30)) (wd.heap.size + 1 + 1) _) at P2
        change Hid (Blk ((((wd.alloc (.cells #[.int .i64 x, .slice none 0 0, .slice none 0 0, .int .i64 x, .slice none 0 0, .slice none 0 0] 24)).alloc (.cells #[.int .i64 x, .int .i64 0, .int .i64 0, .int .i64 x, .int .i64 0, .int .i64 1] 27)).alloc (.cells #[.int .i64 x, .int .i64 0, .int .i64 0, .int .i64 x, .int .i64 0, .int .i64 0] 27)).alloc (.cells #[.slice (some ⟨wd.heap.size, 0, none⟩) 2 2, .slice none 0 0, .slice none 0 0, .slice none 0 0, .slice (some ⟨wd.heap.size + 1, 0, none⟩) 2 2, .slice none 0 0, .slice none 0 0, .slice none 0 0, .slice (some ⟨wd.heap.size + 1 + 1, 0, none⟩) 2 2] 30)) (wd.heap.size + 1 + 1 + 1) _) at P3
        change Hid (Below wd.heap.size wd ((((wd.alloc (.cells #[.int .i64 x, .slice none 0 0, .slice none 0 0, .int .i64 x, .slice none 0 0, .slice none 0 0] 24)).alloc (.cells #[.int .i64 x, .int .i64 0, .int .i64 0, .int .i64 x, .int .i64 0, .int .i64 1] 27)).alloc (.cells #[.int .i64 x, .int .i64 0, .int .i64 0, .int .i64 x, .int .i64 0, .int .i64 0] 27)).alloc (.cells #[.slice (some ⟨wd.heap.size, 0, none⟩) 2 2, .slice none 0 0, .slice none 0 0, .slice none 0 0, .slice (some ⟨wd.heap.size + 1, 0, none⟩) 2 2, .slice none 0 0, .slice none 0 0, .slice none 0 0, .slice (some ⟨wd.heap.size + 1 + 1, 0, none⟩) 2 2] 30))) at HL
        generalize ((((wd.alloc (.cells #[.int .i64 x, .slice none 0 0, .slice none 0 0, .int .i64 x, .slice none 0 0, .slice none 0 0] 24)).alloc (.cells #[.int .i64 x, .int .i64 0, .int .i64 0, .int .i64 x, .int .i64 0, .int .i64 1] 27)).alloc (.cells #[.int .i64 x, .int .i64 0, .int .i64 0, .int .i64 x, .int .i64 0, .int .i64 0] 27)).alloc (.cells #[.slice (some ⟨wd.heap.size, 0, none⟩) 2 2, .slice none 0 0, .slice none 0 0, .slice none 0 0, .slice (some ⟨wd.heap.size + 1, 0, none⟩) 2 2, .slice none 0 0, .slice none 0 0, .slice none 0 0, .slice (some ⟨wd.heap.size + 1 + 1, 0, none⟩) 2 2] 30)) = wl at *
        have E0 : Hid (∀ W, Below wl.heap.size wl W → Calls Try.prog 8 #[.agg #[.slice (some ⟨wd.heap.size, 0, none⟩) 2 2, .slice none 0 0, .slice none 0 0]] W fun e w' => e = .returned (.int .i64 1) ∧ Below W.heap.size W w') := Lib.hid (fun W hb => check_any (some ⟨wd.heap.size, 0, none⟩) none none 2 0 0 ⟨[⟨x, .slice none 0 0, .slice none 0 0, [], []⟩, ⟨x, .slice none 0 0, .slice none 0 0, [], []⟩], [], []⟩ W (EditIn.below ⟨⟨rows_blk (l := [⟨x, .slice none 0 0, .slice none 0 0, [], []⟩, ⟨x, .slice none 0 0, .slice none 0 0, [], []⟩]) P0.out turn_len, fun t ht => by
          have ht : t = ⟨x, .slice none 0 0, .slice none 0 0, [], []⟩ := by simpa using ht
          subst ht
          exact ⟨Recs.nil, Recs.nil⟩⟩, rows_nil, rows_nil, by simp, by simp, by simp, fun t ht => by
          have ht : t = ⟨x, .slice none 0 0, .slice none 0 0, [], []⟩ := by simpa using ht
          subst ht
          simp⟩ hb) 1 (by simp [twiceE, twice_pair]))
        have E1 : Hid (∀ W, Below wl.heap.size wl W → Calls Try.prog 8 #[.agg #[.slice none 0 0, .slice (some ⟨wd.heap.size + 1, 0, none⟩) 2 2, .slice none 0 0]] W fun e w' => e = .returned (.int .i64 1) ∧ Below W.heap.size W w') := Lib.hid (fun W hb => check_any none (some ⟨wd.heap.size + 1, 0, none⟩) none 0 2 0 ⟨[], [⟨x, 0, 0⟩, ⟨x, 0, 1⟩], []⟩ W (EditIn.below ⟨turns_nil, rows_blk (l := ([⟨x, 0, 0⟩, ⟨x, 0, 1⟩] : List Hold)) P1.out hold_len, rows_nil, by simp, by simp, by simp, fun t ht => by cases ht⟩ hb) 1 (by simp [twiceE, twice_pair]))
        have E2 : Hid (∀ W, Below wl.heap.size wl W → Calls Try.prog 8 #[.agg #[.slice none 0 0, .slice none 0 0, .slice (some ⟨wd.heap.size + 1 + 1, 0, none⟩) 2 2]] W fun e w' => e = .returned (.int .i64 1) ∧ Below W.heap.size W w') := Lib.hid (fun W hb => check_any none none (some ⟨wd.heap.size + 1 + 1, 0, none⟩) 0 0 2 ⟨[], [], [⟨x, 0, 0⟩, ⟨x, 0, 0⟩]⟩ W (EditIn.below ⟨turns_nil, rows_nil, rows_blk (l := ([⟨x, 0, 0⟩, ⟨x, 0, 0⟩] : List Hold)) P2.out hold_len, by simp, by simp, by simp, fun t ht => by cases ht⟩ hb) 1 (by simp [twiceE, twice_pair]))
        have L0 : wl.cell? ⟨wd.heap.size + 1 + 1 + 1, 0, none⟩ = some _ := (P3.out.2 0 (by simp)).1
        have L1 : wl.cell? ⟨wd.heap.size + 1 + 1 + 1, 1, none⟩ = some _ := (P3.out.2 1 (by simp)).1
        have L2 : wl.cell? ⟨wd.heap.size + 1 + 1 + 1, 2, none⟩ = some _ := (P3.out.2 2 (by simp)).1
        have L3 : wl.cell? ⟨wd.heap.size + 1 + 1 + 1, 3, none⟩ = some _ := (P3.out.2 3 (by simp)).1
        have L4 : wl.cell? ⟨wd.heap.size + 1 + 1 + 1, 4, none⟩ = some _ := (P3.out.2 4 (by simp)).1
        have L5 : wl.cell? ⟨wd.heap.size + 1 + 1 + 1, 5, none⟩ = some _ := (P3.out.2 5 (by simp)).1
        have L6 : wl.cell? ⟨wd.heap.size + 1 + 1 + 1, 6, none⟩ = some _ := (P3.out.2 6 (by simp)).1
        have L7 : wl.cell? ⟨wd.heap.size + 1 + 1 + 1, 7, none⟩ = some _ := (P3.out.2 7 (by simp)).1
        have L8 : wl.cell? ⟨wd.heap.size + 1 + 1 + 1, 8, none⟩ = some _ := (P3.out.2 8 (by simp)).1
        have hg3 : wd.heap.size + 1 + 1 + 1 < wl.heap.size := P3.out.1
        replace HD := Lib.hid (HD.out.below HL.out)
        replace HT := Lib.hid (HT.out.below HL.out)
        replace HW := Lib.hid (HW.out.below HL.out)
        replace HK := Lib.hid (HK.out.below HL.out)
        replace HB : Hid (Below w.heap.size w wl) := Lib.hid (HB.out.trans (HL.out.mono HB.out.size))
        simp only [List.getElem_cons_succ, List.getElem_cons_zero] at L0 L1 L2 L3 L4 L5 L6 L7 L8
        clear P0 P1 P2 P3 HL KW
        generalize wd.heap.size + 1 + 1 + 1 = g3 at *
        generalize wd.heap.size + 1 + 1 = g2 at *
        generalize wd.heap.size + 1 = g1 at *
        generalize wd.heap.size = g0 at *
        have HBl : Hid (Below wl.heap.size wl wl) := Lib.hid (Below.refl _ _)
        refine wp_loop_rounds 4 ?_
        rw [rounds_succ]
        have q0 := (HBl.out.cell (p := ⟨g3, 0, none⟩) hg3).trans L0
        have q1 := (HBl.out.cell (p := ⟨g3, 1, none⟩) hg3).trans L1
        have q2 := (HBl.out.cell (p := ⟨g3, 2, none⟩) hg3).trans L2
        have HBn : Hid (Below wl.heap.size wl (wl.alloc (.cells #[.slice (some ⟨g0, 0, none⟩) 2 2, .slice none 0 0, .slice none 0 0] 30))) := Lib.hid (HBl.out.alloc HBl.out.size _)
        have KX := Lib.hid (E0.out _ HBn.out)
        go_wp2_with (go_at_call 8; fail)
        refine KX.out.mono ?_
        rintro e y0 ⟨rfl, hb⟩
        replace HBl : Hid (Below wl.heap.size wl y0) := Lib.hid (HBn.out.trans (hb.mono HBn.out.size))
        clear hb KX HBn q0 q1 q2
        go_wp2_with (fail)
        rw [rounds_succ]
        have q0 := (HBl.out.cell (p := ⟨g3, 3, none⟩) hg3).trans L3
        have q1 := (HBl.out.cell (p := ⟨g3, 4, none⟩) hg3).trans L4
        have q2 := (HBl.out.cell (p := ⟨g3, 5, none⟩) hg3).trans L5
        have HBn : Hid (Below wl.heap.size wl (y0.alloc (.cells #[.slice none 0 0, .slice (some ⟨g1, 0, none⟩) 2 2, .slice none 0 0] 30))) := Lib.hid (HBl.out.alloc HBl.out.size _)
        have KX := Lib.hid (E1.out _ HBn.out)
        go_wp2_with (go_at_call 8; fail)
        refine KX.out.mono ?_
        rintro e y1 ⟨rfl, hb⟩
        replace HBl : Hid (Below wl.heap.size wl y1) := Lib.hid (HBn.out.trans (hb.mono HBn.out.size))
        clear hb KX HBn q0 q1 q2
        go_wp2_with (fail)
        rw [rounds_succ]
        have q0 := (HBl.out.cell (p := ⟨g3, 6, none⟩) hg3).trans L6
        have q1 := (HBl.out.cell (p := ⟨g3, 7, none⟩) hg3).trans L7
        have q2 := (HBl.out.cell (p := ⟨g3, 8, none⟩) hg3).trans L8
        have HBn : Hid (Below wl.heap.size wl (y1.alloc (.cells #[.slice none 0 0, .slice none 0 0, .slice (some ⟨g2, 0, none⟩) 2 2] 30))) := Lib.hid (HBl.out.alloc HBl.out.size _)
        have KX := Lib.hid (E2.out _ HBn.out)
        go_wp2_with (go_at_call 8; fail)
        refine KX.out.mono ?_
        rintro e y2 ⟨rfl, hb⟩
        replace HBl : Hid (Below wl.heap.size wl y2) := Lib.hid (HBn.out.trans (hb.mono HBn.out.size))
        clear hb KX HBn q0 q1 q2
        go_wp2_with (fail)
        rw [rounds_succ]
        go_upto_region 12 with (fail)
        clear L0 L1 L2 L3 L4 L5 L6 L7 L8 E0 E1 E2
        have HBy : Hid (Below wl.heap.size wl y2.drew) := Lib.hid HBl.out.drew
        have HDs := HD.out.below HBy.out
        have HTs := HT.out.below HBy.out
        have HWs := HW.out.below HBy.out
        have HKs := HK.out.below HBy.out
        have HBw : Hid (Below w.heap.size w y2.drew) := Lib.hid (HB.out.trans (HBy.out.mono HB.out.size))
        clear HD HT HW HK HB HBl HBy hg3
        refine wp_region_z (S := (fun W => Below y2.drew.heap.size y2.drew W)) (z := 39) (by kernel_rfl) (Below.refl _ _) (fun hH => ?_)
        generalize y2.drew = Ws at *
        obtain ⟨Ad1, Ad2, Ad3, Cd1, Cd2, Cd3, fd, hfd, d0, d1, d2, Ed, hds⟩ := HDs
        obtain ⟨At1, At2, At3, Ct1, Ct2, Ct3, ft, hft, t0, t1, t2, Et, hts⟩ := HTs
        obtain ⟨Aw1, Aw2, Aw3, Cw1, Cw2, Cw3, fw, hfw, w0, w1, w2, Ew, hws⟩ := HWs
        obtain ⟨Ab1, Ab2, Ab3, Cb1, Cb2, Cb3, fb, hfb, b0, b1, b2, Ebb, hbs⟩ := HKs
        rw [← HLL.out, ← HII.out] at Ed
        rw [← HLL.out] at d1
        rw [← HII.out] at d2
        replace d1 : Ws.cell? ⟨gd, 1, none⟩ = some (.slice Ad2 3 Cd2) := d1
        replace d2 : Ws.cell? ⟨gd, 2, none⟩ = some (.slice Ad3 1 Cd3) := d2
        replace t1 : Ws.cell? ⟨gt, 1, none⟩ = some (.slice At2 2 Ct2) := t1
        replace t2 : Ws.cell? ⟨gt, 2, none⟩ = some (.slice At3 0 Ct3) := t2
        replace w1 : Ws.cell? ⟨gw, 1, none⟩ = some (.slice Aw2 2 Cw2) := w1
        replace w2 : Ws.cell? ⟨gw, 2, none⟩ = some (.slice Aw3 0 Cw3) := w2
        replace b1 : Ws.cell? ⟨gb, 1, none⟩ = some (.slice Ab2 2 Cb2) := b1
        replace b2 : Ws.cell? ⟨gb, 2, none⟩ = some (.slice Ab3 0 Cb3) := b2
        have Eb := Lib.hid Ebb
        have HFB := Lib.hid hfb
        have K1 : Hid (∀ W, Below Ws.heap.size Ws W → Calls Try.prog 8 #[.agg #[.slice Ad1 fd.length Cd1, .slice Ad2 3 Cd2, .slice Ad3 1 Cd3]] W fun e w' => e = .returned (.int .i64 0) ∧ Below W.heap.size W w') := Lib.hid (fun W hb => check_any Ad1 Ad2 Ad3 Cd1 Cd2 Cd3 ⟨fd, [⟨4, -1, 2⟩, ⟨2, 1, 1⟩, ⟨1, 0, -1⟩], [⟨1, -1, -1⟩]⟩ W (Ed.below hb) 0 (by rw [formD_twice hfd]; rfl))
        have K6 : Hid (∀ W, Below Ws.heap.size Ws W → Calls Try.prog 9 #[.agg #[.slice At1 ft.length Ct1, .slice At2 2 Ct2, .slice At3 0 Ct3], .agg #[.slice Aw1 fw.length Cw1, .slice Aw2 2 Cw2, .slice Aw3 0 Cw3]] W fun e w' => e = .returned (.bool true) ∧ Below W.heap.size W w') := Lib.hid (fun W hb => same7_any At1 At2 At3 Aw1 Aw2 Aw3 Ct1 Ct2 Ct3 Cw1 Cw2 Cw3 ft fw [⟨1, 0, -1⟩, ⟨4, -1, 2⟩] [] W (Et.below hb) (Ew.below hb) (hft.trans hfw.symm))
        have K10 : Hid (∀ W, Below Ws.heap.size Ws W → Calls Try.prog 10 #[.agg #[.slice At1 ft.length Ct1, .slice At2 2 Ct2, .slice At3 0 Ct3]] W fun e w' => ∃ v1 v2 v3 f, e = .returned (.agg #[v1, v2, v3]) ∧ NewT W.heap.size w' v1 f ∧ f.map Turn.pl = [(1, [7, 3], []), (2, [1], [3, 1])] ∧ OutH W.heap.size w' v2 [⟨1, -1, 0⟩, ⟨4, 2, -1⟩] ∧ OutH W.heap.size w' v3 [] ∧ Below W.heap.size W w') := Lib.hid (fun W hb => (inverse_any At1 At2 At3 Ct1 Ct2 Ct3 ⟨ft, [⟨1, 0, -1⟩, ⟨4, -1, 2⟩], []⟩ W (Et.below hb)).mono (fun _ _ ⟨v1, v2, v3, f, h1, h2, h3, h4, h5, h6⟩ => ⟨v1, v2, v3, f, h1, h2, h3.trans (form_same hft), h4, h5, h6⟩))
        have K16 : Hid (∀ W, Below Ws.heap.size Ws W → Calls Try.prog 11 #[.agg #[.slice Ad1 fd.length Cd1, .slice Ad2 3 Cd2, .slice Ad3 1 Cd3]] W fun e w' => e = .returned (.bool false) ∧ Below W.heap.size W w') := Lib.hid (fun W hb => by
          have := empty_any Ad1 Ad2 Ad3 Cd1 Cd2 Cd3 ⟨fd, [⟨4, -1, 2⟩, ⟨2, 1, 1⟩, ⟨1, 0, -1⟩], [⟨1, -1, -1⟩]⟩ W (Ed.below hb)
          rw [formD_empty hfd] at this
          exact this)
        have K21 : Hid (∀ W, Below Ws.heap.size Ws W → Calls Try.prog 13 #[.agg #[.slice Ad1 fd.length Cd1, .slice Ad2 3 Cd2, .slice Ad3 1 Cd3]] W (NewRow 3 1 1 (ints [7]) W)) := Lib.hid (fun W hb => by
          have := moved_any Ad1 Ad2 Ad3 Cd1 Cd2 Cd3 ⟨fd, [⟨4, -1, 2⟩, ⟨2, 1, 1⟩, ⟨1, 0, -1⟩], [⟨1, -1, -1⟩]⟩ W (Ed.below hb)
          rw [formD_moved hfd] at this
          exact this)
        have hgds := hds
        clear hfd hft hfw hfb Ed Et Ew Ebb hgds
        have HB : Hid (Below Ws.heap.size Ws Ws) := Lib.hid (Below.refl _ _)
        refine wpAnyZ_takeS (i := 0) (v := ?_) rfl (by kernel_rfl) (by kernel_rfl) (by kernel_rfl) (by kernel_rfl) (fun _ _ _ h => h) (gives_value (by rfl) ?_) (by assumption) ?_
        rotate_left
        · intro w hSw
          have s0 : w.cell? ⟨gd, 0, none⟩ = _ := (hSw.cell (p := ⟨gd, 0, none⟩) hds).trans d0
          have s1 : w.cell? ⟨gd, 1, none⟩ = _ := (hSw.cell (p := ⟨gd, 1, none⟩) hds).trans d1
          have s2 : w.cell? ⟨gd, 2, none⟩ = _ := (hSw.cell (p := ⟨gd, 2, none⟩) hds).trans d2
          go_simp
          (try with_reducible rfl)
        (try simp only [Act.put, List.getElem_toArray, List.getElem_cons_succ, List.getElem_cons_zero, List.setIfInBounds_toArray, List.set_cons_zero, List.set_cons_succ])
        refine wpAnyZ_one (i := 1) (by kernel_rfl) ?_
        refine zstep rfl (fun K hK => ?_)
        go_simp
        refine (K1.out _ HB.out).mono ?_
        rintro e v1 ⟨rfl, hb⟩
        replace HB : Hid (Below Ws.heap.size Ws v1) := Lib.hid (HB.out.trans (hb.mono HB.out.size))
        clear hb 
        refine hK.out _ _ (fun _ => HB.out) (fun hH => ?_)
        replace hH := hH (by decide)
        clear hK K
        (try simp only [Act.put, List.getElem_toArray, List.getElem_cons_succ, List.getElem_cons_zero, List.setIfInBounds_toArray, List.set_cons_zero, List.set_cons_succ])
        refine wpAnyZ_takeS (i := 2) (v := ?_) rfl (by kernel_rfl) (by kernel_rfl) (by kernel_rfl) (by kernel_rfl) (fun _ _ _ h => h) (gives_value (by rfl) ?_) (by assumption) ?_
        rotate_left
        · intro w hSw
          go_simp
          (try with_reducible rfl)
        (try simp only [Act.put, List.getElem_toArray, List.getElem_cons_succ, List.getElem_cons_zero, List.setIfInBounds_toArray, List.set_cons_zero, List.set_cons_succ])
        refine wpAnyZ_takeS (i := 3) (v := ?_) rfl (by kernel_rfl) (by kernel_rfl) (by kernel_rfl) (by kernel_rfl) (fun _ _ _ h => h) (gives_value (by rfl) ?_) (by assumption) ?_
        rotate_left
        · intro w hSw
          go_simp
          (try with_reducible rfl)
        (try simp only [Act.put, List.getElem_toArray, List.getElem_cons_succ, List.getElem_cons_zero, List.setIfInBounds_toArray, List.set_cons_zero, List.set_cons_succ])
        refine wpAnyZ_takeS (i := 4) (v := ?_) rfl (by kernel_rfl) (by kernel_rfl) (by kernel_rfl) (by kernel_rfl) (fun _ _ _ h => h) (gives_value (by rfl) ?_) (by assumption) ?_
        rotate_left
        · intro w hSw
          have s0 : w.cell? ⟨gt, 0, none⟩ = _ := (hSw.cell (p := ⟨gt, 0, none⟩) hts).trans t0
          have s1 : w.cell? ⟨gt, 1, none⟩ = _ := (hSw.cell (p := ⟨gt, 1, none⟩) hts).trans t1
          have s2 : w.cell? ⟨gt, 2, none⟩ = _ := (hSw.cell (p := ⟨gt, 2, none⟩) hts).trans t2
          go_simp
          (try with_reducible rfl)
        (try simp only [Act.put, List.getElem_toArray, List.getElem_cons_succ, List.getElem_cons_zero, List.setIfInBounds_toArray, List.set_cons_zero, List.set_cons_succ])
        refine wpAnyZ_takeS (i := 5) (v := ?_) rfl (by kernel_rfl) (by kernel_rfl) (by kernel_rfl) (by kernel_rfl) (fun _ _ _ h => h) (gives_value (by rfl) ?_) (by assumption) ?_
        rotate_left
        · intro w hSw
          have s0 : w.cell? ⟨gw, 0, none⟩ = _ := (hSw.cell (p := ⟨gw, 0, none⟩) hws).trans w0
          have s1 : w.cell? ⟨gw, 1, none⟩ = _ := (hSw.cell (p := ⟨gw, 1, none⟩) hws).trans w1
          have s2 : w.cell? ⟨gw, 2, none⟩ = _ := (hSw.cell (p := ⟨gw, 2, none⟩) hws).trans w2
          go_simp
          (try with_reducible rfl)
        (try simp only [Act.put, List.getElem_toArray, List.getElem_cons_succ, List.getElem_cons_zero, List.setIfInBounds_toArray, List.set_cons_zero, List.set_cons_succ])
        refine wpAnyZ_one (i := 6) (by kernel_rfl) ?_
        refine zstep rfl (fun K hK => ?_)
        go_simp
        refine (K6.out _ HB.out).mono ?_
        rintro e v2 ⟨rfl, hb⟩
        replace HB : Hid (Below Ws.heap.size Ws v2) := Lib.hid (HB.out.trans (hb.mono HB.out.size))
        clear hb 
        refine hK.out _ _ (fun _ => HB.out) (fun hH => ?_)
        replace hH := hH (by decide)
        clear hK K
        (try simp only [Act.put, List.getElem_toArray, List.getElem_cons_succ, List.getElem_cons_zero, List.setIfInBounds_toArray, List.set_cons_zero, List.set_cons_succ])
        refine wpAnyZ_takeS (i := 7) (v := ?_) rfl (by kernel_rfl) (by kernel_rfl) (by kernel_rfl) (by kernel_rfl) (fun _ _ _ h => h) (gives_value (by rfl) ?_) (by assumption) ?_
        rotate_left
        · intro w hSw
          go_simp
          (try with_reducible rfl)
        (try simp only [Act.put, List.getElem_toArray, List.getElem_cons_succ, List.getElem_cons_zero, List.setIfInBounds_toArray, List.set_cons_zero, List.set_cons_succ])
        refine wpAnyZ_takeS (i := 8) (v := ?_) rfl (by kernel_rfl) (by kernel_rfl) (by kernel_rfl) (by kernel_rfl) (fun _ _ _ h => h) (gives_value (by rfl) ?_) (by assumption) ?_
        rotate_left
        · intro w hSw
          go_simp
          (try with_reducible rfl)
        (try simp only [Act.put, List.getElem_toArray, List.getElem_cons_succ, List.getElem_cons_zero, List.setIfInBounds_toArray, List.set_cons_zero, List.set_cons_succ])
        refine wpAnyZ_takeS (i := 9) (v := ?_) rfl (by kernel_rfl) (by kernel_rfl) (by kernel_rfl) (by kernel_rfl) (fun _ _ _ h => h) (gives_value (by rfl) ?_) (by assumption) ?_
        rotate_left
        · intro w hSw
          have s0 : w.cell? ⟨gt, 0, none⟩ = _ := (hSw.cell (p := ⟨gt, 0, none⟩) hts).trans t0
          have s1 : w.cell? ⟨gt, 1, none⟩ = _ := (hSw.cell (p := ⟨gt, 1, none⟩) hts).trans t1
          have s2 : w.cell? ⟨gt, 2, none⟩ = _ := (hSw.cell (p := ⟨gt, 2, none⟩) hts).trans t2
          go_simp
          (try with_reducible rfl)
        (try simp only [Act.put, List.getElem_toArray, List.getElem_cons_succ, List.getElem_cons_zero, List.setIfInBounds_toArray, List.set_cons_zero, List.set_cons_succ])
        refine wpAnyZ_takeS (i := 11) (v := ?_) rfl (by kernel_rfl) (by kernel_rfl) (by kernel_rfl) (by kernel_rfl) (fun _ _ _ h => h) (gives_value (by rfl) ?_) (by assumption) ?_
        rotate_left
        · intro w hSw
          have s0 : w.cell? ⟨gb, 0, none⟩ = _ := (hSw.cell (p := ⟨gb, 0, none⟩) hbs).trans b0
          have s1 : w.cell? ⟨gb, 1, none⟩ = _ := (hSw.cell (p := ⟨gb, 1, none⟩) hbs).trans b1
          have s2 : w.cell? ⟨gb, 2, none⟩ = _ := (hSw.cell (p := ⟨gb, 2, none⟩) hbs).trans b2
          go_simp
          (try with_reducible rfl)
        (try simp only [Act.put, List.getElem_toArray, List.getElem_cons_succ, List.getElem_cons_zero, List.setIfInBounds_toArray, List.set_cons_zero, List.set_cons_succ])
        refine wpAnyZ_one (i := 10) (by kernel_rfl) ?_
        refine zstep rfl (fun K hK => ?_)
        go_simp
        refine (K10.out _ HB.out).mono ?_
        rintro e v3 ⟨v1, v2, v3, fi, rfl, hn, hf, h2, h3, hb⟩
        obtain ⟨V1, D1, rfl, _⟩ := own_slice_n hn.1
        obtain ⟨V2, D2, rfl, _⟩ := own_slice_n (n := 2) h2
        obtain ⟨V3, D3, rfl, _⟩ := own_slice_n (n := 0) h3
        have HFI : Hid (fi.map Turn.pl = [(1, [7, 3], []), (2, [1], [3, 1])]) := Lib.hid hf
        have HI : Hid (EditIn v3 V1 V2 V3 D1 D2 D3 ⟨fi, [⟨1, -1, 0⟩, ⟨4, 2, -1⟩], []⟩) := Lib.hid ⟨hn.turns, Rows.of_own (l := ([⟨1, -1, 0⟩, ⟨4, 2, -1⟩] : List Hold)) h2 hold_len, Rows.of_own (l := ([] : List Hold)) h3 hold_len, (by show fi.length < 20; have := congrArg List.length hf; simp at this; omega), by simp, by simp, nm_of hf (by decide)⟩
        replace HB : Hid (Below Ws.heap.size Ws v3) := Lib.hid (HB.out.trans (hb.mono HB.out.size))
        clear hn hf h2 h3 hb
        refine hK.out _ _ (fun _ => HB.out) (fun hH => ?_)
        replace hH := hH (by decide)
        clear hK K
        (try simp only [Act.put, List.getElem_toArray, List.getElem_cons_succ, List.getElem_cons_zero, List.setIfInBounds_toArray, List.set_cons_zero, List.set_cons_succ])
        refine wpAnyZ_one (i := 12) (by kernel_rfl) ?_
        refine zstep rfl (fun K hK => ?_)
        have KX := Lib.hid (same7_any V1 V2 V3 Ab1 Ab2 Ab3 D1 D2 D3 Cb1 Cb2 Cb3 fi fb [⟨1, -1, 0⟩, ⟨4, 2, -1⟩] [] v3 HI.out (Eb.out.below HB.out) (HFI.out.trans HFB.out.symm))
        go_simp
        refine KX.out.mono ?_
        rintro e v4 ⟨rfl, hb⟩
        replace HI := Lib.hid (HI.out.below hb)
        replace HB : Hid (Below Ws.heap.size Ws v4) := Lib.hid (HB.out.trans (hb.mono HB.out.size))
        clear hb KX
        clear HI
        refine hK.out _ _ (fun _ => HB.out) (fun hH => ?_)
        replace hH := hH (by decide)
        clear hK K
        (try simp only [Act.put, List.getElem_toArray, List.getElem_cons_succ, List.getElem_cons_zero, List.setIfInBounds_toArray, List.set_cons_zero, List.set_cons_succ])
        refine wpAnyZ_takeS (i := 13) (v := ?_) rfl (by kernel_rfl) (by kernel_rfl) (by kernel_rfl) (by kernel_rfl) (fun _ _ _ h => h) (gives_value (by rfl) ?_) (by assumption) ?_
        rotate_left
        · intro w hSw
          go_simp
          (try with_reducible rfl)
        (try simp only [Act.put, List.getElem_toArray, List.getElem_cons_succ, List.getElem_cons_zero, List.setIfInBounds_toArray, List.set_cons_zero, List.set_cons_succ])
        refine wpAnyZ_takeS (i := 14) (v := ?_) rfl (by kernel_rfl) (by kernel_rfl) (by kernel_rfl) (by kernel_rfl) (fun _ _ _ h => h) (gives_value (by rfl) ?_) (by assumption) ?_
        rotate_left
        · intro w hSw
          go_simp
          (try with_reducible rfl)
        (try simp only [Act.put, List.getElem_toArray, List.getElem_cons_succ, List.getElem_cons_zero, List.setIfInBounds_toArray, List.set_cons_zero, List.set_cons_succ])
        refine wpAnyZ_takeS (i := 15) (v := ?_) rfl (by kernel_rfl) (by kernel_rfl) (by kernel_rfl) (by kernel_rfl) (fun _ _ _ h => h) (gives_value (by rfl) ?_) (by assumption) ?_
        rotate_left
        · intro w hSw
          have s0 : w.cell? ⟨gd, 0, none⟩ = _ := (hSw.cell (p := ⟨gd, 0, none⟩) hds).trans d0
          have s1 : w.cell? ⟨gd, 1, none⟩ = _ := (hSw.cell (p := ⟨gd, 1, none⟩) hds).trans d1
          have s2 : w.cell? ⟨gd, 2, none⟩ = _ := (hSw.cell (p := ⟨gd, 2, none⟩) hds).trans d2
          go_simp
          (try with_reducible rfl)
        (try simp only [Act.put, List.getElem_toArray, List.getElem_cons_succ, List.getElem_cons_zero, List.setIfInBounds_toArray, List.set_cons_zero, List.set_cons_succ])
        refine wpAnyZ_one (i := 16) (by kernel_rfl) ?_
        refine zstep rfl (fun K hK => ?_)
        go_simp
        refine (K16.out _ HB.out).mono ?_
        rintro e v5 ⟨rfl, hb⟩
        replace HB : Hid (Below Ws.heap.size Ws v5) := Lib.hid (HB.out.trans (hb.mono HB.out.size))
        clear hb 
        refine hK.out _ _ (fun _ => HB.out) (fun hH => ?_)
        replace hH := hH (by decide)
        clear hK K
        (try simp only [Act.put, List.getElem_toArray, List.getElem_cons_succ, List.getElem_cons_zero, List.setIfInBounds_toArray, List.set_cons_zero, List.set_cons_succ])
        refine wpAnyZ_takeS (i := 17) (v := ?_) rfl (by kernel_rfl) (by kernel_rfl) (by kernel_rfl) (by kernel_rfl) (fun _ _ _ h => h) (gives_value (by rfl) ?_) (by assumption) ?_
        rotate_left
        · intro w hSw
          go_simp
          (try with_reducible rfl)
        (try simp only [Act.put, List.getElem_toArray, List.getElem_cons_succ, List.getElem_cons_zero, List.setIfInBounds_toArray, List.set_cons_zero, List.set_cons_succ])
        refine wpAnyZ_takeS (i := 18) (v := ?_) rfl (by kernel_rfl) (by kernel_rfl) (by kernel_rfl) (by kernel_rfl) (fun _ _ _ h => h) (gives_value (by rfl) ?_) (by assumption) ?_
        rotate_left
        · intro w hSw
          go_simp
          (try with_reducible rfl)
        (try simp only [Act.put, List.getElem_toArray, List.getElem_cons_succ, List.getElem_cons_zero, List.setIfInBounds_toArray, List.set_cons_zero, List.set_cons_succ])
        refine wpAnyZ_takeS (i := 19) (v := ?_) rfl (by kernel_rfl) (by kernel_rfl) (by kernel_rfl) (by kernel_rfl) (fun _ _ _ h => h) (gives_value (by rfl) ?_) (by assumption) ?_
        rotate_left
        · intro w hSw
          go_simp
          (try with_reducible rfl)
        (try simp only [Act.put, List.getElem_toArray, List.getElem_cons_succ, List.getElem_cons_zero, List.setIfInBounds_toArray, List.set_cons_zero, List.set_cons_succ])
        refine wpAnyZ_takeS (i := 20) (v := ?_) rfl (by kernel_rfl) (by kernel_rfl) (by kernel_rfl) (by kernel_rfl) (fun _ _ _ h => h) (gives_value (by rfl) ?_) (by assumption) ?_
        rotate_left
        · intro w hSw
          have s0 : w.cell? ⟨gd, 0, none⟩ = _ := (hSw.cell (p := ⟨gd, 0, none⟩) hds).trans d0
          have s1 : w.cell? ⟨gd, 1, none⟩ = _ := (hSw.cell (p := ⟨gd, 1, none⟩) hds).trans d1
          have s2 : w.cell? ⟨gd, 2, none⟩ = _ := (hSw.cell (p := ⟨gd, 2, none⟩) hds).trans d2
          go_simp
          (try with_reducible rfl)
        (try simp only [Act.put, List.getElem_toArray, List.getElem_cons_succ, List.getElem_cons_zero, List.setIfInBounds_toArray, List.set_cons_zero, List.set_cons_succ])
        refine wpAnyZ_two (i := 21) (j := 22) (by kernel_rfl) ?_ ?_
        · refine zstep rfl (fun K hK => ?_)
          go_simp
          refine (K21.out _ HB.out).mono ?_
          rintro e v6 ⟨v1, rfl, ho, hb⟩
          obtain ⟨M1, N1, rfl, _⟩ := own_slice_n (n := 1) ho
          have HM : Hid (Recs v6 1 num_ (.slice M1 1 N1) [7]) := Lib.hid (own_recs1 (l := [7]) ho)
          replace HB : Hid (Below Ws.heap.size Ws v6) := Lib.hid (HB.out.trans (hb.mono HB.out.size))
          clear ho hb
          refine hK.out _ _ (fun _ => HB.out) (fun hH => ?_)
          replace hH := hH (by decide)
          clear hK K
          (try simp only [Act.put, List.getElem_toArray, List.getElem_cons_succ, List.getElem_cons_zero, List.setIfInBounds_toArray, List.set_cons_zero, List.set_cons_succ])
          refine wpAnyZ_one (i := 22) (by kernel_rfl) ?_
          refine zstep rfl (fun K hK => ?_)
          go_simp
          have hb : Below v6.heap.size v6 (v6.alloc (.cells #[.int .i64 7] 3)) := (Below.refl _ _).alloc (Nat.le_refl _) _
          replace HM := Lib.hid (HM.out.below hb)
          have B22 : Hid (Blk (v6.alloc (.cells #[.int .i64 7] 3)) v6.heap.size #[.int .i64 7].toList) := Lib.hid (blk_new v6 #[.int .i64 7] 3)
          replace HB : Hid (Below Ws.heap.size Ws (v6.alloc (.cells #[.int .i64 7] 3))) := Lib.hid (HB.out.trans (hb.mono HB.out.size))
          clear hb
          generalize (v6.alloc (.cells #[.int .i64 7] 3)) = v7 at *
          generalize v6.heap.size = g22 at B22 ⊢
          refine hK.out _ _ (fun _ => HB.out) (fun hH => ?_)
          replace hH := hH (by decide)
          clear hK K
          (try simp only [Act.put, List.getElem_toArray, List.getElem_cons_succ, List.getElem_cons_zero, List.setIfInBounds_toArray, List.set_cons_zero, List.set_cons_succ])
          refine wpAnyZ_one (i := 23) (by kernel_rfl) ?_
          refine zstep rfl (fun K hK => ?_)
          have KX := Lib.hid (same_ints (.slice M1 1 N1) (.slice (some ⟨g22, 0, none⟩) 1 1) [7] v7 HM.out (recs_blk (l := [7]) B22.out) (by simp))
          go_simp
          refine KX.out.mono ?_
          rintro e v8x ⟨rfl, qv8, rfl⟩
          have hb : Below v7.heap.size v7 (v7.drewN qv8) := below_draws (Below.refl _ _) qv8
          generalize v7.drewN qv8 = v8 at *
          replace HM := Lib.hid (HM.out.below hb)
          replace B22 := Lib.hid (B22.out.below hb)
          replace HB : Hid (Below Ws.heap.size Ws v8) := Lib.hid (HB.out.trans (hb.mono HB.out.size))
          clear hb KX
          clear HM B22
          refine hK.out _ _ (fun _ => HB.out) (fun hH => ?_)
          replace hH := hH (by decide)
          clear hK K
          (try simp only [Act.put, List.getElem_toArray, List.getElem_cons_succ, List.getElem_cons_zero, List.setIfInBounds_toArray, List.set_cons_zero, List.set_cons_succ])
          refine wpAnyZ_takeS (i := 24) (v := ?_) rfl (by kernel_rfl) (by kernel_rfl) (by kernel_rfl) (by kernel_rfl) (fun _ _ _ h => h) (gives_value (by rfl) ?_) (by assumption) ?_
          rotate_left
          · intro w hSw
            go_simp
            (try with_reducible rfl)
          (try simp only [Act.put, List.getElem_toArray, List.getElem_cons_succ, List.getElem_cons_zero, List.setIfInBounds_toArray, List.set_cons_zero, List.set_cons_succ])
          refine wpAnyZ_takeS (i := 25) (v := ?_) rfl (by kernel_rfl) (by kernel_rfl) (by kernel_rfl) (by kernel_rfl) (fun _ _ _ h => h) (gives_value (by rfl) ?_) (by assumption) ?_
          rotate_left
          · intro w hSw
            go_simp
            (try with_reducible rfl)
          (try simp only [Act.put, List.getElem_toArray, List.getElem_cons_succ, List.getElem_cons_zero, List.setIfInBounds_toArray, List.set_cons_zero, List.set_cons_succ])
          refine wpAnyZ_takeS (i := 30) (v := ?_) rfl (by kernel_rfl) (by kernel_rfl) (by kernel_rfl) (by kernel_rfl) (fun _ _ _ h => h) (gives_value (by rfl) ?_) (by assumption) ?_
          rotate_left
          · intro w hSw
            go_simp
            (try with_reducible rfl)
          (try simp only [Act.put, List.getElem_toArray, List.getElem_cons_succ, List.getElem_cons_zero, List.setIfInBounds_toArray, List.set_cons_zero, List.set_cons_succ])
          refine wpAnyZ_three (i := 26) (j := 27) (k := 31) (by kernel_rfl) ?_ ?_ ?_
          · refine zstep rfl (fun K hK => ?_)
            go_simp
            have hb : Below v8.heap.size v8 (v8.alloc (.cells #[.int .i64 1] 3)) := (Below.refl _ _).alloc (Nat.le_refl _) _
            have B26 : Hid (Blk (v8.alloc (.cells #[.int .i64 1] 3)) v8.heap.size #[.int .i64 1].toList) := Lib.hid (blk_new v8 #[.int .i64 1] 3)
            replace HB : Hid (Below Ws.heap.size Ws (v8.alloc (.cells #[.int .i64 1] 3))) := Lib.hid (HB.out.trans (hb.mono HB.out.size))
            clear hb
            generalize (v8.alloc (.cells #[.int .i64 1] 3)) = v9 at *
            generalize v8.heap.size = g26 at B26 ⊢
            refine hK.out _ _ (fun _ => HB.out) (fun hH => ?_)
            replace hH := hH (by decide)
            clear hK K
            (try simp only [Act.put, List.getElem_toArray, List.getElem_cons_succ, List.getElem_cons_zero, List.setIfInBounds_toArray, List.set_cons_zero, List.set_cons_succ])
            refine wpAnyZ_two (i := 27) (j := 31) (by kernel_rfl) ?_ ?_
            · refine zstep rfl (fun K hK => ?_)
              go_simp
              have hb : Below v9.heap.size v9 (v9.alloc (.cells #[.int .i64 1] 3)) := (Below.refl _ _).alloc (Nat.le_refl _) _
              replace B26 := Lib.hid (B26.out.below hb)
              have B27 : Hid (Blk (v9.alloc (.cells #[.int .i64 1] 3)) v9.heap.size #[.int .i64 1].toList) := Lib.hid (blk_new v9 #[.int .i64 1] 3)
              replace HB : Hid (Below Ws.heap.size Ws (v9.alloc (.cells #[.int .i64 1] 3))) := Lib.hid (HB.out.trans (hb.mono HB.out.size))
              clear hb
              generalize (v9.alloc (.cells #[.int .i64 1] 3)) = v10 at *
              generalize v9.heap.size = g27 at B27 ⊢
              refine hK.out _ _ (fun _ => HB.out) (fun hH => ?_)
              replace hH := hH (by decide)
              clear hK K
              (try simp only [Act.put, List.getElem_toArray, List.getElem_cons_succ, List.getElem_cons_zero, List.setIfInBounds_toArray, List.set_cons_zero, List.set_cons_succ])
              refine wpAnyZ_takeS (i := 28) (v := ?_) rfl (by kernel_rfl) (by kernel_rfl) (by kernel_rfl) (by kernel_rfl) (fun _ _ _ h => h) (gives_value (by rfl) ?_) (by assumption) ?_
              rotate_left
              · intro w hSw
                go_simp
                (try with_reducible rfl)
              (try simp only [Act.put, List.getElem_toArray, List.getElem_cons_succ, List.getElem_cons_zero, List.setIfInBounds_toArray, List.set_cons_zero, List.set_cons_succ])
              refine wpAnyZ_two (i := 29) (j := 31) (by kernel_rfl) ?_ ?_
              · refine zstep rfl (fun K hK => ?_)
                go_simp
                have hb : Below v10.heap.size v10 (v10.alloc (.cells #[.int .i64 3, .slice (some ⟨g26, 0, none⟩) 1 1, .slice (some ⟨g27, 0, none⟩) 1 1] 24)) := (Below.refl _ _).alloc (Nat.le_refl _) _
                replace B26 := Lib.hid (B26.out.below hb)
                replace B27 := Lib.hid (B27.out.below hb)
                have B29 : Hid (Blk (v10.alloc (.cells #[.int .i64 3, .slice (some ⟨g26, 0, none⟩) 1 1, .slice (some ⟨g27, 0, none⟩) 1 1] 24)) v10.heap.size #[.int .i64 3, .slice (some ⟨g26, 0, none⟩) 1 1, .slice (some ⟨g27, 0, none⟩) 1 1].toList) := Lib.hid (blk_new v10 #[.int .i64 3, .slice (some ⟨g26, 0, none⟩) 1 1, .slice (some ⟨g27, 0, none⟩) 1 1] 24)
                replace HB : Hid (Below Ws.heap.size Ws (v10.alloc (.cells #[.int .i64 3, .slice (some ⟨g26, 0, none⟩) 1 1, .slice (some ⟨g27, 0, none⟩) 1 1] 24))) := Lib.hid (HB.out.trans (hb.mono HB.out.size))
                clear hb
                generalize (v10.alloc (.cells #[.int .i64 3, .slice (some ⟨g26, 0, none⟩) 1 1, .slice (some ⟨g27, 0, none⟩) 1 1] 24)) = v11 at *
                generalize v10.heap.size = g29 at B29 ⊢
                refine hK.out _ _ (fun _ => HB.out) (fun hH => ?_)
                replace hH := hH (by decide)
                clear hK K
                (try simp only [Act.put, List.getElem_toArray, List.getElem_cons_succ, List.getElem_cons_zero, List.setIfInBounds_toArray, List.set_cons_zero, List.set_cons_succ])
                refine wpAnyZ_one (i := 31) (by kernel_rfl) ?_
                refine zstep rfl (fun K hK => ?_)
                go_simp
                have hb : Below v11.heap.size v11 (v11.alloc (.cells #[.int .i64 1, .int .i64 2, .int .i64 2] 27)) := (Below.refl _ _).alloc (Nat.le_refl _) _
                replace B26 := Lib.hid (B26.out.below hb)
                replace B27 := Lib.hid (B27.out.below hb)
                replace B29 := Lib.hid (B29.out.below hb)
                have B31 : Hid (Blk (v11.alloc (.cells #[.int .i64 1, .int .i64 2, .int .i64 2] 27)) v11.heap.size #[.int .i64 1, .int .i64 2, .int .i64 2].toList) := Lib.hid (blk_new v11 #[.int .i64 1, .int .i64 2, .int .i64 2] 27)
                replace HB : Hid (Below Ws.heap.size Ws (v11.alloc (.cells #[.int .i64 1, .int .i64 2, .int .i64 2] 27))) := Lib.hid (HB.out.trans (hb.mono HB.out.size))
                clear hb
                generalize (v11.alloc (.cells #[.int .i64 1, .int .i64 2, .int .i64 2] 27)) = v12 at *
                generalize v11.heap.size = g31 at B31 ⊢
                refine hK.out _ _ (fun _ => HB.out) (fun hH => ?_)
                replace hH := hH (by decide)
                clear hK K
                (try simp only [Act.put, List.getElem_toArray, List.getElem_cons_succ, List.getElem_cons_zero, List.setIfInBounds_toArray, List.set_cons_zero, List.set_cons_succ])
                refine wpAnyZ_takeS (i := 32) (v := ?_) rfl (by kernel_rfl) (by kernel_rfl) (by kernel_rfl) (by kernel_rfl) (fun _ _ _ h => h) (gives_value (by rfl) ?_) (by assumption) ?_
                rotate_left
                · intro w hSw
                  go_simp
                  (try with_reducible rfl)
                (try simp only [Act.put, List.getElem_toArray, List.getElem_cons_succ, List.getElem_cons_zero, List.setIfInBounds_toArray, List.set_cons_zero, List.set_cons_succ])
                refine wpAnyZ_one (i := 33) (by kernel_rfl) ?_
                refine zstep rfl (fun K hK => ?_)
                have KX := Lib.hid (empty_any (some ⟨g29, 0, none⟩) none (some ⟨g31, 0, none⟩) 1 0 1 ⟨[⟨3, .slice (some ⟨g26, 0, none⟩) 1 1, .slice (some ⟨g27, 0, none⟩) 1 1, [1], [1]⟩], [], [⟨1, 2, 2⟩]⟩ v12 ⟨⟨rows_blk (l := [⟨3, .slice (some ⟨g26, 0, none⟩) 1 1, .slice (some ⟨g27, 0, none⟩) 1 1, [1], [1]⟩]) B29.out turn_len, fun t ht => by
                  obtain rfl := List.mem_singleton.1 ht
                  exact ⟨recs_blk (l := [1]) B26.out, recs_blk (l := [1]) B27.out⟩⟩, rows_nil, rows_blk (l := ([⟨1, 2, 2⟩] : List Hold)) B31.out hold_len, by simp, by simp, by simp, fun t ht => by
                  obtain rfl := List.mem_singleton.1 ht
                  simp⟩)
                rw [form_e3] at KX
                go_simp
                refine KX.out.mono ?_
                rintro e v13 ⟨rfl, hb⟩
                replace B26 := Lib.hid (B26.out.below hb)
                replace B27 := Lib.hid (B27.out.below hb)
                replace B29 := Lib.hid (B29.out.below hb)
                replace B31 := Lib.hid (B31.out.below hb)
                replace HB : Hid (Below Ws.heap.size Ws v13) := Lib.hid (HB.out.trans (hb.mono HB.out.size))
                clear hb KX
                refine hK.out _ _ (fun _ => HB.out) (fun hH => ?_)
                replace hH := hH (by decide)
                clear hK K
                (try simp only [Act.put, List.getElem_toArray, List.getElem_cons_succ, List.getElem_cons_zero, List.setIfInBounds_toArray, List.set_cons_zero, List.set_cons_succ])
                refine wpAnyZ_takeS (i := 34) (v := ?_) rfl (by kernel_rfl) (by kernel_rfl) (by kernel_rfl) (by kernel_rfl) (fun _ _ _ h => h) (gives_value (by rfl) ?_) (by assumption) ?_
                rotate_left
                · intro w hSw
                  go_simp
                  (try with_reducible rfl)
                (try simp only [Act.put, List.getElem_toArray, List.getElem_cons_succ, List.getElem_cons_zero, List.setIfInBounds_toArray, List.set_cons_zero, List.set_cons_succ])
                refine wpAnyZ_takeS (i := 35) (v := ?_) rfl (by kernel_rfl) (by kernel_rfl) (by kernel_rfl) (by kernel_rfl) (fun _ _ _ h => h) (gives_value (by rfl) ?_) (by assumption) ?_
                rotate_left
                · intro w hSw
                  go_simp
                  (try with_reducible rfl)
                (try simp only [Act.put, List.getElem_toArray, List.getElem_cons_succ, List.getElem_cons_zero, List.setIfInBounds_toArray, List.set_cons_zero, List.set_cons_succ])
                refine wpAnyZ_one (i := 36) (by kernel_rfl) ?_
                refine zstep rfl (fun K hK => ?_)
                go_simp
                refine (wakes7_any _).mono ?_
                rintro e v14 ⟨rfl, hb⟩
                replace B26 := Lib.hid (B26.out.below hb)
                replace B27 := Lib.hid (B27.out.below hb)
                replace B29 := Lib.hid (B29.out.below hb)
                replace B31 := Lib.hid (B31.out.below hb)
                replace HB : Hid (Below Ws.heap.size Ws v14) := Lib.hid (HB.out.trans (hb.mono HB.out.size))
                clear hb 
                refine hK.out _ _ (fun _ => HB.out) (fun hH => ?_)
                replace hH := hH (by decide)
                clear hK K
                (try simp only [Act.put, List.getElem_toArray, List.getElem_cons_succ, List.getElem_cons_zero, List.setIfInBounds_toArray, List.set_cons_zero, List.set_cons_succ])
                refine wpAnyZ_takeS (i := 37) (v := ?_) rfl (by kernel_rfl) (by kernel_rfl) (by kernel_rfl) (by kernel_rfl) (fun _ _ _ h => h) (gives_value (by rfl) ?_) (by assumption) ?_
                rotate_left
                · intro w hSw
                  go_simp
                  (try with_reducible rfl)
                (try simp only [Act.put, List.getElem_toArray, List.getElem_cons_succ, List.getElem_cons_zero, List.setIfInBounds_toArray, List.set_cons_zero, List.set_cons_succ])
                refine wpAnyZ_one (i := 38) (by kernel_rfl) ?_
                refine zstep rfl (fun K hK => ?_)
                go_simp
                refine hK.out _ _ (fun _ => HB.out) (fun hH => ?_)
                replace hH := hH (by decide)
                clear hK K
                (try simp only [Act.put, List.getElem_toArray, List.getElem_cons_succ, List.getElem_cons_zero, List.setIfInBounds_toArray, List.set_cons_zero, List.set_cons_succ])
                refine wpAnyZ_done (by kernel_rfl) ?_ _
                clear hH
                have HBf : Hid (Below w.heap.size w v14) := Lib.hid (HBw.out.trans (HB.out.mono HBw.out.size))
                go_wp2
                go_ret
                exact ⟨rfl, HBf.out⟩
              · refine zstep rfl (fun K hK => ?_)
                go_simp
                have hb : Below v10.heap.size v10 (v10.alloc (.cells #[.int .i64 1, .int .i64 2, .int .i64 2] 27)) := (Below.refl _ _).alloc (Nat.le_refl _) _
                replace B26 := Lib.hid (B26.out.below hb)
                replace B27 := Lib.hid (B27.out.below hb)
                have B31 : Hid (Blk (v10.alloc (.cells #[.int .i64 1, .int .i64 2, .int .i64 2] 27)) v10.heap.size #[.int .i64 1, .int .i64 2, .int .i64 2].toList) := Lib.hid (blk_new v10 #[.int .i64 1, .int .i64 2, .int .i64 2] 27)
                replace HB : Hid (Below Ws.heap.size Ws (v10.alloc (.cells #[.int .i64 1, .int .i64 2, .int .i64 2] 27))) := Lib.hid (HB.out.trans (hb.mono HB.out.size))
                clear hb
                generalize (v10.alloc (.cells #[.int .i64 1, .int .i64 2, .int .i64 2] 27)) = v16 at *
                generalize v10.heap.size = g31 at B31 ⊢
                refine hK.out _ _ (fun _ => HB.out) (fun hH => ?_)
                replace hH := hH (by decide)
                clear hK K
                (try simp only [Act.put, List.getElem_toArray, List.getElem_cons_succ, List.getElem_cons_zero, List.setIfInBounds_toArray, List.set_cons_zero, List.set_cons_succ])
                refine wpAnyZ_one (i := 29) (by kernel_rfl) ?_
                refine zstep rfl (fun K hK => ?_)
                go_simp
                have hb : Below v16.heap.size v16 (v16.alloc (.cells #[.int .i64 3, .slice (some ⟨g26, 0, none⟩) 1 1, .slice (some ⟨g27, 0, none⟩) 1 1] 24)) := (Below.refl _ _).alloc (Nat.le_refl _) _
                replace B26 := Lib.hid (B26.out.below hb)
                replace B27 := Lib.hid (B27.out.below hb)
                replace B31 := Lib.hid (B31.out.below hb)
                have B29 : Hid (Blk (v16.alloc (.cells #[.int .i64 3, .slice (some ⟨g26, 0, none⟩) 1 1, .slice (some ⟨g27, 0, none⟩) 1 1] 24)) v16.heap.size #[.int .i64 3, .slice (some ⟨g26, 0, none⟩) 1 1, .slice (some ⟨g27, 0, none⟩) 1 1].toList) := Lib.hid (blk_new v16 #[.int .i64 3, .slice (some ⟨g26, 0, none⟩) 1 1, .slice (some ⟨g27, 0, none⟩) 1 1] 24)
                replace HB : Hid (Below Ws.heap.size Ws (v16.alloc (.cells #[.int .i64 3, .slice (some ⟨g26, 0, none⟩) 1 1, .slice (some ⟨g27, 0, none⟩) 1 1] 24))) := Lib.hid (HB.out.trans (hb.mono HB.out.size))
                clear hb
                generalize (v16.alloc (.cells #[.int .i64 3, .slice (some ⟨g26, 0, none⟩) 1 1, .slice (some ⟨g27, 0, none⟩) 1 1] 24)) = v17 at *
                generalize v16.heap.size = g29 at B29 ⊢
                refine hK.out _ _ (fun _ => HB.out) (fun hH => ?_)
                replace hH := hH (by decide)
                clear hK K
                (try simp only [Act.put, List.getElem_toArray, List.getElem_cons_succ, List.getElem_cons_zero, List.setIfInBounds_toArray, List.set_cons_zero, List.set_cons_succ])
                refine wpAnyZ_takeS (i := 32) (v := ?_) rfl (by kernel_rfl) (by kernel_rfl) (by kernel_rfl) (by kernel_rfl) (fun _ _ _ h => h) (gives_value (by rfl) ?_) (by assumption) ?_
                rotate_left
                · intro w hSw
                  go_simp
                  (try with_reducible rfl)
                (try simp only [Act.put, List.getElem_toArray, List.getElem_cons_succ, List.getElem_cons_zero, List.setIfInBounds_toArray, List.set_cons_zero, List.set_cons_succ])
                refine wpAnyZ_one (i := 33) (by kernel_rfl) ?_
                refine zstep rfl (fun K hK => ?_)
                have KX := Lib.hid (empty_any (some ⟨g29, 0, none⟩) none (some ⟨g31, 0, none⟩) 1 0 1 ⟨[⟨3, .slice (some ⟨g26, 0, none⟩) 1 1, .slice (some ⟨g27, 0, none⟩) 1 1, [1], [1]⟩], [], [⟨1, 2, 2⟩]⟩ v17 ⟨⟨rows_blk (l := [⟨3, .slice (some ⟨g26, 0, none⟩) 1 1, .slice (some ⟨g27, 0, none⟩) 1 1, [1], [1]⟩]) B29.out turn_len, fun t ht => by
                  obtain rfl := List.mem_singleton.1 ht
                  exact ⟨recs_blk (l := [1]) B26.out, recs_blk (l := [1]) B27.out⟩⟩, rows_nil, rows_blk (l := ([⟨1, 2, 2⟩] : List Hold)) B31.out hold_len, by simp, by simp, by simp, fun t ht => by
                  obtain rfl := List.mem_singleton.1 ht
                  simp⟩)
                rw [form_e3] at KX
                go_simp
                refine KX.out.mono ?_
                rintro e v18 ⟨rfl, hb⟩
                replace B26 := Lib.hid (B26.out.below hb)
                replace B27 := Lib.hid (B27.out.below hb)
                replace B29 := Lib.hid (B29.out.below hb)
                replace B31 := Lib.hid (B31.out.below hb)
                replace HB : Hid (Below Ws.heap.size Ws v18) := Lib.hid (HB.out.trans (hb.mono HB.out.size))
                clear hb KX
                refine hK.out _ _ (fun _ => HB.out) (fun hH => ?_)
                replace hH := hH (by decide)
                clear hK K
                (try simp only [Act.put, List.getElem_toArray, List.getElem_cons_succ, List.getElem_cons_zero, List.setIfInBounds_toArray, List.set_cons_zero, List.set_cons_succ])
                refine wpAnyZ_takeS (i := 34) (v := ?_) rfl (by kernel_rfl) (by kernel_rfl) (by kernel_rfl) (by kernel_rfl) (fun _ _ _ h => h) (gives_value (by rfl) ?_) (by assumption) ?_
                rotate_left
                · intro w hSw
                  go_simp
                  (try with_reducible rfl)
                (try simp only [Act.put, List.getElem_toArray, List.getElem_cons_succ, List.getElem_cons_zero, List.setIfInBounds_toArray, List.set_cons_zero, List.set_cons_succ])
                refine wpAnyZ_takeS (i := 35) (v := ?_) rfl (by kernel_rfl) (by kernel_rfl) (by kernel_rfl) (by kernel_rfl) (fun _ _ _ h => h) (gives_value (by rfl) ?_) (by assumption) ?_
                rotate_left
                · intro w hSw
                  go_simp
                  (try with_reducible rfl)
                (try simp only [Act.put, List.getElem_toArray, List.getElem_cons_succ, List.getElem_cons_zero, List.setIfInBounds_toArray, List.set_cons_zero, List.set_cons_succ])
                refine wpAnyZ_one (i := 36) (by kernel_rfl) ?_
                refine zstep rfl (fun K hK => ?_)
                go_simp
                refine (wakes7_any _).mono ?_
                rintro e v19 ⟨rfl, hb⟩
                replace B26 := Lib.hid (B26.out.below hb)
                replace B27 := Lib.hid (B27.out.below hb)
                replace B29 := Lib.hid (B29.out.below hb)
                replace B31 := Lib.hid (B31.out.below hb)
                replace HB : Hid (Below Ws.heap.size Ws v19) := Lib.hid (HB.out.trans (hb.mono HB.out.size))
                clear hb 
                refine hK.out _ _ (fun _ => HB.out) (fun hH => ?_)
                replace hH := hH (by decide)
                clear hK K
                (try simp only [Act.put, List.getElem_toArray, List.getElem_cons_succ, List.getElem_cons_zero, List.setIfInBounds_toArray, List.set_cons_zero, List.set_cons_succ])
                refine wpAnyZ_takeS (i := 37) (v := ?_) rfl (by kernel_rfl) (by kernel_rfl) (by kernel_rfl) (by kernel_rfl) (fun _ _ _ h => h) (gives_value (by rfl) ?_) (by assumption) ?_
                rotate_left
                · intro w hSw
                  go_simp
                  (try with_reducible rfl)
                (try simp only [Act.put, List.getElem_toArray, List.getElem_cons_succ, List.getElem_cons_zero, List.setIfInBounds_toArray, List.set_cons_zero, List.set_cons_succ])
                refine wpAnyZ_one (i := 38) (by kernel_rfl) ?_
                refine zstep rfl (fun K hK => ?_)
                go_simp
                refine hK.out _ _ (fun _ => HB.out) (fun hH => ?_)
                replace hH := hH (by decide)
                clear hK K
                (try simp only [Act.put, List.getElem_toArray, List.getElem_cons_succ, List.getElem_cons_zero, List.setIfInBounds_toArray, List.set_cons_zero, List.set_cons_succ])
                refine wpAnyZ_done (by kernel_rfl) ?_ _
                clear hH
                have HBf : Hid (Below w.heap.size w v19) := Lib.hid (HBw.out.trans (HB.out.mono HBw.out.size))
                go_wp2
                go_ret
                exact ⟨rfl, HBf.out⟩
            · refine zstep rfl (fun K hK => ?_)
              go_simp
              have hb : Below v9.heap.size v9 (v9.alloc (.cells #[.int .i64 1, .int .i64 2, .int .i64 2] 27)) := (Below.refl _ _).alloc (Nat.le_refl _) _
              replace B26 := Lib.hid (B26.out.below hb)
              have B31 : Hid (Blk (v9.alloc (.cells #[.int .i64 1, .int .i64 2, .int .i64 2] 27)) v9.heap.size #[.int .i64 1, .int .i64 2, .int .i64 2].toList) := Lib.hid (blk_new v9 #[.int .i64 1, .int .i64 2, .int .i64 2] 27)
              replace HB : Hid (Below Ws.heap.size Ws (v9.alloc (.cells #[.int .i64 1, .int .i64 2, .int .i64 2] 27))) := Lib.hid (HB.out.trans (hb.mono HB.out.size))
              clear hb
              generalize (v9.alloc (.cells #[.int .i64 1, .int .i64 2, .int .i64 2] 27)) = v21 at *
              generalize v9.heap.size = g31 at B31 ⊢
              refine hK.out _ _ (fun _ => HB.out) (fun hH => ?_)
              replace hH := hH (by decide)
              clear hK K
              (try simp only [Act.put, List.getElem_toArray, List.getElem_cons_succ, List.getElem_cons_zero, List.setIfInBounds_toArray, List.set_cons_zero, List.set_cons_succ])
              refine wpAnyZ_one (i := 27) (by kernel_rfl) ?_
              refine zstep rfl (fun K hK => ?_)
              go_simp
              have hb : Below v21.heap.size v21 (v21.alloc (.cells #[.int .i64 1] 3)) := (Below.refl _ _).alloc (Nat.le_refl _) _
              replace B26 := Lib.hid (B26.out.below hb)
              replace B31 := Lib.hid (B31.out.below hb)
              have B27 : Hid (Blk (v21.alloc (.cells #[.int .i64 1] 3)) v21.heap.size #[.int .i64 1].toList) := Lib.hid (blk_new v21 #[.int .i64 1] 3)
              replace HB : Hid (Below Ws.heap.size Ws (v21.alloc (.cells #[.int .i64 1] 3))) := Lib.hid (HB.out.trans (hb.mono HB.out.size))
              clear hb
              generalize (v21.alloc (.cells #[.int .i64 1] 3)) = v22 at *
              generalize v21.heap.size = g27 at B27 ⊢
              refine hK.out _ _ (fun _ => HB.out) (fun hH => ?_)
              replace hH := hH (by decide)
              clear hK K
              (try simp only [Act.put, List.getElem_toArray, List.getElem_cons_succ, List.getElem_cons_zero, List.setIfInBounds_toArray, List.set_cons_zero, List.set_cons_succ])
              refine wpAnyZ_takeS (i := 28) (v := ?_) rfl (by kernel_rfl) (by kernel_rfl) (by kernel_rfl) (by kernel_rfl) (fun _ _ _ h => h) (gives_value (by rfl) ?_) (by assumption) ?_
              rotate_left
              · intro w hSw
                go_simp
                (try with_reducible rfl)
              (try simp only [Act.put, List.getElem_toArray, List.getElem_cons_succ, List.getElem_cons_zero, List.setIfInBounds_toArray, List.set_cons_zero, List.set_cons_succ])
              refine wpAnyZ_one (i := 29) (by kernel_rfl) ?_
              refine zstep rfl (fun K hK => ?_)
              go_simp
              have hb : Below v22.heap.size v22 (v22.alloc (.cells #[.int .i64 3, .slice (some ⟨g26, 0, none⟩) 1 1, .slice (some ⟨g27, 0, none⟩) 1 1] 24)) := (Below.refl _ _).alloc (Nat.le_refl _) _
              replace B26 := Lib.hid (B26.out.below hb)
              replace B27 := Lib.hid (B27.out.below hb)
              replace B31 := Lib.hid (B31.out.below hb)
              have B29 : Hid (Blk (v22.alloc (.cells #[.int .i64 3, .slice (some ⟨g26, 0, none⟩) 1 1, .slice (some ⟨g27, 0, none⟩) 1 1] 24)) v22.heap.size #[.int .i64 3, .slice (some ⟨g26, 0, none⟩) 1 1, .slice (some ⟨g27, 0, none⟩) 1 1].toList) := Lib.hid (blk_new v22 #[.int .i64 3, .slice (some ⟨g26, 0, none⟩) 1 1, .slice (some ⟨g27, 0, none⟩) 1 1] 24)
              replace HB : Hid (Below Ws.heap.size Ws (v22.alloc (.cells #[.int .i64 3, .slice (some ⟨g26, 0, none⟩) 1 1, .slice (some ⟨g27, 0, none⟩) 1 1] 24))) := Lib.hid (HB.out.trans (hb.mono HB.out.size))
              clear hb
              generalize (v22.alloc (.cells #[.int .i64 3, .slice (some ⟨g26, 0, none⟩) 1 1, .slice (some ⟨g27, 0, none⟩) 1 1] 24)) = v23 at *
              generalize v22.heap.size = g29 at B29 ⊢
              refine hK.out _ _ (fun _ => HB.out) (fun hH => ?_)
              replace hH := hH (by decide)
              clear hK K
              (try simp only [Act.put, List.getElem_toArray, List.getElem_cons_succ, List.getElem_cons_zero, List.setIfInBounds_toArray, List.set_cons_zero, List.set_cons_succ])
              refine wpAnyZ_takeS (i := 32) (v := ?_) rfl (by kernel_rfl) (by kernel_rfl) (by kernel_rfl) (by kernel_rfl) (fun _ _ _ h => h) (gives_value (by rfl) ?_) (by assumption) ?_
              rotate_left
              · intro w hSw
                go_simp
                (try with_reducible rfl)
              (try simp only [Act.put, List.getElem_toArray, List.getElem_cons_succ, List.getElem_cons_zero, List.setIfInBounds_toArray, List.set_cons_zero, List.set_cons_succ])
              refine wpAnyZ_one (i := 33) (by kernel_rfl) ?_
              refine zstep rfl (fun K hK => ?_)
              have KX := Lib.hid (empty_any (some ⟨g29, 0, none⟩) none (some ⟨g31, 0, none⟩) 1 0 1 ⟨[⟨3, .slice (some ⟨g26, 0, none⟩) 1 1, .slice (some ⟨g27, 0, none⟩) 1 1, [1], [1]⟩], [], [⟨1, 2, 2⟩]⟩ v23 ⟨⟨rows_blk (l := [⟨3, .slice (some ⟨g26, 0, none⟩) 1 1, .slice (some ⟨g27, 0, none⟩) 1 1, [1], [1]⟩]) B29.out turn_len, fun t ht => by
                obtain rfl := List.mem_singleton.1 ht
                exact ⟨recs_blk (l := [1]) B26.out, recs_blk (l := [1]) B27.out⟩⟩, rows_nil, rows_blk (l := ([⟨1, 2, 2⟩] : List Hold)) B31.out hold_len, by simp, by simp, by simp, fun t ht => by
                obtain rfl := List.mem_singleton.1 ht
                simp⟩)
              rw [form_e3] at KX
              go_simp
              refine KX.out.mono ?_
              rintro e v24 ⟨rfl, hb⟩
              replace B26 := Lib.hid (B26.out.below hb)
              replace B27 := Lib.hid (B27.out.below hb)
              replace B29 := Lib.hid (B29.out.below hb)
              replace B31 := Lib.hid (B31.out.below hb)
              replace HB : Hid (Below Ws.heap.size Ws v24) := Lib.hid (HB.out.trans (hb.mono HB.out.size))
              clear hb KX
              refine hK.out _ _ (fun _ => HB.out) (fun hH => ?_)
              replace hH := hH (by decide)
              clear hK K
              (try simp only [Act.put, List.getElem_toArray, List.getElem_cons_succ, List.getElem_cons_zero, List.setIfInBounds_toArray, List.set_cons_zero, List.set_cons_succ])
              refine wpAnyZ_takeS (i := 34) (v := ?_) rfl (by kernel_rfl) (by kernel_rfl) (by kernel_rfl) (by kernel_rfl) (fun _ _ _ h => h) (gives_value (by rfl) ?_) (by assumption) ?_
              rotate_left
              · intro w hSw
                go_simp
                (try with_reducible rfl)
              (try simp only [Act.put, List.getElem_toArray, List.getElem_cons_succ, List.getElem_cons_zero, List.setIfInBounds_toArray, List.set_cons_zero, List.set_cons_succ])
              refine wpAnyZ_takeS (i := 35) (v := ?_) rfl (by kernel_rfl) (by kernel_rfl) (by kernel_rfl) (by kernel_rfl) (fun _ _ _ h => h) (gives_value (by rfl) ?_) (by assumption) ?_
              rotate_left
              · intro w hSw
                go_simp
                (try with_reducible rfl)
              (try simp only [Act.put, List.getElem_toArray, List.getElem_cons_succ, List.getElem_cons_zero, List.setIfInBounds_toArray, List.set_cons_zero, List.set_cons_succ])
              refine wpAnyZ_one (i := 36) (by kernel_rfl) ?_
              refine zstep rfl (fun K hK => ?_)
              go_simp
              refine (wakes7_any _).mono ?_
              rintro e v25 ⟨rfl, hb⟩
              replace B26 := Lib.hid (B26.out.below hb)
              replace B27 := Lib.hid (B27.out.below hb)
              replace B29 := Lib.hid (B29.out.below hb)
              replace B31 := Lib.hid (B31.out.below hb)
              replace HB : Hid (Below Ws.heap.size Ws v25) := Lib.hid (HB.out.trans (hb.mono HB.out.size))
              clear hb 
              refine hK.out _ _ (fun _ => HB.out) (fun hH => ?_)
              replace hH := hH (by decide)
              clear hK K
              (try simp only [Act.put, List.getElem_toArray, List.getElem_cons_succ, List.getElem_cons_zero, List.setIfInBounds_toArray, List.set_cons_zero, List.set_cons_succ])
              refine wpAnyZ_takeS (i := 37) (v := ?_) rfl (by kernel_rfl) (by kernel_rfl) (by kernel_rfl) (by kernel_rfl) (fun _ _ _ h => h) (gives_value (by rfl) ?_) (by assumption) ?_
              rotate_left
              · intro w hSw
                go_simp
                (try with_reducible rfl)
              (try simp only [Act.put, List.getElem_toArray, List.getElem_cons_succ, List.getElem_cons_zero, List.setIfInBounds_toArray, List.set_cons_zero, List.set_cons_succ])
              refine wpAnyZ_one (i := 38) (by kernel_rfl) ?_
              refine zstep rfl (fun K hK => ?_)
              go_simp
              refine hK.out _ _ (fun _ => HB.out) (fun hH => ?_)
              replace hH := hH (by decide)
              clear hK K
              (try simp only [Act.put, List.getElem_toArray, List.getElem_cons_succ, List.getElem_cons_zero, List.setIfInBounds_toArray, List.set_cons_zero, List.set_cons_succ])
              refine wpAnyZ_done (by kernel_rfl) ?_ _
              clear hH
              have HBf : Hid (Below w.heap.size w v25) := Lib.hid (HBw.out.trans (HB.out.mono HBw.out.size))
              go_wp2
              go_ret
              exact ⟨rfl, HBf.out⟩
          · refine zstep rfl (fun K hK => ?_)
            go_simp
            have hb : Below v8.heap.size v8 (v8.alloc (.cells #[.int .i64 1] 3)) := (Below.refl _ _).alloc (Nat.le_refl _) _
            have B27 : Hid (Blk (v8.alloc (.cells #[.int .i64 1] 3)) v8.heap.size #[.int .i64 1].toList) := Lib.hid (blk_new v8 #[.int .i64 1] 3)
            replace HB : Hid (Below Ws.heap.size Ws (v8.alloc (.cells #[.int .i64 1] 3))) := Lib.hid (HB.out.trans (hb.mono HB.out.size))
            clear hb
            generalize (v8.alloc (.cells #[.int .i64 1] 3)) = v27 at *
            generalize v8.heap.size = g27 at B27 ⊢
            refine hK.out _ _ (fun _ => HB.out) (fun hH => ?_)
            replace hH := hH (by decide)
            clear hK K
            (try simp only [Act.put, List.getElem_toArray, List.getElem_cons_succ, List.getElem_cons_zero, List.setIfInBounds_toArray, List.set_cons_zero, List.set_cons_succ])
            refine wpAnyZ_two (i := 26) (j := 31) (by kernel_rfl) ?_ ?_
            · refine zstep rfl (fun K hK => ?_)
              go_simp
              have hb : Below v27.heap.size v27 (v27.alloc (.cells #[.int .i64 1] 3)) := (Below.refl _ _).alloc (Nat.le_refl _) _
              replace B27 := Lib.hid (B27.out.below hb)
              have B26 : Hid (Blk (v27.alloc (.cells #[.int .i64 1] 3)) v27.heap.size #[.int .i64 1].toList) := Lib.hid (blk_new v27 #[.int .i64 1] 3)
              replace HB : Hid (Below Ws.heap.size Ws (v27.alloc (.cells #[.int .i64 1] 3))) := Lib.hid (HB.out.trans (hb.mono HB.out.size))
              clear hb
              generalize (v27.alloc (.cells #[.int .i64 1] 3)) = v28 at *
              generalize v27.heap.size = g26 at B26 ⊢
              refine hK.out _ _ (fun _ => HB.out) (fun hH => ?_)
              replace hH := hH (by decide)
              clear hK K
              (try simp only [Act.put, List.getElem_toArray, List.getElem_cons_succ, List.getElem_cons_zero, List.setIfInBounds_toArray, List.set_cons_zero, List.set_cons_succ])
              refine wpAnyZ_takeS (i := 28) (v := ?_) rfl (by kernel_rfl) (by kernel_rfl) (by kernel_rfl) (by kernel_rfl) (fun _ _ _ h => h) (gives_value (by rfl) ?_) (by assumption) ?_
              rotate_left
              · intro w hSw
                go_simp
                (try with_reducible rfl)
              (try simp only [Act.put, List.getElem_toArray, List.getElem_cons_succ, List.getElem_cons_zero, List.setIfInBounds_toArray, List.set_cons_zero, List.set_cons_succ])
              refine wpAnyZ_two (i := 29) (j := 31) (by kernel_rfl) ?_ ?_
              · refine zstep rfl (fun K hK => ?_)
                go_simp
                have hb : Below v28.heap.size v28 (v28.alloc (.cells #[.int .i64 3, .slice (some ⟨g26, 0, none⟩) 1 1, .slice (some ⟨g27, 0, none⟩) 1 1] 24)) := (Below.refl _ _).alloc (Nat.le_refl _) _
                replace B26 := Lib.hid (B26.out.below hb)
                replace B27 := Lib.hid (B27.out.below hb)
                have B29 : Hid (Blk (v28.alloc (.cells #[.int .i64 3, .slice (some ⟨g26, 0, none⟩) 1 1, .slice (some ⟨g27, 0, none⟩) 1 1] 24)) v28.heap.size #[.int .i64 3, .slice (some ⟨g26, 0, none⟩) 1 1, .slice (some ⟨g27, 0, none⟩) 1 1].toList) := Lib.hid (blk_new v28 #[.int .i64 3, .slice (some ⟨g26, 0, none⟩) 1 1, .slice (some ⟨g27, 0, none⟩) 1 1] 24)
                replace HB : Hid (Below Ws.heap.size Ws (v28.alloc (.cells #[.int .i64 3, .slice (some ⟨g26, 0, none⟩) 1 1, .slice (some ⟨g27, 0, none⟩) 1 1] 24))) := Lib.hid (HB.out.trans (hb.mono HB.out.size))
                clear hb
                generalize (v28.alloc (.cells #[.int .i64 3, .slice (some ⟨g26, 0, none⟩) 1 1, .slice (some ⟨g27, 0, none⟩) 1 1] 24)) = v29 at *
                generalize v28.heap.size = g29 at B29 ⊢
                refine hK.out _ _ (fun _ => HB.out) (fun hH => ?_)
                replace hH := hH (by decide)
                clear hK K
                (try simp only [Act.put, List.getElem_toArray, List.getElem_cons_succ, List.getElem_cons_zero, List.setIfInBounds_toArray, List.set_cons_zero, List.set_cons_succ])
                refine wpAnyZ_one (i := 31) (by kernel_rfl) ?_
                refine zstep rfl (fun K hK => ?_)
                go_simp
                have hb : Below v29.heap.size v29 (v29.alloc (.cells #[.int .i64 1, .int .i64 2, .int .i64 2] 27)) := (Below.refl _ _).alloc (Nat.le_refl _) _
                replace B26 := Lib.hid (B26.out.below hb)
                replace B27 := Lib.hid (B27.out.below hb)
                replace B29 := Lib.hid (B29.out.below hb)
                have B31 : Hid (Blk (v29.alloc (.cells #[.int .i64 1, .int .i64 2, .int .i64 2] 27)) v29.heap.size #[.int .i64 1, .int .i64 2, .int .i64 2].toList) := Lib.hid (blk_new v29 #[.int .i64 1, .int .i64 2, .int .i64 2] 27)
                replace HB : Hid (Below Ws.heap.size Ws (v29.alloc (.cells #[.int .i64 1, .int .i64 2, .int .i64 2] 27))) := Lib.hid (HB.out.trans (hb.mono HB.out.size))
                clear hb
                generalize (v29.alloc (.cells #[.int .i64 1, .int .i64 2, .int .i64 2] 27)) = v30 at *
                generalize v29.heap.size = g31 at B31 ⊢
                refine hK.out _ _ (fun _ => HB.out) (fun hH => ?_)
                replace hH := hH (by decide)
                clear hK K
                (try simp only [Act.put, List.getElem_toArray, List.getElem_cons_succ, List.getElem_cons_zero, List.setIfInBounds_toArray, List.set_cons_zero, List.set_cons_succ])
                refine wpAnyZ_takeS (i := 32) (v := ?_) rfl (by kernel_rfl) (by kernel_rfl) (by kernel_rfl) (by kernel_rfl) (fun _ _ _ h => h) (gives_value (by rfl) ?_) (by assumption) ?_
                rotate_left
                · intro w hSw
                  go_simp
                  (try with_reducible rfl)
                (try simp only [Act.put, List.getElem_toArray, List.getElem_cons_succ, List.getElem_cons_zero, List.setIfInBounds_toArray, List.set_cons_zero, List.set_cons_succ])
                refine wpAnyZ_one (i := 33) (by kernel_rfl) ?_
                refine zstep rfl (fun K hK => ?_)
                have KX := Lib.hid (empty_any (some ⟨g29, 0, none⟩) none (some ⟨g31, 0, none⟩) 1 0 1 ⟨[⟨3, .slice (some ⟨g26, 0, none⟩) 1 1, .slice (some ⟨g27, 0, none⟩) 1 1, [1], [1]⟩], [], [⟨1, 2, 2⟩]⟩ v30 ⟨⟨rows_blk (l := [⟨3, .slice (some ⟨g26, 0, none⟩) 1 1, .slice (some ⟨g27, 0, none⟩) 1 1, [1], [1]⟩]) B29.out turn_len, fun t ht => by
                  obtain rfl := List.mem_singleton.1 ht
                  exact ⟨recs_blk (l := [1]) B26.out, recs_blk (l := [1]) B27.out⟩⟩, rows_nil, rows_blk (l := ([⟨1, 2, 2⟩] : List Hold)) B31.out hold_len, by simp, by simp, by simp, fun t ht => by
                  obtain rfl := List.mem_singleton.1 ht
                  simp⟩)
                rw [form_e3] at KX
                go_simp
                refine KX.out.mono ?_
                rintro e v31 ⟨rfl, hb⟩
                replace B26 := Lib.hid (B26.out.below hb)
                replace B27 := Lib.hid (B27.out.below hb)
                replace B29 := Lib.hid (B29.out.below hb)
                replace B31 := Lib.hid (B31.out.below hb)
                replace HB : Hid (Below Ws.heap.size Ws v31) := Lib.hid (HB.out.trans (hb.mono HB.out.size))
                clear hb KX
                refine hK.out _ _ (fun _ => HB.out) (fun hH => ?_)
                replace hH := hH (by decide)
                clear hK K
                (try simp only [Act.put, List.getElem_toArray, List.getElem_cons_succ, List.getElem_cons_zero, List.setIfInBounds_toArray, List.set_cons_zero, List.set_cons_succ])
                refine wpAnyZ_takeS (i := 34) (v := ?_) rfl (by kernel_rfl) (by kernel_rfl) (by kernel_rfl) (by kernel_rfl) (fun _ _ _ h => h) (gives_value (by rfl) ?_) (by assumption) ?_
                rotate_left
                · intro w hSw
                  go_simp
                  (try with_reducible rfl)
                (try simp only [Act.put, List.getElem_toArray, List.getElem_cons_succ, List.getElem_cons_zero, List.setIfInBounds_toArray, List.set_cons_zero, List.set_cons_succ])
                refine wpAnyZ_takeS (i := 35) (v := ?_) rfl (by kernel_rfl) (by kernel_rfl) (by kernel_rfl) (by kernel_rfl) (fun _ _ _ h => h) (gives_value (by rfl) ?_) (by assumption) ?_
                rotate_left
                · intro w hSw
                  go_simp
                  (try with_reducible rfl)
                (try simp only [Act.put, List.getElem_toArray, List.getElem_cons_succ, List.getElem_cons_zero, List.setIfInBounds_toArray, List.set_cons_zero, List.set_cons_succ])
                refine wpAnyZ_one (i := 36) (by kernel_rfl) ?_
                refine zstep rfl (fun K hK => ?_)
                go_simp
                refine (wakes7_any _).mono ?_
                rintro e v32 ⟨rfl, hb⟩
                replace B26 := Lib.hid (B26.out.below hb)
                replace B27 := Lib.hid (B27.out.below hb)
                replace B29 := Lib.hid (B29.out.below hb)
                replace B31 := Lib.hid (B31.out.below hb)
                replace HB : Hid (Below Ws.heap.size Ws v32) := Lib.hid (HB.out.trans (hb.mono HB.out.size))
                clear hb 
                refine hK.out _ _ (fun _ => HB.out) (fun hH => ?_)
                replace hH := hH (by decide)
                clear hK K
                (try simp only [Act.put, List.getElem_toArray, List.getElem_cons_succ, List.getElem_cons_zero, List.setIfInBounds_toArray, List.set_cons_zero, List.set_cons_succ])
                refine wpAnyZ_takeS (i := 37) (v := ?_) rfl (by kernel_rfl) (by kernel_rfl) (by kernel_rfl) (by kernel_rfl) (fun _ _ _ h => h) (gives_value (by rfl) ?_) (by assumption) ?_
                rotate_left
                · intro w hSw
                  go_simp
                  (try with_reducible rfl)
                (try simp only [Act.put, List.getElem_toArray, List.getElem_cons_succ, List.getElem_cons_zero, List.setIfInBounds_toArray, List.set_cons_zero, List.set_cons_succ])
                refine wpAnyZ_one (i := 38) (by kernel_rfl) ?_
                refine zstep rfl (fun K hK => ?_)
                go_simp
                refine hK.out _ _ (fun _ => HB.out) (fun hH => ?_)
                replace hH := hH (by decide)
                clear hK K
                (try simp only [Act.put, List.getElem_toArray, List.getElem_cons_succ, List.getElem_cons_zero, List.setIfInBounds_toArray, List.set_cons_zero, List.set_cons_succ])
                refine wpAnyZ_done (by kernel_rfl) ?_ _
                clear hH
                have HBf : Hid (Below w.heap.size w v32) := Lib.hid (HBw.out.trans (HB.out.mono HBw.out.size))
                go_wp2
                go_ret
                exact ⟨rfl, HBf.out⟩
              · refine zstep rfl (fun K hK => ?_)
                go_simp
                have hb : Below v28.heap.size v28 (v28.alloc (.cells #[.int .i64 1, .int .i64 2, .int .i64 2] 27)) := (Below.refl _ _).alloc (Nat.le_refl _) _
                replace B26 := Lib.hid (B26.out.below hb)
                replace B27 := Lib.hid (B27.out.below hb)
                have B31 : Hid (Blk (v28.alloc (.cells #[.int .i64 1, .int .i64 2, .int .i64 2] 27)) v28.heap.size #[.int .i64 1, .int .i64 2, .int .i64 2].toList) := Lib.hid (blk_new v28 #[.int .i64 1, .int .i64 2, .int .i64 2] 27)
                replace HB : Hid (Below Ws.heap.size Ws (v28.alloc (.cells #[.int .i64 1, .int .i64 2, .int .i64 2] 27))) := Lib.hid (HB.out.trans (hb.mono HB.out.size))
                clear hb
                generalize (v28.alloc (.cells #[.int .i64 1, .int .i64 2, .int .i64 2] 27)) = v34 at *
                generalize v28.heap.size = g31 at B31 ⊢
                refine hK.out _ _ (fun _ => HB.out) (fun hH => ?_)
                replace hH := hH (by decide)
                clear hK K
                (try simp only [Act.put, List.getElem_toArray, List.getElem_cons_succ, List.getElem_cons_zero, List.setIfInBounds_toArray, List.set_cons_zero, List.set_cons_succ])
                refine wpAnyZ_one (i := 29) (by kernel_rfl) ?_
                refine zstep rfl (fun K hK => ?_)
                go_simp
                have hb : Below v34.heap.size v34 (v34.alloc (.cells #[.int .i64 3, .slice (some ⟨g26, 0, none⟩) 1 1, .slice (some ⟨g27, 0, none⟩) 1 1] 24)) := (Below.refl _ _).alloc (Nat.le_refl _) _
                replace B26 := Lib.hid (B26.out.below hb)
                replace B27 := Lib.hid (B27.out.below hb)
                replace B31 := Lib.hid (B31.out.below hb)
                have B29 : Hid (Blk (v34.alloc (.cells #[.int .i64 3, .slice (some ⟨g26, 0, none⟩) 1 1, .slice (some ⟨g27, 0, none⟩) 1 1] 24)) v34.heap.size #[.int .i64 3, .slice (some ⟨g26, 0, none⟩) 1 1, .slice (some ⟨g27, 0, none⟩) 1 1].toList) := Lib.hid (blk_new v34 #[.int .i64 3, .slice (some ⟨g26, 0, none⟩) 1 1, .slice (some ⟨g27, 0, none⟩) 1 1] 24)
                replace HB : Hid (Below Ws.heap.size Ws (v34.alloc (.cells #[.int .i64 3, .slice (some ⟨g26, 0, none⟩) 1 1, .slice (some ⟨g27, 0, none⟩) 1 1] 24))) := Lib.hid (HB.out.trans (hb.mono HB.out.size))
                clear hb
                generalize (v34.alloc (.cells #[.int .i64 3, .slice (some ⟨g26, 0, none⟩) 1 1, .slice (some ⟨g27, 0, none⟩) 1 1] 24)) = v35 at *
                generalize v34.heap.size = g29 at B29 ⊢
                refine hK.out _ _ (fun _ => HB.out) (fun hH => ?_)
                replace hH := hH (by decide)
                clear hK K
                (try simp only [Act.put, List.getElem_toArray, List.getElem_cons_succ, List.getElem_cons_zero, List.setIfInBounds_toArray, List.set_cons_zero, List.set_cons_succ])
                refine wpAnyZ_takeS (i := 32) (v := ?_) rfl (by kernel_rfl) (by kernel_rfl) (by kernel_rfl) (by kernel_rfl) (fun _ _ _ h => h) (gives_value (by rfl) ?_) (by assumption) ?_
                rotate_left
                · intro w hSw
                  go_simp
                  (try with_reducible rfl)
                (try simp only [Act.put, List.getElem_toArray, List.getElem_cons_succ, List.getElem_cons_zero, List.setIfInBounds_toArray, List.set_cons_zero, List.set_cons_succ])
                refine wpAnyZ_one (i := 33) (by kernel_rfl) ?_
                refine zstep rfl (fun K hK => ?_)
                have KX := Lib.hid (empty_any (some ⟨g29, 0, none⟩) none (some ⟨g31, 0, none⟩) 1 0 1 ⟨[⟨3, .slice (some ⟨g26, 0, none⟩) 1 1, .slice (some ⟨g27, 0, none⟩) 1 1, [1], [1]⟩], [], [⟨1, 2, 2⟩]⟩ v35 ⟨⟨rows_blk (l := [⟨3, .slice (some ⟨g26, 0, none⟩) 1 1, .slice (some ⟨g27, 0, none⟩) 1 1, [1], [1]⟩]) B29.out turn_len, fun t ht => by
                  obtain rfl := List.mem_singleton.1 ht
                  exact ⟨recs_blk (l := [1]) B26.out, recs_blk (l := [1]) B27.out⟩⟩, rows_nil, rows_blk (l := ([⟨1, 2, 2⟩] : List Hold)) B31.out hold_len, by simp, by simp, by simp, fun t ht => by
                  obtain rfl := List.mem_singleton.1 ht
                  simp⟩)
                rw [form_e3] at KX
                go_simp
                refine KX.out.mono ?_
                rintro e v36 ⟨rfl, hb⟩
                replace B26 := Lib.hid (B26.out.below hb)
                replace B27 := Lib.hid (B27.out.below hb)
                replace B29 := Lib.hid (B29.out.below hb)
                replace B31 := Lib.hid (B31.out.below hb)
                replace HB : Hid (Below Ws.heap.size Ws v36) := Lib.hid (HB.out.trans (hb.mono HB.out.size))
                clear hb KX
                refine hK.out _ _ (fun _ => HB.out) (fun hH => ?_)
                replace hH := hH (by decide)
                clear hK K
                (try simp only [Act.put, List.getElem_toArray, List.getElem_cons_succ, List.getElem_cons_zero, List.setIfInBounds_toArray, List.set_cons_zero, List.set_cons_succ])
                refine wpAnyZ_takeS (i := 34) (v := ?_) rfl (by kernel_rfl) (by kernel_rfl) (by kernel_rfl) (by kernel_rfl) (fun _ _ _ h => h) (gives_value (by rfl) ?_) (by assumption) ?_
                rotate_left
                · intro w hSw
                  go_simp
                  (try with_reducible rfl)
                (try simp only [Act.put, List.getElem_toArray, List.getElem_cons_succ, List.getElem_cons_zero, List.setIfInBounds_toArray, List.set_cons_zero, List.set_cons_succ])
                refine wpAnyZ_takeS (i := 35) (v := ?_) rfl (by kernel_rfl) (by kernel_rfl) (by kernel_rfl) (by kernel_rfl) (fun _ _ _ h => h) (gives_value (by rfl) ?_) (by assumption) ?_
                rotate_left
                · intro w hSw
                  go_simp
                  (try with_reducible rfl)
                (try simp only [Act.put, List.getElem_toArray, List.getElem_cons_succ, List.getElem_cons_zero, List.setIfInBounds_toArray, List.set_cons_zero, List.set_cons_succ])
                refine wpAnyZ_one (i := 36) (by kernel_rfl) ?_
                refine zstep rfl (fun K hK => ?_)
                go_simp
                refine (wakes7_any _).mono ?_
                rintro e v37 ⟨rfl, hb⟩
                replace B26 := Lib.hid (B26.out.below hb)
                replace B27 := Lib.hid (B27.out.below hb)
                replace B29 := Lib.hid (B29.out.below hb)
                replace B31 := Lib.hid (B31.out.below hb)
                replace HB : Hid (Below Ws.heap.size Ws v37) := Lib.hid (HB.out.trans (hb.mono HB.out.size))
                clear hb 
                refine hK.out _ _ (fun _ => HB.out) (fun hH => ?_)
                replace hH := hH (by decide)
                clear hK K
                (try simp only [Act.put, List.getElem_toArray, List.getElem_cons_succ, List.getElem_cons_zero, List.setIfInBounds_toArray, List.set_cons_zero, List.set_cons_succ])
                refine wpAnyZ_takeS (i := 37) (v := ?_) rfl (by kernel_rfl) (by kernel_rfl) (by kernel_rfl) (by kernel_rfl) (fun _ _ _ h => h) (gives_value (by rfl) ?_) (by assumption) ?_
                rotate_left
                · intro w hSw
                  go_simp
                  (try with_reducible rfl)
                (try simp only [Act.put, List.getElem_toArray, List.getElem_cons_succ, List.getElem_cons_zero, List.setIfInBounds_toArray, List.set_cons_zero, List.set_cons_succ])
                refine wpAnyZ_one (i := 38) (by kernel_rfl) ?_
                refine zstep rfl (fun K hK => ?_)
                go_simp
                refine hK.out _ _ (fun _ => HB.out) (fun hH => ?_)
                replace hH := hH (by decide)
                clear hK K
                (try simp only [Act.put, List.getElem_toArray, List.getElem_cons_succ, List.getElem_cons_zero, List.setIfInBounds_toArray, List.set_cons_zero, List.set_cons_succ])
                refine wpAnyZ_done (by kernel_rfl) ?_ _
                clear hH
                have HBf : Hid (Below w.heap.size w v37) := Lib.hid (HBw.out.trans (HB.out.mono HBw.out.size))
                go_wp2
                go_ret
                exact ⟨rfl, HBf.out⟩
            · refine zstep rfl (fun K hK => ?_)
              go_simp
              have hb : Below v27.heap.size v27 (v27.alloc (.cells #[.int .i64 1, .int .i64 2, .int .i64 2] 27)) := (Below.refl _ _).alloc (Nat.le_refl _) _
              replace B27 := Lib.hid (B27.out.below hb)
              have B31 : Hid (Blk (v27.alloc (.cells #[.int .i64 1, .int .i64 2, .int .i64 2] 27)) v27.heap.size #[.int .i64 1, .int .i64 2, .int .i64 2].toList) := Lib.hid (blk_new v27 #[.int .i64 1, .int .i64 2, .int .i64 2] 27)
              replace HB : Hid (Below Ws.heap.size Ws (v27.alloc (.cells #[.int .i64 1, .int .i64 2, .int .i64 2] 27))) := Lib.hid (HB.out.trans (hb.mono HB.out.size))
              clear hb
              generalize (v27.alloc (.cells #[.int .i64 1, .int .i64 2, .int .i64 2] 27)) = v39 at *
              generalize v27.heap.size = g31 at B31 ⊢
              refine hK.out _ _ (fun _ => HB.out) (fun hH => ?_)
              replace hH := hH (by decide)
              clear hK K
              (try simp only [Act.put, List.getElem_toArray, List.getElem_cons_succ, List.getElem_cons_zero, List.setIfInBounds_toArray, List.set_cons_zero, List.set_cons_succ])
              refine wpAnyZ_one (i := 26) (by kernel_rfl) ?_
              refine zstep rfl (fun K hK => ?_)
              go_simp
              have hb : Below v39.heap.size v39 (v39.alloc (.cells #[.int .i64 1] 3)) := (Below.refl _ _).alloc (Nat.le_refl _) _
              replace B27 := Lib.hid (B27.out.below hb)
              replace B31 := Lib.hid (B31.out.below hb)
              have B26 : Hid (Blk (v39.alloc (.cells #[.int .i64 1] 3)) v39.heap.size #[.int .i64 1].toList) := Lib.hid (blk_new v39 #[.int .i64 1] 3)
              replace HB : Hid (Below Ws.heap.size Ws (v39.alloc (.cells #[.int .i64 1] 3))) := Lib.hid (HB.out.trans (hb.mono HB.out.size))
              clear hb
              generalize (v39.alloc (.cells #[.int .i64 1] 3)) = v40 at *
              generalize v39.heap.size = g26 at B26 ⊢
              refine hK.out _ _ (fun _ => HB.out) (fun hH => ?_)
              replace hH := hH (by decide)
              clear hK K
              (try simp only [Act.put, List.getElem_toArray, List.getElem_cons_succ, List.getElem_cons_zero, List.setIfInBounds_toArray, List.set_cons_zero, List.set_cons_succ])
              refine wpAnyZ_takeS (i := 28) (v := ?_) rfl (by kernel_rfl) (by kernel_rfl) (by kernel_rfl) (by kernel_rfl) (fun _ _ _ h => h) (gives_value (by rfl) ?_) (by assumption) ?_
              rotate_left
              · intro w hSw
                go_simp
                (try with_reducible rfl)
              (try simp only [Act.put, List.getElem_toArray, List.getElem_cons_succ, List.getElem_cons_zero, List.setIfInBounds_toArray, List.set_cons_zero, List.set_cons_succ])
              refine wpAnyZ_one (i := 29) (by kernel_rfl) ?_
              refine zstep rfl (fun K hK => ?_)
              go_simp
              have hb : Below v40.heap.size v40 (v40.alloc (.cells #[.int .i64 3, .slice (some ⟨g26, 0, none⟩) 1 1, .slice (some ⟨g27, 0, none⟩) 1 1] 24)) := (Below.refl _ _).alloc (Nat.le_refl _) _
              replace B26 := Lib.hid (B26.out.below hb)
              replace B27 := Lib.hid (B27.out.below hb)
              replace B31 := Lib.hid (B31.out.below hb)
              have B29 : Hid (Blk (v40.alloc (.cells #[.int .i64 3, .slice (some ⟨g26, 0, none⟩) 1 1, .slice (some ⟨g27, 0, none⟩) 1 1] 24)) v40.heap.size #[.int .i64 3, .slice (some ⟨g26, 0, none⟩) 1 1, .slice (some ⟨g27, 0, none⟩) 1 1].toList) := Lib.hid (blk_new v40 #[.int .i64 3, .slice (some ⟨g26, 0, none⟩) 1 1, .slice (some ⟨g27, 0, none⟩) 1 1] 24)
              replace HB : Hid (Below Ws.heap.size Ws (v40.alloc (.cells #[.int .i64 3, .slice (some ⟨g26, 0, none⟩) 1 1, .slice (some ⟨g27, 0, none⟩) 1 1] 24))) := Lib.hid (HB.out.trans (hb.mono HB.out.size))
              clear hb
              generalize (v40.alloc (.cells #[.int .i64 3, .slice (some ⟨g26, 0, none⟩) 1 1, .slice (some ⟨g27, 0, none⟩) 1 1] 24)) = v41 at *
              generalize v40.heap.size = g29 at B29 ⊢
              refine hK.out _ _ (fun _ => HB.out) (fun hH => ?_)
              replace hH := hH (by decide)
              clear hK K
              (try simp only [Act.put, List.getElem_toArray, List.getElem_cons_succ, List.getElem_cons_zero, List.setIfInBounds_toArray, List.set_cons_zero, List.set_cons_succ])
              refine wpAnyZ_takeS (i := 32) (v := ?_) rfl (by kernel_rfl) (by kernel_rfl) (by kernel_rfl) (by kernel_rfl) (fun _ _ _ h => h) (gives_value (by rfl) ?_) (by assumption) ?_
              rotate_left
              · intro w hSw
                go_simp
                (try with_reducible rfl)
              (try simp only [Act.put, List.getElem_toArray, List.getElem_cons_succ, List.getElem_cons_zero, List.setIfInBounds_toArray, List.set_cons_zero, List.set_cons_succ])
              refine wpAnyZ_one (i := 33) (by kernel_rfl) ?_
              refine zstep rfl (fun K hK => ?_)
              have KX := Lib.hid (empty_any (some ⟨g29, 0, none⟩) none (some ⟨g31, 0, none⟩) 1 0 1 ⟨[⟨3, .slice (some ⟨g26, 0, none⟩) 1 1, .slice (some ⟨g27, 0, none⟩) 1 1, [1], [1]⟩], [], [⟨1, 2, 2⟩]⟩ v41 ⟨⟨rows_blk (l := [⟨3, .slice (some ⟨g26, 0, none⟩) 1 1, .slice (some ⟨g27, 0, none⟩) 1 1, [1], [1]⟩]) B29.out turn_len, fun t ht => by
                obtain rfl := List.mem_singleton.1 ht
                exact ⟨recs_blk (l := [1]) B26.out, recs_blk (l := [1]) B27.out⟩⟩, rows_nil, rows_blk (l := ([⟨1, 2, 2⟩] : List Hold)) B31.out hold_len, by simp, by simp, by simp, fun t ht => by
                obtain rfl := List.mem_singleton.1 ht
                simp⟩)
              rw [form_e3] at KX
              go_simp
              refine KX.out.mono ?_
              rintro e v42 ⟨rfl, hb⟩
              replace B26 := Lib.hid (B26.out.below hb)
              replace B27 := Lib.hid (B27.out.below hb)
              replace B29 := Lib.hid (B29.out.below hb)
              replace B31 := Lib.hid (B31.out.below hb)
              replace HB : Hid (Below Ws.heap.size Ws v42) := Lib.hid (HB.out.trans (hb.mono HB.out.size))
              clear hb KX
              refine hK.out _ _ (fun _ => HB.out) (fun hH => ?_)
              replace hH := hH (by decide)
              clear hK K
              (try simp only [Act.put, List.getElem_toArray, List.getElem_cons_succ, List.getElem_cons_zero, List.setIfInBounds_toArray, List.set_cons_zero, List.set_cons_succ])
              refine wpAnyZ_takeS (i := 34) (v := ?_) rfl (by kernel_rfl) (by kernel_rfl) (by kernel_rfl) (by kernel_rfl) (fun _ _ _ h => h) (gives_value (by rfl) ?_) (by assumption) ?_
              rotate_left
              · intro w hSw
                go_simp
                (try with_reducible rfl)
              (try simp only [Act.put, List.getElem_toArray, List.getElem_cons_succ, List.getElem_cons_zero, List.setIfInBounds_toArray, List.set_cons_zero, List.set_cons_succ])
              refine wpAnyZ_takeS (i := 35) (v := ?_) rfl (by kernel_rfl) (by kernel_rfl) (by kernel_rfl) (by kernel_rfl) (fun _ _ _ h => h) (gives_value (by rfl) ?_) (by assumption) ?_
              rotate_left
              · intro w hSw
                go_simp
                (try with_reducible rfl)
              (try simp only [Act.put, List.getElem_toArray, List.getElem_cons_succ, List.getElem_cons_zero, List.setIfInBounds_toArray, List.set_cons_zero, List.set_cons_succ])
              refine wpAnyZ_one (i := 36) (by kernel_rfl) ?_
              refine zstep rfl (fun K hK => ?_)
              go_simp
              refine (wakes7_any _).mono ?_
              rintro e v43 ⟨rfl, hb⟩
              replace B26 := Lib.hid (B26.out.below hb)
              replace B27 := Lib.hid (B27.out.below hb)
              replace B29 := Lib.hid (B29.out.below hb)
              replace B31 := Lib.hid (B31.out.below hb)
              replace HB : Hid (Below Ws.heap.size Ws v43) := Lib.hid (HB.out.trans (hb.mono HB.out.size))
              clear hb 
              refine hK.out _ _ (fun _ => HB.out) (fun hH => ?_)
              replace hH := hH (by decide)
              clear hK K
              (try simp only [Act.put, List.getElem_toArray, List.getElem_cons_succ, List.getElem_cons_zero, List.setIfInBounds_toArray, List.set_cons_zero, List.set_cons_succ])
              refine wpAnyZ_takeS (i := 37) (v := ?_) rfl (by kernel_rfl) (by kernel_rfl) (by kernel_rfl) (by kernel_rfl) (fun _ _ _ h => h) (gives_value (by rfl) ?_) (by assumption) ?_
              rotate_left
              · intro w hSw
                go_simp
                (try with_reducible rfl)
              (try simp only [Act.put, List.getElem_toArray, List.getElem_cons_succ, List.getElem_cons_zero, List.setIfInBounds_toArray, List.set_cons_zero, List.set_cons_succ])
              refine wpAnyZ_one (i := 38) (by kernel_rfl) ?_
              refine zstep rfl (fun K hK => ?_)
              go_simp
              refine hK.out _ _ (fun _ => HB.out) (fun hH => ?_)
              replace hH := hH (by decide)
              clear hK K
              (try simp only [Act.put, List.getElem_toArray, List.getElem_cons_succ, List.getElem_cons_zero, List.setIfInBounds_toArray, List.set_cons_zero, List.set_cons_succ])
              refine wpAnyZ_done (by kernel_rfl) ?_ _
              clear hH
              have HBf : Hid (Below w.heap.size w v43) := Lib.hid (HBw.out.trans (HB.out.mono HBw.out.size))
              go_wp2
              go_ret
              exact ⟨rfl, HBf.out⟩
          · refine zstep rfl (fun K hK => ?_)
            go_simp
            have hb : Below v8.heap.size v8 (v8.alloc (.cells #[.int .i64 1, .int .i64 2, .int .i64 2] 27)) := (Below.refl _ _).alloc (Nat.le_refl _) _
            have B31 : Hid (Blk (v8.alloc (.cells #[.int .i64 1, .int .i64 2, .int .i64 2] 27)) v8.heap.size #[.int .i64 1, .int .i64 2, .int .i64 2].toList) := Lib.hid (blk_new v8 #[.int .i64 1, .int .i64 2, .int .i64 2] 27)
            replace HB : Hid (Below Ws.heap.size Ws (v8.alloc (.cells #[.int .i64 1, .int .i64 2, .int .i64 2] 27))) := Lib.hid (HB.out.trans (hb.mono HB.out.size))
            clear hb
            generalize (v8.alloc (.cells #[.int .i64 1, .int .i64 2, .int .i64 2] 27)) = v45 at *
            generalize v8.heap.size = g31 at B31 ⊢
            refine hK.out _ _ (fun _ => HB.out) (fun hH => ?_)
            replace hH := hH (by decide)
            clear hK K
            (try simp only [Act.put, List.getElem_toArray, List.getElem_cons_succ, List.getElem_cons_zero, List.setIfInBounds_toArray, List.set_cons_zero, List.set_cons_succ])
            refine wpAnyZ_two (i := 26) (j := 27) (by kernel_rfl) ?_ ?_
            · refine zstep rfl (fun K hK => ?_)
              go_simp
              have hb : Below v45.heap.size v45 (v45.alloc (.cells #[.int .i64 1] 3)) := (Below.refl _ _).alloc (Nat.le_refl _) _
              replace B31 := Lib.hid (B31.out.below hb)
              have B26 : Hid (Blk (v45.alloc (.cells #[.int .i64 1] 3)) v45.heap.size #[.int .i64 1].toList) := Lib.hid (blk_new v45 #[.int .i64 1] 3)
              replace HB : Hid (Below Ws.heap.size Ws (v45.alloc (.cells #[.int .i64 1] 3))) := Lib.hid (HB.out.trans (hb.mono HB.out.size))
              clear hb
              generalize (v45.alloc (.cells #[.int .i64 1] 3)) = v46 at *
              generalize v45.heap.size = g26 at B26 ⊢
              refine hK.out _ _ (fun _ => HB.out) (fun hH => ?_)
              replace hH := hH (by decide)
              clear hK K
              (try simp only [Act.put, List.getElem_toArray, List.getElem_cons_succ, List.getElem_cons_zero, List.setIfInBounds_toArray, List.set_cons_zero, List.set_cons_succ])
              refine wpAnyZ_one (i := 27) (by kernel_rfl) ?_
              refine zstep rfl (fun K hK => ?_)
              go_simp
              have hb : Below v46.heap.size v46 (v46.alloc (.cells #[.int .i64 1] 3)) := (Below.refl _ _).alloc (Nat.le_refl _) _
              replace B26 := Lib.hid (B26.out.below hb)
              replace B31 := Lib.hid (B31.out.below hb)
              have B27 : Hid (Blk (v46.alloc (.cells #[.int .i64 1] 3)) v46.heap.size #[.int .i64 1].toList) := Lib.hid (blk_new v46 #[.int .i64 1] 3)
              replace HB : Hid (Below Ws.heap.size Ws (v46.alloc (.cells #[.int .i64 1] 3))) := Lib.hid (HB.out.trans (hb.mono HB.out.size))
              clear hb
              generalize (v46.alloc (.cells #[.int .i64 1] 3)) = v47 at *
              generalize v46.heap.size = g27 at B27 ⊢
              refine hK.out _ _ (fun _ => HB.out) (fun hH => ?_)
              replace hH := hH (by decide)
              clear hK K
              (try simp only [Act.put, List.getElem_toArray, List.getElem_cons_succ, List.getElem_cons_zero, List.setIfInBounds_toArray, List.set_cons_zero, List.set_cons_succ])
              refine wpAnyZ_takeS (i := 28) (v := ?_) rfl (by kernel_rfl) (by kernel_rfl) (by kernel_rfl) (by kernel_rfl) (fun _ _ _ h => h) (gives_value (by rfl) ?_) (by assumption) ?_
              rotate_left
              · intro w hSw
                go_simp
                (try with_reducible rfl)
              (try simp only [Act.put, List.getElem_toArray, List.getElem_cons_succ, List.getElem_cons_zero, List.setIfInBounds_toArray, List.set_cons_zero, List.set_cons_succ])
              refine wpAnyZ_one (i := 29) (by kernel_rfl) ?_
              refine zstep rfl (fun K hK => ?_)
              go_simp
              have hb : Below v47.heap.size v47 (v47.alloc (.cells #[.int .i64 3, .slice (some ⟨g26, 0, none⟩) 1 1, .slice (some ⟨g27, 0, none⟩) 1 1] 24)) := (Below.refl _ _).alloc (Nat.le_refl _) _
              replace B26 := Lib.hid (B26.out.below hb)
              replace B27 := Lib.hid (B27.out.below hb)
              replace B31 := Lib.hid (B31.out.below hb)
              have B29 : Hid (Blk (v47.alloc (.cells #[.int .i64 3, .slice (some ⟨g26, 0, none⟩) 1 1, .slice (some ⟨g27, 0, none⟩) 1 1] 24)) v47.heap.size #[.int .i64 3, .slice (some ⟨g26, 0, none⟩) 1 1, .slice (some ⟨g27, 0, none⟩) 1 1].toList) := Lib.hid (blk_new v47 #[.int .i64 3, .slice (some ⟨g26, 0, none⟩) 1 1, .slice (some ⟨g27, 0, none⟩) 1 1] 24)
              replace HB : Hid (Below Ws.heap.size Ws (v47.alloc (.cells #[.int .i64 3, .slice (some ⟨g26, 0, none⟩) 1 1, .slice (some ⟨g27, 0, none⟩) 1 1] 24))) := Lib.hid (HB.out.trans (hb.mono HB.out.size))
              clear hb
              generalize (v47.alloc (.cells #[.int .i64 3, .slice (some ⟨g26, 0, none⟩) 1 1, .slice (some ⟨g27, 0, none⟩) 1 1] 24)) = v48 at *
              generalize v47.heap.size = g29 at B29 ⊢
              refine hK.out _ _ (fun _ => HB.out) (fun hH => ?_)
              replace hH := hH (by decide)
              clear hK K
              (try simp only [Act.put, List.getElem_toArray, List.getElem_cons_succ, List.getElem_cons_zero, List.setIfInBounds_toArray, List.set_cons_zero, List.set_cons_succ])
              refine wpAnyZ_takeS (i := 32) (v := ?_) rfl (by kernel_rfl) (by kernel_rfl) (by kernel_rfl) (by kernel_rfl) (fun _ _ _ h => h) (gives_value (by rfl) ?_) (by assumption) ?_
              rotate_left
              · intro w hSw
                go_simp
                (try with_reducible rfl)
              (try simp only [Act.put, List.getElem_toArray, List.getElem_cons_succ, List.getElem_cons_zero, List.setIfInBounds_toArray, List.set_cons_zero, List.set_cons_succ])
              refine wpAnyZ_one (i := 33) (by kernel_rfl) ?_
              refine zstep rfl (fun K hK => ?_)
              have KX := Lib.hid (empty_any (some ⟨g29, 0, none⟩) none (some ⟨g31, 0, none⟩) 1 0 1 ⟨[⟨3, .slice (some ⟨g26, 0, none⟩) 1 1, .slice (some ⟨g27, 0, none⟩) 1 1, [1], [1]⟩], [], [⟨1, 2, 2⟩]⟩ v48 ⟨⟨rows_blk (l := [⟨3, .slice (some ⟨g26, 0, none⟩) 1 1, .slice (some ⟨g27, 0, none⟩) 1 1, [1], [1]⟩]) B29.out turn_len, fun t ht => by
                obtain rfl := List.mem_singleton.1 ht
                exact ⟨recs_blk (l := [1]) B26.out, recs_blk (l := [1]) B27.out⟩⟩, rows_nil, rows_blk (l := ([⟨1, 2, 2⟩] : List Hold)) B31.out hold_len, by simp, by simp, by simp, fun t ht => by
                obtain rfl := List.mem_singleton.1 ht
                simp⟩)
              rw [form_e3] at KX
              go_simp
              refine KX.out.mono ?_
              rintro e v49 ⟨rfl, hb⟩
              replace B26 := Lib.hid (B26.out.below hb)
              replace B27 := Lib.hid (B27.out.below hb)
              replace B29 := Lib.hid (B29.out.below hb)
              replace B31 := Lib.hid (B31.out.below hb)
              replace HB : Hid (Below Ws.heap.size Ws v49) := Lib.hid (HB.out.trans (hb.mono HB.out.size))
              clear hb KX
              refine hK.out _ _ (fun _ => HB.out) (fun hH => ?_)
              replace hH := hH (by decide)
              clear hK K
              (try simp only [Act.put, List.getElem_toArray, List.getElem_cons_succ, List.getElem_cons_zero, List.setIfInBounds_toArray, List.set_cons_zero, List.set_cons_succ])
              refine wpAnyZ_takeS (i := 34) (v := ?_) rfl (by kernel_rfl) (by kernel_rfl) (by kernel_rfl) (by kernel_rfl) (fun _ _ _ h => h) (gives_value (by rfl) ?_) (by assumption) ?_
              rotate_left
              · intro w hSw
                go_simp
                (try with_reducible rfl)
              (try simp only [Act.put, List.getElem_toArray, List.getElem_cons_succ, List.getElem_cons_zero, List.setIfInBounds_toArray, List.set_cons_zero, List.set_cons_succ])
              refine wpAnyZ_takeS (i := 35) (v := ?_) rfl (by kernel_rfl) (by kernel_rfl) (by kernel_rfl) (by kernel_rfl) (fun _ _ _ h => h) (gives_value (by rfl) ?_) (by assumption) ?_
              rotate_left
              · intro w hSw
                go_simp
                (try with_reducible rfl)
              (try simp only [Act.put, List.getElem_toArray, List.getElem_cons_succ, List.getElem_cons_zero, List.setIfInBounds_toArray, List.set_cons_zero, List.set_cons_succ])
              refine wpAnyZ_one (i := 36) (by kernel_rfl) ?_
              refine zstep rfl (fun K hK => ?_)
              go_simp
              refine (wakes7_any _).mono ?_
              rintro e v50 ⟨rfl, hb⟩
              replace B26 := Lib.hid (B26.out.below hb)
              replace B27 := Lib.hid (B27.out.below hb)
              replace B29 := Lib.hid (B29.out.below hb)
              replace B31 := Lib.hid (B31.out.below hb)
              replace HB : Hid (Below Ws.heap.size Ws v50) := Lib.hid (HB.out.trans (hb.mono HB.out.size))
              clear hb 
              refine hK.out _ _ (fun _ => HB.out) (fun hH => ?_)
              replace hH := hH (by decide)
              clear hK K
              (try simp only [Act.put, List.getElem_toArray, List.getElem_cons_succ, List.getElem_cons_zero, List.setIfInBounds_toArray, List.set_cons_zero, List.set_cons_succ])
              refine wpAnyZ_takeS (i := 37) (v := ?_) rfl (by kernel_rfl) (by kernel_rfl) (by kernel_rfl) (by kernel_rfl) (fun _ _ _ h => h) (gives_value (by rfl) ?_) (by assumption) ?_
              rotate_left
              · intro w hSw
                go_simp
                (try with_reducible rfl)
              (try simp only [Act.put, List.getElem_toArray, List.getElem_cons_succ, List.getElem_cons_zero, List.setIfInBounds_toArray, List.set_cons_zero, List.set_cons_succ])
              refine wpAnyZ_one (i := 38) (by kernel_rfl) ?_
              refine zstep rfl (fun K hK => ?_)
              go_simp
              refine hK.out _ _ (fun _ => HB.out) (fun hH => ?_)
              replace hH := hH (by decide)
              clear hK K
              (try simp only [Act.put, List.getElem_toArray, List.getElem_cons_succ, List.getElem_cons_zero, List.setIfInBounds_toArray, List.set_cons_zero, List.set_cons_succ])
              refine wpAnyZ_done (by kernel_rfl) ?_ _
              clear hH
              have HBf : Hid (Below w.heap.size w v50) := Lib.hid (HBw.out.trans (HB.out.mono HBw.out.size))
              go_wp2
              go_ret
              exact ⟨rfl, HBf.out⟩
            · refine zstep rfl (fun K hK => ?_)
              go_simp
              have hb : Below v45.heap.size v45 (v45.alloc (.cells #[.int .i64 1] 3)) := (Below.refl _ _).alloc (Nat.le_refl _) _
              replace B31 := Lib.hid (B31.out.below hb)
              have B27 : Hid (Blk (v45.alloc (.cells #[.int .i64 1] 3)) v45.heap.size #[.int .i64 1].toList) := Lib.hid (blk_new v45 #[.int .i64 1] 3)
              replace HB : Hid (Below Ws.heap.size Ws (v45.alloc (.cells #[.int .i64 1] 3))) := Lib.hid (HB.out.trans (hb.mono HB.out.size))
              clear hb
              generalize (v45.alloc (.cells #[.int .i64 1] 3)) = v52 at *
              generalize v45.heap.size = g27 at B27 ⊢
              refine hK.out _ _ (fun _ => HB.out) (fun hH => ?_)
              replace hH := hH (by decide)
              clear hK K
              (try simp only [Act.put, List.getElem_toArray, List.getElem_cons_succ, List.getElem_cons_zero, List.setIfInBounds_toArray, List.set_cons_zero, List.set_cons_succ])
              refine wpAnyZ_one (i := 26) (by kernel_rfl) ?_
              refine zstep rfl (fun K hK => ?_)
              go_simp
              have hb : Below v52.heap.size v52 (v52.alloc (.cells #[.int .i64 1] 3)) := (Below.refl _ _).alloc (Nat.le_refl _) _
              replace B27 := Lib.hid (B27.out.below hb)
              replace B31 := Lib.hid (B31.out.below hb)
              have B26 : Hid (Blk (v52.alloc (.cells #[.int .i64 1] 3)) v52.heap.size #[.int .i64 1].toList) := Lib.hid (blk_new v52 #[.int .i64 1] 3)
              replace HB : Hid (Below Ws.heap.size Ws (v52.alloc (.cells #[.int .i64 1] 3))) := Lib.hid (HB.out.trans (hb.mono HB.out.size))
              clear hb
              generalize (v52.alloc (.cells #[.int .i64 1] 3)) = v53 at *
              generalize v52.heap.size = g26 at B26 ⊢
              refine hK.out _ _ (fun _ => HB.out) (fun hH => ?_)
              replace hH := hH (by decide)
              clear hK K
              (try simp only [Act.put, List.getElem_toArray, List.getElem_cons_succ, List.getElem_cons_zero, List.setIfInBounds_toArray, List.set_cons_zero, List.set_cons_succ])
              refine wpAnyZ_takeS (i := 28) (v := ?_) rfl (by kernel_rfl) (by kernel_rfl) (by kernel_rfl) (by kernel_rfl) (fun _ _ _ h => h) (gives_value (by rfl) ?_) (by assumption) ?_
              rotate_left
              · intro w hSw
                go_simp
                (try with_reducible rfl)
              (try simp only [Act.put, List.getElem_toArray, List.getElem_cons_succ, List.getElem_cons_zero, List.setIfInBounds_toArray, List.set_cons_zero, List.set_cons_succ])
              refine wpAnyZ_one (i := 29) (by kernel_rfl) ?_
              refine zstep rfl (fun K hK => ?_)
              go_simp
              have hb : Below v53.heap.size v53 (v53.alloc (.cells #[.int .i64 3, .slice (some ⟨g26, 0, none⟩) 1 1, .slice (some ⟨g27, 0, none⟩) 1 1] 24)) := (Below.refl _ _).alloc (Nat.le_refl _) _
              replace B26 := Lib.hid (B26.out.below hb)
              replace B27 := Lib.hid (B27.out.below hb)
              replace B31 := Lib.hid (B31.out.below hb)
              have B29 : Hid (Blk (v53.alloc (.cells #[.int .i64 3, .slice (some ⟨g26, 0, none⟩) 1 1, .slice (some ⟨g27, 0, none⟩) 1 1] 24)) v53.heap.size #[.int .i64 3, .slice (some ⟨g26, 0, none⟩) 1 1, .slice (some ⟨g27, 0, none⟩) 1 1].toList) := Lib.hid (blk_new v53 #[.int .i64 3, .slice (some ⟨g26, 0, none⟩) 1 1, .slice (some ⟨g27, 0, none⟩) 1 1] 24)
              replace HB : Hid (Below Ws.heap.size Ws (v53.alloc (.cells #[.int .i64 3, .slice (some ⟨g26, 0, none⟩) 1 1, .slice (some ⟨g27, 0, none⟩) 1 1] 24))) := Lib.hid (HB.out.trans (hb.mono HB.out.size))
              clear hb
              generalize (v53.alloc (.cells #[.int .i64 3, .slice (some ⟨g26, 0, none⟩) 1 1, .slice (some ⟨g27, 0, none⟩) 1 1] 24)) = v54 at *
              generalize v53.heap.size = g29 at B29 ⊢
              refine hK.out _ _ (fun _ => HB.out) (fun hH => ?_)
              replace hH := hH (by decide)
              clear hK K
              (try simp only [Act.put, List.getElem_toArray, List.getElem_cons_succ, List.getElem_cons_zero, List.setIfInBounds_toArray, List.set_cons_zero, List.set_cons_succ])
              refine wpAnyZ_takeS (i := 32) (v := ?_) rfl (by kernel_rfl) (by kernel_rfl) (by kernel_rfl) (by kernel_rfl) (fun _ _ _ h => h) (gives_value (by rfl) ?_) (by assumption) ?_
              rotate_left
              · intro w hSw
                go_simp
                (try with_reducible rfl)
              (try simp only [Act.put, List.getElem_toArray, List.getElem_cons_succ, List.getElem_cons_zero, List.setIfInBounds_toArray, List.set_cons_zero, List.set_cons_succ])
              refine wpAnyZ_one (i := 33) (by kernel_rfl) ?_
              refine zstep rfl (fun K hK => ?_)
              have KX := Lib.hid (empty_any (some ⟨g29, 0, none⟩) none (some ⟨g31, 0, none⟩) 1 0 1 ⟨[⟨3, .slice (some ⟨g26, 0, none⟩) 1 1, .slice (some ⟨g27, 0, none⟩) 1 1, [1], [1]⟩], [], [⟨1, 2, 2⟩]⟩ v54 ⟨⟨rows_blk (l := [⟨3, .slice (some ⟨g26, 0, none⟩) 1 1, .slice (some ⟨g27, 0, none⟩) 1 1, [1], [1]⟩]) B29.out turn_len, fun t ht => by
                obtain rfl := List.mem_singleton.1 ht
                exact ⟨recs_blk (l := [1]) B26.out, recs_blk (l := [1]) B27.out⟩⟩, rows_nil, rows_blk (l := ([⟨1, 2, 2⟩] : List Hold)) B31.out hold_len, by simp, by simp, by simp, fun t ht => by
                obtain rfl := List.mem_singleton.1 ht
                simp⟩)
              rw [form_e3] at KX
              go_simp
              refine KX.out.mono ?_
              rintro e v55 ⟨rfl, hb⟩
              replace B26 := Lib.hid (B26.out.below hb)
              replace B27 := Lib.hid (B27.out.below hb)
              replace B29 := Lib.hid (B29.out.below hb)
              replace B31 := Lib.hid (B31.out.below hb)
              replace HB : Hid (Below Ws.heap.size Ws v55) := Lib.hid (HB.out.trans (hb.mono HB.out.size))
              clear hb KX
              refine hK.out _ _ (fun _ => HB.out) (fun hH => ?_)
              replace hH := hH (by decide)
              clear hK K
              (try simp only [Act.put, List.getElem_toArray, List.getElem_cons_succ, List.getElem_cons_zero, List.setIfInBounds_toArray, List.set_cons_zero, List.set_cons_succ])
              refine wpAnyZ_takeS (i := 34) (v := ?_) rfl (by kernel_rfl) (by kernel_rfl) (by kernel_rfl) (by kernel_rfl) (fun _ _ _ h => h) (gives_value (by rfl) ?_) (by assumption) ?_
              rotate_left
              · intro w hSw
                go_simp
                (try with_reducible rfl)
              (try simp only [Act.put, List.getElem_toArray, List.getElem_cons_succ, List.getElem_cons_zero, List.setIfInBounds_toArray, List.set_cons_zero, List.set_cons_succ])
              refine wpAnyZ_takeS (i := 35) (v := ?_) rfl (by kernel_rfl) (by kernel_rfl) (by kernel_rfl) (by kernel_rfl) (fun _ _ _ h => h) (gives_value (by rfl) ?_) (by assumption) ?_
              rotate_left
              · intro w hSw
                go_simp
                (try with_reducible rfl)
              (try simp only [Act.put, List.getElem_toArray, List.getElem_cons_succ, List.getElem_cons_zero, List.setIfInBounds_toArray, List.set_cons_zero, List.set_cons_succ])
              refine wpAnyZ_one (i := 36) (by kernel_rfl) ?_
              refine zstep rfl (fun K hK => ?_)
              go_simp
              refine (wakes7_any _).mono ?_
              rintro e v56 ⟨rfl, hb⟩
              replace B26 := Lib.hid (B26.out.below hb)
              replace B27 := Lib.hid (B27.out.below hb)
              replace B29 := Lib.hid (B29.out.below hb)
              replace B31 := Lib.hid (B31.out.below hb)
              replace HB : Hid (Below Ws.heap.size Ws v56) := Lib.hid (HB.out.trans (hb.mono HB.out.size))
              clear hb 
              refine hK.out _ _ (fun _ => HB.out) (fun hH => ?_)
              replace hH := hH (by decide)
              clear hK K
              (try simp only [Act.put, List.getElem_toArray, List.getElem_cons_succ, List.getElem_cons_zero, List.setIfInBounds_toArray, List.set_cons_zero, List.set_cons_succ])
              refine wpAnyZ_takeS (i := 37) (v := ?_) rfl (by kernel_rfl) (by kernel_rfl) (by kernel_rfl) (by kernel_rfl) (fun _ _ _ h => h) (gives_value (by rfl) ?_) (by assumption) ?_
              rotate_left
              · intro w hSw
                go_simp
                (try with_reducible rfl)
              (try simp only [Act.put, List.getElem_toArray, List.getElem_cons_succ, List.getElem_cons_zero, List.setIfInBounds_toArray, List.set_cons_zero, List.set_cons_succ])
              refine wpAnyZ_one (i := 38) (by kernel_rfl) ?_
              refine zstep rfl (fun K hK => ?_)
              go_simp
              refine hK.out _ _ (fun _ => HB.out) (fun hH => ?_)
              replace hH := hH (by decide)
              clear hK K
              (try simp only [Act.put, List.getElem_toArray, List.getElem_cons_succ, List.getElem_cons_zero, List.setIfInBounds_toArray, List.set_cons_zero, List.set_cons_succ])
              refine wpAnyZ_done (by kernel_rfl) ?_ _
              clear hH
              have HBf : Hid (Below w.heap.size w v56) := Lib.hid (HBw.out.trans (HB.out.mono HBw.out.size))
              go_wp2
              go_ret
              exact ⟨rfl, HBf.out⟩
        · refine zstep rfl (fun K hK => ?_)
          go_simp
          have hb : Below v5.heap.size v5 (v5.alloc (.cells #[.int .i64 7] 3)) := (Below.refl _ _).alloc (Nat.le_refl _) _
          have B22 : Hid (Blk (v5.alloc (.cells #[.int .i64 7] 3)) v5.heap.size #[.int .i64 7].toList) := Lib.hid (blk_new v5 #[.int .i64 7] 3)
          replace HB : Hid (Below Ws.heap.size Ws (v5.alloc (.cells #[.int .i64 7] 3))) := Lib.hid (HB.out.trans (hb.mono HB.out.size))
          clear hb
          generalize (v5.alloc (.cells #[.int .i64 7] 3)) = v58 at *
          generalize v5.heap.size = g22 at B22 ⊢
          refine hK.out _ _ (fun _ => HB.out) (fun hH => ?_)
          replace hH := hH (by decide)
          clear hK K
          (try simp only [Act.put, List.getElem_toArray, List.getElem_cons_succ, List.getElem_cons_zero, List.setIfInBounds_toArray, List.set_cons_zero, List.set_cons_succ])
          refine wpAnyZ_one (i := 21) (by kernel_rfl) ?_
          refine zstep rfl (fun K hK => ?_)
          go_simp
          refine (K21.out _ HB.out).mono ?_
          rintro e v59 ⟨v1, rfl, ho, hb⟩
          obtain ⟨M1, N1, rfl, _⟩ := own_slice_n (n := 1) ho
          replace B22 := Lib.hid (B22.out.below hb)
          have HM : Hid (Recs v59 1 num_ (.slice M1 1 N1) [7]) := Lib.hid (own_recs1 (l := [7]) ho)
          replace HB : Hid (Below Ws.heap.size Ws v59) := Lib.hid (HB.out.trans (hb.mono HB.out.size))
          clear ho hb
          refine hK.out _ _ (fun _ => HB.out) (fun hH => ?_)
          replace hH := hH (by decide)
          clear hK K
          (try simp only [Act.put, List.getElem_toArray, List.getElem_cons_succ, List.getElem_cons_zero, List.setIfInBounds_toArray, List.set_cons_zero, List.set_cons_succ])
          refine wpAnyZ_one (i := 23) (by kernel_rfl) ?_
          refine zstep rfl (fun K hK => ?_)
          have KX := Lib.hid (same_ints (.slice M1 1 N1) (.slice (some ⟨g22, 0, none⟩) 1 1) [7] v59 HM.out (recs_blk (l := [7]) B22.out) (by simp))
          go_simp
          refine KX.out.mono ?_
          rintro e v60x ⟨rfl, qv60, rfl⟩
          have hb : Below v59.heap.size v59 (v59.drewN qv60) := below_draws (Below.refl _ _) qv60
          generalize v59.drewN qv60 = v60 at *
          replace HM := Lib.hid (HM.out.below hb)
          replace B22 := Lib.hid (B22.out.below hb)
          replace HB : Hid (Below Ws.heap.size Ws v60) := Lib.hid (HB.out.trans (hb.mono HB.out.size))
          clear hb KX
          clear HM B22
          refine hK.out _ _ (fun _ => HB.out) (fun hH => ?_)
          replace hH := hH (by decide)
          clear hK K
          (try simp only [Act.put, List.getElem_toArray, List.getElem_cons_succ, List.getElem_cons_zero, List.setIfInBounds_toArray, List.set_cons_zero, List.set_cons_succ])
          refine wpAnyZ_takeS (i := 24) (v := ?_) rfl (by kernel_rfl) (by kernel_rfl) (by kernel_rfl) (by kernel_rfl) (fun _ _ _ h => h) (gives_value (by rfl) ?_) (by assumption) ?_
          rotate_left
          · intro w hSw
            go_simp
            (try with_reducible rfl)
          (try simp only [Act.put, List.getElem_toArray, List.getElem_cons_succ, List.getElem_cons_zero, List.setIfInBounds_toArray, List.set_cons_zero, List.set_cons_succ])
          refine wpAnyZ_takeS (i := 25) (v := ?_) rfl (by kernel_rfl) (by kernel_rfl) (by kernel_rfl) (by kernel_rfl) (fun _ _ _ h => h) (gives_value (by rfl) ?_) (by assumption) ?_
          rotate_left
          · intro w hSw
            go_simp
            (try with_reducible rfl)
          (try simp only [Act.put, List.getElem_toArray, List.getElem_cons_succ, List.getElem_cons_zero, List.setIfInBounds_toArray, List.set_cons_zero, List.set_cons_succ])
          refine wpAnyZ_takeS (i := 30) (v := ?_) rfl (by kernel_rfl) (by kernel_rfl) (by kernel_rfl) (by kernel_rfl) (fun _ _ _ h => h) (gives_value (by rfl) ?_) (by assumption) ?_
          rotate_left
          · intro w hSw
            go_simp
            (try with_reducible rfl)
          (try simp only [Act.put, List.getElem_toArray, List.getElem_cons_succ, List.getElem_cons_zero, List.setIfInBounds_toArray, List.set_cons_zero, List.set_cons_succ])
          refine wpAnyZ_three (i := 26) (j := 27) (k := 31) (by kernel_rfl) ?_ ?_ ?_
          · refine zstep rfl (fun K hK => ?_)
            go_simp
            have hb : Below v60.heap.size v60 (v60.alloc (.cells #[.int .i64 1] 3)) := (Below.refl _ _).alloc (Nat.le_refl _) _
            have B26 : Hid (Blk (v60.alloc (.cells #[.int .i64 1] 3)) v60.heap.size #[.int .i64 1].toList) := Lib.hid (blk_new v60 #[.int .i64 1] 3)
            replace HB : Hid (Below Ws.heap.size Ws (v60.alloc (.cells #[.int .i64 1] 3))) := Lib.hid (HB.out.trans (hb.mono HB.out.size))
            clear hb
            generalize (v60.alloc (.cells #[.int .i64 1] 3)) = v61 at *
            generalize v60.heap.size = g26 at B26 ⊢
            refine hK.out _ _ (fun _ => HB.out) (fun hH => ?_)
            replace hH := hH (by decide)
            clear hK K
            (try simp only [Act.put, List.getElem_toArray, List.getElem_cons_succ, List.getElem_cons_zero, List.setIfInBounds_toArray, List.set_cons_zero, List.set_cons_succ])
            refine wpAnyZ_two (i := 27) (j := 31) (by kernel_rfl) ?_ ?_
            · refine zstep rfl (fun K hK => ?_)
              go_simp
              have hb : Below v61.heap.size v61 (v61.alloc (.cells #[.int .i64 1] 3)) := (Below.refl _ _).alloc (Nat.le_refl _) _
              replace B26 := Lib.hid (B26.out.below hb)
              have B27 : Hid (Blk (v61.alloc (.cells #[.int .i64 1] 3)) v61.heap.size #[.int .i64 1].toList) := Lib.hid (blk_new v61 #[.int .i64 1] 3)
              replace HB : Hid (Below Ws.heap.size Ws (v61.alloc (.cells #[.int .i64 1] 3))) := Lib.hid (HB.out.trans (hb.mono HB.out.size))
              clear hb
              generalize (v61.alloc (.cells #[.int .i64 1] 3)) = v62 at *
              generalize v61.heap.size = g27 at B27 ⊢
              refine hK.out _ _ (fun _ => HB.out) (fun hH => ?_)
              replace hH := hH (by decide)
              clear hK K
              (try simp only [Act.put, List.getElem_toArray, List.getElem_cons_succ, List.getElem_cons_zero, List.setIfInBounds_toArray, List.set_cons_zero, List.set_cons_succ])
              refine wpAnyZ_takeS (i := 28) (v := ?_) rfl (by kernel_rfl) (by kernel_rfl) (by kernel_rfl) (by kernel_rfl) (fun _ _ _ h => h) (gives_value (by rfl) ?_) (by assumption) ?_
              rotate_left
              · intro w hSw
                go_simp
                (try with_reducible rfl)
              (try simp only [Act.put, List.getElem_toArray, List.getElem_cons_succ, List.getElem_cons_zero, List.setIfInBounds_toArray, List.set_cons_zero, List.set_cons_succ])
              refine wpAnyZ_two (i := 29) (j := 31) (by kernel_rfl) ?_ ?_
              · refine zstep rfl (fun K hK => ?_)
                go_simp
                have hb : Below v62.heap.size v62 (v62.alloc (.cells #[.int .i64 3, .slice (some ⟨g26, 0, none⟩) 1 1, .slice (some ⟨g27, 0, none⟩) 1 1] 24)) := (Below.refl _ _).alloc (Nat.le_refl _) _
                replace B26 := Lib.hid (B26.out.below hb)
                replace B27 := Lib.hid (B27.out.below hb)
                have B29 : Hid (Blk (v62.alloc (.cells #[.int .i64 3, .slice (some ⟨g26, 0, none⟩) 1 1, .slice (some ⟨g27, 0, none⟩) 1 1] 24)) v62.heap.size #[.int .i64 3, .slice (some ⟨g26, 0, none⟩) 1 1, .slice (some ⟨g27, 0, none⟩) 1 1].toList) := Lib.hid (blk_new v62 #[.int .i64 3, .slice (some ⟨g26, 0, none⟩) 1 1, .slice (some ⟨g27, 0, none⟩) 1 1] 24)
                replace HB : Hid (Below Ws.heap.size Ws (v62.alloc (.cells #[.int .i64 3, .slice (some ⟨g26, 0, none⟩) 1 1, .slice (some ⟨g27, 0, none⟩) 1 1] 24))) := Lib.hid (HB.out.trans (hb.mono HB.out.size))
                clear hb
                generalize (v62.alloc (.cells #[.int .i64 3, .slice (some ⟨g26, 0, none⟩) 1 1, .slice (some ⟨g27, 0, none⟩) 1 1] 24)) = v63 at *
                generalize v62.heap.size = g29 at B29 ⊢
                refine hK.out _ _ (fun _ => HB.out) (fun hH => ?_)
                replace hH := hH (by decide)
                clear hK K
                (try simp only [Act.put, List.getElem_toArray, List.getElem_cons_succ, List.getElem_cons_zero, List.setIfInBounds_toArray, List.set_cons_zero, List.set_cons_succ])
                refine wpAnyZ_one (i := 31) (by kernel_rfl) ?_
                refine zstep rfl (fun K hK => ?_)
                go_simp
                have hb : Below v63.heap.size v63 (v63.alloc (.cells #[.int .i64 1, .int .i64 2, .int .i64 2] 27)) := (Below.refl _ _).alloc (Nat.le_refl _) _
                replace B26 := Lib.hid (B26.out.below hb)
                replace B27 := Lib.hid (B27.out.below hb)
                replace B29 := Lib.hid (B29.out.below hb)
                have B31 : Hid (Blk (v63.alloc (.cells #[.int .i64 1, .int .i64 2, .int .i64 2] 27)) v63.heap.size #[.int .i64 1, .int .i64 2, .int .i64 2].toList) := Lib.hid (blk_new v63 #[.int .i64 1, .int .i64 2, .int .i64 2] 27)
                replace HB : Hid (Below Ws.heap.size Ws (v63.alloc (.cells #[.int .i64 1, .int .i64 2, .int .i64 2] 27))) := Lib.hid (HB.out.trans (hb.mono HB.out.size))
                clear hb
                generalize (v63.alloc (.cells #[.int .i64 1, .int .i64 2, .int .i64 2] 27)) = v64 at *
                generalize v63.heap.size = g31 at B31 ⊢
                refine hK.out _ _ (fun _ => HB.out) (fun hH => ?_)
                replace hH := hH (by decide)
                clear hK K
                (try simp only [Act.put, List.getElem_toArray, List.getElem_cons_succ, List.getElem_cons_zero, List.setIfInBounds_toArray, List.set_cons_zero, List.set_cons_succ])
                refine wpAnyZ_takeS (i := 32) (v := ?_) rfl (by kernel_rfl) (by kernel_rfl) (by kernel_rfl) (by kernel_rfl) (fun _ _ _ h => h) (gives_value (by rfl) ?_) (by assumption) ?_
                rotate_left
                · intro w hSw
                  go_simp
                  (try with_reducible rfl)
                (try simp only [Act.put, List.getElem_toArray, List.getElem_cons_succ, List.getElem_cons_zero, List.setIfInBounds_toArray, List.set_cons_zero, List.set_cons_succ])
                refine wpAnyZ_one (i := 33) (by kernel_rfl) ?_
                refine zstep rfl (fun K hK => ?_)
                have KX := Lib.hid (empty_any (some ⟨g29, 0, none⟩) none (some ⟨g31, 0, none⟩) 1 0 1 ⟨[⟨3, .slice (some ⟨g26, 0, none⟩) 1 1, .slice (some ⟨g27, 0, none⟩) 1 1, [1], [1]⟩], [], [⟨1, 2, 2⟩]⟩ v64 ⟨⟨rows_blk (l := [⟨3, .slice (some ⟨g26, 0, none⟩) 1 1, .slice (some ⟨g27, 0, none⟩) 1 1, [1], [1]⟩]) B29.out turn_len, fun t ht => by
                  obtain rfl := List.mem_singleton.1 ht
                  exact ⟨recs_blk (l := [1]) B26.out, recs_blk (l := [1]) B27.out⟩⟩, rows_nil, rows_blk (l := ([⟨1, 2, 2⟩] : List Hold)) B31.out hold_len, by simp, by simp, by simp, fun t ht => by
                  obtain rfl := List.mem_singleton.1 ht
                  simp⟩)
                rw [form_e3] at KX
                go_simp
                refine KX.out.mono ?_
                rintro e v65 ⟨rfl, hb⟩
                replace B26 := Lib.hid (B26.out.below hb)
                replace B27 := Lib.hid (B27.out.below hb)
                replace B29 := Lib.hid (B29.out.below hb)
                replace B31 := Lib.hid (B31.out.below hb)
                replace HB : Hid (Below Ws.heap.size Ws v65) := Lib.hid (HB.out.trans (hb.mono HB.out.size))
                clear hb KX
                refine hK.out _ _ (fun _ => HB.out) (fun hH => ?_)
                replace hH := hH (by decide)
                clear hK K
                (try simp only [Act.put, List.getElem_toArray, List.getElem_cons_succ, List.getElem_cons_zero, List.setIfInBounds_toArray, List.set_cons_zero, List.set_cons_succ])
                refine wpAnyZ_takeS (i := 34) (v := ?_) rfl (by kernel_rfl) (by kernel_rfl) (by kernel_rfl) (by kernel_rfl) (fun _ _ _ h => h) (gives_value (by rfl) ?_) (by assumption) ?_
                rotate_left
                · intro w hSw
                  go_simp
                  (try with_reducible rfl)
                (try simp only [Act.put, List.getElem_toArray, List.getElem_cons_succ, List.getElem_cons_zero, List.setIfInBounds_toArray, List.set_cons_zero, List.set_cons_succ])
                refine wpAnyZ_takeS (i := 35) (v := ?_) rfl (by kernel_rfl) (by kernel_rfl) (by kernel_rfl) (by kernel_rfl) (fun _ _ _ h => h) (gives_value (by rfl) ?_) (by assumption) ?_
                rotate_left
                · intro w hSw
                  go_simp
                  (try with_reducible rfl)
                (try simp only [Act.put, List.getElem_toArray, List.getElem_cons_succ, List.getElem_cons_zero, List.setIfInBounds_toArray, List.set_cons_zero, List.set_cons_succ])
                refine wpAnyZ_one (i := 36) (by kernel_rfl) ?_
                refine zstep rfl (fun K hK => ?_)
                go_simp
                refine (wakes7_any _).mono ?_
                rintro e v66 ⟨rfl, hb⟩
                replace B26 := Lib.hid (B26.out.below hb)
                replace B27 := Lib.hid (B27.out.below hb)
                replace B29 := Lib.hid (B29.out.below hb)
                replace B31 := Lib.hid (B31.out.below hb)
                replace HB : Hid (Below Ws.heap.size Ws v66) := Lib.hid (HB.out.trans (hb.mono HB.out.size))
                clear hb 
                refine hK.out _ _ (fun _ => HB.out) (fun hH => ?_)
                replace hH := hH (by decide)
                clear hK K
                (try simp only [Act.put, List.getElem_toArray, List.getElem_cons_succ, List.getElem_cons_zero, List.setIfInBounds_toArray, List.set_cons_zero, List.set_cons_succ])
                refine wpAnyZ_takeS (i := 37) (v := ?_) rfl (by kernel_rfl) (by kernel_rfl) (by kernel_rfl) (by kernel_rfl) (fun _ _ _ h => h) (gives_value (by rfl) ?_) (by assumption) ?_
                rotate_left
                · intro w hSw
                  go_simp
                  (try with_reducible rfl)
                (try simp only [Act.put, List.getElem_toArray, List.getElem_cons_succ, List.getElem_cons_zero, List.setIfInBounds_toArray, List.set_cons_zero, List.set_cons_succ])
                refine wpAnyZ_one (i := 38) (by kernel_rfl) ?_
                refine zstep rfl (fun K hK => ?_)
                go_simp
                refine hK.out _ _ (fun _ => HB.out) (fun hH => ?_)
                replace hH := hH (by decide)
                clear hK K
                (try simp only [Act.put, List.getElem_toArray, List.getElem_cons_succ, List.getElem_cons_zero, List.setIfInBounds_toArray, List.set_cons_zero, List.set_cons_succ])
                refine wpAnyZ_done (by kernel_rfl) ?_ _
                clear hH
                have HBf : Hid (Below w.heap.size w v66) := Lib.hid (HBw.out.trans (HB.out.mono HBw.out.size))
                go_wp2
                go_ret
                exact ⟨rfl, HBf.out⟩
              · refine zstep rfl (fun K hK => ?_)
                go_simp
                have hb : Below v62.heap.size v62 (v62.alloc (.cells #[.int .i64 1, .int .i64 2, .int .i64 2] 27)) := (Below.refl _ _).alloc (Nat.le_refl _) _
                replace B26 := Lib.hid (B26.out.below hb)
                replace B27 := Lib.hid (B27.out.below hb)
                have B31 : Hid (Blk (v62.alloc (.cells #[.int .i64 1, .int .i64 2, .int .i64 2] 27)) v62.heap.size #[.int .i64 1, .int .i64 2, .int .i64 2].toList) := Lib.hid (blk_new v62 #[.int .i64 1, .int .i64 2, .int .i64 2] 27)
                replace HB : Hid (Below Ws.heap.size Ws (v62.alloc (.cells #[.int .i64 1, .int .i64 2, .int .i64 2] 27))) := Lib.hid (HB.out.trans (hb.mono HB.out.size))
                clear hb
                generalize (v62.alloc (.cells #[.int .i64 1, .int .i64 2, .int .i64 2] 27)) = v68 at *
                generalize v62.heap.size = g31 at B31 ⊢
                refine hK.out _ _ (fun _ => HB.out) (fun hH => ?_)
                replace hH := hH (by decide)
                clear hK K
                (try simp only [Act.put, List.getElem_toArray, List.getElem_cons_succ, List.getElem_cons_zero, List.setIfInBounds_toArray, List.set_cons_zero, List.set_cons_succ])
                refine wpAnyZ_one (i := 29) (by kernel_rfl) ?_
                refine zstep rfl (fun K hK => ?_)
                go_simp
                have hb : Below v68.heap.size v68 (v68.alloc (.cells #[.int .i64 3, .slice (some ⟨g26, 0, none⟩) 1 1, .slice (some ⟨g27, 0, none⟩) 1 1] 24)) := (Below.refl _ _).alloc (Nat.le_refl _) _
                replace B26 := Lib.hid (B26.out.below hb)
                replace B27 := Lib.hid (B27.out.below hb)
                replace B31 := Lib.hid (B31.out.below hb)
                have B29 : Hid (Blk (v68.alloc (.cells #[.int .i64 3, .slice (some ⟨g26, 0, none⟩) 1 1, .slice (some ⟨g27, 0, none⟩) 1 1] 24)) v68.heap.size #[.int .i64 3, .slice (some ⟨g26, 0, none⟩) 1 1, .slice (some ⟨g27, 0, none⟩) 1 1].toList) := Lib.hid (blk_new v68 #[.int .i64 3, .slice (some ⟨g26, 0, none⟩) 1 1, .slice (some ⟨g27, 0, none⟩) 1 1] 24)
                replace HB : Hid (Below Ws.heap.size Ws (v68.alloc (.cells #[.int .i64 3, .slice (some ⟨g26, 0, none⟩) 1 1, .slice (some ⟨g27, 0, none⟩) 1 1] 24))) := Lib.hid (HB.out.trans (hb.mono HB.out.size))
                clear hb
                generalize (v68.alloc (.cells #[.int .i64 3, .slice (some ⟨g26, 0, none⟩) 1 1, .slice (some ⟨g27, 0, none⟩) 1 1] 24)) = v69 at *
                generalize v68.heap.size = g29 at B29 ⊢
                refine hK.out _ _ (fun _ => HB.out) (fun hH => ?_)
                replace hH := hH (by decide)
                clear hK K
                (try simp only [Act.put, List.getElem_toArray, List.getElem_cons_succ, List.getElem_cons_zero, List.setIfInBounds_toArray, List.set_cons_zero, List.set_cons_succ])
                refine wpAnyZ_takeS (i := 32) (v := ?_) rfl (by kernel_rfl) (by kernel_rfl) (by kernel_rfl) (by kernel_rfl) (fun _ _ _ h => h) (gives_value (by rfl) ?_) (by assumption) ?_
                rotate_left
                · intro w hSw
                  go_simp
                  (try with_reducible rfl)
                (try simp only [Act.put, List.getElem_toArray, List.getElem_cons_succ, List.getElem_cons_zero, List.setIfInBounds_toArray, List.set_cons_zero, List.set_cons_succ])
                refine wpAnyZ_one (i := 33) (by kernel_rfl) ?_
                refine zstep rfl (fun K hK => ?_)
                have KX := Lib.hid (empty_any (some ⟨g29, 0, none⟩) none (some ⟨g31, 0, none⟩) 1 0 1 ⟨[⟨3, .slice (some ⟨g26, 0, none⟩) 1 1, .slice (some ⟨g27, 0, none⟩) 1 1, [1], [1]⟩], [], [⟨1, 2, 2⟩]⟩ v69 ⟨⟨rows_blk (l := [⟨3, .slice (some ⟨g26, 0, none⟩) 1 1, .slice (some ⟨g27, 0, none⟩) 1 1, [1], [1]⟩]) B29.out turn_len, fun t ht => by
                  obtain rfl := List.mem_singleton.1 ht
                  exact ⟨recs_blk (l := [1]) B26.out, recs_blk (l := [1]) B27.out⟩⟩, rows_nil, rows_blk (l := ([⟨1, 2, 2⟩] : List Hold)) B31.out hold_len, by simp, by simp, by simp, fun t ht => by
                  obtain rfl := List.mem_singleton.1 ht
                  simp⟩)
                rw [form_e3] at KX
                go_simp
                refine KX.out.mono ?_
                rintro e v70 ⟨rfl, hb⟩
                replace B26 := Lib.hid (B26.out.below hb)
                replace B27 := Lib.hid (B27.out.below hb)
                replace B29 := Lib.hid (B29.out.below hb)
                replace B31 := Lib.hid (B31.out.below hb)
                replace HB : Hid (Below Ws.heap.size Ws v70) := Lib.hid (HB.out.trans (hb.mono HB.out.size))
                clear hb KX
                refine hK.out _ _ (fun _ => HB.out) (fun hH => ?_)
                replace hH := hH (by decide)
                clear hK K
                (try simp only [Act.put, List.getElem_toArray, List.getElem_cons_succ, List.getElem_cons_zero, List.setIfInBounds_toArray, List.set_cons_zero, List.set_cons_succ])
                refine wpAnyZ_takeS (i := 34) (v := ?_) rfl (by kernel_rfl) (by kernel_rfl) (by kernel_rfl) (by kernel_rfl) (fun _ _ _ h => h) (gives_value (by rfl) ?_) (by assumption) ?_
                rotate_left
                · intro w hSw
                  go_simp
                  (try with_reducible rfl)
                (try simp only [Act.put, List.getElem_toArray, List.getElem_cons_succ, List.getElem_cons_zero, List.setIfInBounds_toArray, List.set_cons_zero, List.set_cons_succ])
                refine wpAnyZ_takeS (i := 35) (v := ?_) rfl (by kernel_rfl) (by kernel_rfl) (by kernel_rfl) (by kernel_rfl) (fun _ _ _ h => h) (gives_value (by rfl) ?_) (by assumption) ?_
                rotate_left
                · intro w hSw
                  go_simp
                  (try with_reducible rfl)
                (try simp only [Act.put, List.getElem_toArray, List.getElem_cons_succ, List.getElem_cons_zero, List.setIfInBounds_toArray, List.set_cons_zero, List.set_cons_succ])
                refine wpAnyZ_one (i := 36) (by kernel_rfl) ?_
                refine zstep rfl (fun K hK => ?_)
                go_simp
                refine (wakes7_any _).mono ?_
                rintro e v71 ⟨rfl, hb⟩
                replace B26 := Lib.hid (B26.out.below hb)
                replace B27 := Lib.hid (B27.out.below hb)
                replace B29 := Lib.hid (B29.out.below hb)
                replace B31 := Lib.hid (B31.out.below hb)
                replace HB : Hid (Below Ws.heap.size Ws v71) := Lib.hid (HB.out.trans (hb.mono HB.out.size))
                clear hb 
                refine hK.out _ _ (fun _ => HB.out) (fun hH => ?_)
                replace hH := hH (by decide)
                clear hK K
                (try simp only [Act.put, List.getElem_toArray, List.getElem_cons_succ, List.getElem_cons_zero, List.setIfInBounds_toArray, List.set_cons_zero, List.set_cons_succ])
                refine wpAnyZ_takeS (i := 37) (v := ?_) rfl (by kernel_rfl) (by kernel_rfl) (by kernel_rfl) (by kernel_rfl) (fun _ _ _ h => h) (gives_value (by rfl) ?_) (by assumption) ?_
                rotate_left
                · intro w hSw
                  go_simp
                  (try with_reducible rfl)
                (try simp only [Act.put, List.getElem_toArray, List.getElem_cons_succ, List.getElem_cons_zero, List.setIfInBounds_toArray, List.set_cons_zero, List.set_cons_succ])
                refine wpAnyZ_one (i := 38) (by kernel_rfl) ?_
                refine zstep rfl (fun K hK => ?_)
                go_simp
                refine hK.out _ _ (fun _ => HB.out) (fun hH => ?_)
                replace hH := hH (by decide)
                clear hK K
                (try simp only [Act.put, List.getElem_toArray, List.getElem_cons_succ, List.getElem_cons_zero, List.setIfInBounds_toArray, List.set_cons_zero, List.set_cons_succ])
                refine wpAnyZ_done (by kernel_rfl) ?_ _
                clear hH
                have HBf : Hid (Below w.heap.size w v71) := Lib.hid (HBw.out.trans (HB.out.mono HBw.out.size))
                go_wp2
                go_ret
                exact ⟨rfl, HBf.out⟩
            · refine zstep rfl (fun K hK => ?_)
              go_simp
              have hb : Below v61.heap.size v61 (v61.alloc (.cells #[.int .i64 1, .int .i64 2, .int .i64 2] 27)) := (Below.refl _ _).alloc (Nat.le_refl _) _
              replace B26 := Lib.hid (B26.out.below hb)
              have B31 : Hid (Blk (v61.alloc (.cells #[.int .i64 1, .int .i64 2, .int .i64 2] 27)) v61.heap.size #[.int .i64 1, .int .i64 2, .int .i64 2].toList) := Lib.hid (blk_new v61 #[.int .i64 1, .int .i64 2, .int .i64 2] 27)
              replace HB : Hid (Below Ws.heap.size Ws (v61.alloc (.cells #[.int .i64 1, .int .i64 2, .int .i64 2] 27))) := Lib.hid (HB.out.trans (hb.mono HB.out.size))
              clear hb
              generalize (v61.alloc (.cells #[.int .i64 1, .int .i64 2, .int .i64 2] 27)) = v73 at *
              generalize v61.heap.size = g31 at B31 ⊢
              refine hK.out _ _ (fun _ => HB.out) (fun hH => ?_)
              replace hH := hH (by decide)
              clear hK K
              (try simp only [Act.put, List.getElem_toArray, List.getElem_cons_succ, List.getElem_cons_zero, List.setIfInBounds_toArray, List.set_cons_zero, List.set_cons_succ])
              refine wpAnyZ_one (i := 27) (by kernel_rfl) ?_
              refine zstep rfl (fun K hK => ?_)
              go_simp
              have hb : Below v73.heap.size v73 (v73.alloc (.cells #[.int .i64 1] 3)) := (Below.refl _ _).alloc (Nat.le_refl _) _
              replace B26 := Lib.hid (B26.out.below hb)
              replace B31 := Lib.hid (B31.out.below hb)
              have B27 : Hid (Blk (v73.alloc (.cells #[.int .i64 1] 3)) v73.heap.size #[.int .i64 1].toList) := Lib.hid (blk_new v73 #[.int .i64 1] 3)
              replace HB : Hid (Below Ws.heap.size Ws (v73.alloc (.cells #[.int .i64 1] 3))) := Lib.hid (HB.out.trans (hb.mono HB.out.size))
              clear hb
              generalize (v73.alloc (.cells #[.int .i64 1] 3)) = v74 at *
              generalize v73.heap.size = g27 at B27 ⊢
              refine hK.out _ _ (fun _ => HB.out) (fun hH => ?_)
              replace hH := hH (by decide)
              clear hK K
              (try simp only [Act.put, List.getElem_toArray, List.getElem_cons_succ, List.getElem_cons_zero, List.setIfInBounds_toArray, List.set_cons_zero, List.set_cons_succ])
              refine wpAnyZ_takeS (i := 28) (v := ?_) rfl (by kernel_rfl) (by kernel_rfl) (by kernel_rfl) (by kernel_rfl) (fun _ _ _ h => h) (gives_value (by rfl) ?_) (by assumption) ?_
              rotate_left
              · intro w hSw
                go_simp
                (try with_reducible rfl)
              (try simp only [Act.put, List.getElem_toArray, List.getElem_cons_succ, List.getElem_cons_zero, List.setIfInBounds_toArray, List.set_cons_zero, List.set_cons_succ])
              refine wpAnyZ_one (i := 29) (by kernel_rfl) ?_
              refine zstep rfl (fun K hK => ?_)
              go_simp
              have hb : Below v74.heap.size v74 (v74.alloc (.cells #[.int .i64 3, .slice (some ⟨g26, 0, none⟩) 1 1, .slice (some ⟨g27, 0, none⟩) 1 1] 24)) := (Below.refl _ _).alloc (Nat.le_refl _) _
              replace B26 := Lib.hid (B26.out.below hb)
              replace B27 := Lib.hid (B27.out.below hb)
              replace B31 := Lib.hid (B31.out.below hb)
              have B29 : Hid (Blk (v74.alloc (.cells #[.int .i64 3, .slice (some ⟨g26, 0, none⟩) 1 1, .slice (some ⟨g27, 0, none⟩) 1 1] 24)) v74.heap.size #[.int .i64 3, .slice (some ⟨g26, 0, none⟩) 1 1, .slice (some ⟨g27, 0, none⟩) 1 1].toList) := Lib.hid (blk_new v74 #[.int .i64 3, .slice (some ⟨g26, 0, none⟩) 1 1, .slice (some ⟨g27, 0, none⟩) 1 1] 24)
              replace HB : Hid (Below Ws.heap.size Ws (v74.alloc (.cells #[.int .i64 3, .slice (some ⟨g26, 0, none⟩) 1 1, .slice (some ⟨g27, 0, none⟩) 1 1] 24))) := Lib.hid (HB.out.trans (hb.mono HB.out.size))
              clear hb
              generalize (v74.alloc (.cells #[.int .i64 3, .slice (some ⟨g26, 0, none⟩) 1 1, .slice (some ⟨g27, 0, none⟩) 1 1] 24)) = v75 at *
              generalize v74.heap.size = g29 at B29 ⊢
              refine hK.out _ _ (fun _ => HB.out) (fun hH => ?_)
              replace hH := hH (by decide)
              clear hK K
              (try simp only [Act.put, List.getElem_toArray, List.getElem_cons_succ, List.getElem_cons_zero, List.setIfInBounds_toArray, List.set_cons_zero, List.set_cons_succ])
              refine wpAnyZ_takeS (i := 32) (v := ?_) rfl (by kernel_rfl) (by kernel_rfl) (by kernel_rfl) (by kernel_rfl) (fun _ _ _ h => h) (gives_value (by rfl) ?_) (by assumption) ?_
              rotate_left
              · intro w hSw
                go_simp
                (try with_reducible rfl)
              (try simp only [Act.put, List.getElem_toArray, List.getElem_cons_succ, List.getElem_cons_zero, List.setIfInBounds_toArray, List.set_cons_zero, List.set_cons_succ])
              refine wpAnyZ_one (i := 33) (by kernel_rfl) ?_
              refine zstep rfl (fun K hK => ?_)
              have KX := Lib.hid (empty_any (some ⟨g29, 0, none⟩) none (some ⟨g31, 0, none⟩) 1 0 1 ⟨[⟨3, .slice (some ⟨g26, 0, none⟩) 1 1, .slice (some ⟨g27, 0, none⟩) 1 1, [1], [1]⟩], [], [⟨1, 2, 2⟩]⟩ v75 ⟨⟨rows_blk (l := [⟨3, .slice (some ⟨g26, 0, none⟩) 1 1, .slice (some ⟨g27, 0, none⟩) 1 1, [1], [1]⟩]) B29.out turn_len, fun t ht => by
                obtain rfl := List.mem_singleton.1 ht
                exact ⟨recs_blk (l := [1]) B26.out, recs_blk (l := [1]) B27.out⟩⟩, rows_nil, rows_blk (l := ([⟨1, 2, 2⟩] : List Hold)) B31.out hold_len, by simp, by simp, by simp, fun t ht => by
                obtain rfl := List.mem_singleton.1 ht
                simp⟩)
              rw [form_e3] at KX
              go_simp
              refine KX.out.mono ?_
              rintro e v76 ⟨rfl, hb⟩
              replace B26 := Lib.hid (B26.out.below hb)
              replace B27 := Lib.hid (B27.out.below hb)
              replace B29 := Lib.hid (B29.out.below hb)
              replace B31 := Lib.hid (B31.out.below hb)
              replace HB : Hid (Below Ws.heap.size Ws v76) := Lib.hid (HB.out.trans (hb.mono HB.out.size))
              clear hb KX
              refine hK.out _ _ (fun _ => HB.out) (fun hH => ?_)
              replace hH := hH (by decide)
              clear hK K
              (try simp only [Act.put, List.getElem_toArray, List.getElem_cons_succ, List.getElem_cons_zero, List.setIfInBounds_toArray, List.set_cons_zero, List.set_cons_succ])
              refine wpAnyZ_takeS (i := 34) (v := ?_) rfl (by kernel_rfl) (by kernel_rfl) (by kernel_rfl) (by kernel_rfl) (fun _ _ _ h => h) (gives_value (by rfl) ?_) (by assumption) ?_
              rotate_left
              · intro w hSw
                go_simp
                (try with_reducible rfl)
              (try simp only [Act.put, List.getElem_toArray, List.getElem_cons_succ, List.getElem_cons_zero, List.setIfInBounds_toArray, List.set_cons_zero, List.set_cons_succ])
              refine wpAnyZ_takeS (i := 35) (v := ?_) rfl (by kernel_rfl) (by kernel_rfl) (by kernel_rfl) (by kernel_rfl) (fun _ _ _ h => h) (gives_value (by rfl) ?_) (by assumption) ?_
              rotate_left
              · intro w hSw
                go_simp
                (try with_reducible rfl)
              (try simp only [Act.put, List.getElem_toArray, List.getElem_cons_succ, List.getElem_cons_zero, List.setIfInBounds_toArray, List.set_cons_zero, List.set_cons_succ])
              refine wpAnyZ_one (i := 36) (by kernel_rfl) ?_
              refine zstep rfl (fun K hK => ?_)
              go_simp
              refine (wakes7_any _).mono ?_
              rintro e v77 ⟨rfl, hb⟩
              replace B26 := Lib.hid (B26.out.below hb)
              replace B27 := Lib.hid (B27.out.below hb)
              replace B29 := Lib.hid (B29.out.below hb)
              replace B31 := Lib.hid (B31.out.below hb)
              replace HB : Hid (Below Ws.heap.size Ws v77) := Lib.hid (HB.out.trans (hb.mono HB.out.size))
              clear hb 
              refine hK.out _ _ (fun _ => HB.out) (fun hH => ?_)
              replace hH := hH (by decide)
              clear hK K
              (try simp only [Act.put, List.getElem_toArray, List.getElem_cons_succ, List.getElem_cons_zero, List.setIfInBounds_toArray, List.set_cons_zero, List.set_cons_succ])
              refine wpAnyZ_takeS (i := 37) (v := ?_) rfl (by kernel_rfl) (by kernel_rfl) (by kernel_rfl) (by kernel_rfl) (fun _ _ _ h => h) (gives_value (by rfl) ?_) (by assumption) ?_
              rotate_left
              · intro w hSw
                go_simp
                (try with_reducible rfl)
              (try simp only [Act.put, List.getElem_toArray, List.getElem_cons_succ, List.getElem_cons_zero, List.setIfInBounds_toArray, List.set_cons_zero, List.set_cons_succ])
              refine wpAnyZ_one (i := 38) (by kernel_rfl) ?_
              refine zstep rfl (fun K hK => ?_)
              go_simp
              refine hK.out _ _ (fun _ => HB.out) (fun hH => ?_)
              replace hH := hH (by decide)
              clear hK K
              (try simp only [Act.put, List.getElem_toArray, List.getElem_cons_succ, List.getElem_cons_zero, List.setIfInBounds_toArray, List.set_cons_zero, List.set_cons_succ])
              refine wpAnyZ_done (by kernel_rfl) ?_ _
              clear hH
              have HBf : Hid (Below w.heap.size w v77) := Lib.hid (HBw.out.trans (HB.out.mono HBw.out.size))
              go_wp2
              go_ret
              exact ⟨rfl, HBf.out⟩
          · refine zstep rfl (fun K hK => ?_)
            go_simp
            have hb : Below v60.heap.size v60 (v60.alloc (.cells #[.int .i64 1] 3)) := (Below.refl _ _).alloc (Nat.le_refl _) _
            have B27 : Hid (Blk (v60.alloc (.cells #[.int .i64 1] 3)) v60.heap.size #[.int .i64 1].toList) := Lib.hid (blk_new v60 #[.int .i64 1] 3)
            replace HB : Hid (Below Ws.heap.size Ws (v60.alloc (.cells #[.int .i64 1] 3))) := Lib.hid (HB.out.trans (hb.mono HB.out.size))
            clear hb
            generalize (v60.alloc (.cells #[.int .i64 1] 3)) = v79 at *
            generalize v60.heap.size = g27 at B27 ⊢
            refine hK.out _ _ (fun _ => HB.out) (fun hH => ?_)
            replace hH := hH (by decide)
            clear hK K
            (try simp only [Act.put, List.getElem_toArray, List.getElem_cons_succ, List.getElem_cons_zero, List.setIfInBounds_toArray, List.set_cons_zero, List.set_cons_succ])
            refine wpAnyZ_two (i := 26) (j := 31) (by kernel_rfl) ?_ ?_
            · refine zstep rfl (fun K hK => ?_)
              go_simp
              have hb : Below v79.heap.size v79 (v79.alloc (.cells #[.int .i64 1] 3)) := (Below.refl _ _).alloc (Nat.le_refl _) _
              replace B27 := Lib.hid (B27.out.below hb)
              have B26 : Hid (Blk (v79.alloc (.cells #[.int .i64 1] 3)) v79.heap.size #[.int .i64 1].toList) := Lib.hid (blk_new v79 #[.int .i64 1] 3)
              replace HB : Hid (Below Ws.heap.size Ws (v79.alloc (.cells #[.int .i64 1] 3))) := Lib.hid (HB.out.trans (hb.mono HB.out.size))
              clear hb
              generalize (v79.alloc (.cells #[.int .i64 1] 3)) = v80 at *
              generalize v79.heap.size = g26 at B26 ⊢
              refine hK.out _ _ (fun _ => HB.out) (fun hH => ?_)
              replace hH := hH (by decide)
              clear hK K
              (try simp only [Act.put, List.getElem_toArray, List.getElem_cons_succ, List.getElem_cons_zero, List.setIfInBounds_toArray, List.set_cons_zero, List.set_cons_succ])
              refine wpAnyZ_takeS (i := 28) (v := ?_) rfl (by kernel_rfl) (by kernel_rfl) (by kernel_rfl) (by kernel_rfl) (fun _ _ _ h => h) (gives_value (by rfl) ?_) (by assumption) ?_
              rotate_left
              · intro w hSw
                go_simp
                (try with_reducible rfl)
              (try simp only [Act.put, List.getElem_toArray, List.getElem_cons_succ, List.getElem_cons_zero, List.setIfInBounds_toArray, List.set_cons_zero, List.set_cons_succ])
              refine wpAnyZ_two (i := 29) (j := 31) (by kernel_rfl) ?_ ?_
              · refine zstep rfl (fun K hK => ?_)
                go_simp
                have hb : Below v80.heap.size v80 (v80.alloc (.cells #[.int .i64 3, .slice (some ⟨g26, 0, none⟩) 1 1, .slice (some ⟨g27, 0, none⟩) 1 1] 24)) := (Below.refl _ _).alloc (Nat.le_refl _) _
                replace B26 := Lib.hid (B26.out.below hb)
                replace B27 := Lib.hid (B27.out.below hb)
                have B29 : Hid (Blk (v80.alloc (.cells #[.int .i64 3, .slice (some ⟨g26, 0, none⟩) 1 1, .slice (some ⟨g27, 0, none⟩) 1 1] 24)) v80.heap.size #[.int .i64 3, .slice (some ⟨g26, 0, none⟩) 1 1, .slice (some ⟨g27, 0, none⟩) 1 1].toList) := Lib.hid (blk_new v80 #[.int .i64 3, .slice (some ⟨g26, 0, none⟩) 1 1, .slice (some ⟨g27, 0, none⟩) 1 1] 24)
                replace HB : Hid (Below Ws.heap.size Ws (v80.alloc (.cells #[.int .i64 3, .slice (some ⟨g26, 0, none⟩) 1 1, .slice (some ⟨g27, 0, none⟩) 1 1] 24))) := Lib.hid (HB.out.trans (hb.mono HB.out.size))
                clear hb
                generalize (v80.alloc (.cells #[.int .i64 3, .slice (some ⟨g26, 0, none⟩) 1 1, .slice (some ⟨g27, 0, none⟩) 1 1] 24)) = v81 at *
                generalize v80.heap.size = g29 at B29 ⊢
                refine hK.out _ _ (fun _ => HB.out) (fun hH => ?_)
                replace hH := hH (by decide)
                clear hK K
                (try simp only [Act.put, List.getElem_toArray, List.getElem_cons_succ, List.getElem_cons_zero, List.setIfInBounds_toArray, List.set_cons_zero, List.set_cons_succ])
                refine wpAnyZ_one (i := 31) (by kernel_rfl) ?_
                refine zstep rfl (fun K hK => ?_)
                go_simp
                have hb : Below v81.heap.size v81 (v81.alloc (.cells #[.int .i64 1, .int .i64 2, .int .i64 2] 27)) := (Below.refl _ _).alloc (Nat.le_refl _) _
                replace B26 := Lib.hid (B26.out.below hb)
                replace B27 := Lib.hid (B27.out.below hb)
                replace B29 := Lib.hid (B29.out.below hb)
                have B31 : Hid (Blk (v81.alloc (.cells #[.int .i64 1, .int .i64 2, .int .i64 2] 27)) v81.heap.size #[.int .i64 1, .int .i64 2, .int .i64 2].toList) := Lib.hid (blk_new v81 #[.int .i64 1, .int .i64 2, .int .i64 2] 27)
                replace HB : Hid (Below Ws.heap.size Ws (v81.alloc (.cells #[.int .i64 1, .int .i64 2, .int .i64 2] 27))) := Lib.hid (HB.out.trans (hb.mono HB.out.size))
                clear hb
                generalize (v81.alloc (.cells #[.int .i64 1, .int .i64 2, .int .i64 2] 27)) = v82 at *
                generalize v81.heap.size = g31 at B31 ⊢
                refine hK.out _ _ (fun _ => HB.out) (fun hH => ?_)
                replace hH := hH (by decide)
                clear hK K
                (try simp only [Act.put, List.getElem_toArray, List.getElem_cons_succ, List.getElem_cons_zero, List.setIfInBounds_toArray, List.set_cons_zero, List.set_cons_succ])
                refine wpAnyZ_takeS (i := 32) (v := ?_) rfl (by kernel_rfl) (by kernel_rfl) (by kernel_rfl) (by kernel_rfl) (fun _ _ _ h => h) (gives_value (by rfl) ?_) (by assumption) ?_
                rotate_left
                · intro w hSw
                  go_simp
                  (try with_reducible rfl)
                (try simp only [Act.put, List.getElem_toArray, List.getElem_cons_succ, List.getElem_cons_zero, List.setIfInBounds_toArray, List.set_cons_zero, List.set_cons_succ])
                refine wpAnyZ_one (i := 33) (by kernel_rfl) ?_
                refine zstep rfl (fun K hK => ?_)
                have KX := Lib.hid (empty_any (some ⟨g29, 0, none⟩) none (some ⟨g31, 0, none⟩) 1 0 1 ⟨[⟨3, .slice (some ⟨g26, 0, none⟩) 1 1, .slice (some ⟨g27, 0, none⟩) 1 1, [1], [1]⟩], [], [⟨1, 2, 2⟩]⟩ v82 ⟨⟨rows_blk (l := [⟨3, .slice (some ⟨g26, 0, none⟩) 1 1, .slice (some ⟨g27, 0, none⟩) 1 1, [1], [1]⟩]) B29.out turn_len, fun t ht => by
                  obtain rfl := List.mem_singleton.1 ht
                  exact ⟨recs_blk (l := [1]) B26.out, recs_blk (l := [1]) B27.out⟩⟩, rows_nil, rows_blk (l := ([⟨1, 2, 2⟩] : List Hold)) B31.out hold_len, by simp, by simp, by simp, fun t ht => by
                  obtain rfl := List.mem_singleton.1 ht
                  simp⟩)
                rw [form_e3] at KX
                go_simp
                refine KX.out.mono ?_
                rintro e v83 ⟨rfl, hb⟩
                replace B26 := Lib.hid (B26.out.below hb)
                replace B27 := Lib.hid (B27.out.below hb)
                replace B29 := Lib.hid (B29.out.below hb)
                replace B31 := Lib.hid (B31.out.below hb)
                replace HB : Hid (Below Ws.heap.size Ws v83) := Lib.hid (HB.out.trans (hb.mono HB.out.size))
                clear hb KX
                refine hK.out _ _ (fun _ => HB.out) (fun hH => ?_)
                replace hH := hH (by decide)
                clear hK K
                (try simp only [Act.put, List.getElem_toArray, List.getElem_cons_succ, List.getElem_cons_zero, List.setIfInBounds_toArray, List.set_cons_zero, List.set_cons_succ])
                refine wpAnyZ_takeS (i := 34) (v := ?_) rfl (by kernel_rfl) (by kernel_rfl) (by kernel_rfl) (by kernel_rfl) (fun _ _ _ h => h) (gives_value (by rfl) ?_) (by assumption) ?_
                rotate_left
                · intro w hSw
                  go_simp
                  (try with_reducible rfl)
                (try simp only [Act.put, List.getElem_toArray, List.getElem_cons_succ, List.getElem_cons_zero, List.setIfInBounds_toArray, List.set_cons_zero, List.set_cons_succ])
                refine wpAnyZ_takeS (i := 35) (v := ?_) rfl (by kernel_rfl) (by kernel_rfl) (by kernel_rfl) (by kernel_rfl) (fun _ _ _ h => h) (gives_value (by rfl) ?_) (by assumption) ?_
                rotate_left
                · intro w hSw
                  go_simp
                  (try with_reducible rfl)
                (try simp only [Act.put, List.getElem_toArray, List.getElem_cons_succ, List.getElem_cons_zero, List.setIfInBounds_toArray, List.set_cons_zero, List.set_cons_succ])
                refine wpAnyZ_one (i := 36) (by kernel_rfl) ?_
                refine zstep rfl (fun K hK => ?_)
                go_simp
                refine (wakes7_any _).mono ?_
                rintro e v84 ⟨rfl, hb⟩
                replace B26 := Lib.hid (B26.out.below hb)
                replace B27 := Lib.hid (B27.out.below hb)
                replace B29 := Lib.hid (B29.out.below hb)
                replace B31 := Lib.hid (B31.out.below hb)
                replace HB : Hid (Below Ws.heap.size Ws v84) := Lib.hid (HB.out.trans (hb.mono HB.out.size))
                clear hb 
                refine hK.out _ _ (fun _ => HB.out) (fun hH => ?_)
                replace hH := hH (by decide)
                clear hK K
                (try simp only [Act.put, List.getElem_toArray, List.getElem_cons_succ, List.getElem_cons_zero, List.setIfInBounds_toArray, List.set_cons_zero, List.set_cons_succ])
                refine wpAnyZ_takeS (i := 37) (v := ?_) rfl (by kernel_rfl) (by kernel_rfl) (by kernel_rfl) (by kernel_rfl) (fun _ _ _ h => h) (gives_value (by rfl) ?_) (by assumption) ?_
                rotate_left
                · intro w hSw
                  go_simp
                  (try with_reducible rfl)
                (try simp only [Act.put, List.getElem_toArray, List.getElem_cons_succ, List.getElem_cons_zero, List.setIfInBounds_toArray, List.set_cons_zero, List.set_cons_succ])
                refine wpAnyZ_one (i := 38) (by kernel_rfl) ?_
                refine zstep rfl (fun K hK => ?_)
                go_simp
                refine hK.out _ _ (fun _ => HB.out) (fun hH => ?_)
                replace hH := hH (by decide)
                clear hK K
                (try simp only [Act.put, List.getElem_toArray, List.getElem_cons_succ, List.getElem_cons_zero, List.setIfInBounds_toArray, List.set_cons_zero, List.set_cons_succ])
                refine wpAnyZ_done (by kernel_rfl) ?_ _
                clear hH
                have HBf : Hid (Below w.heap.size w v84) := Lib.hid (HBw.out.trans (HB.out.mono HBw.out.size))
                go_wp2
                go_ret
                exact ⟨rfl, HBf.out⟩
              · refine zstep rfl (fun K hK => ?_)
                go_simp
                have hb : Below v80.heap.size v80 (v80.alloc (.cells #[.int .i64 1, .int .i64 2, .int .i64 2] 27)) := (Below.refl _ _).alloc (Nat.le_refl _) _
                replace B26 := Lib.hid (B26.out.below hb)
                replace B27 := Lib.hid (B27.out.below hb)
                have B31 : Hid (Blk (v80.alloc (.cells #[.int .i64 1, .int .i64 2, .int .i64 2] 27)) v80.heap.size #[.int .i64 1, .int .i64 2, .int .i64 2].toList) := Lib.hid (blk_new v80 #[.int .i64 1, .int .i64 2, .int .i64 2] 27)
                replace HB : Hid (Below Ws.heap.size Ws (v80.alloc (.cells #[.int .i64 1, .int .i64 2, .int .i64 2] 27))) := Lib.hid (HB.out.trans (hb.mono HB.out.size))
                clear hb
                generalize (v80.alloc (.cells #[.int .i64 1, .int .i64 2, .int .i64 2] 27)) = v86 at *
                generalize v80.heap.size = g31 at B31 ⊢
                refine hK.out _ _ (fun _ => HB.out) (fun hH => ?_)
                replace hH := hH (by decide)
                clear hK K
                (try simp only [Act.put, List.getElem_toArray, List.getElem_cons_succ, List.getElem_cons_zero, List.setIfInBounds_toArray, List.set_cons_zero, List.set_cons_succ])
                refine wpAnyZ_one (i := 29) (by kernel_rfl) ?_
                refine zstep rfl (fun K hK => ?_)
                go_simp
                have hb : Below v86.heap.size v86 (v86.alloc (.cells #[.int .i64 3, .slice (some ⟨g26, 0, none⟩) 1 1, .slice (some ⟨g27, 0, none⟩) 1 1] 24)) := (Below.refl _ _).alloc (Nat.le_refl _) _
                replace B26 := Lib.hid (B26.out.below hb)
                replace B27 := Lib.hid (B27.out.below hb)
                replace B31 := Lib.hid (B31.out.below hb)
                have B29 : Hid (Blk (v86.alloc (.cells #[.int .i64 3, .slice (some ⟨g26, 0, none⟩) 1 1, .slice (some ⟨g27, 0, none⟩) 1 1] 24)) v86.heap.size #[.int .i64 3, .slice (some ⟨g26, 0, none⟩) 1 1, .slice (some ⟨g27, 0, none⟩) 1 1].toList) := Lib.hid (blk_new v86 #[.int .i64 3, .slice (some ⟨g26, 0, none⟩) 1 1, .slice (some ⟨g27, 0, none⟩) 1 1] 24)
                replace HB : Hid (Below Ws.heap.size Ws (v86.alloc (.cells #[.int .i64 3, .slice (some ⟨g26, 0, none⟩) 1 1, .slice (some ⟨g27, 0, none⟩) 1 1] 24))) := Lib.hid (HB.out.trans (hb.mono HB.out.size))
                clear hb
                generalize (v86.alloc (.cells #[.int .i64 3, .slice (some ⟨g26, 0, none⟩) 1 1, .slice (some ⟨g27, 0, none⟩) 1 1] 24)) = v87 at *
                generalize v86.heap.size = g29 at B29 ⊢
                refine hK.out _ _ (fun _ => HB.out) (fun hH => ?_)
                replace hH := hH (by decide)
                clear hK K
                (try simp only [Act.put, List.getElem_toArray, List.getElem_cons_succ, List.getElem_cons_zero, List.setIfInBounds_toArray, List.set_cons_zero, List.set_cons_succ])
                refine wpAnyZ_takeS (i := 32) (v := ?_) rfl (by kernel_rfl) (by kernel_rfl) (by kernel_rfl) (by kernel_rfl) (fun _ _ _ h => h) (gives_value (by rfl) ?_) (by assumption) ?_
                rotate_left
                · intro w hSw
                  go_simp
                  (try with_reducible rfl)
                (try simp only [Act.put, List.getElem_toArray, List.getElem_cons_succ, List.getElem_cons_zero, List.setIfInBounds_toArray, List.set_cons_zero, List.set_cons_succ])
                refine wpAnyZ_one (i := 33) (by kernel_rfl) ?_
                refine zstep rfl (fun K hK => ?_)
                have KX := Lib.hid (empty_any (some ⟨g29, 0, none⟩) none (some ⟨g31, 0, none⟩) 1 0 1 ⟨[⟨3, .slice (some ⟨g26, 0, none⟩) 1 1, .slice (some ⟨g27, 0, none⟩) 1 1, [1], [1]⟩], [], [⟨1, 2, 2⟩]⟩ v87 ⟨⟨rows_blk (l := [⟨3, .slice (some ⟨g26, 0, none⟩) 1 1, .slice (some ⟨g27, 0, none⟩) 1 1, [1], [1]⟩]) B29.out turn_len, fun t ht => by
                  obtain rfl := List.mem_singleton.1 ht
                  exact ⟨recs_blk (l := [1]) B26.out, recs_blk (l := [1]) B27.out⟩⟩, rows_nil, rows_blk (l := ([⟨1, 2, 2⟩] : List Hold)) B31.out hold_len, by simp, by simp, by simp, fun t ht => by
                  obtain rfl := List.mem_singleton.1 ht
                  simp⟩)
                rw [form_e3] at KX
                go_simp
                refine KX.out.mono ?_
                rintro e v88 ⟨rfl, hb⟩
                replace B26 := Lib.hid (B26.out.below hb)
                replace B27 := Lib.hid (B27.out.below hb)
                replace B29 := Lib.hid (B29.out.below hb)
                replace B31 := Lib.hid (B31.out.below hb)
                replace HB : Hid (Below Ws.heap.size Ws v88) := Lib.hid (HB.out.trans (hb.mono HB.out.size))
                clear hb KX
                refine hK.out _ _ (fun _ => HB.out) (fun hH => ?_)
                replace hH := hH (by decide)
                clear hK K
                (try simp only [Act.put, List.getElem_toArray, List.getElem_cons_succ, List.getElem_cons_zero, List.setIfInBounds_toArray, List.set_cons_zero, List.set_cons_succ])
                refine wpAnyZ_takeS (i := 34) (v := ?_) rfl (by kernel_rfl) (by kernel_rfl) (by kernel_rfl) (by kernel_rfl) (fun _ _ _ h => h) (gives_value (by rfl) ?_) (by assumption) ?_
                rotate_left
                · intro w hSw
                  go_simp
                  (try with_reducible rfl)
                (try simp only [Act.put, List.getElem_toArray, List.getElem_cons_succ, List.getElem_cons_zero, List.setIfInBounds_toArray, List.set_cons_zero, List.set_cons_succ])
                refine wpAnyZ_takeS (i := 35) (v := ?_) rfl (by kernel_rfl) (by kernel_rfl) (by kernel_rfl) (by kernel_rfl) (fun _ _ _ h => h) (gives_value (by rfl) ?_) (by assumption) ?_
                rotate_left
                · intro w hSw
                  go_simp
                  (try with_reducible rfl)
                (try simp only [Act.put, List.getElem_toArray, List.getElem_cons_succ, List.getElem_cons_zero, List.setIfInBounds_toArray, List.set_cons_zero, List.set_cons_succ])
                refine wpAnyZ_one (i := 36) (by kernel_rfl) ?_
                refine zstep rfl (fun K hK => ?_)
                go_simp
                refine (wakes7_any _).mono ?_
                rintro e v89 ⟨rfl, hb⟩
                replace B26 := Lib.hid (B26.out.below hb)
                replace B27 := Lib.hid (B27.out.below hb)
                replace B29 := Lib.hid (B29.out.below hb)
                replace B31 := Lib.hid (B31.out.below hb)
                replace HB : Hid (Below Ws.heap.size Ws v89) := Lib.hid (HB.out.trans (hb.mono HB.out.size))
                clear hb 
                refine hK.out _ _ (fun _ => HB.out) (fun hH => ?_)
                replace hH := hH (by decide)
                clear hK K
                (try simp only [Act.put, List.getElem_toArray, List.getElem_cons_succ, List.getElem_cons_zero, List.setIfInBounds_toArray, List.set_cons_zero, List.set_cons_succ])
                refine wpAnyZ_takeS (i := 37) (v := ?_) rfl (by kernel_rfl) (by kernel_rfl) (by kernel_rfl) (by kernel_rfl) (fun _ _ _ h => h) (gives_value (by rfl) ?_) (by assumption) ?_
                rotate_left
                · intro w hSw
                  go_simp
                  (try with_reducible rfl)
                (try simp only [Act.put, List.getElem_toArray, List.getElem_cons_succ, List.getElem_cons_zero, List.setIfInBounds_toArray, List.set_cons_zero, List.set_cons_succ])
                refine wpAnyZ_one (i := 38) (by kernel_rfl) ?_
                refine zstep rfl (fun K hK => ?_)
                go_simp
                refine hK.out _ _ (fun _ => HB.out) (fun hH => ?_)
                replace hH := hH (by decide)
                clear hK K
                (try simp only [Act.put, List.getElem_toArray, List.getElem_cons_succ, List.getElem_cons_zero, List.setIfInBounds_toArray, List.set_cons_zero, List.set_cons_succ])
                refine wpAnyZ_done (by kernel_rfl) ?_ _
                clear hH
                have HBf : Hid (Below w.heap.size w v89) := Lib.hid (HBw.out.trans (HB.out.mono HBw.out.size))
                go_wp2
                go_ret
                exact ⟨rfl, HBf.out⟩
            · refine zstep rfl (fun K hK => ?_)
              go_simp
              have hb : Below v79.heap.size v79 (v79.alloc (.cells #[.int .i64 1, .int .i64 2, .int .i64 2] 27)) := (Below.refl _ _).alloc (Nat.le_refl _) _
              replace B27 := Lib.hid (B27.out.below hb)
              have B31 : Hid (Blk (v79.alloc (.cells #[.int .i64 1, .int .i64 2, .int .i64 2] 27)) v79.heap.size #[.int .i64 1, .int .i64 2, .int .i64 2].toList) := Lib.hid (blk_new v79 #[.int .i64 1, .int .i64 2, .int .i64 2] 27)
              replace HB : Hid (Below Ws.heap.size Ws (v79.alloc (.cells #[.int .i64 1, .int .i64 2, .int .i64 2] 27))) := Lib.hid (HB.out.trans (hb.mono HB.out.size))
              clear hb
              generalize (v79.alloc (.cells #[.int .i64 1, .int .i64 2, .int .i64 2] 27)) = v91 at *
              generalize v79.heap.size = g31 at B31 ⊢
              refine hK.out _ _ (fun _ => HB.out) (fun hH => ?_)
              replace hH := hH (by decide)
              clear hK K
              (try simp only [Act.put, List.getElem_toArray, List.getElem_cons_succ, List.getElem_cons_zero, List.setIfInBounds_toArray, List.set_cons_zero, List.set_cons_succ])
              refine wpAnyZ_one (i := 26) (by kernel_rfl) ?_
              refine zstep rfl (fun K hK => ?_)
              go_simp
              have hb : Below v91.heap.size v91 (v91.alloc (.cells #[.int .i64 1] 3)) := (Below.refl _ _).alloc (Nat.le_refl _) _
              replace B27 := Lib.hid (B27.out.below hb)
              replace B31 := Lib.hid (B31.out.below hb)
              have B26 : Hid (Blk (v91.alloc (.cells #[.int .i64 1] 3)) v91.heap.size #[.int .i64 1].toList) := Lib.hid (blk_new v91 #[.int .i64 1] 3)
              replace HB : Hid (Below Ws.heap.size Ws (v91.alloc (.cells #[.int .i64 1] 3))) := Lib.hid (HB.out.trans (hb.mono HB.out.size))
              clear hb
              generalize (v91.alloc (.cells #[.int .i64 1] 3)) = v92 at *
              generalize v91.heap.size = g26 at B26 ⊢
              refine hK.out _ _ (fun _ => HB.out) (fun hH => ?_)
              replace hH := hH (by decide)
              clear hK K
              (try simp only [Act.put, List.getElem_toArray, List.getElem_cons_succ, List.getElem_cons_zero, List.setIfInBounds_toArray, List.set_cons_zero, List.set_cons_succ])
              refine wpAnyZ_takeS (i := 28) (v := ?_) rfl (by kernel_rfl) (by kernel_rfl) (by kernel_rfl) (by kernel_rfl) (fun _ _ _ h => h) (gives_value (by rfl) ?_) (by assumption) ?_
              rotate_left
              · intro w hSw
                go_simp
                (try with_reducible rfl)
              (try simp only [Act.put, List.getElem_toArray, List.getElem_cons_succ, List.getElem_cons_zero, List.setIfInBounds_toArray, List.set_cons_zero, List.set_cons_succ])
              refine wpAnyZ_one (i := 29) (by kernel_rfl) ?_
              refine zstep rfl (fun K hK => ?_)
              go_simp
              have hb : Below v92.heap.size v92 (v92.alloc (.cells #[.int .i64 3, .slice (some ⟨g26, 0, none⟩) 1 1, .slice (some ⟨g27, 0, none⟩) 1 1] 24)) := (Below.refl _ _).alloc (Nat.le_refl _) _
              replace B26 := Lib.hid (B26.out.below hb)
              replace B27 := Lib.hid (B27.out.below hb)
              replace B31 := Lib.hid (B31.out.below hb)
              have B29 : Hid (Blk (v92.alloc (.cells #[.int .i64 3, .slice (some ⟨g26, 0, none⟩) 1 1, .slice (some ⟨g27, 0, none⟩) 1 1] 24)) v92.heap.size #[.int .i64 3, .slice (some ⟨g26, 0, none⟩) 1 1, .slice (some ⟨g27, 0, none⟩) 1 1].toList) := Lib.hid (blk_new v92 #[.int .i64 3, .slice (some ⟨g26, 0, none⟩) 1 1, .slice (some ⟨g27, 0, none⟩) 1 1] 24)
              replace HB : Hid (Below Ws.heap.size Ws (v92.alloc (.cells #[.int .i64 3, .slice (some ⟨g26, 0, none⟩) 1 1, .slice (some ⟨g27, 0, none⟩) 1 1] 24))) := Lib.hid (HB.out.trans (hb.mono HB.out.size))
              clear hb
              generalize (v92.alloc (.cells #[.int .i64 3, .slice (some ⟨g26, 0, none⟩) 1 1, .slice (some ⟨g27, 0, none⟩) 1 1] 24)) = v93 at *
              generalize v92.heap.size = g29 at B29 ⊢
              refine hK.out _ _ (fun _ => HB.out) (fun hH => ?_)
              replace hH := hH (by decide)
              clear hK K
              (try simp only [Act.put, List.getElem_toArray, List.getElem_cons_succ, List.getElem_cons_zero, List.setIfInBounds_toArray, List.set_cons_zero, List.set_cons_succ])
              refine wpAnyZ_takeS (i := 32) (v := ?_) rfl (by kernel_rfl) (by kernel_rfl) (by kernel_rfl) (by kernel_rfl) (fun _ _ _ h => h) (gives_value (by rfl) ?_) (by assumption) ?_
              rotate_left
              · intro w hSw
                go_simp
                (try with_reducible rfl)
              (try simp only [Act.put, List.getElem_toArray, List.getElem_cons_succ, List.getElem_cons_zero, List.setIfInBounds_toArray, List.set_cons_zero, List.set_cons_succ])
              refine wpAnyZ_one (i := 33) (by kernel_rfl) ?_
              refine zstep rfl (fun K hK => ?_)
              have KX := Lib.hid (empty_any (some ⟨g29, 0, none⟩) none (some ⟨g31, 0, none⟩) 1 0 1 ⟨[⟨3, .slice (some ⟨g26, 0, none⟩) 1 1, .slice (some ⟨g27, 0, none⟩) 1 1, [1], [1]⟩], [], [⟨1, 2, 2⟩]⟩ v93 ⟨⟨rows_blk (l := [⟨3, .slice (some ⟨g26, 0, none⟩) 1 1, .slice (some ⟨g27, 0, none⟩) 1 1, [1], [1]⟩]) B29.out turn_len, fun t ht => by
                obtain rfl := List.mem_singleton.1 ht
                exact ⟨recs_blk (l := [1]) B26.out, recs_blk (l := [1]) B27.out⟩⟩, rows_nil, rows_blk (l := ([⟨1, 2, 2⟩] : List Hold)) B31.out hold_len, by simp, by simp, by simp, fun t ht => by
                obtain rfl := List.mem_singleton.1 ht
                simp⟩)
              rw [form_e3] at KX
              go_simp
              refine KX.out.mono ?_
              rintro e v94 ⟨rfl, hb⟩
              replace B26 := Lib.hid (B26.out.below hb)
              replace B27 := Lib.hid (B27.out.below hb)
              replace B29 := Lib.hid (B29.out.below hb)
              replace B31 := Lib.hid (B31.out.below hb)
              replace HB : Hid (Below Ws.heap.size Ws v94) := Lib.hid (HB.out.trans (hb.mono HB.out.size))
              clear hb KX
              refine hK.out _ _ (fun _ => HB.out) (fun hH => ?_)
              replace hH := hH (by decide)
              clear hK K
              (try simp only [Act.put, List.getElem_toArray, List.getElem_cons_succ, List.getElem_cons_zero, List.setIfInBounds_toArray, List.set_cons_zero, List.set_cons_succ])
              refine wpAnyZ_takeS (i := 34) (v := ?_) rfl (by kernel_rfl) (by kernel_rfl) (by kernel_rfl) (by kernel_rfl) (fun _ _ _ h => h) (gives_value (by rfl) ?_) (by assumption) ?_
              rotate_left
              · intro w hSw
                go_simp
                (try with_reducible rfl)
              (try simp only [Act.put, List.getElem_toArray, List.getElem_cons_succ, List.getElem_cons_zero, List.setIfInBounds_toArray, List.set_cons_zero, List.set_cons_succ])
              refine wpAnyZ_takeS (i := 35) (v := ?_) rfl (by kernel_rfl) (by kernel_rfl) (by kernel_rfl) (by kernel_rfl) (fun _ _ _ h => h) (gives_value (by rfl) ?_) (by assumption) ?_
              rotate_left
              · intro w hSw
                go_simp
                (try with_reducible rfl)
              (try simp only [Act.put, List.getElem_toArray, List.getElem_cons_succ, List.getElem_cons_zero, List.setIfInBounds_toArray, List.set_cons_zero, List.set_cons_succ])
              refine wpAnyZ_one (i := 36) (by kernel_rfl) ?_
              refine zstep rfl (fun K hK => ?_)
              go_simp
              refine (wakes7_any _).mono ?_
              rintro e v95 ⟨rfl, hb⟩
              replace B26 := Lib.hid (B26.out.below hb)
              replace B27 := Lib.hid (B27.out.below hb)
              replace B29 := Lib.hid (B29.out.below hb)
              replace B31 := Lib.hid (B31.out.below hb)
              replace HB : Hid (Below Ws.heap.size Ws v95) := Lib.hid (HB.out.trans (hb.mono HB.out.size))
              clear hb 
              refine hK.out _ _ (fun _ => HB.out) (fun hH => ?_)
              replace hH := hH (by decide)
              clear hK K
              (try simp only [Act.put, List.getElem_toArray, List.getElem_cons_succ, List.getElem_cons_zero, List.setIfInBounds_toArray, List.set_cons_zero, List.set_cons_succ])
              refine wpAnyZ_takeS (i := 37) (v := ?_) rfl (by kernel_rfl) (by kernel_rfl) (by kernel_rfl) (by kernel_rfl) (fun _ _ _ h => h) (gives_value (by rfl) ?_) (by assumption) ?_
              rotate_left
              · intro w hSw
                go_simp
                (try with_reducible rfl)
              (try simp only [Act.put, List.getElem_toArray, List.getElem_cons_succ, List.getElem_cons_zero, List.setIfInBounds_toArray, List.set_cons_zero, List.set_cons_succ])
              refine wpAnyZ_one (i := 38) (by kernel_rfl) ?_
              refine zstep rfl (fun K hK => ?_)
              go_simp
              refine hK.out _ _ (fun _ => HB.out) (fun hH => ?_)
              replace hH := hH (by decide)
              clear hK K
              (try simp only [Act.put, List.getElem_toArray, List.getElem_cons_succ, List.getElem_cons_zero, List.setIfInBounds_toArray, List.set_cons_zero, List.set_cons_succ])
              refine wpAnyZ_done (by kernel_rfl) ?_ _
              clear hH
              have HBf : Hid (Below w.heap.size w v95) := Lib.hid (HBw.out.trans (HB.out.mono HBw.out.size))
              go_wp2
              go_ret
              exact ⟨rfl, HBf.out⟩
          · refine zstep rfl (fun K hK => ?_)
            go_simp
            have hb : Below v60.heap.size v60 (v60.alloc (.cells #[.int .i64 1, .int .i64 2, .int .i64 2] 27)) := (Below.refl _ _).alloc (Nat.le_refl _) _
            have B31 : Hid (Blk (v60.alloc (.cells #[.int .i64 1, .int .i64 2, .int .i64 2] 27)) v60.heap.size #[.int .i64 1, .int .i64 2, .int .i64 2].toList) := Lib.hid (blk_new v60 #[.int .i64 1, .int .i64 2, .int .i64 2] 27)
            replace HB : Hid (Below Ws.heap.size Ws (v60.alloc (.cells #[.int .i64 1, .int .i64 2, .int .i64 2] 27))) := Lib.hid (HB.out.trans (hb.mono HB.out.size))
            clear hb
            generalize (v60.alloc (.cells #[.int .i64 1, .int .i64 2, .int .i64 2] 27)) = v97 at *
            generalize v60.heap.size = g31 at B31 ⊢
            refine hK.out _ _ (fun _ => HB.out) (fun hH => ?_)
            replace hH := hH (by decide)
            clear hK K
            (try simp only [Act.put, List.getElem_toArray, List.getElem_cons_succ, List.getElem_cons_zero, List.setIfInBounds_toArray, List.set_cons_zero, List.set_cons_succ])
            refine wpAnyZ_two (i := 26) (j := 27) (by kernel_rfl) ?_ ?_
            · refine zstep rfl (fun K hK => ?_)
              go_simp
              have hb : Below v97.heap.size v97 (v97.alloc (.cells #[.int .i64 1] 3)) := (Below.refl _ _).alloc (Nat.le_refl _) _
              replace B31 := Lib.hid (B31.out.below hb)
              have B26 : Hid (Blk (v97.alloc (.cells #[.int .i64 1] 3)) v97.heap.size #[.int .i64 1].toList) := Lib.hid (blk_new v97 #[.int .i64 1] 3)
              replace HB : Hid (Below Ws.heap.size Ws (v97.alloc (.cells #[.int .i64 1] 3))) := Lib.hid (HB.out.trans (hb.mono HB.out.size))
              clear hb
              generalize (v97.alloc (.cells #[.int .i64 1] 3)) = v98 at *
              generalize v97.heap.size = g26 at B26 ⊢
              refine hK.out _ _ (fun _ => HB.out) (fun hH => ?_)
              replace hH := hH (by decide)
              clear hK K
              (try simp only [Act.put, List.getElem_toArray, List.getElem_cons_succ, List.getElem_cons_zero, List.setIfInBounds_toArray, List.set_cons_zero, List.set_cons_succ])
              refine wpAnyZ_one (i := 27) (by kernel_rfl) ?_
              refine zstep rfl (fun K hK => ?_)
              go_simp
              have hb : Below v98.heap.size v98 (v98.alloc (.cells #[.int .i64 1] 3)) := (Below.refl _ _).alloc (Nat.le_refl _) _
              replace B26 := Lib.hid (B26.out.below hb)
              replace B31 := Lib.hid (B31.out.below hb)
              have B27 : Hid (Blk (v98.alloc (.cells #[.int .i64 1] 3)) v98.heap.size #[.int .i64 1].toList) := Lib.hid (blk_new v98 #[.int .i64 1] 3)
              replace HB : Hid (Below Ws.heap.size Ws (v98.alloc (.cells #[.int .i64 1] 3))) := Lib.hid (HB.out.trans (hb.mono HB.out.size))
              clear hb
              generalize (v98.alloc (.cells #[.int .i64 1] 3)) = v99 at *
              generalize v98.heap.size = g27 at B27 ⊢
              refine hK.out _ _ (fun _ => HB.out) (fun hH => ?_)
              replace hH := hH (by decide)
              clear hK K
              (try simp only [Act.put, List.getElem_toArray, List.getElem_cons_succ, List.getElem_cons_zero, List.setIfInBounds_toArray, List.set_cons_zero, List.set_cons_succ])
              refine wpAnyZ_takeS (i := 28) (v := ?_) rfl (by kernel_rfl) (by kernel_rfl) (by kernel_rfl) (by kernel_rfl) (fun _ _ _ h => h) (gives_value (by rfl) ?_) (by assumption) ?_
              rotate_left
              · intro w hSw
                go_simp
                (try with_reducible rfl)
              (try simp only [Act.put, List.getElem_toArray, List.getElem_cons_succ, List.getElem_cons_zero, List.setIfInBounds_toArray, List.set_cons_zero, List.set_cons_succ])
              refine wpAnyZ_one (i := 29) (by kernel_rfl) ?_
              refine zstep rfl (fun K hK => ?_)
              go_simp
              have hb : Below v99.heap.size v99 (v99.alloc (.cells #[.int .i64 3, .slice (some ⟨g26, 0, none⟩) 1 1, .slice (some ⟨g27, 0, none⟩) 1 1] 24)) := (Below.refl _ _).alloc (Nat.le_refl _) _
              replace B26 := Lib.hid (B26.out.below hb)
              replace B27 := Lib.hid (B27.out.below hb)
              replace B31 := Lib.hid (B31.out.below hb)
              have B29 : Hid (Blk (v99.alloc (.cells #[.int .i64 3, .slice (some ⟨g26, 0, none⟩) 1 1, .slice (some ⟨g27, 0, none⟩) 1 1] 24)) v99.heap.size #[.int .i64 3, .slice (some ⟨g26, 0, none⟩) 1 1, .slice (some ⟨g27, 0, none⟩) 1 1].toList) := Lib.hid (blk_new v99 #[.int .i64 3, .slice (some ⟨g26, 0, none⟩) 1 1, .slice (some ⟨g27, 0, none⟩) 1 1] 24)
              replace HB : Hid (Below Ws.heap.size Ws (v99.alloc (.cells #[.int .i64 3, .slice (some ⟨g26, 0, none⟩) 1 1, .slice (some ⟨g27, 0, none⟩) 1 1] 24))) := Lib.hid (HB.out.trans (hb.mono HB.out.size))
              clear hb
              generalize (v99.alloc (.cells #[.int .i64 3, .slice (some ⟨g26, 0, none⟩) 1 1, .slice (some ⟨g27, 0, none⟩) 1 1] 24)) = v100 at *
              generalize v99.heap.size = g29 at B29 ⊢
              refine hK.out _ _ (fun _ => HB.out) (fun hH => ?_)
              replace hH := hH (by decide)
              clear hK K
              (try simp only [Act.put, List.getElem_toArray, List.getElem_cons_succ, List.getElem_cons_zero, List.setIfInBounds_toArray, List.set_cons_zero, List.set_cons_succ])
              refine wpAnyZ_takeS (i := 32) (v := ?_) rfl (by kernel_rfl) (by kernel_rfl) (by kernel_rfl) (by kernel_rfl) (fun _ _ _ h => h) (gives_value (by rfl) ?_) (by assumption) ?_
              rotate_left
              · intro w hSw
                go_simp
                (try with_reducible rfl)
              (try simp only [Act.put, List.getElem_toArray, List.getElem_cons_succ, List.getElem_cons_zero, List.setIfInBounds_toArray, List.set_cons_zero, List.set_cons_succ])
              refine wpAnyZ_one (i := 33) (by kernel_rfl) ?_
              refine zstep rfl (fun K hK => ?_)
              have KX := Lib.hid (empty_any (some ⟨g29, 0, none⟩) none (some ⟨g31, 0, none⟩) 1 0 1 ⟨[⟨3, .slice (some ⟨g26, 0, none⟩) 1 1, .slice (some ⟨g27, 0, none⟩) 1 1, [1], [1]⟩], [], [⟨1, 2, 2⟩]⟩ v100 ⟨⟨rows_blk (l := [⟨3, .slice (some ⟨g26, 0, none⟩) 1 1, .slice (some ⟨g27, 0, none⟩) 1 1, [1], [1]⟩]) B29.out turn_len, fun t ht => by
                obtain rfl := List.mem_singleton.1 ht
                exact ⟨recs_blk (l := [1]) B26.out, recs_blk (l := [1]) B27.out⟩⟩, rows_nil, rows_blk (l := ([⟨1, 2, 2⟩] : List Hold)) B31.out hold_len, by simp, by simp, by simp, fun t ht => by
                obtain rfl := List.mem_singleton.1 ht
                simp⟩)
              rw [form_e3] at KX
              go_simp
              refine KX.out.mono ?_
              rintro e v101 ⟨rfl, hb⟩
              replace B26 := Lib.hid (B26.out.below hb)
              replace B27 := Lib.hid (B27.out.below hb)
              replace B29 := Lib.hid (B29.out.below hb)
              replace B31 := Lib.hid (B31.out.below hb)
              replace HB : Hid (Below Ws.heap.size Ws v101) := Lib.hid (HB.out.trans (hb.mono HB.out.size))
              clear hb KX
              refine hK.out _ _ (fun _ => HB.out) (fun hH => ?_)
              replace hH := hH (by decide)
              clear hK K
              (try simp only [Act.put, List.getElem_toArray, List.getElem_cons_succ, List.getElem_cons_zero, List.setIfInBounds_toArray, List.set_cons_zero, List.set_cons_succ])
              refine wpAnyZ_takeS (i := 34) (v := ?_) rfl (by kernel_rfl) (by kernel_rfl) (by kernel_rfl) (by kernel_rfl) (fun _ _ _ h => h) (gives_value (by rfl) ?_) (by assumption) ?_
              rotate_left
              · intro w hSw
                go_simp
                (try with_reducible rfl)
              (try simp only [Act.put, List.getElem_toArray, List.getElem_cons_succ, List.getElem_cons_zero, List.setIfInBounds_toArray, List.set_cons_zero, List.set_cons_succ])
              refine wpAnyZ_takeS (i := 35) (v := ?_) rfl (by kernel_rfl) (by kernel_rfl) (by kernel_rfl) (by kernel_rfl) (fun _ _ _ h => h) (gives_value (by rfl) ?_) (by assumption) ?_
              rotate_left
              · intro w hSw
                go_simp
                (try with_reducible rfl)
              (try simp only [Act.put, List.getElem_toArray, List.getElem_cons_succ, List.getElem_cons_zero, List.setIfInBounds_toArray, List.set_cons_zero, List.set_cons_succ])
              refine wpAnyZ_one (i := 36) (by kernel_rfl) ?_
              refine zstep rfl (fun K hK => ?_)
              go_simp
              refine (wakes7_any _).mono ?_
              rintro e v102 ⟨rfl, hb⟩
              replace B26 := Lib.hid (B26.out.below hb)
              replace B27 := Lib.hid (B27.out.below hb)
              replace B29 := Lib.hid (B29.out.below hb)
              replace B31 := Lib.hid (B31.out.below hb)
              replace HB : Hid (Below Ws.heap.size Ws v102) := Lib.hid (HB.out.trans (hb.mono HB.out.size))
              clear hb 
              refine hK.out _ _ (fun _ => HB.out) (fun hH => ?_)
              replace hH := hH (by decide)
              clear hK K
              (try simp only [Act.put, List.getElem_toArray, List.getElem_cons_succ, List.getElem_cons_zero, List.setIfInBounds_toArray, List.set_cons_zero, List.set_cons_succ])
              refine wpAnyZ_takeS (i := 37) (v := ?_) rfl (by kernel_rfl) (by kernel_rfl) (by kernel_rfl) (by kernel_rfl) (fun _ _ _ h => h) (gives_value (by rfl) ?_) (by assumption) ?_
              rotate_left
              · intro w hSw
                go_simp
                (try with_reducible rfl)
              (try simp only [Act.put, List.getElem_toArray, List.getElem_cons_succ, List.getElem_cons_zero, List.setIfInBounds_toArray, List.set_cons_zero, List.set_cons_succ])
              refine wpAnyZ_one (i := 38) (by kernel_rfl) ?_
              refine zstep rfl (fun K hK => ?_)
              go_simp
              refine hK.out _ _ (fun _ => HB.out) (fun hH => ?_)
              replace hH := hH (by decide)
              clear hK K
              (try simp only [Act.put, List.getElem_toArray, List.getElem_cons_succ, List.getElem_cons_zero, List.setIfInBounds_toArray, List.set_cons_zero, List.set_cons_succ])
              refine wpAnyZ_done (by kernel_rfl) ?_ _
              clear hH
              have HBf : Hid (Below w.heap.size w v102) := Lib.hid (HBw.out.trans (HB.out.mono HBw.out.size))
              go_wp2
              go_ret
              exact ⟨rfl, HBf.out⟩
            · refine zstep rfl (fun K hK => ?_)
              go_simp
              have hb : Below v97.heap.size v97 (v97.alloc (.cells #[.int .i64 1] 3)) := (Below.refl _ _).alloc (Nat.le_refl _) _
              replace B31 := Lib.hid (B31.out.below hb)
              have B27 : Hid (Blk (v97.alloc (.cells #[.int .i64 1] 3)) v97.heap.size #[.int .i64 1].toList) := Lib.hid (blk_new v97 #[.int .i64 1] 3)
              replace HB : Hid (Below Ws.heap.size Ws (v97.alloc (.cells #[.int .i64 1] 3))) := Lib.hid (HB.out.trans (hb.mono HB.out.size))
              clear hb
              generalize (v97.alloc (.cells #[.int .i64 1] 3)) = v104 at *
              generalize v97.heap.size = g27 at B27 ⊢
              refine hK.out _ _ (fun _ => HB.out) (fun hH => ?_)
              replace hH := hH (by decide)
              clear hK K
              (try simp only [Act.put, List.getElem_toArray, List.getElem_cons_succ, List.getElem_cons_zero, List.setIfInBounds_toArray, List.set_cons_zero, List.set_cons_succ])
              refine wpAnyZ_one (i := 26) (by kernel_rfl) ?_
              refine zstep rfl (fun K hK => ?_)
              go_simp
              have hb : Below v104.heap.size v104 (v104.alloc (.cells #[.int .i64 1] 3)) := (Below.refl _ _).alloc (Nat.le_refl _) _
              replace B27 := Lib.hid (B27.out.below hb)
              replace B31 := Lib.hid (B31.out.below hb)
              have B26 : Hid (Blk (v104.alloc (.cells #[.int .i64 1] 3)) v104.heap.size #[.int .i64 1].toList) := Lib.hid (blk_new v104 #[.int .i64 1] 3)
              replace HB : Hid (Below Ws.heap.size Ws (v104.alloc (.cells #[.int .i64 1] 3))) := Lib.hid (HB.out.trans (hb.mono HB.out.size))
              clear hb
              generalize (v104.alloc (.cells #[.int .i64 1] 3)) = v105 at *
              generalize v104.heap.size = g26 at B26 ⊢
              refine hK.out _ _ (fun _ => HB.out) (fun hH => ?_)
              replace hH := hH (by decide)
              clear hK K
              (try simp only [Act.put, List.getElem_toArray, List.getElem_cons_succ, List.getElem_cons_zero, List.setIfInBounds_toArray, List.set_cons_zero, List.set_cons_succ])
              refine wpAnyZ_takeS (i := 28) (v := ?_) rfl (by kernel_rfl) (by kernel_rfl) (by kernel_rfl) (by kernel_rfl) (fun _ _ _ h => h) (gives_value (by rfl) ?_) (by assumption) ?_
              rotate_left
              · intro w hSw
                go_simp
                (try with_reducible rfl)
              (try simp only [Act.put, List.getElem_toArray, List.getElem_cons_succ, List.getElem_cons_zero, List.setIfInBounds_toArray, List.set_cons_zero, List.set_cons_succ])
              refine wpAnyZ_one (i := 29) (by kernel_rfl) ?_
              refine zstep rfl (fun K hK => ?_)
              go_simp
              have hb : Below v105.heap.size v105 (v105.alloc (.cells #[.int .i64 3, .slice (some ⟨g26, 0, none⟩) 1 1, .slice (some ⟨g27, 0, none⟩) 1 1] 24)) := (Below.refl _ _).alloc (Nat.le_refl _) _
              replace B26 := Lib.hid (B26.out.below hb)
              replace B27 := Lib.hid (B27.out.below hb)
              replace B31 := Lib.hid (B31.out.below hb)
              have B29 : Hid (Blk (v105.alloc (.cells #[.int .i64 3, .slice (some ⟨g26, 0, none⟩) 1 1, .slice (some ⟨g27, 0, none⟩) 1 1] 24)) v105.heap.size #[.int .i64 3, .slice (some ⟨g26, 0, none⟩) 1 1, .slice (some ⟨g27, 0, none⟩) 1 1].toList) := Lib.hid (blk_new v105 #[.int .i64 3, .slice (some ⟨g26, 0, none⟩) 1 1, .slice (some ⟨g27, 0, none⟩) 1 1] 24)
              replace HB : Hid (Below Ws.heap.size Ws (v105.alloc (.cells #[.int .i64 3, .slice (some ⟨g26, 0, none⟩) 1 1, .slice (some ⟨g27, 0, none⟩) 1 1] 24))) := Lib.hid (HB.out.trans (hb.mono HB.out.size))
              clear hb
              generalize (v105.alloc (.cells #[.int .i64 3, .slice (some ⟨g26, 0, none⟩) 1 1, .slice (some ⟨g27, 0, none⟩) 1 1] 24)) = v106 at *
              generalize v105.heap.size = g29 at B29 ⊢
              refine hK.out _ _ (fun _ => HB.out) (fun hH => ?_)
              replace hH := hH (by decide)
              clear hK K
              (try simp only [Act.put, List.getElem_toArray, List.getElem_cons_succ, List.getElem_cons_zero, List.setIfInBounds_toArray, List.set_cons_zero, List.set_cons_succ])
              refine wpAnyZ_takeS (i := 32) (v := ?_) rfl (by kernel_rfl) (by kernel_rfl) (by kernel_rfl) (by kernel_rfl) (fun _ _ _ h => h) (gives_value (by rfl) ?_) (by assumption) ?_
              rotate_left
              · intro w hSw
                go_simp
                (try with_reducible rfl)
              (try simp only [Act.put, List.getElem_toArray, List.getElem_cons_succ, List.getElem_cons_zero, List.setIfInBounds_toArray, List.set_cons_zero, List.set_cons_succ])
              refine wpAnyZ_one (i := 33) (by kernel_rfl) ?_
              refine zstep rfl (fun K hK => ?_)
              have KX := Lib.hid (empty_any (some ⟨g29, 0, none⟩) none (some ⟨g31, 0, none⟩) 1 0 1 ⟨[⟨3, .slice (some ⟨g26, 0, none⟩) 1 1, .slice (some ⟨g27, 0, none⟩) 1 1, [1], [1]⟩], [], [⟨1, 2, 2⟩]⟩ v106 ⟨⟨rows_blk (l := [⟨3, .slice (some ⟨g26, 0, none⟩) 1 1, .slice (some ⟨g27, 0, none⟩) 1 1, [1], [1]⟩]) B29.out turn_len, fun t ht => by
                obtain rfl := List.mem_singleton.1 ht
                exact ⟨recs_blk (l := [1]) B26.out, recs_blk (l := [1]) B27.out⟩⟩, rows_nil, rows_blk (l := ([⟨1, 2, 2⟩] : List Hold)) B31.out hold_len, by simp, by simp, by simp, fun t ht => by
                obtain rfl := List.mem_singleton.1 ht
                simp⟩)
              rw [form_e3] at KX
              go_simp
              refine KX.out.mono ?_
              rintro e v107 ⟨rfl, hb⟩
              replace B26 := Lib.hid (B26.out.below hb)
              replace B27 := Lib.hid (B27.out.below hb)
              replace B29 := Lib.hid (B29.out.below hb)
              replace B31 := Lib.hid (B31.out.below hb)
              replace HB : Hid (Below Ws.heap.size Ws v107) := Lib.hid (HB.out.trans (hb.mono HB.out.size))
              clear hb KX
              refine hK.out _ _ (fun _ => HB.out) (fun hH => ?_)
              replace hH := hH (by decide)
              clear hK K
              (try simp only [Act.put, List.getElem_toArray, List.getElem_cons_succ, List.getElem_cons_zero, List.setIfInBounds_toArray, List.set_cons_zero, List.set_cons_succ])
              refine wpAnyZ_takeS (i := 34) (v := ?_) rfl (by kernel_rfl) (by kernel_rfl) (by kernel_rfl) (by kernel_rfl) (fun _ _ _ h => h) (gives_value (by rfl) ?_) (by assumption) ?_
              rotate_left
              · intro w hSw
                go_simp
                (try with_reducible rfl)
              (try simp only [Act.put, List.getElem_toArray, List.getElem_cons_succ, List.getElem_cons_zero, List.setIfInBounds_toArray, List.set_cons_zero, List.set_cons_succ])
              refine wpAnyZ_takeS (i := 35) (v := ?_) rfl (by kernel_rfl) (by kernel_rfl) (by kernel_rfl) (by kernel_rfl) (fun _ _ _ h => h) (gives_value (by rfl) ?_) (by assumption) ?_
              rotate_left
              · intro w hSw
                go_simp
                (try with_reducible rfl)
              (try simp only [Act.put, List.getElem_toArray, List.getElem_cons_succ, List.getElem_cons_zero, List.setIfInBounds_toArray, List.set_cons_zero, List.set_cons_succ])
              refine wpAnyZ_one (i := 36) (by kernel_rfl) ?_
              refine zstep rfl (fun K hK => ?_)
              go_simp
              refine (wakes7_any _).mono ?_
              rintro e v108 ⟨rfl, hb⟩
              replace B26 := Lib.hid (B26.out.below hb)
              replace B27 := Lib.hid (B27.out.below hb)
              replace B29 := Lib.hid (B29.out.below hb)
              replace B31 := Lib.hid (B31.out.below hb)
              replace HB : Hid (Below Ws.heap.size Ws v108) := Lib.hid (HB.out.trans (hb.mono HB.out.size))
              clear hb 
              refine hK.out _ _ (fun _ => HB.out) (fun hH => ?_)
              replace hH := hH (by decide)
              clear hK K
              (try simp only [Act.put, List.getElem_toArray, List.getElem_cons_succ, List.getElem_cons_zero, List.setIfInBounds_toArray, List.set_cons_zero, List.set_cons_succ])
              refine wpAnyZ_takeS (i := 37) (v := ?_) rfl (by kernel_rfl) (by kernel_rfl) (by kernel_rfl) (by kernel_rfl) (fun _ _ _ h => h) (gives_value (by rfl) ?_) (by assumption) ?_
              rotate_left
              · intro w hSw
                go_simp
                (try with_reducible rfl)
              (try simp only [Act.put, List.getElem_toArray, List.getElem_cons_succ, List.getElem_cons_zero, List.setIfInBounds_toArray, List.set_cons_zero, List.set_cons_succ])
              refine wpAnyZ_one (i := 38) (by kernel_rfl) ?_
              refine zstep rfl (fun K hK => ?_)
              go_simp
              refine hK.out _ _ (fun _ => HB.out) (fun hH => ?_)
              replace hH := hH (by decide)
              clear hK K
              (try simp only [Act.put, List.getElem_toArray, List.getElem_cons_succ, List.getElem_cons_zero, List.setIfInBounds_toArray, List.set_cons_zero, List.set_cons_succ])
              refine wpAnyZ_done (by kernel_rfl) ?_ _
              clear hH
              have HBf : Hid (Below w.heap.size w v108) := Lib.hid (HBw.out.trans (HB.out.mono HBw.out.size))
              go_wp2
              go_ret
              exact ⟨rfl, HBf.out⟩
end Go.Proofs.Ytbellnanikaffaa
