/- draymanlaw04.hand: the problem by hand, in new memory. -/
import Derived.Test.YtcllnfhjbfmomaaTripSmall
namespace Go.Proofs.Ytcllnfhjbfmomaa
open Go.RowKit
set_option linter.unusedSimpArgs false

def handProb : Prob := ⟨[⟨6, 10, 60⟩, ⟨3, 0, 30⟩], [⟨3, 0, 40, 2⟩, ⟨-1, 30, 35, 0⟩, ⟨4, 0, 100, 5⟩, ⟨-4, 20, 100, 0⟩], [⟨3, 4⟩], [[0, 4, 6, 8, 3], [5, 0, 2, 9, 1], [7, 3, 0, 2, 2], [1, 1, 1, 0, 5], [2, 2, 2, 2, 0]]⟩
theorem hand_ok : probOk handProb = true := by decide
def slc (B n : Nat) : Value := .slice (some ⟨B, 0, none⟩) n n
theorem hand_lies {W : World} {S : Nat} (hc : Blk W (S + 1) (ints [6, 10, 60, 3, 0, 30])) (hs : Blk W (S + 1 + 1) (ints [3, 0, 40, 2, -1, 30, 35, 0, 4, 0, 100, 5, -4, 20, 100, 0])) (hp : Blk W (S + 1 + 1 + 1) (ints [3, 4]))
    (h0 : Blk W (S + 1 + 1 + 1 + 1) (ints [0, 4, 6, 8, 3])) (h1 : Blk W (S + 1 + 1 + 1 + 1 + 1) (ints [5, 0, 2, 9, 1])) (h2 : Blk W (S + 1 + 1 + 1 + 1 + 1 + 1) (ints [7, 3, 0, 2, 2])) (h3 : Blk W (S + 1 + 1 + 1 + 1 + 1 + 1 + 1) (ints [1, 1, 1, 0, 5])) (h4 : Blk W (S + 1 + 1 + 1 + 1 + 1 + 1 + 1 + 1) (ints [2, 2, 2, 2, 0]))
    (ht : Blk W (S + 1 + 1 + 1 + 1 + 1 + 1 + 1 + 1 + 1) [slc (S + 1 + 1 + 1 + 1) 5, slc (S + 1 + 1 + 1 + 1 + 1) 5, slc (S + 1 + 1 + 1 + 1 + 1 + 1) 5, slc (S + 1 + 1 + 1 + 1 + 1 + 1 + 1) 5, slc (S + 1 + 1 + 1 + 1 + 1 + 1 + 1 + 1) 5]) :
    Lies W (.agg #[slc (S + 1) 2, slc (S + 1 + 1) 4, slc (S + 1 + 1 + 1) 1, slc (S + 1 + 1 + 1 + 1 + 1 + 1 + 1 + 1 + 1) 5]) handProb := by
  have row : ∀ {B : Nat} {l : List Int}, l.length = 5 → Blk W B (ints l) → Recs W 1 num_ (slc B 5) l := fun {B l} hl h => by
    have := h.recs 1 num_ l 5 (fun k hk j hj => by
      obtain rfl : j = 0 := by omega
      simp [ints, num_, hk])
    rw [hl] at this
    exact this
  refine ⟨_, _, _, _, rfl, ?_, ?_, hp.pair 1, ?_⟩
  · exact hc.recs 3 Car.at_ handProb.cars 2 (fun k hk j hj => by
      match k, hk, j, hj with
      | 0, _, 0, _ | 0, _, 1, _ | 0, _, 2, _ | 1, _, 0, _ | 1, _, 1, _ | 1, _, 2, _ => rfl)
  · exact hs.recs 4 Stop.at_ handProb.stops 4 (fun k hk j hj => by
      match k, hk, j, hj with
      | 0, _, 0, _ | 0, _, 1, _ | 0, _, 2, _ | 0, _, 3, _ | 1, _, 0, _ | 1, _, 1, _ | 1, _, 2, _ | 1, _, 3, _ | 2, _, 0, _ | 2, _, 1, _ | 2, _, 2, _ | 2, _, 3, _ | 3, _, 0, _ | 3, _, 1, _ | 3, _, 2, _ | 3, _, 3, _ => rfl)
  · exact ht.trav handProb.travel 5 (fun k hk => by
      match k, hk with
      | 0, _ => exact ⟨_, rfl, row rfl h0⟩
      | 1, _ => exact ⟨_, rfl, row rfl h1⟩
      | 2, _ => exact ⟨_, rfl, row rfl h2⟩
      | 3, _ => exact ⟨_, rfl, row rfl h3⟩
      | 4, _ => exact ⟨_, rfl, row rfl h4⟩)
/-- the problem by hand, its four rows -/
def HandEnd (w : World) (e : Ending) (w' : World) : Prop := ∃ B1 B2 B3 B4 : Nat, e = .returned (.agg #[.slice (some ⟨B1, 0, none⟩) 2 2, .slice (some ⟨B2, 0, none⟩) 4 4, .slice (some ⟨B3, 0, none⟩) 1 1, .slice (some ⟨B4, 0, none⟩) 5 5]) ∧
  Lies w' (.agg #[.slice (some ⟨B1, 0, none⟩) 2 2, .slice (some ⟨B2, 0, none⟩) 4 4, .slice (some ⟨B3, 0, none⟩) 1 1, .slice (some ⟨B4, 0, none⟩) 5 5]) handProb ∧ Below w.heap.size w w'
set_option maxRecDepth 100000 in
set_option maxHeartbeats 4000000 in
theorem hand_any (w : World) : Calls Try.prog 10 #[] w (HandEnd w) := by
  go_enter Try.func10, Try.ntmps10
  go_wp2
  refine bodyPost_ret (v := .agg #[slc (w.heap.size + 1) 2, slc (w.heap.size + 1 + 1) 4, slc (w.heap.size + 1 + 1 + 1) 1, slc (w.heap.size + 1 + 1 + 1 + 1 + 1 + 1 + 1 + 1 + 1) 5]) (by simp [results, Try.results10, go_sem, slc]) rfl ⟨_, _, _, _, rfl, hand_lies ?_ ?_ ?_ ?_ ?_ ?_ ?_ ?_ ?_, ?_⟩
  iterate 9 · repeat (first | exact blk_at _ _ (by simp) | refine Blk.alloc ?_ _)
  repeat (first | exact Below.refl _ _ | refine Below.alloc ?_ (by simp <;> omega) _)
end Go.Proofs.Ytcllnfhjbfmomaa
