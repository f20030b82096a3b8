/- draymankeep.Same of numbers that are the same; draymanlaw04.Same, wakes. -/
import Derived.Test.YtkheepedjoimmaaTripEval
import Derived.Laws.StructEq
namespace Go.Proofs.Ytkheepedjoimmaa
open Go.RowKit
set_option linter.unusedSimpArgs false

theorem Recs.drewN {α : Type} {W : World} {c : Nat} {g : α → Nat → Int} {v : Value} {l : List α} (h : Recs W c g v l) (n : Nat) : Recs (W.drewN n) c g v l := h.below (below_draws' (Below.refl _ _) n)

def wakeProb : Prob := ⟨[⟨0, 2, 5⟩], [], [], [[0]]⟩
theorem wake_lies {w : World} {S : Nat} (h0 : Blk w S (ints [0, 2, 5])) (h1 : Blk w (S + 1) (ints [0])) (h2 : Blk w (S + 1 + 1) [.slice (some ⟨S + 1, 0, none⟩) 1 1]) :
    Lies w (.agg #[.slice (some ⟨S, 0, none⟩) 1 1, .slice none 0 0, .slice none 0 0, .slice (some ⟨S + 1 + 1, 0, none⟩) 1 1]) wakeProb :=
  ⟨_, _, _, _, rfl, h0.car _, Recs.nil, Recs.nil, h2.trav [[0]] 1 fun k hk => by
    match k, hk with
    | 0, _ => exact ⟨_, rfl, h1.recs 1 num_ [0] 1 fun k hk j hj => by
        match k, hk, j, hj with
        | 0, _, 0, _ => rfl⟩⟩
/-- a slice of numbers, as an append reads it -/
theorem Recs.reads {w : World} {A : Option Addr} {cap : Nat} {r : List Int} (h : Recs w 1 num_ (.slice A r.length cap) r) : Reads w w.heap.size 1 A r.length (ints r) := by
  obtain ⟨A', cap', e, hc⟩ := h.num
  injection e with e1 _ e3
  subst e1 e3
  refine ⟨by simp [ints], fun hpos => ?_⟩
  obtain ⟨B, o, rfl, hB, _⟩ := hc 0 hpos
  refine ⟨_, rfl, hB, fun j u hu => ?_⟩
  simp only [ints, List.getElem?_map, Option.map_eq_some_iff] at hu
  obtain ⟨y, hy, rfl⟩ := hu
  obtain ⟨hj, rfl⟩ := List.getElem?_eq_some_iff.1 hy
  obtain ⟨B', o', e', _, hcell⟩ := hc j hj
  injection e' with e'
  injection e' with e1 e2 _
  subst e1 e2
  have ha : (⟨B, o, none⟩ : Addr).add j = ⟨B, o + j, none⟩ := by unfold Addr.add; split <;> simp_all
  rw [ha]
  exact hcell
end Go.Proofs.Ytkheepedjoimmaa
