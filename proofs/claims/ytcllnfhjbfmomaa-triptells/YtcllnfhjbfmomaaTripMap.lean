/- A map of the places of stops, as a call makes it. -/
import Derived.Test.YtcllnfhjbfmomaaTripTwo
import Derived.Test.YtcllnfhjbfmomaaPairsPlain
import Derived.RowKit3
import Derived.Maps.OwnSet
namespace Go.Proofs.Ytcllnfhjbfmomaa
open Go.RowKit Go.Maps
set_option linter.unusedSimpArgs false
set_option maxRecDepth 100000

def pos (l : List Int) (off : Nat) (x : Int) : Int := if x ∈ l then ((l.idxOf x : Nat) : Int) + off else 0
structure Places (D : DataW Unit) (l : List Int) (off : Nat) : Prop where
  at_ : ∀ x : Int, D.atKey (.int .i64 x) (.lit (.int .i64 0)) = .lit (.int .i64 (pos l off x))
  has_ : ∀ x : Int, Maps.has D (.int .i64 x) = l.contains x
theorem places_start (off : Nat) : Places (.map []) [] off := ⟨fun x => by simp [pos]; rfl, fun _ => rfl⟩
theorem pos_snoc_same {l : List Int} {off : Nat} {s : Int} (h : s ∉ l) : pos (l ++ [s]) off s = (l.length : Int) + off := by
  unfold pos
  rw [if_pos (by simp), List.idxOf_append, if_neg h]
  simp
theorem pos_snoc_other {l : List Int} {off : Nat} {s x : Int} (h : x ≠ s) : pos (l ++ [s]) off x = pos l off x := by
  unfold pos
  by_cases hx : x ∈ l
  · rw [if_pos (by simp [hx]), if_pos hx, List.idxOf_append, if_pos hx]
  · rw [if_neg (by simp [hx, h]), if_neg hx]
theorem Places.put {D : DataW Unit} {l : List Int} {off : Nat} (h : Places D l off) (hD : IsMap D) {s : Int} (hs : s ∉ l) : Places (D.put (.int .i64 s) (.lit (.int .i64 ((l.length : Int) + off)))) (l ++ [s]) off := by
  refine ⟨fun x => ?_, fun x => ?_⟩
  · by_cases e : x = s
    · subst e
      rw [atKey_put_same hD (by simp [WideAt.IsKeyLit]), pos_snoc_same hs]
    · rw [atKey_put_other (fun h => e (Lit.int.inj h).2), h.at_ x, pos_snoc_other e]
  · by_cases e : x = s
    · subst e
      rw [has_put_same hD (by simp [WideAt.IsKeyLit])]
      simp
    · rw [has_put_other (fun h => e (Lit.int.inj h).2), h.has_ x]
      simp [e]
theorem key_int : Keyed Try.prog 3 := int_keyed Try.underlying3
theorem zero_int (w : World) : (zeroValue 3).run Try.prog w = .ok (.int .i64 0) w := by kernel_rfl
theorem wf_in {x : Int} (h1 : -1000000 ≤ x) (h2 : x ≤ 1000000) : (Lit.int .i64 x).wf = true := WalkArith.wf_i64 (by omega)
theorem look_pos {D : DataW Unit} {l : List Int} {off : Nat} {wr : World} {B n : Nat} (hown : wr.ownsMap Try.prog 3 (plainElem Try.prog 3) B n D) (h : Places D l off) {x : Int} (hw : (Lit.int .i64 x).wf = true) :
    (Instr.lookup 54 (.map (some B)) (.int .i64 x) false).run Try.prog wr = .ok (.int .i64 (pos l off x)) wr := by
  obtain ⟨c, hrun, hat, _⟩ := hown.lookup_int key_int Try.underlying54 Try.underlying3 (zero_int wr) (keyOf_int_mk Try.underlying3 hw)
  rw [h.at_ x] at hat
  rw [hrun]
  injection hat with hat
  injection hat with _ hat
  rw [hat]
theorem look_ok {D : DataW Unit} {l : List Int} {off : Nat} {wr : World} {B n : Nat} (hown : wr.ownsMap Try.prog 3 (plainElem Try.prog 3) B n D) (h : Places D l off) {x : Int} (hw : (Lit.int .i64 x).wf = true) :
    (Instr.lookup 54 (.map (some B)) (.int .i64 x) true).run Try.prog wr = .ok (.tuple #[.int .i64 (pos l off x), .bool (l.contains x)]) wr := by
  obtain ⟨v, ps, hrun, hv⟩ := hown.look_ok key_int Try.underlying54 (zero_int wr) (plainElem_int Try.underlying3 (by decide)) (keyOf_int_mk Try.underlying3 hw)
  obtain ⟨c, rfl, hc, _⟩ := plainElem_int_inv Try.underlying3 hv
  have hat := congrArg Prod.fst hc
  simp only at hat
  rw [h.at_ x] at hat
  injection hat with hat
  injection hat with _ hat
  rw [hrun, h.has_ x, hat]
/-- of a route that can be driven: the pairs, by places -/
theorem eval_on {i : Prob} {c : Int} {l : List Int} {t : TripR} (hok : probOk i = true) (h : evalL i c l = some t) : l.Nodup ∧ PairsOn i.pairs l := by
  obtain ⟨_, h2, h3, _⟩ := eval_some h
  have hn := ((nodupL_iff l []).1 h2).1
  obtain ⟨h4, h5⟩ := pairs_of hok
  exact ⟨hn, (pairsL_on h4 h5 hn).1 h3⟩
theorem pos_pair {l : List Int} {p : Pair} (h : (p.a ∈ l ↔ p.b ∈ l) ∧ (p.a ∈ l → l.idxOf p.a < l.idxOf p.b)) : (pos l 1 p.a = 0 ∧ pos l 1 p.b = 0) ∨ (0 < pos l 1 p.a ∧ 0 < pos l 1 p.b ∧ pos l 1 p.a < pos l 1 p.b) := by
  unfold pos
  by_cases ha : p.a ∈ l
  · rw [if_pos ha, if_pos (h.1.1 ha)]
    have := h.2 ha
    omega
  · rw [if_neg ha, if_neg (fun hb => ha (h.1.2 hb))]
    exact .inl ⟨rfl, rfl⟩
theorem pos_le (l : List Int) (off : Nat) (x : Int) : 0 ≤ pos l off x ∧ pos l off x ≤ (l.length : Int) + off := by
  unfold pos
  split
  · next h => have := List.idxOf_lt_length_of_mem h; omega
  · omega
def sumD (i : Prob) : List Int → Int
  | [] => 0
  | s :: l => (stopAt i s).d + sumD i l
theorem sumD_drop {i : Prob} {l : List Int} {k : Nat} (h : k < l.length) : sumD i (l.drop k) = (stopAt i l[k]).d + sumD i (l.drop (k + 1)) := by rw [drop_at h]; rfl
theorem drive_last {i : Prob} {c : Car} : ∀ {r : List Int} {last left ld : Int} {d : Drive}, driveL i c last left ld r = some d → d.load.getLastD ld = ld + sumD i r
  | [], last, left, ld, d, h => by
    simp only [driveL] at h
    split at h
    · cases h
    · cases h; simp [sumD]
  | s :: l, last, left, ld, d, h => by
    simp only [driveL] at h
    split at h
    · cases h
    · rw [Option.map_eq_some_iff] at h
      obtain ⟨d', h1, rfl⟩ := h
      have := drive_last h1
      simp only [Drive.more, List.cons_append, List.nil_append, List.getLastD_cons, sumD]
      rw [this]; omega
theorem pair_zero {st : List Stop} : ∀ {l : List Pair} {seen : List Int}, pairsFrom st seen l = true → ∀ p ∈ l, demand st p.b = - demand st p.a
  | [], _, _, p, hp => by simp at hp
  | q :: l, seen, h, p, hp => by
    simp only [pairsFrom, Bool.and_eq_true] at h
    rcases List.mem_cons.1 hp with rfl | hp
    · have h1 := h.1
      simp only [pairOk, Bool.and_eq_true, decide_eq_true_eq] at h1
      exact h1.2.2
    · exact pair_zero h.2 p hp
theorem demand_stop (i : Prob) (x : Int) : demand i.stops x = (stopAt i x).d := by
  unfold demand stopAt
  cases i.stops[(x - 1).toNat]? <;> rfl
end Go.Proofs.Ytcllnfhjbfmomaa
