/- Plain facts, no Go: how great the numbers of heads and tails become (stage 5). -/
import Derived.Test.YtkheepedjoimmaaTabMore
import Derived.Test.YtkheepedjoimmaaTabBits
namespace Go.Proofs.Ytkheepedjoimmaa

/-- bounds of a head of k stops -/
structure HBn (i : Prob) (k : Nat) (h : HeadP) : Prop where
  last : 0 ≤ h.last ∧ h.last ≤ i.stops.length
  leave : 0 ≤ h.leave ∧ h.leave ≤ 2000
  load : 0 ≤ h.load ∧ h.load ≤ 60
  opn : h.opn < 2048
  set : h.set < 2048
  cost : 0 ≤ h.cost ∧ h.cost ≤ 1000 * (k : Int)
structure TBn (i : Prob) (k : Nat) (t : TailP) : Prop where
  first : 0 ≤ t.first ∧ t.first ≤ i.stops.length
  late : 0 ≤ t.late ∧ t.late ≤ 1000
  low : -20 * (k : Int) ≤ t.low ∧ t.low ≤ 0
  high : 0 ≤ t.high ∧ t.high ≤ 20 * (k : Int)
  need : t.need < 2048
  set : t.set < 2048
  cost : 0 ≤ t.cost ∧ t.cost ≤ 1000 * (k : Int)
theorem opn_lt {i : Prob} (hf : Fine i) {O o : Nat} {s : Int} (hO : O < 2048) (hs : s ≤ 10) (h : opnP i O s = some o) : o < 2048 := by
  have hm := mate_bound hf s
  unfold opnP at h
  split at h
  · injection h with h; omega
  · split at h
    · injection h with h; subst h; exact Nat.or_lt_two_pow (n := 11) hO (digit_lt hs)
    · split at h
      · injection h with h; subst h; exact Nat.xor_lt_two_pow (n := 11) hO (digit_lt hm.2)
      · cases h
theorem need_lt {i : Prob} (hf : Fine i) {O o : Nat} {s : Int} (hO : O < 2048) (hs : s ≤ 10) (h : needP i O s = some o) : o < 2048 := by
  have hm := mate_bound hf s
  unfold needP at h
  split at h
  · injection h with h; omega
  · split at h
    · injection h with h; subst h; exact Nat.or_lt_two_pow (n := 11) hO (digit_lt hm.2)
    · split at h
      · injection h with h; subst h; exact Nat.xor_lt_two_pow (n := 11) hO (digit_lt hs)
      · cases h
theorem ext_hbn {i : Prob} (hf : Fine i) {c : Int} {k : Nat} {h g : HeadP} {s : Int} (H : HBn i k h) (hg : extendP i c h s = some g) : HBn i (k + 1) g := by
  obtain ⟨⟨a1, a2, a3, a4, a5⟩, o, ho, rfl⟩ := ext_some.1 hg
  have h1 := inB_iff.1 a1
  have h2 := hf.stops
  have h3 := stopAt_bounds hf s
  have h4 := carAt_bounds hf c
  have h5 := way_bounds hf h.last s
  have hc := H.cost
  refine ⟨by simp only; omega, ?_, by simp only; omega, opn_lt hf H.opn (by omega) ho, Nat.or_lt_two_pow (n := 11) H.set (digit_lt (by omega)), by simp only; omega⟩
  unfold beginP at a3 ⊢
  simp only
  omega
theorem bef_tbn {i : Prob} (hf : Fine i) {k : Nat} {t g : TailP} {s : Int} (H : TBn i k t) (hg : beforeP i s t = some g) : TBn i (k + 1) g := by
  obtain ⟨⟨a1, a2, a3⟩, n, hn, rfl⟩ := bef_some.1 hg
  have h1 := inB_iff.1 a1
  have h2 := hf.stops
  have h3 := stopAt_bounds hf s
  have h5 := way_bounds hf s t.first
  have hc := H.cost
  have hl := H.low
  have hh := H.high
  refine ⟨by simp only; omega, ?_, by simp only; omega, by simp only; omega, need_lt hf H.need (by omega) hn, Nat.or_lt_two_pow (n := 11) H.set (digit_lt (by omega)), by simp only; omega⟩
  unfold lateP at a3 ⊢
  simp only
  omega
theorem begin_hbn {i : Prob} (hf : Fine i) (c : Int) : HBn i 0 (beginH i c) := by
  have h4 := carAt_bounds hf c
  exact ⟨by simp [beginH], by simp only [beginH]; omega, by simp [beginH], by simp [beginH], by simp [beginH], by simp [beginH]⟩
theorem end_tbn {i : Prob} (hf : Fine i) {c : Int} (hc : inB c 0 (i.cars.length - 1) = true) : TBn i 0 (endT i c) := by
  have h1 := inB_iff.1 hc
  obtain ⟨cn, rfl⟩ : ∃ cn : Nat, c = (cn : Int) := ⟨c.toNat, by omega⟩
  have h2 := hf.carF _ (List.getElem_mem (show cn < i.cars.length by omega))
  have h3 := carAt_nat i (show cn < i.cars.length by omega)
  exact ⟨by simp [endT], by simp only [endT]; rw [h3]; omega, by simp [endT], by simp [endT], by simp [endT], by simp [endT], by simp [endT]⟩
theorem head_hbn {i : Prob} (hf : Fine i) {c : Int} {r : List Int} : ∀ {k : Nat} {h : HeadP}, k ≤ r.length → headL i c (r.take k) = some h → HBn i k h
  | 0, h, _, hh => by
    rw [List.take_zero] at hh
    injection hh with hh; subst hh
    exact begin_hbn hf c
  | k + 1, h, hk, hh => by
    rw [head_step (by omega)] at hh
    obtain ⟨g, h1, h2⟩ := Option.bind_eq_some_iff.1 hh
    exact ext_hbn hf (head_hbn hf (by omega) h1) h2
theorem tail_tbn {i : Prob} (hf : Fine i) {c : Int} (hc : inB c 0 (i.cars.length - 1) = true) : ∀ {l : List Int} {t : TailP}, tailL i c l = some t → TBn i l.length t
  | [], t, h => by injection h with h; subst h; exact end_tbn hf hc
  | s :: l, t, h => by
    obtain ⟨g, h1, h2⟩ := Option.bind_eq_some_iff.1 (show (tailL i c l).bind (fun t => beforeP i s t) = some t from h)
    exact bef_tbn hf (tail_tbn hf hc h1) h2
end Go.Proofs.Ytkheepedjoimmaa
