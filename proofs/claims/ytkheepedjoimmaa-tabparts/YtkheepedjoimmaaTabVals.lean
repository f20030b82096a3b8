/- Heads and tails as values; the variables of one call (stage 5). -/
import Derived.Test.YtkheepedjoimmaaTabBounds
import Derived.Test.YtkheepedjoimmaaTripViews
import Derived.Test.YtkheepedjoimmaaBeginsMem
namespace Go.Proofs.Ytkheepedjoimmaa
open Go.RowKit
set_option linter.unusedSimpArgs false

def headV : Option HeadP → Value
  | none => .agg #[.bool false, .int .i64 0, .int .i64 0, .int .i64 0, .int .u32 0, .int .u32 0, .int .i64 0]
  | some h => .agg #[.bool true, .int .i64 h.last, .int .i64 h.leave, .int .i64 h.load, .int .u32 (h.opn : Nat), .int .u32 (h.set : Nat), .int .i64 h.cost]
/-- the call's own variables: the problem, the head, the result -/
structure ExS (w W : World) (I H R : Nat) (A1 A2 A3 A4 : Option Addr) (c1 c2 c3 c4 : Nat) (i : Prob) (hc : List Value) (zc : List Value) : Prop where
  below : Below w.heap.size w W
  box : Box W I A1 A2 A3 A4 c1 c2 c3 c4 i
  hb : Blk W H hc
  rb : Blk W R zc
theorem ExS.on {w W W' : World} {I H R : Nat} {A1 A2 A3 A4 : Option Addr} {c1 c2 c3 c4 : Nat} {i : Prob} {hc zc : List Value} (E : ExS w W I H R A1 A2 A3 A4 c1 c2 c3 c4 i hc zc) (hb : Below W.heap.size W W') : ExS w W' I H R A1 A2 A3 A4 c1 c2 c3 c4 i hc zc :=
  ⟨E.below.trans (hb.mono E.below.size), E.box.below hb, E.hb.below hb, E.rb.below hb⟩
structure FinS (w W : World) (R : Nat) (zc : List Value) : Prop where
  below : Below w.heap.size w W
  rb : Blk W R zc
theorem box7 {W : World} {Q : Nat} {a b c d e f g : Value} (h : Blk W Q [a, b, c, d, e, f, g]) (a' b' c' d' e' f' g' : Value) : Blk (((((((W.setCell ⟨Q, 0, none⟩ a').setCell ⟨Q, 1, none⟩ b').setCell ⟨Q, 2, none⟩ c').setCell ⟨Q, 3, none⟩ d').setCell ⟨Q, 4, none⟩ e').setCell ⟨Q, 5, none⟩ f').setCell ⟨Q, 6, none⟩ g') Q [a', b', c', d', e', f', g'] :=
  ((((((h.set (k := 0) (by simp) a').set (k := 1) (by simp) b').set (k := 2) (by simp) c').set (k := 3) (by simp) d').set (k := 4) (by simp) e').set (k := 5) (by simp) f').set (k := 6) (by simp) g'
theorem below7 {B : Nat} {w W : World} (h : Below B w W) {Q : Nat} (hQ : B ≤ Q) (a' b' c' d' e' f' g' : Value) : Below B w (((((((W.setCell ⟨Q, 0, none⟩ a').setCell ⟨Q, 1, none⟩ b').setCell ⟨Q, 2, none⟩ c').setCell ⟨Q, 3, none⟩ d').setCell ⟨Q, 4, none⟩ e').setCell ⟨Q, 5, none⟩ f').setCell ⟨Q, 6, none⟩ g') :=
  ((((((h.setCell (p := ⟨Q, 0, none⟩) hQ a').setCell (p := ⟨Q, 1, none⟩) hQ b').setCell (p := ⟨Q, 2, none⟩) hQ c').setCell (p := ⟨Q, 3, none⟩) hQ d').setCell (p := ⟨Q, 4, none⟩) hQ e').setCell (p := ⟨Q, 5, none⟩) hQ f').setCell (p := ⟨Q, 6, none⟩) hQ g'
def tailV : Option TailP → Value
  | none => .agg #[.bool false, .int .i64 0, .int .i64 0, .int .i64 0, .int .i64 0, .int .u32 0, .int .u32 0, .int .i64 0]
  | some t => .agg #[.bool true, .int .i64 t.first, .int .i64 t.late, .int .i64 t.low, .int .i64 t.high, .int .u32 (t.need : Nat), .int .u32 (t.set : Nat), .int .i64 t.cost]
theorem box8 {W : World} {Q : Nat} {a b c d e f g h : Value} (H : Blk W Q [a, b, c, d, e, f, g, h]) (a' b' c' d' e' f' g' h' : Value) : Blk ((((((((W.setCell ⟨Q, 0, none⟩ a').setCell ⟨Q, 1, none⟩ b').setCell ⟨Q, 2, none⟩ c').setCell ⟨Q, 3, none⟩ d').setCell ⟨Q, 4, none⟩ e').setCell ⟨Q, 5, none⟩ f').setCell ⟨Q, 6, none⟩ g').setCell ⟨Q, 7, none⟩ h') Q [a', b', c', d', e', f', g', h'] :=
  (((((((H.set (k := 0) (by simp) a').set (k := 1) (by simp) b').set (k := 2) (by simp) c').set (k := 3) (by simp) d').set (k := 4) (by simp) e').set (k := 5) (by simp) f').set (k := 6) (by simp) g').set (k := 7) (by simp) h'
theorem below8 {B : Nat} {w W : World} (H : Below B w W) {Q : Nat} (hQ : B ≤ Q) (a' b' c' d' e' f' g' h' : Value) : Below B w ((((((((W.setCell ⟨Q, 0, none⟩ a').setCell ⟨Q, 1, none⟩ b').setCell ⟨Q, 2, none⟩ c').setCell ⟨Q, 3, none⟩ d').setCell ⟨Q, 4, none⟩ e').setCell ⟨Q, 5, none⟩ f').setCell ⟨Q, 6, none⟩ g').setCell ⟨Q, 7, none⟩ h') :=
  (below7 H hQ a' b' c' d' e' f' g').setCell (p := ⟨Q, 7, none⟩) hQ h'
/-- bounds of a head -/
structure HB (i : Prob) (h : HeadP) : Prop where
  last : 0 ≤ h.last ∧ h.last ≤ i.stops.length
  leave : 0 ≤ h.leave ∧ h.leave ≤ 2000
  load : 0 ≤ h.load ∧ h.load ≤ 60
  opn : h.opn < 2048
  set : h.set < 2048
  cost : 0 ≤ h.cost ∧ h.cost ≤ 1000000
/-- bounds of a tail -/
structure TBd (i : Prob) (t : TailP) : Prop where
  first : 0 ≤ t.first ∧ t.first ≤ i.stops.length
  late : -1000000 ≤ t.late ∧ t.late ≤ 1000000
  low : -1000000 ≤ t.low ∧ t.low ≤ 0
  high : 0 ≤ t.high ∧ t.high ≤ 1000000
  need : t.need < 2048
  set : t.set < 2048
  cost : 0 ≤ t.cost ∧ t.cost ≤ 1000000
def headC : Option HeadP → List Value
  | none => #[.bool false, .int .i64 0, .int .i64 0, .int .i64 0, .int .u32 0, .int .u32 0, .int .i64 0].toList
  | some h => #[.bool true, .int .i64 h.last, .int .i64 h.leave, .int .i64 h.load, .int .u32 (h.opn : Nat), .int .u32 (h.set : Nat), .int .i64 h.cost].toList
theorem headC_len (o : Option HeadP) : (headC o).length = 7 := by cases o <;> rfl
theorem flat_len {f : Nat → List Value} {m : Nat} (hf : ∀ k, (f k).length = m) : ∀ n, ((List.range n).flatMap f).length = n * m
  | 0 => by simp
  | n + 1 => by rw [List.range_succ, List.flatMap_append, List.length_append, flat_len hf n]; simp [hf, Nat.succ_mul]
theorem flat_at {f : Nat → List Value} {m : Nat} (hf : ∀ k, (f k).length = m) : ∀ {n k j : Nat}, k < n → j < m → ((List.range n).flatMap f)[k * m + j]? = (f k)[j]?
  | n + 1, k, j, hk, hj => by
    rw [List.range_succ, List.flatMap_append]
    have hl := flat_len hf n
    by_cases e : k < n
    · have : (k + 1) * m ≤ n * m := Nat.mul_le_mul_right m e
      rw [Nat.succ_mul] at this
      rw [List.getElem?_append_left (by omega), flat_at hf e hj]
    · obtain rfl : k = n := by omega
      rw [List.getElem?_append_right (by omega), hl]
      simp
def headsC (i : Prob) (c : Int) (l : List Int) (n : Nat) : List Value := (List.range n).flatMap fun k => headC (headL i c (l.take k))
theorem headsC_succ (i : Prob) (c : Int) (l : List Int) (n : Nat) : headsC i c l (n + 1) = headsC i c l n ++ headC (headL i c (l.take n)) := by unfold headsC; rw [List.range_succ, List.flatMap_append]; simp
theorem own_new {w : World} {B : Nat} {T : TypeId} {m : Nat} {xs : List Value} (hx : xs.length = m) (hB : B ≤ w.heap.size) : (w.alloc (.cells xs.toArray T)).ownsRow B T m (.slice (some ⟨w.heap.size, 0, none⟩) 1 1) 1 xs := by
  subst hx
  refine ⟨by omega, .inr ⟨w.heap.size, 1, xs.toArray, rfl, hB, by unfold World.alloc; simp, Nat.le_refl _, (by decide : 1 ≤ maxLen), by simp, ?_⟩⟩
  rw [Nat.one_mul, List.take_of_length_le (by simp)]
theorem HBn.hb {i : Prob} {k : Nat} {h : HeadP} (H : HBn i k h) (hk : k ≤ 1000) : HB i h := ⟨H.last, H.leave, H.load, H.opn, H.set, by have := H.cost; omega⟩
end Go.Proofs.Ytkheepedjoimmaa
