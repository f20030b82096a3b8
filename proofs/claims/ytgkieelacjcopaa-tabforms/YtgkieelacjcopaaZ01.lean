/- Plain facts, no Go: problems, and whether one may be. · How a problem lies in memory: rows of records of numbers, rows of rows. · Contracts of inst.within, rightCars, rightStops: what they answer of a problem in memory. · Contract of inst.rightTravel. · Contract of inst.rightPairs. · Contract of inst.Check. -/
import Derived.KernelRfl
import Derived.Below
import Derived.Lib.Hide
import Derived.Test.YtgkieelacjcopaaProg
import Derived.WalkKit
import Derived.WalkLawsBesides
import Derived.Outline
import Derived.Deep.QuietTactic
import Derived.BigQuiet
import Derived.Deep.RegionWith
namespace Go.Proofs.Ytgkieelacjcopaa

structure Car where
  c : Int
  s : Int
  e : Int
deriving DecidableEq
structure Stop where
  d : Int
  o : Int
  c : Int
  s : Int
deriving DecidableEq
structure Pair where
  a : Int
  b : Int
deriving DecidableEq
structure Prob where
  cars : List Car
  stops : List Stop
  pairs : List Pair
  travel : List (List Int)
deriving DecidableEq

def inB (n low high : Int) : Bool := decide (low ≤ n) && decide (n ≤ high)
theorem inB_iff {n low high : Int} : inB n low high = true ↔ low ≤ n ∧ n ≤ high := by simp [inB]
theorem inB_no {n low high : Int} : inB n low high = false ↔ n < low ∨ high < n := by
  cases h : inB n low high
  · simp; simp [inB] at h; omega
  · simp; rw [inB_iff] at h; omega
def carOk (x : Car) : Bool := inB x.c 0 60 && inB x.s 0 x.e && decide (x.e ≤ 1000)
def stopOk (x : Stop) : Bool := inB x.d (-20) 20 && inB x.s 0 1000 && inB x.o 0 x.c && decide (x.c ≤ 1000)
def carsOk (l : List Car) : Bool := inB l.length 1 3 && l.all carOk
def stopsOk (l : List Stop) : Bool := decide (l.length ≤ 10) && l.all stopOk
def demand (st : List Stop) (x : Int) : Int := ((st[(x - 1).toNat]?).map (·.d)).getD 0
def pairOk (st : List Stop) (seen : List Int) (p : Pair) : Bool :=
  inB p.a 1 st.length && !seen.contains p.a && (inB p.b 1 st.length && !(p.a :: seen).contains p.b) && (decide (0 ≤ demand st p.a) && decide (demand st p.b = - demand st p.a))
def pairsFrom (st : List Stop) : List Int → List Pair → Bool
  | _, [] => true
  | seen, p :: l => pairOk st seen p && pairsFrom st (p.b :: p.a :: seen) l
def rowOk (size : Nat) (from_ : Nat) (r : List Int) : Bool := decide (r.length = size) && (r[from_]?.getD 0 == 0) && r.all fun t => inB t 0 1000
def rowsFrom (size : Nat) : Nat → List (List Int) → Bool
  | _, [] => true
  | k, r :: l => rowOk size k r && rowsFrom size (k + 1) l
def travelOk (size : Nat) (l : List (List Int)) : Bool := decide (l.length = size) && rowsFrom size 0 l
def probOk (i : Prob) : Bool := carsOk i.cars && stopsOk i.stops && pairsFrom i.stops [] i.pairs && travelOk (i.stops.length + 1) i.travel

theorem stopsOk_at {l : List Stop} (h : stopsOk l = true) {k : Nat} (hk : k < l.length) : stopOk l[k] = true := by
  simp only [stopsOk, Bool.and_eq_true, List.all_eq_true] at h
  exact h.2 _ (List.getElem_mem _)
theorem stopOk_d {x : Stop} (h : stopOk x = true) : -20 ≤ x.d ∧ x.d ≤ 20 := by
  simp only [stopOk, Bool.and_eq_true, inB_iff] at h
  omega
theorem stopsOk_len {l : List Stop} (h : stopsOk l = true) : l.length ≤ 10 := by
  simp only [stopsOk, Bool.and_eq_true, decide_eq_true_eq] at h
  exact h.1
theorem demand_at {st : List Stop} {x : Int} (h1 : 1 ≤ x) (h2 : x ≤ st.length) : ∃ (k : Nat) (h : k < st.length), x = (k : Int) + 1 ∧ demand st x = st[k].d := by
  refine ⟨(x - 1).toNat, by omega, by omega, ?_⟩
  unfold demand
  rw [List.getElem?_eq_getElem (show (x - 1).toNat < st.length by omega)]
  rfl
/-- drop by one -/
theorem drop_at {α : Type} {l : List α} {k : Nat} (h : k < l.length) : l.drop k = l[k] :: l.drop (k + 1) := List.drop_eq_getElem_cons h
theorem all_drop {α : Type} {p : α → Bool} {l : List α} {k : Nat} (h : k < l.length) : (l.drop k).all p = (p l[k] && (l.drop (k + 1)).all p) := by rw [drop_at h, List.all_cons]
theorem rowsFrom_drop {size : Nat} {l : List (List Int)} {k : Nat} (h : k < l.length) : rowsFrom size k (l.drop k) = (rowOk size k l[k] && rowsFrom size (k + 1) (l.drop (k + 1))) := by rw [drop_at h]; rfl
theorem pairsFrom_drop {st : List Stop} {seen : List Int} {l : List Pair} {k : Nat} (h : k < l.length) : pairsFrom st seen (l.drop k) = (pairOk st seen l[k] && pairsFrom st (l[k].b :: l[k].a :: seen) (l.drop (k + 1))) := by rw [drop_at h]; rfl
theorem rowOk_at {size k : Nat} {r : List Int} (h : k < r.length) : rowOk size k r = (decide (r.length = size) && (r[k] == 0) && r.all fun t => inB t 0 1000) := by
  unfold rowOk; rw [List.getElem?_eq_getElem h]; rfl
theorem rowOk_size {size k : Nat} {r : List Int} (h : r.length ≠ size) : rowOk size k r = false := by simp [rowOk, h]
theorem demand_nat (st : List Stop) {k : Nat} (h : k < st.length) : demand st ((k : Int) + 1) = st[k].d := by
  unfold demand
  rw [show ((k : Int) + 1 - 1).toNat = k by omega, List.getElem?_eq_getElem h]
  rfl
theorem bool_no {b : Bool} (h : ¬ b = true) : b = false := by simpa using h
end Go.Proofs.Ytgkieelacjcopaa
namespace Go.Proofs.Ytgkieelacjcopaa
open Go.RowKit

def Car.at_ (x : Car) : Nat → Int | 0 => x.c | 1 => x.s | _ => x.e
def Stop.at_ (x : Stop) : Nat → Int | 0 => x.d | 1 => x.o | 2 => x.c | _ => x.s
def Pair.at_ (x : Pair) : Nat → Int | 0 => x.a | _ => x.b
def num_ (x : Int) : Nat → Int | _ => x

/-- a slice of records of c numbers each -/
def Recs {α : Type} (W : World) (c : Nat) (g : α → Nat → Int) (v : Value) (l : List α) : Prop :=
  ∃ A cap, v = .slice A l.length cap ∧ ∀ k (h : k < l.length), ∃ B o, A = some ⟨B, o, none⟩ ∧ B < W.heap.size ∧ ∀ j, j < c → W.cell? ⟨B, o + k * c + j, none⟩ = some (.int .i64 (g l[k] j))
/-- a slice of slices of numbers -/
def Trav (W : World) (v : Value) (l : List (List Int)) : Prop :=
  ∃ A cap, v = .slice A l.length cap ∧ ∀ k (h : k < l.length), ∃ B o u, A = some ⟨B, o, none⟩ ∧ B < W.heap.size ∧ W.cell? ⟨B, o + k, none⟩ = some u ∧ Recs W 1 num_ u l[k]
theorem Recs.below {α : Type} {W W' : World} {c : Nat} {g : α → Nat → Int} {v : Value} {l : List α} (h : Recs W c g v l) (hb : Below W.heap.size W W') : Recs W' c g v l := by
  obtain ⟨A, cap, rfl, h⟩ := h
  refine ⟨A, cap, rfl, fun k hk => ?_⟩
  obtain ⟨B, o, rfl, hB, hc⟩ := h k hk
  exact ⟨B, o, rfl, Nat.lt_of_lt_of_le hB hb.size, fun j hj => by rw [hb.cell hB]; exact hc j hj⟩
theorem Trav.below {W W' : World} {v : Value} {l : List (List Int)} (h : Trav W v l) (hb : Below W.heap.size W W') : Trav W' v l := by
  obtain ⟨A, cap, rfl, h⟩ := h
  refine ⟨A, cap, rfl, fun k hk => ?_⟩
  obtain ⟨B, o, u, rfl, hB, hc, hr⟩ := h k hk
  exact ⟨B, o, u, rfl, Nat.lt_of_lt_of_le hB hb.size, by rw [hb.cell hB]; exact hc, hr.below hb⟩
/-- a problem in memory -/
def Lies (W : World) (v : Value) (i : Prob) : Prop := ∃ vc vs vp vt, v = .agg #[vc, vs, vp, vt] ∧ Recs W 3 Car.at_ vc i.cars ∧ Recs W 4 Stop.at_ vs i.stops ∧ Recs W 2 Pair.at_ vp i.pairs ∧ Trav W vt i.travel
theorem Lies.below {W W' : World} {v : Value} {i : Prob} (h : Lies W v i) (hb : Below W.heap.size W W') : Lies W' v i := by
  obtain ⟨vc, vs, vp, vt, rfl, h1, h2, h3, h4⟩ := h
  exact ⟨vc, vs, vp, vt, rfl, h1.below hb, h2.below hb, h3.below hb, h4.below hb⟩
theorem below_draws' {B : Nat} {a w : World} (h : Below B a w) (n : Nat) : Below B a (w.drewN n) := ⟨h.os, h.tape, h.output, h.size, h.block⟩
end Go.Proofs.Ytgkieelacjcopaa
namespace Go.Proofs.Ytgkieelacjcopaa
open Go.RowKit

theorem within_yes (n low high : Int) (w : World) (h : inB n low high = true) :
    Calls Try.prog 55 #[.int .i64 n, .int .i64 low, .int .i64 high] w fun e w' => e = .returned (.bool true) ∧ w = w' := by
  obtain ⟨h1, h2⟩ := inB_iff.1 h
  clear h
  go_enter Try.func55, Try.ntmps55
  go_wp2
  go_ret
  exact ⟨rfl, rfl⟩
theorem within_no (n low high : Int) (w : World) (h : inB n low high = false) :
    Calls Try.prog 55 #[.int .i64 n, .int .i64 low, .int .i64 high] w fun e w' => e = .returned (.bool false) ∧ w = w' := by
  by_cases h1 : low ≤ n
  · have h2 : ¬ n ≤ high := by rcases inB_no.1 h with h | h <;> omega
    clear h
    go_enter Try.func55, Try.ntmps55
    go_wp2
    go_ret
    exact ⟨rfl, rfl⟩
  · clear h
    go_enter Try.func55, Try.ntmps55
    go_wp2
    go_ret
    exact ⟨rfl, rfl⟩
theorem inst_within_any (n low high : Int) (w : World) :
    Calls Try.prog 55 #[.int .i64 n, .int .i64 low, .int .i64 high] w fun e w' => e = .returned (.bool (inB n low high)) ∧ w = w' := by
  cases h : inB n low high
  · exact within_no n low high w h
  · exact within_yes n low high w h

set_option maxHeartbeats 1000000 in
theorem cars_any (v : Value) (l : List Car) (w : World) (hr : Recs w 3 Car.at_ v l) (hl : l.length ≤ 1099511627776) :
    Calls Try.prog 51 #[v] w fun e w' => e = .returned (.bool (carsOk l)) ∧ Below w.heap.size w w' := by
  obtain ⟨A, cap, rfl, hc⟩ := hr
  have HC := Lib.hid hc
  clear hc
  cases hn : inB l.length 1 3
  · have hf : carsOk l = false := by simp [carsOk, hn]
    rw [hf]
    have H1 := Lib.hid (fun W => within_no l.length 1 3 W hn)
    clear hf hn
    go_enter Try.func51, Try.ntmps51
    go_wp2_with (go_at_call 55; fail)
    (with_reducible refine (H1.out _).mono ?_); rintro e w' ⟨rfl, rfl⟩
    go_wp2
    go_ret
    exact ⟨rfl, Below.refl _ _⟩
  · have hf : carsOk l = l.all carOk := by simp [carsOk, hn]
    rw [hf]
    have H1 := Lib.hid (fun W => within_yes l.length 1 3 W hn)
    clear hf hn
    go_enter Try.func51, Try.ntmps51
    go_wp2_with (go_at_call 55; fail)
    (with_reducible refine (H1.out _).mono ?_); rintro e w' ⟨rfl, rfl⟩
    go_wp2
    go_loopw [11] (fun i wr => ∃ k : Nat, k ≤ l.length ∧ i = .int .i64 k ∧ l.all carOk = (l.drop k).all carOk ∧ Below w.heap.size w wr) (fun i _ => l.length - (intOf i).toNat)
    case atStart => exact ⟨0, Nat.zero_le _, rfl, rfl, Below.refl _ _⟩
    case round =>
      obtain ⟨k, hk, rfl, he, hb⟩ := hrel
      by_cases hlt : k < l.length
      · obtain ⟨B, o, rfl, hB, hcell⟩ := HC.out k hlt
        rw [all_drop hlt] at he
        have c0 : wr.cell? ⟨B, o + k * 3, none⟩ = some (.int .i64 l[k].c) := by rw [hb.cell hB]; exact hcell 0 (by omega)
        have c1 : wr.cell? ⟨B, o + k * 3 + 1, none⟩ = some (.int .i64 l[k].s) := by rw [hb.cell hB]; exact hcell 1 (by omega)
        have c2 : wr.cell? ⟨B, o + k * 3 + 2, none⟩ = some (.int .i64 l[k].e) := by rw [hb.cell hB]; exact hcell 2 (by omega)
        have HE := Lib.hid he
        have HB := Lib.hid hb
        clear he hb hcell
        generalize l[k] = x at *
        go_wp2
        all_goals first
          | (have hx : carOk x = true := by
               simp only [carOk, inB, Bool.and_eq_true, decide_eq_true_eq]; omega
             have HX := Lib.hid hx
             clear hx
             go_roundw
             case rel => exact ⟨k + 1, by omega, by go_num, by rw [HE.out, HX.out]; rfl, HB.out.alloc HB.out.size _⟩
             case measure => simp [intOf]; omega)
          | (have hx : carOk x = false := bool_no (by simp only [carOk, inB, Bool.and_eq_true, decide_eq_true_eq]; omega)
             have HX := Lib.hid hx
             clear hx
             go_ret
             exact ⟨by rw [HE.out, HX.out]; rfl, HB.out.alloc HB.out.size _⟩)
      · have : l.drop k = [] := List.drop_eq_nil_of_le (by omega)
        rw [this] at he
        have HE := Lib.hid he
        have HB := Lib.hid hb
        clear he hb this
        go_wp2
        go_ret
        exact ⟨by rw [HE.out]; rfl, HB.out⟩

set_option maxHeartbeats 1000000 in
theorem stops_any (v : Value) (l : List Stop) (w : World) (hr : Recs w 4 Stop.at_ v l) (hl : l.length ≤ 1099511627776) :
    Calls Try.prog 52 #[v] w fun e w' => e = .returned (.bool (stopsOk l)) ∧ Below w.heap.size w w' := by
  obtain ⟨A, cap, rfl, hc⟩ := hr
  have HC := Lib.hid hc
  clear hc
  by_cases hn : l.length ≤ 10
  case neg =>
    have hf : stopsOk l = false := by simp [stopsOk, hn]
    rw [hf]
    clear hf
    have hn' : 10 < l.length := by omega
    have hn2 : 10 < (l.length : Int) := by omega
    clear hn
    go_enter Try.func52, Try.ntmps52
    go_wp2
    go_ret
    exact ⟨rfl, Below.refl _ _⟩
  case pos =>
    have hf : stopsOk l = l.all stopOk := by simp [stopsOk, hn]
    rw [hf]
    clear hf
    have hn2 : decide (10 < (l.length : Int)) = false := by simp; omega
    have hn3 : decide (10 < l.length) = false := by simp; omega
    go_enter Try.func52, Try.ntmps52
    go_wp2
    go_loopw [10] (fun i wr => ∃ k : Nat, k ≤ l.length ∧ i = .int .i64 k ∧ l.all stopOk = (l.drop k).all stopOk ∧ Below w.heap.size w wr) (fun i _ => l.length - (intOf i).toNat)
    case atStart => exact ⟨0, Nat.zero_le _, rfl, rfl, Below.refl _ _⟩
    case round =>
      obtain ⟨k, hk, rfl, he, hb⟩ := hrel
      by_cases hlt : k < l.length
      · obtain ⟨B, o, rfl, hB, hcell⟩ := HC.out k hlt
        rw [all_drop hlt] at he
        have c0 : wr.cell? ⟨B, o + k * 4, none⟩ = some (.int .i64 l[k].d) := by rw [hb.cell hB]; exact hcell 0 (by omega)
        have c1 : wr.cell? ⟨B, o + k * 4 + 1, none⟩ = some (.int .i64 l[k].o) := by rw [hb.cell hB]; exact hcell 1 (by omega)
        have c2 : wr.cell? ⟨B, o + k * 4 + 2, none⟩ = some (.int .i64 l[k].c) := by rw [hb.cell hB]; exact hcell 2 (by omega)
        have c3 : wr.cell? ⟨B, o + k * 4 + 3, none⟩ = some (.int .i64 l[k].s) := by rw [hb.cell hB]; exact hcell 3 (by omega)
        have HE := Lib.hid he
        have HB := Lib.hid hb
        clear he hb hcell
        generalize l[k] = x at *
        go_wp2
        all_goals first
          | (have hx : stopOk x = true := by
               (try simp only [Bool.not_eq_true', Bool.not_eq_false', decide_eq_true_eq, decide_eq_false_iff_not] at *)
               simp only [stopOk, inB, Bool.and_eq_true, decide_eq_true_eq]; omega
             have HX := Lib.hid hx
             clear hx
             go_roundw
             case rel => exact ⟨k + 1, by omega, by go_num, by rw [HE.out, HX.out]; rfl, HB.out.alloc HB.out.size _⟩
             case measure => simp [intOf]; omega)
          | (have hx : stopOk x = false := bool_no (by (try simp only [Bool.not_eq_true', Bool.not_eq_false', decide_eq_true_eq, decide_eq_false_iff_not] at *); simp only [stopOk, inB, Bool.and_eq_true, decide_eq_true_eq]; omega)
             have HX := Lib.hid hx
             clear hx
             go_ret
             exact ⟨by rw [HE.out, HX.out]; rfl, HB.out.alloc HB.out.size _⟩)
      · have : l.drop k = [] := List.drop_eq_nil_of_le (by omega)
        rw [this] at he
        have HE := Lib.hid he
        have HB := Lib.hid hb
        clear he hb this
        go_wp2
        go_ret
        exact ⟨by rw [HE.out]; rfl, HB.out⟩
end Go.Proofs.Ytgkieelacjcopaa
namespace Go.Proofs.Ytgkieelacjcopaa
set_option linter.unusedSimpArgs false
open Go.RowKit

theorem Recs.num {W : World} {v : Value} {l : List Int} (h : Recs W 1 num_ v l) : ∃ A cap, v = .slice A l.length cap ∧ ∀ k (h : k < l.length), ∃ B o, A = some ⟨B, o, none⟩ ∧ B < W.heap.size ∧ W.cell? ⟨B, o + k, none⟩ = some (.int .i64 l[k]) := by
  obtain ⟨A, cap, rfl, h⟩ := h
  refine ⟨A, cap, rfl, fun k hk => ?_⟩
  obtain ⟨B, o, rfl, hB, hc⟩ := h k hk
  exact ⟨B, o, rfl, hB, by have := hc 0 (by omega); simpa [num_] using this⟩

set_option maxHeartbeats 1000000 in
theorem travel_any (v : Value) (l : List (List Int)) (size : Nat) (w : World) (hr : Trav w v l) (hz : size ≤ 1000) :
    Calls Try.prog 54 #[v, .int .i64 size] w fun e w' => e = .returned (.bool (travelOk size l)) ∧ Below w.heap.size w w' := by
  obtain ⟨A, cap, rfl, hc⟩ := hr
  have HC := Lib.hid hc
  clear hc
  by_cases hn : l.length = size
  case neg =>
    have hf : travelOk size l = false := by simp [travelOk, hn]
    rw [hf]
    clear hf
    have h2 : ((l.length : Int) == (size : Int)) = false := by simp; omega
    have h3 : ((l.length : Int) != (size : Int)) = true := by simp; omega
    have h4 : (l.length == size) = false := by simpa using hn
    have h5 : (l.length != size) = true := by simpa using hn
    go_enter Try.func54, Try.ntmps54
    go_wp2
    go_ret
    exact ⟨rfl, Below.refl _ _⟩
  case pos =>
    subst hn
    have hf : travelOk l.length l = rowsFrom l.length 0 l := by simp [travelOk]
    rw [hf]
    clear hf
    go_enter Try.func54, Try.ntmps54
    go_wp2
    go_loopw [15] (fun i wr => ∃ k : Nat, k ≤ l.length ∧ i = .int .i64 k ∧ rowsFrom l.length 0 l = rowsFrom l.length k (l.drop k) ∧ Below w.heap.size w wr) (fun i _ => l.length - (intOf i).toNat)
    case atStart => exact ⟨0, Nat.zero_le _, rfl, rfl, Below.refl _ _⟩
    case round =>
      obtain ⟨k, hk, rfl, he, hb⟩ := hrel
      by_cases hlt : k < l.length
      · obtain ⟨B, o, u, rfl, hB, hu, hrow⟩ := HC.out k hlt
        rw [rowsFrom_drop hlt] at he
        have c0 : wr.cell? ⟨B, o + k, none⟩ = some u := by rw [hb.cell hB]; exact hu
        obtain ⟨A2, cap2, rfl, hcell⟩ := (hrow.below (hb.mono (Nat.le_refl _))).num
        have HE := Lib.hid he
        have HB := Lib.hid hb
        clear he hb hu hrow
        generalize l[k] = r at *
        by_cases hlen : r.length = l.length
        case neg =>
          have h2 : ((r.length : Int) == (l.length : Int)) = false := by simp; omega
          have h3 : ((r.length : Int) != (l.length : Int)) = true := by simp; omega
          have h4 : (r.length == l.length) = false := by simpa using hlen
          have h5 : (r.length != l.length) = true := by simpa using hlen
          have HX := Lib.hid (rowOk_size (k := k) hlen)
          have HL := Lib.hid hcell
          clear hcell hlen
          go_wp2
          go_ret
          exact ⟨by rw [HE.out, HX.out]; rfl, HB.out⟩
        case pos =>
          have hkr : k < r.length := by omega
          have hrl : r.length ≤ 1000 := by omega
          obtain ⟨B2, o2, rfl, hB2, d0⟩ := hcell k hkr
          have HL := Lib.hid hcell
          have HX := Lib.hid (rowOk_at (size := l.length) hkr)
          have h4 : (r.length == l.length) = true := by simpa using hlen
          have h5 : (r.length != l.length) = false := by simpa using hlen
          have h6 : ((r.length : Int) == (l.length : Int)) = true := by simp; omega
          have h7 : ((r.length : Int) != (l.length : Int)) = false := by simp; omega
          have HN := Lib.hid hlen
          clear hcell
          by_cases hz0 : r[k] = 0
          · have HR : Hid (rowOk l.length k r = r.all fun t => inB t 0 1000) := by
              show _ = _
              rw [HX.out, hz0, hlen]; simp
            rw [hz0] at d0
            clear hz0 hlen HX
            go_wp2
            go_loopw [33] (fun i wr' => ∃ j : Nat, j ≤ r.length ∧ i = .int .i64 j ∧ (r.all fun t => inB t 0 1000) = ((r.drop j).all fun t => inB t 0 1000) ∧ Below wr.heap.size wr wr') (fun i _ => r.length - (intOf i).toNat)
            case atStart => exact ⟨0, Nat.zero_le _, rfl, rfl, Below.refl _ _⟩
            case round =>
              obtain ⟨j, hj, rfl, he2, hb2⟩ := hrel
              by_cases hjl : j < r.length
              · obtain ⟨B3, o3, e3, hB3, d3⟩ := HL.out j hjl
                obtain ⟨rfl, rfl⟩ : B2 = B3 ∧ o2 = o3 := by simpa using e3
                clear e3
                rw [all_drop hjl] at he2
                rw [← hb2.cell hB3] at d3
                have HE2 := Lib.hid he2
                have HB2 := Lib.hid hb2
                clear he2 hb2 d0 c0
                generalize r[j] = x at *
                go_wp2
                all_goals first
                  | (have hx : inB x 0 1000 = true := by
                       (try simp only [Bool.not_eq_true', Bool.not_eq_false', decide_eq_true_eq, decide_eq_false_iff_not] at *)
                       simp only [inB, Bool.and_eq_true, decide_eq_true_eq]; omega
                     have HX := Lib.hid hx
                     clear hx
                     go_roundw
                     case rel => exact ⟨j + 1, by omega, by go_num, by rw [HE2.out, HX.out]; rfl, HB2.out⟩
                     case measure => simp [intOf]; omega)
                  | (have hx : inB x 0 1000 = false := bool_no (by (try simp only [Bool.not_eq_true', Bool.not_eq_false', decide_eq_true_eq, decide_eq_false_iff_not] at *); simp only [inB, Bool.and_eq_true, decide_eq_true_eq]; omega)
                     have HX := Lib.hid hx
                     clear hx
                     go_ret
                     exact ⟨by rw [HE.out, HR.out, HE2.out, HX.out]; rfl, HB.out.trans (HB2.out.mono HB.out.size)⟩)
              · have : r.drop j = [] := List.drop_eq_nil_of_le (by omega)
                rw [this] at he2
                have HE2 := Lib.hid he2
                have HB2 := Lib.hid hb2
                clear he2 hb2 this d0 c0
                go_wp2
                go_roundw
                case rel => exact ⟨k + 1, by omega, by go_num, by rw [HE.out, HR.out, HE2.out]; rfl, HB.out.trans (HB2.out.mono HB.out.size)⟩
                case measure => simp [intOf]; omega
          · have HR : Hid (rowOk l.length k r = false) := by
              show _ = _
              rw [HX.out]; simp [hz0]
            clear hlen HX
            have h2 : (r[k] == 0) = false := by simpa using hz0
            have h3 : (r[k] != 0) = true := by simpa using hz0
            generalize r[k] = x at *
            go_wp2
            go_ret
            exact ⟨by rw [HE.out, HR.out]; rfl, HB.out⟩
      · have : l.drop k = [] := List.drop_eq_nil_of_le (by omega)
        rw [this] at he
        have HE := Lib.hid he
        have HB := Lib.hid hb
        clear he hb this
        go_wp2
        go_ret
        exact ⟨by rw [HE.out]; rfl, HB.out⟩
end Go.Proofs.Ytgkieelacjcopaa
namespace Go.Proofs.Ytgkieelacjcopaa
open Go.RowKit

/-- the array of what is paired, in block P -/
def Had (W : World) (P : Nat) (seen : List Int) : Prop := P < W.heap.size ∧ ∀ x : Nat, x ≤ 10 → W.cell? ⟨P, x, none⟩ = some (.bool (seen.contains (x : Int))) ∧ W.frozen? ⟨P, x, none⟩ = false
theorem Had.below {W W' : World} {P : Nat} {seen : List Int} (h : Had W P seen) (hb : Below W.heap.size W W') : Had W' P seen :=
  ⟨Nat.lt_of_lt_of_le h.1 hb.size, fun x hx => ⟨by rw [hb.cell h.1]; exact (h.2 x hx).1, by rw [hb.frozen h.1]; exact (h.2 x hx).2⟩⟩
theorem Had.set {W : World} {P : Nat} {seen : List Int} (h : Had W P seen) {y : Nat} (hy : y ≤ 10) : Had (W.setCell ⟨P, y, none⟩ (.bool true)) P ((y : Int) :: seen) := by
  refine ⟨by simpa using h.1, fun x hx => ⟨?_, by rw [World.frozen?_setCell]; exact (h.2 x hx).2⟩⟩
  by_cases e : x = y
  · subst e
    rw [World.cell?_setCell_same _ _ _ (h.2 x hx).1]; simp
  · rw [World.cell?_setCell_other _ _ _ _ (by intro hh; injection hh with _ h2 _; exact e h2.symm), (h.2 x hx).1]
    have : ¬ (x : Int) = (y : Int) := by omega
    simp [this]
theorem had_start (w : World) (t : TypeId) : Had (w.alloc (.cells #[.bool false, .bool false, .bool false, .bool false, .bool false, .bool false, .bool false, .bool false, .bool false, .bool false, .bool false] t)) w.heap.size [] := by
  refine ⟨by simp, fun x hx => ?_⟩
  match x, hx with
  | 0, _ | 1, _ | 2, _ | 3, _ | 4, _ | 5, _ | 6, _ | 7, _ | 8, _ | 9, _ | 10, _ => exact ⟨by rw [World.cell?_alloc_new]; rfl, by simp [go_sem]⟩

theorem idx_pair0 (a b : Int) (W : World) : (Instr.index 70 (.agg #[.int .i64 a, .int .i64 b]) (.int .i64 0)).run Try.prog W = .ok (.int .i64 a) W := by kernel_rfl
theorem idx_pair1 (a b : Int) (W : World) : (Instr.index 70 (.agg #[.int .i64 a, .int .i64 b]) (.int .i64 1)).run Try.prog W = .ok (.int .i64 b) W := by kernel_rfl
def elemOk (n : Nat) (seen : List Int) (x : Int) : Bool := inB x 1 n && !seen.contains x
def tops (a b : Int) (seen : List Int) : Nat → List Int | 0 => seen | 1 => a :: seen | _ => b :: a :: seen
def Mid (n : Nat) (seen : List Int) (a b : Int) (w : World) (P Q j : Nat) (W : World) : Prop :=
  Below w.heap.size w W ∧ Had W P (tops a b seen j) ∧ W.cell? ⟨Q, 0, none⟩ = some (.int .i64 a) ∧ W.cell? ⟨Q, 1, none⟩ = some (.int .i64 b) ∧ P < Q ∧ Q < W.heap.size ∧
    (1 ≤ j → elemOk n seen a = true) ∧ (2 ≤ j → elemOk n (a :: seen) b = true)
theorem pairOk_parts (st : List Stop) (seen : List Int) (a b : Int) : pairOk st seen ⟨a, b⟩ = (elemOk st.length seen a && elemOk st.length (a :: seen) b && (decide (0 ≤ demand st a) && decide (demand st b = - demand st a))) := rfl
theorem elemOk_nat {n : Nat} {seen : List Int} {x : Int} (h : elemOk n seen x = true) : ∃ k : Nat, k < n ∧ x = (k : Int) + 1 := by
  simp only [elemOk, Bool.and_eq_true, inB_iff] at h
  exact ⟨(x - 1).toNat, by omega, by omega⟩
theorem elemOk_cases (n : Nat) (seen : List Int) (x : Int) : (elemOk n seen x = false ∧ x < 1) ∨ (elemOk n seen x = false ∧ 1 ≤ x ∧ (n : Int) < x) ∨
    ∃ k : Nat, k < n ∧ x = (k : Int) + 1 ∧ elemOk n seen x = !seen.contains x := by
  by_cases h1 : x < 1
  · exact .inl ⟨by simp [elemOk, inB]; omega, h1⟩
  · by_cases h2 : (n : Int) < x
    · exact .inr (.inl ⟨by simp [elemOk, inB]; omega, by omega, h2⟩)
    · refine .inr (.inr ⟨(x - 1).toNat, by omega, by omega, ?_⟩)
      have : inB x 1 n = true := inB_iff.2 ⟨by omega, by omega⟩
      simp [elemOk, this]

set_option maxHeartbeats 4000000 in
theorem pairs_any (v vs : Value) (l : List Pair) (st : List Stop) (w : World) (hr : Recs w 2 Pair.at_ v l) (hs : Recs w 4 Stop.at_ vs st) (hst : stopsOk st = true) (hl : l.length ≤ 1099511627776) :
    Calls Try.prog 53 #[v, vs] w fun e w' => e = .returned (.bool (pairsFrom st [] l)) ∧ Below w.heap.size w w' := by
  obtain ⟨A, cap, rfl, hc⟩ := hr
  have HC := Lib.hid hc
  clear hc
  obtain ⟨A2, cap2, rfl, hc2⟩ := hs
  have HS := Lib.hid hc2
  have HO := Lib.hid hst
  have hn := stopsOk_len hst
  clear hc2 hst
  go_enter Try.func53, Try.ntmps53
  go_wp2
  go_loopw [13] (fun i wr => ∃ (k : Nat) (seen : List Int), k ≤ l.length ∧ i = .int .i64 k ∧ pairsFrom st [] l = pairsFrom st seen (l.drop k) ∧ Below w.heap.size w wr ∧ Had wr w.heap.size seen) (fun i _ => l.length - (intOf i).toNat)
  case atStart => exact ⟨0, [], Nat.zero_le _, rfl, rfl, (Below.refl _ _).alloc (Nat.le_refl _) _, had_start w _⟩
  case round =>
    obtain ⟨k, seen, hk, rfl, he, hb, hh⟩ := hrel
    by_cases hlt : k < l.length
    · obtain ⟨B, o, rfl, hB, hcell⟩ := HC.out k hlt
      rw [pairsFrom_drop hlt] at he
      have c0 : wr.cell? ⟨B, o + k * 2, none⟩ = some (.int .i64 l[k].a) := by rw [hb.cell hB]; exact hcell 0 (by omega)
      have c1 : wr.cell? ⟨B, o + k * 2 + 1, none⟩ = some (.int .i64 l[k].b) := by rw [hb.cell hB]; exact hcell 1 (by omega)
      have HE := Lib.hid he
      have HB := Lib.hid hb
      have HH := Lib.hid hh
      have hP : w.heap.size < wr.heap.size := hh.1
      clear he hb hcell hh
      generalize l[k] = p at *
      obtain ⟨a, b⟩ := p
      simp only at c0 c1
      go_wp2
      go_loopw [18] (fun i wr' => ∃ j : Nat, j ≤ 2 ∧ i = .int .i64 j ∧ Mid st.length seen a b w w.heap.size wr.heap.size j wr') (fun i _ => 2 - (intOf i).toNat)
      case atStart => exact ⟨0, by omega, rfl, HB.out.alloc HB.out.size _, HH.out.below ((Below.refl _ _).alloc (Nat.le_refl _) _), by rw [World.cell?_alloc_new]; rfl, by rw [World.cell?_alloc_new]; rfl, hP, by simp, fun h => absurd h (by omega), fun h => absurd h (by omega)⟩
      case round =>
        obtain ⟨j, hj, rfl, n1, n2, n3, n4, m5a, m5b, n6, n7⟩ := hrel
        have m1 := Lib.hid n1
        have m2 := Lib.hid n2
        have m3 := Lib.hid n3
        have m4 := Lib.hid n4
        have m6 := Lib.hid n6
        have m7 := Lib.hid n7
        clear n1 n2 n3 n4 n6 n7 c0 c1
        have i0 := idx_pair0 a b
        have i1 := idx_pair1 a b
        obtain rfl | rfl | rfl : j = 0 ∨ j = 1 ∨ j = 2 := by omega
        · rcases elemOk_cases st.length seen a with ⟨hx, h1⟩ | ⟨hx, h1, h2⟩ | ⟨q, hq, hxq, hx⟩
          · have HX := Lib.hid hx
            clear hx
            go_wp2
            go_ret
            exact ⟨by rw [HE.out, pairOk_parts, HX.out]; rfl, m1.out⟩
          · have HX := Lib.hid hx
            clear hx
            go_wp2
            go_ret
            exact ⟨by rw [HE.out, pairOk_parts, HX.out]; rfl, m1.out⟩
          · have hcell : wr.cell? ⟨w.heap.size, q + 1, none⟩ = some (.bool (seen.contains a)) := by
              have := (m2.out.2 (q + 1) (by omega)).1
              rw [hxq]; simpa [tops] using this
            have hfr : wr.frozen? ⟨w.heap.size, q + 1, none⟩ = false := (m2.out.2 (q + 1) (by omega)).2
            have hPz : w.heap.size < wr.heap.size := m2.out.1
            cases hcc : seen.contains a
            · rw [hcc] at hcell
              have HX : Hid (elemOk st.length seen a = true) := by show _ = _; rw [hx, hcc]; rfl
              have HQ := Lib.hid hxq
              clear hx hcc
              have hq1 : ((a : Int)).toNat = q + 1 := by omega
              have hq2 : 1 ≤ a := by omega
              have hq3 : a ≤ st.length := by omega
              have hq4 : a < 11 := by omega
              have hq5 : 0 ≤ a := by omega
              clear hxq
              go_wp2
              go_roundw
              case rel => exact ⟨0+1, by omega, by go_num, m1.out.setCell (Nat.le_refl _) _, by rw [HQ.out]; simpa [tops, HQ.out] using m2.out.set (y := q + 1) (by omega), by rw [World.cell?_setCell_other _ _ _ _ (by intro hh; injection hh with h1 _ _; omega)]; exact m3.out, by rw [World.cell?_setCell_other _ _ _ _ (by intro hh; injection hh with h1 _ _; omega)]; exact m4.out, m5a, by simpa using m5b, fun _ => HX.out, fun h => absurd h (by omega)⟩
              case measure => simp [intOf]
            · rw [hcc] at hcell
              have HX : Hid (elemOk st.length seen a = false) := by show _ = _; rw [hx, hcc]; rfl
              have HQ := Lib.hid hxq
              clear hx hcc
              have hq1 : ((a : Int)).toNat = q + 1 := by omega
              have hq2 : 1 ≤ a := by omega
              have hq3 : a ≤ st.length := by omega
              have hq4 : a < 11 := by omega
              have hq5 : 0 ≤ a := by omega
              clear hxq
              go_wp2
              go_ret
              exact ⟨by rw [HE.out, pairOk_parts, HX.out]; rfl, m1.out⟩
        · rcases elemOk_cases st.length (a :: seen) b with ⟨hx, h1⟩ | ⟨hx, h1, h2⟩ | ⟨q, hq, hxq, hx⟩
          · have HX := Lib.hid hx
            clear hx
            go_wp2
            go_ret
            exact ⟨by rw [HE.out, pairOk_parts, m6.out (by omega), HX.out]; rfl, m1.out⟩
          · have HX := Lib.hid hx
            clear hx
            go_wp2
            go_ret
            exact ⟨by rw [HE.out, pairOk_parts, m6.out (by omega), HX.out]; rfl, m1.out⟩
          · have hcell : wr.cell? ⟨w.heap.size, q + 1, none⟩ = some (.bool ((a :: seen).contains b)) := by
              have := (m2.out.2 (q + 1) (by omega)).1
              rw [hxq]; simpa [tops] using this
            have hfr : wr.frozen? ⟨w.heap.size, q + 1, none⟩ = false := (m2.out.2 (q + 1) (by omega)).2
            have hPz : w.heap.size < wr.heap.size := m2.out.1
            cases hcc : (a :: seen).contains b
            · rw [hcc] at hcell
              have HX : Hid (elemOk st.length (a :: seen) b = true) := by show _ = _; rw [hx, hcc]; rfl
              have HQ := Lib.hid hxq
              clear hx hcc
              have hq1 : ((b : Int)).toNat = q + 1 := by omega
              have hq2 : 1 ≤ b := by omega
              have hq3 : b ≤ st.length := by omega
              have hq4 : b < 11 := by omega
              have hq5 : 0 ≤ b := by omega
              clear hxq
              go_wp2
              go_roundw
              case rel => exact ⟨1+1, by omega, by go_num, m1.out.setCell (Nat.le_refl _) _, by rw [HQ.out]; simpa [tops, HQ.out] using m2.out.set (y := q + 1) (by omega), by rw [World.cell?_setCell_other _ _ _ _ (by intro hh; injection hh with h1 _ _; omega)]; exact m3.out, by rw [World.cell?_setCell_other _ _ _ _ (by intro hh; injection hh with h1 _ _; omega)]; exact m4.out, m5a, by simpa using m5b, fun _ => m6.out (by omega), fun _ => HX.out⟩
              case measure => simp [intOf]
            · rw [hcc] at hcell
              have HX : Hid (elemOk st.length (a :: seen) b = false) := by show _ = _; rw [hx, hcc]; rfl
              have HQ := Lib.hid hxq
              clear hx hcc
              have hq1 : ((b : Int)).toNat = q + 1 := by omega
              have hq2 : 1 ≤ b := by omega
              have hq3 : b ≤ st.length := by omega
              have hq4 : b < 11 := by omega
              have hq5 : 0 ≤ b := by omega
              clear hxq
              go_wp2
              go_ret
              exact ⟨by rw [HE.out, pairOk_parts, m6.out (by omega), HX.out]; rfl, m1.out⟩
        · have ea := m6.out (by omega)
          have eb := m7.out (by omega)
          obtain ⟨qa, hqa, rfl⟩ := elemOk_nat ea
          obtain ⟨qb, hqb, rfl⟩ := elemOk_nat eb
          have da := demand_nat st hqa
          have db := demand_nat st hqb
          have ba := stopOk_d (stopsOk_at HO.out hqa)
          have bb := stopOk_d (stopsOk_at HO.out hqb)
          have HP := Lib.hid (pairOk_parts st seen ((qa : Int) + 1) ((qb : Int) + 1))
          rw [ea, eb, da, db] at HP
          obtain ⟨B2, o2, rfl, hB2, s1⟩ := HS.out qa hqa
          obtain ⟨B3, o3, e3, hB3, s2⟩ := HS.out qb hqb
          obtain ⟨rfl, rfl⟩ : B2 = B3 ∧ o2 = o3 := by simpa using e3
          have t1 : wr.cell? ⟨B2, o2 + qa * 4, none⟩ = some (.int .i64 st[qa].d) := by rw [m1.out.cell hB2]; exact s1 0 (by omega)
          have t2 : wr.cell? ⟨B2, o2 + qb * 4, none⟩ = some (.int .i64 st[qb].d) := by rw [m1.out.cell hB2]; exact s2 0 (by omega)
          have u1 := m3.out
          have u2 := m4.out
          clear ea eb da db s1 s2 e3 i0 i1
          generalize st[qa].d = x at *
          generalize st[qb].d = y at *
          by_cases hx0 : x < 0
          · have HX : Hid (pairOk st seen ⟨(qa : Int) + 1, (qb : Int) + 1⟩ = false) := by
              show _ = _
              rw [HP.out]; simp; omega
            clear HP
            go_wp2
            go_ret
            exact ⟨by rw [HE.out, HX.out]; rfl, m1.out⟩
          · by_cases hxy : y = -x
            · have HX : Hid (pairOk st seen ⟨(qa : Int) + 1, (qb : Int) + 1⟩ = true) := by
                show _ = _
                rw [HP.out]; simp; omega
              subst hxy
              clear HP
              go_wp2
              go_roundw
              case rel => exact ⟨k + 1, _, by omega, by go_num, by rw [HE.out, HX.out]; rfl, m1.out, m2.out⟩
              case measure => simp [intOf]; omega
            · have HX : Hid (pairOk st seen ⟨(qa : Int) + 1, (qb : Int) + 1⟩ = false) := by
                show _ = _
                rw [HP.out]; simp; omega
              have n1 : (y == -x) = false := by simpa using hxy
              have n2 : (y != -x) = true := by simpa using hxy
              clear HP
              go_wp2
              go_ret
              exact ⟨by rw [HE.out, HX.out]; rfl, m1.out⟩
    · have : l.drop k = [] := List.drop_eq_nil_of_le (by omega)
      rw [this] at he
      have HE := Lib.hid he
      have HB := Lib.hid hb
      clear he hb this hh
      go_wp2
      go_ret
      exact ⟨by rw [HE.out]; rfl, HB.out⟩
end Go.Proofs.Ytgkieelacjcopaa
namespace Go.Proofs.Ytgkieelacjcopaa
set_option linter.unusedSimpArgs false
open Go.RowKit

theorem travel_any' (v : Value) (l : List (List Int)) (n : Nat) (w : World) (hr : Trav w v l) (hz : n ≤ 900) :
    Calls Try.prog 54 #[v, .int .i64 ((n : Int) + 1)] w fun e w' => e = .returned (.bool (travelOk (n + 1) l)) ∧ Below w.heap.size w w' := by
  have := travel_any v l (n + 1) w hr (by omega)
  rwa [show (((n + 1 : Nat)) : Int) = (n : Int) + 1 by omega] at this
def errOf (b : Bool) : Int := if b then 0 else 1
theorem errOf_true : errOf true = 0 := rfl
theorem errOf_false : errOf false = 1 := rfl
def Short (i : Prob) : Prop := i.cars.length ≤ 1099511627776 ∧ i.stops.length ≤ 1099511627776 ∧ i.pairs.length ≤ 1099511627776
set_option maxHeartbeats 2000000 in
theorem check_any (v : Value) (i : Prob) (w : World) (h : Lies w v i) (hs : Short i) :
    Calls Try.prog 40 #[v] w fun e w' => e = .returned (.int .i64 (errOf (probOk i))) ∧ Below w.heap.size w w' := by
  obtain ⟨vc, vs, vp, vt, rfl, h1, h2, h3, h4⟩ := h
  obtain ⟨s1, s2, s3⟩ := hs
  have hp : probOk i = (carsOk i.cars && stopsOk i.stops && pairsFrom i.stops [] i.pairs && travelOk (i.stops.length + 1) i.travel) := rfl
  have C1 := Lib.hid (fun W (hb : Below w.heap.size w W) => cars_any vc i.cars W (h1.below hb) s1)
  have C2 := Lib.hid (fun W (hb : Below w.heap.size w W) => stops_any vs i.stops W (h2.below hb) s2)
  have C3 := Lib.hid (fun W (hb : Below w.heap.size w W) hst => pairs_any vp vs i.pairs i.stops W (h3.below hb) (h2.below hb) hst s3)
  have C4 := Lib.hid (fun W (hb : Below w.heap.size w W) hn => travel_any' vt i.travel i.stops.length W (h4.below hb) hn)
  have HS : Hid (∃ A cap, vs = .slice A i.stops.length cap) := by obtain ⟨A, cap, e, _⟩ := h2; exact ⟨A, cap, e⟩
  clear h1 h2 h3 h4
  cases hc : carsOk i.cars
  · rw [hp, hc]; simp only [Bool.false_and, errOf_false]
    rw [hc] at C1
    clear hp hc
    go_enter Try.func40, Try.ntmps40
    go_wp2_with (go_at_call 51; fail)
    (with_reducible refine (C1.out _ ?_).mono ?_)
    · exact (Below.refl _ _).alloc (Nat.le_refl _) _
    rintro e w1 ⟨rfl, hb1⟩
    have HB1 := Lib.hid hb1
    clear hb1
    go_wp2
    go_ret
    exact ⟨rfl, ((Below.refl _ _).alloc (Nat.le_refl _) _).trans (HB1.out.mono (by simp))⟩
  · rw [hc] at C1
    cases hst : stopsOk i.stops
    · rw [hp, hc, hst]; simp only [Bool.false_and, Bool.true_and, errOf_false]
      rw [hst] at C2
      clear hp hc hst
      go_enter Try.func40, Try.ntmps40
      go_wp2_with (go_at_call 51; fail)
      (with_reducible refine (C1.out _ ?_ ).mono ?_)
      · exact ((Below.refl _ _).alloc (Nat.le_refl _) _)
      rintro e w1 ⟨rfl, hb1⟩
      have T1 := Lib.hid (Below.trans ((Below.refl _ _).alloc (Nat.le_refl _) _) (hb1.mono (by simp)))
      have d10 : w1.cell? ⟨w.heap.size, 0, none⟩ = some vc := by rw [hb1.cell (by simp)]; simp
      have d11 : w1.cell? ⟨w.heap.size, 1, none⟩ = some vs := by rw [hb1.cell (by simp)]; simp
      have d12 : w1.cell? ⟨w.heap.size, 2, none⟩ = some vp := by rw [hb1.cell (by simp)]; simp
      have d13 : w1.cell? ⟨w.heap.size, 3, none⟩ = some vt := by rw [hb1.cell (by simp)]; simp
      have hz1 : w.heap.size < w1.heap.size := by have := hb1.size; simp at this; omega
      clear hb1
      go_wp2_with (go_at_call 52; fail)
      (with_reducible refine (C2.out _ ?_ ).mono ?_)
      · exact T1.out
      rintro e w2 ⟨rfl, hb2⟩
      have T2 := Lib.hid (Below.trans T1.out (hb2.mono (by simpa using (show Below w.heap.size w _ from T1.out).size)))
      have d20 : w2.cell? ⟨w.heap.size, 0, none⟩ = some vc := by rw [hb2.cell (hz1)]; exact d10
      have d21 : w2.cell? ⟨w.heap.size, 1, none⟩ = some vs := by rw [hb2.cell (hz1)]; exact d11
      have d22 : w2.cell? ⟨w.heap.size, 2, none⟩ = some vp := by rw [hb2.cell (hz1)]; exact d12
      have d23 : w2.cell? ⟨w.heap.size, 3, none⟩ = some vt := by rw [hb2.cell (hz1)]; exact d13
      have hz2 : w.heap.size < w2.heap.size := by have := hb2.size; omega
      clear d10 d11 d12 d13
      clear hb2
      go_wp2
      go_ret
      exact ⟨rfl, T2.out⟩
    · have HT := Lib.hid hst
      have hn := stopsOk_len hst
      rw [hst] at C2
      cases hpr : pairsFrom i.stops [] i.pairs
      · rw [hp, hc, hst, hpr]; simp only [Bool.false_and, Bool.true_and, errOf_false]
        rw [hpr] at C3
        clear hp hc hst hpr
        go_enter Try.func40, Try.ntmps40
        go_wp2_with (go_at_call 51; fail)
        (with_reducible refine (C1.out _ ?_ ).mono ?_)
        · exact ((Below.refl _ _).alloc (Nat.le_refl _) _)
        rintro e w1 ⟨rfl, hb1⟩
        have T1 := Lib.hid (Below.trans ((Below.refl _ _).alloc (Nat.le_refl _) _) (hb1.mono (by simp)))
        have d10 : w1.cell? ⟨w.heap.size, 0, none⟩ = some vc := by rw [hb1.cell (by simp)]; simp
        have d11 : w1.cell? ⟨w.heap.size, 1, none⟩ = some vs := by rw [hb1.cell (by simp)]; simp
        have d12 : w1.cell? ⟨w.heap.size, 2, none⟩ = some vp := by rw [hb1.cell (by simp)]; simp
        have d13 : w1.cell? ⟨w.heap.size, 3, none⟩ = some vt := by rw [hb1.cell (by simp)]; simp
        have hz1 : w.heap.size < w1.heap.size := by have := hb1.size; simp at this; omega
        clear hb1
        go_wp2_with (go_at_call 52; fail)
        (with_reducible refine (C2.out _ ?_ ).mono ?_)
        · exact T1.out
        rintro e w2 ⟨rfl, hb2⟩
        have T2 := Lib.hid (Below.trans T1.out (hb2.mono (by simpa using (show Below w.heap.size w _ from T1.out).size)))
        have d20 : w2.cell? ⟨w.heap.size, 0, none⟩ = some vc := by rw [hb2.cell (hz1)]; exact d10
        have d21 : w2.cell? ⟨w.heap.size, 1, none⟩ = some vs := by rw [hb2.cell (hz1)]; exact d11
        have d22 : w2.cell? ⟨w.heap.size, 2, none⟩ = some vp := by rw [hb2.cell (hz1)]; exact d12
        have d23 : w2.cell? ⟨w.heap.size, 3, none⟩ = some vt := by rw [hb2.cell (hz1)]; exact d13
        have hz2 : w.heap.size < w2.heap.size := by have := hb2.size; omega
        clear d10 d11 d12 d13
        clear hb2
        go_wp2_with (go_at_call 53; fail)
        (with_reducible refine (C3.out _ ?_ HT.out).mono ?_)
        · exact T2.out
        rintro e w3 ⟨rfl, hb3⟩
        have T3 := Lib.hid (Below.trans T2.out (hb3.mono (by simpa using (show Below w.heap.size w _ from T2.out).size)))
        have d30 : w3.cell? ⟨w.heap.size, 0, none⟩ = some vc := by rw [hb3.cell (hz2)]; exact d20
        have d31 : w3.cell? ⟨w.heap.size, 1, none⟩ = some vs := by rw [hb3.cell (hz2)]; exact d21
        have d32 : w3.cell? ⟨w.heap.size, 2, none⟩ = some vp := by rw [hb3.cell (hz2)]; exact d22
        have d33 : w3.cell? ⟨w.heap.size, 3, none⟩ = some vt := by rw [hb3.cell (hz2)]; exact d23
        have hz3 : w.heap.size < w3.heap.size := by have := hb3.size; omega
        clear d20 d21 d22 d23
        clear hb3
        go_wp2
        go_ret
        exact ⟨rfl, T3.out⟩
      · rw [hpr] at C3
        obtain ⟨A, cap, rfl⟩ := HS.out
        cases htr : travelOk (i.stops.length + 1) i.travel
        · rw [hp, hc, hst, hpr, htr]; simp only [Bool.false_and, Bool.true_and, errOf_false]
          rw [htr] at C4
          clear hp hc hst hpr htr
          go_enter Try.func40, Try.ntmps40
          go_wp2_with (go_at_call 51; fail)
          (with_reducible refine (C1.out _ ?_ ).mono ?_)
          · exact ((Below.refl _ _).alloc (Nat.le_refl _) _)
          rintro e w1 ⟨rfl, hb1⟩
          have T1 := Lib.hid (Below.trans ((Below.refl _ _).alloc (Nat.le_refl _) _) (hb1.mono (by simp)))
          have d10 : w1.cell? ⟨w.heap.size, 0, none⟩ = some vc := by rw [hb1.cell (by simp)]; simp
          have d11 : w1.cell? ⟨w.heap.size, 1, none⟩ = some (.slice A i.stops.length cap) := by rw [hb1.cell (by simp)]; simp
          have d12 : w1.cell? ⟨w.heap.size, 2, none⟩ = some vp := by rw [hb1.cell (by simp)]; simp
          have d13 : w1.cell? ⟨w.heap.size, 3, none⟩ = some vt := by rw [hb1.cell (by simp)]; simp
          have hz1 : w.heap.size < w1.heap.size := by have := hb1.size; simp at this; omega
          clear hb1
          go_wp2_with (go_at_call 52; fail)
          (with_reducible refine (C2.out _ ?_ ).mono ?_)
          · exact T1.out
          rintro e w2 ⟨rfl, hb2⟩
          have T2 := Lib.hid (Below.trans T1.out (hb2.mono (by simpa using (show Below w.heap.size w _ from T1.out).size)))
          have d20 : w2.cell? ⟨w.heap.size, 0, none⟩ = some vc := by rw [hb2.cell (hz1)]; exact d10
          have d21 : w2.cell? ⟨w.heap.size, 1, none⟩ = some (.slice A i.stops.length cap) := by rw [hb2.cell (hz1)]; exact d11
          have d22 : w2.cell? ⟨w.heap.size, 2, none⟩ = some vp := by rw [hb2.cell (hz1)]; exact d12
          have d23 : w2.cell? ⟨w.heap.size, 3, none⟩ = some vt := by rw [hb2.cell (hz1)]; exact d13
          have hz2 : w.heap.size < w2.heap.size := by have := hb2.size; omega
          clear d10 d11 d12 d13
          clear hb2
          go_wp2_with (go_at_call 53; fail)
          (with_reducible refine (C3.out _ ?_ HT.out).mono ?_)
          · exact T2.out
          rintro e w3 ⟨rfl, hb3⟩
          have T3 := Lib.hid (Below.trans T2.out (hb3.mono (by simpa using (show Below w.heap.size w _ from T2.out).size)))
          have d30 : w3.cell? ⟨w.heap.size, 0, none⟩ = some vc := by rw [hb3.cell (hz2)]; exact d20
          have d31 : w3.cell? ⟨w.heap.size, 1, none⟩ = some (.slice A i.stops.length cap) := by rw [hb3.cell (hz2)]; exact d21
          have d32 : w3.cell? ⟨w.heap.size, 2, none⟩ = some vp := by rw [hb3.cell (hz2)]; exact d22
          have d33 : w3.cell? ⟨w.heap.size, 3, none⟩ = some vt := by rw [hb3.cell (hz2)]; exact d23
          have hz3 : w.heap.size < w3.heap.size := by have := hb3.size; omega
          clear d20 d21 d22 d23
          clear hb3
          go_wp2_with (go_at_call 54; fail)
          (with_reducible refine (C4.out _ ?_ (by omega)).mono ?_)
          · exact T3.out
          rintro e w4 ⟨rfl, hb4⟩
          have T4 := Lib.hid (Below.trans T3.out (hb4.mono (by simpa using (show Below w.heap.size w _ from T3.out).size)))
          have d40 : w4.cell? ⟨w.heap.size, 0, none⟩ = some vc := by rw [hb4.cell (hz3)]; exact d30
          have d41 : w4.cell? ⟨w.heap.size, 1, none⟩ = some (.slice A i.stops.length cap) := by rw [hb4.cell (hz3)]; exact d31
          have d42 : w4.cell? ⟨w.heap.size, 2, none⟩ = some vp := by rw [hb4.cell (hz3)]; exact d32
          have d43 : w4.cell? ⟨w.heap.size, 3, none⟩ = some vt := by rw [hb4.cell (hz3)]; exact d33
          have hz4 : w.heap.size < w4.heap.size := by have := hb4.size; omega
          clear d30 d31 d32 d33
          clear hb4
          go_wp2
          go_ret
          exact ⟨rfl, T4.out⟩
        · rw [hp, hc, hst, hpr, htr]; simp only [Bool.false_and, Bool.true_and, errOf_true]
          rw [htr] at C4
          clear hp hc hst hpr htr
          go_enter Try.func40, Try.ntmps40
          go_wp2_with (go_at_call 51; fail)
          (with_reducible refine (C1.out _ ?_ ).mono ?_)
          · exact ((Below.refl _ _).alloc (Nat.le_refl _) _)
          rintro e w1 ⟨rfl, hb1⟩
          have T1 := Lib.hid (Below.trans ((Below.refl _ _).alloc (Nat.le_refl _) _) (hb1.mono (by simp)))
          have d10 : w1.cell? ⟨w.heap.size, 0, none⟩ = some vc := by rw [hb1.cell (by simp)]; simp
          have d11 : w1.cell? ⟨w.heap.size, 1, none⟩ = some (.slice A i.stops.length cap) := by rw [hb1.cell (by simp)]; simp
          have d12 : w1.cell? ⟨w.heap.size, 2, none⟩ = some vp := by rw [hb1.cell (by simp)]; simp
          have d13 : w1.cell? ⟨w.heap.size, 3, none⟩ = some vt := by rw [hb1.cell (by simp)]; simp
          have hz1 : w.heap.size < w1.heap.size := by have := hb1.size; simp at this; omega
          clear hb1
          go_wp2_with (go_at_call 52; fail)
          (with_reducible refine (C2.out _ ?_ ).mono ?_)
          · exact T1.out
          rintro e w2 ⟨rfl, hb2⟩
          have T2 := Lib.hid (Below.trans T1.out (hb2.mono (by simpa using (show Below w.heap.size w _ from T1.out).size)))
          have d20 : w2.cell? ⟨w.heap.size, 0, none⟩ = some vc := by rw [hb2.cell (hz1)]; exact d10
          have d21 : w2.cell? ⟨w.heap.size, 1, none⟩ = some (.slice A i.stops.length cap) := by rw [hb2.cell (hz1)]; exact d11
          have d22 : w2.cell? ⟨w.heap.size, 2, none⟩ = some vp := by rw [hb2.cell (hz1)]; exact d12
          have d23 : w2.cell? ⟨w.heap.size, 3, none⟩ = some vt := by rw [hb2.cell (hz1)]; exact d13
          have hz2 : w.heap.size < w2.heap.size := by have := hb2.size; omega
          clear d10 d11 d12 d13
          clear hb2
          go_wp2_with (go_at_call 53; fail)
          (with_reducible refine (C3.out _ ?_ HT.out).mono ?_)
          · exact T2.out
          rintro e w3 ⟨rfl, hb3⟩
          have T3 := Lib.hid (Below.trans T2.out (hb3.mono (by simpa using (show Below w.heap.size w _ from T2.out).size)))
          have d30 : w3.cell? ⟨w.heap.size, 0, none⟩ = some vc := by rw [hb3.cell (hz2)]; exact d20
          have d31 : w3.cell? ⟨w.heap.size, 1, none⟩ = some (.slice A i.stops.length cap) := by rw [hb3.cell (hz2)]; exact d21
          have d32 : w3.cell? ⟨w.heap.size, 2, none⟩ = some vp := by rw [hb3.cell (hz2)]; exact d22
          have d33 : w3.cell? ⟨w.heap.size, 3, none⟩ = some vt := by rw [hb3.cell (hz2)]; exact d23
          have hz3 : w.heap.size < w3.heap.size := by have := hb3.size; omega
          clear d20 d21 d22 d23
          clear hb3
          go_wp2_with (go_at_call 54; fail)
          (with_reducible refine (C4.out _ ?_ (by omega)).mono ?_)
          · exact T3.out
          rintro e w4 ⟨rfl, hb4⟩
          have T4 := Lib.hid (Below.trans T3.out (hb4.mono (by simpa using (show Below w.heap.size w _ from T3.out).size)))
          have d40 : w4.cell? ⟨w.heap.size, 0, none⟩ = some vc := by rw [hb4.cell (hz3)]; exact d30
          have d41 : w4.cell? ⟨w.heap.size, 1, none⟩ = some (.slice A i.stops.length cap) := by rw [hb4.cell (hz3)]; exact d31
          have d42 : w4.cell? ⟨w.heap.size, 2, none⟩ = some vp := by rw [hb4.cell (hz3)]; exact d32
          have d43 : w4.cell? ⟨w.heap.size, 3, none⟩ = some vt := by rw [hb4.cell (hz3)]; exact d33
          have hz4 : w.heap.size < w4.heap.size := by have := hb4.size; omega
          clear d30 d31 d32 d33
          clear hb4
          go_wp2
          go_ret
          exact ⟨rfl, T4.out⟩
theorem check_ok {v : Value} {i : Prob} {w : World} (h : Lies w v i) (hs : Short i) (hp : probOk i = true) :
    Calls Try.prog 40 #[v] w fun e w' => e = .returned (.int .i64 0) ∧ Below w.heap.size w w' := by
  have := check_any v i w h hs
  rwa [hp, errOf_true] at this
theorem check_bad {v : Value} {i : Prob} {w : World} (h : Lies w v i) (hs : Short i) (hp : probOk i = false) :
    Calls Try.prog 40 #[v] w fun e w' => e = .returned (.int .i64 1) ∧ Below w.heap.size w w' := by
  have := check_any v i w h hs
  rwa [hp, errOf_false] at this
end Go.Proofs.Ytgkieelacjcopaa
