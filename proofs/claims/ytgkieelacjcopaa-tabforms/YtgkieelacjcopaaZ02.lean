/- inst.Mate, First, and the reference's: what they answer of a problem in memory. · Plain facts of a problem that may be: its bounds, its pairs. · Plain facts, no Go: routes, when they can be driven, what they cost. · Plain facts, no Go: pairs on a route, by counting what is open, and by places. · Plain facts, no Go: heads and tails of a route, when they meet (stage 5). · Plain facts, no Go: the head of all stops and the end make a route just if it can be driven (stage 5). -/
import Derived.Test.YtgkieelacjcopaaZ01
namespace Go.Proofs.Ytgkieelacjcopaa
open Go.RowKit
set_option linter.unusedSimpArgs false
def mateL (s : Int) : List Pair → Int
  | [] => 0
  | p :: l => if p.a = s then p.b else if p.b = s then p.a else mateL s l
def firstL (s : Int) : List Pair → Bool
  | [] => false
  | p :: l => if p.a = s then true else firstL s l
theorem mateL_drop {s : Int} {l : List Pair} {k : Nat} (h : k < l.length) : mateL s (l.drop k) = if l[k].a = s then l[k].b else if l[k].b = s then l[k].a else mateL s (l.drop (k + 1)) := by rw [drop_at h]; rfl
theorem firstL_drop {s : Int} {l : List Pair} {k : Nat} (h : k < l.length) : firstL s (l.drop k) = if l[k].a = s then true else firstL s (l.drop (k + 1)) := by rw [drop_at h]; rfl
theorem ret_i {a b : Int} (h : a = b) : Ending.returned (.int .i64 a) = .returned (.int .i64 b) := by rw [h]
theorem ret_bb {a b : Bool} (h : a = b) : Ending.returned (.bool a) = .returned (.bool b) := by rw [h]

set_option maxRecDepth 100000 in
set_option maxHeartbeats 2000000 in
theorem mate_any (v : Value) (i : Prob) (s : Int) (w : World) (h : Lies w v i) (hs : i.pairs.length ≤ 1099511627776) :
    Calls Try.prog 49 #[v, .int .i64 s] w fun e w' => e = .returned (.int .i64 (mateL s i.pairs)) ∧ Below w.heap.size w w' := by
  obtain ⟨vc, vs, vp, vt, rfl, _, _, ⟨A, cap, rfl, hc⟩, _⟩ := h
  have HC := Lib.hid hc
  clear hc
  go_enter Try.func49, Try.ntmps49
  go_wp2
  go_loopw [10] (fun c wr => ∃ k : Nat, k ≤ i.pairs.length ∧ c = .int .i64 k ∧ mateL s i.pairs = mateL s (i.pairs.drop k) ∧ Below w.heap.size w wr) (fun c _ => i.pairs.length - (intOf c).toNat)
  case atStart => exact ⟨0, Nat.zero_le _, rfl, rfl, (Below.refl _ _).alloc (Nat.le_refl _) _⟩
  case round =>
    obtain ⟨k, hk, rfl, he, hb⟩ := hrel
    by_cases hlt : k < i.pairs.length
    · obtain ⟨B, o, rfl, hB, hcell⟩ := HC.out k hlt
      rw [mateL_drop hlt] at he
      have c0 : wr.cell? ⟨B, o + k * 2, none⟩ = some (.int .i64 i.pairs[k].a) := by rw [hb.cell hB]; exact hcell 0 (by omega)
      have c1 : wr.cell? ⟨B, o + k * 2 + 1, none⟩ = some (.int .i64 i.pairs[k].b) := by rw [hb.cell hB]; exact hcell 1 (by omega)
      have HE := Lib.hid he
      have HB := Lib.hid hb
      clear he hb hcell
      generalize i.pairs[k] = p at *
      by_cases h1 : p.a = s
      · rw [if_pos h1] at HE
        have t1 : (p.a == s) = true := by simpa using h1
        clear h1
        go_wp2
        go_ret
        exact ⟨ret_i HE.out.symm, HB.out.alloc HB.out.size _⟩
      · rw [if_neg h1] at HE
        have t1 : (p.a == s) = false := by simpa using h1
        by_cases h2 : p.b = s
        · rw [if_pos h2] at HE
          have t2 : (p.b == s) = true := by simpa using h2
          clear h1 h2
          go_wp2
          go_ret
          exact ⟨ret_i HE.out.symm, HB.out.alloc HB.out.size _⟩
        · rw [if_neg h2] at HE
          have t2 : (p.b == s) = false := by simpa using h2
          clear h1 h2
          go_wp2
          go_roundw
          case rel => exact ⟨k + 1, by omega, by go_num, HE.out, HB.out.alloc HB.out.size _⟩
          case measure => simp [intOf]; omega
    · have : i.pairs.drop k = [] := List.drop_eq_nil_of_le (by omega)
      rw [this] at he
      have HE := Lib.hid he
      have HB := Lib.hid hb
      clear he hb this
      go_wp2
      go_ret
      exact ⟨ret_i (by rw [HE.out]; rfl), HB.out⟩

set_option maxRecDepth 100000 in
set_option maxHeartbeats 2000000 in
theorem first_any (v : Value) (i : Prob) (s : Int) (w : World) (h : Lies w v i) (hs : i.pairs.length ≤ 1099511627776) :
    Calls Try.prog 46 #[v, .int .i64 s] w fun e w' => e = .returned (.bool (firstL s i.pairs)) ∧ Below w.heap.size w w' := by
  obtain ⟨vc, vs, vp, vt, rfl, _, _, ⟨A, cap, rfl, hc⟩, _⟩ := h
  have HC := Lib.hid hc
  clear hc
  go_enter Try.func46, Try.ntmps46
  go_wp2
  go_loopw [10] (fun c wr => ∃ k : Nat, k ≤ i.pairs.length ∧ c = .int .i64 k ∧ firstL s i.pairs = firstL s (i.pairs.drop k) ∧ Below w.heap.size w wr) (fun c _ => i.pairs.length - (intOf c).toNat)
  case atStart => exact ⟨0, Nat.zero_le _, rfl, rfl, (Below.refl _ _).alloc (Nat.le_refl _) _⟩
  case round =>
    obtain ⟨k, hk, rfl, he, hb⟩ := hrel
    by_cases hlt : k < i.pairs.length
    · obtain ⟨B, o, rfl, hB, hcell⟩ := HC.out k hlt
      rw [firstL_drop hlt] at he
      have c0 : wr.cell? ⟨B, o + k * 2, none⟩ = some (.int .i64 i.pairs[k].a) := by rw [hb.cell hB]; exact hcell 0 (by omega)
      have c1 : wr.cell? ⟨B, o + k * 2 + 1, none⟩ = some (.int .i64 i.pairs[k].b) := by rw [hb.cell hB]; exact hcell 1 (by omega)
      have HE := Lib.hid he
      have HB := Lib.hid hb
      clear he hb hcell
      generalize i.pairs[k] = p at *
      by_cases h1 : p.a = s
      · rw [if_pos h1] at HE
        have t1 : (p.a == s) = true := by simpa using h1
        clear h1
        go_wp2
        go_ret
        exact ⟨ret_bb HE.out.symm, HB.out.alloc HB.out.size _⟩
      · rw [if_neg h1] at HE
        have t1 : (p.a == s) = false := by simpa using h1
        clear h1
        go_wp2
        go_roundw
        case rel => exact ⟨k + 1, by omega, by go_num, HE.out, HB.out.alloc HB.out.size _⟩
        case measure => simp [intOf]; omega
    · have : i.pairs.drop k = [] := List.drop_eq_nil_of_le (by omega)
      rw [this] at he
      have HE := Lib.hid he
      have HB := Lib.hid hb
      clear he hb this
      go_wp2
      go_ret
      exact ⟨ret_bb (by rw [HE.out]; rfl), HB.out⟩

set_option maxRecDepth 100000 in
set_option maxHeartbeats 2000000 in
theorem refmate_any (v : Value) (i : Prob) (s : Int) (w : World) (h : Lies w v i) (hs : i.pairs.length ≤ 1099511627776) :
    Calls Try.prog 34 #[v, .int .i64 s] w fun e w' => e = .returned (.int .i64 (mateL s i.pairs)) ∧ Below w.heap.size w w' := by
  obtain ⟨vc, vs, vp, vt, rfl, _, _, ⟨A, cap, rfl, hc⟩, _⟩ := h
  have HC := Lib.hid hc
  clear hc
  go_enter Try.func34, Try.ntmps34
  go_wp2
  go_loopw [10] (fun c wr => ∃ k : Nat, k ≤ i.pairs.length ∧ c = .int .i64 k ∧ mateL s i.pairs = mateL s (i.pairs.drop k) ∧ Below w.heap.size w wr) (fun c _ => i.pairs.length - (intOf c).toNat)
  case atStart => exact ⟨0, Nat.zero_le _, rfl, rfl, (Below.refl _ _).alloc (Nat.le_refl _) _⟩
  case round =>
    obtain ⟨k, hk, rfl, he, hb⟩ := hrel
    by_cases hlt : k < i.pairs.length
    · obtain ⟨B, o, rfl, hB, hcell⟩ := HC.out k hlt
      rw [mateL_drop hlt] at he
      have c0 : wr.cell? ⟨B, o + k * 2, none⟩ = some (.int .i64 i.pairs[k].a) := by rw [hb.cell hB]; exact hcell 0 (by omega)
      have c1 : wr.cell? ⟨B, o + k * 2 + 1, none⟩ = some (.int .i64 i.pairs[k].b) := by rw [hb.cell hB]; exact hcell 1 (by omega)
      have HE := Lib.hid he
      have HB := Lib.hid hb
      clear he hb hcell
      generalize i.pairs[k] = p at *
      by_cases h1 : p.a = s
      · rw [if_pos h1] at HE
        have t1 : (p.a == s) = true := by simpa using h1
        clear h1
        go_wp2
        go_ret
        exact ⟨ret_i HE.out.symm, HB.out.alloc HB.out.size _⟩
      · rw [if_neg h1] at HE
        have t1 : (p.a == s) = false := by simpa using h1
        by_cases h2 : p.b = s
        · rw [if_pos h2] at HE
          have t2 : (p.b == s) = true := by simpa using h2
          clear h1 h2
          go_wp2
          go_ret
          exact ⟨ret_i HE.out.symm, HB.out.alloc HB.out.size _⟩
        · rw [if_neg h2] at HE
          have t2 : (p.b == s) = false := by simpa using h2
          clear h1 h2
          go_wp2
          go_roundw
          case rel => exact ⟨k + 1, by omega, by go_num, HE.out, HB.out.alloc HB.out.size _⟩
          case measure => simp [intOf]; omega
    · have : i.pairs.drop k = [] := List.drop_eq_nil_of_le (by omega)
      rw [this] at he
      have HE := Lib.hid he
      have HB := Lib.hid hb
      clear he hb this
      go_wp2
      go_ret
      exact ⟨ret_i (by rw [HE.out]; rfl), HB.out⟩

set_option maxRecDepth 100000 in
set_option maxHeartbeats 2000000 in
theorem reffirst_any (v : Value) (i : Prob) (s : Int) (w : World) (h : Lies w v i) (hs : i.pairs.length ≤ 1099511627776) :
    Calls Try.prog 35 #[v, .int .i64 s] w fun e w' => e = .returned (.bool (firstL s i.pairs)) ∧ Below w.heap.size w w' := by
  obtain ⟨vc, vs, vp, vt, rfl, _, _, ⟨A, cap, rfl, hc⟩, _⟩ := h
  have HC := Lib.hid hc
  clear hc
  go_enter Try.func35, Try.ntmps35
  go_wp2
  go_loopw [10] (fun c wr => ∃ k : Nat, k ≤ i.pairs.length ∧ c = .int .i64 k ∧ firstL s i.pairs = firstL s (i.pairs.drop k) ∧ Below w.heap.size w wr) (fun c _ => i.pairs.length - (intOf c).toNat)
  case atStart => exact ⟨0, Nat.zero_le _, rfl, rfl, (Below.refl _ _).alloc (Nat.le_refl _) _⟩
  case round =>
    obtain ⟨k, hk, rfl, he, hb⟩ := hrel
    by_cases hlt : k < i.pairs.length
    · obtain ⟨B, o, rfl, hB, hcell⟩ := HC.out k hlt
      rw [firstL_drop hlt] at he
      have c0 : wr.cell? ⟨B, o + k * 2, none⟩ = some (.int .i64 i.pairs[k].a) := by rw [hb.cell hB]; exact hcell 0 (by omega)
      have c1 : wr.cell? ⟨B, o + k * 2 + 1, none⟩ = some (.int .i64 i.pairs[k].b) := by rw [hb.cell hB]; exact hcell 1 (by omega)
      have HE := Lib.hid he
      have HB := Lib.hid hb
      clear he hb hcell
      generalize i.pairs[k] = p at *
      by_cases h1 : p.a = s
      · rw [if_pos h1] at HE
        have t1 : (p.a == s) = true := by simpa using h1
        clear h1
        go_wp2
        go_ret
        exact ⟨ret_bb HE.out.symm, HB.out.alloc HB.out.size _⟩
      · rw [if_neg h1] at HE
        have t1 : (p.a == s) = false := by simpa using h1
        clear h1
        go_wp2
        go_roundw
        case rel => exact ⟨k + 1, by omega, by go_num, HE.out, HB.out.alloc HB.out.size _⟩
        case measure => simp [intOf]; omega
    · have : i.pairs.drop k = [] := List.drop_eq_nil_of_le (by omega)
      rw [this] at he
      have HE := Lib.hid he
      have HB := Lib.hid hb
      clear he hb this
      go_wp2
      go_ret
      exact ⟨ret_bb (by rw [HE.out]; rfl), HB.out⟩
end Go.Proofs.Ytgkieelacjcopaa
namespace Go.Proofs.Ytgkieelacjcopaa

theorem pairs_in {st : List Stop} : ∀ {l : List Pair} {seen : List Int}, pairsFrom st seen l = true → ∀ p ∈ l, 1 ≤ p.a ∧ p.a ≤ st.length ∧ 1 ≤ p.b ∧ p.b ≤ st.length
  | [], _, _, p, hp => by simp at hp
  | q :: l, seen, h, p, hp => by
    simp only [pairsFrom, Bool.and_eq_true] at h
    rcases List.mem_cons.1 hp with rfl | hp
    · have h1 := h.1
      simp only [pairOk, Bool.and_eq_true, inB_iff] at h1
      omega
    · exact pairs_in h.2 p hp
theorem rows_in {size : Nat} : ∀ {l : List (List Int)} {k : Nat}, rowsFrom size k l = true → ∀ r ∈ l, r.length = size ∧ ∀ n ∈ r, 0 ≤ n ∧ n ≤ 1000
  | [], _, _, r, hr => by simp at hr
  | q :: l, k, h, r, hr => by
    simp only [rowsFrom, Bool.and_eq_true] at h
    rcases List.mem_cons.1 hr with rfl | hr
    · have h1 := h.1
      simp only [rowOk, Bool.and_eq_true, decide_eq_true_eq, List.all_eq_true, inB_iff] at h1
      exact ⟨h1.1.1, fun n hn => h1.2 n hn⟩
    · exact rows_in h.2 r hr
/-- what a problem that may be has -/
structure Fine (i : Prob) : Prop where
  cars : 1 ≤ i.cars.length ∧ i.cars.length ≤ 3
  stops : i.stops.length ≤ 10
  travel : i.travel.length = i.stops.length + 1
  carF : ∀ c ∈ i.cars, 0 ≤ c.c ∧ c.c ≤ 60 ∧ 0 ≤ c.s ∧ c.s ≤ c.e ∧ c.e ≤ 1000
  stopF : ∀ c ∈ i.stops, -20 ≤ c.d ∧ c.d ≤ 20 ∧ 0 ≤ c.s ∧ c.s ≤ 1000 ∧ 0 ≤ c.o ∧ c.o ≤ c.c ∧ c.c ≤ 1000
  pairF : ∀ p ∈ i.pairs, 1 ≤ p.a ∧ p.a ≤ i.stops.length ∧ 1 ≤ p.b ∧ p.b ≤ i.stops.length
  rowF : ∀ c ∈ i.travel, ∀ n ∈ c, 0 ≤ n ∧ n ≤ 1000
  rowL : ∀ c ∈ i.travel, c.length = i.stops.length + 1
theorem fine_of {i : Prob} (h : probOk i = true) : Fine i := by
  simp only [probOk, carsOk, stopsOk, travelOk, Bool.and_eq_true, decide_eq_true_eq, inB_iff, List.all_eq_true] at h
  obtain ⟨⟨⟨⟨h1, h2⟩, h3, h4⟩, h5⟩, h6, h7⟩ := h
  refine ⟨by omega, h3, h6, fun c hc => ?_, fun c hc => ?_, pairs_in h5, fun c hc n hn => (rows_in h7 c hc).2 n hn, fun c hc => (rows_in h7 c hc).1⟩
  · have := h2 c hc
    simp only [carOk, Bool.and_eq_true, inB_iff, decide_eq_true_eq] at this
    omega
  · have := h4 c hc
    simp only [stopOk, Bool.and_eq_true, inB_iff, decide_eq_true_eq] at this
    omega
/-- all that pairs name -/
def flatP : List Pair → List Int
  | [] => []
  | p :: l => p.a :: p.b :: flatP l
theorem flatP_len : ∀ l : List Pair, (flatP l).length = 2 * l.length
  | [] => rfl
  | p :: l => by simp only [flatP, List.length_cons, flatP_len l]; omega
theorem flat_of {st : List Stop} : ∀ {l : List Pair} {seen : List Int}, pairsFrom st seen l = true → (flatP l).Nodup ∧ ∀ x ∈ flatP l, x ∉ seen ∧ 1 ≤ x ∧ x ≤ st.length
  | [], _, _ => ⟨List.nodup_nil, fun x hx => by simp [flatP] at hx⟩
  | p :: l, seen, h => by
    simp only [pairsFrom, Bool.and_eq_true] at h
    obtain ⟨g1, g2⟩ := flat_of h.2
    have h1 := h.1
    simp only [pairOk, Bool.and_eq_true, inB_iff, Bool.not_eq_true', List.contains_eq_mem, decide_eq_false_iff_not] at h1
    obtain ⟨⟨⟨ha, ha2⟩, hb, hb2⟩, _⟩ := h1
    refine ⟨?_, fun x hx => ?_⟩
    · simp only [flatP, List.nodup_cons, List.mem_cons]
      refine ⟨fun e => ?_, fun e => (g2 _ e).1 (by simp), g1⟩
      rcases e with e | e
      · exact hb2 (by simp [e])
      · exact (g2 _ e).1 (by simp)
    · simp only [flatP, List.mem_cons] at hx
      rcases hx with rfl | rfl | hx
      · exact ⟨ha2, ha⟩
      · exact ⟨fun e => hb2 (by simp [e]), hb⟩
      · obtain ⟨q1, q2⟩ := g2 x hx
        exact ⟨fun e => q1 (by simp [e]), q2⟩
theorem mate_out {x : Int} : ∀ {l : List Pair}, x ∉ flatP l → mateL x l = 0 ∧ firstL x l = false
  | [], _ => ⟨rfl, rfl⟩
  | p :: l, h => by
    simp only [flatP, List.mem_cons, not_or] at h
    obtain ⟨h1, h2⟩ := mate_out h.2.2
    have e1 : ¬ p.a = x := fun e => h.1 e.symm
    have e2 : ¬ p.b = x := fun e => h.2.1 e.symm
    simp only [mateL, firstL, e1, e2, if_false, h1, h2, and_self]
theorem mate_in {x : Int} : ∀ {l : List Pair}, (flatP l).Nodup → x ∈ flatP l → ∃ y ∈ flatP l, mateL x l = y ∧ mateL y l = x ∧ y ≠ x ∧ firstL x l ≠ firstL y l
  | [], _, h => by simp [flatP] at h
  | p :: l, hn, h => by
    simp only [flatP, List.nodup_cons, List.mem_cons, not_or] at hn h
    obtain ⟨⟨h1, h2⟩, h3, h4⟩ := hn
    have h1' : ¬ p.b = p.a := fun e => h1 e.symm
    rcases h with rfl | rfl | h
    · exact ⟨p.b, by simp [flatP], by simp [mateL], by simp [mateL, h1], h1', by simp [firstL, h1, (mate_out h3).2]⟩
    · exact ⟨p.a, by simp [flatP], by simp [mateL, h1], by simp [mateL], h1, by simp [firstL, h1, (mate_out h3).2]⟩
    · obtain ⟨y, hy, e1, e2, e3, e4⟩ := mate_in h4 h
      have x1 : ¬ p.a = x := fun e => h2 (e ▸ h)
      have x2 : ¬ p.b = x := fun e => h3 (e ▸ h)
      have y1 : ¬ p.a = y := fun e => h2 (e ▸ hy)
      have y2 : ¬ p.b = y := fun e => h3 (e ▸ hy)
      exact ⟨y, by simp [flatP, hy], by simp [mateL, x1, x2, e1], by simp [mateL, y1, y2, e2], e3, by simpa [firstL, x1, y1] using e4⟩
end Go.Proofs.Ytgkieelacjcopaa
namespace Go.Proofs.Ytgkieelacjcopaa

def stopAt (i : Prob) (x : Int) : Stop := (i.stops[(x - 1).toNat]?).getD ⟨0, 0, 0, 0⟩
def way (i : Prob) (a b : Int) : Int := (((i.travel[a.toNat]?).getD [])[b.toNat]?).getD 0
def thereB (i : Prob) (l : List Int) : Bool := l.all fun s => inB s 1 i.stops.length
def costL (i : Prob) : Int → List Int → Int
  | last, [] => way i last 0
  | last, s :: l => way i last s + costL i s l
def nodupL : List Int → List Int → Bool
  | _, [] => true
  | met, s :: l => !met.contains s && nodupL (s :: met) l
def pairsL (ps : List Pair) : List Int → Int → List Int → Bool
  | _, op, [] => op == 0
  | met, op, s :: l => if mateL s ps = 0 then pairsL ps (s :: met) op l else if firstL s ps = true then pairsL ps (s :: met) (op + 1) l
    else if (s :: met).contains (mateL s ps) = true then pairsL ps (s :: met) (op - 1) l else false
structure Drive where
  arr : List Int
  load : List Int
  home : Int
def Drive.more (arr load : List Int) (d : Drive) : Drive := ⟨arr ++ d.arr, load ++ d.load, d.home⟩
def begun (i : Prob) (last left s : Int) : Int := max (stopAt i s).o (left + way i last s)
def driveL (i : Prob) (c : Car) : Int → Int → Int → List Int → Option Drive
  | last, left, _, [] => if c.e < left + way i last 0 then none else some ⟨[], [], left + way i last 0⟩
  | last, left, ld, s :: l => if (stopAt i s).c < begun i last left s ∨ ld + (stopAt i s).d < 0 ∨ c.c < ld + (stopAt i s).d then none
    else (driveL i c s (begun i last left s + (stopAt i s).s) (ld + (stopAt i s).d) l).map (Drive.more [begun i last left s] [ld + (stopAt i s).d])
structure TripR where
  arr : List Int
  load : List Int
  cost : Int
  home : Int
deriving DecidableEq
def carAt (i : Prob) (c : Int) : Car := (i.cars[c.toNat]?).getD ⟨0, 0, 0⟩
def evalL (i : Prob) (c : Int) (l : List Int) : Option TripR :=
  if (inB c 0 (i.cars.length - 1) && thereB i l && nodupL [] l && pairsL i.pairs [] 0 l) = true then
    (driveL i (carAt i c) 0 (carAt i c).s 0 l).map fun d => ⟨d.arr, d.load, costL i 0 l, d.home⟩
  else none
def costP (i : Prob) (l : List Int) : Int := if thereB i l = true then costL i 0 l else 0

theorem stopAt_nat (i : Prob) {k : Nat} (h : k < i.stops.length) : stopAt i ((k : Int) + 1) = i.stops[k] := by
  unfold stopAt
  rw [show ((k : Int) + 1 - 1).toNat = k by omega, List.getElem?_eq_getElem h]
  rfl
theorem carAt_nat (i : Prob) {k : Nat} (h : k < i.cars.length) : carAt i (k : Int) = i.cars[k] := by
  unfold carAt
  rw [show ((k : Int)).toNat = k by omega, List.getElem?_eq_getElem h]
  rfl
theorem way_nat (i : Prob) {a b : Nat} (ha : a < i.travel.length) (hb : b < i.travel[a].length) : way i (a : Int) (b : Int) = i.travel[a][b] := by
  unfold way
  rw [show ((a : Int)).toNat = a by omega, show ((b : Int)).toNat = b by omega, List.getElem?_eq_getElem ha, Option.getD_some, List.getElem?_eq_getElem hb]
  rfl
theorem way_bounds {i : Prob} (h : Fine i) (a b : Int) : 0 ≤ way i a b ∧ way i a b ≤ 1000 := by
  unfold way
  cases ha : i.travel[a.toNat]? with
  | none => simp
  | some r =>
    rw [Option.getD_some]
    cases hb : r[b.toNat]? with
    | none => simp
    | some x => exact h.rowF r (List.mem_of_getElem? ha) x (List.mem_of_getElem? hb)
theorem stopAt_bounds {i : Prob} (h : Fine i) (x : Int) : -20 ≤ (stopAt i x).d ∧ (stopAt i x).d ≤ 20 ∧ 0 ≤ (stopAt i x).s ∧ (stopAt i x).s ≤ 1000 ∧ 0 ≤ (stopAt i x).o ∧ (stopAt i x).o ≤ (stopAt i x).c ∧ (stopAt i x).c ≤ 1000 := by
  unfold stopAt
  cases hk : i.stops[(x - 1).toNat]? with
  | none => simp
  | some r => exact h.stopF r (List.mem_of_getElem? hk)
theorem costL_drop {i : Prob} {l : List Int} {last : Int} {k : Nat} (h : k < l.length) : costL i last (l.drop k) = way i last l[k] + costL i l[k] (l.drop (k + 1)) := by rw [drop_at h]; rfl
theorem nodupL_drop {met l : List Int} {k : Nat} (h : k < l.length) : nodupL met (l.drop k) = (!met.contains l[k] && nodupL (l[k] :: met) (l.drop (k + 1))) := by rw [drop_at h]; rfl
theorem pairsL_drop {ps : List Pair} {met l : List Int} {op : Int} {k : Nat} (h : k < l.length) : pairsL ps met op (l.drop k) = if mateL l[k] ps = 0 then pairsL ps (l[k] :: met) op (l.drop (k + 1)) else if firstL l[k] ps = true then pairsL ps (l[k] :: met) (op + 1) (l.drop (k + 1))
    else if (l[k] :: met).contains (mateL l[k] ps) = true then pairsL ps (l[k] :: met) (op - 1) (l.drop (k + 1)) else false := by rw [drop_at h]; rfl
theorem driveL_drop {i : Prob} {c : Car} {last left ld : Int} {l : List Int} {k : Nat} (h : k < l.length) : driveL i c last left ld (l.drop k) = if (stopAt i l[k]).c < begun i last left l[k] ∨ ld + (stopAt i l[k]).d < 0 ∨ c.c < ld + (stopAt i l[k]).d then none
    else (driveL i c l[k] (begun i last left l[k] + (stopAt i l[k]).s) (ld + (stopAt i l[k]).d) (l.drop (k + 1))).map (Drive.more [begun i last left l[k]] [ld + (stopAt i l[k]).d]) := by rw [drop_at h]; rfl
theorem more_more (a b c d : List Int) (x : Option Drive) : (x.map (Drive.more c d)).map (Drive.more a b) = x.map (Drive.more (a ++ c) (b ++ d)) := by
  cases x with
  | none => rfl
  | some x => simp [Drive.more]
theorem more_nil (x : Option Drive) : x.map (Drive.more [] []) = x := by
  cases x with
  | none => rfl
  | some x => simp [Drive.more]
theorem thereB_at {i : Prob} {l : List Int} (h : thereB i l = true) {k : Nat} (hk : k < l.length) : ∃ q : Nat, q < i.stops.length ∧ l[k] = (q : Int) + 1 := by
  unfold thereB at h
  rw [List.all_eq_true] at h
  have := inB_iff.1 (h l[k] (List.getElem_mem _))
  exact ⟨(l[k] - 1).toNat, by omega, by omega⟩
theorem nodupL_iff : ∀ (l met : List Int), nodupL met l = true ↔ l.Nodup ∧ ∀ x ∈ l, x ∉ met
  | [], met => by simp [nodupL]
  | s :: l, met => by
    simp only [nodupL, Bool.and_eq_true, Bool.not_eq_true', List.contains_eq_mem, decide_eq_false_iff_not, nodupL_iff l, List.nodup_cons, List.mem_cons, forall_eq_or_imp]
    constructor
    · rintro ⟨h1, h2, h3⟩
      refine ⟨⟨fun hs => h3 s hs (by simp), h2⟩, h1, fun x hx hm => h3 x hx (by simp [hm])⟩
    · rintro ⟨⟨h1, h2⟩, h3, h4⟩
      refine ⟨h3, h2, fun x hx hm => ?_⟩
      rcases hm with rfl | hm
      · exact h1 hx
      · exact h4 x hx hm
theorem drive_len {i : Prob} {c : Car} : ∀ {l : List Int} {last left ld : Int} {d : Drive}, driveL i c last left ld l = some d → d.arr.length = l.length ∧ d.load.length = l.length
  | [], last, left, ld, d, h => by
    simp only [driveL] at h
    split at h
    · cases h
    · cases h; exact ⟨rfl, rfl⟩
  | s :: l, last, left, ld, d, h => by
    simp only [driveL] at h
    split at h
    · cases h
    · rw [Option.map_eq_some_iff] at h
      obtain ⟨d', h1, rfl⟩ := h
      obtain ⟨h2, h3⟩ := drive_len h1
      simp [Drive.more, h2, h3]
theorem costL_bounds {i : Prob} (h : Fine i) : ∀ (l : List Int) (last : Int), 0 ≤ costL i last l ∧ costL i last l ≤ 1000 * (l.length : Int) + 1000
  | [], last => by have := way_bounds h last 0; simp only [costL, List.length_nil]; omega
  | s :: l, last => by
    have h1 := way_bounds h last s
    have h2 := costL_bounds h l s
    simp only [costL, List.length_cons]
    omega
theorem rows_diag {size : Nat} : ∀ {l : List (List Int)} {k : Nat}, rowsFrom size k l = true → ∀ j (h : j < l.length), (l[j][k + j]?).getD 0 = 0
  | [], _, _, j, h => by simp at h
  | r :: l, k, h, 0, _ => by
    simp only [rowsFrom, Bool.and_eq_true, rowOk, beq_iff_eq] at h
    simpa using h.1.1.2
  | r :: l, k, h, j + 1, hj => by
    simp only [rowsFrom, Bool.and_eq_true] at h
    have := rows_diag h.2 j (by simpa using hj)
    simpa [show k + (j + 1) = k + 1 + j by omega] using this
theorem way_diag {i : Prob} (h : probOk i = true) (a : Nat) : way i a a = 0 := by
  simp only [probOk, travelOk, Bool.and_eq_true, decide_eq_true_eq] at h
  unfold way
  rw [show ((a : Int)).toNat = a by omega]
  by_cases ha : a < i.travel.length
  · rw [List.getElem?_eq_getElem ha, Option.getD_some]
    simpa using rows_diag h.2.2 a ha
  · rw [List.getElem?_eq_none (show i.travel.length ≤ a by omega)]; rfl
theorem costL_snoc (i : Prob) (s : Int) : ∀ (l : List Int) (last : Int), costL i last (l ++ [s]) = costL i last l - way i (l.getLastD last) 0 + way i (l.getLastD last) s + way i s 0
  | [], last => by simp [costL]
  | x :: l, last => by
    rw [List.cons_append, costL, costL_snoc i s l x]
    simp only [costL]
    rw [List.getLastD_cons]
    omega
end Go.Proofs.Ytgkieelacjcopaa
namespace Go.Proofs.Ytgkieelacjcopaa

theorem mem_flat {x : Int} : ∀ {ps : List Pair}, x ∈ flatP ps → ∃ p ∈ ps, x = p.a ∨ x = p.b
  | [], h => by simp [flatP] at h
  | q :: l, h => by
    simp only [flatP, List.mem_cons] at h
    rcases h with rfl | rfl | h
    · exact ⟨q, by simp, .inl rfl⟩
    · exact ⟨q, by simp, .inr rfl⟩
    · obtain ⟨p, hp, h⟩ := mem_flat h
      exact ⟨p, by simp [hp], h⟩
theorem flat_mem {p : Pair} : ∀ {ps : List Pair}, p ∈ ps → p.a ∈ flatP ps ∧ p.b ∈ flatP ps
  | [], h => by simp at h
  | q :: l, h => by
    simp only [flatP, List.mem_cons] at h ⊢
    rcases h with rfl | h
    · exact ⟨.inl rfl, .inr (.inl rfl)⟩
    · have := flat_mem h
      exact ⟨.inr (.inr this.1), .inr (.inr this.2)⟩
def sgn (s : Int) : List Pair → Int
  | [] => 0
  | p :: l => (if p.a = s then 1 else 0) - (if p.b = s then 1 else 0) + sgn s l
theorem sgn_out {s : Int} : ∀ {ps : List Pair}, s ∉ flatP ps → sgn s ps = 0
  | [], _ => rfl
  | q :: l, h => by
    simp only [flatP, List.mem_cons, not_or] at h
    rw [sgn, sgn_out h.2.2, if_neg (fun e => h.1 e.symm), if_neg (fun e => h.2.1 e.symm)]; rfl
theorem of_a {p : Pair} : ∀ {ps : List Pair}, (flatP ps).Nodup → p ∈ ps → mateL p.a ps = p.b ∧ firstL p.a ps = true ∧ sgn p.a ps = 1
  | [], _, h => by simp at h
  | q :: l, hn, h => by
    simp only [flatP, List.nodup_cons, List.mem_cons, not_or] at hn
    obtain ⟨⟨h1, h2⟩, h3, h4⟩ := hn
    rcases List.mem_cons.1 h with rfl | h
    · refine ⟨by simp [mateL], by simp [firstL], ?_⟩
      rw [sgn, sgn_out h2, if_pos rfl, if_neg (fun e => h1 e.symm)]; rfl
    · obtain ⟨e1, e2, e3⟩ := of_a h4 h
      have hm := flat_mem h
      have n1 : ¬ q.a = p.a := fun e => h2 (e ▸ hm.1)
      have n2 : ¬ q.b = p.a := fun e => h3 (e ▸ hm.1)
      refine ⟨by simp [mateL, n1, n2, e1], by simp [firstL, n1, e2], ?_⟩
      rw [sgn, e3, if_neg n1, if_neg n2]; rfl
theorem of_b {p : Pair} : ∀ {ps : List Pair}, (flatP ps).Nodup → p ∈ ps → mateL p.b ps = p.a ∧ firstL p.b ps = false ∧ sgn p.b ps = -1
  | [], _, h => by simp at h
  | q :: l, hn, h => by
    simp only [flatP, List.nodup_cons, List.mem_cons, not_or] at hn
    obtain ⟨⟨h1, h2⟩, h3, h4⟩ := hn
    rcases List.mem_cons.1 h with rfl | h
    · have e := mate_out h3
      refine ⟨by simp [mateL, h1], by simp [firstL, h1, e.2], ?_⟩
      rw [sgn, sgn_out h3, if_neg h1, if_pos rfl]; rfl
    · obtain ⟨e1, e2, e3⟩ := of_b h4 h
      have hm := flat_mem h
      have n1 : ¬ q.a = p.b := fun e => h2 (e ▸ hm.2)
      have n2 : ¬ q.b = p.b := fun e => h3 (e ▸ hm.2)
      refine ⟨by simp [mateL, n1, n2, e1], by simp [firstL, n1, e2], ?_⟩
      rw [sgn, e3, if_neg n1, if_neg n2]; rfl
def opN (m : List Int) : List Pair → Int
  | [] => 0
  | p :: l => (if p.a ∈ m then 1 else 0) - (if p.b ∈ m then 1 else 0) + opN m l
theorem opN_cons {s : Int} {m : List Int} (h : s ∉ m) : ∀ (ps : List Pair), opN (s :: m) ps = opN m ps + sgn s ps
  | [] => rfl
  | p :: l => by
    have e1 : (if p.a ∈ s :: m then (1 : Int) else 0) = (if p.a ∈ m then 1 else 0) + (if p.a = s then 1 else 0) := by
      by_cases ha : p.a = s
      · rw [ha]; simp [h]
      · simp [ha]
    have e2 : (if p.b ∈ s :: m then (1 : Int) else 0) = (if p.b ∈ m then 1 else 0) + (if p.b = s then 1 else 0) := by
      by_cases ha : p.b = s
      · rw [ha]; simp [h]
      · simp [ha]
    simp only [opN, sgn]
    rw [e1, e2, opN_cons h l]
    omega
def goodL (ps : List Pair) : List Int → List Int → Prop
  | _, [] => True
  | met, s :: l => (∀ p ∈ ps, p.b = s → p.a ∈ met) ∧ goodL ps (s :: met) l
theorem pairsL_good {ps : List Pair} (hn : (flatP ps).Nodup) (h0 : ∀ x ∈ flatP ps, 1 ≤ x) : ∀ (l met : List Int), l.Nodup → (∀ x ∈ l, x ∉ met) → (pairsL ps met (opN met ps) l = true ↔ goodL ps met l ∧ opN (l.reverse ++ met) ps = 0)
  | [], met, _, _ => by simp [pairsL, goodL]
  | s :: l, met, hl, hd => by
    rw [List.nodup_cons] at hl
    have hs : s ∉ met := hd s (by simp)
    have ih := pairsL_good hn h0 l (s :: met) hl.2 (fun x hx hm => by
      rcases List.mem_cons.1 hm with rfl | hm
      · exact hl.1 hx
      · exact hd x (by simp [hx]) hm)
    rw [opN_cons hs] at ih
    have hr : (s :: l).reverse ++ met = l.reverse ++ s :: met := by simp
    rw [hr]
    simp only [goodL]
    rw [pairsL]
    by_cases hf : s ∈ flatP ps
    · obtain ⟨p, hp, rfl | rfl⟩ := mem_flat hf
      · obtain ⟨e1, e2, e3⟩ := of_a hn hp
        have hb := h0 _ (flat_mem hp).2
        rw [e1, e2, if_neg (by omega), if_pos rfl]
        rw [e3] at ih
        rw [ih, and_assoc]
        refine ⟨fun h => ⟨fun p' hp' e => ?_, h⟩, fun h => h.2⟩
        have := (of_b hn hp').2.1
        rw [e, e2] at this
        cases this
      · obtain ⟨e1, e2, e3⟩ := of_b hn hp
        have ha := h0 _ (flat_mem hp).1
        rw [e1, e2, if_neg (by omega), if_neg (by decide)]
        rw [e3, ← Int.sub_eq_add_neg] at ih
        have key : (∀ p' ∈ ps, p'.b = p.b → p'.a ∈ met) ↔ p.a ∈ met := by
          refine ⟨fun h => h p hp rfl, fun h p' hp' e => ?_⟩
          have := (of_b hn hp').1
          rw [e, e1] at this
          rw [← this]; exact h
        have hne : p.a ≠ p.b := fun e => by
          have := (of_a hn hp).2.1
          rw [e, e2] at this
          cases this
        rw [key]
        by_cases hm : p.a ∈ met
        · rw [if_pos (by simp [hm]), ih]
          simp [hm]
        · rw [if_neg (by simp [hm, hne])]
          simp [hm]
    · obtain ⟨e1, e2⟩ := mate_out hf
      rw [e1, if_pos rfl]
      rw [sgn_out hf, Int.add_zero] at ih
      rw [ih, and_assoc]
      refine ⟨fun h => ⟨fun p' hp' e => absurd (e ▸ (flat_mem hp').2) hf, h⟩, fun h => h.2⟩
theorem idx_tail {s x : Int} {l : List Int} (h : s ≠ x) : (s :: l).idxOf x = l.idxOf x + 1 := by
  rw [List.idxOf_cons, show (s == x) = false by simpa using h]
  rfl
theorem good_iff {ps : List Pair} : ∀ (l met : List Int), l.Nodup → (goodL ps met l ↔ ∀ p ∈ ps, p.b ∈ l → p.a ∈ met ∨ (p.a ∈ l ∧ l.idxOf p.a < l.idxOf p.b))
  | [], met, _ => by simp [goodL]
  | s :: l, met, hl => by
    rw [List.nodup_cons] at hl
    simp only [goodL]
    rw [good_iff l (s :: met) hl.2]
    constructor
    · rintro ⟨h1, h2⟩ p hp hb
      by_cases e : p.b = s
      · exact .inl (h1 p hp e)
      · have hb' : p.b ∈ l := by simpa [e] using hb
        have ib : (s :: l).idxOf p.b = l.idxOf p.b + 1 := idx_tail (fun h => e h.symm)
        rcases h2 p hp hb' with h | ⟨h, hi⟩
        · rcases List.mem_cons.1 h with h | h
          · exact .inr ⟨by simp [h], by rw [ib, h]; simp⟩
          · exact .inl h
        · by_cases ea : p.a = s
          · exact .inr ⟨by simp [ea], by rw [ib, ea]; simp⟩
          · refine .inr ⟨by simp [h], ?_⟩
            rw [ib, idx_tail (fun h => ea h.symm)]
            omega
    · intro H
      refine ⟨fun p hp e => ?_, fun p hp hb => ?_⟩
      · rcases H p hp (by simp [e]) with h | ⟨_, h⟩
        · exact h
        · rw [e] at h; simp at h
      · have e : p.b ≠ s := fun e => hl.1 (e ▸ hb)
        have ib : (s :: l).idxOf p.b = l.idxOf p.b + 1 := idx_tail (fun h => e h.symm)
        rcases H p hp (by simp [hb]) with h | ⟨h, hi⟩
        · exact .inl (by simp [h])
        · rcases List.mem_cons.1 h with h | h
          · exact .inl (by simp [h])
          · by_cases ea : p.a = s
            · exact .inl (by simp [ea])
            · refine .inr ⟨h, ?_⟩
              rw [ib, idx_tail (fun h => ea h.symm)] at hi
              omega
theorem opN_zero {m : List Int} : ∀ {ps : List Pair}, (∀ p ∈ ps, p.b ∈ m → p.a ∈ m) → 0 ≤ opN m ps ∧ (opN m ps = 0 ↔ ∀ p ∈ ps, (p.a ∈ m ↔ p.b ∈ m))
  | [], _ => by simp [opN]
  | q :: l, h => by
    obtain ⟨i1, i2⟩ := opN_zero (ps := l) (fun p hp => h p (by simp [hp]))
    have hq := h q (by simp)
    simp only [opN, List.mem_cons, forall_eq_or_imp]
    by_cases ha : q.a ∈ m
    · by_cases hb : q.b ∈ m
      · simp only [ha, hb, if_true]
        exact ⟨by omega, by rw [← i2]; simp⟩
      · simp only [ha, hb, if_true, if_false]
        refine ⟨by omega, ⟨fun e => by omega, fun e => absurd (e.1.1 trivial) (by simp)⟩⟩
    · have hb : q.b ∉ m := fun e => ha (hq e)
      simp only [ha, hb, if_false]
      exact ⟨by omega, by rw [← i2]; simp⟩
/-- both of a pair are there, the first one ahead, or none -/
def PairsOn (ps : List Pair) (l : List Int) : Prop := ∀ p ∈ ps, (p.a ∈ l ↔ p.b ∈ l) ∧ (p.a ∈ l → l.idxOf p.a < l.idxOf p.b)
theorem pairsL_on {ps : List Pair} (hn : (flatP ps).Nodup) (h0 : ∀ x ∈ flatP ps, 1 ≤ x) {l : List Int} (hl : l.Nodup) : pairsL ps [] 0 l = true ↔ PairsOn ps l := by
  have h1 := pairsL_good hn h0 l [] hl (fun x _ h => by simp at h)
  have h2 : opN [] ps = 0 := by
    have : ∀ qs : List Pair, opN [] qs = 0 := fun qs => by
      induction qs with
      | nil => rfl
      | cons q l ih => simp [opN, ih]
    exact this ps
  rw [h2, good_iff l [] hl] at h1
  rw [h1, List.append_nil]
  unfold PairsOn
  constructor
  · rintro ⟨h3, h4⟩
    have h5 : ∀ p ∈ ps, p.b ∈ l.reverse → p.a ∈ l.reverse := fun p hp hb => by
      rcases h3 p hp (by simpa using hb) with h | h
      · simp at h
      · simpa using h.1
    have h6 := (opN_zero h5).2.1 h4
    intro p hp
    have h7 := h6 p hp
    simp only [List.mem_reverse] at h7
    refine ⟨h7, fun ha => ?_⟩
    rcases h3 p hp (h7.1 ha) with h | h
    · simp at h
    · exact h.2
  · intro H
    refine ⟨fun p hp hb => .inr ⟨(H p hp).1.2 hb, (H p hp).2 ((H p hp).1.2 hb)⟩, ?_⟩
    have h5 : ∀ p ∈ ps, p.b ∈ l.reverse → p.a ∈ l.reverse := fun p hp hb => by
      simp only [List.mem_reverse] at hb ⊢
      exact (H p hp).1.2 hb
    exact (opN_zero h5).2.2 (fun p hp => by simp only [List.mem_reverse]; exact (H p hp).1)
theorem pairs_of {i : Prob} (h : probOk i = true) : (flatP i.pairs).Nodup ∧ ∀ x ∈ flatP i.pairs, 1 ≤ x := by
  simp only [probOk, Bool.and_eq_true] at h
  obtain ⟨h1, h2⟩ := flat_of h.1.2
  exact ⟨h1, fun x hx => (h2 x hx).2.1⟩
end Go.Proofs.Ytgkieelacjcopaa
namespace Go.Proofs.Ytgkieelacjcopaa

def digit (s : Int) : Nat := 2 ^ s.toNat
def hasD (S : Nat) (s : Int) : Bool := S.testBit s.toNat
theorem test_digit (s : Int) (k : Nat) : (digit s).testBit k = decide (s.toNat = k) := by unfold digit; rw [Nat.testBit_two_pow]
theorem or_and_zero {S T : Nat} {s : Int} : (S ||| digit s) &&& T = 0 ↔ hasD T s = false ∧ S &&& T = 0 := by
  constructor
  · intro h
    have h1 : ∀ k, ((S ||| digit s) &&& T).testBit k = false := fun k => by rw [h, Nat.zero_testBit]
    refine ⟨?_, Nat.eq_of_testBit_eq fun k => ?_⟩
    · have := h1 s.toNat
      rw [Nat.testBit_and, Nat.testBit_or, test_digit] at this
      simpa [hasD] using this
    · have := h1 k
      rw [Nat.testBit_and, Nat.testBit_or] at this
      rw [Nat.testBit_and, Nat.zero_testBit]
      cases hS : S.testBit k <;> cases hT : T.testBit k <;> simp_all
  · rintro ⟨h1, h2⟩
    refine Nat.eq_of_testBit_eq fun k => ?_
    have h3 : (S &&& T).testBit k = false := by rw [h2, Nat.zero_testBit]
    rw [Nat.testBit_and] at h3
    rw [Nat.testBit_and, Nat.testBit_or, test_digit, Nat.zero_testBit]
    by_cases hk : s.toNat = k
    · subst hk; simp only [hasD] at h1; simp [h1]
    · simp [hk, h3]
theorem and_or_zero {S T : Nat} {s : Int} : S &&& (T ||| digit s) = 0 ↔ hasD S s = false ∧ S &&& T = 0 := by
  rw [Nat.and_comm, or_and_zero, Nat.and_comm T S]
theorem or_eq {O N : Nat} {s : Int} (h : hasD O s = false) : O ||| digit s = N ↔ hasD N s = true ∧ O = N ^^^ digit s := by
  constructor
  · rintro rfl
    refine ⟨by simp [hasD, Nat.testBit_or, test_digit], Nat.eq_of_testBit_eq fun k => ?_⟩
    rw [Nat.testBit_xor, Nat.testBit_or, test_digit]
    by_cases hk : s.toNat = k
    · subst hk; simp only [hasD] at h; simp [h]
    · simp [hk]
  · rintro ⟨h1, rfl⟩
    refine Nat.eq_of_testBit_eq fun k => ?_
    rw [Nat.testBit_or, Nat.testBit_xor, test_digit]
    by_cases hk : s.toNat = k
    · subst hk; simp only [hasD] at h1; simp [h1]
    · simp [hk]
theorem xor_eq {O N : Nat} {m : Int} (h : hasD N m = false) : hasD O m = true ∧ O ^^^ digit m = N ↔ O = N ||| digit m := by
  rw [eq_comm (a := O) (b := N ||| digit m), or_eq h, eq_comm (a := N)]
theorem hasD_or {S : Nat} {s x : Int} : hasD (S ||| digit s) x = (hasD S x || decide (s.toNat = x.toNat)) := by unfold hasD; rw [Nat.testBit_or, test_digit]
theorem hasD_xor {S : Nat} {s x : Int} : hasD (S ^^^ digit s) x = (hasD S x ^^ decide (s.toNat = x.toNat)) := by unfold hasD; rw [Nat.testBit_xor, test_digit]

structure HeadP where
  last : Int
  leave : Int
  load : Int
  opn : Nat
  set : Nat
  cost : Int
deriving DecidableEq
structure TailP where
  first : Int
  late : Int
  low : Int
  high : Int
  need : Nat
  set : Nat
  cost : Int
deriving DecidableEq
/-- when stop s is begun behind head h -/
def beginP (i : Prob) (h : HeadP) (s : Int) : Int := max (h.leave + way i h.last s) (stopAt i s).o
/-- what is open behind a stop; what is needed ahead of one -/
def opnP (i : Prob) (O : Nat) (s : Int) : Option Nat := if mateL s i.pairs = 0 then some O else if firstL s i.pairs = true then some (O ||| digit s) else if hasD O (mateL s i.pairs) = true then some (O ^^^ digit (mateL s i.pairs)) else none
def needP (i : Prob) (N : Nat) (s : Int) : Option Nat := if mateL s i.pairs = 0 then some N else if firstL s i.pairs = false then some (N ||| digit (mateL s i.pairs)) else if hasD N s = true then some (N ^^^ digit s) else none
def ExtOk (i : Prob) (c : Int) (h : HeadP) (s : Int) : Prop := inB s 1 i.stops.length = true ∧ hasD h.set s = false ∧ beginP i h s ≤ (stopAt i s).c ∧ 0 ≤ h.load + (stopAt i s).d ∧ h.load + (stopAt i s).d ≤ (carAt i c).c
instance (i : Prob) (c : Int) (h : HeadP) (s : Int) : Decidable (ExtOk i c h s) := by unfold ExtOk; infer_instance
def extendP (i : Prob) (c : Int) (h : HeadP) (s : Int) : Option HeadP :=
  if ExtOk i c h s then (opnP i h.opn s).map fun o => ⟨s, beginP i h s + (stopAt i s).s, h.load + (stopAt i s).d, o, h.set ||| digit s, h.cost + way i h.last s⟩ else none
def lateP (i : Prob) (s : Int) (t : TailP) : Int := min (stopAt i s).c (t.late - way i s t.first - (stopAt i s).s)
def BefOk (i : Prob) (s : Int) (t : TailP) : Prop := inB s 1 i.stops.length = true ∧ hasD t.set s = false ∧ (stopAt i s).o ≤ lateP i s t
instance (i : Prob) (s : Int) (t : TailP) : Decidable (BefOk i s t) := by unfold BefOk; infer_instance
def beforeP (i : Prob) (s : Int) (t : TailP) : Option TailP :=
  if BefOk i s t then (needP i t.need s).map fun n => ⟨s, lateP i s t, min 0 ((stopAt i s).d + t.low), max 0 ((stopAt i s).d + t.high), n, t.set ||| digit s, t.cost + way i s t.first⟩ else none
def MeetOk (i : Prob) (c : Int) (h : HeadP) (t : TailP) : Prop := h.opn = t.need ∧ h.set &&& t.set = 0 ∧ h.leave + way i h.last t.first ≤ t.late ∧ 0 ≤ h.load + t.low ∧ h.load + t.high ≤ (carAt i c).c
instance (i : Prob) (c : Int) (h : HeadP) (t : TailP) : Decidable (MeetOk i c h t) := by unfold MeetOk; infer_instance
def meetP (i : Prob) (c : Int) (h : HeadP) (t : TailP) : Option Int := if MeetOk i c h t then some (h.cost + way i h.last t.first + t.cost) else none
def meetO (i : Prob) (c : Int) (h : Option HeadP) (t : Option TailP) : Option Int := h.bind fun h => t.bind fun t => meetP i c h t
structure HInv (i : Prob) (c : Int) (h : HeadP) : Prop where
  sub : ∀ x, hasD h.opn x = true → hasD h.set x = true
  lo : 0 ≤ h.load
  hi : h.load ≤ (carAt i c).c
structure TInv (i : Prob) (t : TailP) : Prop where
  sub : ∀ x, hasD t.need x = true → ∀ s, mateL s i.pairs = x → mateL s i.pairs ≠ 0 → firstL s i.pairs = false → hasD t.set s = true
  lo : t.low ≤ 0
  hi : 0 ≤ t.high
theorem ext_some {i : Prob} {c : Int} {h g : HeadP} {s : Int} : extendP i c h s = some g ↔ ExtOk i c h s ∧ ∃ o, opnP i h.opn s = some o ∧ g = ⟨s, beginP i h s + (stopAt i s).s, h.load + (stopAt i s).d, o, h.set ||| digit s, h.cost + way i h.last s⟩ := by
  unfold extendP
  split
  · next hc =>
    rw [Option.map_eq_some_iff]
    exact ⟨fun ⟨o, h1, h2⟩ => ⟨hc, o, h1, h2.symm⟩, fun ⟨_, o, h1, h2⟩ => ⟨o, h1, h2.symm⟩⟩
  · next hc => exact ⟨fun h => (by cases h), fun h => absurd h.1 hc⟩
theorem bef_some {i : Prob} {t g : TailP} {s : Int} : beforeP i s t = some g ↔ BefOk i s t ∧ ∃ n, needP i t.need s = some n ∧ g = ⟨s, lateP i s t, min 0 ((stopAt i s).d + t.low), max 0 ((stopAt i s).d + t.high), n, t.set ||| digit s, t.cost + way i s t.first⟩ := by
  unfold beforeP
  split
  · next hc =>
    rw [Option.map_eq_some_iff]
    exact ⟨fun ⟨o, h1, h2⟩ => ⟨hc, o, h1, h2.symm⟩, fun ⟨_, o, h1, h2⟩ => ⟨o, h1, h2.symm⟩⟩
  · next hc => exact ⟨fun h => (by cases h), fun h => absurd h.1 hc⟩
theorem meet_some {i : Prob} {c : Int} {h : HeadP} {t : TailP} {x : Int} : meetP i c h t = some x ↔ MeetOk i c h t ∧ x = h.cost + way i h.last t.first + t.cost := by
  unfold meetP
  split
  · next hc => exact ⟨fun e => ⟨hc, by injection e with e; exact e.symm⟩, fun e => by rw [e.2]⟩
  · next hc => exact ⟨fun h => (by cases h), fun h => absurd h.1 hc⟩
theorem opn_need {i : Prob} {O N : Nat} {s : Int} (ho : hasD O s = false) (hn : mateL s i.pairs ≠ 0 → firstL s i.pairs = false → hasD N (mateL s i.pairs) = false) : opnP i O s = some N ↔ needP i N s = some O := by
  unfold opnP needP
  by_cases h3 : mateL s i.pairs = 0
  · rw [if_pos h3, if_pos h3]
    exact ⟨fun e => by injection e with e; rw [e], fun e => by injection e with e; rw [e]⟩
  · rw [if_neg h3, if_neg h3]
    by_cases h4 : firstL s i.pairs = true
    · rw [if_pos h4, if_neg (by rw [h4]; decide)]
      have := or_eq (N := N) ho
      split
      · next h5 => exact ⟨fun e => by injection e with e; rw [(this.1 e).2], fun e => by injection e with e; rw [this.2 ⟨h5, e.symm⟩]⟩
      · next h5 => exact ⟨fun e => by injection e with e; exact absurd (this.1 e).1 h5, fun e => by cases e⟩
    · have h4' : firstL s i.pairs = false := by simpa using h4
      rw [if_neg h4, if_pos h4']
      have := xor_eq (O := O) (hn h3 h4')
      split
      · next h5 => exact ⟨fun e => by injection e with e; rw [this.1 ⟨h5, e⟩], fun e => by injection e with e; rw [(this.2 e.symm).2]⟩
      · next h5 => exact ⟨fun e => (by cases e), fun e => by injection e with e; exact absurd (this.2 e.symm).1 h5⟩
/-- a stop may pass from the tail's front to the head's end -/
theorem meet_shift {i : Prob} {c : Int} {h : HeadP} {t : TailP} (hh : HInv i c h) (ht : TInv i t) (s : Int) : ((extendP i c h s).bind fun g => meetP i c g t) = ((beforeP i s t).bind fun g => meetP i c h g) := by
  have hlo := hh.lo
  have hhi := hh.hi
  have tlo := ht.lo
  have thi := ht.hi
  refine Option.ext fun x => ?_
  rw [Option.bind_eq_some_iff, Option.bind_eq_some_iff]
  constructor
  · rintro ⟨g, h1, h2⟩
    obtain ⟨⟨a1, a2, a3, a4, a5⟩, o, ho, rfl⟩ := ext_some.1 h1
    obtain ⟨⟨b1, b2, b3, b4, b5⟩, rfl⟩ := meet_some.1 h2
    simp only at b1 b2 b3 b4 b5
    rw [or_and_zero] at b2
    subst b1
    have h6 : hasD h.opn s = false := by rw [Bool.eq_false_iff]; intro e; rw [hh.sub s e] at a2; cases a2
    have h7 : mateL s i.pairs ≠ 0 → firstL s i.pairs = false → hasD t.need (mateL s i.pairs) = false := fun e1 e2 => by
      rw [Bool.eq_false_iff]; intro e; rw [ht.sub _ e s rfl e1 e2] at b2; cases b2.1
    unfold beginP at a3 b3
    refine ⟨_, bef_some.2 ⟨⟨a1, b2.1, by unfold lateP; omega⟩, _, (opn_need h6 h7).1 ho, rfl⟩, meet_some.2 ⟨⟨rfl, and_or_zero.2 ⟨a2, b2.2⟩, ?_, ?_, ?_⟩, ?_⟩⟩
    · simp only [lateP]; omega
    · simp only; omega
    · simp only; omega
    · simp only; omega
  · rintro ⟨g, h1, h2⟩
    obtain ⟨⟨a1, a2, a3⟩, n, hn, rfl⟩ := bef_some.1 h1
    obtain ⟨⟨b1, b2, b3, b4, b5⟩, rfl⟩ := meet_some.1 h2
    simp only at b1 b2 b3 b4 b5
    rw [and_or_zero] at b2
    subst b1
    have h6 : hasD h.opn s = false := by rw [Bool.eq_false_iff]; intro e; rw [hh.sub s e] at b2; cases b2.1
    have h7 : mateL s i.pairs ≠ 0 → firstL s i.pairs = false → hasD t.need (mateL s i.pairs) = false := fun e1 e2 => by
      rw [Bool.eq_false_iff]; intro e; rw [ht.sub _ e s rfl e1 e2] at a2; cases a2
    unfold lateP at a3 b3
    refine ⟨_, ext_some.2 ⟨⟨a1, b2.1, by unfold beginP; omega, by omega, by omega⟩, _, (opn_need h6 h7).2 hn, rfl⟩, meet_some.2 ⟨⟨rfl, or_and_zero.2 ⟨a2, b2.2⟩, ?_, ?_, ?_⟩, ?_⟩⟩
    · simp only [beginP]; omega
    · simp only; omega
    · simp only; omega
    · simp only; omega
def headFrom (i : Prob) (c : Int) (h : Option HeadP) (l : List Int) : Option HeadP := l.foldl (fun o s => o.bind fun h => extendP i c h s) h
def beginH (i : Prob) (c : Int) : HeadP := ⟨0, (carAt i c).s, 0, 0, 0, 0⟩
def endT (i : Prob) (c : Int) : TailP := ⟨0, (carAt i c).e, 0, 0, 0, 0, 0⟩
def headL (i : Prob) (c : Int) (l : List Int) : Option HeadP := headFrom i c (some (beginH i c)) l
def tailL (i : Prob) (c : Int) : List Int → Option TailP
  | [] => some (endT i c)
  | s :: l => (tailL i c l).bind fun t => beforeP i s t
theorem headL_snoc (i : Prob) (c : Int) (l : List Int) (s : Int) : headL i c (l ++ [s]) = (headL i c l).bind fun h => extendP i c h s := by
  unfold headL headFrom; rw [List.foldl_append]; rfl
theorem headFrom_none (i : Prob) (c : Int) : ∀ l, headFrom i c none l = none
  | [] => rfl
  | _ :: l => headFrom_none i c l
/-- the pairs of a problem that may be: each stop has at most one mate -/
structure Mated (i : Prob) : Prop where
  nodup : (flatP i.pairs).Nodup
  pos : ∀ x ∈ flatP i.pairs, 1 ≤ x
theorem Mated.mate {i : Prob} (h : Mated i) {s : Int} (hs : mateL s i.pairs ≠ 0) : 1 ≤ mateL s i.pairs ∧ mateL (mateL s i.pairs) i.pairs = s ∧ mateL s i.pairs ≠ s ∧ firstL (mateL s i.pairs) i.pairs = !firstL s i.pairs ∧ 1 ≤ s := by
  by_cases hm : s ∈ flatP i.pairs
  · obtain ⟨y, hy, e1, e2, e3, e4⟩ := mate_in h.nodup hm
    rw [e1]
    refine ⟨h.pos y hy, e2, e3, ?_, h.pos s hm⟩
    cases h1 : firstL s i.pairs <;> cases h2 : firstL y i.pairs <;> simp_all
  · exact absurd (mate_out hm).1 hs
theorem Mated.first {i : Prob} (h : Mated i) {s : Int} (hs : firstL s i.pairs = true) : mateL s i.pairs ≠ 0 := by
  by_cases hm : s ∈ flatP i.pairs
  · obtain ⟨y, hy, e1, _⟩ := mate_in h.nodup hm
    have := h.pos y hy
    omega
  · rw [(mate_out hm).2] at hs; cases hs
theorem ext_inv {i : Prob} {c : Int} {h g : HeadP} {s : Int} (hh : HInv i c h) (hg : extendP i c h s = some g) : HInv i c g := by
  obtain ⟨⟨a1, a2, a3, a4, a5⟩, o, ho, rfl⟩ := ext_some.1 hg
  refine ⟨fun x hx => ?_, a4, a5⟩
  simp only at hx ⊢
  rw [hasD_or]
  unfold opnP at ho
  split at ho
  · injection ho with ho; subst ho; rw [hh.sub x hx, Bool.true_or]
  · split at ho
    · injection ho with ho; subst ho
      rw [hasD_or] at hx
      rcases Bool.or_eq_true_iff.1 hx with hx | hx
      · rw [hh.sub x hx, Bool.true_or]
      · rw [hx, Bool.or_true]
    · split at ho
      · next h5 =>
        injection ho with ho; subst ho
        rw [hasD_xor] at hx
        by_cases e : (mateL s i.pairs).toNat = x.toNat
        · have : hasD h.opn x = true := by unfold hasD at h5 ⊢; rw [← e]; exact h5
          rw [hh.sub x this, Bool.true_or]
        · have : hasD h.opn x = true := by simpa [e] using hx
          rw [hh.sub x this, Bool.true_or]
      · cases ho
theorem bef_inv {i : Prob} (hm : Mated i) {t g : TailP} {s : Int} (ht : TInv i t) (hg : beforeP i s t = some g) : TInv i g := by
  obtain ⟨⟨a1, a2, a3⟩, n, hn, rfl⟩ := bef_some.1 hg
  have hs1 : 1 ≤ s := by rw [inB_iff] at a1; exact a1.1
  refine ⟨fun x hx s' h1 h2 h3 => ?_, by simp only; omega, by simp only; omega⟩
  simp only at hx ⊢
  rw [hasD_or]
  have m' := hm.mate h2
  unfold needP at hn
  split at hn
  · injection hn with hn; subst hn; rw [ht.sub x hx s' h1 h2 h3, Bool.true_or]
  · next h0 =>
    split at hn
    · injection hn with hn; subst hn
      rw [hasD_or] at hx
      rcases Bool.or_eq_true_iff.1 hx with hx | hx
      · rw [ht.sub x hx s' h1 h2 h3, Bool.true_or]
      · have m := hm.mate h0
        have e : mateL s i.pairs = mateL s' i.pairs := by have := of_decide_eq_true hx; omega
        have : s = s' := by rw [← m.2.1, e, m'.2.1]
        rw [this]; simp
    · split at hn
      · next h5 =>
        injection hn with hn; subst hn
        rw [hasD_xor] at hx
        by_cases e : s.toNat = x.toNat
        · simp only [e, decide_true] at hx
          have : hasD t.need x = true := by unfold hasD at h5 ⊢; rw [← e]; exact h5
          rw [this] at hx; cases hx
        · have : hasD t.need x = true := by simpa [e] using hx
          rw [ht.sub x this s' h1 h2 h3, Bool.true_or]
      · cases hn
theorem hasD_zero (x : Int) : hasD 0 x = false := Nat.zero_testBit _
theorem head_inv {i : Prob} {c : Int} (hc : 0 ≤ (carAt i c).c) : ∀ {l : List Int} {h : HeadP}, headL i c l = some h → HInv i c h := by
  have key : ∀ (l : List Int) (o : Option HeadP) (h : HeadP), (∀ g, o = some g → HInv i c g) → headFrom i c o l = some h → HInv i c h := by
    intro l
    induction l with
    | nil => intro o h ho hl; exact ho h hl
    | cons s l ih =>
      intro o h ho hl
      refine ih (o.bind fun h => extendP i c h s) h (fun g hg => ?_) hl
      obtain ⟨g', h1, h2⟩ := Option.bind_eq_some_iff.1 hg
      exact ext_inv (ho g' h1) h2
  intro l h hl
  refine key l _ h (fun g hg => ?_) hl
  injection hg with hg; subst hg
  exact ⟨fun x hx => (by simp only [beginH, hasD_zero] at hx; cases hx), Int.le_refl _, hc⟩
theorem tail_inv {i : Prob} (hm : Mated i) {c : Int} : ∀ {l : List Int} {t : TailP}, tailL i c l = some t → TInv i t
  | [], t, h => by
    injection h with h; subst h
    exact ⟨fun x hx => (by simp only [endT, hasD_zero] at hx; cases hx), Int.le_refl _, Int.le_refl _⟩
  | s :: l, t, h => by
    obtain ⟨g, h1, h2⟩ := Option.bind_eq_some_iff.1 h
    exact bef_inv hm (tail_inv hm h1) h2
/-- head of some stops, tail of others: the same as the head of them all, and the end -/
theorem meet_all {i : Prob} (hm : Mated i) {c : Int} (hc : 0 ≤ (carAt i c).c) : ∀ (b a : List Int), meetO i c (headL i c a) (tailL i c b) = meetO i c (headL i c (a ++ b)) (some (endT i c))
  | [], a => by rw [List.append_nil]; rfl
  | s :: b, a => by
    have ih := meet_all hm hc b (a ++ [s])
    rw [List.append_assoc, List.cons_append, List.nil_append] at ih
    rw [← ih, headL_snoc, show tailL i c (s :: b) = (tailL i c b).bind fun t => beforeP i s t from rfl]
    unfold meetO
    cases ha : headL i c a with
    | none => rfl
    | some h =>
      simp only [Option.bind_some]
      cases hb : tailL i c b with
      | none => simp
      | some t =>
        simp only [Option.bind_some]
        exact (meet_shift (head_inv hc ha) (tail_inv hm hb) s).symm
end Go.Proofs.Ytgkieelacjcopaa
namespace Go.Proofs.Ytgkieelacjcopaa

def bits (l : List Int) : Nat := l.foldr (fun s a => a ||| digit s) 0
theorem hasD_bits {s : Int} (hs : 1 ≤ s) : ∀ {l : List Int}, (∀ x ∈ l, 1 ≤ x) → hasD (bits l) s = decide (s ∈ l)
  | [], _ => by simp [bits, hasD_zero]
  | x :: l, h => by
    have ih := hasD_bits hs (l := l) (fun y hy => h y (by simp [hy]))
    have hx := h x (by simp)
    rw [show bits (x :: l) = bits l ||| digit x from rfl, hasD_or, ih, Bool.eq_iff_iff]
    simp only [Bool.or_eq_true, decide_eq_true_eq, List.mem_cons]
    constructor
    · rintro (e | e)
      · exact .inr e
      · exact .inl (by omega)
    · rintro (rfl | e)
      · exact .inr rfl
      · exact .inl e
theorem bits_zero {l : List Int} (h : ∀ x ∈ l, 1 ≤ x) : bits l = 0 ↔ l = [] := by
  constructor
  · intro h0
    cases l with
    | nil => rfl
    | cons x l =>
      have := hasD_bits (h x (by simp)) h
      rw [h0, hasD_zero] at this
      simp at this
  · rintro rfl; rfl
theorem bits_erase {m : Int} : ∀ {l : List Int}, (∀ x ∈ l, 1 ≤ x) → l.Nodup → m ∈ l → bits (l.erase m) = bits l ^^^ digit m
  | l, h, hn, hm => by
    have hm1 := h m hm
    have he : ∀ x ∈ l.erase m, 1 ≤ x := fun x hx => h x (List.mem_of_mem_erase hx)
    refine Nat.eq_of_testBit_eq fun k => ?_
    by_cases hk : k = 0
    · subst hk
      have z : ∀ {l : List Int}, (∀ x ∈ l, 1 ≤ x) → (bits l).testBit 0 = false := by
        intro l
        induction l with
        | nil => intro _; exact Nat.zero_testBit _
        | cons y l ih =>
          intro hy
          have := hy y (by simp)
          rw [show bits (y :: l) = bits l ||| digit y from rfl, Nat.testBit_or, ih (fun x hx => hy x (by simp [hx])), test_digit]
          simp; omega
      rw [z he, Nat.testBit_xor, z h, test_digit]
      simp; omega
    · have e1 := hasD_bits (s := (k : Int)) (by omega) he
      have e2 := hasD_bits (s := (k : Int)) (by omega) h
      unfold hasD at e1 e2
      rw [Int.toNat_natCast] at e1 e2
      rw [e1, Nat.testBit_xor, e2, test_digit]
      by_cases e : (k : Int) = m
      · subst e; simp [hm, hn.mem_erase_iff]
      · have : ¬ m.toNat = k := by omega
        simp [this, hn.mem_erase_iff, e]
/-- a head's sets, told by its stops -/
structure St (i : Prob) (met os : List Int) (h : HeadP) : Prop where
  set : h.set = bits met
  opn : h.opn = bits os
  pos : ∀ x ∈ met, 1 ≤ x
  nd : os.Nodup
  mem : ∀ x, x ∈ os ↔ x ∈ met ∧ firstL x i.pairs = true ∧ mateL x i.pairs ∉ met
  sec : ∀ y ∈ met, mateL y i.pairs ≠ 0 → firstL y i.pairs = false → mateL y i.pairs ∈ met
theorem St.opos {i : Prob} {met os : List Int} {h : HeadP} (H : St i met os h) : ∀ x ∈ os, 1 ≤ x := fun x hx => H.pos x ((H.mem x).1 hx).1
theorem st_begin (i : Prob) (c : Int) : St i [] [] (beginH i c) := ⟨rfl, rfl, fun x h => (by simp at h), List.nodup_nil, fun x => by simp, fun x h => (by simp at h)⟩
/-- which lists are met and open behind a stop -/
theorem St.step {i : Prob} (hm : Mated i) {met os : List Int} {h : HeadP} (H : St i met os h) {s : Int} (hs : 1 ≤ s) (hn : s ∉ met) {g : HeadP} (hg : g.set = h.set ||| digit s) :
    (mateL s i.pairs = 0 → g.opn = h.opn → St i (s :: met) os g) ∧
    (mateL s i.pairs ≠ 0 → firstL s i.pairs = true → g.opn = h.opn ||| digit s → St i (s :: met) (s :: os) g) ∧
    (mateL s i.pairs ≠ 0 → firstL s i.pairs = false → mateL s i.pairs ∈ os → g.opn = h.opn ^^^ digit (mateL s i.pairs) → St i (s :: met) (os.erase (mateL s i.pairs)) g) := by
  have hset : g.set = bits (s :: met) := by rw [hg, H.set]; rfl
  have hpos : ∀ x ∈ s :: met, 1 ≤ x := fun x hx => by
    rcases List.mem_cons.1 hx with rfl | hx
    · exact hs
    · exact H.pos x hx
  refine ⟨fun h0 ho => ?_, fun h0 hf ho => ?_, fun h0 hf hmo ho => ?_⟩
  · refine ⟨hset, by rw [ho, H.opn], hpos, H.nd, fun x => ?_, fun y hy h1 h2 => ?_⟩
    · rw [H.mem x]
      constructor
      · rintro ⟨a, b, d⟩
        refine ⟨by simp [a], b, fun e => ?_⟩
        rcases List.mem_cons.1 e with e | e
        · have m := hm.mate (hm.first b)
          rw [e, h0] at m
          have := H.pos x a
          omega
        · exact d e
      · rintro ⟨a, b, d⟩
        rcases List.mem_cons.1 a with rfl | a
        · exact absurd h0 (hm.first b)
        · exact ⟨a, b, fun e => d (by simp [e])⟩
    · rcases List.mem_cons.1 hy with rfl | hy
      · exact absurd h0 h1
      · exact List.mem_cons_of_mem _ (H.sec y hy h1 h2)
  · have m := hm.mate h0
    have hmm : mateL s i.pairs ∉ met := fun e => by
      have := H.sec _ e (by rw [m.2.1]; omega) (by rw [m.2.2.2.1, hf]; rfl)
      rw [m.2.1] at this
      exact hn this
    have hso : s ∉ os := fun e => hn ((H.mem s).1 e).1
    refine ⟨hset, by rw [ho, H.opn]; rfl, hpos, List.nodup_cons.2 ⟨hso, H.nd⟩, fun x => ?_, fun y hy h1 h2 => ?_⟩
    · rw [List.mem_cons, H.mem x]
      constructor
      · rintro (rfl | ⟨a, b, d⟩)
        · exact ⟨by simp, hf, fun e => by rcases List.mem_cons.1 e with e | e; exact m.2.2.1 e; exact hmm e⟩
        · refine ⟨by simp [a], b, fun e => ?_⟩
          rcases List.mem_cons.1 e with e | e
          · have m2 := hm.mate (hm.first b)
            rw [e, hf, b] at m2
            exact absurd m2.2.2.2.1 (by decide)
          · exact d e
      · rintro ⟨a, b, d⟩
        rcases List.mem_cons.1 a with rfl | a
        · exact .inl rfl
        · exact .inr ⟨a, b, fun e => d (by simp [e])⟩
    · rcases List.mem_cons.1 hy with rfl | hy
      · rw [hf] at h2; cases h2
      · exact List.mem_cons_of_mem _ (H.sec y hy h1 h2)
  · have m := hm.mate h0
    refine ⟨hset, by rw [ho, H.opn, bits_erase H.opos H.nd hmo], hpos, H.nd.erase _, fun x => ?_, fun y hy h1 h2 => ?_⟩
    · rw [H.nd.mem_erase_iff, H.mem x]
      constructor
      · rintro ⟨k, a, b, d⟩
        refine ⟨by simp [a], b, fun e => ?_⟩
        rcases List.mem_cons.1 e with e | e
        · have m2 := hm.mate (hm.first b)
          exact k (by rw [← e, m2.2.1])
        · exact d e
      · rintro ⟨a, b, d⟩
        rcases List.mem_cons.1 a with rfl | a
        · rw [hf] at b; cases b
        · refine ⟨fun e => ?_, a, b, fun e => d (by simp [e])⟩
          subst e
          exact d (by rw [m.2.1]; simp)
    · rcases List.mem_cons.1 hy with rfl | hy
      · exact List.mem_cons_of_mem _ ((H.mem _).1 hmo).1
      · exact List.mem_cons_of_mem _ (H.sec y hy h1 h2)
theorem run_all {i : Prob} (hm : Mated i) {c : Int} : ∀ (l : List Int) (h : HeadP) (met os : List Int), St i met os h → 0 ≤ h.load → h.load ≤ (carAt i c).c →
    meetO i c (headFrom i c (some h) l) (some (endT i c)) = if (thereB i l && nodupL met l && pairsL i.pairs met os.length l) = true then (driveL i (carAt i c) h.last h.leave h.load l).map (fun _ => h.cost + costL i h.last l) else none
  | [], h, met, os, H, h0, h1 => by
    have hz := bits_zero H.opos
    show meetP i c h (endT i c) = _
    unfold driveL costL thereB nodupL pairsL
    simp only [List.all_nil, Bool.and_self, Bool.true_and, beq_iff_eq]
    refine Option.ext fun x => ?_
    rw [meet_some]
    unfold MeetOk
    simp only [endT, Nat.and_zero]
    constructor
    · rintro ⟨⟨a, _, b, _⟩, rfl⟩
      rw [H.opn, hz] at a
      subst a
      rw [if_pos (by simp), if_neg (by omega)]
      simp
    · intro hx
      split at hx
      · next ho =>
        have ho' : os = [] := List.length_eq_zero_iff.1 (by omega)
        split at hx
        · simp at hx
        · next hl =>
          simp at hx
          exact ⟨⟨by rw [H.opn, hz]; exact ho', trivial, by omega, by omega, by omega⟩, by omega⟩
      · cases hx
  | s :: l, h, met, os, H, h0, h1 => by
    show meetO i c (headFrom i c (extendP i c h s) l) (some (endT i c)) = _
    have hth : thereB i (s :: l) = (inB s 1 i.stops.length && thereB i l) := rfl
    have hnd : nodupL met (s :: l) = (!met.contains s && nodupL (s :: met) l) := rfl
    have hco : costL i h.last (s :: l) = way i h.last s + costL i s l := rfl
    have hno : meetO i c (headFrom i c none l) (some (endT i c)) = none := by rw [headFrom_none]; rfl
    have hbg : begun i h.last h.leave s = beginP i h s := by unfold begun beginP; rw [Int.max_comm]
    by_cases hin : inB s 1 i.stops.length = true
    · have hs : 1 ≤ s := by rw [inB_iff] at hin; exact hin.1
      by_cases hmet : s ∈ met
      · have hE : extendP i c h s = none := by
          unfold extendP; rw [if_neg]
          intro e
          have := e.2.1
          rw [H.set, hasD_bits hs H.pos] at this
          simp [hmet] at this
        rw [hE, hno, if_neg]
        rw [hnd]
        simp [hmet]
      · have hhas : hasD h.set s = false := by rw [H.set, hasD_bits hs H.pos]; simp [hmet]
        have hcon : met.contains s = false := by simpa using hmet
        have hdr : driveL i (carAt i c) h.last h.leave h.load (s :: l) = if (stopAt i s).c < beginP i h s ∨ h.load + (stopAt i s).d < 0 ∨ (carAt i c).c < h.load + (stopAt i s).d then none
            else (driveL i (carAt i c) s (beginP i h s + (stopAt i s).s) (h.load + (stopAt i s).d) l).map (Drive.more [beginP i h s] [h.load + (stopAt i s).d]) := by rw [← hbg]; rfl
        rw [hth, hin, hnd, hcon, hdr, hco]
        by_cases hbad : (stopAt i s).c < beginP i h s ∨ h.load + (stopAt i s).d < 0 ∨ (carAt i c).c < h.load + (stopAt i s).d
        · have hE : extendP i c h s = none := by
            unfold extendP; rw [if_neg]
            rintro ⟨_, _, a, b, d⟩
            omega
          rw [hE, hno, if_pos hbad]
          simp
        · rw [if_neg hbad]
          have hok : ExtOk i c h s := ⟨hin, hhas, by omega, by omega, by omega⟩
          unfold extendP
          rw [if_pos hok]
          have key : ∀ (o : Nat) (os' : List Int) (op' : Int), op' = os'.length → St i (s :: met) os' ⟨s, beginP i h s + (stopAt i s).s, h.load + (stopAt i s).d, o, h.set ||| digit s, h.cost + way i h.last s⟩ →
              meetO i c (headFrom i c (some ⟨s, beginP i h s + (stopAt i s).s, h.load + (stopAt i s).d, o, h.set ||| digit s, h.cost + way i h.last s⟩) l) (some (endT i c)) =
              if (true && thereB i l && (!false && nodupL (s :: met) l) && pairsL i.pairs (s :: met) op' l) = true then ((driveL i (carAt i c) s (beginP i h s + (stopAt i s).s) (h.load + (stopAt i s).d) l).map (Drive.more [beginP i h s] [h.load + (stopAt i s).d])).map (fun _ => h.cost + (way i h.last s + costL i s l)) else none := by
            intro o os' op' hop H'
            rw [run_all hm l _ _ _ H' (by simp only; omega) (by simp only; omega), hop]
            simp only [Bool.true_and, Bool.not_false, Option.map_map]
            congr 1
            rw [← Int.add_assoc]
            rfl
          have hst := fun o => H.step hm hs hmet (g := ⟨s, beginP i h s + (stopAt i s).s, h.load + (stopAt i s).d, o, h.set ||| digit s, h.cost + way i h.last s⟩) rfl
          unfold opnP
          by_cases h3 : mateL s i.pairs = 0
          · rw [if_pos h3]
            have hp : pairsL i.pairs met os.length (s :: l) = pairsL i.pairs (s :: met) os.length l := by show (if _ then _ else _) = _; rw [if_pos h3]
            rw [hp]
            exact key _ os _ rfl ((hst _).1 h3 rfl)
          · rw [if_neg h3]
            have m := hm.mate h3
            by_cases h4 : firstL s i.pairs = true
            · rw [if_pos h4]
              have hp : pairsL i.pairs met os.length (s :: l) = pairsL i.pairs (s :: met) (os.length + 1) l := by show (if _ then _ else _) = _; rw [if_neg h3, if_pos h4]
              rw [hp]
              exact key _ (s :: os) _ (by simp) ((hst _).2.1 h3 h4 rfl)
            · rw [if_neg h4]
              have h4' : firstL s i.pairs = false := by simpa using h4
              have hmo : hasD h.opn (mateL s i.pairs) = decide (mateL s i.pairs ∈ os) := by rw [H.opn, hasD_bits m.1 H.opos]
              have hmem : mateL s i.pairs ∈ os ↔ mateL s i.pairs ∈ met := by
                rw [H.mem, m.2.2.2.1, m.2.1, h4']
                simp [hmet]
              by_cases h5 : mateL s i.pairs ∈ os
              · rw [if_pos (by rw [hmo]; simpa using h5)]
                have hp : pairsL i.pairs met os.length (s :: l) = pairsL i.pairs (s :: met) (os.length - 1) l := by
                  show (if _ then _ else _) = _
                  rw [if_neg h3, if_neg h4, if_pos (by simp [hmem.1 h5])]
                rw [hp]
                have hl : (os.erase (mateL s i.pairs)).length = os.length - 1 := List.length_erase_of_mem h5
                have : 0 < os.length := List.length_pos_of_mem h5
                exact key _ (os.erase (mateL s i.pairs)) _ (by rw [hl]; omega) ((hst _).2.2 h3 h4' h5 rfl)
              · rw [if_neg (by rw [hmo]; simpa using h5)]
                have hp : pairsL i.pairs met os.length (s :: l) = false := by
                  show (if _ then _ else _) = _
                  rw [if_neg h3, if_neg h4, if_neg]
                  intro e
                  have e' : mateL s i.pairs ∈ s :: met := by simpa using e
                  rcases List.mem_cons.1 e' with e' | e'
                  · exact m.2.2.1 e'
                  · exact h5 (hmem.2 e')
                rw [hp]
                show meetO i c (headFrom i c none l) (some (endT i c)) = _
                rw [hno]
                simp
    · have hE : extendP i c h s = none := by
        unfold extendP; rw [if_neg]
        intro e; exact hin e.1
      have hin' : inB s 1 i.stops.length = false := by simpa using hin
      rw [hE, hno, hth, hin']
      simp
/-- P5.3, plain -/
theorem meet_eval {i : Prob} (hm : Mated i) {c : Int} (hc : 0 ≤ (carAt i c).c) (hcar : inB c 0 (i.cars.length - 1) = true) (a b : List Int) : meetO i c (headL i c a) (tailL i c b) = (evalL i c (a ++ b)).map (·.cost) := by
  rw [meet_all hm hc b a]
  unfold headL
  rw [run_all hm (a ++ b) (beginH i c) [] [] (st_begin i c) (Int.le_refl _) hc]
  unfold evalL
  rw [hcar]
  show (if (thereB i (a ++ b) && nodupL [] (a ++ b) && pairsL i.pairs [] 0 (a ++ b)) = true then (driveL i (carAt i c) 0 (carAt i c).s 0 (a ++ b)).map (fun _ => 0 + costL i 0 (a ++ b)) else none) = _
  rw [Bool.true_and]
  by_cases hq : (thereB i (a ++ b) && nodupL [] (a ++ b) && pairsL i.pairs [] 0 (a ++ b)) = true
  · rw [if_pos hq, if_pos hq]
    cases driveL i (carAt i c) 0 (carAt i c).s 0 (a ++ b) <;> simp
  · rw [if_neg hq, if_neg hq]; rfl
end Go.Proofs.Ytgkieelacjcopaa
