/- Plain facts, no Go: routes, when they can be driven, what they cost. -/
import Derived.Test.YtpccoflebfblbaaFine4
namespace Go.Proofs.Ytpccoflebfblbaa

def stopAt (i : Prob) (x : Int) : Stop := (i.stops[(x - 1).toNat]?).getD ⟨0, 0, 0, 0⟩
def way (i : Prob) (a b : Int) : Int := (((i.travel[a.toNat]?).getD [])[b.toNat]?).getD 0
def thereB (i : Prob) (l : List Int) : Bool := l.all fun s => inB s 1 i.stops.length
def costL (i : Prob) : Int → List Int → Int
  | last, [] => way i last 0
  | last, s :: l => way i last s + costL i s l
def nodupL : List Int → List Int → Bool
  | _, [] => true
  | met, s :: l => !met.contains s && nodupL (s :: met) l
def pairsL (ps : List Pair) : List Int → Int → List Int → Bool
  | _, op, [] => op == 0
  | met, op, s :: l => if mateL s ps = 0 then pairsL ps (s :: met) op l else if firstL s ps = true then pairsL ps (s :: met) (op + 1) l
    else if (s :: met).contains (mateL s ps) = true then pairsL ps (s :: met) (op - 1) l else false
structure Drive where
  arr : List Int
  load : List Int
  home : Int
def Drive.more (arr load : List Int) (d : Drive) : Drive := ⟨arr ++ d.arr, load ++ d.load, d.home⟩
def begun (i : Prob) (last left s : Int) : Int := max (stopAt i s).o (left + way i last s)
def driveL (i : Prob) (c : Car) : Int → Int → Int → List Int → Option Drive
  | last, left, _, [] => if c.e < left + way i last 0 then none else some ⟨[], [], left + way i last 0⟩
  | last, left, ld, s :: l => if (stopAt i s).c < begun i last left s ∨ ld + (stopAt i s).d < 0 ∨ c.c < ld + (stopAt i s).d then none
    else (driveL i c s (begun i last left s + (stopAt i s).s) (ld + (stopAt i s).d) l).map (Drive.more [begun i last left s] [ld + (stopAt i s).d])
structure TripR where
  arr : List Int
  load : List Int
  cost : Int
  home : Int
deriving DecidableEq
def carAt (i : Prob) (c : Int) : Car := (i.cars[c.toNat]?).getD ⟨0, 0, 0⟩
def evalL (i : Prob) (c : Int) (l : List Int) : Option TripR :=
  if (inB c 0 (i.cars.length - 1) && thereB i l && nodupL [] l && pairsL i.pairs [] 0 l) = true then
    (driveL i (carAt i c) 0 (carAt i c).s 0 l).map fun d => ⟨d.arr, d.load, costL i 0 l, d.home⟩
  else none
def costP (i : Prob) (l : List Int) : Int := if thereB i l = true then costL i 0 l else 0

theorem stopAt_nat (i : Prob) {k : Nat} (h : k < i.stops.length) : stopAt i ((k : Int) + 1) = i.stops[k] := by
  unfold stopAt
  rw [show ((k : Int) + 1 - 1).toNat = k by omega, List.getElem?_eq_getElem h]
  rfl
theorem carAt_nat (i : Prob) {k : Nat} (h : k < i.cars.length) : carAt i (k : Int) = i.cars[k] := by
  unfold carAt
  rw [show ((k : Int)).toNat = k by omega, List.getElem?_eq_getElem h]
  rfl
theorem way_nat (i : Prob) {a b : Nat} (ha : a < i.travel.length) (hb : b < i.travel[a].length) : way i (a : Int) (b : Int) = i.travel[a][b] := by
  unfold way
  rw [show ((a : Int)).toNat = a by omega, show ((b : Int)).toNat = b by omega, List.getElem?_eq_getElem ha, Option.getD_some, List.getElem?_eq_getElem hb]
  rfl
theorem way_bounds {i : Prob} (h : Fine i) (a b : Int) : 0 ≤ way i a b ∧ way i a b ≤ 1000 := by
  unfold way
  cases ha : i.travel[a.toNat]? with
  | none => simp
  | some r =>
    rw [Option.getD_some]
    cases hb : r[b.toNat]? with
    | none => simp
    | some x => exact h.rowF r (List.mem_of_getElem? ha) x (List.mem_of_getElem? hb)
theorem stopAt_bounds {i : Prob} (h : Fine i) (x : Int) : -20 ≤ (stopAt i x).d ∧ (stopAt i x).d ≤ 20 ∧ 0 ≤ (stopAt i x).s ∧ (stopAt i x).s ≤ 1000 ∧ 0 ≤ (stopAt i x).o ∧ (stopAt i x).o ≤ (stopAt i x).c ∧ (stopAt i x).c ≤ 1000 := by
  unfold stopAt
  cases hk : i.stops[(x - 1).toNat]? with
  | none => simp
  | some r => exact h.stopF r (List.mem_of_getElem? hk)
theorem costL_drop {i : Prob} {l : List Int} {last : Int} {k : Nat} (h : k < l.length) : costL i last (l.drop k) = way i last l[k] + costL i l[k] (l.drop (k + 1)) := by rw [drop_at h]; rfl
theorem nodupL_drop {met l : List Int} {k : Nat} (h : k < l.length) : nodupL met (l.drop k) = (!met.contains l[k] && nodupL (l[k] :: met) (l.drop (k + 1))) := by rw [drop_at h]; rfl
theorem pairsL_drop {ps : List Pair} {met l : List Int} {op : Int} {k : Nat} (h : k < l.length) : pairsL ps met op (l.drop k) = if mateL l[k] ps = 0 then pairsL ps (l[k] :: met) op (l.drop (k + 1)) else if firstL l[k] ps = true then pairsL ps (l[k] :: met) (op + 1) (l.drop (k + 1))
    else if (l[k] :: met).contains (mateL l[k] ps) = true then pairsL ps (l[k] :: met) (op - 1) (l.drop (k + 1)) else false := by rw [drop_at h]; rfl
theorem driveL_drop {i : Prob} {c : Car} {last left ld : Int} {l : List Int} {k : Nat} (h : k < l.length) : driveL i c last left ld (l.drop k) = if (stopAt i l[k]).c < begun i last left l[k] ∨ ld + (stopAt i l[k]).d < 0 ∨ c.c < ld + (stopAt i l[k]).d then none
    else (driveL i c l[k] (begun i last left l[k] + (stopAt i l[k]).s) (ld + (stopAt i l[k]).d) (l.drop (k + 1))).map (Drive.more [begun i last left l[k]] [ld + (stopAt i l[k]).d]) := by rw [drop_at h]; rfl
theorem more_more (a b c d : List Int) (x : Option Drive) : (x.map (Drive.more c d)).map (Drive.more a b) = x.map (Drive.more (a ++ c) (b ++ d)) := by
  cases x with
  | none => rfl
  | some x => simp [Drive.more]
theorem more_nil (x : Option Drive) : x.map (Drive.more [] []) = x := by
  cases x with
  | none => rfl
  | some x => simp [Drive.more]
theorem thereB_at {i : Prob} {l : List Int} (h : thereB i l = true) {k : Nat} (hk : k < l.length) : ∃ q : Nat, q < i.stops.length ∧ l[k] = (q : Int) + 1 := by
  unfold thereB at h
  rw [List.all_eq_true] at h
  have := inB_iff.1 (h l[k] (List.getElem_mem _))
  exact ⟨(l[k] - 1).toNat, by omega, by omega⟩
theorem nodupL_iff : ∀ (l met : List Int), nodupL met l = true ↔ l.Nodup ∧ ∀ x ∈ l, x ∉ met
  | [], met => by simp [nodupL]
  | s :: l, met => by
    simp only [nodupL, Bool.and_eq_true, Bool.not_eq_true', List.contains_eq_mem, decide_eq_false_iff_not, nodupL_iff l, List.nodup_cons, List.mem_cons, forall_eq_or_imp]
    constructor
    · rintro ⟨h1, h2, h3⟩
      refine ⟨⟨fun hs => h3 s hs (by simp), h2⟩, h1, fun x hx hm => h3 x hx (by simp [hm])⟩
    · rintro ⟨⟨h1, h2⟩, h3, h4⟩
      refine ⟨h3, h2, fun x hx hm => ?_⟩
      rcases hm with rfl | hm
      · exact h1 hx
      · exact h4 x hx hm
theorem drive_len {i : Prob} {c : Car} : ∀ {l : List Int} {last left ld : Int} {d : Drive}, driveL i c last left ld l = some d → d.arr.length = l.length ∧ d.load.length = l.length
  | [], last, left, ld, d, h => by
    simp only [driveL] at h
    split at h
    · cases h
    · cases h; exact ⟨rfl, rfl⟩
  | s :: l, last, left, ld, d, h => by
    simp only [driveL] at h
    split at h
    · cases h
    · rw [Option.map_eq_some_iff] at h
      obtain ⟨d', h1, rfl⟩ := h
      obtain ⟨h2, h3⟩ := drive_len h1
      simp [Drive.more, h2, h3]
theorem costL_bounds {i : Prob} (h : Fine i) : ∀ (l : List Int) (last : Int), 0 ≤ costL i last l ∧ costL i last l ≤ 1000 * (l.length : Int) + 1000
  | [], last => by have := way_bounds h last 0; simp only [costL, List.length_nil]; omega
  | s :: l, last => by
    have h1 := way_bounds h last s
    have h2 := costL_bounds h l s
    simp only [costL, List.length_cons]
    omega
theorem rows_diag {size : Nat} : ∀ {l : List (List Int)} {k : Nat}, rowsFrom size k l = true → ∀ j (h : j < l.length), (l[j][k + j]?).getD 0 = 0
  | [], _, _, j, h => by simp at h
  | r :: l, k, h, 0, _ => by
    simp only [rowsFrom, Bool.and_eq_true, rowOk, beq_iff_eq] at h
    simpa using h.1.1.2
  | r :: l, k, h, j + 1, hj => by
    simp only [rowsFrom, Bool.and_eq_true] at h
    have := rows_diag h.2 j (by simpa using hj)
    simpa [show k + (j + 1) = k + 1 + j by omega] using this
theorem way_diag {i : Prob} (h : probOk i = true) (a : Nat) : way i a a = 0 := by
  simp only [probOk, travelOk, Bool.and_eq_true, decide_eq_true_eq] at h
  unfold way
  rw [show ((a : Int)).toNat = a by omega]
  by_cases ha : a < i.travel.length
  · rw [List.getElem?_eq_getElem ha, Option.getD_some]
    simpa using rows_diag h.2.2 a ha
  · rw [List.getElem?_eq_none (show i.travel.length ≤ a by omega)]; rfl
theorem costL_snoc (i : Prob) (s : Int) : ∀ (l : List Int) (last : Int), costL i last (l ++ [s]) = costL i last l - way i (l.getLastD last) 0 + way i (l.getLastD last) s + way i s 0
  | [], last => by simp [costL]
  | x :: l, last => by
    rw [List.cons_append, costL, costL_snoc i s l x]
    simp only [costL]
    rw [List.getLastD_cons]
    omega
end Go.Proofs.Ytpccoflebfblbaa
