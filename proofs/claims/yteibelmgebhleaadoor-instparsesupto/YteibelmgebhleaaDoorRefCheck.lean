/- draymanref01.CheckInst: whether a problem may be. -/
import Derived.Test.YteibelmgebhleaaDoorInstChk
import Derived.Test.YteibelmgebhleaaDoorBlk
import Derived.RowKit3
import Derived.Maps.OwnSet
namespace Go.Proofs.YteibelmgebhleaaDoor
open Go.RowKit Go.Maps
set_option linter.unusedSimpArgs false
set_option maxRecDepth 100000

theorem refWithin_yes (n low high : Int) (w : World) (h : inB n low high = true) :
    Calls Tryd.prog 32 #[.int .i64 n, .int .i64 low, .int .i64 high] w fun e w' => e = .returned (.bool true) ∧ w = w' := by
  obtain ⟨h1, h2⟩ := inB_iff.1 h
  clear h
  go_enter Tryd.func32, Tryd.ntmps32
  go_wp2
  go_ret
  exact ⟨rfl, rfl⟩
theorem refWithin_no (n low high : Int) (w : World) (h : inB n low high = false) :
    Calls Tryd.prog 32 #[.int .i64 n, .int .i64 low, .int .i64 high] w fun e w' => e = .returned (.bool false) ∧ w = w' := by
  by_cases h1 : low ≤ n
  · have h2 : ¬ n ≤ high := by rcases inB_no.1 h with h | h <;> omega
    clear h
    go_enter Tryd.func32, Tryd.ntmps32
    go_wp2
    go_ret
    exact ⟨rfl, rfl⟩
  · clear h
    go_enter Tryd.func32, Tryd.ntmps32
    go_wp2
    go_ret
    exact ⟨rfl, rfl⟩
theorem refWithin_any (n low high : Int) (b : Bool) (h : inB n low high = b) (w : World) :
    Calls Tryd.prog 32 #[.int .i64 n, .int .i64 low, .int .i64 high] w fun e w' => e = .returned (.bool b) ∧ w = w' := by
  cases b
  · exact refWithin_no n low high w h
  · exact refWithin_yes n low high w h

/-! plain facts -/
def cellOk (a b : Nat) (t : Int) : Bool := inB t 0 1000 && (!(a == b) || t == 0)
def cellsFrom (a : Nat) : Nat → List Int → Bool
  | _, [] => true
  | b, t :: r => cellOk a b t && cellsFrom a (b + 1) r
theorem cellsFrom_drop {a : Nat} {r : List Int} {k : Nat} (h : k < r.length) : cellsFrom a k (r.drop k) = (cellOk a k r[k] && cellsFrom a (k + 1) (r.drop (k + 1))) := by rw [drop_at h]; rfl
theorem cells_all (a : Nat) : ∀ (b : Nat) (r : List Int), cellsFrom a b r = ((r.all fun t => inB t 0 1000) && (decide (a < b) || (r[a - b]?.getD 0 == 0)))
  | b, [] => by simp [cellsFrom]
  | b, t :: r => by
    rw [cellsFrom, cells_all a (b + 1) r]
    unfold cellOk
    by_cases h1 : a < b
    · have e1 : (a == b) = false := by simp; omega
      have e2 : decide (a < b + 1) = true := by simp; omega
      have e3 : decide (a < b) = true := by simpa using h1
      simp [e1, e2, e3]
    · by_cases h2 : a = b
      · subst h2
        have e2 : decide (a < a + 1) = true := by simp
        have e3 : decide (a < a) = false := by simp
        simp only [e2, e3, Nat.sub_self, List.getElem?_cons_zero, Option.getD_some, List.all_cons]
        cases inB t 0 1000 <;> cases (t == 0) <;> cases (r.all fun t => inB t 0 1000) <;> simp
      · have e1 : (a == b) = false := by simpa using h2
        have e2 : decide (a < b + 1) = false := by simp; omega
        have e3 : decide (a < b) = false := by simp; omega
        have e4 : (t :: r)[a - b]? = r[a - (b + 1)]? := by
          rw [show a - b = (a - (b + 1)) + 1 by omega]; rfl
        rw [e4]
        simp only [e1, e2, e3, List.all_cons]
        cases inB t 0 1000 <;> cases (r.all fun t => inB t 0 1000) <;> simp
theorem rowOk_cells {size a : Nat} {r : List Int} (h : r.length = size) : rowOk size a r = cellsFrom a 0 r := by
  rw [cells_all]
  unfold rowOk
  rw [h]
  cases (r.all fun t => inB t 0 1000) <;> simp
theorem prob_head {i : Prob} (h : ¬ (inB i.cars.length 1 3 = true ∧ i.stops.length ≤ 10 ∧ i.travel.length = i.stops.length + 1)) : probOk i = false := by
  apply bool_no
  intro hp
  simp only [probOk, carsOk, stopsOk, travelOk, Bool.and_eq_true, decide_eq_true_eq] at hp
  exact h ⟨hp.1.1.1.1, hp.1.1.2.1, hp.2.1⟩
theorem prob_parts {i : Prob} (h1 : inB i.cars.length 1 3 = true) (h2 : i.stops.length ≤ 10) (h3 : i.travel.length = i.stops.length + 1) :
    probOk i = (i.cars.all carOk && (i.stops.all stopOk && (pairsFrom i.stops [] i.pairs && rowsFrom i.travel.length 0 i.travel))) := by
  simp [probOk, carsOk, stopsOk, travelOk, h1, h2, h3, Bool.and_assoc]

theorem all_take {α : Type} {p : α → Bool} {l : List α} {k : Nat} (h : k < l.length) : (l.take (k + 1)).all p = ((l.take k).all p && p l[k]) := by
  rw [List.take_succ_eq_append_getElem h]; simp only [List.all_append, List.all_cons, List.all_nil, Bool.and_true]
/-- what the map holds: the stops that are paired -/
def Sees (D : DataW Unit) (seen : List Int) : Prop := ∀ x : Int, D.atKey (.int .i64 x) (.lit (.bool false)) = .lit (.bool (seen.contains x))
theorem Sees.start : Sees (.map []) [] := fun _ => rfl
theorem Sees.put {D : DataW Unit} {seen : List Int} (h : Sees D seen) (hD : IsMap D) (y : Int) (hw : (Lit.int .i64 y).wf = true) : Sees (D.put (.int .i64 y) (.lit (.bool true))) (y :: seen) := by
  intro x
  by_cases e : x = y
  · subst e
    rw [atKey_put_same hD (by simp [WideAt.IsKeyLit])]
    simp
  · rw [atKey_put_other (fun h => e (Lit.int.inj h).2), h x]
    simp [e]
theorem key_int : Keyed Tryd.prog 3 := int_keyed Tryd.underlying3
theorem zero_bool (w : World) : (zeroValue 4).run Tryd.prog w = .ok (.bool false) w := by kernel_rfl
theorem look_seen {D : DataW Unit} {seen : List Int} {wr : World} {B n : Nat} (hown : wr.ownsMap Tryd.prog 3 (plainElem Tryd.prog 4) B n D) (h : Sees D seen) {x : Int} (hw : (Lit.int .i64 x).wf = true) :
    (Instr.lookup 75 (.map (some B)) (.int .i64 x) false).run Tryd.prog wr = .ok (.bool (seen.contains x)) wr := by
  obtain ⟨v, ps, hrun, hv⟩ := hown.lookup key_int Tryd.underlying75 (zero_bool wr) (plainElem_bool Tryd.underlying4 false) (keyOf_int_mk Tryd.underlying3 hw)
  rw [h x] at hv
  have : v = .bool (seen.contains x) := by
    unfold plainElem at hv
    rw [Tryd.underlying4] at hv
    cases v <;> simp at hv
    rw [hv.1]; simp
  rw [hrun, this]
theorem wf_small {x : Int} (h1 : 0 ≤ x) (h2 : x ≤ 1000) : (Lit.int .i64 x).wf = true := WalkArith.wf_i64 (by omega)

theorem turned_cell {w w' : World} {b : Nat} (h : w.mapTurned w' b) {a : Addr} (ha : a.block ≠ b) (hl : a.block < w.heap.size) : w'.cell? a = w.cell? a :=
  World.cell?_of_block (h.grown.block a.block hl (by simpa using ha))
def RMid (M n : Nat) (seen : List Int) (a b : Int) (w1 : World) (P Q j : Nat) (W : World) : Prop :=
  ∃ (m : Nat) (D : DataW Unit), Below w1.heap.size w1 W ∧ m ≤ M + j ∧ W.ownsMap Tryd.prog 3 (plainElem Tryd.prog 4) P m D ∧ Sees D (tops a b seen j) ∧ W.cell? ⟨Q, 0, none⟩ = some (.int .i64 a) ∧ W.cell? ⟨Q, 1, none⟩ = some (.int .i64 b) ∧ P < Q ∧ Q < W.heap.size ∧
    (1 ≤ j → elemOk n seen a = true) ∧ (2 ≤ j → elemOk n (a :: seen) b = true)
end Go.Proofs.YteibelmgebhleaaDoor
