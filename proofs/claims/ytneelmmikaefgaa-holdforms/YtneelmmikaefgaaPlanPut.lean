/- What an edit makes of a plan, plainly. -/
import Derived.Test.YtneelmmikaefgaaPlanSet
namespace Go.Proofs.Ytneelmmikaefgaa
open Go.RowKit
set_option linter.unusedSimpArgs false
set_option linter.unusedVariables false

def putR (rs : List (List Int)) (l : List Turn) : List (List Int) := l.foldl (fun rs t => rs.set t.c.toNat t.a) rs
theorem putR_snoc {rs : List (List Int)} {l : List Turn} {k : Nat} (h : k < l.length) : putR rs (l.take (k + 1)) = (putR rs (l.take k)).set l[k].c.toNat l[k].a := by
  unfold putR
  rw [take_snoc h, List.foldl_append]
  rfl
theorem putR_length : ∀ (l : List Turn) (rs : List (List Int)), (putR rs l).length = rs.length
  | [], _ => rfl
  | t :: l, rs => by
    show (putR (rs.set t.c.toNat t.a) l).length = _
    rw [putR_length l, List.length_set]
theorem putR_mem {x : List Int} : ∀ (l : List Turn) (rs : List (List Int)), x ∈ putR rs l → x ∈ rs ∨ ∃ t ∈ l, x = t.a
  | [], _, h => .inl h
  | t :: l, rs, h => by
    rcases putR_mem l _ (show x ∈ putR (rs.set t.c.toNat t.a) l from h) with h | ⟨t', h1, h2⟩
    · rcases List.mem_or_eq_of_mem_set h with h | h
      · exact .inl h
      · exact .inr ⟨t, by simp, h⟩
    · exact .inr ⟨t', by simp [h1], h2⟩
def stopIn (p : PlanP) (s : Int) : Bool := decide (1 ≤ s ∧ s < (p.sv.length : Int))
def turnIn (p : PlanP) (t : Turn) : Bool := decide (0 ≤ t.c ∧ t.c < (p.routes.length : Int)) && t.a.all (stopIn p)
def turnSame (p : PlanP) (t : Turn) : Bool := decide (p.routes.getD t.c.toNat [] = t.b)
def holdIn (n : Nat) (low : Int) (h : Hold) : Bool := decide (low ≤ h.n ∧ h.n < (n : Int))
def holdSame (l : List Int) (h : Hold) : Bool := decide (l.getD h.n.toNat 0 = h.b)
def checkD (d : Edit) : Bool := decide (d.turns.map Turn.c).Nodup && (decide (d.locks.map Hold.n).Nodup && decide (d.ices.map Hold.n).Nodup)
def applyArg (p : PlanP) (d : Edit) : Bool := checkD d && (d.turns.all (turnIn p) && (decide (putR p.routes d.turns).flatten.Nodup && (d.locks.all (holdIn p.lock.length 1) && d.ices.all (holdIn p.ice.length 0))))
def applySame (p : PlanP) (d : Edit) : Bool := d.turns.all (turnSame p) && (d.locks.all (holdSame p.lock) && d.ices.all (holdSame p.ice))
def bump (l : List Int) (ks : List Int) : List Int := ks.foldl (fun l k => l.set k.toNat (wrap64 (l.getD k.toNat 0 + 1))) l
def putH (l : List Int) (hs : List Hold) : List Int := hs.foldl (fun l h => l.set h.n.toNat h.a) l
theorem bump_length : ∀ (ks l : List Int), (bump l ks).length = l.length
  | [], _ => rfl
  | k :: ks, l => by
    show (bump (l.set k.toNat _) ks).length = _
    rw [bump_length ks, List.length_set]
theorem putH_length : ∀ (hs : List Hold) (l : List Int), (putH l hs).length = l.length
  | [], _ => rfl
  | h :: hs, l => by
    show (putH (l.set h.n.toNat h.a) hs).length = _
    rw [putH_length hs, List.length_set]
theorem bump_snoc {l ks : List Int} {k : Nat} (h : k < ks.length) : bump l (ks.take (k + 1)) = (bump l (ks.take k)).set ks[k].toNat (wrap64 ((bump l (ks.take k)).getD ks[k].toNat 0 + 1)) := by
  unfold bump
  rw [take_snoc h, List.foldl_append]
  rfl
theorem putH_snoc {l : List Int} {hs : List Hold} {k : Nat} (h : k < hs.length) : putH l (hs.take (k + 1)) = (putH l (hs.take k)).set hs[k].n.toNat hs[k].a := by
  unfold putH
  rw [take_snoc h, List.foldl_append]
  rfl
/-- the tidy edit by itself -/
def tidyE2 (d : Edit) : Edit := ⟨tidyT d.turns, holdsL d.locks, holdsL d.ices⟩
/-- a plan whose lists fit each other -/
structure PlanFit (p : PlanP) : Prop where
  routes : p.routes.length ≤ 1000
  route : ∀ r ∈ p.routes, r.length ≤ 1000 ∧ ∀ s ∈ r, 1 ≤ s ∧ s < (p.sv.length : Int)
  rv : p.rv.length = p.routes.length
  ice : p.ice.length = p.routes.length
  iv : p.iv.length = p.routes.length
  lock : p.lock.length = p.sv.length
  sv : p.sv.length ≤ 1000
def wfI (x : Int) : Prop := (Lit.int .i64 x).wf = true
structure EditFit (d : Edit) : Prop where
  turns : d.turns.length ≤ 20
  turn : ∀ t ∈ d.turns, t.a.length ≤ 1000 ∧ t.b.length ≤ 1000 ∧ wfI t.c ∧ (∀ x ∈ t.b, wfI x) ∧ ∀ x ∈ t.a, wfI x
  locks : d.locks.length ≤ 1000
  ices : d.ices.length ≤ 1000
  lock : ∀ h ∈ d.locks, wfI h.n
  ice : ∀ h ∈ d.ices, wfI h.n
theorem stops_in {p : PlanP} {d : Edit} (hp : PlanFit p) (h : d.turns.all (turnIn p) = true) : ∀ x ∈ (putR p.routes d.turns).flatten, 1 ≤ x ∧ x < (p.sv.length : Int) := by
  intro x hx
  obtain ⟨r, hr, hx⟩ := List.mem_flatten.1 hx
  rcases putR_mem _ _ hr with h1 | ⟨t, ht, rfl⟩
  · exact (hp.route r h1).2 x hx
  · have := List.all_eq_true.1 h t ht
    simp only [turnIn, Bool.and_eq_true] at this
    have := List.all_eq_true.1 this.2 x hx
    simpa [stopIn] using this
theorem dup_flat {rs : List (List Int)} {k : Nat} {r : List Int} (hk : k < rs.length) (hr : rs[k] = r) {j : Nat} (hj : j < r.length) (h : r[j] ∈ (rs.take k).flatten ++ r.take j) : ¬ rs.flatten.Nodup := by
  intro hn
  have e : rs = rs.take k ++ (r :: rs.drop (k + 1)) := by rw [← hr, ← drop_eq hk, List.take_append_drop]
  have e2 : r = r.take j ++ (r[j] :: r.drop (j + 1)) := by rw [← drop_eq hj, List.take_append_drop]
  have e3 : rs.flatten = ((rs.take k).flatten ++ r.take j) ++ (r[j] :: (r.drop (j + 1) ++ (rs.drop (k + 1)).flatten)) := by
    have h1 : rs.flatten = (rs.take k).flatten ++ (r ++ (rs.drop (k + 1)).flatten) := by
      have := congrArg List.flatten e
      rwa [List.flatten_append, List.flatten_cons] at this
    have h2 : r ++ (rs.drop (k + 1)).flatten = r.take j ++ (r[j] :: (r.drop (j + 1) ++ (rs.drop (k + 1)).flatten)) := by
      have := congrArg (· ++ (rs.drop (k + 1)).flatten) e2
      simpa only [List.append_assoc, List.cons_append] using this
    rw [h1, h2, List.append_assoc]
  rw [e3] at hn
  exact (List.nodup_append.1 hn).2.2 _ h _ (by simp) rfl
theorem nodup_short : ∀ (n : Nat) (l : List Int), l.Nodup → (∀ x ∈ l, 1 ≤ x ∧ x < (n : Int)) → l.length ≤ n := by
  intro n l hn hl
  have h1 : (l.map Int.toNat).Nodup := by
    refine List.Pairwise.map _ ?_ (List.Pairwise.imp_of_mem (R := fun a b => a ≠ b) (S := fun a b => a ≠ b ∧ 0 ≤ a ∧ 0 ≤ b) (fun {a b} ha hb h => ⟨h, by have := hl a ha; omega, by have := hl b hb; omega⟩) hn)
    rintro a b ⟨h, h1, h2⟩ e
    exact h (by omega)
  have h2 : ∀ x ∈ l.map Int.toNat, x ∈ List.range n := fun x hx => by
    obtain ⟨y, hy, rfl⟩ := List.mem_map.1 hx
    have := hl y hy
    exact List.mem_range.2 (by omega)
  have := h1.length_le_of_subset h2
  simpa using this
theorem flat_short {rs : List (List Int)} {n k : Nat} (h : ∀ x ∈ rs.flatten, 1 ≤ x ∧ x < (n : Int)) (hn : (rs.take k).flatten.Nodup) (hl : n ≤ 1000) : (rs.take k).flatten.length ≤ 1000 := by
  have := nodup_short n _ hn (fun x hx => h x (by
    obtain ⟨r, hr, hx⟩ := List.mem_flatten.1 hx
    exact List.mem_flatten.2 ⟨r, List.mem_of_mem_take hr, hx⟩))
  omega
end Go.Proofs.Ytneelmmikaefgaa
