/- Plans: what is told of them; how they lie in memory; the reference's at, Where. -/
import Derived.Test.YtneelmmikaefgaaRefAlike
namespace Go.Proofs.Ytneelmmikaefgaa
open Go.RowKit
set_option linter.unusedSimpArgs false

structure PlanP where
  routes : List (List Int)
  lock : List Int
  ice : List Int
  rv : List Int
  sv : List Int
  iv : List Int
  pv : Int
/-- a plan in memory -/
def PlanAt (W : World) (v : Value) (p : PlanP) : Prop := ∃ A1 c1 A2 c2 A3 c3 A4 c4 A5 c5 A6 c6, v = .agg #[.slice A1 p.routes.length c1, .slice A2 p.lock.length c2, .slice A3 p.ice.length c3, .slice A4 p.rv.length c4, .slice A5 p.sv.length c5, .slice A6 p.iv.length c6, .int .i64 p.pv] ∧
  Trav W (.slice A1 p.routes.length c1) p.routes ∧ Recs W 1 num_ (.slice A2 p.lock.length c2) p.lock ∧ Recs W 1 num_ (.slice A3 p.ice.length c3) p.ice ∧ Recs W 1 num_ (.slice A4 p.rv.length c4) p.rv ∧ Recs W 1 num_ (.slice A5 p.sv.length c5) p.sv ∧ Recs W 1 num_ (.slice A6 p.iv.length c6) p.iv
theorem PlanAt.below {W W' : World} {v : Value} {p : PlanP} (h : PlanAt W v p) (hb : Below W.heap.size W W') : PlanAt W' v p := by
  obtain ⟨A1, c1, A2, c2, A3, c3, A4, c4, A5, c5, A6, c6, rfl, h1, h2, h3, h4, h5, h6⟩ := h
  exact ⟨A1, c1, A2, c2, A3, c3, A4, c4, A5, c5, A6, c6, rfl, h1.below hb, h2.below hb, h3.below hb, h4.below hb, h5.below hb, h6.below hb⟩
/-- where a stop is -/
def rowL (s : Int) : Int → List Int → Option Int
  | _, [] => none
  | k, x :: r => if x = s then some k else rowL s (k + 1) r
def whereL (s : Int) : Int → List (List Int) → Int × Int
  | _, [] => (-1, -1)
  | c, r :: l => match rowL s 0 r with
    | some k => (c, k)
    | none => whereL s (c + 1) l
theorem drop_eq {α : Type} {l : List α} {k : Nat} (h : k < l.length) : l.drop k = l[k] :: l.drop (k + 1) := List.drop_eq_getElem_cons h
def atL (l : List Int) (k : Int) : Option Int := if k < 0 ∨ (l.length : Int) ≤ k then none else l[k.toNat]?
set_option maxRecDepth 100000 in
set_option maxHeartbeats 2000000 in
theorem refAt_no (A : Option Addr) (cap : Nat) (l : List Int) (k : Int) (w : World) (hk : k < 0 ∨ (l.length : Int) ≤ k) :
    Calls Try.prog 80 #[.slice A l.length cap, .int .i64 k] w fun e w' => e = .returned (.tuple #[.int .i64 0, .bool false]) ∧ w = w' := by
  by_cases h : k < 0
  · have t1 := decide_eq_true h
    clear hk
    go_enter Try.func80, Try.ntmps80
    go_wp2
    go_ret2
    exact ⟨rfl, rfl⟩
  · have h2 : (l.length : Int) ≤ k := by omega
    clear hk
    go_enter Try.func80, Try.ntmps80
    go_wp2
    go_ret2
    exact ⟨rfl, rfl⟩
set_option maxRecDepth 100000 in
set_option maxHeartbeats 2000000 in
theorem refAt_in (A : Option Addr) (cap : Nat) (l : List Int) (k : Nat) (hk : k < l.length) (w : World) (h : Recs w 1 num_ (.slice A l.length cap) l) :
    Calls Try.prog 80 #[.slice A l.length cap, .int .i64 (k : Int)] w fun e w' => e = .returned (.tuple #[.int .i64 l[k], .bool true]) ∧ w = w' := by
  obtain ⟨g, o, rfl, hg, c0⟩ := recs_num h hk
  have h1 : ¬ (k : Int) < 0 := by omega
  have h2 : ¬ (l.length : Int) ≤ (k : Int) := by omega
  have h3 : (k : Int) < (l.length : Int) := by omega
  clear h
  generalize l[k] = x at *
  go_enter Try.func80, Try.ntmps80
  go_wp2
  go_ret2
  exact ⟨rfl, rfl⟩
theorem trav_at {W : World} {A : Option Addr} {cap : Nat} {l : List (List Int)} (h : Trav W (.slice A l.length cap) l) {k : Nat} (hk : k < l.length) : ∃ B o Ar cr, A = some ⟨B, o, none⟩ ∧ B < W.heap.size ∧ W.cell? ⟨B, o + k, none⟩ = some (.slice Ar l[k].length cr) ∧ Recs W 1 num_ (.slice Ar l[k].length cr) l[k] := by
  obtain ⟨A', cap', hv, h⟩ := h
  injection hv with hA _ _
  subst hA
  obtain ⟨B, o, u, rfl, hB, hc, hr⟩ := h k hk
  have hr' := hr
  obtain ⟨Ar, cr, rfl, _⟩ := hr
  exact ⟨B, o, Ar, cr, rfl, hB, hc, hr'⟩
set_option maxRecDepth 100000 in
set_option maxHeartbeats 4000000 in
theorem refWhere_any (A1 A2 A3 A4 A5 A6 : Option Addr) (n2 n3 n4 n5 n6 c1 c2 c3 c4 c5 c6 : Nat) (pv : Int) (rs : List (List Int)) (s : Int) (w : World) (h : Trav w (.slice A1 rs.length c1) rs) (hn : rs.length ≤ 1099511627776) (hm : ∀ r ∈ rs, r.length ≤ 1099511627776) :
    Calls Try.prog 109 #[.agg #[.slice A1 rs.length c1, .slice A2 n2 c2, .slice A3 n3 c3, .slice A4 n4 c4, .slice A5 n5 c5, .slice A6 n6 c6, .int .i64 pv], .int .i64 s] w fun e w' => e = .returned (.tuple #[.int .i64 (whereL s 0 rs).1, .int .i64 (whereL s 0 rs).2]) ∧ Below w.heap.size w w' := by
  have HR := Lib.hid h
  have HM := Lib.hid hm
  clear h hm
  go_enter Try.func109, Try.ntmps109
  go_wp2
  go_loopw [13] (fun cv wr => ∃ c : Nat, c ≤ rs.length ∧ cv = .int .i64 c ∧ Hid (whereL s 0 rs = whereL s c (rs.drop c)) ∧ Hid (Below w.heap.size w wr)) (fun cv _ => rs.length - (intOf cv).toNat)
  case atStart => exact ⟨0, Nat.zero_le _, rfl, Lib.hid rfl, Lib.hid ((Below.refl _ _).alloc (Nat.le_refl _) _)⟩
  case round =>
    obtain ⟨c, hc, rfl, he, hb⟩ := hrel
    by_cases hlt : c < rs.length
    · obtain ⟨B, o, Ar, cr, rfl, hB, d0, hr⟩ := trav_at HR.out hlt
      have c0 : wr.cell? ⟨B, o + c, none⟩ = some (.slice Ar rs[c].length cr) := by rw [hb.out.cell hB]; exact d0
      have RR := Lib.hid hr
      have hlr := HM.out _ (List.getElem_mem hlt)
      have he2 := he.out
      rw [drop_eq hlt] at he2
      have HW := Lib.hid (show whereL s 0 rs = match rowL s 0 rs[c] with | some k => ((c : Int), k) | none => whereL s ((c : Int) + 1) (rs.drop (c + 1)) from he2)
      clear d0 hr he he2
      generalize rs[c] = r at *
      go_wp2
      go_loopw [20] (fun kv wv => ∃ k : Nat, k ≤ r.length ∧ kv = .int .i64 k ∧ Hid (rowL s 0 r = rowL s k (r.drop k)) ∧ Hid (Below w.heap.size w wv)) (fun kv _ => r.length - (intOf kv).toNat)
      case atStart => exact ⟨0, Nat.zero_le _, rfl, Lib.hid rfl, hb⟩
      case round =>
        obtain ⟨k, hk, rfl, hk2, hb⟩ := hrel
        by_cases hlk : k < r.length
        · obtain ⟨g, q, rfl, hg, d0⟩ := recs_num RR.out hlk
          have e0 : wr.cell? ⟨g, q + k, none⟩ = some (.int .i64 r[k]) := by rw [hb.out.cell hg]; exact d0
          have h3 := hk2.out
          rw [drop_eq hlk] at h3
          have HK := Lib.hid (show rowL s 0 r = if r[k] = s then some (k : Int) else rowL s ((k : Int) + 1) (r.drop (k + 1)) from h3)
          clear d0 h3 hk2
          generalize r[k] = x at *
          by_cases hx : x = s
          · have t1 : (x == s) = true := by simpa using hx
            have HX := Lib.hid hx
            clear hx
            go_wp2
            go_ret2
            refine ⟨?_, hb.out⟩
            have h5 := HW.out
            rw [HK.out, if_pos HX.out] at h5
            rw [h5]
            rfl
          · have t1 : (x == s) = false := by simpa using hx
            have HX := Lib.hid hx
            clear hx
            go_wp2
            go_roundw
            case rel => exact ⟨k + 1, by omega, by go_num, Lib.hid (by have := HK.out; rw [if_neg HX.out] at this; rw [this]; push_cast; rfl), hb⟩
            case measure => simp [intOf]; omega
        · have hd : r.drop k = [] := List.drop_eq_nil_of_le (by omega)
          have h5 := HW.out
          rw [hk2.out, hd] at h5
          have HW2 := Lib.hid (show whereL s 0 rs = whereL s ((c : Int) + 1) (rs.drop (c + 1)) from h5)
          clear h5 hd HW hk2
          go_wp2
          go_roundw
          case rel => exact ⟨c + 1, by omega, by go_num, Lib.hid (by rw [HW2.out]; push_cast; rfl), hb⟩
          case measure => simp [intOf]; omega
    · have hd : rs.drop c = [] := List.drop_eq_nil_of_le (by omega)
      have h5 := he.out
      rw [hd] at h5
      have HW := Lib.hid (show whereL s 0 rs = (-1, -1) from h5)
      clear h5 hd he
      go_wp2
      go_ret2
      refine ⟨?_, hb.out⟩
      rw [HW.out]
      rfl
end Go.Proofs.Ytneelmmikaefgaa
