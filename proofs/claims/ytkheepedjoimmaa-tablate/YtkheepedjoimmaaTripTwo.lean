/- A problem and a row in variables; what a trip that can be driven says, stop by stop. -/
import Derived.Test.YtkheepedjoimmaaTripViews
import Derived.Test.YtkheepedjoimmaaTripSmall
namespace Go.Proofs.Ytkheepedjoimmaa
open Go.RowKit
set_option linter.unusedSimpArgs false

theorem eval_some {i : Prob} {c : Int} {l : List Int} {t : TripR} (h : evalL i c l = some t) : thereB i l = true ∧ nodupL [] l = true ∧ pairsL i.pairs [] 0 l = true ∧ t.cost = costL i 0 l ∧ costP i l = costL i 0 l ∧ driveL i (carAt i c) 0 (carAt i c).s 0 l = some ⟨t.arr, t.load, t.home⟩ ∧ t.arr.length = l.length ∧ t.load.length = l.length := by
  unfold evalL at h
  split at h
  · next hc =>
    rw [Option.map_eq_some_iff] at h
    obtain ⟨d, hd, rfl⟩ := h
    simp only [Bool.and_eq_true] at hc
    obtain ⟨h1, h2⟩ := drive_len hd
    exact ⟨hc.1.1.2, hc.1.2, hc.2, rfl, by unfold costP; rw [if_pos hc.1.1.2], hd, h1, h2⟩
  · cases h
theorem drive_step {i : Prob} {c : Car} {last left ld : Int} {r arr load : List Int} {home : Int} {k : Nat} (hk : k < r.length) (ha : k < arr.length) (hl : k < load.length) (h : driveL i c last left ld (r.drop k) = some ⟨arr.drop k, load.drop k, home⟩) :
    arr[k] = begun i last left r[k] ∧ load[k] = ld + (stopAt i r[k]).d ∧ begun i last left r[k] ≤ (stopAt i r[k]).c ∧ 0 ≤ ld + (stopAt i r[k]).d ∧ ld + (stopAt i r[k]).d ≤ c.c ∧
      driveL i c r[k] (begun i last left r[k] + (stopAt i r[k]).s) (ld + (stopAt i r[k]).d) (r.drop (k + 1)) = some ⟨arr.drop (k + 1), load.drop (k + 1), home⟩ := by
  rw [driveL_drop hk] at h
  split at h
  · cases h
  · next hn =>
    rw [Option.map_eq_some_iff] at h
    obtain ⟨d, hd, he⟩ := h
    rw [drop_at ha, drop_at hl] at he
    simp only [Drive.more, List.cons_append, List.nil_append, Drive.mk.injEq, List.cons.injEq] at he
    obtain ⟨⟨h1, h2⟩, ⟨h3, h4⟩, h5⟩ := he
    refine ⟨h1.symm, h3.symm, by omega, by omega, by omega, ?_⟩
    rw [hd, ← h2, ← h4, ← h5]
theorem drive_end {i : Prob} {c : Car} {last left ld : Int} {arr load : List Int} {home : Int} (h : driveL i c last left ld [] = some ⟨arr, load, home⟩) : home = left + way i last 0 ∧ home ≤ c.e := by
  simp only [driveL] at h
  split at h
  · cases h
  · next hn =>
    injection h with h
    simp only [Drive.mk.injEq] at h
    omega
/-- the variable i and the row r, in a world that stands on w -/
structure Two (w W : World) (I : Nat) (A1 A2 A3 A4 : Option Addr) (c1 c2 c3 c4 : Nat) (i : Prob) (A : Option Addr) (cap : Nat) (r : List Int) : Prop where
  below : Below w.heap.size w W
  box : Box W I A1 A2 A3 A4 c1 c2 c3 c4 i
  row : Recs W 1 num_ (.slice A r.length cap) r
theorem Two.on {w W W' : World} {I : Nat} {A1 A2 A3 A4 : Option Addr} {c1 c2 c3 c4 : Nat} {i : Prob} {A : Option Addr} {cap : Nat} {r : List Int} (h : Two w W I A1 A2 A3 A4 c1 c2 c3 c4 i A cap r) (hb : Below W.heap.size W W') : Two w W' I A1 A2 A3 A4 c1 c2 c3 c4 i A cap r :=
  ⟨h.below.trans (hb.mono h.below.size), h.box.below hb, h.row.below hb⟩

/-- a trip in a variable, its rows -/
structure TrAt (W : World) (T : Nat) (A1 : Option Addr) (n1 c1 : Nat) (A2 : Option Addr) (n2 c2 : Nat) (t : TripR) : Prop where
  lt : T < W.heap.size
  b0 : W.cell? ⟨T, 0, none⟩ = some (.slice A1 n1 c1)
  b1 : W.cell? ⟨T, 1, none⟩ = some (.slice A2 n2 c2)
  b2 : W.cell? ⟨T, 2, none⟩ = some (.int .i64 t.cost)
  b3 : W.cell? ⟨T, 3, none⟩ = some (.int .i64 t.home)
  e1 : n1 = t.arr.length
  e2 : n2 = t.load.length
  l1 : n1 ≤ c1
  l2 : n2 ≤ c2
  r1 : Recs W 1 num_ (.slice A1 t.arr.length c1) t.arr
  r2 : Recs W 1 num_ (.slice A2 t.load.length c2) t.load
theorem TrAt.below {W W' : World} {T : Nat} {A1 A2 : Option Addr} {n1 c1 n2 c2 : Nat} {t : TripR} (h : TrAt W T A1 n1 c1 A2 n2 c2 t) (hb : Below W.heap.size W W') : TrAt W' T A1 n1 c1 A2 n2 c2 t :=
  ⟨Nat.lt_of_lt_of_le h.lt hb.size, cell_up hb h.lt h.b0, cell_up hb h.lt h.b1, cell_up hb h.lt h.b2, cell_up hb h.lt h.b3, h.e1, h.e2, h.l1, h.l2, h.r1.below hb, h.r2.below hb⟩
theorem tr_new {W : World} {C : Nat} {o : Option TripR} {A1 A2 : Option Addr} {n1 c1 n2 c2 : Nat} {c h : Int} (H : TripV W C o A1 n1 c1 A2 n2 c2 c h true) (ty : TypeId) :
    ∃ t, o = some t ∧ c = t.cost ∧ h = t.home ∧ TrAt (W.alloc (.cells #[.slice A1 n1 c1, .slice A2 n2 c2, .int .i64 c, .int .i64 h] ty)) W.heap.size A1 n1 c1 A2 n2 c2 t := by
  obtain ⟨r, h1, h2, h3, h4, h5, h6, h7, h8, h9⟩ := H.yes rfl
  have hb : Below W.heap.size W (W.alloc (.cells #[.slice A1 n1 c1, .slice A2 n2 c2, .int .i64 c, .int .i64 h] ty)) := (Below.refl _ _).alloc (Nat.le_refl _) _
  refine ⟨r, h1, h4, h5, by simp, by simp, by simp, ?_, ?_, h2, h3, h6, h7, h8.below hb, h9.below hb⟩
  · rw [← h4]; simp
  · rw [← h5]; simp
end Go.Proofs.Ytkheepedjoimmaa
