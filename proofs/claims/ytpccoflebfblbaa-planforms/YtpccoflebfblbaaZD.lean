/- Package plan's Apply (laid by gen_papply.py). · Two plans alike: slices.EqualFunc of routes, package plan's Same, the reference's SamePlan, Exact (laid by gen_psame.py). · The travel of all routes. · Package plan's Cost (laid by gen_pcost.py). -/
import Derived.Test.YtpccoflebfblbaaZA
import Derived.Test.YtpccoflebfblbaaZB
import Derived.Test.YtpccoflebfblbaaZC
import Derived.Test.YtpccoflebfblbaaPlanMem
import Derived.Test.YtpccoflebfblbaaDLib
import Derived.Test.YtpccoflebfblbaaSteps
import Derived.Test.YtpccoflebfblbaaRefAlike
import Derived.Test.YtpccoflebfblbaaLin
import Derived.Test.YtpccoflebfblbaaTripPlain
import Derived.Test.YtpccoflebfblbaaDBits
import Derived.Test.YtpccoflebfblbaaTripEval
namespace Go.Proofs.Ytpccoflebfblbaa
open Go.RowKit
set_option linter.unusedSimpArgs false
set_option linter.unusedVariables false

def badP (p : PlanP) (d : Edit) : Bool := twiceE d || (!thereP p d || twiceI (putR p.routes d.turns).flatten)
def doneP (p : PlanP) (d : Edit) : PlanP := raiseP (changeP p d) (tidyE2 d)
def PApplyIs (p : PlanP) (d : Edit) (q : PlanP) (n : Int) : Prop :=
  (badP p d = true ∧ n = 1 ∧ q = noPlan) ∨ (badP p d = false ∧ applySame p d = false ∧ n = 15 ∧ q = noPlan) ∨ (badP p d = false ∧ applySame p d = true ∧ n = 0 ∧ q = doneP p d)
def PApplyEnd (p : PlanP) (d : Edit) (w : World) (e : Ending) (w' : World) : Prop := ∃ q v n, e = .returned (.tuple #[v, .int .i64 n]) ∧ NewP w.heap.size w' v q ∧ PApplyIs p d q n ∧ Below w.heap.size w w'
theorem papplyEnd_of {p : PlanP} {d : Edit} {w w' : World} {s : Nat} (hs : w.heap.size = s) {q : PlanP} {v : Value} {n : Int} (hn : NewP s w' v q) (hi : PApplyIs p d q n) (hb : Below s w w') : PApplyEnd p d w (.returned (.tuple #[v, .int .i64 n])) w' := by
  subst hs
  exact ⟨q, v, n, rfl, hn, hi, hb⟩
theorem movedE_pl {f g : List Turn} (h : f.map Turn.pl = g.map Turn.pl) (l i : List Hold) : movedE ⟨f, l, i⟩ = movedE ⟨g, l, i⟩ := by
  have eb : ∀ f : List Turn, f.flatMap Turn.b = (f.map Turn.pl).flatMap (fun p => p.2.1) := fun f => by simp [List.flatMap_map, Turn.pl]
  have ea : ∀ f : List Turn, f.flatMap Turn.a = (f.map Turn.pl).flatMap (fun p => p.2.2) := fun f => by simp [List.flatMap_map, Turn.pl]
  unfold movedE befE aftE
  simp only [eb, ea, h]
theorem raise_pl {q : PlanP} {f g : List Turn} (h : f.map Turn.pl = g.map Turn.pl) (l i : List Hold) : raiseP q ⟨f, l, i⟩ = raiseP q ⟨g, l, i⟩ := by
  have ec : f.map Turn.c = g.map Turn.c := by
    have e : ∀ f : List Turn, f.map Turn.c = (f.map Turn.pl).map Prod.fst := fun f => by rw [List.map_map]; rfl
    rw [e, e, h]
  unfold raiseP risesE
  rw [movedE_pl h]
  simp only [ec]
theorem pl_mem {f g : List Turn} (h : f.map Turn.pl = g.map Turn.pl) {x : Turn} (hx : x ∈ f) : ∃ y ∈ g, y.c = x.c ∧ y.b = x.b ∧ y.a = x.a := by
  have : x.pl ∈ g.map Turn.pl := by rw [← h]; exact List.mem_map.2 ⟨x, hx, rfl⟩
  obtain ⟨y, hy, e⟩ := List.mem_map.1 this
  simp only [Turn.pl, Prod.mk.injEq] at e
  exact ⟨y, hy, e.1, e.2.1, e.2.2⟩
theorem there_turn {p : PlanP} {d : Edit} (h : thereP p d = true) {t : Turn} (ht : t ∈ d.turns) : (0 ≤ t.c ∧ t.c < (p.routes.length : Int)) ∧ (∀ x ∈ t.b, 1 ≤ x ∧ x < (p.sv.length : Int)) ∧ ∀ x ∈ t.a, 1 ≤ x ∧ x < (p.sv.length : Int) := by
  unfold thereP at h
  simp only [Bool.and_eq_true] at h
  have := List.all_eq_true.1 h.1 t ht
  simp only [turnThere, Bool.and_eq_true, carB, stopsB, decide_eq_true_eq, List.all_eq_true] at this
  exact ⟨this.1, this.2.1, this.2.2⟩
theorem there_lock {p : PlanP} {d : Edit} (h : thereP p d = true) {x : Hold} (hx : x ∈ d.locks) : 1 ≤ x.n ∧ x.n < (p.sv.length : Int) := by
  unfold thereP at h
  simp only [Bool.and_eq_true] at h
  simpa only [holdIn, decide_eq_true_eq] using List.all_eq_true.1 h.2.1 x hx
theorem there_ice {p : PlanP} {d : Edit} (h : thereP p d = true) {x : Hold} (hx : x ∈ d.ices) : 0 ≤ x.n ∧ x.n < (p.routes.length : Int) := by
  unfold thereP at h
  simp only [Bool.and_eq_true] at h
  simpa only [holdIn, decide_eq_true_eq] using List.all_eq_true.1 h.2.2 x hx
theorem names_there {p : PlanP} {d : Edit} (hf : PlanFit p) (h : thereP p d = true) : Names p d :=
  ⟨fun x hx => (there_turn h hx).1, fun x hx => by have := there_lock h hx; rw [hf.lock]; omega, fun x hx => by have := there_ice h hx; rw [hf.ice]; exact this⟩
theorem holdsL_mem {l : List Hold} {x : Hold} (h : x ∈ holdsL l) : x ∈ l := by
  unfold holdsL at h
  rw [mem_sortBy] at h
  exact (List.mem_filter.1 h).1
theorem raises_there {p : PlanP} {d : Edit} (hf : PlanFit p) (h : thereP p d = true) {f : List Turn} (hp : f.map Turn.pl = (tidyT d.turns).map Turn.pl) : Raises (changeP p d) ⟨f, holdsL d.locks, holdsL d.ices⟩ := by
  have ht : ∀ x ∈ f, (0 ≤ x.c ∧ x.c < (p.routes.length : Int)) ∧ (∀ y ∈ x.b, 1 ≤ y ∧ y < (p.sv.length : Int)) ∧ ∀ y ∈ x.a, 1 ≤ y ∧ y < (p.sv.length : Int) := fun x hx => by
    obtain ⟨y, hy, e1, e2, e3⟩ := pl_mem hp hx
    rw [← e1, ← e2, ← e3]
    exact there_turn h (tidyT_mem hy)
  refine ⟨fun x hx => ?_, fun x hx => ?_, fun x hx => ?_, fun x hx => ?_, hf.sv⟩
  · show 0 ≤ x.c ∧ x.c < (p.rv.length : Int)
    rw [hf.rv]; exact (ht x hx).1
  · show 0 ≤ x.n ∧ x.n < (p.iv.length : Int)
    rw [hf.iv]; exact there_ice h (holdsL_mem hx)
  · show 0 ≤ x.n ∧ x.n < (p.sv.length : Int)
    have := there_lock h (holdsL_mem hx); omega
  · show 0 ≤ x ∧ x < (p.sv.length : Int)
    rcases (movedE_mem _ x).1 hx with ⟨h1, _⟩ | ⟨h1, _⟩
    · obtain ⟨t, h2, h3⟩ := List.mem_flatMap.1 h1
      have := (ht t h2).2.1 x h3; omega
    · obtain ⟨t, h2, h3⟩ := List.mem_flatMap.1 h1
      have := (ht t h2).2.2 x h3; omega
theorem put_short {p : PlanP} {At Al Ai : Option Addr} {ct cl ci : Nat} {d : Edit} {w : World} (hf : PlanFit p) (hd : EditIn w At Al Ai ct cl ci d) : ∀ r ∈ putR p.routes d.turns, r.length ≤ 1000000 := fun r hr => by
  rcases putR_mem _ _ hr with h | ⟨t, ht, rfl⟩
  · have := (hf.route r h).1; omega
  · exact (hd.nm t ht).2
set_option maxRecDepth 100000 in
set_option maxHeartbeats 8000000 in
theorem papply_any (A1 A2 A3 A4 A5 A6 : Option Addr) (c1 c2 c3 c4 c5 c6 : Nat) (p : PlanP) (At Al Ai : Option Addr) (ct cl ci : Nat) (d : Edit) (w : World) (hp : PIn w A1 A2 A3 A4 A5 A6 c1 c2 c3 c4 c5 c6 p) (hd : EditIn w At Al Ai ct cl ci d) :
    Calls Try.prog 6 #[.agg #[.slice A1 p.routes.length c1, .slice A2 p.sv.length c2, .slice A3 p.routes.length c3, .slice A4 p.routes.length c4, .slice A5 p.sv.length c5, .slice A6 p.routes.length c6, .int .i64 p.pv], .agg #[.slice At d.turns.length ct, .slice Al d.locks.length cl, .slice Ai d.ices.length ci]] w (PApplyEnd p d w) := by
  have W0B : Hid (Below w.heap.size w (((w.alloc (.cells #[.slice A1 p.routes.length c1, .slice A2 p.sv.length c2, .slice A3 p.routes.length c3, .slice A4 p.routes.length c4, .slice A5 p.sv.length c5, .slice A6 p.routes.length c6, .int .i64 p.pv] 34)).alloc (.cells #[.slice At d.turns.length ct, .slice Al d.locks.length cl, .slice Ai d.ices.length ci] 46)).alloc (.cells #[.slice none 0 0, .slice none 0 0, .slice none 0 0, .slice none 0 0, .slice none 0 0, .slice none 0 0, .int .i64 0] 34))) := Lib.hid ((((Below.refl _ _).alloc (Nat.le_refl _) _).alloc (by simp) _).alloc (by simp; omega) _)
  have BP : Hid (Blk (((w.alloc (.cells #[.slice A1 p.routes.length c1, .slice A2 p.sv.length c2, .slice A3 p.routes.length c3, .slice A4 p.routes.length c4, .slice A5 p.sv.length c5, .slice A6 p.routes.length c6, .int .i64 p.pv] 34)).alloc (.cells #[.slice At d.turns.length ct, .slice Al d.locks.length cl, .slice Ai d.ices.length ci] 46)).alloc (.cells #[.slice none 0 0, .slice none 0 0, .slice none 0 0, .slice none 0 0, .slice none 0 0, .slice none 0 0, .int .i64 0] 34)) w.heap.size #[.slice A1 p.routes.length c1, .slice A2 p.sv.length c2, .slice A3 p.routes.length c3, .slice A4 p.routes.length c4, .slice A5 p.sv.length c5, .slice A6 p.routes.length c6, .int .i64 p.pv].toList) := Lib.hid (((blk_new w _ _).alloc _).alloc _)
  have BD : Hid (Blk (((w.alloc (.cells #[.slice A1 p.routes.length c1, .slice A2 p.sv.length c2, .slice A3 p.routes.length c3, .slice A4 p.routes.length c4, .slice A5 p.sv.length c5, .slice A6 p.routes.length c6, .int .i64 p.pv] 34)).alloc (.cells #[.slice At d.turns.length ct, .slice Al d.locks.length cl, .slice Ai d.ices.length ci] 46)).alloc (.cells #[.slice none 0 0, .slice none 0 0, .slice none 0 0, .slice none 0 0, .slice none 0 0, .slice none 0 0, .int .i64 0] 34)) (w.heap.size + 1) #[.slice At d.turns.length ct, .slice Al d.locks.length cl, .slice Ai d.ices.length ci].toList) := Lib.hid ((blk_at (w := w.alloc _) #[.slice At d.turns.length ct, .slice Al d.locks.length cl, .slice Ai d.ices.length ci] 46 (by simp)).alloc _)
  have HZ : Hid ((((w.alloc (.cells #[.slice A1 p.routes.length c1, .slice A2 p.sv.length c2, .slice A3 p.routes.length c3, .slice A4 p.routes.length c4, .slice A5 p.sv.length c5, .slice A6 p.routes.length c6, .int .i64 p.pv] 34)).alloc (.cells #[.slice At d.turns.length ct, .slice Al d.locks.length cl, .slice Ai d.ices.length ci] 46)).alloc (.cells #[.slice none 0 0, .slice none 0 0, .slice none 0 0, .slice none 0 0, .slice none 0 0, .slice none 0 0, .int .i64 0] 34)).heap[w.heap.size + 2]? = some (.cells #[.slice none 0 0, .slice none 0 0, .slice none 0 0, .slice none 0 0, .slice none 0 0, .slice none 0 0, .int .i64 0] 34 (0, 0))) := Lib.hid (by have := heap_new ((w.alloc (.cells #[.slice A1 p.routes.length c1, .slice A2 p.sv.length c2, .slice A3 p.routes.length c3, .slice A4 p.routes.length c4, .slice A5 p.sv.length c5, .slice A6 p.routes.length c6, .int .i64 p.pv] 34)).alloc (.cells #[.slice At d.turns.length ct, .slice Al d.locks.length cl, .slice Ai d.ices.length ci] 46)) (.cells #[.slice none 0 0, .slice none 0 0, .slice none 0 0, .slice none 0 0, .slice none 0 0, .slice none 0 0, .int .i64 0] 34); simpa using this)
  have HPW := Lib.hid (fun (W : World) (hb : Below w.heap.size w W) => hp.below hb)
  have HDW := Lib.hid (fun (W : World) (hb : Below w.heap.size w W) => hd.below hb)
  have HF := Lib.hid hp.fit
  have hnr := hp.fit.routes
  have hnt := hd.nt
  have hnl := hd.nl
  have hni := hd.ni
  have HPS := Lib.hid (put_short hp.fit hd)
  clear hp hd
  go_enter Try.func6, Try.ntmps6
  go_upto_region 1 with (fail)
  generalize (((w.alloc (.cells #[.slice A1 p.routes.length c1, .slice A2 p.sv.length c2, .slice A3 p.routes.length c3, .slice A4 p.routes.length c4, .slice A5 p.sv.length c5, .slice A6 p.routes.length c6, .int .i64 p.pv] 34)).alloc (.cells #[.slice At d.turns.length ct, .slice Al d.locks.length cl, .slice Ai d.ices.length ci] 46)).alloc (.cells #[.slice none 0 0, .slice none 0 0, .slice none 0 0, .slice none 0 0, .slice none 0 0, .slice none 0 0, .int .i64 0] 34)) = W0 at *
  have hsW : w.heap.size + 2 < W0.heap.size := (blk_of_heap HZ.out).1
  have RH : Hid (∀ W, Below W0.heap.size W0 W → W.heap[w.heap.size + 2]? = some (.cells #[.slice none 0 0, .slice none 0 0, .slice none 0 0, .slice none 0 0, .slice none 0 0, .slice none 0 0, .int .i64 0] 34 (0, 0))) := Lib.hid (fun W hb => heap_keep HZ.out hb)
  have RZ : Hid (∀ W, Below W0.heap.size W0 W → w.heap.size + 2 < W.heap.size ∧ W.cell? ⟨w.heap.size + 2, 0, none⟩ = some (.slice none 0 0) ∧ W.cell? ⟨w.heap.size + 2, 1, none⟩ = some (.slice none 0 0) ∧ W.cell? ⟨w.heap.size + 2, 2, none⟩ = some (.slice none 0 0) ∧ W.cell? ⟨w.heap.size + 2, 3, none⟩ = some (.slice none 0 0) ∧ W.cell? ⟨w.heap.size + 2, 4, none⟩ = some (.slice none 0 0) ∧ W.cell? ⟨w.heap.size + 2, 5, none⟩ = some (.slice none 0 0) ∧ W.cell? ⟨w.heap.size + 2, 6, none⟩ = some (.int .i64 0) ∧ W.frozen? ⟨w.heap.size + 2, 0, none⟩ = false ∧ W.frozen? ⟨w.heap.size + 2, 1, none⟩ = false ∧ W.frozen? ⟨w.heap.size + 2, 2, none⟩ = false ∧ W.frozen? ⟨w.heap.size + 2, 3, none⟩ = false ∧ W.frozen? ⟨w.heap.size + 2, 4, none⟩ = false ∧ W.frozen? ⟨w.heap.size + 2, 5, none⟩ = false ∧ W.frozen? ⟨w.heap.size + 2, 6, none⟩ = false) := Lib.hid (fun W hb => by
    have B := blk_of_heap (RH.out W hb)
    exact ⟨B.1, (B.2 0 (by simp)).1, (B.2 1 (by simp)).1, (B.2 2 (by simp)).1, (B.2 3 (by simp)).1, (B.2 4 (by simp)).1, (B.2 5 (by simp)).1, (B.2 6 (by simp)).1, (B.2 0 (by simp)).2, (B.2 1 (by simp)).2, (B.2 2 (by simp)).2, (B.2 3 (by simp)).2, (B.2 4 (by simp)).2, (B.2 5 (by simp)).2, (B.2 6 (by simp)).2⟩)
  have CP : Hid (∀ W, Below W0.heap.size W0 W → W.cell? ⟨w.heap.size, 0, none⟩ = some (.slice A1 p.routes.length c1) ∧ W.cell? ⟨w.heap.size, 1, none⟩ = some (.slice A2 p.sv.length c2) ∧ W.cell? ⟨w.heap.size, 2, none⟩ = some (.slice A3 p.routes.length c3) ∧ W.cell? ⟨w.heap.size, 3, none⟩ = some (.slice A4 p.routes.length c4) ∧ W.cell? ⟨w.heap.size, 4, none⟩ = some (.slice A5 p.sv.length c5) ∧ W.cell? ⟨w.heap.size, 5, none⟩ = some (.slice A6 p.routes.length c6) ∧ W.cell? ⟨w.heap.size, 6, none⟩ = some (.int .i64 p.pv)) := Lib.hid (fun W hb => by
    have B := BP.out.below hb
    exact ⟨(B.2 0 (by simp)).1, (B.2 1 (by simp)).1, (B.2 2 (by simp)).1, (B.2 3 (by simp)).1, (B.2 4 (by simp)).1, (B.2 5 (by simp)).1, (B.2 6 (by simp)).1⟩)
  have CD : Hid (∀ W, Below W0.heap.size W0 W → W.cell? ⟨w.heap.size + 1, 0, none⟩ = some (.slice At d.turns.length ct) ∧ W.cell? ⟨w.heap.size + 1, 1, none⟩ = some (.slice Al d.locks.length cl) ∧ W.cell? ⟨w.heap.size + 1, 2, none⟩ = some (.slice Ai d.ices.length ci)) := Lib.hid (fun W hb => by
    have B := BD.out.below hb
    exact ⟨(B.2 0 (by simp)).1, (B.2 1 (by simp)).1, (B.2 2 (by simp)).1⟩)
  have HW : Hid (∀ W, Below W0.heap.size W0 W → Below w.heap.size w W) := Lib.hid (fun W hb => W0B.out.trans (hb.mono (by omega)))
  obtain ⟨nchk, hnchk⟩ : ∃ n : Int, n = if twiceE d = true then 1 else 0 := ⟨_, rfl⟩
  have KD := Lib.hid (dcheck_any At Al Ai ct cl ci d W0 (HDW.out _ (HW.out _ (Below.refl _ _))) nchk hnchk)
  have HBr := Lib.hid (Below.refl W0.heap.size W0)
  clear BP BD HZ
  generalize hs : w.heap.size = s at *
  obtain ⟨e0, e1, e2⟩ := CD.out W0 HBr.out
  go_wp2_with (go_at_call 21; fail)
  go_at_call 21
  refine KD.out.mono ?_
  rintro e W1 ⟨rfl, hb1⟩
  have HB1 := Lib.hid hb1
  clear hb1 KD e0 e1 e2 HBr
  cases htw : twiceE d
  case true =>
    have hn1 : nchk = 1 := by rw [hnchk, htw]; rfl
    have HTW := Lib.hid htw
    clear hnchk htw
    subst hn1
    obtain ⟨hlt, r0, r1, r2, r3, r4, r5, r6, z0, z1, z2, z3, z4, z5, z6⟩ := RZ.out _ HB1.out
    have HZx := RH.out _ HB1.out
    have HNz := Lib.hid ((noPlan_new s _).setAll HZx (by decide) (by decide) 0 [.slice none 0 0, .slice none 0 0, .slice none 0 0, .slice none 0 0, .slice none 0 0, .slice none 0 0, .int .i64 0])
    have HBz := Lib.hid (setAll_below (g := s + 2) (B := s) (by omega) [.slice none 0 0, .slice none 0 0, .slice none 0 0, .slice none 0 0, .slice none 0 0, .slice none 0 0, .int .i64 0] 0 _ (HW.out _ HB1.out))
    have HIS : Hid (PApplyIs p d noPlan 1) := Lib.hid (.inl ⟨by unfold badP; rw [HTW.out]; rfl, rfl, rfl⟩)
    go_wp2_with (fail)
    exact bodyPost_ret (v := .tuple #[.agg #[.slice none 0 0, .slice none 0 0, .slice none 0 0, .slice none 0 0, .slice none 0 0, .slice none 0 0, .int .i64 0], .int .i64 1]) (by simp [results, Try.results6, go_sem, r0, r1, r2, r3, r4, r5, r6, z0, z1, z2, z3, z4, z5, z6]) rfl (papplyEnd_of hs HNz.out HIS.out HBz.out)
  case false =>
    have hn1 : nchk = 0 := by rw [hnchk, htw]; rfl
    have HTW := Lib.hid htw
    clear hnchk htw
    subst hn1
    have KT := Lib.hid (pthere_any A1 A2 A3 A4 A5 A6 c1 c2 c3 c4 c5 c6 p At Al Ai ct cl ci d W1 (HPW.out _ (HW.out _ HB1.out)) (HDW.out _ (HW.out _ HB1.out)))
    obtain ⟨b0, b1, b2, b3, b4, b5, b6⟩ := CP.out _ HB1.out
    obtain ⟨e0, e1, e2⟩ := CD.out _ HB1.out
    go_wp2_with (go_at_call 22; fail)
    go_at_call 22
    refine KT.out.mono ?_
    rintro e W2 ⟨rfl, hb2⟩
    have HB2 : Hid (Below W0.heap.size W0 W2) := Lib.hid (HB1.out.trans (hb2.mono HB1.out.size))
    clear hb2 KT b0 b1 b2 b3 b4 b5 b6 e0 e1 e2
    cases hth : thereP p d
    case false =>
      have HTH := Lib.hid hth
      clear hth
      obtain ⟨hlt, r0, r1, r2, r3, r4, r5, r6, z0, z1, z2, z3, z4, z5, z6⟩ := RZ.out _ HB2.out
      have HZx := RH.out _ HB2.out
      have HNz := Lib.hid ((noPlan_new s _).setAll HZx (by decide) (by decide) 0 [.slice none 0 0, .slice none 0 0, .slice none 0 0, .slice none 0 0, .slice none 0 0, .slice none 0 0, .int .i64 0])
      have HBz := Lib.hid (setAll_below (g := s + 2) (B := s) (by omega) [.slice none 0 0, .slice none 0 0, .slice none 0 0, .slice none 0 0, .slice none 0 0, .slice none 0 0, .int .i64 0] 0 _ (HW.out _ HB2.out))
      have HIS : Hid (PApplyIs p d noPlan 1) := Lib.hid (.inl ⟨by unfold badP; rw [HTW.out, HTH.out]; rfl, rfl, rfl⟩)
      go_wp2_with (fail)
      exact bodyPost_ret (v := .tuple #[.agg #[.slice none 0 0, .slice none 0 0, .slice none 0 0, .slice none 0 0, .slice none 0 0, .slice none 0 0, .int .i64 0], .int .i64 1]) (by simp [results, Try.results6, go_sem, r0, r1, r2, r3, r4, r5, r6, z0, z1, z2, z3, z4, z5, z6]) rfl (papplyEnd_of hs HNz.out HIS.out HBz.out)
    case true =>
      have HTH := Lib.hid hth
      clear hth
      have KC := Lib.hid (pcopy_any (.agg #[.slice A1 p.routes.length c1, .slice A2 p.sv.length c2, .slice A3 p.routes.length c3, .slice A4 p.routes.length c4, .slice A5 p.sv.length c5, .slice A6 p.routes.length c6, .int .i64 p.pv]) p W2 (HPW.out _ (HW.out _ HB2.out)).at_ (by omega) (fun r hr => by have := (HF.out.route r hr).1; omega) (by have := HF.out.lock; have := HF.out.sv; omega) (by have := HF.out.ice; omega) (by have := HF.out.rv; omega) (by have := HF.out.sv; omega) (by have := HF.out.iv; omega))
      obtain ⟨b0, b1, b2, b3, b4, b5, b6⟩ := CP.out _ HB2.out
      go_wp2_with (go_at_call 17; fail)
      go_at_call 17
      refine KC.out.mono ?_
      rintro e W3 ⟨v', rfl, hN, hb3⟩
      have HB23 : Hid (Below W2.heap.size W2 W3) := Lib.hid hb3
      have HB3 : Hid (Below W0.heap.size W0 W3) := Lib.hid (HB2.out.trans (hb3.mono HB2.out.size))
      have h02 : W0.heap.size ≤ W2.heap.size := HB2.out.size
      obtain ⟨v1, v2, v3, v4, v5, v6, rfl, hR, hV⟩ := hN
      obtain ⟨D1, f1, rfl⟩ := hR.slice
      obtain ⟨D2, f2, rfl, _⟩ := own_slice_n hV.lock
      obtain ⟨D3, f3, rfl, _⟩ := own_slice_n hV.ice
      obtain ⟨D4, f4, rfl, _⟩ := own_slice_n hV.rv
      obtain ⟨D5, f5, rfl, _⟩ := own_slice_n hV.sv
      obtain ⟨D6, f6, rfl, _⟩ := own_slice_n hV.iv
      have HG : Hid (QAt W2.heap.size W3.heap.size (W3.alloc (.cells #[.slice D1 p.routes.length f1, .slice D2 p.lock.length f2, .slice D3 p.ice.length f3, .slice D4 p.rv.length f4, .slice D5 p.sv.length f5, .slice D6 p.iv.length f6, .int .i64 p.pv] 34)) (.slice D1 p.routes.length f1) (.slice D2 p.lock.length f2) (.slice D3 p.ice.length f3) (.slice D4 p.rv.length f4) (.slice D5 p.sv.length f5) (.slice D6 p.iv.length f6) p) := Lib.hid ⟨hb3.size, heap_new _ _, hR.below ((Below.refl _ _).alloc (Nat.le_refl _) _), hV.below ((Below.refl _ _).alloc (Nat.le_refl _) _)⟩
      have HB4 : Hid (Below W0.heap.size W0 (W3.alloc (.cells #[.slice D1 p.routes.length f1, .slice D2 p.lock.length f2, .slice D3 p.ice.length f3, .slice D4 p.rv.length f4, .slice D5 p.sv.length f5, .slice D6 p.iv.length f6, .int .i64 p.pv] 34))) := Lib.hid (HB3.out.alloc HB3.out.size _)
      have HB24 : Hid (Below W2.heap.size W2 (W3.alloc (.cells #[.slice D1 p.routes.length f1, .slice D2 p.lock.length f2, .slice D3 p.ice.length f3, .slice D4 p.rv.length f4, .slice D5 p.sv.length f5, .slice D6 p.iv.length f6, .int .i64 p.pv] 34))) := Lib.hid (hb3.alloc hb3.size _)
      clear hR hV hb3 KC b0 b1 b2 b3 b4 b5 b6
      go_upto_region 7 with (fail)
      generalize W3.alloc (.cells #[.slice D1 p.routes.length f1, .slice D2 p.lock.length f2, .slice D3 p.ice.length f3, .slice D4 p.rv.length f4, .slice D5 p.sv.length f5, .slice D6 p.iv.length f6, .int .i64 p.pv] 34) = W4 at *
      generalize W3.heap.size = g at *
      have KCh := Lib.hid (pchange_any W2.heap.size g (.slice D1 p.routes.length f1) (.slice D2 p.lock.length f2) (.slice D3 p.ice.length f3) (.slice D4 p.rv.length f4) (.slice D5 p.sv.length f5) (.slice D6 p.iv.length f6) p At Al Ai ct cl ci d W2 W4 HG.out HB24.out.size (HDW.out _ (HW.out _ HB2.out)) HB24.out (Nat.le_refl _) (names_there HF.out HTH.out))
      obtain ⟨e0, e1, e2⟩ := CD.out _ HB4.out
      go_wp2_with (go_at_call 23; fail)
      go_at_call 23
      refine KCh.out.mono ?_
      rintro e W5 ⟨rfl, hq5, hb5⟩
      have HQ5 := Lib.hid hq5
      have HB25 : Hid (Below W2.heap.size W2 W5) := Lib.hid (HB24.out.trans hb5)
      have HB5 : Hid (Below W0.heap.size W0 W5) := Lib.hid (HB2.out.trans (HB25.out.mono h02))
      have y0 := hq5.cells.1
      have hrl : (putR p.routes d.turns).length = p.routes.length := putR_length _ _
      have KA := Lib.hid (ptwice_any D1 f1 (putR p.routes d.turns) W5 (by rw [hrl]; exact hq5.routes.trav) (by rw [hrl]; omega) HPS.out)
      rw [hrl] at KA
      clear hq5 hb5 KCh e0 e1 e2 HG hrl HB4 HB24
      go_wp2_with (go_at_call 24; fail)
      go_at_call 24
      refine KA.out.mono ?_
      rintro e W6 ⟨rfl, hb6⟩
      have HQ6 := Lib.hid (HQ5.out.below hb6)
      have HB26 : Hid (Below W2.heap.size W2 W6) := Lib.hid (HB25.out.trans (hb6.mono HB25.out.size))
      have HB6 : Hid (Below W0.heap.size W0 W6) := Lib.hid (HB2.out.trans (HB26.out.mono h02))
      clear hb6 KA y0 HQ5 HB5
      cases htt : twiceI (putR p.routes d.turns).flatten
      case true =>
        have HTT := Lib.hid htt
        clear htt
        obtain ⟨hlt, r0, r1, r2, r3, r4, r5, r6, z0, z1, z2, z3, z4, z5, z6⟩ := RZ.out _ HB6.out
        have HZx := RH.out _ HB6.out
        have HNz := Lib.hid ((noPlan_new s _).setAll HZx (by decide) (by decide) 0 [.slice none 0 0, .slice none 0 0, .slice none 0 0, .slice none 0 0, .slice none 0 0, .slice none 0 0, .int .i64 0])
        have HBz := Lib.hid (setAll_below (g := s + 2) (B := s) (by omega) [.slice none 0 0, .slice none 0 0, .slice none 0 0, .slice none 0 0, .slice none 0 0, .slice none 0 0, .int .i64 0] 0 _ (HW.out _ HB6.out))
        have HIS : Hid (PApplyIs p d noPlan 1) := Lib.hid (.inl ⟨by unfold badP; rw [HTT.out]; simp, rfl, rfl⟩)
        go_wp2_with (fail)
        exact bodyPost_ret (v := .tuple #[.agg #[.slice none 0 0, .slice none 0 0, .slice none 0 0, .slice none 0 0, .slice none 0 0, .slice none 0 0, .int .i64 0], .int .i64 1]) (by simp [results, Try.results6, go_sem, r0, r1, r2, r3, r4, r5, r6, z0, z1, z2, z3, z4, z5, z6]) rfl (papplyEnd_of hs HNz.out HIS.out HBz.out)
      case false =>
        have HOK : Hid (badP p d = false) := Lib.hid (by unfold badP; rw [HTW.out, HTH.out, htt]; rfl)
        clear htt
        have KS := Lib.hid (pasit_any A1 A2 A3 A4 A5 A6 c1 c2 c3 c4 c5 c6 p At Al Ai ct cl ci d W6 (HPW.out _ (HW.out _ HB6.out)) (HDW.out _ (HW.out _ HB6.out)) HTH.out)
        obtain ⟨b0, b1, b2, b3, b4, b5, b6⟩ := CP.out _ HB6.out
        obtain ⟨e0, e1, e2⟩ := CD.out _ HB6.out
        go_wp2_with (go_at_call 25; fail)
        go_at_call 25
        refine KS.out.mono ?_
        rintro e W7 ⟨rfl, hb7⟩
        have HQ7 := Lib.hid (HQ6.out.below hb7)
        have HB27 : Hid (Below W2.heap.size W2 W7) := Lib.hid (HB26.out.trans (hb7.mono HB26.out.size))
        have HB7 : Hid (Below W0.heap.size W0 W7) := Lib.hid (HB2.out.trans (HB27.out.mono h02))
        clear hb7 KS b0 b1 b2 b3 b4 b5 b6 e0 e1 e2 HQ6 HB6
        cases hsm : applySame p d
        case false =>
          have HSM := Lib.hid hsm
          clear hsm
          obtain ⟨hlt, r0, r1, r2, r3, r4, r5, r6, z0, z1, z2, z3, z4, z5, z6⟩ := RZ.out _ HB7.out
          have HZx := RH.out _ HB7.out
          have HNz := Lib.hid ((noPlan_new s _).setAll HZx (by decide) (by decide) 0 [.slice none 0 0, .slice none 0 0, .slice none 0 0, .slice none 0 0, .slice none 0 0, .slice none 0 0, .int .i64 0])
          have HBz := Lib.hid (setAll_below (g := s + 2) (B := s) (by omega) [.slice none 0 0, .slice none 0 0, .slice none 0 0, .slice none 0 0, .slice none 0 0, .slice none 0 0, .int .i64 0] 0 _ (HW.out _ HB7.out))
          have HIS : Hid (PApplyIs p d noPlan 15) := Lib.hid (.inr (.inl ⟨HOK.out, HSM.out, rfl, rfl⟩))
          go_wp2_with (fail)
          exact bodyPost_ret (v := .tuple #[.agg #[.slice none 0 0, .slice none 0 0, .slice none 0 0, .slice none 0 0, .slice none 0 0, .slice none 0 0, .int .i64 0], .int .i64 15]) (by simp [results, Try.results6, go_sem, r0, r1, r2, r3, r4, r5, r6, z0, z1, z2, z3, z4, z5, z6]) rfl (papplyEnd_of hs HNz.out HIS.out HBz.out)
        case true =>
          have HSM := Lib.hid hsm
          clear hsm
          have KTi := Lib.hid (tidy_any At Al Ai ct cl ci d W7 (HDW.out _ (HW.out _ HB7.out)))
          obtain ⟨e0, e1, e2⟩ := CD.out _ HB7.out
          go_wp2_with (go_at_call 27; fail)
          go_at_call 27
          refine KTi.out.mono ?_
          rintro e W8 ⟨v1, v2, v3, f, rfl, hT, hf, hL, hI, hb8⟩
          obtain ⟨T1, k1, rfl, _⟩ := own_slice_n hT.1
          obtain ⟨T2, k2, rfl, _⟩ := own_slice_n hL
          obtain ⟨T3, k3, rfl, _⟩ := own_slice_n hI
          have hfl : f.length < 20 := by
            have h1 := congrArg List.length hf
            rw [List.length_map, List.length_map] at h1
            have h2 := tidyT_length d.turns
            omega
          have hnm : ∀ t ∈ f, t.b.length ≤ 1000000 ∧ t.a.length ≤ 1000000 := fun t ht => by
            obtain ⟨y, hy, _, e2, e3⟩ := pl_mem hf ht
            rw [← e2, ← e3]
            exact (HDW.out _ (HW.out W7 HB7.out)).nm y (tidyT_mem hy)
          have HE8 : Hid (∀ W, Above W7.heap.size W8 W → EditIn W T1 T2 T3 k1 k2 k3 ⟨f, holdsL d.locks, holdsL d.ices⟩) := Lib.hid (fun W ha =>
            ⟨NewT.turns (B := W7.heap.size) ⟨own_above hT.1 ha, fun t ht => ⟨own_above (hT.2 t ht).1 ha, own_above (hT.2 t ht).2 ha⟩⟩, Rows.of_own (own_above hL ha) hold_len, Rows.of_own (own_above hI ha) hold_len, hfl, by have := holdsL_length d.locks; show (holdsL d.locks).length < 20; omega, by have := holdsL_length d.ices; show (holdsL d.ices).length < 20; omega, hnm⟩)
          have HR8 : Hid (Raises (changeP p d) ⟨f, holdsL d.locks, holdsL d.ices⟩) := Lib.hid (raises_there HF.out HTH.out hf)
          have HDN : Hid (raiseP (changeP p d) ⟨f, holdsL d.locks, holdsL d.ices⟩ = doneP p d) := Lib.hid (raise_pl hf _ _)
          have KR := Lib.hid (praise_any W7.heap.size W2.heap.size g (.slice D1 p.routes.length f1) (.slice D2 p.lock.length f2) (.slice D3 p.ice.length f3) (.slice D4 p.rv.length f4) (.slice D5 p.sv.length f5) (.slice D6 p.iv.length f6) (changeP p d) T1 T2 T3 k1 k2 k3 ⟨f, holdsL d.locks, holdsL d.ices⟩ W8 ((QIn.of HQ7.out).below hb8) HB27.out.size hb8.size HE8.out HR8.out)
          have HB28 : Hid (Below W2.heap.size W2 W8) := Lib.hid (HB27.out.trans (hb8.mono HB27.out.size))
          clear hT hf hL hI hb8 hfl hnm KTi e0 e1 e2 HE8 HR8 HQ7 HB7
          go_wp2_with (go_at_call 26; fail)
          go_at_call 26
          refine KR.out.mono ?_
          rintro e W9 ⟨rfl, hq9, hb9⟩
          have HB29 : Hid (Below W2.heap.size W2 W9) := Lib.hid (HB28.out.trans hb9)
          have HB9 : Hid (Below W0.heap.size W0 W9) := Lib.hid (HB2.out.trans (HB29.out.mono h02))
          rw [HDN.out] at hq9
          have HQ9 := Lib.hid hq9
          obtain ⟨q, hqe⟩ : ∃ q, q = doneP p d := ⟨_, rfl⟩
          rw [← hqe] at HQ9
          have HIS : Hid (PApplyIs p d q 0) := Lib.hid (.inr (.inr ⟨HOK.out, HSM.out, rfl, hqe⟩))
          clear hq9 hb9 KR hqe HB28 HB29
          obtain ⟨y0, y1, y2, y3, y4, y5, y6, _, hgl⟩ := HQ9.out.cells
          obtain ⟨hlt, r0, r1, r2, r3, r4, r5, r6, z0, z1, z2, z3, z4, z5, z6⟩ := RZ.out _ HB9.out
          have HZx := RH.out _ HB9.out
          have h2s : s ≤ W2.heap.size := by omega
          have HNz := Lib.hid ((HQ9.out.new.lower h2s).setAll HZx (by decide) (by decide) 0 [.slice D1 p.routes.length f1, .slice D2 p.lock.length f2, .slice D3 p.ice.length f3, .slice D4 p.rv.length f4, .slice D5 p.sv.length f5, .slice D6 p.iv.length f6, .int .i64 q.pv])
          have HBz := Lib.hid (setAll_below (g := s + 2) (B := s) (by omega) [.slice D1 p.routes.length f1, .slice D2 p.lock.length f2, .slice D3 p.ice.length f3, .slice D4 p.rv.length f4, .slice D5 p.sv.length f5, .slice D6 p.iv.length f6, .int .i64 q.pv] 0 _ (HW.out _ HB9.out))
          go_wp2_with (fail)
          exact bodyPost_ret (v := .tuple #[.agg #[.slice D1 p.routes.length f1, .slice D2 p.lock.length f2, .slice D3 p.ice.length f3, .slice D4 p.rv.length f4, .slice D5 p.sv.length f5, .slice D6 p.iv.length f6, .int .i64 q.pv], .int .i64 0]) (by simp [results, Try.results6, go_sem, r0, r1, r2, r3, r4, r5, r6, z0, z1, z2, z3, z4, z5, z6]) rfl (papplyEnd_of hs HNz.out HIS.out HBz.out)
end Go.Proofs.Ytpccoflebfblbaa
namespace Go.Proofs.Ytpccoflebfblbaa
open Go.RowKit
set_option linter.unusedSimpArgs false
set_option linter.unusedVariables false

theorem rows_from {a b : List (List Int)} (hl : a.length = b.length) (h : ∀ j (h1 : j < a.length) (h2 : j < b.length), a[j] = b[j]) : a = b := List.ext_getElem hl h
theorem take_eq_snoc {a b : List (List Int)} {k : Nat} (h1 : k < a.length) (h2 : k < b.length) (h : a.take k = b.take k) (he : a[k] = b[k]) : a.take (k + 1) = b.take (k + 1) := by
  rw [List.take_succ_eq_append_getElem h1, List.take_succ_eq_append_getElem h2, h, he]
set_option maxRecDepth 100000 in
set_option maxHeartbeats 8000000 in
theorem pways_any (A1 A2 : Option Addr) (p1 p2 : Nat) (ls ms : List (List Int)) (w : World) (h1 : Trav w (.slice A1 ls.length p1) ls) (h2 : Trav w (.slice A2 ms.length p2) ms) (hl : ls.length ≤ 1000000) (hm : ms.length ≤ 1000000) (hr : ∀ r ∈ ls, r.length ≤ 1000000) (hs : ∀ r ∈ ms, r.length ≤ 1000000) :
    Calls Try.prog 33 #[.slice A1 ls.length p1, .slice A2 ms.length p2, .func (.func 34) #[] #[]] w fun e w' => e = .returned (.bool (decide (ls = ms))) ∧ Below w.heap.size w w' := by
  have H1 := Lib.hid h1
  have H2 := Lib.hid h2
  have HR := Lib.hid hr
  have HS := Lib.hid hs
  have KE := Lib.hid (fun (W : World) (A1 A2 : Option Addr) (c1 c2 : Nat) (a b : List Int) (h1 : Recs W 1 num_ (.slice A1 a.length c1) a) (h2 : Recs W 1 num_ (.slice A2 b.length c2) b) (hl : a.length ≤ 1000000) (hm : b.length ≤ 1000000) => equal_own A1 A2 c1 c2 a b W h1 h2 (by omega) (by omega))
  obtain ⟨r, hre⟩ : ∃ r, r = decide (ls = ms) := ⟨_, rfl⟩
  rw [← hre]
  have HRE := Lib.hid hre
  clear h1 h2 hr hs hre
  by_cases hlen : ls.length = ms.length
  · have HL := Lib.hid hlen
    have q0 : ((ls.length : Int) != (ms.length : Int)) = false := by simp; omega
    clear hlen
    go_enter Try.func33, Try.ntmps33
    go_wp2_with (fail)
    go_loopw [17] (fun kv wr => ∃ k : Nat, k ≤ ls.length ∧ kv = .int .i64 k ∧ Hid (ls.take k = ms.take k) ∧ Hid (Below w.heap.size w wr)) (fun kv _ => ls.length - (intOf kv).toNat)
    case atStart => exact ⟨0, Nat.zero_le _, rfl, Lib.hid rfl, Lib.hid (Below.refl _ _)⟩
    case round =>
      obtain ⟨k, hk, rfl, he, hb⟩ := hrel
      by_cases hlt : k < ls.length
      · have hlt2 : k < ms.length := by have := HL.out; omega
        have hlt3 : (k : Int) < (ms.length : Int) := by omega
        obtain ⟨B1, o1, Ar, cr, eA, hB1, d0, hrr⟩ := trav_at H1.out hlt
        obtain ⟨B2, o2, Br, dr, eB, hB2, d1, hss⟩ := trav_at H2.out hlt2
        subst eA eB
        have x0 : wr.cell? ⟨B1, o1 + k, none⟩ = some (.slice Ar ls[k].length cr) := by rw [hb.out.cell hB1]; exact d0
        have x1 : wr.cell? ⟨B2, o2 + k, none⟩ = some (.slice Br ms[k].length dr) := by rw [hb.out.cell hB2]; exact d1
        have KX := Lib.hid (KE.out wr Ar Br cr dr ls[k] ms[k] (hrr.below hb.out) (hss.below hb.out) (HR.out _ (List.getElem_mem hlt)) (HS.out _ (List.getElem_mem hlt2)))
        have HT : Hid (ls[k] = ms[k] → ls.take (k + 1) = ms.take (k + 1)) := Lib.hid (take_eq_snoc hlt hlt2 he.out)
        have HN : Hid (¬ ls[k] = ms[k] → r = false) := Lib.hid (fun h => by rw [HRE.out]; exact decide_eq_false (fun e => h (by subst e; rfl)))
        clear d0 d1 hrr hss
        generalize ls[k] = a at *
        generalize ms[k] = b at *
        by_cases hab : a = b
        · rw [decide_eq_true hab] at KX
          have HT2 := Lib.hid (HT.out hab)
          clear hab HN HT
          go_wp2_with (go_at_call 34; fail)
          refine KX.out.mono ?_
          rintro e w2 ⟨rfl, n, rfl⟩
          have HB2 := Lib.hid (below_draws hb.out n)
          go_wp2_with (fail)
          go_roundw
          case rel => exact ⟨k + 1, by omega, by go_num, HT2, HB2⟩
          case measure => simp [intOf]; omega
        · rw [decide_eq_false hab] at KX
          have HF := Lib.hid (HN.out hab)
          clear hab HN HT
          go_wp2_with (go_at_call 34; fail)
          refine KX.out.mono ?_
          rintro e w2 ⟨rfl, n, rfl⟩
          have HB2 := Lib.hid (below_draws hb.out n)
          go_wp2_with (fail)
          go_ret
          exact ⟨by rw [HF.out]; rfl, HB2.out⟩
      · have HF : Hid (r = true) := Lib.hid (by
          rw [HRE.out]
          have h := he.out
          rw [List.take_of_length_le (by omega), List.take_of_length_le (by have := HL.out; omega)] at h
          exact decide_eq_true h)
        clear he
        go_wp2_with (fail)
        go_ret
        exact ⟨by rw [HF.out]; rfl, hb.out⟩
  · have HF : Hid (r = false) := Lib.hid (by rw [HRE.out]; exact decide_eq_false (fun e => hlen (by rw [e])))
    have q0 : ((ls.length : Int) != (ms.length : Int)) = true := by simp; omega
    have q1 : (ls.length != ms.length) = true := by simpa using hlen
    clear hlen
    go_enter Try.func33, Try.ntmps33
    go_wp2_with (fail)
    go_ret
    exact ⟨by rw [HF.out]; rfl, Below.refl _ _⟩
def sameP (p q : PlanP) : Bool := decide (p.routes = q.routes) && (decide (p.lock = q.lock) && decide (p.ice = q.ice))
def exactP (p q : PlanP) : Bool := sameP p q && (decide (p.rv = q.rv) && (decide (p.sv = q.sv) && (decide (p.iv = q.iv) && decide (p.pv = q.pv))))
/-- a plan's lists are not too long -/
structure PShort (p : PlanP) : Prop where
  routes : p.routes.length ≤ 1000000
  row : ∀ r ∈ p.routes, r.length ≤ 1000000
  lock : p.lock.length ≤ 1000000
  ice : p.ice.length ≤ 1000000
  rv : p.rv.length ≤ 1000000
  sv : p.sv.length ≤ 1000000
  iv : p.iv.length ≤ 1000000
set_option maxRecDepth 100000 in
set_option maxHeartbeats 8000000 in
theorem psame_any (v u : Value) (p q : PlanP) (w : World) (hv : PlanAt w v p) (hu : PlanAt w u q) (hp : PShort p) (hq : PShort q) :
    Calls Try.prog 13 #[v, u] w fun e w' => e = .returned (.bool (sameP p q)) ∧ Below w.heap.size w w' := by
  have HVP := Lib.hid hv
  have HVQ := Lib.hid hu
  obtain ⟨A1, c1, A2, c2, A3, c3, A4, c4, A5, c5, A6, c6, rfl, p1, p2, p3, p4, p5, p6⟩ := hv
  obtain ⟨D1, g1, D2, g2, D3, g3, D4, g4, D5, g5, D6, g6, rfl, q1, q2, q3, q4, q5, q6⟩ := hu
  have W0B : Hid (Below w.heap.size w ((w.alloc (.cells #[.slice A1 p.routes.length c1, .slice A2 p.lock.length c2, .slice A3 p.ice.length c3, .slice A4 p.rv.length c4, .slice A5 p.sv.length c5, .slice A6 p.iv.length c6, .int .i64 p.pv] 34)).alloc (.cells #[.slice D1 q.routes.length g1, .slice D2 q.lock.length g2, .slice D3 q.ice.length g3, .slice D4 q.rv.length g4, .slice D5 q.sv.length g5, .slice D6 q.iv.length g6, .int .i64 q.pv] 34))) := Lib.hid (((Below.refl _ _).alloc (Nat.le_refl _) _).alloc (by simp) _)
  have BPx : Hid (Blk ((w.alloc (.cells #[.slice A1 p.routes.length c1, .slice A2 p.lock.length c2, .slice A3 p.ice.length c3, .slice A4 p.rv.length c4, .slice A5 p.sv.length c5, .slice A6 p.iv.length c6, .int .i64 p.pv] 34)).alloc (.cells #[.slice D1 q.routes.length g1, .slice D2 q.lock.length g2, .slice D3 q.ice.length g3, .slice D4 q.rv.length g4, .slice D5 q.sv.length g5, .slice D6 q.iv.length g6, .int .i64 q.pv] 34)) w.heap.size #[.slice A1 p.routes.length c1, .slice A2 p.lock.length c2, .slice A3 p.ice.length c3, .slice A4 p.rv.length c4, .slice A5 p.sv.length c5, .slice A6 p.iv.length c6, .int .i64 p.pv].toList) := Lib.hid ((blk_new w _ _).alloc _)
  have BQx : Hid (Blk ((w.alloc (.cells #[.slice A1 p.routes.length c1, .slice A2 p.lock.length c2, .slice A3 p.ice.length c3, .slice A4 p.rv.length c4, .slice A5 p.sv.length c5, .slice A6 p.iv.length c6, .int .i64 p.pv] 34)).alloc (.cells #[.slice D1 q.routes.length g1, .slice D2 q.lock.length g2, .slice D3 q.ice.length g3, .slice D4 q.rv.length g4, .slice D5 q.sv.length g5, .slice D6 q.iv.length g6, .int .i64 q.pv] 34)) (w.heap.size + 1) #[.slice D1 q.routes.length g1, .slice D2 q.lock.length g2, .slice D3 q.ice.length g3, .slice D4 q.rv.length g4, .slice D5 q.sv.length g5, .slice D6 q.iv.length g6, .int .i64 q.pv].toList) := Lib.hid (blk_at (w := w.alloc _) #[.slice D1 q.routes.length g1, .slice D2 q.lock.length g2, .slice D3 q.ice.length g3, .slice D4 q.rv.length g4, .slice D5 q.sv.length g5, .slice D6 q.iv.length g6, .int .i64 q.pv] 34 (by simp))
  have HSP := Lib.hid hp
  have HSQ := Lib.hid hq
  have P1 := Lib.hid p1
  have Q1 := Lib.hid q1
  have P2 := Lib.hid p2
  have Q2 := Lib.hid q2
  have P3 := Lib.hid p3
  have Q3 := Lib.hid q3
  have P4 := Lib.hid p4
  have Q4 := Lib.hid q4
  have P5 := Lib.hid p5
  have Q5 := Lib.hid q5
  have P6 := Lib.hid p6
  have Q6 := Lib.hid q6
  clear p1 p2 p3 p4 p5 p6 q1 q2 q3 q4 q5 q6 hp hq
  obtain ⟨r, hre⟩ : ∃ r, r = sameP p q := ⟨_, rfl⟩
  rw [← hre]
  unfold sameP at hre
  have HRE := Lib.hid hre
  clear hre
  go_enter Try.func13, Try.ntmps13
  go_upto_region 1 with (fail)
  generalize ((w.alloc (.cells #[.slice A1 p.routes.length c1, .slice A2 p.lock.length c2, .slice A3 p.ice.length c3, .slice A4 p.rv.length c4, .slice A5 p.sv.length c5, .slice A6 p.iv.length c6, .int .i64 p.pv] 34)).alloc (.cells #[.slice D1 q.routes.length g1, .slice D2 q.lock.length g2, .slice D3 q.ice.length g3, .slice D4 q.rv.length g4, .slice D5 q.sv.length g5, .slice D6 q.iv.length g6, .int .i64 q.pv] 34)) = W0 at *
  have CP : Hid (∀ W, Below W0.heap.size W0 W → W.cell? ⟨w.heap.size, 0, none⟩ = some (.slice A1 p.routes.length c1) ∧ W.cell? ⟨w.heap.size, 1, none⟩ = some (.slice A2 p.lock.length c2) ∧ W.cell? ⟨w.heap.size, 2, none⟩ = some (.slice A3 p.ice.length c3) ∧ W.cell? ⟨w.heap.size, 3, none⟩ = some (.slice A4 p.rv.length c4) ∧ W.cell? ⟨w.heap.size, 4, none⟩ = some (.slice A5 p.sv.length c5) ∧ W.cell? ⟨w.heap.size, 5, none⟩ = some (.slice A6 p.iv.length c6) ∧ W.cell? ⟨w.heap.size, 6, none⟩ = some (.int .i64 p.pv)) := Lib.hid (fun W hb => by
    have B := BPx.out.below hb
    exact ⟨(B.2 0 (by simp)).1, (B.2 1 (by simp)).1, (B.2 2 (by simp)).1, (B.2 3 (by simp)).1, (B.2 4 (by simp)).1, (B.2 5 (by simp)).1, (B.2 6 (by simp)).1⟩)
  have CQ : Hid (∀ W, Below W0.heap.size W0 W → W.cell? ⟨w.heap.size + 1, 0, none⟩ = some (.slice D1 q.routes.length g1) ∧ W.cell? ⟨w.heap.size + 1, 1, none⟩ = some (.slice D2 q.lock.length g2) ∧ W.cell? ⟨w.heap.size + 1, 2, none⟩ = some (.slice D3 q.ice.length g3) ∧ W.cell? ⟨w.heap.size + 1, 3, none⟩ = some (.slice D4 q.rv.length g4) ∧ W.cell? ⟨w.heap.size + 1, 4, none⟩ = some (.slice D5 q.sv.length g5) ∧ W.cell? ⟨w.heap.size + 1, 5, none⟩ = some (.slice D6 q.iv.length g6) ∧ W.cell? ⟨w.heap.size + 1, 6, none⟩ = some (.int .i64 q.pv)) := Lib.hid (fun W hb => by
    have B := BQx.out.below hb
    exact ⟨(B.2 0 (by simp)).1, (B.2 1 (by simp)).1, (B.2 2 (by simp)).1, (B.2 3 (by simp)).1, (B.2 4 (by simp)).1, (B.2 5 (by simp)).1, (B.2 6 (by simp)).1⟩)
  have HW : Hid (∀ W, Below W0.heap.size W0 W → Below w.heap.size w W) := Lib.hid (fun W hb => W0B.out.trans (hb.mono (by have := BQx.out.1; omega)))
  have HB0 := Lib.hid (Below.refl W0.heap.size W0)
  clear BPx BQx
  generalize hs : w.heap.size = s at *
  have Kx1 : Hid (∀ W, Below W0.heap.size W0 W → Calls Try.prog 33 #[.slice A1 p.routes.length c1, .slice D1 q.routes.length g1, .func (.func 34) #[] #[]] W fun e w' => e = .returned (.bool (decide (p.routes = q.routes))) ∧ Below W.heap.size W w') := Lib.hid (fun W hb => pways_any A1 D1 c1 g1 p.routes q.routes W (P1.out.below (by first | exact HW.out _ hb | (rw [hs]; exact HW.out _ hb))) (Q1.out.below (by first | exact HW.out _ hb | (rw [hs]; exact HW.out _ hb))) HSP.out.routes HSQ.out.routes HSP.out.row HSQ.out.row)
  have Kx2 : Hid (∀ W, Below W0.heap.size W0 W → Calls Try.prog 34 #[.slice A2 p.lock.length c2, .slice D2 q.lock.length g2] W fun e w' => e = .returned (.bool (decide (p.lock = q.lock))) ∧ ∃ n, w' = W.drewN n) := Lib.hid (fun W hb => equal_own A2 D2 c2 g2 p.lock q.lock W (P2.out.below (by first | exact HW.out _ hb | (rw [hs]; exact HW.out _ hb))) (Q2.out.below (by first | exact HW.out _ hb | (rw [hs]; exact HW.out _ hb))) (by have := HSP.out.lock; omega) (by have := HSQ.out.lock; omega))
  have Kx3 : Hid (∀ W, Below W0.heap.size W0 W → Calls Try.prog 34 #[.slice A3 p.ice.length c3, .slice D3 q.ice.length g3] W fun e w' => e = .returned (.bool (decide (p.ice = q.ice))) ∧ ∃ n, w' = W.drewN n) := Lib.hid (fun W hb => equal_own A3 D3 c3 g3 p.ice q.ice W (P3.out.below (by first | exact HW.out _ hb | (rw [hs]; exact HW.out _ hb))) (Q3.out.below (by first | exact HW.out _ hb | (rw [hs]; exact HW.out _ hb))) (by have := HSP.out.ice; omega) (by have := HSQ.out.ice; omega))
  generalize decide (p.routes = q.routes) = x1 at *
  generalize decide (p.lock = q.lock) = x2 at *
  generalize decide (p.ice = q.ice) = x3 at *
  obtain ⟨a0, a1, a2, a3, a4, a5, a6⟩ := CP.out _ HB0.out
  obtain ⟨b0, b1, b2, b3, b4, b5, b6⟩ := CQ.out _ HB0.out
  cases hx1 : x1
  case false =>
    rw [hx1] at Kx1
    have Gx1 := Lib.hid hx1
    clear hx1
    go_wp2_with (go_at_call 33; fail)
    go_at_call 33
    refine (Kx1.out W0 HB0.out).mono ?_
    rintro e w1 ⟨rfl, hbx⟩
    have HB1 : Hid (Below W0.heap.size W0 w1) := Lib.hid (HB0.out.trans (hbx.mono HB0.out.size))
    clear hbx
    clear a0 a1 a2 a3 a4 a5 a6 b0 b1 b2 b3 b4 b5 b6
    go_wp2_with (fail)
    go_ret
    exact ⟨by rw [HRE.out, Gx1.out]; rfl, by first | (rw [hs]; exact HW.out _ HB1.out) | exact HW.out _ HB1.out⟩
  case true =>
    rw [hx1] at Kx1
    have Gx1 := Lib.hid hx1
    clear hx1
    go_wp2_with (go_at_call 33; fail)
    go_at_call 33
    refine (Kx1.out W0 HB0.out).mono ?_
    rintro e w1 ⟨rfl, hbx⟩
    have HB1 : Hid (Below W0.heap.size W0 w1) := Lib.hid (HB0.out.trans (hbx.mono HB0.out.size))
    clear hbx
    clear a0 a1 a2 a3 a4 a5 a6 b0 b1 b2 b3 b4 b5 b6
    obtain ⟨a0, a1, a2, a3, a4, a5, a6⟩ := CP.out _ HB1.out
    obtain ⟨b0, b1, b2, b3, b4, b5, b6⟩ := CQ.out _ HB1.out
    cases hx2 : x2
    case false =>
      rw [hx2] at Kx2
      have Gx2 := Lib.hid hx2
      clear hx2
      go_wp2_with (go_at_call 34; fail)
      go_at_call 34
      refine (Kx2.out w1 HB1.out).mono ?_
      rintro e w2 ⟨rfl, n1, hn1⟩
      have HB2 : Hid (Below W0.heap.size W0 w2) := Lib.hid (by rw [hn1]; exact below_draws HB1.out n1)
      clear hn1
      clear a0 a1 a2 a3 a4 a5 a6 b0 b1 b2 b3 b4 b5 b6
      go_wp2_with (fail)
      go_ret
      exact ⟨by rw [HRE.out, Gx1.out, Gx2.out]; rfl, by first | (rw [hs]; exact HW.out _ HB2.out) | exact HW.out _ HB2.out⟩
    case true =>
      rw [hx2] at Kx2
      have Gx2 := Lib.hid hx2
      clear hx2
      go_wp2_with (go_at_call 34; fail)
      go_at_call 34
      refine (Kx2.out w1 HB1.out).mono ?_
      rintro e w2 ⟨rfl, n1, hn1⟩
      have HB2 : Hid (Below W0.heap.size W0 w2) := Lib.hid (by rw [hn1]; exact below_draws HB1.out n1)
      clear hn1
      clear a0 a1 a2 a3 a4 a5 a6 b0 b1 b2 b3 b4 b5 b6
      obtain ⟨a0, a1, a2, a3, a4, a5, a6⟩ := CP.out _ HB2.out
      obtain ⟨b0, b1, b2, b3, b4, b5, b6⟩ := CQ.out _ HB2.out
      cases hx3 : x3
      case false =>
        rw [hx3] at Kx3
        have Gx3 := Lib.hid hx3
        clear hx3
        go_wp2_with (go_at_call 34; fail)
        go_at_call 34
        refine (Kx3.out w2 HB2.out).mono ?_
        rintro e w3 ⟨rfl, n2, hn2⟩
        have HB3 : Hid (Below W0.heap.size W0 w3) := Lib.hid (by rw [hn2]; exact below_draws HB2.out n2)
        clear hn2
        clear a0 a1 a2 a3 a4 a5 a6 b0 b1 b2 b3 b4 b5 b6
        go_wp2_with (fail)
        go_ret
        exact ⟨by rw [HRE.out, Gx1.out, Gx2.out, Gx3.out]; rfl, by first | (rw [hs]; exact HW.out _ HB3.out) | exact HW.out _ HB3.out⟩
      case true =>
        rw [hx3] at Kx3
        have Gx3 := Lib.hid hx3
        clear hx3
        go_wp2_with (go_at_call 34; fail)
        go_at_call 34
        refine (Kx3.out w2 HB2.out).mono ?_
        rintro e w3 ⟨rfl, n2, hn2⟩
        have HB3 : Hid (Below W0.heap.size W0 w3) := Lib.hid (by rw [hn2]; exact below_draws HB2.out n2)
        clear hn2
        clear a0 a1 a2 a3 a4 a5 a6 b0 b1 b2 b3 b4 b5 b6
        go_wp2_with (fail)
        go_ret
        exact ⟨by rw [HRE.out, Gx1.out, Gx2.out, Gx3.out]; rfl, by first | (rw [hs]; exact HW.out _ HB3.out) | exact HW.out _ HB3.out⟩
set_option maxRecDepth 100000 in
set_option maxHeartbeats 8000000 in
theorem rsame_any (v u : Value) (p q : PlanP) (w : World) (hv : PlanAt w v p) (hu : PlanAt w u q) (hp : PShort p) (hq : PShort q) :
    Calls Try.prog 28 #[v, u] w fun e w' => e = .returned (.bool (sameP p q)) ∧ Below w.heap.size w w' := by
  have HVP := Lib.hid hv
  have HVQ := Lib.hid hu
  obtain ⟨A1, c1, A2, c2, A3, c3, A4, c4, A5, c5, A6, c6, rfl, p1, p2, p3, p4, p5, p6⟩ := hv
  obtain ⟨D1, g1, D2, g2, D3, g3, D4, g4, D5, g5, D6, g6, rfl, q1, q2, q3, q4, q5, q6⟩ := hu
  have W0B : Hid (Below w.heap.size w ((w.alloc (.cells #[.slice A1 p.routes.length c1, .slice A2 p.lock.length c2, .slice A3 p.ice.length c3, .slice A4 p.rv.length c4, .slice A5 p.sv.length c5, .slice A6 p.iv.length c6, .int .i64 p.pv] 34)).alloc (.cells #[.slice D1 q.routes.length g1, .slice D2 q.lock.length g2, .slice D3 q.ice.length g3, .slice D4 q.rv.length g4, .slice D5 q.sv.length g5, .slice D6 q.iv.length g6, .int .i64 q.pv] 34))) := Lib.hid (((Below.refl _ _).alloc (Nat.le_refl _) _).alloc (by simp) _)
  have BPx : Hid (Blk ((w.alloc (.cells #[.slice A1 p.routes.length c1, .slice A2 p.lock.length c2, .slice A3 p.ice.length c3, .slice A4 p.rv.length c4, .slice A5 p.sv.length c5, .slice A6 p.iv.length c6, .int .i64 p.pv] 34)).alloc (.cells #[.slice D1 q.routes.length g1, .slice D2 q.lock.length g2, .slice D3 q.ice.length g3, .slice D4 q.rv.length g4, .slice D5 q.sv.length g5, .slice D6 q.iv.length g6, .int .i64 q.pv] 34)) w.heap.size #[.slice A1 p.routes.length c1, .slice A2 p.lock.length c2, .slice A3 p.ice.length c3, .slice A4 p.rv.length c4, .slice A5 p.sv.length c5, .slice A6 p.iv.length c6, .int .i64 p.pv].toList) := Lib.hid ((blk_new w _ _).alloc _)
  have BQx : Hid (Blk ((w.alloc (.cells #[.slice A1 p.routes.length c1, .slice A2 p.lock.length c2, .slice A3 p.ice.length c3, .slice A4 p.rv.length c4, .slice A5 p.sv.length c5, .slice A6 p.iv.length c6, .int .i64 p.pv] 34)).alloc (.cells #[.slice D1 q.routes.length g1, .slice D2 q.lock.length g2, .slice D3 q.ice.length g3, .slice D4 q.rv.length g4, .slice D5 q.sv.length g5, .slice D6 q.iv.length g6, .int .i64 q.pv] 34)) (w.heap.size + 1) #[.slice D1 q.routes.length g1, .slice D2 q.lock.length g2, .slice D3 q.ice.length g3, .slice D4 q.rv.length g4, .slice D5 q.sv.length g5, .slice D6 q.iv.length g6, .int .i64 q.pv].toList) := Lib.hid (blk_at (w := w.alloc _) #[.slice D1 q.routes.length g1, .slice D2 q.lock.length g2, .slice D3 q.ice.length g3, .slice D4 q.rv.length g4, .slice D5 q.sv.length g5, .slice D6 q.iv.length g6, .int .i64 q.pv] 34 (by simp))
  have HSP := Lib.hid hp
  have HSQ := Lib.hid hq
  have P1 := Lib.hid p1
  have Q1 := Lib.hid q1
  have P2 := Lib.hid p2
  have Q2 := Lib.hid q2
  have P3 := Lib.hid p3
  have Q3 := Lib.hid q3
  have P4 := Lib.hid p4
  have Q4 := Lib.hid q4
  have P5 := Lib.hid p5
  have Q5 := Lib.hid q5
  have P6 := Lib.hid p6
  have Q6 := Lib.hid q6
  clear p1 p2 p3 p4 p5 p6 q1 q2 q3 q4 q5 q6 hp hq
  obtain ⟨r, hre⟩ : ∃ r, r = sameP p q := ⟨_, rfl⟩
  rw [← hre]
  unfold sameP at hre
  have HRE := Lib.hid hre
  clear hre
  go_enter Try.func28, Try.ntmps28
  go_upto_region 1 with (fail)
  generalize ((w.alloc (.cells #[.slice A1 p.routes.length c1, .slice A2 p.lock.length c2, .slice A3 p.ice.length c3, .slice A4 p.rv.length c4, .slice A5 p.sv.length c5, .slice A6 p.iv.length c6, .int .i64 p.pv] 34)).alloc (.cells #[.slice D1 q.routes.length g1, .slice D2 q.lock.length g2, .slice D3 q.ice.length g3, .slice D4 q.rv.length g4, .slice D5 q.sv.length g5, .slice D6 q.iv.length g6, .int .i64 q.pv] 34)) = W0 at *
  have CP : Hid (∀ W, Below W0.heap.size W0 W → W.cell? ⟨w.heap.size, 0, none⟩ = some (.slice A1 p.routes.length c1) ∧ W.cell? ⟨w.heap.size, 1, none⟩ = some (.slice A2 p.lock.length c2) ∧ W.cell? ⟨w.heap.size, 2, none⟩ = some (.slice A3 p.ice.length c3) ∧ W.cell? ⟨w.heap.size, 3, none⟩ = some (.slice A4 p.rv.length c4) ∧ W.cell? ⟨w.heap.size, 4, none⟩ = some (.slice A5 p.sv.length c5) ∧ W.cell? ⟨w.heap.size, 5, none⟩ = some (.slice A6 p.iv.length c6) ∧ W.cell? ⟨w.heap.size, 6, none⟩ = some (.int .i64 p.pv)) := Lib.hid (fun W hb => by
    have B := BPx.out.below hb
    exact ⟨(B.2 0 (by simp)).1, (B.2 1 (by simp)).1, (B.2 2 (by simp)).1, (B.2 3 (by simp)).1, (B.2 4 (by simp)).1, (B.2 5 (by simp)).1, (B.2 6 (by simp)).1⟩)
  have CQ : Hid (∀ W, Below W0.heap.size W0 W → W.cell? ⟨w.heap.size + 1, 0, none⟩ = some (.slice D1 q.routes.length g1) ∧ W.cell? ⟨w.heap.size + 1, 1, none⟩ = some (.slice D2 q.lock.length g2) ∧ W.cell? ⟨w.heap.size + 1, 2, none⟩ = some (.slice D3 q.ice.length g3) ∧ W.cell? ⟨w.heap.size + 1, 3, none⟩ = some (.slice D4 q.rv.length g4) ∧ W.cell? ⟨w.heap.size + 1, 4, none⟩ = some (.slice D5 q.sv.length g5) ∧ W.cell? ⟨w.heap.size + 1, 5, none⟩ = some (.slice D6 q.iv.length g6) ∧ W.cell? ⟨w.heap.size + 1, 6, none⟩ = some (.int .i64 q.pv)) := Lib.hid (fun W hb => by
    have B := BQx.out.below hb
    exact ⟨(B.2 0 (by simp)).1, (B.2 1 (by simp)).1, (B.2 2 (by simp)).1, (B.2 3 (by simp)).1, (B.2 4 (by simp)).1, (B.2 5 (by simp)).1, (B.2 6 (by simp)).1⟩)
  have HW : Hid (∀ W, Below W0.heap.size W0 W → Below w.heap.size w W) := Lib.hid (fun W hb => W0B.out.trans (hb.mono (by have := BQx.out.1; omega)))
  have HB0 := Lib.hid (Below.refl W0.heap.size W0)
  clear BPx BQx
  generalize hs : w.heap.size = s at *
  have Kx2 : Hid (∀ W, Below W0.heap.size W0 W → Calls Try.prog 29 #[.slice A2 p.lock.length c2, .slice D2 q.lock.length g2] W fun e w' => e = .returned (.bool (decide (p.lock = q.lock))) ∧ ∃ n, w' = W.drewN n) := Lib.hid (fun W hb => refAlike_any A2 D2 c2 g2 p.lock q.lock W (P2.out.below (by first | exact HW.out _ hb | (rw [hs]; exact HW.out _ hb))) (Q2.out.below (by first | exact HW.out _ hb | (rw [hs]; exact HW.out _ hb))) (by have := HSP.out.lock; omega) (by have := HSQ.out.lock; omega))
  have Kx3 : Hid (∀ W, Below W0.heap.size W0 W → Calls Try.prog 29 #[.slice A3 p.ice.length c3, .slice D3 q.ice.length g3] W fun e w' => e = .returned (.bool (decide (p.ice = q.ice))) ∧ ∃ n, w' = W.drewN n) := Lib.hid (fun W hb => refAlike_any A3 D3 c3 g3 p.ice q.ice W (P3.out.below (by first | exact HW.out _ hb | (rw [hs]; exact HW.out _ hb))) (Q3.out.below (by first | exact HW.out _ hb | (rw [hs]; exact HW.out _ hb))) (by have := HSP.out.ice; omega) (by have := HSQ.out.ice; omega))
  have KE := Lib.hid (fun (W : World) (A1 A2 : Option Addr) (c1 c2 : Nat) (a b : List Int) (h1 : Recs W 1 num_ (.slice A1 a.length c1) a) (h2 : Recs W 1 num_ (.slice A2 b.length c2) b) (hl : a.length ≤ 1000000) (hm : b.length ≤ 1000000) => refAlike_any A1 A2 c1 c2 a b W h1 h2 (by omega) (by omega))
  generalize hx1 : decide (p.routes = q.routes) = x1 at *
  generalize decide (p.lock = q.lock) = x2 at *
  generalize decide (p.ice = q.ice) = x3 at *
  have HX1 := Lib.hid hx1
  clear hx1
  have hrl := HSP.out.routes
  have hrq := HSQ.out.routes
  obtain ⟨a0, a1, a2, a3, a4, a5, a6⟩ := CP.out _ HB0.out
  obtain ⟨b0, b1, b2, b3, b4, b5, b6⟩ := CQ.out _ HB0.out
  by_cases hlen : p.routes.length = q.routes.length
  · have HL := Lib.hid hlen
    have q0 : ((p.routes.length : Int) != (q.routes.length : Int)) = false := by simp; omega
    clear hlen
    go_wp2_with (fail)
    go_loopw [16] (fun kv wr => ∃ k : Nat, k ≤ p.routes.length ∧ kv = .int .i64 k ∧ Hid (p.routes.take k = q.routes.take k) ∧ Hid (Below W0.heap.size W0 wr)) (fun kv _ => p.routes.length - (intOf kv).toNat)
    case atStart => exact ⟨0, Nat.zero_le _, rfl, Lib.hid rfl, HB0⟩
    case round =>
      obtain ⟨k, hk, rfl, he, hb⟩ := hrel
      clear a0 a1 a2 a3 a4 a5 a6 b0 b1 b2 b3 b4 b5 b6
      obtain ⟨a0, a1, a2, a3, a4, a5, a6⟩ := CP.out _ hb.out
      obtain ⟨b0, b1, b2, b3, b4, b5, b6⟩ := CQ.out _ hb.out
      by_cases hlt : k < p.routes.length
      · have hlt2 : k < q.routes.length := by have := HL.out; omega
        have hlt3 : (k : Int) < (q.routes.length : Int) := by omega
        have hlt4 : (k : Int) < (p.routes.length : Int) := by omega
        obtain ⟨B1, o1, Ar, cr, eA, hB1, d0, hrr⟩ := trav_at P1.out hlt
        obtain ⟨B2, o2, Br, dr, eB, hB2, d1, hss⟩ := trav_at Q1.out hlt2
        subst eA eB
        rw [hs] at hB1 hB2
        have y0 : wr.cell? ⟨B1, o1 + k, none⟩ = some (.slice Ar p.routes[k].length cr) := by rw [(HW.out _ hb.out).cell hB1]; exact d0
        have y1 : wr.cell? ⟨B2, o2 + k, none⟩ = some (.slice Br q.routes[k].length dr) := by rw [(HW.out _ hb.out).cell hB2]; exact d1
        have KX := Lib.hid (KE.out wr.drew Ar Br cr dr p.routes[k] q.routes[k] (hrr.below (by rw [hs]; exact HW.out _ hb.out.drew)) (hss.below (by rw [hs]; exact HW.out _ hb.out.drew)) (HSP.out.row _ (List.getElem_mem hlt)) (HSQ.out.row _ (List.getElem_mem hlt2)))
        have HT : Hid (p.routes[k] = q.routes[k] → p.routes.take (k + 1) = q.routes.take (k + 1)) := Lib.hid (take_eq_snoc hlt hlt2 he.out)
        have HN : Hid (¬ p.routes[k] = q.routes[k] → x1 = false) := Lib.hid (fun h => by rw [← HX1.out]; exact decide_eq_false (fun e => h (by simp only [e])))
        clear d0 d1 hrr hss
        generalize p.routes[k] = a at *
        generalize q.routes[k] = b at *
        go_upto_region 6 with (fail)
        refine wp_region_z (S := (fun W => W.cell? ⟨s, 0, none⟩ = some (.slice (some ⟨B1, o1, none⟩) p.routes.length c1) ∧ W.cell? ⟨s + 1, 0, none⟩ = some (.slice (some ⟨B2, o2, none⟩) q.routes.length g1) ∧ W.cell? ⟨B1, o1 + k, none⟩ = some (.slice Ar a.length cr) ∧ W.cell? ⟨B2, o2 + k, none⟩ = some (.slice Br b.length dr))) (z := 12) (by kernel_rfl) ⟨a0, b0, y0, y1⟩ (fun hH => ?_)
        refine wpAnyZ_takeS (i := 0) (v := ?_) rfl (by kernel_rfl) (by kernel_rfl) (by kernel_rfl) (by kernel_rfl) (fun _ _ _ h => h) (gives_value (by rfl) ?_) (by assumption) ?_
        rotate_left
        · intro w hSw
          obtain ⟨q0, q1, q2, q3⟩ := hSw
          go_simp
          (try with_reducible rfl)
        (try simp only [putAll, Act.put, List.getElem_toArray, List.getElem_cons_succ, List.getElem_cons_zero, List.setIfInBounds_toArray, List.set_cons_zero, List.set_cons_succ])
        refine wpAnyZ_takeS (i := 1) (v := ?_) rfl (by kernel_rfl) (by kernel_rfl) (by kernel_rfl) (by kernel_rfl) (fun _ _ _ h => h) (gives_value (by rfl) ?_) (by assumption) ?_
        rotate_left
        · intro w hSw
          obtain ⟨q0, q1, q2, q3⟩ := hSw
          go_simp
          (try with_reducible rfl)
        (try simp only [putAll, Act.put, List.getElem_toArray, List.getElem_cons_succ, List.getElem_cons_zero, List.setIfInBounds_toArray, List.set_cons_zero, List.set_cons_succ])
        refine wpAnyZ_takeS (i := 2) (v := ?_) rfl (by kernel_rfl) (by kernel_rfl) (by kernel_rfl) (by kernel_rfl) (fun _ _ _ h => h) (gives_value (by rfl) ?_) (by assumption) ?_
        rotate_left
        · intro w hSw
          obtain ⟨q0, q1, q2, q3⟩ := hSw
          go_simp
          (try with_reducible rfl)
        (try simp only [putAll, Act.put, List.getElem_toArray, List.getElem_cons_succ, List.getElem_cons_zero, List.setIfInBounds_toArray, List.set_cons_zero, List.set_cons_succ])
        refine wpAnyZ_takeS (i := 3) (v := ?_) rfl (by kernel_rfl) (by kernel_rfl) (by kernel_rfl) (by kernel_rfl) (fun _ _ _ h => h) (gives_value (by rfl) ?_) (by assumption) ?_
        rotate_left
        · intro w hSw
          obtain ⟨q0, q1, q2, q3⟩ := hSw
          go_simp
          (try with_reducible rfl)
        (try simp only [putAll, Act.put, List.getElem_toArray, List.getElem_cons_succ, List.getElem_cons_zero, List.setIfInBounds_toArray, List.set_cons_zero, List.set_cons_succ])
        refine wpAnyZ_takeS (i := 4) (v := ?_) rfl (by kernel_rfl) (by kernel_rfl) (by kernel_rfl) (by kernel_rfl) (fun _ _ _ h => h) (gives_value (by rfl) ?_) (by assumption) ?_
        rotate_left
        · intro w hSw
          obtain ⟨q0, q1, q2, q3⟩ := hSw
          go_simp
          (try with_reducible rfl)
        (try simp only [putAll, Act.put, List.getElem_toArray, List.getElem_cons_succ, List.getElem_cons_zero, List.setIfInBounds_toArray, List.set_cons_zero, List.set_cons_succ])
        refine wpAnyZ_takeS (i := 5) (v := ?_) rfl (by kernel_rfl) (by kernel_rfl) (by kernel_rfl) (by kernel_rfl) (fun _ _ _ h => h) (gives_value (by rfl) ?_) (by assumption) ?_
        rotate_left
        · intro w hSw
          obtain ⟨q0, q1, q2, q3⟩ := hSw
          go_simp
          (try with_reducible rfl)
        (try simp only [putAll, Act.put, List.getElem_toArray, List.getElem_cons_succ, List.getElem_cons_zero, List.setIfInBounds_toArray, List.set_cons_zero, List.set_cons_succ])
        refine wpAnyZ_takeS (i := 6) (v := ?_) rfl (by kernel_rfl) (by kernel_rfl) (by kernel_rfl) (by kernel_rfl) (fun _ _ _ h => h) (gives_value (by rfl) ?_) (by assumption) ?_
        rotate_left
        · intro w hSw
          obtain ⟨q0, q1, q2, q3⟩ := hSw
          go_simp
          (try with_reducible rfl)
        (try simp only [putAll, Act.put, List.getElem_toArray, List.getElem_cons_succ, List.getElem_cons_zero, List.setIfInBounds_toArray, List.set_cons_zero, List.set_cons_succ])
        refine wpAnyZ_takeS (i := 7) (v := ?_) rfl (by kernel_rfl) (by kernel_rfl) (by kernel_rfl) (by kernel_rfl) (fun _ _ _ h => h) (gives_value (by rfl) ?_) (by assumption) ?_
        rotate_left
        · intro w hSw
          obtain ⟨q0, q1, q2, q3⟩ := hSw
          go_simp
          (try with_reducible rfl)
        (try simp only [putAll, Act.put, List.getElem_toArray, List.getElem_cons_succ, List.getElem_cons_zero, List.setIfInBounds_toArray, List.set_cons_zero, List.set_cons_succ])
        refine wpAnyZ_takeS (i := 8) (v := ?_) rfl (by kernel_rfl) (by kernel_rfl) (by kernel_rfl) (by kernel_rfl) (fun _ _ _ h => h) (gives_value (by rfl) ?_) (by assumption) ?_
        rotate_left
        · intro w hSw
          obtain ⟨q0, q1, q2, q3⟩ := hSw
          go_simp
          (try with_reducible rfl)
        (try simp only [putAll, Act.put, List.getElem_toArray, List.getElem_cons_succ, List.getElem_cons_zero, List.setIfInBounds_toArray, List.set_cons_zero, List.set_cons_succ])
        refine wpAnyZ_takeS (i := 9) (v := ?_) rfl (by kernel_rfl) (by kernel_rfl) (by kernel_rfl) (by kernel_rfl) (fun _ _ _ h => h) (gives_value (by rfl) ?_) (by assumption) ?_
        rotate_left
        · intro w hSw
          obtain ⟨q0, q1, q2, q3⟩ := hSw
          go_simp
          (try with_reducible rfl)
        (try simp only [putAll, Act.put, List.getElem_toArray, List.getElem_cons_succ, List.getElem_cons_zero, List.setIfInBounds_toArray, List.set_cons_zero, List.set_cons_succ])
        refine wpAnyZ_one (i := 10) (by kernel_rfl) ?_
        refine zstep rfl (fun K hK => ?_)
        refine step_call (by rfl) (by go_simp) (KX.out.mono ?_)
        rintro e wq ⟨rfl, n, rfl⟩
        refine ⟨_, rfl, ?_⟩
        refine hK.out _ _ (fun _ => hH) (fun hH2 => ?_)
        replace hH2 := hH2 (by decide)
        clear hK K
        (try simp only [putAll, Act.put, List.getElem_toArray, List.getElem_cons_succ, List.getElem_cons_zero, List.setIfInBounds_toArray, List.set_cons_zero, List.set_cons_succ])
        refine wpAnyZ_takeS (i := 11) (v := ?_) rfl (by kernel_rfl) (by kernel_rfl) (by kernel_rfl) (by kernel_rfl) (fun _ _ _ h => h) (gives_value (by rfl) ?_) (by assumption) ?_
        rotate_left
        · intro w hSw
          skip
          go_simp
          (try with_reducible rfl)
        (try simp only [putAll, Act.put, List.getElem_toArray, List.getElem_cons_succ, List.getElem_cons_zero, List.setIfInBounds_toArray, List.set_cons_zero, List.set_cons_succ])
        refine wpAnyZ_done (by kernel_rfl) ?_ _
        clear hH hH2
        have HBQ : Hid (Below W0.heap.size W0 (wr.drew.drewN n)) := Lib.hid (below_draws hb.out.drew n)
        generalize wr.drew.drewN n = wq at *
        by_cases hab : a = b
        · have t9 := decide_eq_true hab
          have HT2 := Lib.hid (HT.out hab)
          rw [t9]
          clear hab HN HT t9
          go_wp2_with (fail)
          go_roundw
          case rel => exact ⟨k + 1, by omega, by go_num, HT2, HBQ⟩
          case measure => simp [intOf]; omega
        · have t9 := decide_eq_false hab
          have HF := Lib.hid (HN.out hab)
          rw [t9]
          clear hab HN HT t9
          go_wp2_with (fail)
          go_ret
          exact ⟨by rw [HRE.out, HF.out]; rfl, by first | (rw [hs]; exact HW.out _ HBQ.out) | exact HW.out _ HBQ.out⟩
      · have HF : Hid (x1 = true) := Lib.hid (by
          rw [← HX1.out]
          have h := he.out
          rw [List.take_of_length_le (by omega), List.take_of_length_le (by have := HL.out; omega)] at h
          exact decide_eq_true h)
        clear he
        clear a0 a1 a2 a3 a4 a5 a6 b0 b1 b2 b3 b4 b5 b6
        obtain ⟨a0, a1, a2, a3, a4, a5, a6⟩ := CP.out _ hb.out
        obtain ⟨b0, b1, b2, b3, b4, b5, b6⟩ := CQ.out _ hb.out
        cases hx2 : x2
        case false =>
          rw [hx2] at Kx2
          have Gx2 := Lib.hid hx2
          clear hx2
          go_wp2_with (go_at_call 29; fail)
          go_at_call 29
          refine (Kx2.out wr hb.out).mono ?_
          rintro e w1 ⟨rfl, n0, hn0⟩
          have HB1 : Hid (Below W0.heap.size W0 w1) := Lib.hid (by rw [hn0]; exact below_draws hb.out n0)
          clear hn0
          clear a0 a1 a2 a3 a4 a5 a6 b0 b1 b2 b3 b4 b5 b6
          go_wp2_with (fail)
          go_ret
          exact ⟨by rw [HRE.out, HF.out, Gx2.out]; rfl, by first | (rw [hs]; exact HW.out _ HB1.out) | exact HW.out _ HB1.out⟩
        case true =>
          rw [hx2] at Kx2
          have Gx2 := Lib.hid hx2
          clear hx2
          go_wp2_with (go_at_call 29; fail)
          go_at_call 29
          refine (Kx2.out wr hb.out).mono ?_
          rintro e w1 ⟨rfl, n0, hn0⟩
          have HB1 : Hid (Below W0.heap.size W0 w1) := Lib.hid (by rw [hn0]; exact below_draws hb.out n0)
          clear hn0
          clear a0 a1 a2 a3 a4 a5 a6 b0 b1 b2 b3 b4 b5 b6
          obtain ⟨a0, a1, a2, a3, a4, a5, a6⟩ := CP.out _ HB1.out
          obtain ⟨b0, b1, b2, b3, b4, b5, b6⟩ := CQ.out _ HB1.out
          cases hx3 : x3
          case false =>
            rw [hx3] at Kx3
            have Gx3 := Lib.hid hx3
            clear hx3
            go_wp2_with (go_at_call 29; fail)
            go_at_call 29
            refine (Kx3.out w1 HB1.out).mono ?_
            rintro e w2 ⟨rfl, n1, hn1⟩
            have HB2 : Hid (Below W0.heap.size W0 w2) := Lib.hid (by rw [hn1]; exact below_draws HB1.out n1)
            clear hn1
            clear a0 a1 a2 a3 a4 a5 a6 b0 b1 b2 b3 b4 b5 b6
            go_wp2_with (fail)
            go_ret
            exact ⟨by rw [HRE.out, HF.out, Gx2.out, Gx3.out]; rfl, by first | (rw [hs]; exact HW.out _ HB2.out) | exact HW.out _ HB2.out⟩
          case true =>
            rw [hx3] at Kx3
            have Gx3 := Lib.hid hx3
            clear hx3
            go_wp2_with (go_at_call 29; fail)
            go_at_call 29
            refine (Kx3.out w1 HB1.out).mono ?_
            rintro e w2 ⟨rfl, n1, hn1⟩
            have HB2 : Hid (Below W0.heap.size W0 w2) := Lib.hid (by rw [hn1]; exact below_draws HB1.out n1)
            clear hn1
            clear a0 a1 a2 a3 a4 a5 a6 b0 b1 b2 b3 b4 b5 b6
            go_wp2_with (fail)
            go_ret
            exact ⟨by rw [HRE.out, HF.out, Gx2.out, Gx3.out]; rfl, by first | (rw [hs]; exact HW.out _ HB2.out) | exact HW.out _ HB2.out⟩
  · have HF : Hid (x1 = false) := Lib.hid (by rw [← HX1.out]; exact decide_eq_false (fun e => hlen (by rw [e])))
    have q0 : ((p.routes.length : Int) != (q.routes.length : Int)) = true := by simp; omega
    have q1 : (p.routes.length != q.routes.length) = true := by simpa using hlen
    clear hlen
    go_wp2_with (fail)
    go_ret
    exact ⟨by rw [HRE.out, HF.out]; rfl, by first | (rw [hs]; exact HW.out _ HB0.out) | exact HW.out _ HB0.out⟩
set_option maxRecDepth 100000 in
set_option maxHeartbeats 8000000 in
theorem rexact_any (v u : Value) (p q : PlanP) (w : World) (hv : PlanAt w v p) (hu : PlanAt w u q) (hp : PShort p) (hq : PShort q) :
    Calls Try.prog 7 #[v, u] w fun e w' => e = .returned (.bool (exactP p q)) ∧ Below w.heap.size w w' := by
  have HVP := Lib.hid hv
  have HVQ := Lib.hid hu
  obtain ⟨A1, c1, A2, c2, A3, c3, A4, c4, A5, c5, A6, c6, rfl, p1, p2, p3, p4, p5, p6⟩ := hv
  obtain ⟨D1, g1, D2, g2, D3, g3, D4, g4, D5, g5, D6, g6, rfl, q1, q2, q3, q4, q5, q6⟩ := hu
  have W0B : Hid (Below w.heap.size w ((w.alloc (.cells #[.slice A1 p.routes.length c1, .slice A2 p.lock.length c2, .slice A3 p.ice.length c3, .slice A4 p.rv.length c4, .slice A5 p.sv.length c5, .slice A6 p.iv.length c6, .int .i64 p.pv] 34)).alloc (.cells #[.slice D1 q.routes.length g1, .slice D2 q.lock.length g2, .slice D3 q.ice.length g3, .slice D4 q.rv.length g4, .slice D5 q.sv.length g5, .slice D6 q.iv.length g6, .int .i64 q.pv] 34))) := Lib.hid (((Below.refl _ _).alloc (Nat.le_refl _) _).alloc (by simp) _)
  have BPx : Hid (Blk ((w.alloc (.cells #[.slice A1 p.routes.length c1, .slice A2 p.lock.length c2, .slice A3 p.ice.length c3, .slice A4 p.rv.length c4, .slice A5 p.sv.length c5, .slice A6 p.iv.length c6, .int .i64 p.pv] 34)).alloc (.cells #[.slice D1 q.routes.length g1, .slice D2 q.lock.length g2, .slice D3 q.ice.length g3, .slice D4 q.rv.length g4, .slice D5 q.sv.length g5, .slice D6 q.iv.length g6, .int .i64 q.pv] 34)) w.heap.size #[.slice A1 p.routes.length c1, .slice A2 p.lock.length c2, .slice A3 p.ice.length c3, .slice A4 p.rv.length c4, .slice A5 p.sv.length c5, .slice A6 p.iv.length c6, .int .i64 p.pv].toList) := Lib.hid ((blk_new w _ _).alloc _)
  have BQx : Hid (Blk ((w.alloc (.cells #[.slice A1 p.routes.length c1, .slice A2 p.lock.length c2, .slice A3 p.ice.length c3, .slice A4 p.rv.length c4, .slice A5 p.sv.length c5, .slice A6 p.iv.length c6, .int .i64 p.pv] 34)).alloc (.cells #[.slice D1 q.routes.length g1, .slice D2 q.lock.length g2, .slice D3 q.ice.length g3, .slice D4 q.rv.length g4, .slice D5 q.sv.length g5, .slice D6 q.iv.length g6, .int .i64 q.pv] 34)) (w.heap.size + 1) #[.slice D1 q.routes.length g1, .slice D2 q.lock.length g2, .slice D3 q.ice.length g3, .slice D4 q.rv.length g4, .slice D5 q.sv.length g5, .slice D6 q.iv.length g6, .int .i64 q.pv].toList) := Lib.hid (blk_at (w := w.alloc _) #[.slice D1 q.routes.length g1, .slice D2 q.lock.length g2, .slice D3 q.ice.length g3, .slice D4 q.rv.length g4, .slice D5 q.sv.length g5, .slice D6 q.iv.length g6, .int .i64 q.pv] 34 (by simp))
  have HSP := Lib.hid hp
  have HSQ := Lib.hid hq
  have P1 := Lib.hid p1
  have Q1 := Lib.hid q1
  have P2 := Lib.hid p2
  have Q2 := Lib.hid q2
  have P3 := Lib.hid p3
  have Q3 := Lib.hid q3
  have P4 := Lib.hid p4
  have Q4 := Lib.hid q4
  have P5 := Lib.hid p5
  have Q5 := Lib.hid q5
  have P6 := Lib.hid p6
  have Q6 := Lib.hid q6
  clear p1 p2 p3 p4 p5 p6 q1 q2 q3 q4 q5 q6 hp hq
  obtain ⟨r, hre⟩ : ∃ r, r = exactP p q := ⟨_, rfl⟩
  rw [← hre]
  unfold exactP at hre
  have HRE := Lib.hid hre
  clear hre
  go_enter Try.func7, Try.ntmps7
  go_upto_region 1 with (fail)
  generalize ((w.alloc (.cells #[.slice A1 p.routes.length c1, .slice A2 p.lock.length c2, .slice A3 p.ice.length c3, .slice A4 p.rv.length c4, .slice A5 p.sv.length c5, .slice A6 p.iv.length c6, .int .i64 p.pv] 34)).alloc (.cells #[.slice D1 q.routes.length g1, .slice D2 q.lock.length g2, .slice D3 q.ice.length g3, .slice D4 q.rv.length g4, .slice D5 q.sv.length g5, .slice D6 q.iv.length g6, .int .i64 q.pv] 34)) = W0 at *
  have CP : Hid (∀ W, Below W0.heap.size W0 W → W.cell? ⟨w.heap.size, 0, none⟩ = some (.slice A1 p.routes.length c1) ∧ W.cell? ⟨w.heap.size, 1, none⟩ = some (.slice A2 p.lock.length c2) ∧ W.cell? ⟨w.heap.size, 2, none⟩ = some (.slice A3 p.ice.length c3) ∧ W.cell? ⟨w.heap.size, 3, none⟩ = some (.slice A4 p.rv.length c4) ∧ W.cell? ⟨w.heap.size, 4, none⟩ = some (.slice A5 p.sv.length c5) ∧ W.cell? ⟨w.heap.size, 5, none⟩ = some (.slice A6 p.iv.length c6) ∧ W.cell? ⟨w.heap.size, 6, none⟩ = some (.int .i64 p.pv)) := Lib.hid (fun W hb => by
    have B := BPx.out.below hb
    exact ⟨(B.2 0 (by simp)).1, (B.2 1 (by simp)).1, (B.2 2 (by simp)).1, (B.2 3 (by simp)).1, (B.2 4 (by simp)).1, (B.2 5 (by simp)).1, (B.2 6 (by simp)).1⟩)
  have CQ : Hid (∀ W, Below W0.heap.size W0 W → W.cell? ⟨w.heap.size + 1, 0, none⟩ = some (.slice D1 q.routes.length g1) ∧ W.cell? ⟨w.heap.size + 1, 1, none⟩ = some (.slice D2 q.lock.length g2) ∧ W.cell? ⟨w.heap.size + 1, 2, none⟩ = some (.slice D3 q.ice.length g3) ∧ W.cell? ⟨w.heap.size + 1, 3, none⟩ = some (.slice D4 q.rv.length g4) ∧ W.cell? ⟨w.heap.size + 1, 4, none⟩ = some (.slice D5 q.sv.length g5) ∧ W.cell? ⟨w.heap.size + 1, 5, none⟩ = some (.slice D6 q.iv.length g6) ∧ W.cell? ⟨w.heap.size + 1, 6, none⟩ = some (.int .i64 q.pv)) := Lib.hid (fun W hb => by
    have B := BQx.out.below hb
    exact ⟨(B.2 0 (by simp)).1, (B.2 1 (by simp)).1, (B.2 2 (by simp)).1, (B.2 3 (by simp)).1, (B.2 4 (by simp)).1, (B.2 5 (by simp)).1, (B.2 6 (by simp)).1⟩)
  have HW : Hid (∀ W, Below W0.heap.size W0 W → Below w.heap.size w W) := Lib.hid (fun W hb => W0B.out.trans (hb.mono (by have := BQx.out.1; omega)))
  have HB0 := Lib.hid (Below.refl W0.heap.size W0)
  clear BPx BQx
  generalize hs : w.heap.size = s at *
  have Kx1 : Hid (∀ W, Below W0.heap.size W0 W → Calls Try.prog 28 #[.agg #[.slice A1 p.routes.length c1, .slice A2 p.lock.length c2, .slice A3 p.ice.length c3, .slice A4 p.rv.length c4, .slice A5 p.sv.length c5, .slice A6 p.iv.length c6, .int .i64 p.pv], .agg #[.slice D1 q.routes.length g1, .slice D2 q.lock.length g2, .slice D3 q.ice.length g3, .slice D4 q.rv.length g4, .slice D5 q.sv.length g5, .slice D6 q.iv.length g6, .int .i64 q.pv]] W fun e w' => e = .returned (.bool (sameP p q)) ∧ Below W.heap.size W w') := Lib.hid (fun W hb => rsame_any _ _ p q W (HVP.out.below (by first | exact HW.out _ hb | (rw [hs]; exact HW.out _ hb))) (HVQ.out.below (by first | exact HW.out _ hb | (rw [hs]; exact HW.out _ hb))) HSP.out HSQ.out)
  have Kx2 : Hid (∀ W, Below W0.heap.size W0 W → Calls Try.prog 29 #[.slice A4 p.rv.length c4, .slice D4 q.rv.length g4] W fun e w' => e = .returned (.bool (decide (p.rv = q.rv))) ∧ ∃ n, w' = W.drewN n) := Lib.hid (fun W hb => refAlike_any A4 D4 c4 g4 p.rv q.rv W (P4.out.below (by first | exact HW.out _ hb | (rw [hs]; exact HW.out _ hb))) (Q4.out.below (by first | exact HW.out _ hb | (rw [hs]; exact HW.out _ hb))) (by have := HSP.out.rv; omega) (by have := HSQ.out.rv; omega))
  have Kx3 : Hid (∀ W, Below W0.heap.size W0 W → Calls Try.prog 29 #[.slice A5 p.sv.length c5, .slice D5 q.sv.length g5] W fun e w' => e = .returned (.bool (decide (p.sv = q.sv))) ∧ ∃ n, w' = W.drewN n) := Lib.hid (fun W hb => refAlike_any A5 D5 c5 g5 p.sv q.sv W (P5.out.below (by first | exact HW.out _ hb | (rw [hs]; exact HW.out _ hb))) (Q5.out.below (by first | exact HW.out _ hb | (rw [hs]; exact HW.out _ hb))) (by have := HSP.out.sv; omega) (by have := HSQ.out.sv; omega))
  have Kx4 : Hid (∀ W, Below W0.heap.size W0 W → Calls Try.prog 29 #[.slice A6 p.iv.length c6, .slice D6 q.iv.length g6] W fun e w' => e = .returned (.bool (decide (p.iv = q.iv))) ∧ ∃ n, w' = W.drewN n) := Lib.hid (fun W hb => refAlike_any A6 D6 c6 g6 p.iv q.iv W (P6.out.below (by first | exact HW.out _ hb | (rw [hs]; exact HW.out _ hb))) (Q6.out.below (by first | exact HW.out _ hb | (rw [hs]; exact HW.out _ hb))) (by have := HSP.out.iv; omega) (by have := HSQ.out.iv; omega))
  generalize sameP p q = x1 at *
  generalize decide (p.rv = q.rv) = x2 at *
  generalize decide (p.sv = q.sv) = x3 at *
  generalize decide (p.iv = q.iv) = x4 at *
  obtain ⟨a0, a1, a2, a3, a4, a5, a6⟩ := CP.out _ HB0.out
  obtain ⟨b0, b1, b2, b3, b4, b5, b6⟩ := CQ.out _ HB0.out
  cases hx1 : x1
  case false =>
    rw [hx1] at Kx1
    have Gx1 := Lib.hid hx1
    clear hx1
    go_wp2_with (go_at_call 28; fail)
    go_at_call 28
    refine (Kx1.out W0 HB0.out).mono ?_
    rintro e w1 ⟨rfl, hbx⟩
    have HB1 : Hid (Below W0.heap.size W0 w1) := Lib.hid (HB0.out.trans (hbx.mono HB0.out.size))
    clear hbx
    clear a0 a1 a2 a3 a4 a5 a6 b0 b1 b2 b3 b4 b5 b6
    go_wp2_with (fail)
    go_ret
    exact ⟨by rw [HRE.out, Gx1.out]; rfl, by first | (rw [hs]; exact HW.out _ HB1.out) | exact HW.out _ HB1.out⟩
  case true =>
    rw [hx1] at Kx1
    have Gx1 := Lib.hid hx1
    clear hx1
    go_wp2_with (go_at_call 28; fail)
    go_at_call 28
    refine (Kx1.out W0 HB0.out).mono ?_
    rintro e w1 ⟨rfl, hbx⟩
    have HB1 : Hid (Below W0.heap.size W0 w1) := Lib.hid (HB0.out.trans (hbx.mono HB0.out.size))
    clear hbx
    clear a0 a1 a2 a3 a4 a5 a6 b0 b1 b2 b3 b4 b5 b6
    obtain ⟨a0, a1, a2, a3, a4, a5, a6⟩ := CP.out _ HB1.out
    obtain ⟨b0, b1, b2, b3, b4, b5, b6⟩ := CQ.out _ HB1.out
    cases hx2 : x2
    case false =>
      rw [hx2] at Kx2
      have Gx2 := Lib.hid hx2
      clear hx2
      go_wp2_with (go_at_call 29; fail)
      go_at_call 29
      refine (Kx2.out w1 HB1.out).mono ?_
      rintro e w2 ⟨rfl, n1, hn1⟩
      have HB2 : Hid (Below W0.heap.size W0 w2) := Lib.hid (by rw [hn1]; exact below_draws HB1.out n1)
      clear hn1
      clear a0 a1 a2 a3 a4 a5 a6 b0 b1 b2 b3 b4 b5 b6
      go_wp2_with (fail)
      go_ret
      exact ⟨by rw [HRE.out, Gx1.out, Gx2.out]; rfl, by first | (rw [hs]; exact HW.out _ HB2.out) | exact HW.out _ HB2.out⟩
    case true =>
      rw [hx2] at Kx2
      have Gx2 := Lib.hid hx2
      clear hx2
      go_wp2_with (go_at_call 29; fail)
      go_at_call 29
      refine (Kx2.out w1 HB1.out).mono ?_
      rintro e w2 ⟨rfl, n1, hn1⟩
      have HB2 : Hid (Below W0.heap.size W0 w2) := Lib.hid (by rw [hn1]; exact below_draws HB1.out n1)
      clear hn1
      clear a0 a1 a2 a3 a4 a5 a6 b0 b1 b2 b3 b4 b5 b6
      obtain ⟨a0, a1, a2, a3, a4, a5, a6⟩ := CP.out _ HB2.out
      obtain ⟨b0, b1, b2, b3, b4, b5, b6⟩ := CQ.out _ HB2.out
      cases hx3 : x3
      case false =>
        rw [hx3] at Kx3
        have Gx3 := Lib.hid hx3
        clear hx3
        go_wp2_with (go_at_call 29; fail)
        go_at_call 29
        refine (Kx3.out w2 HB2.out).mono ?_
        rintro e w3 ⟨rfl, n2, hn2⟩
        have HB3 : Hid (Below W0.heap.size W0 w3) := Lib.hid (by rw [hn2]; exact below_draws HB2.out n2)
        clear hn2
        clear a0 a1 a2 a3 a4 a5 a6 b0 b1 b2 b3 b4 b5 b6
        go_wp2_with (fail)
        go_ret
        exact ⟨by rw [HRE.out, Gx1.out, Gx2.out, Gx3.out]; rfl, by first | (rw [hs]; exact HW.out _ HB3.out) | exact HW.out _ HB3.out⟩
      case true =>
        rw [hx3] at Kx3
        have Gx3 := Lib.hid hx3
        clear hx3
        go_wp2_with (go_at_call 29; fail)
        go_at_call 29
        refine (Kx3.out w2 HB2.out).mono ?_
        rintro e w3 ⟨rfl, n2, hn2⟩
        have HB3 : Hid (Below W0.heap.size W0 w3) := Lib.hid (by rw [hn2]; exact below_draws HB2.out n2)
        clear hn2
        clear a0 a1 a2 a3 a4 a5 a6 b0 b1 b2 b3 b4 b5 b6
        obtain ⟨a0, a1, a2, a3, a4, a5, a6⟩ := CP.out _ HB3.out
        obtain ⟨b0, b1, b2, b3, b4, b5, b6⟩ := CQ.out _ HB3.out
        cases hx4 : x4
        case false =>
          rw [hx4] at Kx4
          have Gx4 := Lib.hid hx4
          clear hx4
          go_wp2_with (go_at_call 29; fail)
          go_at_call 29
          refine (Kx4.out w3 HB3.out).mono ?_
          rintro e w4 ⟨rfl, n3, hn3⟩
          have HB4 : Hid (Below W0.heap.size W0 w4) := Lib.hid (by rw [hn3]; exact below_draws HB3.out n3)
          clear hn3
          clear a0 a1 a2 a3 a4 a5 a6 b0 b1 b2 b3 b4 b5 b6
          go_wp2_with (fail)
          go_ret
          exact ⟨by rw [HRE.out, Gx1.out, Gx2.out, Gx3.out, Gx4.out]; rfl, by first | (rw [hs]; exact HW.out _ HB4.out) | exact HW.out _ HB4.out⟩
        case true =>
          rw [hx4] at Kx4
          have Gx4 := Lib.hid hx4
          clear hx4
          go_wp2_with (go_at_call 29; fail)
          go_at_call 29
          refine (Kx4.out w3 HB3.out).mono ?_
          rintro e w4 ⟨rfl, n3, hn3⟩
          have HB4 : Hid (Below W0.heap.size W0 w4) := Lib.hid (by rw [hn3]; exact below_draws HB3.out n3)
          clear hn3
          clear a0 a1 a2 a3 a4 a5 a6 b0 b1 b2 b3 b4 b5 b6
          obtain ⟨a0, a1, a2, a3, a4, a5, a6⟩ := CP.out _ HB4.out
          obtain ⟨b0, b1, b2, b3, b4, b5, b6⟩ := CQ.out _ HB4.out
          by_cases hpv : p.pv = q.pv
          · have t1 : (p.pv == q.pv) = true := by simpa using hpv
            have Gpv := Lib.hid (decide_eq_true hpv)
            clear hpv
            go_wp2_with (fail)
            go_ret
            exact ⟨by rw [HRE.out, Gx1.out, Gx2.out, Gx3.out, Gx4.out, Gpv.out]; rfl, by first | (rw [hs]; exact HW.out _ HB4.out) | exact HW.out _ HB4.out⟩
          · have t1 : (p.pv == q.pv) = false := by simpa using hpv
            have Gpv := Lib.hid (decide_eq_false hpv)
            clear hpv
            go_wp2_with (fail)
            go_ret
            exact ⟨by rw [HRE.out, Gx1.out, Gx2.out, Gx3.out, Gx4.out, Gpv.out]; rfl, by first | (rw [hs]; exact HW.out _ HB4.out) | exact HW.out _ HB4.out⟩
end Go.Proofs.Ytpccoflebfblbaa
namespace Go.Proofs.Ytpccoflebfblbaa
open Go.RowKit
set_option linter.unusedSimpArgs false

def planCost (i : Prob) (rs : List (List Int)) : Int := rs.foldl (fun n r => wrap64 (n + costP i r)) 0
theorem planCost_snoc {i : Prob} {rs : List (List Int)} {k : Nat} (h : k < rs.length) : planCost i (rs.take (k + 1)) = wrap64 (planCost i (rs.take k) + costP i rs[k]) := by
  unfold planCost
  rw [take_snoc h, List.foldl_append]
  rfl
end Go.Proofs.Ytpccoflebfblbaa
namespace Go.Proofs.Ytpccoflebfblbaa
open Go.RowKit
set_option linter.unusedSimpArgs false
set_option linter.unusedVariables false

set_option maxRecDepth 100000 in
set_option maxHeartbeats 4000000 in
theorem pcost_any (v u : Value) (i : Prob) (p : PlanP) (w : World) (h : Lies w v i) (hok : probOk i = true) (hpl : i.pairs.length ≤ 1000000) (hp : PlanAt w u p) (hn : p.routes.length ≤ 100000) (hl : ∀ r ∈ p.routes, r.length ≤ 100000) :
    Calls Try.prog 10 #[v, u] w fun e w' => e = .returned (.int .i64 (planCost i p.routes)) ∧ Below w.heap.size w w' := by
  have H := Lib.hid h
  obtain ⟨vc, vs, vp, vt, rfl, ⟨X1, y1, rfl, _⟩, ⟨X2, y2, rfl, _⟩, ⟨X3, y3, rfl, _⟩, ⟨X4, y4, rfl, _⟩⟩ := h
  obtain ⟨A1, c1, A2, c2, A3, c3, A4, c4, A5, c5, A6, c6, rfl, hr, _, _, _, _, _⟩ := hp
  have HR := Lib.hid hr
  have NR := Lib.hid hl
  clear hr hl
  have KC := Lib.hid (fun (W : World) (hb : Below w.heap.size w W) (r : List Int) (Ar : Option Addr) (cr : Nat) (hrr : Recs w 1 num_ (.slice Ar r.length cr) r) (hlr : r.length ≤ 1000000) => cost_any (.agg #[.slice X1 i.cars.length y1, .slice X2 i.stops.length y2, .slice X3 i.pairs.length y3, .slice X4 i.travel.length y4]) (.slice Ar r.length cr) i r W (H.out.below hb) hok hpl (hrr.below hb) hlr)
  have BI := Lib.hid ((blk_new w #[.slice X1 i.cars.length y1, .slice X2 i.stops.length y2, .slice X3 i.pairs.length y3, .slice X4 i.travel.length y4] 32).alloc (.cells #[.slice A1 p.routes.length c1, .slice A2 p.lock.length c2, .slice A3 p.ice.length c3, .slice A4 p.rv.length c4, .slice A5 p.sv.length c5, .slice A6 p.iv.length c6, .int .i64 p.pv] 34))
  have B0 := Lib.hid (((Below.refl w.heap.size w).alloc (Nat.le_refl _) (.cells #[.slice X1 i.cars.length y1, .slice X2 i.stops.length y2, .slice X3 i.pairs.length y3, .slice X4 i.travel.length y4] 32)).alloc (by simp) (.cells #[.slice A1 p.routes.length c1, .slice A2 p.lock.length c2, .slice A3 p.ice.length c3, .slice A4 p.rv.length c4, .slice A5 p.sv.length c5, .slice A6 p.iv.length c6, .int .i64 p.pv] 34))
  clear hok
  go_enter Try.func10, Try.ntmps10
  go_wp2_with (fail)
  generalize (w.alloc (.cells #[.slice X1 i.cars.length y1, .slice X2 i.stops.length y2, .slice X3 i.pairs.length y3, .slice X4 i.travel.length y4] 32)).alloc (.cells #[.slice A1 p.routes.length c1, .slice A2 p.lock.length c2, .slice A3 p.ice.length c3, .slice A4 p.rv.length c4, .slice A5 p.sv.length c5, .slice A6 p.iv.length c6, .int .i64 p.pv] 34) = W0 at *
  go_loopw [5, 11] (fun nv kv wr => ∃ k : Nat, k ≤ p.routes.length ∧ nv = .int .i64 (planCost i (p.routes.take k)) ∧ kv = .int .i64 k ∧ Hid (Below w.heap.size w wr) ∧ Hid (Below W0.heap.size W0 wr)) (fun _ kv _ => p.routes.length - (intOf kv).toNat)
  case atStart => exact ⟨0, Nat.zero_le _, rfl, rfl, B0, Lib.hid (Below.refl _ _)⟩
  case round =>
    obtain ⟨k, hk, rfl, rfl, hb, hb0⟩ := hrel
    by_cases hlt : k < p.routes.length
    · obtain ⟨B1, o1, Ar, cr, rfl, hB1, d0, hrr⟩ := trav_at HR.out hlt
      have c0 : wr.cell? ⟨B1, o1 + k, none⟩ = some (.slice Ar p.routes[k].length cr) := by rw [hb.out.cell hB1]; exact d0
      have BI2 := BI.out.below hb0.out
      have x0 := (BI2.2 0 (by simp)).1
      have x1 := (BI2.2 1 (by simp)).1
      have x2 := (BI2.2 2 (by simp)).1
      have x3 := (BI2.2 3 (by simp)).1
      have KK := Lib.hid (KC.out wr hb.out p.routes[k] Ar cr hrr (by have := NR.out _ (List.getElem_mem hlt); omega))
      have HS := Lib.hid (planCost_snoc (i := i) hlt)
      clear d0 hrr BI2
      generalize p.routes[k] = r at *
      go_wp2_with (go_at_call 32; fail)
      go_at_call 32
      refine KK.out.mono ?_
      rintro e w2 ⟨rfl, hb2⟩
      have HB2 : Hid (Below w.heap.size w w2) := Lib.hid (hb.out.trans (hb2.mono hb.out.size))
      have HB3 : Hid (Below W0.heap.size W0 w2) := Lib.hid (hb0.out.trans (hb2.mono hb0.out.size))
      clear hb2
      go_wp2
      go_roundw
      case rel => exact ⟨k + 1, by omega, by rw [HS.out], by go_num, HB2, HB3⟩
      case measure => simp [intOf]; omega
    · have e : p.routes.take k = p.routes := List.take_of_length_le (by omega)
      have HE := Lib.hid e
      clear e
      go_wp2
      go_ret
      exact ⟨by rw [HE.out]; rfl, hb.out⟩
end Go.Proofs.Ytpccoflebfblbaa
