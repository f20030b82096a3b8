/- Plain facts, no Go: when the end of a route, begun at a time, can be driven (TabLate). · TabLate: the second problem in memory, its cars and stops as they are written; when its route can be driven. -/
import Derived.Test.YtkheepedjoimmaaTabCode
import Derived.Test.YtkheepedjoimmaaBeginsMem
import Derived.Test.YtkheepedjoimmaaZM
import Derived.Test.YtkheepedjoimmaaZC
namespace Go.Proofs.Ytkheepedjoimmaa

theorem tail_there {i : Prob} (hm : Mated i) {c : Int} : ∀ {l : List Int} {t : TailP}, tailL i c l = some t → thereB i l = true ∧ l.Nodup
  | [], _, _ => ⟨rfl, List.nodup_nil⟩
  | s :: l, t, h => by
    obtain ⟨g, h1, h2⟩ := Option.bind_eq_some_iff.1 (show (tailL i c l).bind (fun t => beforeP i s t) = some t from h)
    obtain ⟨⟨a1, a2, _⟩, _, _, _⟩ := bef_some.1 h2
    obtain ⟨i1, i2⟩ := tail_there hm h1
    refine ⟨?_, List.nodup_cons.2 ⟨fun hs => ?_, i2⟩⟩
    · unfold thereB at i1 ⊢
      rw [List.all_cons, a1, i1]; rfl
    · have := (tail_sets hm h1).set s (inB_iff.1 a1).1
      rw [a2] at this
      simp [hs] at this
/-- of a problem that differs only in a car's room, the demands (none), the pairs (none) and when the first stop opens -/
theorem late_eval {i J : Prob} {c s : Int} {l : List Int} {t : TailP} (hm : Mated i) (ht : tailL i c (s :: l) = some t) (hc : inB c 0 (J.cars.length - 1) = true) (hn : J.stops.length = i.stops.length) (hp : J.pairs = []) (hw : ∀ a b, way J a b = way i a b)
    (he : (carAt J c).e = (carAt i c).e) (hcap : 0 ≤ (carAt J c).c) (hd : ∀ x, (stopAt J x).d = 0) (hl : ∀ x ∈ l, (stopAt J x).o = (stopAt i x).o ∧ (stopAt J x).c = (stopAt i x).c ∧ (stopAt J x).s = (stopAt i x).s)
    (hcs : (stopAt J s).c = (stopAt i s).c) (hss : (stopAt J s).s = (stopAt i s).s) : (evalL J c (s :: l)).isSome = true ↔ max (stopAt J s).o ((carAt J c).s + way i 0 s) ≤ t.late := by
  obtain ⟨h1, h2⟩ := tail_there hm ht
  have h3 : thereB J (s :: l) = true := by unfold thereB at h1 ⊢; rw [hn]; exact h1
  have h4 : nodupL [] (s :: l) = true := (nodupL_iff _ _).2 ⟨h2, fun _ _ h => by simp at h⟩
  have h5 : ∀ (m met : List Int), pairsL [] met 0 m = true := fun m => by
    induction m with
    | nil => intro met; rfl
    | cons x m ih => intro met; unfold pairsL; rw [if_pos (show mateL x [] = 0 from rfl)]; exact ih _
  have h6 : evalL J c (s :: l) = (driveL J (carAt J c) 0 (carAt J c).s 0 (s :: l)).map fun d => ⟨d.arr, d.load, costL J 0 (s :: l), d.home⟩ := by
    unfold evalL
    rw [hc, h3, h4, hp, h5]; rfl
  rw [h6, Option.isSome_map, drive_times hcap (fun x _ => hd x), he, late_first ht hw hl hcs hss]
end Go.Proofs.Ytkheepedjoimmaa
namespace Go.Proofs.Ytkheepedjoimmaa
open Go.RowKit

def setDem (st : List Stop) (k : Nat) (u : Int) : List Stop := st.modify k fun x => { x with d := u }
def setOpen (st : List Stop) (k : Nat) (u : Int) : List Stop := st.modify k fun x => { x with o := u }
theorem stopCells_dem : ∀ (st : List Stop) (k : Nat) (d : Int), k < st.length → stopCells (setDem st k d) = (stopCells st).set (k * 4) (.int .i64 d)
  | x :: l, 0, d, _ => by simp [stopCells, setDem, ints, stopNums]
  | x :: l, k + 1, d, h => by
    have := stopCells_dem l k d (by simpa using h)
    simp only [stopCells, setDem, List.modify_succ_cons, List.flatMap_cons] at this ⊢
    rw [this, List.set_append, if_neg (by simp [ints, stopNums]; omega)]
    congr 2
    simp [ints, stopNums]; omega
theorem stopCells_open : ∀ (st : List Stop) (k : Nat) (d : Int), k < st.length → stopCells (setOpen st k d) = (stopCells st).set (k * 4 + 1) (.int .i64 d)
  | x :: l, 0, d, _ => by simp [stopCells, setOpen, ints, stopNums]
  | x :: l, k + 1, d, h => by
    have := stopCells_open l k d (by simpa using h)
    simp only [stopCells, setOpen, List.modify_succ_cons, List.flatMap_cons] at this ⊢
    rw [this, List.set_append, if_neg (by simp [ints, stopNums]; omega)]
    congr 2
    simp [ints, stopNums]; omega
/-- the second problem in its variable J: its cars and stops as they stand, no pairs -/
structure JL (wb : World) (I J gc cC gs cS : Nat) (vp : Value) (At : Option Addr) (cT : Nat) (us : List Value) (i : Prob) (W : World) (cs : List Car) (st : List Stop) : Prop where
  held : Held W wb.heap.size I { i with cars := cs, stops := st } (.slice (some ⟨gc, 0, none⟩) i.cars.length cC) (.slice (some ⟨gs, 0, none⟩) i.stops.length cS) vp (.slice At i.travel.length cT) us
  box : Blk W J [.slice (some ⟨gc, 0, none⟩) i.cars.length cC, .slice (some ⟨gs, 0, none⟩) i.stops.length cS, .slice none 0 0, .slice At i.travel.length cT]
  cj : gc ≠ J
  sj : gs ≠ J
  below : Below wb.heap.size wb W
  lc : cs.length = i.cars.length
  ls : st.length = i.stops.length
section
variable {wb : World} {I J gc cC gs cS : Nat} {vp : Value} {At : Option Addr} {cT : Nat} {us : List Value} {i : Prob} {W : World} {cs : List Car} {st : List Stop}
theorem JL.on {W' : World} (h : JL wb I J gc cC gs cS vp At cT us i W cs st) (hb : Below W.heap.size W W') : JL wb I J gc cC gs cS vp At cT us i W' cs st :=
  ⟨h.held.below hb, h.box.below hb, h.cj, h.sj, h.below.trans (hb.mono h.below.size), h.lc, h.ls⟩
theorem JL.lies (h : JL wb I J gc cC gs cS vp At cT us i W cs st) : Lies W (.agg #[.slice (some ⟨gc, 0, none⟩) i.cars.length cC, .slice (some ⟨gs, 0, none⟩) i.stops.length cS, .slice none 0 0, .slice At i.travel.length cT]) ⟨cs, st, [], i.travel⟩ := h.held.lies.no_pairs
theorem JL.gcz (h : JL wb I J gc cC gs cS vp At cT us i W cs st) : wb.heap.size ≤ gc ∧ gc < W.heap.size := ⟨(own_typed h.held.cars (g := gc) rfl).2, by obtain ⟨cur, hc⟩ := (own_typed h.held.cars (g := gc) rfl).1; exact (Array.getElem?_eq_some_iff.1 hc).1⟩
theorem JL.gsz (h : JL wb I J gc cC gs cS vp At cT us i W cs st) : wb.heap.size ≤ gs ∧ gs < W.heap.size := ⟨(own_typed h.held.stops (g := gs) rfl).2, by obtain ⟨cur, hc⟩ := (own_typed h.held.stops (g := gs) rfl).1; exact (Array.getElem?_eq_some_iff.1 hc).1⟩
theorem JL.thawC (h : JL wb I J gc cC gs cS vp At cT us i W cs st) (j : Nat) : W.frozen? ⟨gc, j, none⟩ = false := own_thaw h.held.cars (g := gc) rfl j
theorem JL.thawS (h : JL wb I J gc cC gs cS vp At cT us i W cs st) (j : Nat) : W.frozen? ⟨gs, j, none⟩ = false := own_thaw h.held.stops (g := gs) rfl j
theorem JL.car (h : JL wb I J gc cC gs cS vp At cT us i W cs st) {k : Nat} (hk : k < cs.length) : W.cell? ⟨gc, k * 3, none⟩ = some (.int .i64 cs[k].c) ∧ W.cell? ⟨gc, k * 3 + 1, none⟩ = some (.int .i64 cs[k].s) := by
  obtain ⟨h1, _, _, _⟩ := said_parts (A1 := some ⟨gc, 0, none⟩) (A2 := some ⟨gs, 0, none⟩) (A3 := none) (A4 := At) (c1 := cC) (c2 := cS) (c3 := 0) (c4 := cT) (i := ⟨cs, st, [], i.travel⟩) (W := W) (by have := h.lies; unfold Said; rw [h.lc, h.ls]; exact this)
  obtain ⟨A, cap, e, hc⟩ := h1
  obtain ⟨B, o, e2, hB, hx⟩ := hc k hk
  have e3 : A = some ⟨gc, 0, none⟩ := by injection e with e; exact e.symm
  rw [e3] at e2
  injection e2 with e2; injection e2 with e4 e5
  subst e4 e5
  have a := hx 0 (by omega)
  have b := hx 1 (by omega)
  rw [Nat.zero_add] at a b
  exact ⟨a, b⟩
theorem JL.stop (h : JL wb I J gc cC gs cS vp At cT us i W cs st) {k : Nat} (hk : k < st.length) : W.cell? ⟨gs, k * 4, none⟩ = some (.int .i64 st[k].d) ∧ W.cell? ⟨gs, k * 4 + 1, none⟩ = some (.int .i64 st[k].o) := by
  obtain ⟨_, h1, _, _⟩ := said_parts (A1 := some ⟨gc, 0, none⟩) (A2 := some ⟨gs, 0, none⟩) (A3 := none) (A4 := At) (c1 := cC) (c2 := cS) (c3 := 0) (c4 := cT) (i := ⟨cs, st, [], i.travel⟩) (W := W) (by have := h.lies; unfold Said; rw [h.lc, h.ls]; exact this)
  obtain ⟨A, cap, e, hc⟩ := h1
  obtain ⟨B, o, e2, hB, hx⟩ := hc k hk
  have e3 : A = some ⟨gs, 0, none⟩ := by injection e with e; exact e.symm
  rw [e3] at e2
  injection e2 with e2; injection e2 with e4 e5
  subst e4 e5
  have a := hx 0 (by omega)
  have b := hx 1 (by omega)
  rw [Nat.zero_add] at a b
  exact ⟨a, b⟩
theorem JL.cap (h : JL wb I J gc cC gs cS vp At cT us i W cs st) {k : Nat} (hk : k < cs.length) (u : Int) : JL wb I J gc cC gs cS vp At cT us i (W.setCell ⟨gc, k * 3, none⟩ (.int .i64 u)) (setCap cs k u) st :=
  ⟨h.held.set_cars (cs := setCap cs k u) h.lc.symm (by simp [setCap]) (carCells_cap cs k u hk), h.box.other h.cj _, h.cj, h.sj, h.below.setCell (p := ⟨gc, k * 3, none⟩) h.gcz.1 _, by simp [setCap, h.lc], h.ls⟩
theorem JL.dem (h : JL wb I J gc cC gs cS vp At cT us i W cs st) {k : Nat} (hk : k < st.length) (u : Int) : JL wb I J gc cC gs cS vp At cT us i (W.setCell ⟨gs, k * 4, none⟩ (.int .i64 u)) cs (setDem st k u) :=
  ⟨h.held.set_stops (st := setDem st k u) h.ls.symm (by simp [setDem]) (stopCells_dem st k u hk), h.box.other h.sj _, h.cj, h.sj, h.below.setCell (p := ⟨gs, k * 4, none⟩) h.gsz.1 _, h.lc, by simp [setDem, h.ls]⟩
theorem JL.opn (h : JL wb I J gc cC gs cS vp At cT us i W cs st) {k : Nat} (hk : k < st.length) (u : Int) : JL wb I J gc cC gs cS vp At cT us i (W.setCell ⟨gs, k * 4 + 1, none⟩ (.int .i64 u)) cs (setOpen st k u) :=
  ⟨h.held.set_stops (st := setOpen st k u) h.ls.symm (by simp [setOpen]) (stopCells_open st k u hk), h.box.other h.sj _, h.cj, h.sj, h.below.setCell (p := ⟨gs, k * 4 + 1, none⟩) h.gsz.1 _, h.lc, by simp [setOpen, h.ls]⟩
end
/-- the stops with no demand up to n -/
def DemTo (i : Prob) (st : List Stop) (n : Nat) : Prop := st.length = i.stops.length ∧ ∀ m (h : m < i.stops.length) (h' : m < st.length), (m < n → st[m].d = 0) ∧ st[m].o = i.stops[m].o ∧ st[m].c = i.stops[m].c ∧ st[m].s = i.stops[m].s
theorem DemTo.zero (i : Prob) : DemTo i i.stops 0 := ⟨rfl, fun m h _ => ⟨fun h => absurd h (by omega), rfl, rfl, rfl⟩⟩
theorem DemTo.step {i : Prob} {st : List Stop} {n : Nat} (h : DemTo i st n) : DemTo i (setDem st n 0) (n + 1) := by
  refine ⟨by simp [setDem, h.1], fun m hm hm' => ?_⟩
  have h3 := h.2 m hm (by simpa [setDem] using hm')
  simp only [setDem, List.getElem_modify]
  split
  · next e => exact ⟨fun _ => rfl, h3.2⟩
  · next e => exact ⟨fun hlt => h3.1 (by omega), h3.2⟩
/-- no demand; stop p opens at u -/
def OpenAt (i : Prob) (st : List Stop) (p : Nat) (u : Int) : Prop := st.length = i.stops.length ∧ ∀ m (h : m < i.stops.length) (h' : m < st.length), st[m].d = 0 ∧ st[m].c = i.stops[m].c ∧ st[m].s = i.stops[m].s ∧ (m ≠ p → st[m].o = i.stops[m].o) ∧ (m = p → st[m].o = u)
theorem OpenAt.of {i : Prob} {st : List Stop} (h : DemTo i st i.stops.length) (p : Nat) (u : Int) : OpenAt i (setOpen st p u) p u := by
  refine ⟨by simp [setOpen, h.1], fun m hm hm' => ?_⟩
  have h3 := h.2 m hm (by simpa [setOpen] using hm')
  simp only [setOpen, List.getElem_modify]
  split
  · next e => exact ⟨h3.1 hm, h3.2.2.1, h3.2.2.2, fun hn => absurd e.symm hn, fun _ => rfl⟩
  · next e => exact ⟨h3.1 hm, h3.2.2.1, h3.2.2.2, fun _ => h3.2.1, fun hn => absurd hn.symm e⟩
theorem OpenAt.again {i : Prob} {st : List Stop} {p : Nat} {u : Int} (h : OpenAt i st p u) (u' : Int) : OpenAt i (setOpen st p u') p u' := by
  refine ⟨by simp [setOpen, h.1], fun m hm hm' => ?_⟩
  have h3 := h.2 m hm (by simpa [setOpen] using hm')
  simp only [setOpen, List.getElem_modify]
  split
  · next e => exact ⟨h3.1, h3.2.1, h3.2.2.1, fun hn => absurd e.symm hn, fun _ => rfl⟩
  · next e => exact ⟨h3.1, h3.2.1, h3.2.2.1, h3.2.2.2.1, fun hn => absurd hn.symm e⟩
theorem late_fine {i : Prob} (hf : Fine i) {st : List Stop} {p : Nat} {u : Int} (h : OpenAt i st p u) (h0 : 0 ≤ u) (h2 : u ≤ 2000) (cn : Nat) : FineW ⟨setCap i.cars cn 60, st, [], i.travel⟩ := by
  refine ⟨by simpa [setCap] using hf.cars, by rw [h.1]; exact hf.stops, by rw [h.1]; exact hf.travel, fun c hc => ?_, fun s hs => ?_, fun p hp => by simp at hp, hf.rowF, fun c hc => by rw [h.1]; exact hf.rowL c hc, ⟨List.nodup_nil, fun x hx => by simp [flatP] at hx⟩⟩
  · obtain ⟨k, hk, rfl⟩ := List.getElem_of_mem hc
    have hb := hf.carF _ (List.getElem_mem (show k < i.cars.length by simpa [setCap] using hk))
    simp only [setCap, List.getElem_modify]
    split
    · simp only; omega
    · exact hb
  · obtain ⟨k, hk, rfl⟩ := List.getElem_of_mem hs
    have hk' : k < i.stops.length := by have := h.1; simp only at hk; omega
    have h3 := h.2 k hk' hk
    have hb := hf.stopF _ (List.getElem_mem hk')
    obtain ⟨g1, g2, g3, g4, g5⟩ := h3
    show -20 ≤ st[k].d ∧ st[k].d ≤ 20 ∧ 0 ≤ st[k].s ∧ st[k].s ≤ 1000 ∧ 0 ≤ st[k].o ∧ st[k].o ≤ 2000 ∧ 0 ≤ st[k].c ∧ st[k].c ≤ 1000
    by_cases e : k = p
    · have := g5 e; omega
    · have := g4 e; omega
theorem late_is {i : Prob} (hok : probOk { i with pairs := [] } = true) {st : List Stop} {p : Nat} {u : Int} (h : OpenAt i st p u) {cn : Nat} (hcn : cn < i.cars.length) (hp : p < i.stops.length) {l : List Int} {t : TailP} (ht : tailL { i with pairs := [] } cn (((p : Int) + 1) :: l) = some t) :
    (evalL ⟨setCap i.cars cn 60, st, [], i.travel⟩ cn (((p : Int) + 1) :: l)).isSome = true ↔ max u ((i.cars[cn]).s + way i 0 ((p : Int) + 1)) ≤ t.late := by
  have hm := mated_of hok
  have hf := fine_of hok
  have hth := tail_there hm ht
  have hcl : (setCap i.cars cn 60).length = i.cars.length := by simp [setCap]
  have e1 : carAt ⟨setCap i.cars cn 60, st, [], i.travel⟩ (cn : Int) = { i.cars[cn] with c := 60 } := by
    rw [carAt_nat ⟨setCap i.cars cn 60, st, [], i.travel⟩ (by simp only; omega)]
    simp [setCap]
  have e2 : carAt { i with pairs := [] } (cn : Int) = i.cars[cn] := carAt_nat { i with pairs := [] } hcn
  have hsl := h.1
  have at_ : ∀ q : Nat, q < i.stops.length → ∃ h1 : q < i.stops.length, ∃ h2 : q < st.length, stopAt ⟨setCap i.cars cn 60, st, [], i.travel⟩ ((q : Int) + 1) = st[q] ∧ stopAt { i with pairs := [] } ((q : Int) + 1) = i.stops[q] := fun q hq =>
    ⟨hq, by omega, stopAt_nat ⟨setCap i.cars cn 60, st, [], i.travel⟩ (by simp only; omega), stopAt_nat { i with pairs := [] } hq⟩
  have hd : ∀ x, (stopAt ⟨setCap i.cars cn 60, st, [], i.travel⟩ x).d = 0 := fun x => by
    unfold stopAt
    by_cases hx : (x - 1).toNat < st.length
    · simp only [List.getElem?_eq_getElem hx, Option.getD_some]
      exact (h.2 _ (by omega) hx).1
    · simp only [List.getElem?_eq_none (show st.length ≤ (x - 1).toNat by omega)]; rfl
  obtain ⟨_, _, a1, a2⟩ := at_ p hp
  have a3 := h.2 p hp (by omega)
  have key := late_eval (i := { i with pairs := [] }) (J := ⟨setCap i.cars cn 60, st, [], i.travel⟩) hm ht (by rw [hcl]; exact inB_iff.2 ⟨by omega, by omega⟩) hsl rfl (fun a b => rfl) (by rw [e1, e2]) (by rw [e1]; simp only; omega) hd
    (fun x hx => by
      have hin : inB x 1 i.stops.length = true := by
        have := hth.1
        unfold thereB at this
        exact List.all_eq_true.1 this x (List.mem_cons_of_mem _ hx)
      have hb := inB_iff.1 hin
      have hne : x ≠ (p : Int) + 1 := fun e => by
        subst e
        exact (List.nodup_cons.1 hth.2).1 hx
      obtain ⟨q, rfl⟩ : ∃ q : Nat, x = (q : Int) + 1 := ⟨(x - 1).toNat, by omega⟩
      obtain ⟨h1, h2, b1, b2⟩ := at_ q (by omega)
      have b3 := h.2 q h1 h2
      rw [b1, b2]
      exact ⟨b3.2.2.2.1 (by omega), b3.2.1, b3.2.2.1⟩)
    (by rw [a1, a2]; exact a3.2.1) (by rw [a1, a2]; exact a3.2.2.1)
  rw [key, a1, a3.2.2.2.2 rfl, e1]
  exact Iff.rfl
end Go.Proofs.Ytkheepedjoimmaa
