/- draymanplay.Inst, its first loop: one to three cars. -/
import Derived.Test.YtkheepedjoimmaaPlayNum
import Derived.Test.YtkheepedjoimmaaOrders
import Derived.Test.YtkheepedjoimmaaOwn
import Derived.Test.YtkheepedjoimmaaPlayF
import Derived.Deep.Cut
import Derived.Deep.CutRange
import Derived.Deep.CutBlock
namespace Go.Proofs.Ytkheepedjoimmaa
open Go.RowKit
set_option linter.unusedSimpArgs false
theorem within_call (v n : Int) (w : World) (h1 : 1 ≤ n) (h2 : n ≤ 9223372036854775807) (r : Int) (hr : withinI v n = r) :
    Calls Try.prog 11 #[.int .i64 v, .int .i64 n] w fun e w' => e = .returned (.int .i64 r) ∧ w = w' := by
  subst hr; exact within_any v n w h1 h2
theorem caps_at (r : Nat) (h : r < 4) : ∃ x : Int, ([.int .i64 20, .int .i64 60, .int .i64 9, .int .i64 30] : List Value)[r]'(by simpa using h) = .int .i64 x ∧ (0 ≤ x ∧ x ≤ 60) ∧ x = capsF r := by
  match r, h with
  | 0, _ => exact ⟨20, rfl, ⟨by omega, by omega⟩, rfl⟩
  | 1, _ => exact ⟨60, rfl, ⟨by omega, by omega⟩, rfl⟩
  | 2, _ => exact ⟨9, rfl, ⟨by omega, by omega⟩, rfl⟩
  | 3, _ => exact ⟨30, rfl, ⟨by omega, by omega⟩, rfl⟩
theorem ends_at (r : Nat) (h : r < 4) : ∃ x : Int, ([.int .i64 1000, .int .i64 200, .int .i64 90, .int .i64 60] : List Value)[r]'(by simpa using h) = .int .i64 x ∧ (60 ≤ x ∧ x ≤ 1000) ∧ x = endsF r := by
  match r, h with
  | 0, _ => exact ⟨1000, rfl, ⟨by omega, by omega⟩, rfl⟩
  | 1, _ => exact ⟨200, rfl, ⟨by omega, by omega⟩, rfl⟩
  | 2, _ => exact ⟨90, rfl, ⟨by omega, by omega⟩, rfl⟩
  | 3, _ => exact ⟨60, rfl, ⟨by omega, by omega⟩, rfl⟩
theorem spans_at (r : Nat) (h : r < 4) : ∃ x : Int, ([.int .i64 900, .int .i64 60, .int .i64 25, .int .i64 8] : List Value)[r]'(by simpa using h) = .int .i64 x ∧ (8 ≤ x ∧ x ≤ 900) ∧ x = spansF r := by
  match r, h with
  | 0, _ => exact ⟨900, rfl, ⟨by omega, by omega⟩, rfl⟩
  | 1, _ => exact ⟨60, rfl, ⟨by omega, by omega⟩, rfl⟩
  | 2, _ => exact ⟨25, rfl, ⟨by omega, by omega⟩, rfl⟩
  | 3, _ => exact ⟨8, rfl, ⟨by omega, by omega⟩, rfl⟩
theorem blk4 {W : World} {B : Nat} {a b c d : Int} (hB : B < W.heap.size) (h0 : W.cell? ⟨B, 0, none⟩ = some (.int .i64 a)) (h1 : W.cell? ⟨B, 1, none⟩ = some (.int .i64 b)) (h2 : W.cell? ⟨B, 2, none⟩ = some (.int .i64 c)) (h3 : W.cell? ⟨B, 3, none⟩ = some (.int .i64 d))
    (hf : ∀ j, j < 4 → W.frozen? ⟨B, j, none⟩ = false) : Blk W B (ints [a, b, c, d]) :=
  ⟨hB, fun j hj => by
    have hj4 : j < 4 := by simpa [ints] using hj
    refine ⟨?_, hf j hj4⟩
    match j, hj4 with
    | 0, _ => exact h0
    | 1, _ => exact h1
    | 2, _ => exact h2
    | 3, _ => exact h3⟩
theorem more_bounds {ps : List Pair} {k : Nat} {a b : Int} (h : ∀ p ∈ ps, 1 ≤ p.a ∧ p.a ≤ 2 * k ∧ 1 ≤ p.b ∧ p.b ≤ 2 * k) (ha1 : 1 ≤ a) (ha2 : a ≤ 2 * (k : Int) + 2) (hb1 : 1 ≤ b) (hb2 : b ≤ 2 * (k : Int) + 2) :
    ∀ p ∈ ps ++ [⟨a, b⟩], 1 ≤ p.a ∧ p.a ≤ 2 * ((k + 1 : Nat) : Int) ∧ 1 ≤ p.b ∧ p.b ≤ 2 * ((k + 1 : Nat) : Int) := by
  intro p hp
  rcases List.mem_append.1 hp with hp | hp
  · have := h p hp; omega
  · simp at hp; subst hp; simp only; omega
theorem own_thaw {w : World} {B : Nat} {e : TypeId} {size n : Nat} {v : Value} {xs : List Value} (h : w.ownsRow B e size v n xs) {g : Nat} (hg : v.ownBlock = some g) (j : Nat) : w.frozen? ⟨g, j, none⟩ = false := by
  obtain ⟨⟨cur, hc⟩, _⟩ := own_typed h hg
  exact Lib.frozen_of_heap hc j
theorem cell_at (st : List Stop) {k : Nat} (h : k < st.length) : ∃ u, (stopCells st)[k * 4]? = some u := by
  have := stopCells_len st
  exact ⟨_, List.getElem?_eq_getElem (by omega)⟩
theorem reads_at {w : World} {B : Nat} (l : List Value) (t : TypeId) (h : B = w.heap.size) : Reads (w.alloc (.cells l.toArray t)) (B + 1) l.length (some ⟨B, 0, none⟩) 1 l := h ▸ reads_new w l t
theorem within_nat (v : Int) (n : Nat) (h : 1 ≤ n) : ∃ r : Nat, withinI v n = (r : Int) ∧ r < n := by
  have := withinI_bounds (v := v) (n := n) (by omega)
  exact ⟨(withinI v n).toNat, by omega, by omega⟩
theorem Recs.drawn {α : Type} {W : World} {c : Nat} {g : α → Nat → Int} {v : Value} {l : List α} (h : Recs W c g v l) (n : Nat) : Recs (W.drewN n) c g v l := h.below (below_draws' (Below.refl _ _) n)
set_option maxRecDepth 100000 in
set_option maxHeartbeats 8000000 in
theorem play_carsF (v : Value) (l : List Int) (w : World) (h : Recs w 1 num_ v l) (hl : l.length ≤ 9223372036854775807) :
    Calls Try.prog 10 #[v] w (PlayEndF l w) := by
  have HL := Lib.hid h
  clear h
  obtain ⟨i0, hi, hz0, hz1', hz2'⟩ := info_parts car_info
  go_enter Try.func10, Try.ntmps10
  go_wp2
  generalize hW0 : w.alloc (.cells #[.slice none 0 0, .slice none 0 0, .slice none 0 0, .slice none 0 0] 28) = W0
  have hzW : W0.heap.size = w.heap.size + 1 := by rw [← hW0]; simp
  have HR0 : Hid (Blk W0 w.heap.size [.slice none 0 0, .slice none 0 0, .slice none 0 0, .slice none 0 0]) := by show Blk _ _ _; rw [← hW0]; exact blk_new _ _ _
  have HB0 : Hid (Below w.heap.size w W0) := by show Below _ _ _; rw [← hW0]; exact (Below.refl _ _).alloc (Nat.le_refl _) _
  have HS0 : Hid (HeldSome (W0.alloc (.cells #[.slice none 0 0, .slice none 0 0, .slice none 0 0, .slice none 0 0] 28)) (w.heap.size + 1) (w.heap.size + 1) noProb) := by
    have := held_start W0; rw [hzW] at this; exact this
  have hz1 : W0.heap.size ≤ w.heap.size + 1 := by omega
  have hz2 : w.heap.size + 1 ≤ W0.heap.size := by omega
  clear hW0 hzW
  go_loopw [5] (fun kv wr => ∃ (k : Nat) (cs : List Car), k ≤ 3 ∧ kv = .int .i64 k ∧ cs.length = k ∧ CarsTo l cs ∧ HeldSome wr (w.heap.size + 1) (w.heap.size + 1) ⟨cs, [], [], []⟩ ∧ Below (w.heap.size + 1) W0 wr) (fun kv _ => 3 - (intOf kv).toNat)
  case atStart => exact ⟨0, [], by omega, rfl, rfl, cars_nil l (within_num l 0 3 (by omega)), HS0.out, (Below.refl _ _).alloc (by omega) _⟩
  case round =>
    obtain ⟨k, cs, hk3, rfl, hcl, hca, hh, hb⟩ := hrel
    have HH := Lib.hid hh
    have HB := Lib.hid hb
    have HCL := Lib.hid hcl
    have HCA := Lib.hid hca
    have HW : Hid (Below w.heap.size w wr) := HB0.out.trans (hb.mono (by omega))
    have zr := hb.size
    clear hh hb hcl hca
    go_wp2_with (go_at_call 28; fail)
    (with_reducible refine (num_lit 0 v l 0 _ rfl (HL.out.below HW.out) (by omega) hl).mono ?_)
    rintro e w1 ⟨n0, m0, rfl, hf0, rfl⟩
    obtain ⟨r0, hr0, hr0l⟩ := within_nat n0 3 (by omega)
    have HR0 := Lib.hid (fun W => within_call n0 3 W (by omega) (by omega) _ hr0)
    have HQ0 : Hid (withinI (numF l 0) 3 = (r0 : Int)) := by show _ = _; rw [← hf0.2]; exact hr0
    clear hr0
    go_wp2_with (go_at_call 11; fail)
    (with_reducible refine (HR0.out _).mono ?_)
    rintro e w2 ⟨rfl, rfl⟩
    by_cases hlt : k < 1 + r0
    · have t1 : ((k : Int) < 1 + (r0 : Int)) := by omega
      go_wp2_with (go_at_call 28; fail)
      (with_reducible refine (num_lit (1 + (k : Int)) v l (1 + k) _ (by omega) ((HL.out.below HW.out).drawn m0) (by omega) hl).mono ?_)
      rintro e w3 ⟨n, m1, rfl, hf1, rfl⟩
      obtain ⟨r1, hr1, hr1l⟩ := within_nat n 4 (by omega)
      obtain ⟨r2, hr2, hr2l⟩ := within_nat (IntKind.i64.wrap (n.tdiv 4)) 9 (by omega)
      obtain ⟨r3, hr3, hr3l⟩ := within_nat (IntKind.i64.wrap (n.tdiv 36)) 4 (by omega)
      obtain ⟨x1, hx1, hb1, hy1⟩ := caps_at r1 hr1l
      obtain ⟨x3, hx3, hb3, hy3⟩ := ends_at r3 hr3l
      have HCF := Lib.hid (carF_eq hf1 hr1 hy1 hr2 hr3 hy3)
      have HK0 : Hid ((k : Int) < 1 + withinI (numF l 0) 3) := by show _ < _; rw [HQ0.out]; exact t1
      clear hy1 hy3
      have q1 : (0 : Int) ≤ (r1 : Int) := by omega
      have q2 : (r1 : Int) < 4 := by omega
      have q3 : (r1 : Int).toNat = r1 := by omega
      have q4 : (0 : Int) ≤ (r3 : Int) := by omega
      have q5 : (r3 : Int) < 4 := by omega
      have q6 : (r3 : Int).toNat = r3 := by omega
      have HX : Hid (carOk ⟨x1, r2, x3⟩ = true ∧ ⟨x1, r2, x3⟩ = carF l k) := ⟨by simp only [carOk, inB, Bool.and_eq_true, decide_eq_true_eq]; omega, HCF.out⟩
      clear HCF
      go_wp2
      generalize hwq : wr.drewN (m0 + m1) = wq
      have HBq : Hid (Below wr.heap.size wr wq) := by show Below _ _ _; rw [← hwq]; exact below_draws' (Below.refl _ _) _
      obtain ⟨vc, vs, vp, vt, us, hheld⟩ := HH.out
      replace hheld := hheld.below HBq.out
      obtain ⟨ac, nc, cc, rfl⟩ := own_slice hheld.cars
      have HHE := Lib.hid hheld
      have c0 : wq.cell? ⟨w.heap.size + 1, 0, none⟩ = some (.slice ac nc cc) := by rw [Lib.cell_of_heap hheld.box]; rfl
      have hI : w.heap.size + 1 < wq.heap.size := (Array.getElem?_eq_some_iff.1 hheld.box).1
      clear hwq hheld
      refine wp_region_z (S := (fun w' => w'.cell? ⟨w.heap.size + 1, 0, none⟩ = some (.slice ac nc cc))) (z := 23) (by kernel_rfl) c0 (fun hH => ?_)
      refine wpAnyZ_take (i := 0) (v := ?_) rfl (by kernel_rfl) (by kernel_rfl) (by kernel_rfl) rfl (by kernel_rfl) (fun _ _ _ h => h) (gives_value (by rfl) ?_) (by assumption) ?_
      rotate_left
      · intro w hSw
        (try dsimp only at hSw)
        go_simp
        (try with_reducible rfl)
      (try simp only [Act.put, List.getElem_toArray, List.getElem_cons_succ, List.getElem_cons_zero, List.setIfInBounds_toArray, List.set_cons_zero, List.set_cons_succ])
      refine wpAnyZ_take (i := 1) (v := ?_) rfl (by kernel_rfl) (by kernel_rfl) (by kernel_rfl) rfl (by kernel_rfl) (fun _ _ _ h => h) (gives_value (by rfl) ?_) (by assumption) ?_
      rotate_left
      · intro w hSw
        (try dsimp only at hSw)
        go_simp
        (try with_reducible rfl)
      (try simp only [Act.put, List.getElem_toArray, List.getElem_cons_succ, List.getElem_cons_zero, List.setIfInBounds_toArray, List.set_cons_zero, List.set_cons_succ])
      refine wpAnyZ_take (i := 3) (v := ?_) rfl (by kernel_rfl) (by kernel_rfl) (by kernel_rfl) rfl (by kernel_rfl) (fun _ _ _ h => h) (gives_value (by rfl) ?_) (by assumption) ?_
      rotate_left
      · intro w hSw
        (try dsimp only at hSw)
        go_simp
        (try with_reducible rfl)
      (try simp only [Act.put, List.getElem_toArray, List.getElem_cons_succ, List.getElem_cons_zero, List.setIfInBounds_toArray, List.set_cons_zero, List.set_cons_succ])
      refine wpAnyZ_take (i := 4) (v := ?_) rfl (by kernel_rfl) (by kernel_rfl) (by kernel_rfl) rfl (by kernel_rfl) (fun _ _ _ h => h) (gives_value (by rfl) ?_) (by assumption) ?_
      rotate_left
      · intro w hSw
        (try dsimp only at hSw)
        go_simp
        (try with_reducible rfl)
      (try simp only [Act.put, List.getElem_toArray, List.getElem_cons_succ, List.getElem_cons_zero, List.setIfInBounds_toArray, List.set_cons_zero, List.set_cons_succ])
      refine wpAnyZ_take (i := 5) (v := .int .i64 (r1 : Nat)) rfl (by kernel_rfl) (by kernel_rfl) (by kernel_rfl) rfl (by kernel_rfl) (fun _ _ _ h => h) (gives_call (by rfl) ?_ (fun w _ => within_call n 4 w (by omega) (by omega) _ hr1)) (by assumption) ?_
      · intro w
        go_simp
        (try with_reducible rfl)
      (try simp only [Act.put, List.getElem_toArray, List.getElem_cons_succ, List.getElem_cons_zero, List.setIfInBounds_toArray, List.set_cons_zero, List.set_cons_succ])
      refine wpAnyZ_take (i := 8) (v := ?_) rfl (by kernel_rfl) (by kernel_rfl) (by kernel_rfl) rfl (by kernel_rfl) (fun _ _ _ h => h) (gives_value (by rfl) ?_) (by assumption) ?_
      rotate_left
      · intro w hSw
        (try dsimp only at hSw)
        go_simp
        (try with_reducible rfl)
      (try simp only [Act.put, List.getElem_toArray, List.getElem_cons_succ, List.getElem_cons_zero, List.setIfInBounds_toArray, List.set_cons_zero, List.set_cons_succ])
      refine wpAnyZ_take (i := 9) (v := ?_) rfl (by kernel_rfl) (by kernel_rfl) (by kernel_rfl) rfl (by kernel_rfl) (fun _ _ _ h => h) (gives_value (by rfl) ?_) (by assumption) ?_
      rotate_left
      · intro w hSw
        (try dsimp only at hSw)
        go_simp
        (try with_reducible rfl)
      (try simp only [Act.put, List.getElem_toArray, List.getElem_cons_succ, List.getElem_cons_zero, List.setIfInBounds_toArray, List.set_cons_zero, List.set_cons_succ])
      refine wpAnyZ_take (i := 10) (v := ?_) rfl (by kernel_rfl) (by kernel_rfl) (by kernel_rfl) rfl (by kernel_rfl) (fun _ _ _ h => h) (gives_value (by rfl) ?_) (by assumption) ?_
      rotate_left
      · intro w hSw
        (try dsimp only at hSw)
        go_simp
        (try with_reducible rfl)
      (try simp only [Act.put, List.getElem_toArray, List.getElem_cons_succ, List.getElem_cons_zero, List.setIfInBounds_toArray, List.set_cons_zero, List.set_cons_succ])
      refine wpAnyZ_take (i := 11) (v := .int .i64 (r2 : Nat)) rfl (by kernel_rfl) (by kernel_rfl) (by kernel_rfl) rfl (by kernel_rfl) (fun _ _ _ h => h) (gives_call (by rfl) ?_ (fun w _ => within_call _ 9 w (by omega) (by omega) _ hr2)) (by assumption) ?_
      · intro w
        go_simp
        (try with_reducible rfl)
      (try simp only [Act.put, List.getElem_toArray, List.getElem_cons_succ, List.getElem_cons_zero, List.setIfInBounds_toArray, List.set_cons_zero, List.set_cons_succ])
      refine wpAnyZ_take (i := 13) (v := ?_) rfl (by kernel_rfl) (by kernel_rfl) (by kernel_rfl) rfl (by kernel_rfl) (fun _ _ _ h => h) (gives_value (by rfl) ?_) (by assumption) ?_
      rotate_left
      · intro w hSw
        (try dsimp only at hSw)
        go_simp
        (try with_reducible rfl)
      (try simp only [Act.put, List.getElem_toArray, List.getElem_cons_succ, List.getElem_cons_zero, List.setIfInBounds_toArray, List.set_cons_zero, List.set_cons_succ])
      refine wpAnyZ_take (i := 14) (v := ?_) rfl (by kernel_rfl) (by kernel_rfl) (by kernel_rfl) rfl (by kernel_rfl) (fun _ _ _ h => h) (gives_value (by rfl) ?_) (by assumption) ?_
      rotate_left
      · intro w hSw
        (try dsimp only at hSw)
        go_simp
        (try with_reducible rfl)
      (try simp only [Act.put, List.getElem_toArray, List.getElem_cons_succ, List.getElem_cons_zero, List.setIfInBounds_toArray, List.set_cons_zero, List.set_cons_succ])
      refine wpAnyZ_take (i := 15) (v := ?_) rfl (by kernel_rfl) (by kernel_rfl) (by kernel_rfl) rfl (by kernel_rfl) (fun _ _ _ h => h) (gives_value (by rfl) ?_) (by assumption) ?_
      rotate_left
      · intro w hSw
        (try dsimp only at hSw)
        go_simp
        (try with_reducible rfl)
      (try simp only [Act.put, List.getElem_toArray, List.getElem_cons_succ, List.getElem_cons_zero, List.setIfInBounds_toArray, List.set_cons_zero, List.set_cons_succ])
      refine wpAnyZ_take (i := 16) (v := .int .i64 (r3 : Nat)) rfl (by kernel_rfl) (by kernel_rfl) (by kernel_rfl) rfl (by kernel_rfl) (fun _ _ _ h => h) (gives_call (by rfl) ?_ (fun w _ => within_call _ 4 w (by omega) (by omega) _ hr3)) (by assumption) ?_
      · intro w
        go_simp
        (try with_reducible rfl)
      (try simp only [Act.put, List.getElem_toArray, List.getElem_cons_succ, List.getElem_cons_zero, List.setIfInBounds_toArray, List.set_cons_zero, List.set_cons_succ])
      refine wpAnyZ_two (i := 2) (j := 12) (by kernel_rfl) ?_ ?_
      · refine zstep rfl (fun K hK => ?_)
        go_simp
        refine hK.out _ _ (fun _ => (by first | exact c0 | go_keep)) (fun hH => ?_)
        replace hH := hH (by decide)
        clear hK K
        (try simp only [Act.put, List.getElem_toArray, List.getElem_cons_succ, List.getElem_cons_zero, List.setIfInBounds_toArray, List.set_cons_zero, List.set_cons_succ])
        refine wpAnyZ_take (i := 6) (v := ?_) rfl (by kernel_rfl) (by kernel_rfl) (by kernel_rfl) rfl (by kernel_rfl) (fun _ _ _ h => h) (gives_value (by rfl) ?_) (by assumption) ?_
        rotate_left
        · intro w hSw
          (try dsimp only at hSw)
          go_simp
          (try with_reducible rfl)
        (try simp only [Act.put, List.getElem_toArray, List.getElem_cons_succ, List.getElem_cons_zero, List.setIfInBounds_toArray, List.set_cons_zero, List.set_cons_succ])
        refine wpAnyZ_two (i := 7) (j := 12) (by kernel_rfl) ?_ ?_
        · refine zstep rfl (fun K hK => ?_)
          go_simp
          refine hK.out _ _ (fun _ => (by first | exact c0 | go_keep)) (fun hH => ?_)
          replace hH := hH (by decide)
          clear hK K
          (try simp only [Act.put, List.getElem_toArray, List.getElem_cons_succ, List.getElem_cons_zero, List.setIfInBounds_toArray, List.set_cons_zero, List.set_cons_succ])
          refine wpAnyZ_one (i := 12) (by kernel_rfl) ?_
          refine zstep rfl (fun K hK => ?_)
          go_simp
          refine hK.out _ _ (fun _ => (by first | exact c0 | go_keep)) (fun hH => ?_)
          replace hH := hH (by decide)
          clear hK K
          (try simp only [Act.put, List.getElem_toArray, List.getElem_cons_succ, List.getElem_cons_zero, List.setIfInBounds_toArray, List.set_cons_zero, List.set_cons_succ])
          refine wpAnyZ_take (i := 17) (v := ?_) rfl (by kernel_rfl) (by kernel_rfl) (by kernel_rfl) rfl (by kernel_rfl) (fun _ _ _ h => h) (gives_value (by rfl) ?_) (by assumption) ?_
          rotate_left
          · intro w hSw
            (try dsimp only at hSw)
            go_simp
            (try with_reducible rfl)
          (try simp only [Act.put, List.getElem_toArray, List.getElem_cons_succ, List.getElem_cons_zero, List.setIfInBounds_toArray, List.set_cons_zero, List.set_cons_succ])
          refine wpAnyZ_one (i := 18) (by kernel_rfl) ?_
          refine zstep rfl (fun K hK => ?_)
          go_simp
          refine hK.out _ _ (fun _ => (by first | exact c0 | go_keep)) (fun hH => ?_)
          replace hH := hH (by decide)
          clear hK K
          (try simp only [Act.put, List.getElem_toArray, List.getElem_cons_succ, List.getElem_cons_zero, List.setIfInBounds_toArray, List.set_cons_zero, List.set_cons_succ])
          as_aux_lemma =>
            refine wpAnyZ_take (i := 19) (v := ?_) rfl (by kernel_rfl) (by kernel_rfl) (by kernel_rfl) rfl (by kernel_rfl) (fun _ _ _ h => h) (gives_value (by rfl) ?_) (by assumption) ?_
            rotate_left
            · intro w hSw
              (try dsimp only at hSw)
              go_simp
              (try with_reducible rfl)
            (try simp only [Act.put, List.getElem_toArray, List.getElem_cons_succ, List.getElem_cons_zero, List.setIfInBounds_toArray, List.set_cons_zero, List.set_cons_succ])
            refine wpAnyZ_one (i := 20) (by kernel_rfl) ?_
            refine zstep rfl (fun K hK => ?_)
            go_simp
            refine hK.out _ _ (fun _ => (Below.cell (Below.drew (Below.alloc (Below.alloc (Below.alloc (Below.refl wq.heap.size wq) (by simp) _) (by simp <;> omega) _) (by simp <;> omega) _)) hI).trans c0) (fun hH => ?_)
            replace hH := hH (by decide)
            clear hK K
            (try simp only [Act.put, List.getElem_toArray, List.getElem_cons_succ, List.getElem_cons_zero, List.setIfInBounds_toArray, List.set_cons_zero, List.set_cons_succ])
            refine wpAnyZ_one (i := 21) (by kernel_rfl) ?_
            refine zstep rfl (fun K hK => ?_)
            refine step_append_any _ rfl (.tmp 33) (.tmp 52) 23 rfl (w.heap.size + 1) 52 i0 _ 3 24 Try.underlying23 hi hz0 hz1' hz2' rfl (by decide) (.slice ac nc cc) cs.length (carCells cs) (by rfl) (own_below HHE.out.cars (Below.drew (Below.alloc (Below.alloc (Below.alloc (Below.refl wq.heap.size wq) (by simp) _) (by simp <;> omega) _) (by simp <;> omega) _))) (wq.heap.size + 1 + 1 + 1) (some ⟨wq.heap.size + 1 + 1, 0, none⟩) 1 1 (ints [x1, r2, x3]) (by rfl) (Reads.drew (reads_at _ _ (by simp))) (ints_one _) (by have := HCL.out; unfold maxLen; omega) (by have := HCL.out; omega) (by simp; omega) ?_
            intro v' w2 hown' hgrow hob
            obtain ⟨ao, n', cap', rfl⟩ := own_slice hown'
            have hbx := (HHE.out.below (Below.drew (Below.alloc (Below.alloc (Below.alloc (Below.refl wq.heap.size wq) (by simp) _) (by simp <;> omega) _) (by simp <;> omega) _))).box_car hgrow
            have d0 : w2.cell? ⟨w.heap.size + 1, 0, none⟩ = some (.slice ac nc cc) := by rw [Lib.cell_of_heap hbx]; rfl
            have e0 : w2.frozen? ⟨w.heap.size + 1, 0, none⟩ = false := Lib.frozen_of_heap hbx 0
            have HO := Lib.hid hown'
            have HG := Lib.hid hgrow
            clear hown' hgrow hob hbx
            refine hK.out _ _ (fun _ => d0) (fun hH => ?_)
            replace hH := hH (by decide)
            clear hK K
            (try simp only [Act.put, List.getElem_toArray, List.getElem_cons_succ, List.getElem_cons_zero, List.setIfInBounds_toArray, List.set_cons_zero, List.set_cons_succ])
            refine wpAnyZ_take (i := 22) (v := ?_) rfl (by kernel_rfl) (by kernel_rfl) (by kernel_rfl) rfl (by kernel_rfl) (fun _ _ _ h => h) (gives_value (by rfl) ?_) (by assumption) ?_
            rotate_left
            · intro w hSw
              (try dsimp only at hSw)
              go_simp
              (try with_reducible rfl)
            (try simp only [Act.put, List.getElem_toArray, List.getElem_cons_succ, List.getElem_cons_zero, List.setIfInBounds_toArray, List.set_cons_zero, List.set_cons_succ])
            refine wpAnyZ_one (i := 23) (by kernel_rfl) ?_
            refine zstep rfl (fun K hK => ?_)
            go_simp
            refine hK.out _ _ (fun h => absurd rfl h) (fun hH => ?_)
            clear hK K hH
            (try simp only [Act.put, List.getElem_toArray, List.getElem_cons_succ, List.getElem_cons_zero, List.setIfInBounds_toArray, List.set_cons_zero, List.set_cons_succ])
            refine wpAnyZ_done (by kernel_rfl) ?_ _
            go_wp2
            go_roundw
            case rel => exact ⟨k + 1, cs ++ [⟨x1, r2, x3⟩], by omega, by go_num, by rw [List.length_append, HCL.out]; rfl, HCA.out.more HCL.out HX.out HK0.out, (HHE.out.below (Below.drew (Below.alloc (Below.alloc (Below.alloc (Below.refl wq.heap.size wq) (by simp) _) (by simp <;> omega) _) (by simp <;> omega) _))).put_car ⟨x1, r2, x3⟩ HO.out HG.out, (((HB.out.trans (HBq.out.mono (by omega))).trans (Below.mono (Below.drew (Below.alloc (Below.alloc (Below.alloc (Below.refl wq.heap.size wq) (by simp) _) (by simp <;> omega) _) (by simp <;> omega) _)) (by omega))).grown HG.out (by simp; omega) (fun q hq => (own_typed HHE.out.cars hq).2)).setCell (Nat.le_refl _) _⟩
            case measure => simp [intOf]; omega
        · refine zstep rfl (fun K hK => ?_)
          go_simp
          refine hK.out _ _ (fun _ => (by first | exact c0 | go_keep)) (fun hH => ?_)
          replace hH := hH (by decide)
          clear hK K
          (try simp only [Act.put, List.getElem_toArray, List.getElem_cons_succ, List.getElem_cons_zero, List.setIfInBounds_toArray, List.set_cons_zero, List.set_cons_succ])
          refine wpAnyZ_take (i := 17) (v := ?_) rfl (by kernel_rfl) (by kernel_rfl) (by kernel_rfl) rfl (by kernel_rfl) (fun _ _ _ h => h) (gives_value (by rfl) ?_) (by assumption) ?_
          rotate_left
          · intro w hSw
            (try dsimp only at hSw)
            go_simp
            (try with_reducible rfl)
          (try simp only [Act.put, List.getElem_toArray, List.getElem_cons_succ, List.getElem_cons_zero, List.setIfInBounds_toArray, List.set_cons_zero, List.set_cons_succ])
          refine wpAnyZ_two (i := 7) (j := 18) (by kernel_rfl) ?_ ?_
          · refine zstep rfl (fun K hK => ?_)
            go_simp
            refine hK.out _ _ (fun _ => (by first | exact c0 | go_keep)) (fun hH => ?_)
            replace hH := hH (by decide)
            clear hK K
            (try simp only [Act.put, List.getElem_toArray, List.getElem_cons_succ, List.getElem_cons_zero, List.setIfInBounds_toArray, List.set_cons_zero, List.set_cons_succ])
            refine wpAnyZ_one (i := 18) (by kernel_rfl) ?_
            refine zstep rfl (fun K hK => ?_)
            go_simp
            refine hK.out _ _ (fun _ => (by first | exact c0 | go_keep)) (fun hH => ?_)
            replace hH := hH (by decide)
            clear hK K
            (try simp only [Act.put, List.getElem_toArray, List.getElem_cons_succ, List.getElem_cons_zero, List.setIfInBounds_toArray, List.set_cons_zero, List.set_cons_succ])
            as_aux_lemma =>
              refine wpAnyZ_take (i := 19) (v := ?_) rfl (by kernel_rfl) (by kernel_rfl) (by kernel_rfl) rfl (by kernel_rfl) (fun _ _ _ h => h) (gives_value (by rfl) ?_) (by assumption) ?_
              rotate_left
              · intro w hSw
                (try dsimp only at hSw)
                go_simp
                (try with_reducible rfl)
              (try simp only [Act.put, List.getElem_toArray, List.getElem_cons_succ, List.getElem_cons_zero, List.setIfInBounds_toArray, List.set_cons_zero, List.set_cons_succ])
              refine wpAnyZ_one (i := 20) (by kernel_rfl) ?_
              refine zstep rfl (fun K hK => ?_)
              go_simp
              refine hK.out _ _ (fun _ => (Below.cell (Below.drew (Below.alloc (Below.alloc (Below.alloc (Below.refl wq.heap.size wq) (by simp) _) (by simp <;> omega) _) (by simp <;> omega) _)) hI).trans c0) (fun hH => ?_)
              replace hH := hH (by decide)
              clear hK K
              (try simp only [Act.put, List.getElem_toArray, List.getElem_cons_succ, List.getElem_cons_zero, List.setIfInBounds_toArray, List.set_cons_zero, List.set_cons_succ])
              refine wpAnyZ_one (i := 21) (by kernel_rfl) ?_
              refine zstep rfl (fun K hK => ?_)
              refine step_append_any _ rfl (.tmp 33) (.tmp 52) 23 rfl (w.heap.size + 1) 52 i0 _ 3 24 Try.underlying23 hi hz0 hz1' hz2' rfl (by decide) (.slice ac nc cc) cs.length (carCells cs) (by rfl) (own_below HHE.out.cars (Below.drew (Below.alloc (Below.alloc (Below.alloc (Below.refl wq.heap.size wq) (by simp) _) (by simp <;> omega) _) (by simp <;> omega) _))) (wq.heap.size + 1 + 1 + 1) (some ⟨wq.heap.size + 1 + 1, 0, none⟩) 1 1 (ints [x1, r2, x3]) (by rfl) (Reads.drew (reads_at _ _ (by simp))) (ints_one _) (by have := HCL.out; unfold maxLen; omega) (by have := HCL.out; omega) (by simp; omega) ?_
              intro v' w2 hown' hgrow hob
              obtain ⟨ao, n', cap', rfl⟩ := own_slice hown'
              have hbx := (HHE.out.below (Below.drew (Below.alloc (Below.alloc (Below.alloc (Below.refl wq.heap.size wq) (by simp) _) (by simp <;> omega) _) (by simp <;> omega) _))).box_car hgrow
              have d0 : w2.cell? ⟨w.heap.size + 1, 0, none⟩ = some (.slice ac nc cc) := by rw [Lib.cell_of_heap hbx]; rfl
              have e0 : w2.frozen? ⟨w.heap.size + 1, 0, none⟩ = false := Lib.frozen_of_heap hbx 0
              have HO := Lib.hid hown'
              have HG := Lib.hid hgrow
              clear hown' hgrow hob hbx
              refine hK.out _ _ (fun _ => d0) (fun hH => ?_)
              replace hH := hH (by decide)
              clear hK K
              (try simp only [Act.put, List.getElem_toArray, List.getElem_cons_succ, List.getElem_cons_zero, List.setIfInBounds_toArray, List.set_cons_zero, List.set_cons_succ])
              refine wpAnyZ_take (i := 22) (v := ?_) rfl (by kernel_rfl) (by kernel_rfl) (by kernel_rfl) rfl (by kernel_rfl) (fun _ _ _ h => h) (gives_value (by rfl) ?_) (by assumption) ?_
              rotate_left
              · intro w hSw
                (try dsimp only at hSw)
                go_simp
                (try with_reducible rfl)
              (try simp only [Act.put, List.getElem_toArray, List.getElem_cons_succ, List.getElem_cons_zero, List.setIfInBounds_toArray, List.set_cons_zero, List.set_cons_succ])
              refine wpAnyZ_one (i := 23) (by kernel_rfl) ?_
              refine zstep rfl (fun K hK => ?_)
              go_simp
              refine hK.out _ _ (fun h => absurd rfl h) (fun hH => ?_)
              clear hK K hH
              (try simp only [Act.put, List.getElem_toArray, List.getElem_cons_succ, List.getElem_cons_zero, List.setIfInBounds_toArray, List.set_cons_zero, List.set_cons_succ])
              refine wpAnyZ_done (by kernel_rfl) ?_ _
              go_wp2
              go_roundw
              case rel => exact ⟨k + 1, cs ++ [⟨x1, r2, x3⟩], by omega, by go_num, by rw [List.length_append, HCL.out]; rfl, HCA.out.more HCL.out HX.out HK0.out, (HHE.out.below (Below.drew (Below.alloc (Below.alloc (Below.alloc (Below.refl wq.heap.size wq) (by simp) _) (by simp <;> omega) _) (by simp <;> omega) _))).put_car ⟨x1, r2, x3⟩ HO.out HG.out, (((HB.out.trans (HBq.out.mono (by omega))).trans (Below.mono (Below.drew (Below.alloc (Below.alloc (Below.alloc (Below.refl wq.heap.size wq) (by simp) _) (by simp <;> omega) _) (by simp <;> omega) _)) (by omega))).grown HG.out (by simp; omega) (fun q hq => (own_typed HHE.out.cars hq).2)).setCell (Nat.le_refl _) _⟩
              case measure => simp [intOf]; omega
          · refine zstep rfl (fun K hK => ?_)
            go_simp
            refine hK.out _ _ (fun _ => (by first | exact c0 | go_keep)) (fun hH => ?_)
            replace hH := hH (by decide)
            clear hK K
            (try simp only [Act.put, List.getElem_toArray, List.getElem_cons_succ, List.getElem_cons_zero, List.setIfInBounds_toArray, List.set_cons_zero, List.set_cons_succ])
            refine wpAnyZ_one (i := 7) (by kernel_rfl) ?_
            refine zstep rfl (fun K hK => ?_)
            go_simp
            refine hK.out _ _ (fun _ => (by first | exact c0 | go_keep)) (fun hH => ?_)
            replace hH := hH (by decide)
            clear hK K
            (try simp only [Act.put, List.getElem_toArray, List.getElem_cons_succ, List.getElem_cons_zero, List.setIfInBounds_toArray, List.set_cons_zero, List.set_cons_succ])
            as_aux_lemma =>
              refine wpAnyZ_take (i := 19) (v := ?_) rfl (by kernel_rfl) (by kernel_rfl) (by kernel_rfl) rfl (by kernel_rfl) (fun _ _ _ h => h) (gives_value (by rfl) ?_) (by assumption) ?_
              rotate_left
              · intro w hSw
                (try dsimp only at hSw)
                go_simp
                (try with_reducible rfl)
              (try simp only [Act.put, List.getElem_toArray, List.getElem_cons_succ, List.getElem_cons_zero, List.setIfInBounds_toArray, List.set_cons_zero, List.set_cons_succ])
              refine wpAnyZ_one (i := 20) (by kernel_rfl) ?_
              refine zstep rfl (fun K hK => ?_)
              go_simp
              refine hK.out _ _ (fun _ => (Below.cell (Below.drew (Below.alloc (Below.alloc (Below.alloc (Below.refl wq.heap.size wq) (by simp) _) (by simp <;> omega) _) (by simp <;> omega) _)) hI).trans c0) (fun hH => ?_)
              replace hH := hH (by decide)
              clear hK K
              (try simp only [Act.put, List.getElem_toArray, List.getElem_cons_succ, List.getElem_cons_zero, List.setIfInBounds_toArray, List.set_cons_zero, List.set_cons_succ])
              refine wpAnyZ_one (i := 21) (by kernel_rfl) ?_
              refine zstep rfl (fun K hK => ?_)
              refine step_append_any _ rfl (.tmp 33) (.tmp 52) 23 rfl (w.heap.size + 1) 52 i0 _ 3 24 Try.underlying23 hi hz0 hz1' hz2' rfl (by decide) (.slice ac nc cc) cs.length (carCells cs) (by rfl) (own_below HHE.out.cars (Below.drew (Below.alloc (Below.alloc (Below.alloc (Below.refl wq.heap.size wq) (by simp) _) (by simp <;> omega) _) (by simp <;> omega) _))) (wq.heap.size + 1 + 1 + 1) (some ⟨wq.heap.size + 1 + 1, 0, none⟩) 1 1 (ints [x1, r2, x3]) (by rfl) (Reads.drew (reads_at _ _ (by simp))) (ints_one _) (by have := HCL.out; unfold maxLen; omega) (by have := HCL.out; omega) (by simp; omega) ?_
              intro v' w2 hown' hgrow hob
              obtain ⟨ao, n', cap', rfl⟩ := own_slice hown'
              have hbx := (HHE.out.below (Below.drew (Below.alloc (Below.alloc (Below.alloc (Below.refl wq.heap.size wq) (by simp) _) (by simp <;> omega) _) (by simp <;> omega) _))).box_car hgrow
              have d0 : w2.cell? ⟨w.heap.size + 1, 0, none⟩ = some (.slice ac nc cc) := by rw [Lib.cell_of_heap hbx]; rfl
              have e0 : w2.frozen? ⟨w.heap.size + 1, 0, none⟩ = false := Lib.frozen_of_heap hbx 0
              have HO := Lib.hid hown'
              have HG := Lib.hid hgrow
              clear hown' hgrow hob hbx
              refine hK.out _ _ (fun _ => d0) (fun hH => ?_)
              replace hH := hH (by decide)
              clear hK K
              (try simp only [Act.put, List.getElem_toArray, List.getElem_cons_succ, List.getElem_cons_zero, List.setIfInBounds_toArray, List.set_cons_zero, List.set_cons_succ])
              refine wpAnyZ_take (i := 22) (v := ?_) rfl (by kernel_rfl) (by kernel_rfl) (by kernel_rfl) rfl (by kernel_rfl) (fun _ _ _ h => h) (gives_value (by rfl) ?_) (by assumption) ?_
              rotate_left
              · intro w hSw
                (try dsimp only at hSw)
                go_simp
                (try with_reducible rfl)
              (try simp only [Act.put, List.getElem_toArray, List.getElem_cons_succ, List.getElem_cons_zero, List.setIfInBounds_toArray, List.set_cons_zero, List.set_cons_succ])
              refine wpAnyZ_one (i := 23) (by kernel_rfl) ?_
              refine zstep rfl (fun K hK => ?_)
              go_simp
              refine hK.out _ _ (fun h => absurd rfl h) (fun hH => ?_)
              clear hK K hH
              (try simp only [Act.put, List.getElem_toArray, List.getElem_cons_succ, List.getElem_cons_zero, List.setIfInBounds_toArray, List.set_cons_zero, List.set_cons_succ])
              refine wpAnyZ_done (by kernel_rfl) ?_ _
              go_wp2
              go_roundw
              case rel => exact ⟨k + 1, cs ++ [⟨x1, r2, x3⟩], by omega, by go_num, by rw [List.length_append, HCL.out]; rfl, HCA.out.more HCL.out HX.out HK0.out, (HHE.out.below (Below.drew (Below.alloc (Below.alloc (Below.alloc (Below.refl wq.heap.size wq) (by simp) _) (by simp <;> omega) _) (by simp <;> omega) _))).put_car ⟨x1, r2, x3⟩ HO.out HG.out, (((HB.out.trans (HBq.out.mono (by omega))).trans (Below.mono (Below.drew (Below.alloc (Below.alloc (Below.alloc (Below.refl wq.heap.size wq) (by simp) _) (by simp <;> omega) _) (by simp <;> omega) _)) (by omega))).grown HG.out (by simp; omega) (fun q hq => (own_typed HHE.out.cars hq).2)).setCell (Nat.le_refl _) _⟩
              case measure => simp [intOf]; omega
      · refine zstep rfl (fun K hK => ?_)
        go_simp
        refine hK.out _ _ (fun _ => (by first | exact c0 | go_keep)) (fun hH => ?_)
        replace hH := hH (by decide)
        clear hK K
        (try simp only [Act.put, List.getElem_toArray, List.getElem_cons_succ, List.getElem_cons_zero, List.setIfInBounds_toArray, List.set_cons_zero, List.set_cons_succ])
        refine wpAnyZ_take (i := 17) (v := ?_) rfl (by kernel_rfl) (by kernel_rfl) (by kernel_rfl) rfl (by kernel_rfl) (fun _ _ _ h => h) (gives_value (by rfl) ?_) (by assumption) ?_
        rotate_left
        · intro w hSw
          (try dsimp only at hSw)
          go_simp
          (try with_reducible rfl)
        (try simp only [Act.put, List.getElem_toArray, List.getElem_cons_succ, List.getElem_cons_zero, List.setIfInBounds_toArray, List.set_cons_zero, List.set_cons_succ])
        refine wpAnyZ_two (i := 2) (j := 18) (by kernel_rfl) ?_ ?_
        · refine zstep rfl (fun K hK => ?_)
          go_simp
          refine hK.out _ _ (fun _ => (by first | exact c0 | go_keep)) (fun hH => ?_)
          replace hH := hH (by decide)
          clear hK K
          (try simp only [Act.put, List.getElem_toArray, List.getElem_cons_succ, List.getElem_cons_zero, List.setIfInBounds_toArray, List.set_cons_zero, List.set_cons_succ])
          refine wpAnyZ_take (i := 6) (v := ?_) rfl (by kernel_rfl) (by kernel_rfl) (by kernel_rfl) rfl (by kernel_rfl) (fun _ _ _ h => h) (gives_value (by rfl) ?_) (by assumption) ?_
          rotate_left
          · intro w hSw
            (try dsimp only at hSw)
            go_simp
            (try with_reducible rfl)
          (try simp only [Act.put, List.getElem_toArray, List.getElem_cons_succ, List.getElem_cons_zero, List.setIfInBounds_toArray, List.set_cons_zero, List.set_cons_succ])
          refine wpAnyZ_two (i := 7) (j := 18) (by kernel_rfl) ?_ ?_
          · refine zstep rfl (fun K hK => ?_)
            go_simp
            refine hK.out _ _ (fun _ => (by first | exact c0 | go_keep)) (fun hH => ?_)
            replace hH := hH (by decide)
            clear hK K
            (try simp only [Act.put, List.getElem_toArray, List.getElem_cons_succ, List.getElem_cons_zero, List.setIfInBounds_toArray, List.set_cons_zero, List.set_cons_succ])
            refine wpAnyZ_one (i := 18) (by kernel_rfl) ?_
            refine zstep rfl (fun K hK => ?_)
            go_simp
            refine hK.out _ _ (fun _ => (by first | exact c0 | go_keep)) (fun hH => ?_)
            replace hH := hH (by decide)
            clear hK K
            (try simp only [Act.put, List.getElem_toArray, List.getElem_cons_succ, List.getElem_cons_zero, List.setIfInBounds_toArray, List.set_cons_zero, List.set_cons_succ])
            as_aux_lemma =>
              refine wpAnyZ_take (i := 19) (v := ?_) rfl (by kernel_rfl) (by kernel_rfl) (by kernel_rfl) rfl (by kernel_rfl) (fun _ _ _ h => h) (gives_value (by rfl) ?_) (by assumption) ?_
              rotate_left
              · intro w hSw
                (try dsimp only at hSw)
                go_simp
                (try with_reducible rfl)
              (try simp only [Act.put, List.getElem_toArray, List.getElem_cons_succ, List.getElem_cons_zero, List.setIfInBounds_toArray, List.set_cons_zero, List.set_cons_succ])
              refine wpAnyZ_one (i := 20) (by kernel_rfl) ?_
              refine zstep rfl (fun K hK => ?_)
              go_simp
              refine hK.out _ _ (fun _ => (Below.cell (Below.drew (Below.alloc (Below.alloc (Below.alloc (Below.refl wq.heap.size wq) (by simp) _) (by simp <;> omega) _) (by simp <;> omega) _)) hI).trans c0) (fun hH => ?_)
              replace hH := hH (by decide)
              clear hK K
              (try simp only [Act.put, List.getElem_toArray, List.getElem_cons_succ, List.getElem_cons_zero, List.setIfInBounds_toArray, List.set_cons_zero, List.set_cons_succ])
              refine wpAnyZ_one (i := 21) (by kernel_rfl) ?_
              refine zstep rfl (fun K hK => ?_)
              refine step_append_any _ rfl (.tmp 33) (.tmp 52) 23 rfl (w.heap.size + 1) 52 i0 _ 3 24 Try.underlying23 hi hz0 hz1' hz2' rfl (by decide) (.slice ac nc cc) cs.length (carCells cs) (by rfl) (own_below HHE.out.cars (Below.drew (Below.alloc (Below.alloc (Below.alloc (Below.refl wq.heap.size wq) (by simp) _) (by simp <;> omega) _) (by simp <;> omega) _))) (wq.heap.size + 1 + 1 + 1) (some ⟨wq.heap.size + 1 + 1, 0, none⟩) 1 1 (ints [x1, r2, x3]) (by rfl) (Reads.drew (reads_at _ _ (by simp))) (ints_one _) (by have := HCL.out; unfold maxLen; omega) (by have := HCL.out; omega) (by simp; omega) ?_
              intro v' w2 hown' hgrow hob
              obtain ⟨ao, n', cap', rfl⟩ := own_slice hown'
              have hbx := (HHE.out.below (Below.drew (Below.alloc (Below.alloc (Below.alloc (Below.refl wq.heap.size wq) (by simp) _) (by simp <;> omega) _) (by simp <;> omega) _))).box_car hgrow
              have d0 : w2.cell? ⟨w.heap.size + 1, 0, none⟩ = some (.slice ac nc cc) := by rw [Lib.cell_of_heap hbx]; rfl
              have e0 : w2.frozen? ⟨w.heap.size + 1, 0, none⟩ = false := Lib.frozen_of_heap hbx 0
              have HO := Lib.hid hown'
              have HG := Lib.hid hgrow
              clear hown' hgrow hob hbx
              refine hK.out _ _ (fun _ => d0) (fun hH => ?_)
              replace hH := hH (by decide)
              clear hK K
              (try simp only [Act.put, List.getElem_toArray, List.getElem_cons_succ, List.getElem_cons_zero, List.setIfInBounds_toArray, List.set_cons_zero, List.set_cons_succ])
              refine wpAnyZ_take (i := 22) (v := ?_) rfl (by kernel_rfl) (by kernel_rfl) (by kernel_rfl) rfl (by kernel_rfl) (fun _ _ _ h => h) (gives_value (by rfl) ?_) (by assumption) ?_
              rotate_left
              · intro w hSw
                (try dsimp only at hSw)
                go_simp
                (try with_reducible rfl)
              (try simp only [Act.put, List.getElem_toArray, List.getElem_cons_succ, List.getElem_cons_zero, List.setIfInBounds_toArray, List.set_cons_zero, List.set_cons_succ])
              refine wpAnyZ_one (i := 23) (by kernel_rfl) ?_
              refine zstep rfl (fun K hK => ?_)
              go_simp
              refine hK.out _ _ (fun h => absurd rfl h) (fun hH => ?_)
              clear hK K hH
              (try simp only [Act.put, List.getElem_toArray, List.getElem_cons_succ, List.getElem_cons_zero, List.setIfInBounds_toArray, List.set_cons_zero, List.set_cons_succ])
              refine wpAnyZ_done (by kernel_rfl) ?_ _
              go_wp2
              go_roundw
              case rel => exact ⟨k + 1, cs ++ [⟨x1, r2, x3⟩], by omega, by go_num, by rw [List.length_append, HCL.out]; rfl, HCA.out.more HCL.out HX.out HK0.out, (HHE.out.below (Below.drew (Below.alloc (Below.alloc (Below.alloc (Below.refl wq.heap.size wq) (by simp) _) (by simp <;> omega) _) (by simp <;> omega) _))).put_car ⟨x1, r2, x3⟩ HO.out HG.out, (((HB.out.trans (HBq.out.mono (by omega))).trans (Below.mono (Below.drew (Below.alloc (Below.alloc (Below.alloc (Below.refl wq.heap.size wq) (by simp) _) (by simp <;> omega) _) (by simp <;> omega) _)) (by omega))).grown HG.out (by simp; omega) (fun q hq => (own_typed HHE.out.cars hq).2)).setCell (Nat.le_refl _) _⟩
              case measure => simp [intOf]; omega
          · refine zstep rfl (fun K hK => ?_)
            go_simp
            refine hK.out _ _ (fun _ => (by first | exact c0 | go_keep)) (fun hH => ?_)
            replace hH := hH (by decide)
            clear hK K
            (try simp only [Act.put, List.getElem_toArray, List.getElem_cons_succ, List.getElem_cons_zero, List.setIfInBounds_toArray, List.set_cons_zero, List.set_cons_succ])
            refine wpAnyZ_one (i := 7) (by kernel_rfl) ?_
            refine zstep rfl (fun K hK => ?_)
            go_simp
            refine hK.out _ _ (fun _ => (by first | exact c0 | go_keep)) (fun hH => ?_)
            replace hH := hH (by decide)
            clear hK K
            (try simp only [Act.put, List.getElem_toArray, List.getElem_cons_succ, List.getElem_cons_zero, List.setIfInBounds_toArray, List.set_cons_zero, List.set_cons_succ])
            as_aux_lemma =>
              refine wpAnyZ_take (i := 19) (v := ?_) rfl (by kernel_rfl) (by kernel_rfl) (by kernel_rfl) rfl (by kernel_rfl) (fun _ _ _ h => h) (gives_value (by rfl) ?_) (by assumption) ?_
              rotate_left
              · intro w hSw
                (try dsimp only at hSw)
                go_simp
                (try with_reducible rfl)
              (try simp only [Act.put, List.getElem_toArray, List.getElem_cons_succ, List.getElem_cons_zero, List.setIfInBounds_toArray, List.set_cons_zero, List.set_cons_succ])
              refine wpAnyZ_one (i := 20) (by kernel_rfl) ?_
              refine zstep rfl (fun K hK => ?_)
              go_simp
              refine hK.out _ _ (fun _ => (Below.cell (Below.drew (Below.alloc (Below.alloc (Below.alloc (Below.refl wq.heap.size wq) (by simp) _) (by simp <;> omega) _) (by simp <;> omega) _)) hI).trans c0) (fun hH => ?_)
              replace hH := hH (by decide)
              clear hK K
              (try simp only [Act.put, List.getElem_toArray, List.getElem_cons_succ, List.getElem_cons_zero, List.setIfInBounds_toArray, List.set_cons_zero, List.set_cons_succ])
              refine wpAnyZ_one (i := 21) (by kernel_rfl) ?_
              refine zstep rfl (fun K hK => ?_)
              refine step_append_any _ rfl (.tmp 33) (.tmp 52) 23 rfl (w.heap.size + 1) 52 i0 _ 3 24 Try.underlying23 hi hz0 hz1' hz2' rfl (by decide) (.slice ac nc cc) cs.length (carCells cs) (by rfl) (own_below HHE.out.cars (Below.drew (Below.alloc (Below.alloc (Below.alloc (Below.refl wq.heap.size wq) (by simp) _) (by simp <;> omega) _) (by simp <;> omega) _))) (wq.heap.size + 1 + 1 + 1) (some ⟨wq.heap.size + 1 + 1, 0, none⟩) 1 1 (ints [x1, r2, x3]) (by rfl) (Reads.drew (reads_at _ _ (by simp))) (ints_one _) (by have := HCL.out; unfold maxLen; omega) (by have := HCL.out; omega) (by simp; omega) ?_
              intro v' w2 hown' hgrow hob
              obtain ⟨ao, n', cap', rfl⟩ := own_slice hown'
              have hbx := (HHE.out.below (Below.drew (Below.alloc (Below.alloc (Below.alloc (Below.refl wq.heap.size wq) (by simp) _) (by simp <;> omega) _) (by simp <;> omega) _))).box_car hgrow
              have d0 : w2.cell? ⟨w.heap.size + 1, 0, none⟩ = some (.slice ac nc cc) := by rw [Lib.cell_of_heap hbx]; rfl
              have e0 : w2.frozen? ⟨w.heap.size + 1, 0, none⟩ = false := Lib.frozen_of_heap hbx 0
              have HO := Lib.hid hown'
              have HG := Lib.hid hgrow
              clear hown' hgrow hob hbx
              refine hK.out _ _ (fun _ => d0) (fun hH => ?_)
              replace hH := hH (by decide)
              clear hK K
              (try simp only [Act.put, List.getElem_toArray, List.getElem_cons_succ, List.getElem_cons_zero, List.setIfInBounds_toArray, List.set_cons_zero, List.set_cons_succ])
              refine wpAnyZ_take (i := 22) (v := ?_) rfl (by kernel_rfl) (by kernel_rfl) (by kernel_rfl) rfl (by kernel_rfl) (fun _ _ _ h => h) (gives_value (by rfl) ?_) (by assumption) ?_
              rotate_left
              · intro w hSw
                (try dsimp only at hSw)
                go_simp
                (try with_reducible rfl)
              (try simp only [Act.put, List.getElem_toArray, List.getElem_cons_succ, List.getElem_cons_zero, List.setIfInBounds_toArray, List.set_cons_zero, List.set_cons_succ])
              refine wpAnyZ_one (i := 23) (by kernel_rfl) ?_
              refine zstep rfl (fun K hK => ?_)
              go_simp
              refine hK.out _ _ (fun h => absurd rfl h) (fun hH => ?_)
              clear hK K hH
              (try simp only [Act.put, List.getElem_toArray, List.getElem_cons_succ, List.getElem_cons_zero, List.setIfInBounds_toArray, List.set_cons_zero, List.set_cons_succ])
              refine wpAnyZ_done (by kernel_rfl) ?_ _
              go_wp2
              go_roundw
              case rel => exact ⟨k + 1, cs ++ [⟨x1, r2, x3⟩], by omega, by go_num, by rw [List.length_append, HCL.out]; rfl, HCA.out.more HCL.out HX.out HK0.out, (HHE.out.below (Below.drew (Below.alloc (Below.alloc (Below.alloc (Below.refl wq.heap.size wq) (by simp) _) (by simp <;> omega) _) (by simp <;> omega) _))).put_car ⟨x1, r2, x3⟩ HO.out HG.out, (((HB.out.trans (HBq.out.mono (by omega))).trans (Below.mono (Below.drew (Below.alloc (Below.alloc (Below.alloc (Below.refl wq.heap.size wq) (by simp) _) (by simp <;> omega) _) (by simp <;> omega) _)) (by omega))).grown HG.out (by simp; omega) (fun q hq => (own_typed HHE.out.cars hq).2)).setCell (Nat.le_refl _) _⟩
              case measure => simp [intOf]; omega
        · refine zstep rfl (fun K hK => ?_)
          go_simp
          refine hK.out _ _ (fun _ => (by first | exact c0 | go_keep)) (fun hH => ?_)
          replace hH := hH (by decide)
          clear hK K
          (try simp only [Act.put, List.getElem_toArray, List.getElem_cons_succ, List.getElem_cons_zero, List.setIfInBounds_toArray, List.set_cons_zero, List.set_cons_succ])
          refine wpAnyZ_one (i := 2) (by kernel_rfl) ?_
          refine zstep rfl (fun K hK => ?_)
          go_simp
          refine hK.out _ _ (fun _ => (by first | exact c0 | go_keep)) (fun hH => ?_)
          replace hH := hH (by decide)
          clear hK K
          (try simp only [Act.put, List.getElem_toArray, List.getElem_cons_succ, List.getElem_cons_zero, List.setIfInBounds_toArray, List.set_cons_zero, List.set_cons_succ])
          refine wpAnyZ_take (i := 6) (v := ?_) rfl (by kernel_rfl) (by kernel_rfl) (by kernel_rfl) rfl (by kernel_rfl) (fun _ _ _ h => h) (gives_value (by rfl) ?_) (by assumption) ?_
          rotate_left
          · intro w hSw
            (try dsimp only at hSw)
            go_simp
            (try with_reducible rfl)
          (try simp only [Act.put, List.getElem_toArray, List.getElem_cons_succ, List.getElem_cons_zero, List.setIfInBounds_toArray, List.set_cons_zero, List.set_cons_succ])
          refine wpAnyZ_one (i := 7) (by kernel_rfl) ?_
          refine zstep rfl (fun K hK => ?_)
          go_simp
          refine hK.out _ _ (fun _ => (by first | exact c0 | go_keep)) (fun hH => ?_)
          replace hH := hH (by decide)
          clear hK K
          (try simp only [Act.put, List.getElem_toArray, List.getElem_cons_succ, List.getElem_cons_zero, List.setIfInBounds_toArray, List.set_cons_zero, List.set_cons_succ])
          as_aux_lemma =>
            refine wpAnyZ_take (i := 19) (v := ?_) rfl (by kernel_rfl) (by kernel_rfl) (by kernel_rfl) rfl (by kernel_rfl) (fun _ _ _ h => h) (gives_value (by rfl) ?_) (by assumption) ?_
            rotate_left
            · intro w hSw
              (try dsimp only at hSw)
              go_simp
              (try with_reducible rfl)
            (try simp only [Act.put, List.getElem_toArray, List.getElem_cons_succ, List.getElem_cons_zero, List.setIfInBounds_toArray, List.set_cons_zero, List.set_cons_succ])
            refine wpAnyZ_one (i := 20) (by kernel_rfl) ?_
            refine zstep rfl (fun K hK => ?_)
            go_simp
            refine hK.out _ _ (fun _ => (Below.cell (Below.drew (Below.alloc (Below.alloc (Below.alloc (Below.refl wq.heap.size wq) (by simp) _) (by simp <;> omega) _) (by simp <;> omega) _)) hI).trans c0) (fun hH => ?_)
            replace hH := hH (by decide)
            clear hK K
            (try simp only [Act.put, List.getElem_toArray, List.getElem_cons_succ, List.getElem_cons_zero, List.setIfInBounds_toArray, List.set_cons_zero, List.set_cons_succ])
            refine wpAnyZ_one (i := 21) (by kernel_rfl) ?_
            refine zstep rfl (fun K hK => ?_)
            refine step_append_any _ rfl (.tmp 33) (.tmp 52) 23 rfl (w.heap.size + 1) 52 i0 _ 3 24 Try.underlying23 hi hz0 hz1' hz2' rfl (by decide) (.slice ac nc cc) cs.length (carCells cs) (by rfl) (own_below HHE.out.cars (Below.drew (Below.alloc (Below.alloc (Below.alloc (Below.refl wq.heap.size wq) (by simp) _) (by simp <;> omega) _) (by simp <;> omega) _))) (wq.heap.size + 1 + 1 + 1) (some ⟨wq.heap.size + 1 + 1, 0, none⟩) 1 1 (ints [x1, r2, x3]) (by rfl) (Reads.drew (reads_at _ _ (by simp))) (ints_one _) (by have := HCL.out; unfold maxLen; omega) (by have := HCL.out; omega) (by simp; omega) ?_
            intro v' w2 hown' hgrow hob
            obtain ⟨ao, n', cap', rfl⟩ := own_slice hown'
            have hbx := (HHE.out.below (Below.drew (Below.alloc (Below.alloc (Below.alloc (Below.refl wq.heap.size wq) (by simp) _) (by simp <;> omega) _) (by simp <;> omega) _))).box_car hgrow
            have d0 : w2.cell? ⟨w.heap.size + 1, 0, none⟩ = some (.slice ac nc cc) := by rw [Lib.cell_of_heap hbx]; rfl
            have e0 : w2.frozen? ⟨w.heap.size + 1, 0, none⟩ = false := Lib.frozen_of_heap hbx 0
            have HO := Lib.hid hown'
            have HG := Lib.hid hgrow
            clear hown' hgrow hob hbx
            refine hK.out _ _ (fun _ => d0) (fun hH => ?_)
            replace hH := hH (by decide)
            clear hK K
            (try simp only [Act.put, List.getElem_toArray, List.getElem_cons_succ, List.getElem_cons_zero, List.setIfInBounds_toArray, List.set_cons_zero, List.set_cons_succ])
            refine wpAnyZ_take (i := 22) (v := ?_) rfl (by kernel_rfl) (by kernel_rfl) (by kernel_rfl) rfl (by kernel_rfl) (fun _ _ _ h => h) (gives_value (by rfl) ?_) (by assumption) ?_
            rotate_left
            · intro w hSw
              (try dsimp only at hSw)
              go_simp
              (try with_reducible rfl)
            (try simp only [Act.put, List.getElem_toArray, List.getElem_cons_succ, List.getElem_cons_zero, List.setIfInBounds_toArray, List.set_cons_zero, List.set_cons_succ])
            refine wpAnyZ_one (i := 23) (by kernel_rfl) ?_
            refine zstep rfl (fun K hK => ?_)
            go_simp
            refine hK.out _ _ (fun h => absurd rfl h) (fun hH => ?_)
            clear hK K hH
            (try simp only [Act.put, List.getElem_toArray, List.getElem_cons_succ, List.getElem_cons_zero, List.setIfInBounds_toArray, List.set_cons_zero, List.set_cons_succ])
            refine wpAnyZ_done (by kernel_rfl) ?_ _
            go_wp2
            go_roundw
            case rel => exact ⟨k + 1, cs ++ [⟨x1, r2, x3⟩], by omega, by go_num, by rw [List.length_append, HCL.out]; rfl, HCA.out.more HCL.out HX.out HK0.out, (HHE.out.below (Below.drew (Below.alloc (Below.alloc (Below.alloc (Below.refl wq.heap.size wq) (by simp) _) (by simp <;> omega) _) (by simp <;> omega) _))).put_car ⟨x1, r2, x3⟩ HO.out HG.out, (((HB.out.trans (HBq.out.mono (by omega))).trans (Below.mono (Below.drew (Below.alloc (Below.alloc (Below.alloc (Below.refl wq.heap.size wq) (by simp) _) (by simp <;> omega) _) (by simp <;> omega) _)) (by omega))).grown HG.out (by simp; omega) (fun q hq => (own_typed HHE.out.cars hq).2)).setCell (Nat.le_refl _) _⟩
            case measure => simp [intOf]; omega
    · have hk1 : 1 ≤ k := by omega
      have hcs1 : 1 ≤ cs.length := by have := HCL.out; omega
      have hcs3 : cs.length ≤ 3 := by have := HCL.out; omega
      have t1 : decide ((k : Int) < 1 + (r0 : Int)) = false := by simp; omega
      clear HR0
      go_wp2_with (go_at_call 28; fail)
      (with_reducible refine (num_lit 4 v l 4 _ rfl ((HL.out.below HW.out).drawn m0) (by omega) hl).mono ?_)
      rintro e w3 ⟨n4, m1, rfl, hf1, rfl⟩
      obtain ⟨r4, hr4, hr4l⟩ := within_nat n4 7 (by omega)
      have HR4 := Lib.hid (fun W => within_call n4 7 W (by omega) (by omega) _ hr4)
      have HQ4 : Hid (withinI (numF l 4) 7 = (r4 : Int)) := by show _ = _; rw [← hf1.2]; exact hr4
      have HKR : Hid (¬ cs.length < 1 + r0) := by show ¬ _; rw [HCL.out]; exact hlt
      clear hr4
      go_wp2_with (go_at_call 11; fail)
      (with_reducible refine (HR4.out _).mono ?_)
      rintro e w4 ⟨rfl, rfl⟩
      go_wp2
      generalize hwq : wr.drewN (m0 + m1) = wq
      have HBq : Hid (Below wr.heap.size wr wq) := by show Below _ _ _; rw [← hwq]; exact below_draws' (Below.refl _ _) _
      have HHq := Lib.hid (HH.out.below HBq.out)
      have HB2 := Lib.hid (HB.out.trans (HBq.out.mono (by omega)))
      have HW2 := Lib.hid (HW.out.trans (HBq.out.mono (by omega)))
      clear hwq HH HB HW HBq HR4
      go_loopw [8] (fun kv wr => ∃ (k2 : Nat) (st : List Stop), k2 ≤ 2 + r4 ∧ kv = .int .i64 k2 ∧ st.length = k2 ∧ StopsTo l st ∧ HeldSome wr (w.heap.size + 1) (w.heap.size + 1) ⟨cs, st, [], []⟩ ∧ Below (w.heap.size + 1) W0 wr) (fun kv _ => 2 + r4 - (intOf kv).toNat)
      case atStart => exact ⟨0, [], by omega, rfl, rfl, ⟨rfl, rfl⟩, HHq.out, HB2.out⟩
      case round =>
        obtain ⟨k2, st, hk2, rfl, hsl, hsa, hh, hb⟩ := hrel
        have HH := Lib.hid hh
        have HB := Lib.hid hb
        have HSL := Lib.hid hsl
        have HSA := Lib.hid hsa
        have HW : Hid (Below w.heap.size w wr) := HB0.out.trans (hb.mono (by omega))
        have zr' := hb.size
        clear hh hb hsl hsa
        by_cases hlt2 : k2 < 2 + r4
        · have t2 : ((k2 : Int) < 2 + (r4 : Int)) := by omega
          go_wp2_with (go_at_call 28; fail)
          (with_reducible refine (num_lit (5 + (k2 : Int)) v l (5 + k2) _ (by omega) (HL.out.below HW.out) (by omega) hl).mono ?_)
          rintro e wq ⟨n, m2, rfl, hf2, hw5⟩
          have HBq : Hid (Below wr.heap.size wr wq) := by show Below _ _ _; rw [hw5]; exact below_draws' (Below.refl _ _) _
          have zq := HBq.out.size
          clear hw5
          obtain ⟨a1, ha1, ha1l⟩ := within_nat n 8 (by omega)
          have HA1 := Lib.hid (fun W => within_call n 8 W (by omega) (by omega) _ ha1)
          have HNF := Lib.hid hf2.2
          have HQ1 : Hid ((a1 : Int) = withinI (numF l (5 + k2)) 8) := by show _ = _; rw [← HNF.out]; exact ha1.symm
          clear ha1
          go_wp2_with (go_at_call 11; fail)
          (with_reducible refine (HA1.out _).mono ?_)
          rintro e w6 ⟨rfl, rfl⟩
          as_aux_lemma =>
            obtain ⟨a2, ha2, ha2l⟩ := within_nat (wrap64 (n.tdiv 8)) 30 (by omega)
            have HA2 := Lib.hid (fun W => within_call _ 30 W (by omega) (by omega) _ ha2)
            have HQ2 : Hid ((a2 : Int) = withinI (wrap64 ((numF l (5 + k2)).tdiv 8)) 30) := by show _ = _; rw [← HNF.out]; exact ha2.symm
            obtain ⟨a3, ha3, ha3l⟩ := within_nat (wrap64 (n.tdiv 240)) 6 (by omega)
            have HA3 := Lib.hid (fun W => within_call _ 6 W (by omega) (by omega) _ ha3)
            have HQ3 : Hid ((a3 : Int) = withinI (wrap64 ((numF l (5 + k2)).tdiv 240)) 6) := by show _ = _; rw [← HNF.out]; exact ha3.symm
            obtain ⟨r7, hr7, hr7l⟩ := within_nat (IntKind.i64.wrap (n.tdiv 7)) 4 (by omega)
            obtain ⟨y, hy, hyb, hyq⟩ := spans_at r7 hr7l
            have HQC : Hid ((a2 : Int) + y = withinI (wrap64 ((numF l (5 + k2)).tdiv 8)) 30 + spansF (withinI (IntKind.i64.wrap ((numF l (5 + k2)).tdiv 7)) 4).toNat) := by show _ = _; have h7 : withinI (IntKind.i64.wrap (n.tdiv 7)) 4 = (r7 : Int) := hr7; rw [← HQ2.out, ← HNF.out, h7, Int.toNat_natCast, hyq]
            clear ha2 ha3 hyq
            go_wp2_with (go_at_call 11; fail)
            (with_reducible refine (HA2.out _).mono ?_)
            rintro e w6 ⟨rfl, rfl⟩
            go_wp2_with (go_at_call 11; fail)
            (with_reducible refine (HA3.out _).mono ?_)
            rintro e w6 ⟨rfl, rfl⟩
            go_wp2
            have q1 : (0 : Int) ≤ (r7 : Int) := by omega
            have q2 : (r7 : Int) < 4 := by omega
            have q3 : (r7 : Int).toNat = r7 := by omega
            have q7 : IntKind.i64.wrap ((a2 : Int) + y) = (a2 : Int) + y := IntWalk.i64_in _ (by omega)
            generalize hWs : wq.alloc (.cells #[.int .i64 (a1 : Nat), .int .i64 (a2 : Nat), .int .i64 0, .int .i64 (a3 : Nat)] 48) = ws
            have s0 : ws.cell? ⟨wq.heap.size, 0, none⟩ = some (.int .i64 (a1 : Nat)) := by rw [← hWs]; simp
            have s1 : ws.cell? ⟨wq.heap.size, 1, none⟩ = some (.int .i64 (a2 : Nat)) := by rw [← hWs]; simp
            have s2 : ws.cell? ⟨wq.heap.size, 2, none⟩ = some (.int .i64 0) := by rw [← hWs]; simp
            have s3 : ws.cell? ⟨wq.heap.size, 3, none⟩ = some (.int .i64 (a3 : Nat)) := by rw [← hWs]; simp
            have f2 : ws.frozen? ⟨wq.heap.size, 2, none⟩ = false := by rw [← hWs]; simp
            have f0 : ws.frozen? ⟨wq.heap.size, 0, none⟩ = false := by rw [← hWs]; simp
            have hzs : wq.heap.size < ws.heap.size := by rw [← hWs]; simp
            have HBs : Hid (Below wq.heap.size wq ws) := by show Below _ _ _; rw [← hWs]; exact (Below.refl _ _).alloc (Nat.le_refl _) _
            have HFR : Hid (∀ j, j < 4 → ws.frozen? ⟨wq.heap.size, j, none⟩ = false) := by intro j hj; rw [← hWs]; simp
            clear hWs
            refine wp_region_z (S := (fun w' => w'.cell? ⟨wq.heap.size, 1, none⟩ = some (.int .i64 (a2 : Nat)))) (z := 12) (by kernel_rfl) s1 (fun hH => ?_)
            refine wpAnyZ_take (i := 0) (v := ?_) rfl (by kernel_rfl) (by kernel_rfl) (by kernel_rfl) rfl (by kernel_rfl) (fun _ _ _ h => h) (gives_value (by rfl) ?_) (by assumption) ?_
            rotate_left
            · intro w hSw
              (try dsimp only at hSw)
              go_simp
              (try with_reducible rfl)
            (try simp only [Act.put, List.getElem_toArray, List.getElem_cons_succ, List.getElem_cons_zero, List.setIfInBounds_toArray, List.set_cons_zero, List.set_cons_succ])
            refine wpAnyZ_take (i := 1) (v := ?_) rfl (by kernel_rfl) (by kernel_rfl) (by kernel_rfl) rfl (by kernel_rfl) (fun _ _ _ h => h) (gives_value (by rfl) ?_) (by assumption) ?_
            rotate_left
            · intro w hSw
              (try dsimp only at hSw)
              go_simp
              (try with_reducible rfl)
            (try simp only [Act.put, List.getElem_toArray, List.getElem_cons_succ, List.getElem_cons_zero, List.setIfInBounds_toArray, List.set_cons_zero, List.set_cons_succ])
            refine wpAnyZ_take (i := 3) (v := ?_) rfl (by kernel_rfl) (by kernel_rfl) (by kernel_rfl) rfl (by kernel_rfl) (fun _ _ _ h => h) (gives_value (by rfl) ?_) (by assumption) ?_
            rotate_left
            · intro w hSw
              (try dsimp only at hSw)
              go_simp
              (try with_reducible rfl)
            (try simp only [Act.put, List.getElem_toArray, List.getElem_cons_succ, List.getElem_cons_zero, List.setIfInBounds_toArray, List.set_cons_zero, List.set_cons_succ])
            refine wpAnyZ_take (i := 4) (v := ?_) rfl (by kernel_rfl) (by kernel_rfl) (by kernel_rfl) rfl (by kernel_rfl) (fun _ _ _ h => h) (gives_value (by rfl) ?_) (by assumption) ?_
            rotate_left
            · intro w hSw
              (try dsimp only at hSw)
              go_simp
              (try with_reducible rfl)
            (try simp only [Act.put, List.getElem_toArray, List.getElem_cons_succ, List.getElem_cons_zero, List.setIfInBounds_toArray, List.set_cons_zero, List.set_cons_succ])
            refine wpAnyZ_take (i := 5) (v := ?_) rfl (by kernel_rfl) (by kernel_rfl) (by kernel_rfl) rfl (by kernel_rfl) (fun _ _ _ h => h) (gives_value (by rfl) ?_) (by assumption) ?_
            rotate_left
            · intro w hSw
              (try dsimp only at hSw)
              go_simp
              (try with_reducible rfl)
            (try simp only [Act.put, List.getElem_toArray, List.getElem_cons_succ, List.getElem_cons_zero, List.setIfInBounds_toArray, List.set_cons_zero, List.set_cons_succ])
            refine wpAnyZ_take (i := 6) (v := .int .i64 (r7 : Nat)) rfl (by kernel_rfl) (by kernel_rfl) (by kernel_rfl) rfl (by kernel_rfl) (fun _ _ _ h => h) (gives_call (by rfl) ?_ (fun w _ => within_call _ 4 w (by omega) (by omega) _ hr7)) (by assumption) ?_
            · intro w
              go_simp
              (try with_reducible rfl)
            (try simp only [Act.put, List.getElem_toArray, List.getElem_cons_succ, List.getElem_cons_zero, List.setIfInBounds_toArray, List.set_cons_zero, List.set_cons_succ])
            refine wpAnyZ_one (i := 2) (by kernel_rfl) ?_
            refine zstep rfl (fun K hK => ?_)
            go_simp
            refine hK.out _ _ (fun _ => ((Below.cell (Below.drew (Below.alloc (Below.refl ws.heap.size ws) (by simp) _)) hzs).trans s1)) (fun hH => ?_)
            replace hH := hH (by decide)
            clear hK K
            (try simp only [Act.put, List.getElem_toArray, List.getElem_cons_succ, List.getElem_cons_zero, List.setIfInBounds_toArray, List.set_cons_zero, List.set_cons_succ])
            refine wpAnyZ_take (i := 7) (v := ?_) rfl (by kernel_rfl) (by kernel_rfl) (by kernel_rfl) rfl (by kernel_rfl) (fun _ _ _ h => h) (gives_value (by rfl) ?_) (by assumption) ?_
            rotate_left
            · intro w hSw
              (try dsimp only at hSw)
              go_simp
              (try with_reducible rfl)
            (try simp only [Act.put, List.getElem_toArray, List.getElem_cons_succ, List.getElem_cons_zero, List.setIfInBounds_toArray, List.set_cons_zero, List.set_cons_succ])
            refine wpAnyZ_one (i := 8) (by kernel_rfl) ?_
            refine zstep rfl (fun K hK => ?_)
            go_simp
            refine hK.out _ _ (fun _ => ((Below.cell (Below.drew (Below.alloc (Below.refl ws.heap.size ws) (by simp) _)) hzs).trans s1)) (fun hH => ?_)
            replace hH := hH (by decide)
            clear hK K
            (try simp only [Act.put, List.getElem_toArray, List.getElem_cons_succ, List.getElem_cons_zero, List.setIfInBounds_toArray, List.set_cons_zero, List.set_cons_succ])
            refine wpAnyZ_take (i := 9) (v := ?_) rfl (by kernel_rfl) (by kernel_rfl) (by kernel_rfl) rfl (by kernel_rfl) (fun _ _ _ h => h) (gives_value (by rfl) ?_) (by assumption) ?_
            rotate_left
            · intro w hSw
              (try dsimp only at hSw)
              go_simp
              (try with_reducible rfl)
            (try simp only [Act.put, List.getElem_toArray, List.getElem_cons_succ, List.getElem_cons_zero, List.setIfInBounds_toArray, List.set_cons_zero, List.set_cons_succ])
            refine wpAnyZ_take (i := 10) (v := ?_) rfl (by kernel_rfl) (by kernel_rfl) (by kernel_rfl) rfl (by kernel_rfl) (fun _ _ _ h => h) (gives_value (by rfl) ?_) (by assumption) ?_
            rotate_left
            · intro w hSw
              (try dsimp only at hSw)
              go_simp
              (try with_reducible rfl)
            (try simp only [Act.put, List.getElem_toArray, List.getElem_cons_succ, List.getElem_cons_zero, List.setIfInBounds_toArray, List.set_cons_zero, List.set_cons_succ])
            refine wpAnyZ_take (i := 11) (v := ?_) rfl (by kernel_rfl) (by kernel_rfl) (by kernel_rfl) rfl (by kernel_rfl) (fun _ _ _ h => h) (gives_value (by rfl) ?_) (by assumption) ?_
            rotate_left
            · intro w hSw
              (try dsimp only at hSw)
              go_simp
              (try with_reducible rfl)
            (try simp only [Act.put, List.getElem_toArray, List.getElem_cons_succ, List.getElem_cons_zero, List.setIfInBounds_toArray, List.set_cons_zero, List.set_cons_succ])
            refine wpAnyZ_one (i := 12) (by kernel_rfl) ?_
            refine zstep rfl (fun K hK => ?_)
            go_simp
            refine hK.out _ _ (fun h => absurd rfl h) (fun hH => ?_)
            clear hK K hH
            (try simp only [Act.put, List.getElem_toArray, List.getElem_cons_succ, List.getElem_cons_zero, List.setIfInBounds_toArray, List.set_cons_zero, List.set_cons_succ])
            refine wpAnyZ_done (by kernel_rfl) ?_ _
            rw [show (if (1000 : Int) < (a2 : Int) + y then (1000 : Int) else (a2 : Int) + y) = (a2 : Int) + y from if_neg (by omega)]
            generalize hWt : ((ws.setCell ⟨wq.heap.size, 2, none⟩ (.int .i64 ((a2 : Int) + y))).alloc (.cells #[.int .i64 900, .int .i64 60, .int .i64 25, .int .i64 8] 3)).drew = wt
            have BT : Hid (Blk wt wq.heap.size (ints [(a1 : Int), (a2 : Int), ((a2 : Int) + y), (a3 : Int)])) := by
              show Blk _ _ _
              rw [← hWt]
              exact ((blk4 hzs s0 s1 s2 s3 HFR.out).set (k := 2) (by simp [ints]) _).alloc _
            have HBt : Hid (Below wq.heap.size wq wt) := by show Below _ _ _; rw [← hWt]; exact (((HBs.out.setCell (p := ⟨wq.heap.size, 2, none⟩) (Nat.le_refl _) _).alloc (by simp; omega) _)).drew
            have hzt : wq.heap.size < wt.heap.size := BT.out.1
            have hcl : (a2 : Int) ≤ ((a2 : Int) + y) ∧ ((a2 : Int) + y) ≤ 1000 := by omega
            generalize ((a2 : Int) + y) = cl at *
            clear hWt s0 s1 s2 s3 f0 f2 HBs hzs q7 hy hr7 HFR
            obtain ⟨r9, hr9, hr9l⟩ := within_nat n 9 (by omega)
            have HA9 := Lib.hid (fun W => within_call n 9 W (by omega) (by omega) _ hr9)
            have HQ9 : Hid (withinI (numF l (5 + k2)) 9 = (r9 : Int)) := by show _ = _; rw [← HNF.out]; exact hr9
            obtain ⟨r10, hr10, hr10l⟩ := within_nat (wrap64 (n.tdiv 9)) 4 (by omega)
            have HA10 := Lib.hid (fun W => within_call _ 4 W (by omega) (by omega) _ hr10)
            have HQ10 : Hid (withinI (wrap64 ((numF l (5 + k2)).tdiv 9)) 4 = (r10 : Int)) := by show _ = _; rw [← HNF.out]; exact hr10
            clear hr9 hr10
            go_wp2_with (go_at_call 11; fail)
            (with_reducible refine (HA9.out _).mono ?_)
            rintro e w6 ⟨rfl, rfl⟩
            by_cases h8 : r9 = 8
            · subst h8
              have g0 := (BT.out.2 0 (by simp [ints])).1
              have gf := (BT.out.2 0 (by simp [ints])).2
              simp only [ints, List.map_cons, List.map_nil, List.getElem_cons_zero] at g0
              go_wp2_with (go_at_call 11; fail)
              (with_reducible refine (HA10.out _).mono ?_)
              rintro e w6 ⟨rfl, rfl⟩
              go_upto_region 17 with (fail)
              clear g0 gf
              generalize hWu : wt.setCell ⟨wq.heap.size, 0, none⟩ (.int .i64 (-1 - (r10 : Int))) = wu at *
              have BU : Hid (Blk wu wq.heap.size (ints [-1 - (r10 : Int), (a2 : Int), cl, (a3 : Int)])) := by show Blk _ _ _; rw [← hWu]; exact (BT.out.set (k := 0) (by simp [ints]) _)
              have HBu : Hid (Below wq.heap.size wq wu) := by show Below _ _ _; rw [← hWu]; exact (HBt.out.setCell (p := ⟨wq.heap.size, 0, none⟩) (Nat.le_refl _) _)
              have HST : Hid (stopOk ⟨-1 - (r10 : Int), a2, cl, a3⟩ = true ∧ ⟨-1 - (r10 : Int), a2, cl, a3⟩ = stopF l k2) := ⟨by simp only [stopOk, inB, Bool.and_eq_true, decide_eq_true_eq]; omega, stopF_eq HQ2.out HQC.out HQ3.out (by rw [if_pos (by rw [HQ9.out]; rfl), HQ10.out])⟩
              clear hWu BT HBt hzt HA9 HA10
              generalize (-1 - (r10 : Int) : Int) = dm at *
              have b0 := (BU.out.2 0 (by simp [ints])).1
              have b1 := (BU.out.2 1 (by simp [ints])).1
              have b2 := (BU.out.2 2 (by simp [ints])).1
              have b3 := (BU.out.2 3 (by simp [ints])).1
              simp only [ints, List.map_cons, List.map_nil, List.getElem_cons_zero, List.getElem_cons_succ] at b0 b1 b2 b3
              obtain ⟨vc, vs, vp, vt, us, hheld⟩ := HH.out
              replace hheld := (hheld.below HBq.out).below HBu.out
              have HHE := Lib.hid hheld
              obtain ⟨as', ns, cs', rfl⟩ := own_slice hheld.stops
              have c1 : wu.cell? ⟨w.heap.size + 1, 1, none⟩ = some (.slice as' ns cs') := by rw [Lib.cell_of_heap hheld.box]; rfl
              have hI : w.heap.size + 1 < wu.heap.size := (Array.getElem?_eq_some_iff.1 hheld.box).1
              clear hheld
              obtain ⟨j0, hj, hjz, hj1, hj2⟩ := info_parts stop_info
              go_wp2_with (at_builtin; refine wpList_append_any _ rfl _ _ 24 rfl (w.heap.size + 1) 48 j0 _ 4 32 Try.underlying24 hj hjz hj1 hj2 rfl (by decide) (.slice as' ns cs') st.length (stopCells st) rfl (own_below HHE.out.stops ((Below.refl _ _).alloc (Nat.le_refl _) _)) (wu.heap.size + 1) (some ⟨wu.heap.size, 0, none⟩) 1 1 (ints [dm, (a2 : Int), cl, (a3 : Int)]) rfl (reads_at _ _ rfl) (ints_one _) (by have := HSL.out; unfold maxLen; omega) (by have := HSL.out; omega) (by simp; omega) ?_)
              intro v' w2 hown' hgrow hob
              obtain ⟨ao, n', cap', rfl⟩ := own_slice hown'
              have hbx := (HHE.out.below ((Below.refl _ _).alloc (Nat.le_refl _) _)).box_stop hgrow
              have d0 : w2.cell? ⟨w.heap.size + 1, 1, none⟩ = some (.slice as' ns cs') := by rw [Lib.cell_of_heap hbx]; rfl
              have e0 : w2.frozen? ⟨w.heap.size + 1, 1, none⟩ = false := Lib.frozen_of_heap hbx 1
              have HO := Lib.hid hown'
              have HG := Lib.hid hgrow
              clear hown' hgrow hob hbx c1 b0 b1 b2 b3
              go_wp2
              go_roundw
              case rel => exact ⟨k2 + 1, st ++ [⟨dm, a2, cl, a3⟩], by omega, by go_num, by rw [List.length_append, HSL.out]; rfl, HSA.out.more HSL.out HST.out, (HHE.out.below ((Below.refl _ _).alloc (Nat.le_refl _) _)).put_stop ⟨dm, a2, cl, a3⟩ HO.out HG.out, ((((HB.out.trans (HBq.out.mono (by omega))).trans (HBu.out.mono (by omega))).alloc (by omega) _).grown HG.out (by simp; omega) (fun q hq => (own_typed HHE.out.stops hq).2)).setCell (Nat.le_refl _) _⟩
              case measure => simp [intOf]; omega
            · have t8 : ((r9 : Int) == 8) = false := by simp; omega
              have t9 : (r9 == 8) = false := by simp; omega
              go_upto_region 17 with (fail)
              generalize hWu : wt = wu at *
              have BU : Hid (Blk wu wq.heap.size (ints [(a1 : Int), (a2 : Int), cl, (a3 : Int)])) := by show Blk _ _ _; exact BT.out
              have HBu : Hid (Below wq.heap.size wq wu) := by show Below _ _ _; exact HBt.out
              have HST : Hid (stopOk ⟨(a1 : Int), a2, cl, a3⟩ = true ∧ ⟨(a1 : Int), a2, cl, a3⟩ = stopF l k2) := ⟨by simp only [stopOk, inB, Bool.and_eq_true, decide_eq_true_eq]; omega, stopF_eq HQ2.out HQC.out HQ3.out (by rw [if_neg (by rw [HQ9.out]; omega), HQ1.out])⟩
              clear hWu BT HBt hzt HA9 HA10
              generalize ((a1 : Int) : Int) = dm at *
              have b0 := (BU.out.2 0 (by simp [ints])).1
              have b1 := (BU.out.2 1 (by simp [ints])).1
              have b2 := (BU.out.2 2 (by simp [ints])).1
              have b3 := (BU.out.2 3 (by simp [ints])).1
              simp only [ints, List.map_cons, List.map_nil, List.getElem_cons_zero, List.getElem_cons_succ] at b0 b1 b2 b3
              obtain ⟨vc, vs, vp, vt, us, hheld⟩ := HH.out
              replace hheld := (hheld.below HBq.out).below HBu.out
              have HHE := Lib.hid hheld
              obtain ⟨as', ns, cs', rfl⟩ := own_slice hheld.stops
              have c1 : wu.cell? ⟨w.heap.size + 1, 1, none⟩ = some (.slice as' ns cs') := by rw [Lib.cell_of_heap hheld.box]; rfl
              have hI : w.heap.size + 1 < wu.heap.size := (Array.getElem?_eq_some_iff.1 hheld.box).1
              clear hheld
              obtain ⟨j0, hj, hjz, hj1, hj2⟩ := info_parts stop_info
              go_wp2_with (at_builtin; refine wpList_append_any _ rfl _ _ 24 rfl (w.heap.size + 1) 48 j0 _ 4 32 Try.underlying24 hj hjz hj1 hj2 rfl (by decide) (.slice as' ns cs') st.length (stopCells st) rfl (own_below HHE.out.stops ((Below.refl _ _).alloc (Nat.le_refl _) _)) (wu.heap.size + 1) (some ⟨wu.heap.size, 0, none⟩) 1 1 (ints [dm, (a2 : Int), cl, (a3 : Int)]) rfl (reads_at _ _ rfl) (ints_one _) (by have := HSL.out; unfold maxLen; omega) (by have := HSL.out; omega) (by simp; omega) ?_)
              intro v' w2 hown' hgrow hob
              obtain ⟨ao, n', cap', rfl⟩ := own_slice hown'
              have hbx := (HHE.out.below ((Below.refl _ _).alloc (Nat.le_refl _) _)).box_stop hgrow
              have d0 : w2.cell? ⟨w.heap.size + 1, 1, none⟩ = some (.slice as' ns cs') := by rw [Lib.cell_of_heap hbx]; rfl
              have e0 : w2.frozen? ⟨w.heap.size + 1, 1, none⟩ = false := Lib.frozen_of_heap hbx 1
              have HO := Lib.hid hown'
              have HG := Lib.hid hgrow
              clear hown' hgrow hob hbx c1 b0 b1 b2 b3
              go_wp2
              go_roundw
              case rel => exact ⟨k2 + 1, st ++ [⟨dm, a2, cl, a3⟩], by omega, by go_num, by rw [List.length_append, HSL.out]; rfl, HSA.out.more HSL.out HST.out, (HHE.out.below ((Below.refl _ _).alloc (Nat.le_refl _) _)).put_stop ⟨dm, a2, cl, a3⟩ HO.out HG.out, ((((HB.out.trans (HBq.out.mono (by omega))).trans (HBu.out.mono (by omega))).alloc (by omega) _).grown HG.out (by simp; omega) (fun q hq => (own_typed HHE.out.stops hq).2)).setCell (Nat.le_refl _) _⟩
              case measure => simp [intOf]; omega
        · have EXIT2 := trivial
          have HK2 : Hid (k2 = 2 + r4) := by show _ = _; omega
          have t3 : decide ((k2 : Int) < 2 + (r4 : Int)) = false := by simp; omega
          have hst4 : st.length = 2 + r4 := by have := HSL.out; have := HK2.out; omega
          have HST4 := Lib.hid hst4
          clear hst4
          go_upto_block 4 with fail
          go_cut [] from 19 (fun wc => ∃ (st : List Stop) (ps : List Pair), st.length = 2 + r4 ∧ st.all stopOk = true ∧ ps.length ≤ 2 ∧ PairsDone l (2 + r4) st ps ∧ HeldSome wc (w.heap.size + 1) (w.heap.size + 1) ⟨cs, st, ps, []⟩ ∧ Below (w.heap.size + 1) W0 wc)
          case first => as_aux_lemma =>
            go_wp2_with fail
            go_loopw [11] (fun kv wr => ∃ (k3 : Nat) (st : List Stop) (ps : List Pair), k3 ≤ 2 ∧ kv = .int .i64 k3 ∧ st.length = 2 + r4 ∧ st.all stopOk = true ∧ ps.length = k3 ∧ PairsTo l (2 + r4) k3 st ps ∧ (∀ p ∈ ps, 1 ≤ p.a ∧ p.a ≤ 2 * k3 ∧ 1 ≤ p.b ∧ p.b ≤ 2 * k3) ∧ HeldSome wr (w.heap.size + 1) (w.heap.size + 1) ⟨cs, st, ps, []⟩ ∧ Below (w.heap.size + 1) W0 wr) (fun kv _ => 2 - (intOf kv).toNat)
            case atStart => exact ⟨0, st, [], by omega, rfl, HST4.out, HSA.out.1, rfl, pairs_none HSA.out HST4.out (within_num l 14 3 (by omega)), fun p hp => by simp at hp, HH.out, HB.out⟩
            case round =>
              clear HST4 HSL HSA HH HB HW hlt2 HHq HB2 HW2
              obtain ⟨k3, st, ps, hk3, rfl, hsl, hsa, hpl, hpf, hpb, hh, hb⟩ := hrel
              have HH := Lib.hid hh
              have HB := Lib.hid hb
              have HSL := Lib.hid hsl
              have HSA := Lib.hid hsa
              have HPL := Lib.hid hpl
              have HPF := Lib.hid hpf
              have HPB := Lib.hid hpb
              have HW : Hid (Below w.heap.size w wr) := HB0.out.trans (hb.mono (by omega))
              have zr3 := hb.size
              clear hh hb hsl hsa hpl hpf hpb
              go_wp2_with (go_at_call 28; fail)
              (with_reducible refine (num_lit 14 v l 14 _ rfl (HL.out.below HW.out) (by omega) hl).mono ?_)
              rintro e wq ⟨n14, m2, rfl, hf2, hw5⟩
              have HBq : Hid (Below wr.heap.size wr wq) := by show Below _ _ _; rw [hw5]; exact below_draws' (Below.refl _ _) _
              have zq := HBq.out.size
              clear hw5
              obtain ⟨r5, hr5, hr5l⟩ := within_nat n14 3 (by omega)
              have HA5 := Lib.hid (fun W => within_call n14 3 W (by omega) (by omega) _ hr5)
              have HQ5 : Hid (withinI (numF l 14) 3 = (r5 : Int)) := by show _ = _; rw [← hf2.2]; exact hr5
              clear hr5
              go_wp2_with (go_at_call 11; fail)
              (with_reducible refine (HA5.out _).mono ?_)
              rintro e w6 ⟨rfl, rfl⟩
              by_cases hc1 : k3 < r5
              case neg =>
                have v1 : decide ((k3 : Int) < (r5 : Int)) = false := by simp; omega
                go_wp2
                go_meet
                case rel => exact ⟨st, ps, HSL.out, HSA.out, by rw [HPL.out]; exact hk3, HPF.out.doneA (by rw [HQ5.out]; omega), HH.out.below HBq.out, HB.out.trans (HBq.out.mono (by omega))⟩
              case pos =>
                by_cases hc2 : 2 * k3 + 2 ≤ 2 + r4
                case neg =>
                  have v1 : decide ((k3 : Int) < (r5 : Int)) = true := by simp; omega
                  have v2 : decide (2 * (k3 : Int) + 2 ≤ 2 + (r4 : Int)) = false := by simp; omega
                  go_wp2
                  go_meet
                  case rel => exact ⟨st, ps, HSL.out, HSA.out, by rw [HPL.out]; exact hk3, HPF.out.doneB (by omega), HH.out.below HBq.out, HB.out.trans (HBq.out.mono (by omega))⟩
                case pos =>
                  have u1 : (k3 : Int) < (r5 : Int) := by omega
                  have u2 : 2 * (k3 : Int) + 2 ≤ 2 + (r4 : Int) := by omega
                  have HWq := Lib.hid (HW.out.trans (HBq.out.mono HW.out.size))
                  go_wp2_with (go_at_call 28; fail)
                  (with_reducible refine (num_lit (15 + (k3 : Int)) v l (15 + k3) _ (by omega) (HL.out.below HWq.out) (by omega) hl).mono ?_)
                  rintro e wq2 ⟨n15, m3, rfl, hf3, hw5⟩
                  have HBq2 : Hid (Below wq.heap.size wq wq2) := by show Below _ _ _; rw [hw5]; exact below_draws' (Below.refl _ _) _
                  have zq2 := HBq2.out.size
                  clear hw5
                  obtain ⟨r6, hr6, hr6l⟩ := within_nat n15 2 (by omega)
                  have HA6 := Lib.hid (fun W => within_call n15 2 W (by omega) (by omega) _ hr6)
                  have HQ6 : Hid (withinI (numF l (15 + k3)) 2 = (r6 : Int)) := by show _ = _; rw [← hf3.2]; exact hr6
                  have HK5 : Hid ((k3 : Int) < withinI (numF l 14) 3) := by show _ < _; rw [HQ5.out]; exact u1
                  clear hr6
                  go_wp2_with (go_at_call 11; fail)
                  (with_reducible refine (HA6.out _).mono ?_)
                  rintro e w6 ⟨rfl, rfl⟩
                  have HWq2 := Lib.hid (HWq.out.trans (HBq2.out.mono HWq.out.size))
                  have t7 : ((r6 : Int) == 1) = (r6 == 1) := by rw [Bool.eq_iff_iff]; simp; omega
                  by_cases h61 : r6 = 1
                  · subst h61
                    go_wp2_with (go_at_call 28; fail)
                    (with_reducible refine (num_lit (16 + (k3 : Int)) v l (16 + k3) _ (by omega) (HL.out.below HWq2.out) (by omega) hl).mono ?_)
                    rintro e wq3 ⟨n16, m4, rfl, hf4, hw5⟩
                    have HBq3 : Hid (Below wq2.heap.size wq2 wq3) := by show Below _ _ _; rw [hw5]; exact below_draws' (Below.refl _ _) _
                    have zq3 := HBq3.out.size
                    clear hw5
                    obtain ⟨d, hd, hdl⟩ := within_nat n16 9 (by omega)
                    have HAd := Lib.hid (fun W => within_call n16 9 W (by omega) (by omega) _ hd)
                    have HQD : Hid (withinI (numF l (16 + k3)) 9 = (d : Int)) := by show _ = _; rw [← hf4.2]; exact hd
                    clear hd
                    go_wp2_with (go_at_call 11; fail)
                    (with_reducible refine (HAd.out _).mono ?_)
                    rintro e w6 ⟨rfl, rfl⟩
                    obtain ⟨vc, vs, vp, vt, us, hheld⟩ := HH.out
                    replace hheld := ((hheld.below HBq.out).below HBq2.out).below HBq3.out
                    obtain ⟨A, cap, rfl, hget⟩ := own_get hheld.stops
                    simp only at hget
                    obtain ⟨g, rfl, hg, hcells⟩ := hget (by have := HSL.out; omega)
                    have HHE := Lib.hid hheld
                    have hc0 := Lib.cell_of_heap hheld.box
                    have c1 : wq3.cell? ⟨w.heap.size + 1, 1, none⟩ = some (.slice (some ⟨g, 0, none⟩) st.length cap) := by rw [hc0]; rfl
                    have hI : w.heap.size + 1 < wq3.heap.size := (Array.getElem?_eq_some_iff.1 hheld.box).1
                    have hgI : g ≠ w.heap.size + 1 := typed_ne (own_typed hheld.stops rfl).1 hheld.typedI (by decide)
                    obtain ⟨x1, hx1⟩ := cell_at st (k := 2 * k3) (by have := HSL.out; omega)
                    obtain ⟨x2, hx2⟩ := cell_at st (k := 2 * k3 + 1) (by have := HSL.out; omega)
                    have e1 : wq3.cell? ⟨g, 2 * k3 * 4, none⟩ = some x1 := hcells _ _ hx1
                    have e2 : wq3.cell? ⟨g, (2 * k3 + 1) * 4, none⟩ = some x2 := hcells _ _ hx2
                    have f1 : wq3.frozen? ⟨g, 2 * k3 * 4, none⟩ = false := own_thaw hheld.stops rfl _
                    have f2 : wq3.frozen? ⟨g, (2 * k3 + 1) * 4, none⟩ = false := own_thaw hheld.stops rfl _
                    have i1 : IntKind.i64.wrap (2 * (k3 : Int) + 1 - 1) = ((2 * k3 : Nat) : Int) := by rw [IntWalk.i64_in _ (by omega)]; omega
                    have i2 : IntKind.i64.wrap (2 * (k3 : Int) + 2 - 1) = ((2 * k3 + 1 : Nat) : Int) := by rw [IntWalk.i64_in _ (by omega)]; omega
                    have i3 : ((2 * k3 : Nat) : Int) < (st.length : Int) := by have := HSL.out; omega
                    have i4 : ((2 * k3 + 1 : Nat) : Int) < (st.length : Int) := by have := HSL.out; omega
                    have i5 : IntKind.i64.wrap (-(d : Int)) = -(d : Int) := IntWalk.i64_in _ (by omega)
                    clear hheld hget hcells hc0 hx1 hx2
                    go_wp2
                    go_region
                    generalize hwv : ((wq3.setCell ⟨g, (2 * k3 + 1) * 4, none⟩ (.int .i64 (d : Int))).setCell ⟨g, 2 * k3 * 4, none⟩ (.int .i64 (-(d : Int)))).drew = wv
                    have HV : Hid (Held wv (w.heap.size + 1) (w.heap.size + 1) ⟨cs, setD (setD st (2 * k3 + 1) d) (2 * k3) (-(d : Int)), ps, []⟩ vc (.slice (some ⟨g, 0, none⟩) st.length cap) vp vt us) := by
                      show Held _ _ _ _ _ _ _ _ _
                      rw [← hwv]
                      have hA := HHE.out.set_stop rfl (k := 2 * k3 + 1) (by have := HSL.out; simp only; omega) d
                      have hB' := hA.set_stop (by simp [setD_len]) (k := 2 * k3) (by have := HSL.out; simp only [setD_len]; omega) (-(d : Int))
                      exact hB'.below (below_draws' (Below.refl _ _) 1)
                    have HBv : Hid (Below (w.heap.size + 1) wq3 wv) := by
                      show Below _ _ _
                      rw [← hwv]
                      exact (((Below.refl _ _).setCell (p := ⟨g, (2 * k3 + 1) * 4, none⟩) (own_typed HHE.out.stops (g := g) rfl).2 _).setCell (p := ⟨g, 2 * k3 * 4, none⟩) (own_typed HHE.out.stops (g := g) rfl).2 _).drew
                    have zv : wq3.heap.size ≤ wv.heap.size := HBv.out.size
                    have HPM : Hid (pairsFrom (setD (setD st (2 * k3 + 1) d) (2 * k3) (-(d : Int))) [] (ps ++ [⟨2 * (k3 : Int) + 2, 2 * (k3 : Int) + 1⟩]) = true) := by
                      have h9 := HSL.out
                      refine pairs_more (k := k3) (d := d) (by simp [setD_len]) (by omega) (by omega) HPF.out.ok HPB.out (by omega) (by omega) (by omega) (by omega) (by omega) ?_ ?_ (fun x hx1 hx2 => ?_)
                      · rw [demand_setD (by omega) (by rw [setD_len]; omega), if_neg (by omega), demand_setD (by omega) (by omega), if_pos (by omega)]
                      · rw [demand_setD (by omega) (by rw [setD_len]; omega), if_pos (by omega)]
                      · rw [demand_setD hx1 (by rw [setD_len]; omega), if_neg (by omega), demand_setD hx1 (by omega), if_neg (by omega)]
                    have HSO := Lib.hid (setD_ok (setD_ok HSA.out (k := 2 * k3 + 1) (d := d) (by omega) (by omega)) (k := 2 * k3) (d := -(d : Int)) (by omega) (by omega))
                    have HSN : Hid ((setD (setD st (2 * k3 + 1) d) (2 * k3) (-(d : Int))).length = 2 + r4) := by show _ = _; rw [setD_len, setD_len]; exact HSL.out
                    replace HPM := Lib.hid (HPF.out.moreA HK5.out hc2 (by rw [HQ6.out]; rfl) HQD.out HPM.out)
                    generalize setD (setD st (2 * k3 + 1) d) (2 * k3) (-(d : Int)) = st' at *
                    clear hwv e1 e2 f1 f2 i1 i2 i3 i4 i5 c1 hgI HPF HSA HSL HHE HH
                    obtain ⟨ap, np, cp, rfl⟩ := own_slice HV.out.pairs
                    have c2 : wv.cell? ⟨w.heap.size + 1, 2, none⟩ = some (.slice ap np cp) := by rw [Lib.cell_of_heap HV.out.box]; rfl
                    have hIv : w.heap.size + 1 < wv.heap.size := by omega
                    obtain ⟨j0, hj, hjz, hj1, hj2⟩ := info_parts pair_info
                    go_wp2_with (at_builtin; refine wpList_append_any _ rfl _ _ 25 rfl (w.heap.size + 1) 68 j0 _ 2 16 Try.underlying25 hj hjz hj1 hj2 rfl (by decide) (.slice ap np cp) ps.length (pairCells ps) rfl (own_below HV.out.pairs ((Below.refl _ _).alloc (Nat.le_refl _) _)) (wv.heap.size + 1) (some ⟨wv.heap.size, 0, none⟩) 1 1 (ints [2 * (k3 : Int) + 2, 2 * (k3 : Int) + 1]) rfl (reads_at _ _ rfl) (ints_one _) (by have := HPL.out; unfold maxLen; omega) (by have := HPL.out; omega) (by simp; omega) ?_)
                    intro v' w2 hown' hgrow hob
                    obtain ⟨ao, n', cap', rfl⟩ := own_slice hown'
                    have hbx := (HV.out.below ((Below.refl _ _).alloc (Nat.le_refl _) _)).box_pair hgrow
                    have d0 : w2.cell? ⟨w.heap.size + 1, 2, none⟩ = some (.slice ap np cp) := by rw [Lib.cell_of_heap hbx]; rfl
                    have e0 : w2.frozen? ⟨w.heap.size + 1, 2, none⟩ = false := Lib.frozen_of_heap hbx 2
                    have HO := Lib.hid hown'
                    have HG := Lib.hid hgrow
                    clear hown' hgrow hob hbx c2
                    go_wp2
                    go_roundw
                    case rel => exact ⟨k3 + 1, st', ps ++ [⟨2 * (k3 : Int) + 2, 2 * (k3 : Int) + 1⟩], by omega, by go_num, HSN.out, HSO.out, by rw [List.length_append, HPL.out]; rfl, HPM.out, more_bounds HPB.out (by omega) (by omega) (by omega) (by omega), (HV.out.below ((Below.refl _ _).alloc (Nat.le_refl _) _)).put_pair ⟨2 * (k3 : Int) + 2, 2 * (k3 : Int) + 1⟩ HO.out HG.out, ((((((HB.out.trans (HBq.out.mono (by omega))).trans (HBq2.out.mono (by omega))).trans (HBq3.out.mono (by omega))).trans HBv.out).alloc (by omega) _).grown HG.out (by simp; omega) (fun q hq => (own_typed HV.out.pairs hq).2)).setCell (Nat.le_refl _) _⟩
                    case measure => simp [intOf]; omega
                  · have t8 : (r6 == 1) = false := by simpa using h61
                    go_wp2_with (go_at_call 28; fail)
                    (with_reducible refine (num_lit (16 + (k3 : Int)) v l (16 + k3) _ (by omega) (HL.out.below HWq2.out) (by omega) hl).mono ?_)
                    rintro e wq3 ⟨n16, m4, rfl, hf4, hw5⟩
                    have HBq3 : Hid (Below wq2.heap.size wq2 wq3) := by show Below _ _ _; rw [hw5]; exact below_draws' (Below.refl _ _) _
                    have zq3 := HBq3.out.size
                    clear hw5
                    obtain ⟨d, hd, hdl⟩ := within_nat n16 9 (by omega)
                    have HAd := Lib.hid (fun W => within_call n16 9 W (by omega) (by omega) _ hd)
                    have HQD : Hid (withinI (numF l (16 + k3)) 9 = (d : Int)) := by show _ = _; rw [← hf4.2]; exact hd
                    clear hd
                    go_wp2_with (go_at_call 11; fail)
                    (with_reducible refine (HAd.out _).mono ?_)
                    rintro e w6 ⟨rfl, rfl⟩
                    obtain ⟨vc, vs, vp, vt, us, hheld⟩ := HH.out
                    replace hheld := ((hheld.below HBq.out).below HBq2.out).below HBq3.out
                    obtain ⟨A, cap, rfl, hget⟩ := own_get hheld.stops
                    simp only at hget
                    obtain ⟨g, rfl, hg, hcells⟩ := hget (by have := HSL.out; omega)
                    have HHE := Lib.hid hheld
                    have hc0 := Lib.cell_of_heap hheld.box
                    have c1 : wq3.cell? ⟨w.heap.size + 1, 1, none⟩ = some (.slice (some ⟨g, 0, none⟩) st.length cap) := by rw [hc0]; rfl
                    have hI : w.heap.size + 1 < wq3.heap.size := (Array.getElem?_eq_some_iff.1 hheld.box).1
                    have hgI : g ≠ w.heap.size + 1 := typed_ne (own_typed hheld.stops rfl).1 hheld.typedI (by decide)
                    obtain ⟨x1, hx1⟩ := cell_at st (k := 2 * k3) (by have := HSL.out; omega)
                    obtain ⟨x2, hx2⟩ := cell_at st (k := 2 * k3 + 1) (by have := HSL.out; omega)
                    have e1 : wq3.cell? ⟨g, 2 * k3 * 4, none⟩ = some x1 := hcells _ _ hx1
                    have e2 : wq3.cell? ⟨g, (2 * k3 + 1) * 4, none⟩ = some x2 := hcells _ _ hx2
                    have f1 : wq3.frozen? ⟨g, 2 * k3 * 4, none⟩ = false := own_thaw hheld.stops rfl _
                    have f2 : wq3.frozen? ⟨g, (2 * k3 + 1) * 4, none⟩ = false := own_thaw hheld.stops rfl _
                    have i1 : IntKind.i64.wrap (2 * (k3 : Int) + 1 - 1) = ((2 * k3 : Nat) : Int) := by rw [IntWalk.i64_in _ (by omega)]; omega
                    have i2 : IntKind.i64.wrap (2 * (k3 : Int) + 2 - 1) = ((2 * k3 + 1 : Nat) : Int) := by rw [IntWalk.i64_in _ (by omega)]; omega
                    have i3 : ((2 * k3 : Nat) : Int) < (st.length : Int) := by have := HSL.out; omega
                    have i4 : ((2 * k3 + 1 : Nat) : Int) < (st.length : Int) := by have := HSL.out; omega
                    have i5 : IntKind.i64.wrap (-(d : Int)) = -(d : Int) := IntWalk.i64_in _ (by omega)
                    clear hheld hget hcells hc0 hx1 hx2
                    go_wp2
                    go_region
                    generalize hwv : ((wq3.setCell ⟨g, 2 * k3 * 4, none⟩ (.int .i64 (d : Int))).setCell ⟨g, (2 * k3 + 1) * 4, none⟩ (.int .i64 (-(d : Int)))).drew = wv
                    have HV : Hid (Held wv (w.heap.size + 1) (w.heap.size + 1) ⟨cs, setD (setD st (2 * k3) d) (2 * k3 + 1) (-(d : Int)), ps, []⟩ vc (.slice (some ⟨g, 0, none⟩) st.length cap) vp vt us) := by
                      show Held _ _ _ _ _ _ _ _ _
                      rw [← hwv]
                      have hA := HHE.out.set_stop rfl (k := 2 * k3) (by have := HSL.out; simp only; omega) d
                      have hB' := hA.set_stop (by simp [setD_len]) (k := 2 * k3 + 1) (by have := HSL.out; simp only [setD_len]; omega) (-(d : Int))
                      exact hB'.below (below_draws' (Below.refl _ _) 1)
                    have HBv : Hid (Below (w.heap.size + 1) wq3 wv) := by
                      show Below _ _ _
                      rw [← hwv]
                      exact (((Below.refl _ _).setCell (p := ⟨g, 2 * k3 * 4, none⟩) (own_typed HHE.out.stops (g := g) rfl).2 _).setCell (p := ⟨g, (2 * k3 + 1) * 4, none⟩) (own_typed HHE.out.stops (g := g) rfl).2 _).drew
                    have zv : wq3.heap.size ≤ wv.heap.size := HBv.out.size
                    have HPM : Hid (pairsFrom (setD (setD st (2 * k3) d) (2 * k3 + 1) (-(d : Int))) [] (ps ++ [⟨2 * (k3 : Int) + 1, 2 * (k3 : Int) + 2⟩]) = true) := by
                      have h9 := HSL.out
                      refine pairs_more (k := k3) (d := d) (by simp [setD_len]) (by omega) (by omega) HPF.out.ok HPB.out (by omega) (by omega) (by omega) (by omega) (by omega) ?_ ?_ (fun x hx1 hx2 => ?_)
                      · rw [demand_setD (by omega) (by rw [setD_len]; omega), if_neg (by omega), demand_setD (by omega) (by omega), if_pos (by omega)]
                      · rw [demand_setD (by omega) (by rw [setD_len]; omega), if_pos (by omega)]
                      · rw [demand_setD hx1 (by rw [setD_len]; omega), if_neg (by omega), demand_setD hx1 (by omega), if_neg (by omega)]
                    have HSO := Lib.hid (setD_ok (setD_ok HSA.out (k := 2 * k3) (d := d) (by omega) (by omega)) (k := 2 * k3 + 1) (d := -(d : Int)) (by omega) (by omega))
                    have HSN : Hid ((setD (setD st (2 * k3) d) (2 * k3 + 1) (-(d : Int))).length = 2 + r4) := by show _ = _; rw [setD_len, setD_len]; exact HSL.out
                    replace HPM := Lib.hid (HPF.out.moreB HK5.out hc2 (by rw [HQ6.out]; omega) HQD.out HPM.out)
                    generalize setD (setD st (2 * k3) d) (2 * k3 + 1) (-(d : Int)) = st' at *
                    clear hwv e1 e2 f1 f2 i1 i2 i3 i4 i5 c1 hgI HPF HSA HSL HHE HH
                    obtain ⟨ap, np, cp, rfl⟩ := own_slice HV.out.pairs
                    have c2 : wv.cell? ⟨w.heap.size + 1, 2, none⟩ = some (.slice ap np cp) := by rw [Lib.cell_of_heap HV.out.box]; rfl
                    have hIv : w.heap.size + 1 < wv.heap.size := by omega
                    obtain ⟨j0, hj, hjz, hj1, hj2⟩ := info_parts pair_info
                    go_wp2_with (at_builtin; refine wpList_append_any _ rfl _ _ 25 rfl (w.heap.size + 1) 68 j0 _ 2 16 Try.underlying25 hj hjz hj1 hj2 rfl (by decide) (.slice ap np cp) ps.length (pairCells ps) rfl (own_below HV.out.pairs ((Below.refl _ _).alloc (Nat.le_refl _) _)) (wv.heap.size + 1) (some ⟨wv.heap.size, 0, none⟩) 1 1 (ints [2 * (k3 : Int) + 1, 2 * (k3 : Int) + 2]) rfl (reads_at _ _ rfl) (ints_one _) (by have := HPL.out; unfold maxLen; omega) (by have := HPL.out; omega) (by simp; omega) ?_)
                    intro v' w2 hown' hgrow hob
                    obtain ⟨ao, n', cap', rfl⟩ := own_slice hown'
                    have hbx := (HV.out.below ((Below.refl _ _).alloc (Nat.le_refl _) _)).box_pair hgrow
                    have d0 : w2.cell? ⟨w.heap.size + 1, 2, none⟩ = some (.slice ap np cp) := by rw [Lib.cell_of_heap hbx]; rfl
                    have e0 : w2.frozen? ⟨w.heap.size + 1, 2, none⟩ = false := Lib.frozen_of_heap hbx 2
                    have HO := Lib.hid hown'
                    have HG := Lib.hid hgrow
                    clear hown' hgrow hob hbx c2
                    go_wp2
                    go_roundw
                    case rel => exact ⟨k3 + 1, st', ps ++ [⟨2 * (k3 : Int) + 1, 2 * (k3 : Int) + 2⟩], by omega, by go_num, HSN.out, HSO.out, by rw [List.length_append, HPL.out]; rfl, HPM.out, more_bounds HPB.out (by omega) (by omega) (by omega) (by omega), (HV.out.below ((Below.refl _ _).alloc (Nat.le_refl _) _)).put_pair ⟨2 * (k3 : Int) + 1, 2 * (k3 : Int) + 2⟩ HO.out HG.out, ((((((HB.out.trans (HBq.out.mono (by omega))).trans (HBq2.out.mono (by omega))).trans (HBq3.out.mono (by omega))).trans HBv.out).alloc (by omega) _).grown HG.out (by simp; omega) (fun q hq => (own_typed HV.out.pairs hq).2)).setCell (Nat.le_refl _) _⟩
                    case measure => simp [intOf]; omega
          case rest => as_aux_lemma =>
            clear HST4 HSL HSA HH HB HW hlt2 HHq HB2 HW2
            obtain ⟨st, ps, hsl, hsa, hpl, hpf, hh, hb⟩ := hcut
            have RESTS := trivial
            have HH := Lib.hid hh
            have HB := Lib.hid hb
            have HSL := Lib.hid hsl
            have HSA := Lib.hid hsa
            have HPF := Lib.hid hpf
            have HPL := Lib.hid hpl
            clear hh hb hsl hsa hpf hpl
            go_wp2
            go_loopw [15] (fun kv wr => ∃ (a : Nat) (tr : List (List Int)), a ≤ 3 + r4 ∧ kv = .int .i64 a ∧ tr.length = a ∧ WaysTo l (3 + r4) tr ∧ HeldSome wr (w.heap.size + 1) (w.heap.size + 1) ⟨cs, st, ps, tr⟩ ∧ Below (w.heap.size + 1) W0 wr) (fun kv _ => 3 + r4 - (intOf kv).toNat)
            case atStart => exact ⟨0, [], by omega, rfl, rfl, ⟨rfl, rfl⟩, HH.out, HB.out⟩
            case round =>
              clear HH HB
              obtain ⟨a, tr, ha, rfl, htl, htr, hh, hb⟩ := hrel
              have HH := Lib.hid hh
              have HB := Lib.hid hb
              have HTL := Lib.hid htl
              have HTR := Lib.hid htr
              have HW : Hid (Below w.heap.size w wr) := HB0.out.trans (hb.mono (by omega))
              have zr4 := hb.size
              clear hh hb htl htr
              obtain ⟨w5, hw5⟩ : ∃ w5, w5 = wr := ⟨_, rfl⟩
              subst hw5
              by_cases hc4 : a ≤ 2 + r4
              · have v1 : (a : Int) ≤ 2 + (r4 : Int) := by omega
                go_wp2
                go_loopw [16, 17] (fun rv kv wv => ∃ (b : Nat) (r : List Int), b ≤ 3 + r4 ∧ kv = .int .i64 b ∧ RowToF l a b r ∧ wv.ownsRow w5.heap.size 3 1 rv b (ints r) ∧ Below w5.heap.size w5 wv) (fun _ kv _ => 3 + r4 - (intOf kv).toNat)
                case atStart => exact ⟨0, [], by omega, rfl, rowToF_nil l a, ⟨rfl, .inl ⟨rfl, rfl⟩⟩, Below.refl _ _⟩
                case round =>
                  obtain ⟨b, r, hb5, rfl, hrt, hown, hbl⟩ := hrel
                  obtain ⟨A5, n5, c5, rfl⟩ := own_slice hown
                  have HRT := Lib.hid hrt
                  have HO := Lib.hid hown
                  have HBL := Lib.hid hbl
                  have zr5 := hbl.size
                  have HWL : Hid (Below w.heap.size w wr) := HW.out.trans (hbl.mono HW.out.size)
                  clear hrt hown hbl
                  by_cases hc5 : b ≤ 2 + r4
                  · have v2 : (b : Int) ≤ 2 + (r4 : Int) := by omega
                    go_wp2_with (go_at_call 28; fail)
                    (with_reducible refine (num_lit (20 + 3 * (a : Int) + 5 * (b : Int)) v l (20 + 3 * a + 5 * b) _ (by omega) (HL.out.below HWL.out) (by omega) hl).mono ?_)
                    rintro e wq ⟨n20, m5, rfl, hf5, hw5⟩
                    have HBq : Hid (Below wr.heap.size wr wq) := by show Below _ _ _; rw [hw5]; exact below_draws' (Below.refl _ _) _
                    have zq := HBq.out.size
                    clear hw5
                    obtain ⟨r7, hr7, hr7l⟩ := within_nat n20 14 (by omega)
                    have HA7 := Lib.hid (fun W => within_call n20 14 W (by omega) (by omega) _ hr7)
                    have HQ7 : Hid (withinI (numF l (20 + 3 * a + 5 * b)) 14 = (r7 : Int)) := by show _ = _; rw [← hf5.2]; exact hr7
                    clear hr7
                    go_wp2_with (go_at_call 11; fail)
                    (with_reducible refine (HA7.out _).mono ?_)
                    rintro e w6 ⟨rfl, rfl⟩
                    have HOq := Lib.hid (own_below HO.out HBq.out)
                    obtain ⟨j0, hj, hjz, hj1, hj2⟩ := info_parts int_info
                    clear HA7
                    by_cases hab : a = b
                    · have t8 : ((a : Int) == (b : Int)) = true := by rw [beq_iff_eq]; omega
                      have HAB := Lib.hid hab
                      clear hab
                      go_wp2_with (at_builtin; refine wpList_append_any _ rfl _ _ 22 rfl w5.heap.size 3 j0 _ 1 8 Try.underlying22 hj hjz hj1 hj2 rfl (by decide) (.slice A5 n5 c5) b (ints r) rfl (own_below HOq.out ((Below.refl _ _).alloc (Nat.le_refl _) _)) (wq.heap.size + 1) (some ⟨wq.heap.size, 0, none⟩) 1 1 (ints [0]) rfl (reads_at _ _ rfl) (ints_one _) (by unfold maxLen; omega) (by omega) (by simp; omega) ?_)
                      intro v' w2 hown' hgrow hob
                      obtain ⟨ao, n', cap', rfl⟩ := own_slice hown'
                      have HO2 := Lib.hid hown'
                      have HG := Lib.hid hgrow
                      clear hown' hgrow hob
                      go_wp2
                      go_roundw
                      case rel => exact ⟨b + 1, r ++ [0], by omega, by go_num, HRT.out.more (by omega) (by omega) (fun _ => rfl) (by unfold cellF; rw [if_pos HAB.out]), by have := HO2.out; simpa [ints] using this, ((HBL.out.trans (HBq.out.mono (by omega))).alloc (by omega) _).grown HG.out (by simp; omega) (fun q hq => (own_typed HOq.out hq).2)⟩
                      case measure => simp [intOf]; omega
                    · have t8 : ((a : Int) == (b : Int)) = false := by simp; omega
                      go_wp2_with (at_builtin; refine wpList_append_any _ rfl _ _ 22 rfl w5.heap.size 3 j0 _ 1 8 Try.underlying22 hj hjz hj1 hj2 rfl (by decide) (.slice A5 n5 c5) b (ints r) rfl (own_below HOq.out ((Below.refl _ _).alloc (Nat.le_refl _) _)) (wq.heap.size + 1) (some ⟨wq.heap.size, 0, none⟩) 1 1 (ints [1 + (r7 : Int)]) rfl (reads_at _ _ rfl) (ints_one _) (by unfold maxLen; omega) (by omega) (by simp; omega) ?_)
                      intro v' w2 hown' hgrow hob
                      obtain ⟨ao, n', cap', rfl⟩ := own_slice hown'
                      have HO2 := Lib.hid hown'
                      have HG := Lib.hid hgrow
                      clear hown' hgrow hob
                      go_wp2
                      go_roundw
                      case rel => exact ⟨b + 1, r ++ [1 + (r7 : Int)], by omega, by go_num, HRT.out.more (by omega) (by omega) (fun e => absurd e hab) (by unfold cellF; rw [if_neg hab, HQ7.out]), by have := HO2.out; simpa [ints] using this, ((HBL.out.trans (HBq.out.mono (by omega))).alloc (by omega) _).grown HG.out (by simp; omega) (fun q hq => (own_typed HOq.out hq).2)⟩
                      case measure => simp [intOf]; omega
                  · have v2 : decide ((b : Int) ≤ 2 + (r4 : Int)) = false := by simp; omega
                    have HBE : Hid (b = 3 + r4) := by show _ = _; omega
                    have HRS : Hid (RowSome wr (w.heap.size + 1) (.slice A5 n5 c5) r) := own_row (own_mono HO.out (by omega)) HRT.out.1.1.symm (by rw [HRT.out.1.1]; omega)
                    obtain ⟨vc, vs, vp, vt, us, hheld⟩ := HH.out
                    replace hheld := hheld.below HBL.out
                    obtain ⟨at', nt, ct, rfl⟩ := own_slice hheld.travel
                    have HV := Lib.hid hheld
                    have c3 : wr.cell? ⟨w.heap.size + 1, 3, none⟩ = some (.slice at' nt ct) := by rw [Lib.cell_of_heap hheld.box]; rfl
                    have hIv : w.heap.size + 1 < wr.heap.size := (Array.getElem?_eq_some_iff.1 hheld.box).1
                    obtain ⟨j0, hj, hjz, hj1, hj2⟩ := info_parts row_info
                    clear hheld
                    go_wp2_with (at_builtin; refine wpList_append_any _ rfl _ _ 26 rfl (w.heap.size + 1) 22 j0 _ 1 24 Try.underlying26 hj hjz hj1 hj2 rfl (by decide) (.slice at' nt ct) tr.length us rfl (own_below HV.out.travel ((Below.refl _ _).alloc (Nat.le_refl _) _)) (wr.heap.size + 1) (some ⟨wr.heap.size, 0, none⟩) 1 1 [.slice A5 n5 c5] rfl (reads_at _ _ rfl) (by intro x hx; simp at hx; subst hx; rfl) (by have := HTL.out; unfold maxLen; omega) (by have := HTL.out; omega) (by simp; omega) ?_)
                    intro v' w2 hown' hgrow hob
                    obtain ⟨ao, n', cap', rfl⟩ := own_slice hown'
                    have hbx := (HV.out.below ((Below.refl _ _).alloc (Nat.le_refl _) _)).box_row hgrow
                    have d0 : w2.cell? ⟨w.heap.size + 1, 3, none⟩ = some (.slice at' nt ct) := by rw [Lib.cell_of_heap hbx]; rfl
                    have e0 : w2.frozen? ⟨w.heap.size + 1, 3, none⟩ = false := Lib.frozen_of_heap hbx 3
                    have HO2 := Lib.hid hown'
                    have HG := Lib.hid hgrow
                    clear hown' hgrow hob hbx c3
                    go_wp2
                    go_roundw
                    case rel => exact ⟨a + 1, tr ++ [r], by omega, by go_num, by rw [List.length_append, HTL.out]; rfl, HTR.out.more HTL.out (by have h := HRT.out.1; rw [HBE.out] at h; exact h.ok) (by have h := HRT.out.2; rw [HBE.out] at h; exact h), (HV.out.below ((Below.refl _ _).alloc (Nat.le_refl _) _)).put_row r _ (HRS.out.below ((Below.refl _ _).alloc (Nat.le_refl _) _)) HO2.out HG.out, ((((HB.out.trans (HBL.out.mono (by omega))).alloc (by omega) _).grown HG.out (by simp; omega) (fun q hq => (own_typed HV.out.travel hq).2)).setCell (Nat.le_refl _) _)⟩
                    case measure => simp [intOf]; omega
              · have v1 : decide ((a : Int) ≤ 2 + (r4 : Int)) = false := by simp; omega
                have HAE : Hid (a = 3 + r4) := by show _ = _; omega
                have HOKP : Hid (probOk ⟨cs, st, ps, tr⟩ = true) := probOk_made hcs1 hcs3 HCA.out.1 (by have := HSL.out; omega) HSA.out HPF.out.1 (by have h1 := HSL.out; have h2 := HTL.out; have h3 := HAE.out; omega) (by have h1 := HSL.out; rw [show st.length + 1 = 3 + r4 by omega]; exact HTR.out.1)
                have HQP : Hid ((⟨cs, st, ps, tr⟩ : Prob) = playI l) := made_eq HQ0.out HQ4.out HCA.out HKR.out HPF.out HTR.out (by rw [HTL.out]; exact HAE.out)
                have HS2 : Hid (2 ≤ (playI l).stops.length ∧ (playI l).stops.length ≤ 8 ∧ (playI l).pairs.length ≤ 2) := by
                  have h1 := HSL.out
                  rw [← HQP.out]
                  exact ⟨by simp only; omega, by simp only; omega, HPL.out⟩
                obtain ⟨vc, vs, vp, vt, us, hheld⟩ := HH.out
                obtain ⟨ac, nc, cc, rfl⟩ := own_slice hheld.cars
                obtain ⟨as', nS, cS, rfl⟩ := own_slice hheld.stops
                obtain ⟨ap, np, cp, rfl⟩ := own_slice hheld.pairs
                obtain ⟨at', nt, ct, rfl⟩ := own_slice hheld.travel
                have HHE := Lib.hid hheld
                have i0 : w5.cell? ⟨w.heap.size + 1, 0, none⟩ = some (.slice ac nc cc) := by rw [Lib.cell_of_heap hheld.box]; rfl
                have i1 : w5.cell? ⟨w.heap.size + 1, 1, none⟩ = some (.slice as' nS cS) := by rw [Lib.cell_of_heap hheld.box]; rfl
                have i2 : w5.cell? ⟨w.heap.size + 1, 2, none⟩ = some (.slice ap np cp) := by rw [Lib.cell_of_heap hheld.box]; rfl
                have i3 : w5.cell? ⟨w.heap.size + 1, 3, none⟩ = some (.slice at' nt ct) := by rw [Lib.cell_of_heap hheld.box]; rfl
                have hI : w.heap.size + 1 < w5.heap.size := (Array.getElem?_eq_some_iff.1 hheld.box).1
                clear hheld
                have HR := Lib.hid (HR0.out.below (HB.out.mono hz1)).nilR
                have r0' := HR.out.1 0 (by omega)
                have r1' := HR.out.1 1 (by omega)
                have r2' := HR.out.1 2 (by omega)
                have r3' := HR.out.1 3 (by omega)
                have g0 := HR.out.2 0 (by omega)
                have g1 := HR.out.2 1 (by omega)
                have g2 := HR.out.2 2 (by omega)
                have g3 := HR.out.2 3 (by omega)
                have HHF := Lib.hid (((((HHE.out.low (R := w.heap.size) (by omega) 0 (.slice ac nc cc)).low (R := w.heap.size) (by omega) 1 (.slice as' nS cS)).low (R := w.heap.size) (by omega) 2 (.slice ap np cp)).low (R := w.heap.size) (by omega) 3 (.slice at' nt ct)).mono (Nat.le_succ _))
                go_wp2
                refine bodyPost_ret (v := .agg #[.slice ac nc cc, .slice as' nS cS, .slice ap np cp, .slice at' nt ct]) (by simp [results, Try.results10, go_sem, r0', r1', r2', r3']) rfl ⟨_, _, _, _, us, _, rfl, by rw [← HQP.out]; exact HHF.out, by rw [← HQP.out]; exact HOKP.out, HS2.out.1, HS2.out.2.1, HS2.out.2.2, (((HW.out.setCell (p := ⟨w.heap.size, 0, none⟩) (Nat.le_refl _) _).setCell (p := ⟨w.heap.size, 1, none⟩) (Nat.le_refl _) _).setCell (p := ⟨w.heap.size, 2, none⟩) (Nat.le_refl _) _).setCell (p := ⟨w.heap.size, 3, none⟩) (Nat.le_refl _) _⟩
theorem play_cars (v : Value) (l : List Int) (w : World) (h : Recs w 1 num_ v l) (hl : l.length ≤ 9223372036854775807) :
    Calls Try.prog 10 #[v] w (PlayEnd w) := by
  refine (play_carsF v l w h hl).mono ?_
  rintro e w' ⟨vc, vs, vp, vt, us, I, h⟩
  exact ⟨playI l, vc, vs, vp, vt, us, I, h⟩
end Go.Proofs.Ytkheepedjoimmaa
