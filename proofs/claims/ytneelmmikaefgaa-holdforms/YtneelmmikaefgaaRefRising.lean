/- The reference's rising: the keys of a map[int]bool that are true, rising (laid by gen_rising.py). -/
import Derived.Test.YtneelmmikaefgaaDeltaMem
import Derived.Test.YtneelmmikaefgaaOrdersSkip
import Derived.Deep.CutBlock
import Derived.Maps.OwnSet
import Derived.Maps.RangeWalk
namespace Go.Proofs.Ytneelmmikaefgaa
open Go.RowKit Go.Maps
set_option linter.unusedSimpArgs false

def Strict (l : List Int) : Prop := l.Pairwise (· < ·)
theorem strict_put {l : List Int} {x : Int} {j : Nat} (h : Strict l) (h1 : ∀ i (q : i < l.length), i < j → l[i] < x) (h2 : j ≤ l.length) (h3 : ∀ q : j < l.length, x ≤ l[j]) (hx : x ∉ l) : Strict (l.take j ++ x :: l.drop j) := by
  have hs : (l.take j ++ l.drop j).Pairwise (· < ·) := by rw [List.take_append_drop]; exact h
  obtain ⟨p1, p2, p3⟩ := List.pairwise_append.1 hs
  have hlow : ∀ a ∈ l.take j, a < x := by
    intro a ha
    obtain ⟨i, hi, rfl⟩ := List.mem_iff_getElem.1 ha
    rw [List.length_take] at hi
    rw [List.getElem_take]
    exact h1 i (by omega) (by omega)
  have hhigh : ∀ a ∈ l.drop j, x < a := by
    intro a ha
    obtain ⟨i, hi, rfl⟩ := List.mem_iff_getElem.1 ha
    rw [List.length_drop] at hi
    rw [List.getElem_drop]
    have hj : j < l.length := by omega
    have h4 := h3 hj
    have h5 : x ≠ l[j] := fun e => hx (e ▸ List.getElem_mem hj)
    have h6 : l[j] ≤ l[j + i] := by
      rcases Nat.eq_zero_or_pos i with h0 | h0
      · subst h0; exact Int.le_refl _
      · exact Int.le_of_lt (List.pairwise_iff_getElem.1 h j (j + i) hj (by omega) (by omega))
    omega
  refine List.pairwise_append.2 ⟨p1, List.pairwise_cons.2 ⟨hhigh, p2⟩, fun a ha b hb => ?_⟩
  rcases List.mem_cons.1 hb with rfl | hb
  · exact hlow a ha
  · exact p3 a ha b hb
theorem mem_put {l : List Int} {x : Int} (j : Nat) (y : Int) : y ∈ l.take j ++ x :: l.drop j ↔ y = x ∨ y ∈ l := by
  have h : y ∈ l ↔ y ∈ l.take j ∨ y ∈ l.drop j := by rw [← List.mem_append, List.take_append_drop]
  rw [List.mem_append, List.mem_cons, h]
  constructor
  · rintro (h | h | h)
    · exact .inr (.inl h)
    · exact .inl h
    · exact .inr (.inr h)
  · rintro (h | h | h)
    · exact .inr (.inl h)
    · exact .inl h
    · exact .inr (.inr h)
/-- two rising rows of the same numbers are one -/
theorem strict_eq : ∀ (a b : List Int), Strict a → Strict b → (∀ x, x ∈ a ↔ x ∈ b) → a = b
  | [], [], _, _, _ => rfl
  | [], y :: b, _, _, h => by have := (h y).2 (by simp); simp at this
  | x :: a, [], _, _, h => by have := (h x).1 (by simp); simp at this
  | x :: a, y :: b, ha, hb, h => by
    obtain ⟨a1, a2⟩ := List.pairwise_cons.1 ha
    obtain ⟨b1, b2⟩ := List.pairwise_cons.1 hb
    have e : x = y := by
      rcases List.mem_cons.1 ((h x).1 (by simp)) with e | e
      · exact e
      · rcases List.mem_cons.1 ((h y).2 (by simp)) with e2 | e2
        · exact e2.symm
        · have := b1 x e; have := a1 y e2; omega
    subst e
    congr 1
    refine strict_eq a b a2 b2 fun z => ⟨fun hz => ?_, fun hz => ?_⟩
    · rcases List.mem_cons.1 ((h z).1 (List.mem_cons_of_mem _ hz)) with e | e
      · have := a1 z hz; omega
      · exact e
    · rcases List.mem_cons.1 ((h z).2 (List.mem_cons_of_mem _ hz)) with e | e
      · have := b1 z hz; omega
      · exact e
/-- what a map[int]bool tells of each number -/
structure Marks (D : DataW Unit) (f : Int → Option Bool) : Prop where
  at_ : ∀ x, (Lit.int .i64 x).wf = true → ∀ zd, D.atKey (.int .i64 x) zd = match f x with | some b => .lit (.bool b) | none => zd
  wf : ∀ x, f x ≠ none → (Lit.int .i64 x).wf = true
theorem Marks.start : Marks (.map []) (fun _ => none) := ⟨fun _ _ _ => rfl, fun _ h => absurd rfl h⟩
theorem Marks.put {D : DataW Unit} {f : Int → Option Bool} (h : Marks D f) (hD : IsMap D) (y : Int) (b : Bool) (hw : (Lit.int .i64 y).wf = true) : Marks (D.put (.int .i64 y) (.lit (.bool b))) (fun x => if x = y then some b else f x) := by
  refine ⟨fun x hx zd => ?_, fun x hx => ?_⟩
  · by_cases e : x = y
    · subst e
      rw [atKey_put_same hD (by simp [WideAt.IsKeyLit])]
      simp
    · rw [atKey_put_other (fun h => e (Lit.int.inj h).2), h.at_ x hx]
      simp [e]
  · by_cases e : x = y
    · subst e; exact hw
    · exact h.wf x (by simpa [e] using hx)
theorem key_int' : Keyed Try.prog 3 := int_keyed Try.underlying3
set_option maxRecDepth 100000 in
theorem elem_bool {v : Value} {y : DataW Unit × List MemPlace} (h : plainElem Try.prog 4 v = some y) : ∃ c : Bool, v = .bool c ∧ y.1 = .lit (.bool c) := by
  unfold plainElem at h
  rw [Try.underlying4] at h
  cases v <;> simp at h
  · subst h
    exact ⟨_, rfl, rfl⟩
def OutI (B : Nat) (W : World) (v : Value) (o : List Int) : Prop := W.ownsRow B 3 1 v o.length (ints o)
theorem el_ints : Try.prog.underlying 22 = some (.slice (Try.prog.elem 22)) := by kernel_rfl
theorem sz_ints (W : World) : (sizeOf (Try.prog.elem 22)).run Try.prog W = .ok 1 W := by kernel_rfl
theorem OutI.num {B : Nat} {W : World} {A : Option Addr} {n cap : Nat} {o : List Int} (h : OutI B W (.slice A n cap) o) {k : Nat} (hk : k < o.length) : ∃ g q, A = some ⟨g, q, none⟩ ∧ g < W.heap.size ∧ W.cell? ⟨g, q + k, none⟩ = some (.int .i64 o[k]) := by
  obtain ⟨g, cap', hv, _, hlt⟩ := World.ownsRow.form h (by omega)
  injection hv with hA _ _
  subst hA
  refine ⟨g, 0, rfl, hlt, ?_⟩
  have := World.ownsRow.cells h (g := g) rfl k (.int .i64 o[k]) (by simp [ints, hk])
  rw [Nat.zero_add, ← this]
  unfold Addr.add
  split
  · next h0 => rw [h0]
  · simp
theorem insI_cut {o : List Int} {x : Int} {j : Nat} (h2 : j ≤ o.length) {W : World} {B : Nat} {v : Value} (h : W.ownsRow B 3 1 v (j + (1 + (o.length - j))) ((ints o).take (j * 1) ++ (ints [x] ++ (ints o).drop (j * 1)))) : OutI B W v (o.take j ++ x :: o.drop j) := by
  unfold OutI
  have e : ints (o.take j ++ x :: o.drop j) = (ints o).take (j * 1) ++ (ints [x] ++ (ints o).drop (j * 1)) := by simp [ints]
  have l : (o.take j ++ x :: o.drop j).length = j + (1 + (o.length - j)) := by simp; omega
  rw [e, l]
  exact h

theorem mem_skip {f : Int → Option Bool} {left : Lit → Bool} {q : List Int} {x : Int} {g : Lit → Bool} (h : ∀ z, z ∈ q ↔ f z = some true ∧ left (.int .i64 z) = false) (hf : f x = some false) (hg : ∀ z : Int, g (.int .i64 z) = false ↔ left (.int .i64 z) = false ∨ z = x) : ∀ z, z ∈ q ↔ f z = some true ∧ g (.int .i64 z) = false := by
  intro z
  rw [h z, hg z]
  refine ⟨fun ⟨a, b⟩ => ⟨a, .inl b⟩, fun ⟨a, b⟩ => ⟨a, ?_⟩⟩
  rcases b with b | rfl
  · exact b
  · rw [hf] at a; cases a
theorem mem_add {f : Int → Option Bool} {left : Lit → Bool} {q : List Int} {x : Int} {g : Lit → Bool} (h : ∀ z, z ∈ q ↔ f z = some true ∧ left (.int .i64 z) = false) (hf : f x = some true) (hg : ∀ z : Int, g (.int .i64 z) = false ↔ left (.int .i64 z) = false ∨ z = x) (j : Nat) : ∀ z, z ∈ q.take j ++ x :: q.drop j ↔ f z = some true ∧ g (.int .i64 z) = false := by
  intro z
  rw [mem_put, h z, hg z]
  constructor
  · rintro (rfl | ⟨a, b⟩)
    · exact ⟨hf, .inr rfl⟩
    · exact ⟨a, .inl b⟩
  · rintro ⟨a, b | rfl⟩
    · exact .inr ⟨a, b⟩
    · exact .inl rfl
set_option maxRecDepth 100000 in
set_option maxHeartbeats 4000000 in
theorem refRising_any (B n : Nat) (D : DataW Unit) (f : Int → Option Bool) (w : World) (hD : w.ownsMap Try.prog 3 (plainElem Try.prog 4) B n D) (hm : Marks D f) (hs : Maps.size D ≤ 100000) :
    Calls Try.prog 82 #[.map (some B)] w fun e w' => ∃ v out, e = .returned v ∧ OutI w.heap.size w' v out ∧ Strict out ∧ (∀ x, x ∈ out ↔ f x = some true) ∧ Below w.heap.size w w' := by
  obtain ⟨i0, hi0, hz0, hz1, hz2⟩ := info_parts int_info
  have HD := Lib.hid hD
  have HM := Lib.hid hm
  have hBl : B < w.heap.size := hD.lt
  have hHas : Hid (∀ x, f x = some true → Maps.has D (.int .i64 x) = true) := Lib.hid (fun x hx => has_true_of_atKey (y := .lit (.bool true)) fun z => by rw [HM.out.at_ x (HM.out.wf x (by rw [hx]; simp)), hx])
  clear hD hm
  go_enter Try.func82, Try.ntmps82
  go_wp2_with (first
    | (at_range; refine wpList_range_own _ rfl _ 136 rfl 3 4 key_int' Try.underlying136 _ B n D rfl HD.out ?_; intro w0 hrg0 hg0 hs0)
    | go_in)
  go_frame
  go_loopw [3] (fun ov wr => ∃ (left : Lit → Bool) (cnt : Nat) (out : List Int), Hid (wr.ranges Try.prog 3 (plainElem Try.prog 4) B w.heap.size n D left cnt) ∧ out.length + cnt ≤ 100000 ∧ Hid (OutI (w.heap.size + 1) wr ov out) ∧ Hid (Strict out) ∧ Hid (∀ x, x ∈ out ↔ f x = some true ∧ left (.int .i64 x) = false) ∧ Hid (Below w.heap.size w wr) ∧ w.heap.size + 1 ≤ wr.heap.size) (fun _ wr => wr.rangeLeft B w.heap.size)
  case atStart => exact ⟨_, _, [], Lib.hid hrg0, by simpa using hs, Lib.hid (World.ownsRow_nil _ _ _ _), Lib.hid List.Pairwise.nil, Lib.hid (fun x => ⟨fun h => by simp at h, fun ⟨h1, h2⟩ => by rw [hHas.out x h1] at h2; cases h2⟩), Lib.hid ((Below.refl _ _).grown hg0 (Nat.le_refl _) (fun j hj => by cases hj)), by omega⟩
  case round =>
    obtain ⟨left, cnt, q, hrg, hcs, hot, hst, hmem, hb, hsz⟩ := hrel
    go_wp2_with (first
      | (at_next; refine wpList_next_ranges _ rfl _ rfl 3 key_int' (plainElem Try.prog 4) (Value.int .i64) (fun v : Value => v) (fun key kl hkey => by obtain ⟨x, rfl, _⟩ := Maps.keyOf_int_inv Try.underlying3 hkey; exact ⟨x, rfl⟩) (fun v y hv => ⟨v, rfl⟩) B w.heap.size n D left cnt rfl hrg.out ?_ ?_)
      | go_in)
    · intro hc0 hl0
      go_wp2
      go_ret
      exact ⟨_, q, rfl, own_lower hot.out (Nat.le_succ _), hst.out, fun x => ⟨fun h => ((hmem.out x).1 h).1, fun h => (hmem.out x).2 ⟨h, hl0 _⟩⟩, hb.out⟩
    · intro x v kl ya yb w1 cnt1 hkey hlx hv hat hrg1 hlt hg1 hs1 hen
      obtain ⟨x', ex, rfl, hwx⟩ := Maps.keyOf_int_inv Try.underlying3 hkey
      cases ex
      obtain ⟨c, rfl, ey⟩ := elem_bool hv
      replace ey : ya = .lit (.bool c) := ey
      have hfx : f x = some c := by
        have h1 := HM.out.at_ x hwx .nil
        rw [hat .nil, ey] at h1
        rcases hf : f x with _ | b
        · rw [hf] at h1; cases h1
        · rw [hf] at h1
          simp only at h1
          injection h1 with h1
          injection h1 with h1
          rw [h1]
      have HF := Lib.hid hfx
      have HL := Lib.hid hlx
      have HRG1 := Lib.hid hrg1
      have HM1 := Lib.hid (show cnt1 < cnt from hlt)
      have HB1 : Hid (Below w.heap.size w w1) := Lib.hid (hb.out.grown hg1 hb.out.size (fun j hj => by cases hj; exact Nat.le_refl _))
      have HO1 : Hid (OutI (w.heap.size + 1) w1 _ q) := Lib.hid (World.ownsRow.kept hot.out hg1 (by
        rcases hob : Value.ownBlock _ with _ | g
        · exact .inl rfl
        · refine .inr fun e => ?_
          have := (hot.out.lt g hob).1
          cases e
          omega))
      have HLeq := Lib.hid hrg.out.left_eq
      have hsz1 : w.heap.size + 1 ≤ w1.heap.size := by omega
      have hstrike : Hid (∀ z : Int, (left (.int .i64 z) && !(Lit.int .i64 z).sameKey (.int .i64 x)) = false ↔ left (.int .i64 z) = false ∨ z = x) := Lib.hid (fun z => by
        by_cases e : z = x
        · subst e; simp [Lit.sameKey]
        · cases left (.int .i64 z) <;> simp [Lit.sameKey, e])
      clear hkey hv hat hrg1 hg1 hfx hlx ey hb hot hrg hs1
      obtain ⟨AO, capO, rfl, hcapO⟩ := own_slice_n HO1.out
      cases c
      · go_wp2
        go_roundw
        case rel => exact ⟨_, cnt1, q, HRG1, by have := HM1.out; omega, HO1, hst, Lib.hid (mem_skip (g := fun z => left z && !z.sameKey (.int .i64 x)) hmem.out HF.out hstrike.out), HB1, hsz1⟩
        case measure => rw [HRG1.out.left_eq, HLeq.out]; exact HM1.out
      · have hxq : Hid (x ∉ q) := Lib.hid (fun h => by have := ((hmem.out x).1 h).2; rw [HL.out] at this; cases this)
        go_upto_block 2 with (fail)
        go_cut [6] from 16 to 29 (fun jv wc => ∃ j : Nat, j ≤ q.length ∧ jv = .int .i64 j ∧ Hid (∀ i (h : i < q.length), i < j → q[i] < x) ∧ Hid (∀ h : j < q.length, x ≤ q[j]) ∧ Hid (Below w1.heap.size w1 wc))
        case first =>
          go_wp2_with (fail)
          go_loopw [6] (fun jv wc => ∃ j : Nat, j ≤ q.length ∧ jv = .int .i64 j ∧ Hid (∀ i (h : i < q.length), i < j → q[i] < x) ∧ Hid (Below w1.heap.size w1 wc)) (fun jv _ => q.length - (intOf jv).toNat)
          case atStart => exact ⟨0, Nat.zero_le _, rfl, Lib.hid (fun i h hi => by omega), Lib.hid (Below.refl _ _)⟩
          case round =>
            obtain ⟨j, hj, rfl, hle, hbw⟩ := hrel
            by_cases hjl : j < q.length
            · obtain ⟨B2, o2, rfl, hB2, d0⟩ := HO1.out.num hjl
              have c0 : wr.cell? ⟨B2, o2 + j, none⟩ = some (.int .i64 q[j]) := by rw [hbw.out.cell hB2]; exact d0
              clear d0
              generalize hy : q[j] = y at *
              by_cases h2 : y < x
              · go_wp2_with (fail)
                go_roundw
                case rel => exact ⟨j + 1, by omega, by go_num, Lib.hid (fun i h hi => by
                  rcases Nat.lt_or_ge i j with h3 | h3
                  · exact hle.out i h h3
                  · obtain rfl : i = j := by omega
                    rw [hy]; exact h2), hbw⟩
                case measure => simp [intOf]; omega
              · go_wp2_with (fail)
                go_meet
                exact ⟨j, by omega, rfl, hle, Lib.hid (fun h => by rw [hy]; omega), hbw⟩
            · go_wp2_with (fail)
              go_meet
              exact ⟨j, by omega, rfl, hle, Lib.hid (fun h => absurd h hjl), hbw⟩
        case rest =>
          obtain ⟨j, hj, rfl, hle, hgt, hbc⟩ := hcut
          have HO2 := Lib.hid (show OutI _ _ _ _ from own_below HO1.out hbc.out)
          have SL1 := Lib.hid (clip_run (T := 22) (size := 1) el_ints sz_ints AO q.length capO j hj hcapO)
          have SL2 := Lib.hid (cut_run (T := 22) (size := 1) el_ints sz_ints AO q.length capO j hj)
          go_upto_region 9 with (fail)
          refine wp_region_z (S := (fun _ => True)) (z := 12) (by kernel_rfl) trivial (fun hH => ?_)
          refine wpAnyZ_takeS (i := 0) (v := ?_) rfl (by kernel_rfl) (by kernel_rfl) (by kernel_rfl) (by kernel_rfl) (fun _ _ _ h => h) (gives_value (by rfl) ?_) (by assumption) ?_
          rotate_left
          · intro w hSw
            (try dsimp only at hSw)
            go_simp
            (try with_reducible rfl)
          (try simp only [Act.put, List.getElem_toArray, List.getElem_cons_succ, List.getElem_cons_zero, List.setIfInBounds_toArray, List.set_cons_zero, List.set_cons_succ])
          refine wpAnyZ_takeS (i := 1) (v := ?_) rfl (by kernel_rfl) (by kernel_rfl) (by kernel_rfl) (by kernel_rfl) (fun _ _ _ h => h) (gives_value (by rfl) ?_) (by assumption) ?_
          rotate_left
          · intro w hSw
            (try dsimp only at hSw)
            go_simp
            (try with_reducible rfl)
          (try simp only [Act.put, List.getElem_toArray, List.getElem_cons_succ, List.getElem_cons_zero, List.setIfInBounds_toArray, List.set_cons_zero, List.set_cons_succ])
          refine wpAnyZ_takeS (i := 2) (v := ?_) rfl (by kernel_rfl) (by kernel_rfl) (by kernel_rfl) (by kernel_rfl) (fun _ _ _ h => h) (gives_value (by rfl) ?_) (by assumption) ?_
          rotate_left
          · intro w hSw
            (try dsimp only at hSw)
            go_simp
            (try with_reducible rfl)
          (try simp only [Act.put, List.getElem_toArray, List.getElem_cons_succ, List.getElem_cons_zero, List.setIfInBounds_toArray, List.set_cons_zero, List.set_cons_succ])
          refine wpAnyZ_takeS (i := 3) (v := .slice (clipA AO j 1) j j) rfl (by kernel_rfl) (by kernel_rfl) (by kernel_rfl) (by kernel_rfl) (fun _ _ _ h => h) (gives_value (by rfl) ?_) (by assumption) ?_
          · intro w hSw
            have q := SL1.out w
            clear hSw
            go_simp
          (try simp only [Act.put, List.getElem_toArray, List.getElem_cons_succ, List.getElem_cons_zero, List.setIfInBounds_toArray, List.set_cons_zero, List.set_cons_succ])
          refine wpAnyZ_takeS (i := 4) (v := ?_) rfl (by kernel_rfl) (by kernel_rfl) (by kernel_rfl) (by kernel_rfl) (fun _ _ _ h => h) (gives_value (by rfl) ?_) (by assumption) ?_
          rotate_left
          · intro w hSw
            (try dsimp only at hSw)
            go_simp
            (try with_reducible rfl)
          (try simp only [Act.put, List.getElem_toArray, List.getElem_cons_succ, List.getElem_cons_zero, List.setIfInBounds_toArray, List.set_cons_zero, List.set_cons_succ])
          refine wpAnyZ_takeS (i := 6) (v := ?_) rfl (by kernel_rfl) (by kernel_rfl) (by kernel_rfl) (by kernel_rfl) (fun _ _ _ h => h) (gives_value (by rfl) ?_) (by assumption) ?_
          rotate_left
          · intro w hSw
            (try dsimp only at hSw)
            go_simp
            (try with_reducible rfl)
          (try simp only [Act.put, List.getElem_toArray, List.getElem_cons_succ, List.getElem_cons_zero, List.setIfInBounds_toArray, List.set_cons_zero, List.set_cons_succ])
          refine wpAnyZ_takeS (i := 7) (v := ?_) rfl (by kernel_rfl) (by kernel_rfl) (by kernel_rfl) (by kernel_rfl) (fun _ _ _ h => h) (gives_value (by rfl) ?_) (by assumption) ?_
          rotate_left
          · intro w hSw
            (try dsimp only at hSw)
            go_simp
            (try with_reducible rfl)
          (try simp only [Act.put, List.getElem_toArray, List.getElem_cons_succ, List.getElem_cons_zero, List.setIfInBounds_toArray, List.set_cons_zero, List.set_cons_succ])
          refine wpAnyZ_takeS (i := 8) (v := .slice (cutA AO capO j 1) (q.length - j) (capO - j)) rfl (by kernel_rfl) (by kernel_rfl) (by kernel_rfl) (by kernel_rfl) (fun _ _ _ h => h) (gives_value (by rfl) ?_) (by assumption) ?_
          · intro w hSw
            have q := SL2.out w
            clear hSw
            go_simp
          (try simp only [Act.put, List.getElem_toArray, List.getElem_cons_succ, List.getElem_cons_zero, List.setIfInBounds_toArray, List.set_cons_zero, List.set_cons_succ])
          refine wpAnyZ_one (i := 5) (by kernel_rfl) ?_
          refine zstep rfl (fun K hK => ?_)
          go_simp
          refine hK.out _ _ (fun _ => trivial) (fun hH => ?_)
          replace hH := hH (by decide)
          clear hK K
          (try simp only [Act.put, List.getElem_toArray, List.getElem_cons_succ, List.getElem_cons_zero, List.setIfInBounds_toArray, List.set_cons_zero, List.set_cons_succ])
          generalize hw2 : (wc.alloc (.cells #[.int .i64 x] 3)).drew = w2 at *
          have HB3 : Hid (Below wc.heap.size wc w2) := Lib.hid (by subst hw2; exact ((Below.refl _ _).alloc (Nat.le_refl _) _).drew)
          have OW : Hid (w2.ownsRow wc.heap.size 3 1 (.slice (some ⟨wc.heap.size, 0, none⟩) 1 1) 1 (ints [x])) := Lib.hid (by subst hw2; exact own_draws (own_single (w := wc) (xs := ints [x]) rfl (Nat.le_refl _)) 1)
          have RQ : Hid (Reads w2 wc.heap.size 1 AO q.length (ints q)) := Lib.hid ((Reads.of_own HO2.out).below HB3.out)
          have RC : Hid (Reads w2 wc.heap.size 1 (cutA AO capO j 1) (q.length - j) ((ints q).drop (j * 1))) := Lib.hid (RQ.out.cut hj hcapO)
          have hge3 : wc.heap.size ≤ w2.heap.size := HB3.out.size
          clear hw2
          refine wpAnyZ_one (i := 9) (by kernel_rfl) ?_
          refine zstep rfl (fun K hK => ?_)
          refine step_append_any w2 rfl (.tmp 35) (.tmp 38) 22 rfl wc.heap.size 3 i0 _ 1 8 Try.underlying22 hi0 hz0 hz1 hz2 rfl (by decide) (.slice (some ⟨wc.heap.size, 0, none⟩) 1 1) 1 (ints [x]) (by rfl) OW.out wc.heap.size (cutA AO capO j 1) (q.length - j) (capO - j) _ (by rfl) RC.out (fun u hu => ints_one q u (List.mem_of_mem_drop hu)) (by unfold maxLen; omega) (by omega) hge3 ?_
          intro v1 w3 hown1 hgrow hob
          have HB4 : Hid (Below wc.heap.size wc w3) := Lib.hid (HB3.out.grown hgrow hge3 (fun g hg => (own_typed OW.out hg).2))
          have RQ3 : Hid (Reads w3 wc.heap.size 1 AO q.length (ints q)) := Lib.hid (RQ.out.grown hgrow hge3 (fun g hg => (own_typed OW.out hg).2))
          have OW1 := Lib.hid hown1
          clear hown1 hgrow hob
          refine hK.out _ _ (fun _ => trivial) (fun hH => ?_)
          replace hH := hH (by decide)
          clear hK K
          (try simp only [Act.put, List.getElem_toArray, List.getElem_cons_succ, List.getElem_cons_zero, List.setIfInBounds_toArray, List.set_cons_zero, List.set_cons_succ])
          refine wpAnyZ_one (i := 10) (by kernel_rfl) ?_
          refine zstep rfl (fun K hK => ?_)
          refine step_append_clip w3 rfl (.tmp 33) (.tmp 39) 22 rfl 3 i0 _ 1 8 Try.underlying22 hi0 hz0 hz1 hz2 rfl (by decide) wc.heap.size AO q.length _ RQ3.out j hj (by rfl) wc.heap.size v1 (1 + (q.length - j)) _ OW1.out (by omega) (by rfl) (fun u hu => by
            rcases List.mem_append.1 hu with hu | hu
            · exact ints_one _ u hu
            · exact ints_one q u (List.mem_of_mem_drop hu)) (by unfold maxLen; omega) (by omega) ?_
          intro v2 w4 hown2 hgrow
          have HB5 : Hid (Below w1.heap.size w1 w4) := Lib.hid (hbc.out.trans ((HB4.out.grown hgrow HB4.out.size (fun g hg => by cases hg)).mono hbc.out.size))
          have HFn : Hid (OutI (w.heap.size + 1) w4 v2 (q.take j ++ x :: q.drop j)) := Lib.hid (own_lower (insI_cut hj hown2) (Nat.le_trans hsz1 (Nat.le_trans hbc.out.size HB4.out.size)))
          have HRG4 := Lib.hid (HRG1.out.kept (only_of_below HB5.out none) (by simp) (by simp))
          clear hown2 hgrow
          refine hK.out _ _ (fun _ => trivial) (fun hH => ?_)
          replace hH := hH (by decide)
          clear hK K
          (try simp only [Act.put, List.getElem_toArray, List.getElem_cons_succ, List.getElem_cons_zero, List.setIfInBounds_toArray, List.set_cons_zero, List.set_cons_succ])
          refine wpAnyZ_takeS (i := 11) (v := ?_) rfl (by kernel_rfl) (by kernel_rfl) (by kernel_rfl) (by kernel_rfl) (fun _ _ _ h => h) (gives_value (by rfl) ?_) (by assumption) ?_
          rotate_left
          · intro w hSw
            (try dsimp only at hSw)
            go_simp
            (try with_reducible rfl)
          (try simp only [Act.put, List.getElem_toArray, List.getElem_cons_succ, List.getElem_cons_zero, List.setIfInBounds_toArray, List.set_cons_zero, List.set_cons_succ])
          refine wpAnyZ_done (by kernel_rfl) ?_ _
          clear hH
          go_wp2
          go_roundw
          case rel => exact ⟨_, cnt1, _, HRG4, by have := HM1.out; simp; omega, HFn, Lib.hid (strict_put hst.out hle.out hj hgt.out hxq.out), Lib.hid (mem_add (g := fun z => left z && !z.sameKey (.int .i64 x)) hmem.out HF.out hstrike.out j), Lib.hid (HB1.out.trans (HB5.out.mono HB1.out.size)), Nat.le_trans hsz1 HB5.out.size⟩
          case measure => rw [HRG4.out.left_eq, HLeq.out]; exact HM1.out
end Go.Proofs.Ytneelmmikaefgaa
