/- What a call has made in blocks from lo on, but for one block, stays whatever is written elsewhere. · slices.Clone: a new row that holds the records; slices.Equal of two rows of the same ones. · fits.copyOf: the problem in new memory. · fits.alike of two problems that are the same: true. · A table of package fits, said plainly: heads, tails, costs at a place; how it lies in memory. -/
import Derived.Test.YtkheepedjoimmaaTabMk
import Derived.Test.YtkheepedjoimmaaBoxes
import Derived.Laws.StructEq
import Derived.Lib.SliceRun
import Derived.ChangeKeysEq
import Derived.Test.YtkheepedjoimmaaCodeExt
import Derived.Test.YtkheepedjoimmaaZB
namespace Go.Proofs.Ytkheepedjoimmaa
open Go.RowKit
set_option linter.unusedSimpArgs false

/-- from lo on, but for block a, all that W had stands in W' -/
structure Ex (lo a : Nat) (W W' : World) : Prop where
  size : W.heap.size ≤ W'.heap.size
  block : ∀ b, lo ≤ b → b ≠ a → b < W.heap.size → W'.heap[b]? = W.heap[b]?
theorem Ex.refl (lo a : Nat) (W : World) : Ex lo a W W := ⟨Nat.le_refl _, fun _ _ _ _ => rfl⟩
theorem Ex.trans {lo a : Nat} {W W1 W2 : World} (h : Ex lo a W W1) (k : Ex lo a W1 W2) : Ex lo a W W2 :=
  ⟨Nat.le_trans h.size k.size, fun b h1 h2 h3 => (k.block b h1 h2 (Nat.lt_of_lt_of_le h3 h.size)).trans (h.block b h1 h2 h3)⟩
theorem Ex.of_below {lo a : Nat} {W W' : World} (h : Below W.heap.size W W') : Ex lo a W W' := ⟨h.size, fun b _ _ h3 => h.block b h3⟩
theorem Ex.of_grown {lo a : Nat} {W W' : World} {row : Option Nat} (h : W.grownBy W' row) (hr : ∀ b, row = some b → b < lo ∨ b = a) : Ex lo a W W' :=
  ⟨h.size, fun b h1 h2 h3 => h.block b h3 (fun e => by rcases hr b e.symm with q | q <;> omega)⟩
def Young (lo a : Nat) (W : World) (P : World → Prop) : Prop := ∀ W', Ex lo a W W' → P W'
section
variable {lo lo' a a' : Nat} {W W' : World} {P Q : World → Prop}
theorem Young.now (h : Young lo a W P) : P W := h W (Ex.refl _ _ _)
theorem Young.on (h : Young lo a W P) (e : Ex lo a W W') : Young lo a W' P := fun W2 h2 => h W2 (e.trans h2)
theorem Young.below (h : Young lo a W P) (hb : Below W.heap.size W W') : Young lo a W' P := h.on (Ex.of_below hb)
theorem Young.and (h : Young lo a W P) (k : Young lo a W Q) : Young lo a W fun W => P W ∧ Q W := fun W2 h2 => ⟨h W2 h2, k W2 h2⟩
theorem Young.imp (h : Young lo a W P) (f : ∀ W', P W' → Q W') : Young lo a W Q := fun W2 h2 => f W2 (h W2 h2)
theorem Young.low (h : Young lo a W P) (hl : lo' ≤ lo) : Young lo' a W P := fun W2 h2 => h W2 ⟨h2.size, fun b h1 => h2.block b (Nat.le_trans hl h1)⟩
/-- a block that is not there yet may as well be any other one that is not there, or lies below -/
theorem Young.swap (h : Young lo a W P) (hn : a' < lo ∨ W.heap.size ≤ a') : Young lo a' W P := fun W2 h2 => h W2 ⟨h2.size, fun b h1 _ h3 => h2.block b h1 (by omega) h3⟩
end
theorem own_young {lo a : Nat} {W : World} {e : TypeId} {size n : Nat} {v : Value} {xs : List Value} (h : W.ownsRow lo e size v n xs) (ha : v.ownBlock ≠ some a) : Young lo a W fun W' => W'.ownsRow lo e size v n xs := fun W' hx => by
  refine ⟨h.1, ?_⟩
  rcases h.2 with hn | ⟨g, cap, cur, rfl, hb, hg, rest⟩
  · exact .inl hn
  · refine .inr ⟨g, cap, cur, rfl, hb, ?_, rest⟩
    rw [hx.block g hb (fun e => ha (by rw [← e]; rfl)) (Array.getElem?_eq_some_iff.1 hg).1]
    exact hg
theorem blk_young {lo a : Nat} {W : World} {g : Nat} {xs : List Value} (h : Blk W g xs) (hg : lo ≤ g) (ha : g ≠ a) : Young lo a W fun W' => Blk W' g xs := fun _ hx => h.heap (hx.block g hg ha h.1) hx.size
theorem cells_young {lo a : Nat} {W : World} {g m n : Nat} {f : Nat → List Value} (h : RowC W g m f n) (hg : lo ≤ g) (ha : g ≠ a) : Young lo a W fun W' => RowC W' g m f n := fun _ hx =>
  ⟨Nat.lt_of_lt_of_le h.1 hx.size, fun k hk j u hj hu => by rw [World.cell?_of_block (w := W) (hx.block g hg ha h.1)]; exact h.2 k hk j u hj hu⟩
/-- a row of records as what an append copies -/
theorem recs_reads {α : Type} {w : World} {c : Nat} {g : α → Nat → Int} {f : α → List Value} {A : Option Addr} {cap : Nat} {l : List α} (h : Recs w c g (.slice A l.length cap) l) (hf : ∀ x, (f x).length = c) (hg : ∀ x j, j < c → (f x)[j]? = some (.int .i64 (g x j))) : Reads w w.heap.size c A l.length (l.flatMap f) := by
  obtain ⟨A', cap', e, hc⟩ := h
  obtain rfl : A = A' := by injection e
  have hl : ∀ l : List α, (l.flatMap f).length = l.length * c := fun l => by
    induction l with
    | nil => simp
    | cons x l ih => rw [List.flatMap_cons, List.length_append, ih, hf, List.length_cons, Nat.succ_mul, Nat.add_comm]
  refine ⟨hl l, fun hn => ?_⟩
  obtain ⟨B, o, rfl, hB, _⟩ := hc 0 hn
  refine ⟨_, rfl, hB, fun j u hu => ?_⟩
  have hj := (List.getElem?_eq_some_iff.1 hu).1
  rw [hl] at hj
  have hc0 : 0 < c := by rcases Nat.eq_zero_or_pos c with h | h <;> simp_all
  have hd : j / c < l.length := Nat.div_lt_of_lt_mul (by rw [Nat.mul_comm]; exact hj)
  have hm := Nat.mod_lt j hc0
  have hdm : j / c * c + j % c = j := by rw [Nat.mul_comm]; exact Nat.div_add_mod j c
  obtain ⟨B', o', e', _, hx⟩ := hc (j / c) hd
  have e2 : B = B' ∧ o = o' := by injection e' with e'; injection e' with a b; exact ⟨a, b⟩
  obtain ⟨rfl, rfl⟩ := e2
  have hq := hx (j % c) hm
  rw [Nat.add_assoc, hdm] at hq
  have ha : (⟨B, o, none⟩ : Addr).add j = ⟨B, o + j, none⟩ := by unfold Addr.add; split <;> simp_all
  rw [ha, hq]
  have := flat_get hf l (j / c) (j % c) hd hm
  rw [hdm, hu] at this
  rw [this, hg _ _ hm]
theorem ints_flat {α : Type} (f : α → List Int) (l : List α) : ∀ u ∈ (l.flatMap fun x => ints (f x)), u.oneCell' = true := by
  intro u hu
  obtain ⟨x, _, hx⟩ := List.mem_flatMap.1 hu
  exact ints_one _ u hx
/-- a new row that holds the list's records -/
def CloneIs {α : Type} (c : Nat) (g : α → Nat → Int) (l : List α) (w : World) (e : Ending) (w' : World) : Prop :=
  ∃ A cap, e = .returned (.slice A l.length cap) ∧ Young w.heap.size w'.heap.size w' (fun W => Recs W c g (.slice A l.length cap) l) ∧ Below w.heap.size w w'
theorem clone_nil {α : Type} {c : Nat} {g : α → Nat → Int} {l : List α} {w w' : World} {cap : Nat} (h : Recs w c g (.slice none l.length cap) l) (hb : Below w.heap.size w w') : CloneIs c g l w (.returned (.slice none 0 0)) w' := by
  obtain ⟨A', cap', e, hc⟩ := h
  have hl : l = [] := by
    rcases l with _ | ⟨x, l⟩
    · rfl
    · obtain ⟨B, o, rfl, _⟩ := hc 0 (by simp)
      injection e with e _ _; cases e
  subst hl
  exact ⟨none, 0, rfl, fun _ _ => Recs.nil, hb⟩
theorem clone_own {α : Type} {c : Nat} {g : α → Nat → Int} {f : α → List Value} {l : List α} {w w' : World} {v : Value} {T : TypeId} (h : w'.ownsRow w.heap.size T c v l.length (l.flatMap f)) (hf : ∀ x, (f x).length = c) (hg : ∀ x j, j < c → (f x)[j]? = some (.int .i64 (g x j))) (hb : Below w.heap.size w w') : CloneIs c g l w (.returned v) w' := by
  obtain ⟨A, cap, rfl, _⟩ := own_get h
  refine ⟨A, cap, rfl, (own_young h (fun e => ?_)).imp fun W' h' => own_recs h' hf hg, hb⟩
  have := (h.lt _ e).2
  omega
end Go.Proofs.Ytkheepedjoimmaa
namespace Go.Proofs.Ytkheepedjoimmaa
open Go.RowKit
set_option linter.unusedSimpArgs false

theorem cells_ints (x : Int) (j : Nat) (hj : j < 1) : ((fun x => ints [x]) x)[j]? = some (.int .i64 (num_ x j)) := by
  match j, hj with
  | 0, _ => rfl
set_option maxRecDepth 100000 in
set_option maxHeartbeats 1000000 in
theorem clone_ints (A : Option Addr) (cap : Nat) (l : List Int) (w : World) (h : Recs w 1 num_ (.slice A l.length cap) l) (hl : l.length ≤ 1000000) :
    Calls Try.prog 58 #[.slice A l.length cap] w (CloneIs 1 num_ l w) := by
  obtain ⟨i0, hi, hz0, hz1, hz2⟩ := info_parts int_info
  have qT : ∀ (w : World) (a : Option Addr) (n c n' c' : Nat), (binOp .eql 22 (.slice a n c) (.slice none n' c')).run Try.prog w = .ok (.bool a.isNone) w := fun w a n c n' c' => Lib.run_eql_slice_nil w _ _ a n c n' c' Try.underlying22
  cases A with
  | none =>
    have HR := Lib.hid h
    clear h
    go_enter Try.func58, Try.ntmps58
    go_wp2
    go_ret
    exact clone_nil HR.out (Below.refl _ _)
  | some ad =>
    have RD : Hid (Reads (w.alloc (.cells #[] 3)) w.heap.size 1 (some ad) l.length (l.flatMap (fun x => ints [x]))) := (recs_reads h (f := fun x => ints [x]) (fun _ => rfl) cells_ints).alloc (Nat.le_refl _) _
    have OW : Hid ((w.alloc (.cells #[] 3)).ownsRow w.heap.size 3 1 (.slice (some ⟨w.heap.size, 0, none⟩) 0 0) 0 []) := World.ownsRow_made w #[] 0 (Nat.le_refl _) (by decide) rfl
    have HB0 := Lib.hid ((Below.refl w.heap.size w).alloc (Nat.le_refl _) (.cells #[] 3))
    clear h
    go_enter Try.func58, Try.ntmps58
    go_wp2_with (at_builtin; refine wpList_append_any _ rfl _ _ 22 rfl w.heap.size 3 i0 _ 1 8 Try.underlying22 hi hz0 hz1 hz2 rfl (by decide) (.slice (some ⟨w.heap.size, 0, none⟩) 0 0) 0 [] rfl OW.out w.heap.size (some ad) l.length cap (l.flatMap (fun x => ints [x])) rfl RD.out ?c1 ?c2 ?c3 ?c4 ?_)
    case c1 => exact ints_flat _ l
    case c2 => unfold maxLen; omega
    case c3 => omega
    case c4 => simp
    intro v' w2 hown hgrow hob
    obtain ⟨ao, n', cap', rfl⟩ := own_slice hown
    have HO := Lib.hid hown
    have HG := Lib.hid (HB0.out.grown hgrow HB0.out.size (fun k hk => by simp [Value.ownBlock] at hk; omega))
    clear hown hgrow hob
    go_wp2
    go_ret
    exact clone_own HO.out (fun _ => rfl) cells_ints HG.out
theorem cells_cars (x : Car) (j : Nat) (hj : j < 3) : ((fun x => ints (carNums x)) x)[j]? = some (.int .i64 (Car.at_ x j)) := by
  match j, hj with
  | 0, _ | 1, _ | 2, _ => rfl
set_option maxRecDepth 100000 in
set_option maxHeartbeats 1000000 in
theorem clone_cars (A : Option Addr) (cap : Nat) (l : List Car) (w : World) (h : Recs w 3 Car.at_ (.slice A l.length cap) l) (hl : l.length ≤ 1000000) :
    Calls Try.prog 59 #[.slice A l.length cap] w (CloneIs 3 Car.at_ l w) := by
  obtain ⟨i0, hi, hz0, hz1, hz2⟩ := info_parts car_info
  have qT : ∀ (w : World) (a : Option Addr) (n c n' c' : Nat), (binOp .eql 23 (.slice a n c) (.slice none n' c')).run Try.prog w = .ok (.bool a.isNone) w := fun w a n c n' c' => Lib.run_eql_slice_nil w _ _ a n c n' c' Try.underlying23
  cases A with
  | none =>
    have HR := Lib.hid h
    clear h
    go_enter Try.func59, Try.ntmps59
    go_wp2
    go_ret
    exact clone_nil HR.out (Below.refl _ _)
  | some ad =>
    have RD : Hid (Reads (w.alloc (.cells #[] 52)) w.heap.size 3 (some ad) l.length (l.flatMap (fun x => ints (carNums x)))) := (recs_reads h (f := fun x => ints (carNums x)) (fun _ => rfl) cells_cars).alloc (Nat.le_refl _) _
    have OW : Hid ((w.alloc (.cells #[] 52)).ownsRow w.heap.size 52 3 (.slice (some ⟨w.heap.size, 0, none⟩) 0 0) 0 []) := World.ownsRow_made w #[] 0 (Nat.le_refl _) (by decide) rfl
    have HB0 := Lib.hid ((Below.refl w.heap.size w).alloc (Nat.le_refl _) (.cells #[] 52))
    clear h
    go_enter Try.func59, Try.ntmps59
    go_wp2_with (at_builtin; refine wpList_append_any _ rfl _ _ 23 rfl w.heap.size 52 i0 _ 3 24 Try.underlying23 hi hz0 hz1 hz2 rfl (by decide) (.slice (some ⟨w.heap.size, 0, none⟩) 0 0) 0 [] rfl OW.out w.heap.size (some ad) l.length cap (l.flatMap (fun x => ints (carNums x))) rfl RD.out ?c1 ?c2 ?c3 ?c4 ?_)
    case c1 => exact ints_flat _ l
    case c2 => unfold maxLen; omega
    case c3 => omega
    case c4 => simp
    intro v' w2 hown hgrow hob
    obtain ⟨ao, n', cap', rfl⟩ := own_slice hown
    have HO := Lib.hid hown
    have HG := Lib.hid (HB0.out.grown hgrow HB0.out.size (fun k hk => by simp [Value.ownBlock] at hk; omega))
    clear hown hgrow hob
    go_wp2
    go_ret
    exact clone_own HO.out (fun _ => rfl) cells_cars HG.out
theorem cells_stops (x : Stop) (j : Nat) (hj : j < 4) : ((fun x => ints (stopNums x)) x)[j]? = some (.int .i64 (Stop.at_ x j)) := by
  match j, hj with
  | 0, _ | 1, _ | 2, _ | 3, _ => rfl
set_option maxRecDepth 100000 in
set_option maxHeartbeats 1000000 in
theorem clone_stops (A : Option Addr) (cap : Nat) (l : List Stop) (w : World) (h : Recs w 4 Stop.at_ (.slice A l.length cap) l) (hl : l.length ≤ 1000000) :
    Calls Try.prog 60 #[.slice A l.length cap] w (CloneIs 4 Stop.at_ l w) := by
  obtain ⟨i0, hi, hz0, hz1, hz2⟩ := info_parts stop_info
  have qT : ∀ (w : World) (a : Option Addr) (n c n' c' : Nat), (binOp .eql 24 (.slice a n c) (.slice none n' c')).run Try.prog w = .ok (.bool a.isNone) w := fun w a n c n' c' => Lib.run_eql_slice_nil w _ _ a n c n' c' Try.underlying24
  cases A with
  | none =>
    have HR := Lib.hid h
    clear h
    go_enter Try.func60, Try.ntmps60
    go_wp2
    go_ret
    exact clone_nil HR.out (Below.refl _ _)
  | some ad =>
    have RD : Hid (Reads (w.alloc (.cells #[] 48)) w.heap.size 4 (some ad) l.length (l.flatMap (fun x => ints (stopNums x)))) := (recs_reads h (f := fun x => ints (stopNums x)) (fun _ => rfl) cells_stops).alloc (Nat.le_refl _) _
    have OW : Hid ((w.alloc (.cells #[] 48)).ownsRow w.heap.size 48 4 (.slice (some ⟨w.heap.size, 0, none⟩) 0 0) 0 []) := World.ownsRow_made w #[] 0 (Nat.le_refl _) (by decide) rfl
    have HB0 := Lib.hid ((Below.refl w.heap.size w).alloc (Nat.le_refl _) (.cells #[] 48))
    clear h
    go_enter Try.func60, Try.ntmps60
    go_wp2_with (at_builtin; refine wpList_append_any _ rfl _ _ 24 rfl w.heap.size 48 i0 _ 4 32 Try.underlying24 hi hz0 hz1 hz2 rfl (by decide) (.slice (some ⟨w.heap.size, 0, none⟩) 0 0) 0 [] rfl OW.out w.heap.size (some ad) l.length cap (l.flatMap (fun x => ints (stopNums x))) rfl RD.out ?c1 ?c2 ?c3 ?c4 ?_)
    case c1 => exact ints_flat _ l
    case c2 => unfold maxLen; omega
    case c3 => omega
    case c4 => simp
    intro v' w2 hown hgrow hob
    obtain ⟨ao, n', cap', rfl⟩ := own_slice hown
    have HO := Lib.hid hown
    have HG := Lib.hid (HB0.out.grown hgrow HB0.out.size (fun k hk => by simp [Value.ownBlock] at hk; omega))
    clear hown hgrow hob
    go_wp2
    go_ret
    exact clone_own HO.out (fun _ => rfl) cells_stops HG.out
theorem cells_pairs (x : Pair) (j : Nat) (hj : j < 2) : ((fun x => ints (pairNums x)) x)[j]? = some (.int .i64 (Pair.at_ x j)) := by
  match j, hj with
  | 0, _ | 1, _ => rfl
set_option maxRecDepth 100000 in
set_option maxHeartbeats 1000000 in
theorem clone_pairs (A : Option Addr) (cap : Nat) (l : List Pair) (w : World) (h : Recs w 2 Pair.at_ (.slice A l.length cap) l) (hl : l.length ≤ 1000000) :
    Calls Try.prog 61 #[.slice A l.length cap] w (CloneIs 2 Pair.at_ l w) := by
  obtain ⟨i0, hi, hz0, hz1, hz2⟩ := info_parts pair_info
  have qT : ∀ (w : World) (a : Option Addr) (n c n' c' : Nat), (binOp .eql 25 (.slice a n c) (.slice none n' c')).run Try.prog w = .ok (.bool a.isNone) w := fun w a n c n' c' => Lib.run_eql_slice_nil w _ _ a n c n' c' Try.underlying25
  cases A with
  | none =>
    have HR := Lib.hid h
    clear h
    go_enter Try.func61, Try.ntmps61
    go_wp2
    go_ret
    exact clone_nil HR.out (Below.refl _ _)
  | some ad =>
    have RD : Hid (Reads (w.alloc (.cells #[] 68)) w.heap.size 2 (some ad) l.length (l.flatMap (fun x => ints (pairNums x)))) := (recs_reads h (f := fun x => ints (pairNums x)) (fun _ => rfl) cells_pairs).alloc (Nat.le_refl _) _
    have OW : Hid ((w.alloc (.cells #[] 68)).ownsRow w.heap.size 68 2 (.slice (some ⟨w.heap.size, 0, none⟩) 0 0) 0 []) := World.ownsRow_made w #[] 0 (Nat.le_refl _) (by decide) rfl
    have HB0 := Lib.hid ((Below.refl w.heap.size w).alloc (Nat.le_refl _) (.cells #[] 68))
    clear h
    go_enter Try.func61, Try.ntmps61
    go_wp2_with (at_builtin; refine wpList_append_any _ rfl _ _ 25 rfl w.heap.size 68 i0 _ 2 16 Try.underlying25 hi hz0 hz1 hz2 rfl (by decide) (.slice (some ⟨w.heap.size, 0, none⟩) 0 0) 0 [] rfl OW.out w.heap.size (some ad) l.length cap (l.flatMap (fun x => ints (pairNums x))) rfl RD.out ?c1 ?c2 ?c3 ?c4 ?_)
    case c1 => exact ints_flat _ l
    case c2 => unfold maxLen; omega
    case c3 => omega
    case c4 => simp
    intro v' w2 hown hgrow hob
    obtain ⟨ao, n', cap', rfl⟩ := own_slice hown
    have HO := Lib.hid hown
    have HG := Lib.hid (HB0.out.grown hgrow HB0.out.size (fun k hk => by simp [Value.ownBlock] at hk; omega))
    clear hown hgrow hob
    go_wp2
    go_ret
    exact clone_own HO.out (fun _ => rfl) cells_pairs HG.out
theorem pair_same (x0 x1 : Int) (w : World) : (binOp .neq 68 (.agg #[.int .i64 x0, .int .i64 x1]) (.agg #[.int .i64 x0, .int .i64 x1])).run Try.prog w = .ok (.bool false) w := by
  obtain ⟨i0, hi, _, _, hz⟩ := info_parts int_info
  have hc : Try.prog.cellsOf 3 = 1 := by kernel_rfl
  have hp : ∀ (xs : Array Value) (off : Nat) (v : Value), xs[off]? = some v → (part 3 xs off).run Try.prog w = .ok v w := fun xs off v hx => run_part_plain w (by kernel_rfl) hx
  have he : ∀ x : Int, (Op.equalIn 9999 3 (.int .i64 x) (.int .i64 x)).run Try.prog w = .ok true w := fun x => by
    have := run_equalIn_int w 9998 3 .i64 .i64 x x Try.underlying3
    rw [beq_self_eq_true] at this; exact this
  rw [run_neq_struct, show (10000 : Nat) = 9999 + 1 from rfl, run_equalIn_array w 9999 _ _ Try.underlying68 hi, hc]
  simp [Op.eqItems, List.range, List.range.loop, hp #[.int .i64 x0, .int .i64 x1] 0 (.int .i64 x0) rfl, hp #[.int .i64 x0, .int .i64 x1] 1 (.int .i64 x1) rfl, he]
set_option maxRecDepth 100000 in
set_option maxHeartbeats 1000000 in
theorem equal_ints (A1 A2 : Option Addr) (p1 p2 : Nat) (l : List Int) (w : World) (h1 : Recs w 1 num_ (.slice A1 l.length p1) l) (h2 : Recs w 1 num_ (.slice A2 l.length p2) l) (hl : l.length ≤ 1000000) :
    Calls Try.prog 66 #[.slice A1 l.length p1, .slice A2 l.length p2] w fun e w' => e = .returned (.bool true) ∧ ∃ n, w' = w.drewN n := by
  obtain ⟨A1', c1', e1, hc1⟩ := h1
  obtain ⟨A2', c2', e2, hc2⟩ := h2
  obtain ⟨rfl, rfl⟩ : A1 = A1' ∧ p1 = c1' := by injection e1 with a _ b; exact ⟨a, b⟩
  obtain ⟨rfl, rfl⟩ : A2 = A2' ∧ p2 = c2' := by injection e2 with a _ b; exact ⟨a, b⟩
  have H1 := Lib.hid hc1
  have H2 := Lib.hid hc2
  clear hc1 hc2 e1 e2
  have tl : (((l.length : Nat) : Int) != (l.length : Int)) = false := by simp
  go_enter Try.func66, Try.ntmps66
  go_wp2
  clear tl
  go_loopw [13] (fun i wr => ∃ k n : Nat, k ≤ l.length ∧ i = .int .i64 k ∧ wr = w.drewN n) (fun i _ => l.length - (intOf i).toNat)
  case atStart => exact ⟨0, 0, Nat.zero_le _, rfl, rfl⟩
  case round =>
    obtain ⟨k, n, hk, rfl, rfl⟩ := hrel
    by_cases hlt : k < l.length
    · obtain ⟨g1, o1, rfl, hg1, d1⟩ := H1.out k hlt
      obtain ⟨g2, o2, rfl, hg2, d2⟩ := H2.out k hlt
      have a0 : w.cell? ⟨g1, o1 + k, none⟩ = some (.int .i64 (num_ l[k] 0)) := by have := d1 0 (by omega); simpa using this
      have b0 : w.cell? ⟨g2, o2 + k, none⟩ = some (.int .i64 (num_ l[k] 0)) := by have := d2 0 (by omega); simpa using this
      clear d1 d2
      generalize num_ l[k] 0 = x0 at *
      go_wp2
      go_quiet (fail)
      go_wp2
      go_roundw
      case rel => exact ⟨k + 1, _, by omega, by go_num, rfl⟩
      case measure => simp [intOf]; omega
    · go_wp2
      go_ret
      exact ⟨rfl, n, rfl⟩
set_option maxRecDepth 100000 in
set_option maxHeartbeats 1000000 in
theorem equal_cars (A1 A2 : Option Addr) (p1 p2 : Nat) (l : List Car) (w : World) (h1 : Recs w 3 Car.at_ (.slice A1 l.length p1) l) (h2 : Recs w 3 Car.at_ (.slice A2 l.length p2) l) (hl : l.length ≤ 1000000) :
    Calls Try.prog 62 #[.slice A1 l.length p1, .slice A2 l.length p2] w fun e w' => e = .returned (.bool true) ∧ ∃ n, w' = w.drewN n := by
  obtain ⟨A1', c1', e1, hc1⟩ := h1
  obtain ⟨A2', c2', e2, hc2⟩ := h2
  obtain ⟨rfl, rfl⟩ : A1 = A1' ∧ p1 = c1' := by injection e1 with a _ b; exact ⟨a, b⟩
  obtain ⟨rfl, rfl⟩ : A2 = A2' ∧ p2 = c2' := by injection e2 with a _ b; exact ⟨a, b⟩
  have H1 := Lib.hid hc1
  have H2 := Lib.hid hc2
  clear hc1 hc2 e1 e2
  have tl : (((l.length : Nat) : Int) != (l.length : Int)) = false := by simp
  go_enter Try.func62, Try.ntmps62
  go_wp2
  clear tl
  go_loopw [13] (fun i wr => ∃ k n : Nat, k ≤ l.length ∧ i = .int .i64 k ∧ wr = w.drewN n) (fun i _ => l.length - (intOf i).toNat)
  case atStart => exact ⟨0, 0, Nat.zero_le _, rfl, rfl⟩
  case round =>
    obtain ⟨k, n, hk, rfl, rfl⟩ := hrel
    by_cases hlt : k < l.length
    · obtain ⟨g1, o1, rfl, hg1, d1⟩ := H1.out k hlt
      obtain ⟨g2, o2, rfl, hg2, d2⟩ := H2.out k hlt
      have a0 : w.cell? ⟨g1, o1 + k * 3, none⟩ = some (.int .i64 (Car.at_ l[k] 0)) := by have := d1 0 (by omega); simpa using this
      have b0 : w.cell? ⟨g2, o2 + k * 3, none⟩ = some (.int .i64 (Car.at_ l[k] 0)) := by have := d2 0 (by omega); simpa using this
      have a1 : w.cell? ⟨g1, o1 + k * 3 + 1, none⟩ = some (.int .i64 (Car.at_ l[k] 1)) := by have := d1 1 (by omega); simpa using this
      have b1 : w.cell? ⟨g2, o2 + k * 3 + 1, none⟩ = some (.int .i64 (Car.at_ l[k] 1)) := by have := d2 1 (by omega); simpa using this
      have a2 : w.cell? ⟨g1, o1 + k * 3 + 2, none⟩ = some (.int .i64 (Car.at_ l[k] 2)) := by have := d1 2 (by omega); simpa using this
      have b2 : w.cell? ⟨g2, o2 + k * 3 + 2, none⟩ = some (.int .i64 (Car.at_ l[k] 2)) := by have := d2 2 (by omega); simpa using this
      clear d1 d2
      generalize Car.at_ l[k] 0 = x0 at *
      generalize Car.at_ l[k] 1 = x1 at *
      generalize Car.at_ l[k] 2 = x2 at *
      go_wp2
      go_quiet (fail)
      go_wp2
      go_roundw
      case rel => exact ⟨k + 1, _, by omega, by go_num, rfl⟩
      case measure => simp [intOf]; omega
    · go_wp2
      go_ret
      exact ⟨rfl, n, rfl⟩
set_option maxRecDepth 100000 in
set_option maxHeartbeats 1000000 in
theorem equal_stops (A1 A2 : Option Addr) (p1 p2 : Nat) (l : List Stop) (w : World) (h1 : Recs w 4 Stop.at_ (.slice A1 l.length p1) l) (h2 : Recs w 4 Stop.at_ (.slice A2 l.length p2) l) (hl : l.length ≤ 1000000) :
    Calls Try.prog 63 #[.slice A1 l.length p1, .slice A2 l.length p2] w fun e w' => e = .returned (.bool true) ∧ ∃ n, w' = w.drewN n := by
  obtain ⟨A1', c1', e1, hc1⟩ := h1
  obtain ⟨A2', c2', e2, hc2⟩ := h2
  obtain ⟨rfl, rfl⟩ : A1 = A1' ∧ p1 = c1' := by injection e1 with a _ b; exact ⟨a, b⟩
  obtain ⟨rfl, rfl⟩ : A2 = A2' ∧ p2 = c2' := by injection e2 with a _ b; exact ⟨a, b⟩
  have H1 := Lib.hid hc1
  have H2 := Lib.hid hc2
  clear hc1 hc2 e1 e2
  have tl : (((l.length : Nat) : Int) != (l.length : Int)) = false := by simp
  go_enter Try.func63, Try.ntmps63
  go_wp2
  clear tl
  go_loopw [13] (fun i wr => ∃ k n : Nat, k ≤ l.length ∧ i = .int .i64 k ∧ wr = w.drewN n) (fun i _ => l.length - (intOf i).toNat)
  case atStart => exact ⟨0, 0, Nat.zero_le _, rfl, rfl⟩
  case round =>
    obtain ⟨k, n, hk, rfl, rfl⟩ := hrel
    by_cases hlt : k < l.length
    · obtain ⟨g1, o1, rfl, hg1, d1⟩ := H1.out k hlt
      obtain ⟨g2, o2, rfl, hg2, d2⟩ := H2.out k hlt
      have a0 : w.cell? ⟨g1, o1 + k * 4, none⟩ = some (.int .i64 (Stop.at_ l[k] 0)) := by have := d1 0 (by omega); simpa using this
      have b0 : w.cell? ⟨g2, o2 + k * 4, none⟩ = some (.int .i64 (Stop.at_ l[k] 0)) := by have := d2 0 (by omega); simpa using this
      have a1 : w.cell? ⟨g1, o1 + k * 4 + 1, none⟩ = some (.int .i64 (Stop.at_ l[k] 1)) := by have := d1 1 (by omega); simpa using this
      have b1 : w.cell? ⟨g2, o2 + k * 4 + 1, none⟩ = some (.int .i64 (Stop.at_ l[k] 1)) := by have := d2 1 (by omega); simpa using this
      have a2 : w.cell? ⟨g1, o1 + k * 4 + 2, none⟩ = some (.int .i64 (Stop.at_ l[k] 2)) := by have := d1 2 (by omega); simpa using this
      have b2 : w.cell? ⟨g2, o2 + k * 4 + 2, none⟩ = some (.int .i64 (Stop.at_ l[k] 2)) := by have := d2 2 (by omega); simpa using this
      have a3 : w.cell? ⟨g1, o1 + k * 4 + 3, none⟩ = some (.int .i64 (Stop.at_ l[k] 3)) := by have := d1 3 (by omega); simpa using this
      have b3 : w.cell? ⟨g2, o2 + k * 4 + 3, none⟩ = some (.int .i64 (Stop.at_ l[k] 3)) := by have := d2 3 (by omega); simpa using this
      clear d1 d2
      generalize Stop.at_ l[k] 0 = x0 at *
      generalize Stop.at_ l[k] 1 = x1 at *
      generalize Stop.at_ l[k] 2 = x2 at *
      generalize Stop.at_ l[k] 3 = x3 at *
      go_wp2
      go_quiet (fail)
      go_wp2
      go_roundw
      case rel => exact ⟨k + 1, _, by omega, by go_num, rfl⟩
      case measure => simp [intOf]; omega
    · go_wp2
      go_ret
      exact ⟨rfl, n, rfl⟩
set_option maxRecDepth 100000 in
set_option maxHeartbeats 1000000 in
theorem equal_pairs (A1 A2 : Option Addr) (p1 p2 : Nat) (l : List Pair) (w : World) (h1 : Recs w 2 Pair.at_ (.slice A1 l.length p1) l) (h2 : Recs w 2 Pair.at_ (.slice A2 l.length p2) l) (hl : l.length ≤ 1000000) :
    Calls Try.prog 64 #[.slice A1 l.length p1, .slice A2 l.length p2] w fun e w' => e = .returned (.bool true) ∧ ∃ n, w' = w.drewN n := by
  obtain ⟨A1', c1', e1, hc1⟩ := h1
  obtain ⟨A2', c2', e2, hc2⟩ := h2
  obtain ⟨rfl, rfl⟩ : A1 = A1' ∧ p1 = c1' := by injection e1 with a _ b; exact ⟨a, b⟩
  obtain ⟨rfl, rfl⟩ : A2 = A2' ∧ p2 = c2' := by injection e2 with a _ b; exact ⟨a, b⟩
  have H1 := Lib.hid hc1
  have H2 := Lib.hid hc2
  clear hc1 hc2 e1 e2
  have tl : (((l.length : Nat) : Int) != (l.length : Int)) = false := by simp
  go_enter Try.func64, Try.ntmps64
  go_wp2
  clear tl
  go_loopw [13] (fun i wr => ∃ k n : Nat, k ≤ l.length ∧ i = .int .i64 k ∧ wr = w.drewN n) (fun i _ => l.length - (intOf i).toNat)
  case atStart => exact ⟨0, 0, Nat.zero_le _, rfl, rfl⟩
  case round =>
    obtain ⟨k, n, hk, rfl, rfl⟩ := hrel
    by_cases hlt : k < l.length
    · obtain ⟨g1, o1, rfl, hg1, d1⟩ := H1.out k hlt
      obtain ⟨g2, o2, rfl, hg2, d2⟩ := H2.out k hlt
      have a0 : w.cell? ⟨g1, o1 + k * 2, none⟩ = some (.int .i64 (Pair.at_ l[k] 0)) := by have := d1 0 (by omega); simpa using this
      have b0 : w.cell? ⟨g2, o2 + k * 2, none⟩ = some (.int .i64 (Pair.at_ l[k] 0)) := by have := d2 0 (by omega); simpa using this
      have a1 : w.cell? ⟨g1, o1 + k * 2 + 1, none⟩ = some (.int .i64 (Pair.at_ l[k] 1)) := by have := d1 1 (by omega); simpa using this
      have b1 : w.cell? ⟨g2, o2 + k * 2 + 1, none⟩ = some (.int .i64 (Pair.at_ l[k] 1)) := by have := d2 1 (by omega); simpa using this
      clear d1 d2
      generalize Pair.at_ l[k] 0 = x0 at *
      generalize Pair.at_ l[k] 1 = x1 at *
      have qA := pair_same x0 x1
      go_wp2
      go_quiet (fail)
      go_wp2
      go_roundw
      case rel => exact ⟨k + 1, _, by omega, by go_num, rfl⟩
      case measure => simp [intOf]; omega
    · go_wp2
      go_ret
      exact ⟨rfl, n, rfl⟩
end Go.Proofs.Ytkheepedjoimmaa
namespace Go.Proofs.Ytkheepedjoimmaa
open Go.RowKit
set_option linter.unusedSimpArgs false

/-- the rows copied so far, each in memory of its own behind block g -/
def RowsTo (g : Nat) (W : World) (xs : List Value) (ls : List (List Int)) (n : Nat) : Prop := ∀ k (_ : k < ls.length), k < n → ∃ u, xs[k]? = some u ∧ Young (g + 1) g W fun W => Recs W 1 num_ u ls[k]
theorem RowsTo.on {g : Nat} {W W' : World} {xs : List Value} {ls : List (List Int)} {n : Nat} (h : RowsTo g W xs ls n) (e : Ex (g + 1) g W W') : RowsTo g W' xs ls n := fun k hk hn => by
  obtain ⟨u, h1, h2⟩ := h k hk hn; exact ⟨u, h1, h2.on e⟩
theorem RowsTo.put {g : Nat} {W : World} {xs : List Value} {ls : List (List Int)} {n : Nat} (h : RowsTo g W xs ls n) {u : Value} (hn : n < xs.length) (hl : n < ls.length) (hu : Young (g + 1) g W fun W => Recs W 1 num_ u ls[n]) : RowsTo g W (xs.set n u) ls (n + 1) := fun k hk hk1 => by
  by_cases e : k = n
  · subst e
    exact ⟨u, by rw [List.getElem?_set_self hn], hu⟩
  · obtain ⟨u', h1, h2⟩ := h k hk (by omega)
    exact ⟨u', by rw [List.getElem?_set_ne (Ne.symm e)]; exact h1, h2⟩
theorem set_ex (W : World) (g j : Nat) (u : Value) {lo a : Nat} (h : g < lo ∨ g = a) : Ex lo a W (W.setCell ⟨g, j, none⟩ u) := Ex.of_grown (grown_set W g j u) fun b hb => by injection hb with hb; omega
theorem trav_young {lo g : Nat} {W : World} {xs : List Value} {ls : List (List Int)} {a : Nat} (hb : Blk W g xs) (hr : RowsTo g W xs ls ls.length) (hg : lo ≤ g) (ha : g ≠ a) (haw : a < lo ∨ W.heap.size ≤ a) : Young lo a W fun W => Trav W (.slice (some ⟨g, 0, none⟩) ls.length ls.length) ls := fun W' hx => by
  refine (hb.heap (hx.block g hg ha hb.1) hx.size).trav ls ls.length fun k hk => ?_
  obtain ⟨u, h1, h2⟩ := hr k hk hk
  exact ⟨u, h1, h2 W' ⟨hx.size, fun b h1 _ h3 => hx.block b (by omega) (by omega) h3⟩⟩
/-- the problem in memory that the call has made -/
def CopyIs (i : Prob) (w : World) (e : Ending) (w' : World) : Prop :=
  ∃ A1 A2 A3 A4 c1 c2 c3 c4, e = .returned (.agg #[.slice A1 i.cars.length c1, .slice A2 i.stops.length c2, .slice A3 i.pairs.length c3, .slice A4 i.travel.length c4]) ∧ Young w.heap.size w'.heap.size w' (fun W => Said W A1 A2 A3 A4 c1 c2 c3 c4 i) ∧ Below w.heap.size w w'
theorem Young.gone {lo a : Nat} {W W' : World} {P : World → Prop} (h : Young lo a W P) (hb : Below W.heap.size W W') : Young lo W'.heap.size W' P :=
  fun W2 h2 => h W2 ⟨Nat.le_trans hb.size h2.size, fun b h1 _ h3 => (h2.block b h1 (by have := hb.size; omega) (Nat.lt_of_lt_of_le h3 hb.size)).trans (hb.block b h3)⟩
theorem said_mk {W : World} {A1 A2 A3 A4 : Option Addr} {c1 c2 c3 c4 : Nat} {i : Prob} (h1 : Recs W 3 Car.at_ (.slice A1 i.cars.length c1) i.cars) (h2 : Recs W 4 Stop.at_ (.slice A2 i.stops.length c2) i.stops) (h3 : Recs W 2 Pair.at_ (.slice A3 i.pairs.length c3) i.pairs) (h4 : Trav W (.slice A4 i.travel.length c4) i.travel) : Said W A1 A2 A3 A4 c1 c2 c3 c4 i :=
  ⟨_, _, _, _, rfl, h1, h2, h3, h4⟩
theorem said_parts {W : World} {A1 A2 A3 A4 : Option Addr} {c1 c2 c3 c4 : Nat} {i : Prob} (h : Said W A1 A2 A3 A4 c1 c2 c3 c4 i) : Recs W 3 Car.at_ (.slice A1 i.cars.length c1) i.cars ∧ Recs W 4 Stop.at_ (.slice A2 i.stops.length c2) i.stops ∧ Recs W 2 Pair.at_ (.slice A3 i.pairs.length c3) i.pairs ∧ Trav W (.slice A4 i.travel.length c4) i.travel := by
  obtain ⟨vc, vs, vp, vt, e, h1, h2, h3, h4⟩ := h
  injection e with e
  simp only [Array.mk.injEq, List.cons.injEq, and_true] at e
  obtain ⟨rfl, rfl, rfl, rfl⟩ := e
  exact ⟨h1, h2, h3, h4⟩
/-- row k of the ways -/
theorem trav_row {W : World} {A : Option Addr} {c : Nat} {ls : List (List Int)} (h : Trav W (.slice A ls.length c) ls) {k : Nat} (hk : k < ls.length) : ∃ B o Ar cr, A = some ⟨B, o, none⟩ ∧ B < W.heap.size ∧ W.cell? ⟨B, o + k, none⟩ = some (.slice Ar ls[k].length cr) ∧ Recs W 1 num_ (.slice Ar ls[k].length cr) ls[k] := by
  obtain ⟨A', c', e, hx⟩ := h
  obtain rfl : A = A' := by injection e
  obtain ⟨B, o, u, rfl, hB, hc, hr⟩ := hx k hk
  obtain ⟨Ar, cr, rfl, hrr⟩ := hr
  exact ⟨B, o, Ar, cr, rfl, hB, hc, Ar, cr, rfl, hrr⟩
set_option maxRecDepth 100000 in
set_option maxHeartbeats 4000000 in
theorem copy_any (v : Value) (i : Prob) (w : World) (hv : Lies w v i) (hok : probOk i = true) (hp : i.pairs.length ≤ 1000000) :
    Calls Try.prog 42 #[v] w (CopyIs i w) := by
  obtain ⟨A1, A2, A3, A4, c1, c2, c3, c4, rfl, hs⟩ := hv.said
  have hf := fine_of hok
  have hc3 := hf.cars
  have hs10 := hf.stops
  have htl : i.travel.length ≤ 11 := by have := hf.travel; omega
  have HRL := Lib.hid hf.rowL
  have BI0 : Hid (Box ((w.alloc (.cells #[.slice A1 i.cars.length c1, .slice A2 i.stops.length c2, .slice A3 i.pairs.length c3, .slice A4 i.travel.length c4] 28)).alloc (.cells #[.slice none 0 0, .slice none 0 0, .slice none 0 0, .slice none 0 0] 28)) w.heap.size A1 A2 A3 A4 c1 c2 c3 c4 i) := (box_new hs 28).below ((Below.refl _ _).alloc (Nat.le_refl _) _)
  have RB0 : Hid (Blk ((w.alloc (.cells #[.slice A1 i.cars.length c1, .slice A2 i.stops.length c2, .slice A3 i.pairs.length c3, .slice A4 i.travel.length c4] 28)).alloc (.cells #[.slice none 0 0, .slice none 0 0, .slice none 0 0, .slice none 0 0] 28)) (w.heap.size + 1) #[.slice none 0 0, .slice none 0 0, .slice none 0 0, .slice none 0 0].toList) := blk_at _ _ (by simp)
  have HB0 : Hid (Below w.heap.size w ((w.alloc (.cells #[.slice A1 i.cars.length c1, .slice A2 i.stops.length c2, .slice A3 i.pairs.length c3, .slice A4 i.travel.length c4] 28)).alloc (.cells #[.slice none 0 0, .slice none 0 0, .slice none 0 0, .slice none 0 0] 28))) := ((Below.refl _ _).alloc (Nat.le_refl _) _).alloc (by simp) _
  have hsz : ((w.alloc (.cells #[.slice A1 i.cars.length c1, .slice A2 i.stops.length c2, .slice A3 i.pairs.length c3, .slice A4 i.travel.length c4] 28)).alloc (.cells #[.slice none 0 0, .slice none 0 0, .slice none 0 0, .slice none 0 0] 28)).heap.size = w.heap.size + 1 + 1 := by simp
  have hmk : Hid (∀ W : World, (Instr.makeSlice 26 (.int .i64 (i.travel.length : Int)) (.int .i64 (i.travel.length : Int))).run Try.prog W = .ok (.slice (some ⟨W.heap.size, 0, none⟩) i.travel.length i.travel.length) (W.alloc (.cells (madeCells #[.slice none 0 0] i.travel.length) 22))) := fun W => by
    have := make_row (S := 26) (E := 22) Try.underlying26 row_info (by omega) i.travel.length (by omega) W
    rw [Nat.mul_one] at this; exact this
  clear hs hv hok hf
  go_enter Try.func42, Try.ntmps42
  go_upto_region 1 with (fail)
  generalize (w.alloc (.cells #[.slice A1 i.cars.length c1, .slice A2 i.stops.length c2, .slice A3 i.pairs.length c3, .slice A4 i.travel.length c4] 28)).alloc (.cells #[.slice none 0 0, .slice none 0 0, .slice none 0 0, .slice none 0 0] 28) = wa at *
  have hRw : w.heap.size ≤ w.heap.size + 1 := by omega
  generalize hR : w.heap.size + 1 = R at *
  have k3 := BI0.out.b3
  have hIz := BI0.out.lt
  have hmk1 := hmk.out wa
  go_upto_region 2 with (fail)
  have HB2 := Lib.hid ((Below.refl wa.heap.size wa).alloc (Nat.le_refl _) (.cells (madeCells #[.slice none 0 0] i.travel.length) 22))
  have BG0 := Lib.hid (blk_new wa (madeCells #[.slice none 0 0] i.travel.length) 22)
  have hxl : (madeCells #[.slice none 0 0] i.travel.length).toList.length = i.travel.length := made_len _ _
  clear hmk hmk1 k3 hIz
  generalize wa.alloc (.cells (madeCells #[.slice none 0 0] i.travel.length) 22) = w2 at *
  generalize (madeCells #[.slice none 0 0] i.travel.length).toList = xs0 at *
  have BI2 := Lib.hid (BI0.out.below HB2.out)
  have hgw : wa.heap.size ≤ wa.heap.size := Nat.le_refl _
  generalize hgg : wa.heap.size = g at hgw BG0 ⊢
  have k3 := BI2.out.b3
  have hIz := BI2.out.lt
  have hgR : R + 1 = g := by omega
  go_wp2
  clear k3 hIz
  go_loopw [13] (fun kv wr => ∃ (k : Nat) (xs : List Value), k ≤ i.travel.length ∧ kv = .int .i64 k ∧ Blk wr g xs ∧ xs.length = i.travel.length ∧ RowsTo g wr xs i.travel k ∧ Below wa.heap.size wa wr) (fun kv _ => i.travel.length - (intOf kv).toNat)
  case atStart => exact ⟨0, _, by omega, rfl, BG0.out, hxl, fun _ _ h => absurd h (by omega), HB2.out⟩
  case round =>
    obtain ⟨k, xs, hk, rfl, hbg, hlen, hrt, hbr⟩ := hrel
    have BG := Lib.hid hbg
    have RT := Lib.hid hrt
    have HBr := Lib.hid hbr
    have BIr := Lib.hid (BI0.out.below hbr)
    clear hbg hrt hbr BG0
    by_cases hlt : k < i.travel.length
    · obtain ⟨B, o, Ar, cr, rfl, hB, d0, hrr⟩ := trav_row (said_parts BIr.out.lies).2.2.2 hlt
      have hrl : (i.travel[k]).length ≤ 1000000 := by have := HRL.out _ (List.getElem_mem hlt); omega
      have HRR := Lib.hid hrr
      obtain ⟨r, hrk⟩ : ∃ r, i.travel[k] = r := ⟨_, rfl⟩
      have HRK := Lib.hid hrk
      rw [hrk] at d0 HRR hrl
      clear hrr hrk
      have KC : Hid (∀ W, Below wr.heap.size wr W → Calls Try.prog 58 #[.slice Ar r.length cr] W (CloneIs 1 num_ r W)) := fun W hB => clone_ints Ar cr r W (HRR.out.below hB) hrl
      have n0 : (0 : Int) ≤ (k : Int) := by omega
      have n1 : (k : Int) < (i.travel.length : Int) := by omega
      have n2 : (k : Int).toNat = k := by omega
      go_wp2_with (go_at_call 58; fail)
      (with_reducible refine (KC.out _ (Below.refl _ _)).mono ?_)
      rintro e w3 ⟨A', cap', rfl, hy, hb⟩
      have BG3 := Lib.hid (BG.out.below hb)
      have hgz := BG3.out.1
      have hgw3 : g + 1 ≤ wr.heap.size := by have := BG.out.1; omega
      have RT3 : Hid (RowsTo g (w3.setCell ⟨g, k, none⟩ (.slice A' r.length cap')) (xs.set k (.slice A' r.length cap')) i.travel (k + 1)) :=
        ((RT.out.on (Ex.of_below hb)).put (by omega) hlt (by rw [HRK.out]; exact (hy.low hgw3).swap (.inl (by omega)))).on (set_ex _ _ _ _ (.inl (by omega)))
      have HB3 := Lib.hid ((HBr.out.trans (hb.mono HBr.out.size)).setCell (p := ⟨g, k, none⟩) (by simp only; omega) (.slice A' r.length cap'))
      have BG4 := Lib.hid (BG3.out.set (k := k) (by omega) (.slice A' r.length cap'))
      have f0 := (BG3.out.2 k (by omega)).2
      have r0 := (BG3.out.2 k (by omega)).1
      clear hy hb d0
      go_wp2
      go_roundw
      case rel => exact ⟨k + 1, _, by omega, by go_num, BG4.out, by rw [List.length_set, hlen], RT3.out, HB3.out⟩
      case measure => simp [intOf]; omega
    · obtain rfl : k = i.travel.length := by omega
      have BIs := Lib.hid (BIr.out.lies)
      have SS : Hid (∀ W, Below wr.heap.size wr W → W.cell? ⟨w.heap.size, 0, none⟩ = some (.slice A1 i.cars.length c1) ∧ W.cell? ⟨w.heap.size, 1, none⟩ = some (.slice A2 i.stops.length c2) ∧ W.cell? ⟨w.heap.size, 2, none⟩ = some (.slice A3 i.pairs.length c3) ∧ W.cell? ⟨w.heap.size, 3, none⟩ = some (.slice A4 i.travel.length c4)) := fun W hB => ⟨(BIr.out.below hB).b0, (BIr.out.below hB).b1, (BIr.out.below hB).b2, (BIr.out.below hB).b3⟩
      have K1 : Hid (∀ W, Below wr.heap.size wr W → Calls Try.prog 59 #[.slice A1 i.cars.length c1] W (CloneIs 3 Car.at_ i.cars W)) := fun W hB => clone_cars _ _ _ W ((said_parts BIs.out).1.below hB) (by omega)
      have K2 : Hid (∀ W, Below wr.heap.size wr W → Calls Try.prog 60 #[.slice A2 i.stops.length c2] W (CloneIs 4 Stop.at_ i.stops W)) := fun W hB => clone_stops _ _ _ W ((said_parts BIs.out).2.1.below hB) (by omega)
      have K3 : Hid (∀ W, Below wr.heap.size wr W → Calls Try.prog 61 #[.slice A3 i.pairs.length c3] W (CloneIs 2 Pair.at_ i.pairs W)) := fun W hB => clone_pairs _ _ _ W ((said_parts BIs.out).2.2.1.below hB) (by omega)
      have hIw : w.heap.size < wr.heap.size := BIr.out.lt
      have hRz : R < wr.heap.size := by have := BG.out.1; omega
      go_upto_region 7 with (fail)
      refine wp_region_z (S := (fun W => W.cell? ⟨w.heap.size, 0, none⟩ = some (.slice A1 i.cars.length c1) ∧ W.cell? ⟨w.heap.size, 1, none⟩ = some (.slice A2 i.stops.length c2) ∧ W.cell? ⟨w.heap.size, 2, none⟩ = some (.slice A3 i.pairs.length c3) ∧ W.cell? ⟨w.heap.size, 3, none⟩ = some (.slice A4 i.travel.length c4))) (z := 11) (by kernel_rfl) (SS.out _ (Below.refl wr.heap.size wr).drew) (fun hH => ?_)
      refine wpAnyZ_take (i := 0) (v := ?_) rfl (by kernel_rfl) (by kernel_rfl) (by kernel_rfl) rfl (by kernel_rfl) (fun _ _ _ h => h) (gives_value (by rfl) ?_) (by assumption) ?_
      rotate_left
      · intro w hSw
        (try dsimp only at hSw)
        go_simp
        (try with_reducible rfl)
      (try simp only [Act.put, List.getElem_toArray, List.getElem_cons_succ, List.getElem_cons_zero, List.setIfInBounds_toArray, List.set_cons_zero, List.set_cons_succ])
      refine wpAnyZ_take (i := 1) (v := ?_) rfl (by kernel_rfl) (by kernel_rfl) (by kernel_rfl) rfl (by kernel_rfl) (fun _ _ _ h => h) (gives_value (by rfl) ?_) (by assumption) ?_
      rotate_left
      · intro w hSw
        (try dsimp only at hSw)
        go_simp
        (try with_reducible rfl)
      (try simp only [Act.put, List.getElem_toArray, List.getElem_cons_succ, List.getElem_cons_zero, List.setIfInBounds_toArray, List.set_cons_zero, List.set_cons_succ])
      refine wpAnyZ_take (i := 3) (v := ?_) rfl (by kernel_rfl) (by kernel_rfl) (by kernel_rfl) rfl (by kernel_rfl) (fun _ _ _ h => h) (gives_value (by rfl) ?_) (by assumption) ?_
      rotate_left
      · intro w hSw
        (try dsimp only at hSw)
        go_simp
        (try with_reducible rfl)
      (try simp only [Act.put, List.getElem_toArray, List.getElem_cons_succ, List.getElem_cons_zero, List.setIfInBounds_toArray, List.set_cons_zero, List.set_cons_succ])
      refine wpAnyZ_take (i := 4) (v := ?_) rfl (by kernel_rfl) (by kernel_rfl) (by kernel_rfl) rfl (by kernel_rfl) (fun _ _ _ h => h) (gives_value (by rfl) ?_) (by assumption) ?_
      rotate_left
      · intro w hSw
        (try dsimp only at hSw)
        go_simp
        (try with_reducible rfl)
      (try simp only [Act.put, List.getElem_toArray, List.getElem_cons_succ, List.getElem_cons_zero, List.setIfInBounds_toArray, List.set_cons_zero, List.set_cons_succ])
      refine wpAnyZ_take (i := 6) (v := ?_) rfl (by kernel_rfl) (by kernel_rfl) (by kernel_rfl) rfl (by kernel_rfl) (fun _ _ _ h => h) (gives_value (by rfl) ?_) (by assumption) ?_
      rotate_left
      · intro w hSw
        (try dsimp only at hSw)
        go_simp
        (try with_reducible rfl)
      (try simp only [Act.put, List.getElem_toArray, List.getElem_cons_succ, List.getElem_cons_zero, List.setIfInBounds_toArray, List.set_cons_zero, List.set_cons_succ])
      refine wpAnyZ_take (i := 7) (v := ?_) rfl (by kernel_rfl) (by kernel_rfl) (by kernel_rfl) rfl (by kernel_rfl) (fun _ _ _ h => h) (gives_value (by rfl) ?_) (by assumption) ?_
      rotate_left
      · intro w hSw
        (try dsimp only at hSw)
        go_simp
        (try with_reducible rfl)
      (try simp only [Act.put, List.getElem_toArray, List.getElem_cons_succ, List.getElem_cons_zero, List.setIfInBounds_toArray, List.set_cons_zero, List.set_cons_succ])
      refine wpAnyZ_take (i := 9) (v := ?_) rfl (by kernel_rfl) (by kernel_rfl) (by kernel_rfl) rfl (by kernel_rfl) (fun _ _ _ h => h) (gives_value (by rfl) ?_) (by assumption) ?_
      rotate_left
      · intro w hSw
        (try dsimp only at hSw)
        go_simp
        (try with_reducible rfl)
      (try simp only [Act.put, List.getElem_toArray, List.getElem_cons_succ, List.getElem_cons_zero, List.setIfInBounds_toArray, List.set_cons_zero, List.set_cons_succ])
      refine wpAnyZ_one (i := 2) (by kernel_rfl) ?_
      refine zstep rfl (fun K hK => ?_)
      go_simp
      (with_reducible refine (K1.out _ ((Below.refl wr.heap.size wr).drew)).mono ?_)
      rintro e w4 ⟨D1, p1, rfl, hy, hb⟩
      have HBw4 := Lib.hid (((Below.refl wr.heap.size wr).drew).trans hb)
      have Y1 := Lib.hid (hy.low (show R + 1 ≤ _ from by rw [show wr.drew.heap.size = wr.heap.size from rfl]; omega))
      clear hy
      clear hb
      refine hK.out _ _ (fun _ => SS.out _ HBw4.out) (fun hH => ?_)
      replace hH := hH (by decide)
      clear hK K
      (try simp only [Act.put, List.getElem_toArray, List.getElem_cons_succ, List.getElem_cons_zero, List.setIfInBounds_toArray, List.set_cons_zero, List.set_cons_succ])
      refine wpAnyZ_one (i := 5) (by kernel_rfl) ?_
      refine zstep rfl (fun K hK => ?_)
      go_simp
      (with_reducible refine (K2.out _ (HBw4.out)).mono ?_)
      rintro e w5 ⟨D2, p2, rfl, hy, hb⟩
      have HBw5 := Lib.hid (HBw4.out.trans (hb.mono HBw4.out.size))
      have Y2 := Lib.hid (hy.low (show R + 1 ≤ _ from by have := HBw4.out.size; omega))
      clear hy
      have Y1w5 := Lib.hid (Y1.out.gone hb)
      clear Y1
      have Y1 := Y1w5
      clear Y1w5
      clear hb
      refine hK.out _ _ (fun _ => SS.out _ HBw5.out) (fun hH => ?_)
      replace hH := hH (by decide)
      clear hK K
      (try simp only [Act.put, List.getElem_toArray, List.getElem_cons_succ, List.getElem_cons_zero, List.setIfInBounds_toArray, List.set_cons_zero, List.set_cons_succ])
      refine wpAnyZ_one (i := 8) (by kernel_rfl) ?_
      refine zstep rfl (fun K hK => ?_)
      go_simp
      (with_reducible refine (K3.out _ (HBw5.out)).mono ?_)
      rintro e w6 ⟨D3, p3, rfl, hy, hb⟩
      have HBw6 := Lib.hid (HBw5.out.trans (hb.mono HBw5.out.size))
      have Y3 := Lib.hid (hy.low (show R + 1 ≤ _ from by have := HBw5.out.size; omega))
      clear hy
      have Y1w6 := Lib.hid (Y1.out.gone hb)
      clear Y1
      have Y1 := Y1w6
      clear Y1w6
      have Y2w6 := Lib.hid (Y2.out.gone hb)
      clear Y2
      have Y2 := Y2w6
      clear Y2w6
      clear hb
      refine hK.out _ _ (fun _ => SS.out _ HBw6.out) (fun hH => ?_)
      replace hH := hH (by decide)
      clear hK K
      (try simp only [Act.put, List.getElem_toArray, List.getElem_cons_succ, List.getElem_cons_zero, List.setIfInBounds_toArray, List.set_cons_zero, List.set_cons_succ])
      refine wpAnyZ_take (i := 10) (v := ?_) rfl (by kernel_rfl) (by kernel_rfl) (by kernel_rfl) rfl (by kernel_rfl) (fun _ _ _ h => h) (gives_value (by rfl) ?_) (by assumption) ?_
      rotate_left
      · intro w hSw
        (try dsimp only at hSw)
        go_simp
        (try with_reducible rfl)
      (try simp only [Act.put, List.getElem_toArray, List.getElem_cons_succ, List.getElem_cons_zero, List.setIfInBounds_toArray, List.set_cons_zero, List.set_cons_succ])
      refine wpAnyZ_one (i := 11) (by kernel_rfl) ?_
      refine zstep rfl (fun K hK => ?_)
      have BG6 := Lib.hid (BG.out.below HBw6.out)
      have RT6 := Lib.hid (RT.out.on (Ex.of_below HBw6.out))
      have Y4 := Lib.hid (trav_young (lo := g) (a := w6.heap.size) BG6.out RT6.out (Nat.le_refl _) (by have := BG6.out.1; omega) (.inr (Nat.le_refl _)))
      have RB6 := Lib.hid ((RB0.out.below HBr.out).below HBw6.out)
      have HB9 := Lib.hid (below4 (HB0.out.trans ((HBr.out.trans (HBw6.out.mono HBr.out.size)).mono HB0.out.size)) hRw (.slice D1 i.cars.length p1) (.slice D2 i.stops.length p2) (.slice D3 i.pairs.length p3) (.slice (some ⟨g, 0, none⟩) i.travel.length i.travel.length))
      have RB9 := Lib.hid (box4' RB6.out (.slice D1 i.cars.length p1) (.slice D2 i.stops.length p2) (.slice D3 i.pairs.length p3) (.slice (some ⟨g, 0, none⟩) i.travel.length i.travel.length))
      have EX9 : Hid (Ex (R + 1) w6.heap.size w6 ((((w6.setCell ⟨R, 0, none⟩ (.slice D1 i.cars.length p1)).setCell ⟨R, 1, none⟩ (.slice D2 i.stops.length p2)).setCell ⟨R, 2, none⟩ (.slice D3 i.pairs.length p3)).setCell ⟨R, 3, none⟩ (.slice (some ⟨g, 0, none⟩) i.travel.length i.travel.length))) :=
        (((set_ex _ R 0 _ (.inl (by omega))).trans (set_ex _ R 1 _ (.inl (by omega)))).trans (set_ex _ R 2 _ (.inl (by omega)))).trans (set_ex _ R 3 _ (.inl (by omega)))
      have YS : Hid (Young w.heap.size w6.heap.size ((((w6.setCell ⟨R, 0, none⟩ (.slice D1 i.cars.length p1)).setCell ⟨R, 1, none⟩ (.slice D2 i.stops.length p2)).setCell ⟨R, 2, none⟩ (.slice D3 i.pairs.length p3)).setCell ⟨R, 3, none⟩ (.slice (some ⟨g, 0, none⟩) i.travel.length i.travel.length)) fun W => Said W D1 D2 D3 (some ⟨g, 0, none⟩) p1 p2 p3 i.travel.length i) := by
        have q := (((Y1.out.and Y2.out).and (Y3.out.and (Y4.out.low (show R + 1 ≤ g by omega)))).on EX9.out).low (show w.heap.size ≤ R + 1 by omega)
        exact q.imp fun W h => said_mk h.1.1 h.1.2 h.2.1 h.2.2
      have r0 := RB6.out.cell (j := 0) rfl
      have z0 := (RB6.out.2 0 (by simp)).2
      have r1 := RB6.out.cell (j := 1) rfl
      have z1 := (RB6.out.2 1 (by simp)).2
      have r2 := RB6.out.cell (j := 2) rfl
      have z2 := (RB6.out.2 2 (by simp)).2
      have r3 := RB6.out.cell (j := 3) rfl
      have z3 := (RB6.out.2 3 (by simp)).2
      have hR6 := RB6.out.1
      go_simp
      clear r0 r1 r2 r3 z0 z1 z2 z3 hR6
      refine hK.out _ _ (fun h => absurd rfl h) (fun hH => ?_)
      clear hK K hH
      (try simp only [Act.put, List.getElem_toArray, List.getElem_cons_succ, List.getElem_cons_zero, List.setIfInBounds_toArray, List.set_cons_zero, List.set_cons_succ])
      refine wpAnyZ_done (by kernel_rfl) ?_ _
      have hfz : ((((w6.setCell ⟨R, 0, none⟩ (.slice D1 i.cars.length p1)).setCell ⟨R, 1, none⟩ (.slice D2 i.stops.length p2)).setCell ⟨R, 2, none⟩ (.slice D3 i.pairs.length p3)).setCell ⟨R, 3, none⟩ (.slice (some ⟨g, 0, none⟩) i.travel.length i.travel.length)).heap.size = w6.heap.size := by simp
      rw [← hfz] at YS
      clear hfz EX9
      generalize ((((w6.setCell ⟨R, 0, none⟩ (.slice D1 i.cars.length p1)).setCell ⟨R, 1, none⟩ (.slice D2 i.stops.length p2)).setCell ⟨R, 2, none⟩ (.slice D3 i.pairs.length p3)).setCell ⟨R, 3, none⟩ (.slice (some ⟨g, 0, none⟩) i.travel.length i.travel.length)) = w9 at *
      have r0 := RB9.out.cell (j := 0) rfl
      have r1 := RB9.out.cell (j := 1) rfl
      have r2 := RB9.out.cell (j := 2) rfl
      have r3 := RB9.out.cell (j := 3) rfl
      have hR9 := RB9.out.1
      go_wp2
      exact bodyPost_ret (v := .agg #[.slice D1 i.cars.length p1, .slice D2 i.stops.length p2, .slice D3 i.pairs.length p3, .slice (some ⟨g, 0, none⟩) i.travel.length i.travel.length]) (by simp [results, Try.results42, go_sem, r0, r1, r2, r3]) rfl ⟨_, _, _, _, _, _, _, _, rfl, YS.out, HB9.out⟩
end Go.Proofs.Ytkheepedjoimmaa
namespace Go.Proofs.Ytkheepedjoimmaa
open Go.RowKit
set_option linter.unusedSimpArgs false

set_option maxRecDepth 100000 in
set_option maxHeartbeats 1000000 in
theorem equal_ways (A1 A2 : Option Addr) (p1 p2 : Nat) (ls : List (List Int)) (w : World) (h1 : Trav w (.slice A1 ls.length p1) ls) (h2 : Trav w (.slice A2 ls.length p2) ls) (hl : ls.length ≤ 1000000) (hr : ∀ r ∈ ls, r.length ≤ 1000000) :
    Calls Try.prog 65 #[.slice A1 ls.length p1, .slice A2 ls.length p2, .func (.func 66) #[] #[]] w fun e w' => e = .returned (.bool true) ∧ Below w.heap.size w w' := by
  have H1 := Lib.hid h1
  have H2 := Lib.hid h2
  have HR := Lib.hid hr
  clear h1 h2 hr
  have tl : (((ls.length : Nat) : Int) != (ls.length : Int)) = false := by simp
  go_enter Try.func65, Try.ntmps65
  go_wp2
  clear tl
  go_loopw [17] (fun i wr => ∃ k : Nat, k ≤ ls.length ∧ i = .int .i64 k ∧ Below w.heap.size w wr) (fun i _ => ls.length - (intOf i).toNat)
  case atStart => exact ⟨0, Nat.zero_le _, rfl, Below.refl _ _⟩
  case round =>
    obtain ⟨k, hk, rfl, hbr⟩ := hrel
    have HBr := Lib.hid hbr
    clear hbr
    by_cases hlt : k < ls.length
    · obtain ⟨g1, o1, E1, q1, rfl, hg1, d1, r1⟩ := trav_row (H1.out.below HBr.out) hlt
      obtain ⟨g2, o2, E2, q2, rfl, hg2, d2, r2⟩ := trav_row (H2.out.below HBr.out) hlt
      have hrl := HR.out _ (List.getElem_mem hlt)
      generalize ls[k] = r at *
      have R1 := Lib.hid r1
      have R2 := Lib.hid r2
      clear r1 r2
      have KC : Hid (∀ W, Below wr.heap.size wr W → Calls Try.prog 66 #[.slice E1 r.length q1, .slice E2 r.length q2] W fun e w' => e = .returned (.bool true) ∧ ∃ n, w' = W.drewN n) := fun W hB => equal_ints _ _ _ _ r W (R1.out.below hB) (R2.out.below hB) hrl
      have n0 : (0 : Int) ≤ (k : Int) := by omega
      have n1 : (k : Int) < (ls.length : Int) := by omega
      have n2 : (k : Int).toNat = k := by omega
      go_wp2_with (go_at_call 66; fail)
      (with_reducible refine (KC.out _ (Below.refl _ _)).mono ?_)
      rintro e w3 ⟨rfl, n, rfl⟩
      go_wp2
      go_roundw
      case rel => exact ⟨k + 1, by omega, by go_num, below_draws' HBr.out _⟩
      case measure => simp [intOf]; omega
    · obtain rfl : k = ls.length := by omega
      have tt : decide ((ls.length : Int) < (ls.length : Int)) = false := by simp
      go_wp2
      go_ret
      exact ⟨rfl, HBr.out⟩
set_option maxRecDepth 100000 in
set_option maxHeartbeats 1000000 in
theorem alike_any (i : Prob) (A1 A2 A3 A4 D1 D2 D3 D4 : Option Addr) (c1 c2 c3 c4 d1 d2 d3 d4 : Nat) (w : World) (h : Said w A1 A2 A3 A4 c1 c2 c3 c4 i) (h' : Said w D1 D2 D3 D4 d1 d2 d3 d4 i) (hok : probOk i = true) (hp : i.pairs.length ≤ 1000000) :
    Calls Try.prog 43 #[.agg #[.slice A1 i.cars.length c1, .slice A2 i.stops.length c2, .slice A3 i.pairs.length c3, .slice A4 i.travel.length c4], .agg #[.slice D1 i.cars.length d1, .slice D2 i.stops.length d2, .slice D3 i.pairs.length d3, .slice D4 i.travel.length d4]] w fun e w' => e = .returned (.bool true) ∧ Below w.heap.size w w' := by
  have BI0 : Hid (Box ((w.alloc (.cells #[.slice A1 i.cars.length c1, .slice A2 i.stops.length c2, .slice A3 i.pairs.length c3, .slice A4 i.travel.length c4] 28)).alloc (.cells #[.slice D1 i.cars.length d1, .slice D2 i.stops.length d2, .slice D3 i.pairs.length d3, .slice D4 i.travel.length d4] 28)) w.heap.size A1 A2 A3 A4 c1 c2 c3 c4 i) := (box_new h 28).below ((Below.refl _ _).alloc (Nat.le_refl _) _)
  have BJ0 : Hid (Box ((w.alloc (.cells #[.slice A1 i.cars.length c1, .slice A2 i.stops.length c2, .slice A3 i.pairs.length c3, .slice A4 i.travel.length c4] 28)).alloc (.cells #[.slice D1 i.cars.length d1, .slice D2 i.stops.length d2, .slice D3 i.pairs.length d3, .slice D4 i.travel.length d4] 28)) (w.heap.size + 1) D1 D2 D3 D4 d1 d2 d3 d4 i) := Lib.hid (by
    have := box_new (W := w.alloc (.cells #[.slice A1 i.cars.length c1, .slice A2 i.stops.length c2, .slice A3 i.pairs.length c3, .slice A4 i.travel.length c4] 28)) (Lies.below h' ((Below.refl _ _).alloc (Nat.le_refl _) _)) 28
    simpa using this)
  have HB0 := Lib.hid (((Below.refl w.heap.size w).alloc (Nat.le_refl _) (.cells #[.slice A1 i.cars.length c1, .slice A2 i.stops.length c2, .slice A3 i.pairs.length c3, .slice A4 i.travel.length c4] 28)).alloc (by simp) (.cells #[.slice D1 i.cars.length d1, .slice D2 i.stops.length d2, .slice D3 i.pairs.length d3, .slice D4 i.travel.length d4] 28))
  have hf := fine_of hok
  have hc3 := hf.cars
  have hs10 := hf.stops
  have htl : i.travel.length ≤ 11 := by have := hf.travel; omega
  have HRL : Hid (∀ r ∈ i.travel, r.length ≤ 1000000) := fun r hr => by have := hf.rowL r hr; omega
  clear h h' hok hf
  go_enter Try.func43, Try.ntmps43
  go_upto_region 1 with (fail)
  generalize (w.alloc (.cells #[.slice A1 i.cars.length c1, .slice A2 i.stops.length c2, .slice A3 i.pairs.length c3, .slice A4 i.travel.length c4] 28)).alloc (.cells #[.slice D1 i.cars.length d1, .slice D2 i.stops.length d2, .slice D3 i.pairs.length d3, .slice D4 i.travel.length d4] 28) = wa at *
  generalize w.heap.size + 1 = J at *
  have K1 := Lib.hid (fun W (hB : Below wa.heap.size wa W) => equal_cars A1 D1 c1 d1 i.cars W ((said_parts BI0.out.lies).1.below hB) ((said_parts BJ0.out.lies).1.below hB) (by omega))
  have K2 := Lib.hid (fun W (hB : Below wa.heap.size wa W) => equal_stops A2 D2 c2 d2 i.stops W ((said_parts BI0.out.lies).2.1.below hB) ((said_parts BJ0.out.lies).2.1.below hB) (by omega))
  have K3 := Lib.hid (fun W (hB : Below wa.heap.size wa W) => equal_pairs A3 D3 c3 d3 i.pairs W ((said_parts BI0.out.lies).2.2.1.below hB) ((said_parts BJ0.out.lies).2.2.1.below hB) (by omega))
  have K4 := Lib.hid (fun W (hB : Below wa.heap.size wa W) => equal_ways A4 D4 c4 d4 i.travel W ((said_parts BI0.out.lies).2.2.2.below hB) ((said_parts BJ0.out.lies).2.2.2.below hB) (by omega) HRL.out)
  have k0 := BI0.out.b0
  have k1 := BI0.out.b1
  have k2 := BI0.out.b2
  have k3 := BI0.out.b3
  have j0 := BJ0.out.b0
  have j1 := BJ0.out.b1
  have j2 := BJ0.out.b2
  have j3 := BJ0.out.b3
  have hIz := BI0.out.lt
  have hJz := BJ0.out.lt
  go_wp2_with (go_at_call 62; fail)
  (with_reducible refine (K1.out _ (Below.refl _ _)).mono ?_)
  rintro e w3 ⟨rfl, n1, rfl⟩
  go_wp2_with (go_at_call 63; fail)
  (with_reducible refine (K2.out _ (below_draws' (Below.refl _ _) n1)).mono ?_)
  rintro e w4 ⟨rfl, n2, rfl⟩
  go_wp2_with (go_at_call 64; fail)
  (with_reducible refine (K3.out _ (below_draws' (Below.refl _ _) _)).mono ?_)
  rintro e w5 ⟨rfl, n3, rfl⟩
  go_wp2_with (go_at_call 65; fail)
  (with_reducible refine (K4.out _ (below_draws' (Below.refl _ _) _)).mono ?_)
  rintro e w6 ⟨rfl, hb⟩
  have HB6 := Lib.hid ((below_draws' HB0.out _).trans (hb.mono HB0.out.size))
  clear hb
  go_wp2
  go_ret
  exact ⟨rfl, HB6.out⟩
end Go.Proofs.Ytkheepedjoimmaa
namespace Go.Proofs.Ytkheepedjoimmaa
open Go.RowKit
set_option linter.unusedSimpArgs false

def headAt (i : Prob) (c : Int) (r : List Int) (p : Int) : Option HeadP := if inB c 0 (i.cars.length - 1) = true ∧ 0 ≤ p ∧ p ≤ r.length then headL i c (r.take p.toNat) else none
def tailAt (i : Prob) (c : Int) (r : List Int) (p : Int) : Option TailP := if inB c 0 (i.cars.length - 1) = true ∧ 0 ≤ p ∧ p ≤ r.length then tailL i c (r.drop p.toNat) else none
def meetC (i : Prob) (c : Int) (h : Option HeadP) (t : Option TailP) : Option Int := if inB c 0 (i.cars.length - 1) = true then meetO i c h t else none
def extC' (i : Prob) (c : Int) (h : Option HeadP) (s : Int) : Option HeadP := if inB c 0 (i.cars.length - 1) = true then h.bind (fun h => extendP i c h s) else none
theorem headAt_no {i : Prob} {c : Int} {r : List Int} {p : Int} (h : inB c 0 (i.cars.length - 1) = false ∨ p < 0 ∨ (r.length : Int) < p) : headAt i c r p = none := by
  unfold headAt
  rw [if_neg]
  rintro ⟨h1, h2, h3⟩
  rcases h with h | h | h
  · rw [h] at h1; cases h1
  · omega
  · omega
theorem tailAt_no {i : Prob} {c : Int} {r : List Int} {p : Int} (h : inB c 0 (i.cars.length - 1) = false ∨ p < 0 ∨ (r.length : Int) < p) : tailAt i c r p = none := by
  unfold tailAt
  rw [if_neg]
  rintro ⟨h1, h2, h3⟩
  rcases h with h | h | h
  · rw [h] at h1; cases h1
  · omega
  · omega
theorem headAt_in {i : Prob} {c : Int} {r : List Int} {k : Nat} (hc : inB c 0 (i.cars.length - 1) = true) (hk : k ≤ r.length) : headAt i c r (k : Int) = headL i c (r.take k) := by
  unfold headAt; rw [if_pos ⟨hc, by omega, by omega⟩, Int.toNat_natCast]
theorem tailAt_in {i : Prob} {c : Int} {r : List Int} {k : Nat} (hc : inB c 0 (i.cars.length - 1) = true) (hk : k ≤ r.length) : tailAt i c r (k : Int) = tailL i c (r.drop k) := by
  unfold tailAt; rw [if_pos ⟨hc, by omega, by omega⟩, Int.toNat_natCast]
theorem headL_bd {i : Prob} (hf : Fine i) (hm : Mated i) {c : Int} {l : List Int} (hl : l.length ≤ 1000) : ∀ h, headL i c l = some h → HB i h ∧ HdA i c h := fun h hh =>
  head_bd hf hm hl (Nat.le_refl _) h (by rw [List.take_length]; exact hh)
theorem headAt_bd {i : Prob} (hf : Fine i) (hm : Mated i) {c : Int} {r : List Int} (hr : r.length ≤ 1000) {p : Int} : ∀ h, headAt i c r p = some h → HB i h ∧ HdA i c h := fun h hh => by
  unfold headAt at hh
  split at hh
  · exact headL_bd hf hm (by rw [List.length_take]; omega) h hh
  · cases hh
theorem tailAt_bd {i : Prob} (hf : Fine i) (hm : Mated i) {c : Int} (hc : inB c 0 (i.cars.length - 1) = true) {r : List Int} (hr : r.length ≤ 1000) {p : Int} : ∀ t, tailAt i c r p = some t → TBd i t ∧ 0 ≤ t.late ∧ t.late ≤ 1000 ∧ TlA i c t := fun t ht => by
  unfold tailAt at ht
  split at ht
  · exact tail_bd' hf hm hc hr t ht
  · cases ht
theorem extC_bd {i : Prob} (hf : Fine i) (hm : Mated i) {c : Int} {r : List Int} (hr : r.length ≤ 900) {p s : Int} : ∀ h, extC' i c (headAt i c r p) s = some h → HB i h ∧ HdA i c h := fun h hh => by
  unfold extC' headAt at hh
  split at hh
  · split at hh
    · rw [← headL_snoc] at hh
      exact headL_bd hf hm (by rw [List.length_append, List.length_take]; simp; omega) h hh
    · cases hh
  · cases hh
section
variable {i : Prob} {c : Int} {r q : List Int}
theorem cross_val (hm : Mated i) (h0 : 0 ≤ (carAt i c).c) (hc : inB c 0 (i.cars.length - 1) = true) {k m : Nat} (hk : k ≤ r.length) (hq : m ≤ q.length) : meetC i c (headAt i c r k) (tailAt i c q m) = (evalL i c (r.take k ++ q.drop m)).map (·.cost) := by
  unfold meetC
  rw [if_pos hc, headAt_in hc hk, tailAt_in hc hq, meet_eval hm h0 hc]
theorem cross_no {p m : Int} (h : inB c 0 (i.cars.length - 1) = false ∨ p < 0 ∨ (r.length : Int) < p ∨ m < 0 ∨ (q.length : Int) < m) : meetC i c (headAt i c r p) (tailAt i c q m) = none := by
  unfold meetC
  split
  · next hc =>
    rcases h with h | h | h | h | h
    · rw [h] at hc; cases hc
    · rw [headAt_no (.inr (.inl h))]; rfl
    · rw [headAt_no (.inr (.inr h))]; rfl
    · rw [tailAt_no (.inr (.inl h))]; cases headAt i c r p <;> rfl
    · rw [tailAt_no (.inr (.inr h))]; cases headAt i c r p <;> rfl
  · rfl
theorem ins_val (hm : Mated i) (h0 : 0 ≤ (carAt i c).c) (hc : inB c 0 (i.cars.length - 1) = true) {k : Nat} (hk : k ≤ r.length) (s : Int) : meetC i c (extC' i c (headAt i c r k) s) (tailAt i c r k) = (evalL i c (r.take k ++ s :: r.drop k)).map (·.cost) := by
  unfold meetC extC'
  rw [if_pos hc, if_pos hc, headAt_in hc hk, tailAt_in hc hk, ← headL_snoc, meet_eval hm h0 hc, List.append_assoc]; rfl
theorem ins_no {p : Int} (s : Int) (h : inB c 0 (i.cars.length - 1) = false ∨ p < 0 ∨ (r.length : Int) < p) : meetC i c (extC' i c (headAt i c r p) s) (tailAt i c r p) = none := by
  unfold meetC extC'
  rw [headAt_no h]
  split <;> rfl
end
/-- rows of heads and tails, if the car is there; else none -/
def HT (W : World) (i : Prob) (c : Int) (r : List Int) (vh vt : Value) : Prop :=
  (inB c 0 (i.cars.length - 1) = true ∧ ∃ gh gt, vh = .slice (some ⟨gh, 0, none⟩) (r.length + 1) (r.length + 1) ∧ vt = .slice (some ⟨gt, 0, none⟩) (r.length + 1) (r.length + 1) ∧ RowC W gh 7 (fun k => headC (headL i c (r.take k))) (r.length + 1) ∧ RowC W gt 8 (fun k => tailC (tailL i c (r.drop k))) (r.length + 1))
  ∨ (inB c 0 (i.cars.length - 1) = false ∧ vh = .slice none 0 0 ∧ vt = .slice none 0 0)
theorem HT.below {W W' : World} {i : Prob} {c : Int} {r : List Int} {vh vt : Value} (h : HT W i c r vh vt) (hb : Below W.heap.size W W') : HT W' i c r vh vt := by
  rcases h with ⟨hc, gh, gt, e1, e2, h1, h2⟩ | h
  · exact .inl ⟨hc, gh, gt, e1, e2, h1.below hb, h2.below hb⟩
  · exact .inr h
/-- a table in memory -/
structure TV (W : World) (a : Nat) (A1 A2 A3 A4 : Option Addr) (c1 c2 c3 c4 : Nat) (i : Prob) (c : Int) (r : List Int) (vh vt : Value) : Prop where
  blk : Blk W a [.slice A1 i.cars.length c1, .slice A2 i.stops.length c2, .slice A3 i.pairs.length c3, .slice A4 i.travel.length c4, .int .i64 c, .int .i64 (r.length : Int), vh, vt]
  said : Said W A1 A2 A3 A4 c1 c2 c3 c4 i
  rows : HT W i c r vh vt
theorem TV.below {W W' : World} {a : Nat} {A1 A2 A3 A4 : Option Addr} {c1 c2 c3 c4 : Nat} {i : Prob} {c : Int} {r : List Int} {vh vt : Value} (h : TV W a A1 A2 A3 A4 c1 c2 c3 c4 i c r vh vt) (hb : Below W.heap.size W W') : TV W' a A1 A2 A3 A4 c1 c2 c3 c4 i c r vh vt :=
  ⟨h.blk.below hb, Lies.below h.said hb, h.rows.below hb⟩
/-- a table that somebody has made, whatever else is written: its own block a alone may change by Set -/
def Tbl (lo a : Nat) (i : Prob) (c : Int) (r : List Int) (W : World) : Prop :=
  ∃ A1 A2 A3 A4 c1 c2 c3 c4 vh vt, lo ≤ a ∧ Blk W a [.slice A1 i.cars.length c1, .slice A2 i.stops.length c2, .slice A3 i.pairs.length c3, .slice A4 i.travel.length c4, .int .i64 c, .int .i64 (r.length : Int), vh, vt] ∧ Young lo a W fun W => Said W A1 A2 A3 A4 c1 c2 c3 c4 i ∧ HT W i c r vh vt
theorem Tbl.tv {lo a : Nat} {i : Prob} {c : Int} {r : List Int} {W : World} (h : Tbl lo a i c r W) : ∃ A1 A2 A3 A4 c1 c2 c3 c4 vh vt, TV W a A1 A2 A3 A4 c1 c2 c3 c4 i c r vh vt := by
  obtain ⟨A1, A2, A3, A4, c1, c2, c3, c4, vh, vt, _, hb, hy⟩ := h
  exact ⟨A1, A2, A3, A4, c1, c2, c3, c4, vh, vt, hb, hy.now.1, hy.now.2⟩
theorem Tbl.below {lo a : Nat} {i : Prob} {c : Int} {r : List Int} {W W' : World} (h : Tbl lo a i c r W) (hb : Below W.heap.size W W') : Tbl lo a i c r W' := by
  obtain ⟨A1, A2, A3, A4, c1, c2, c3, c4, vh, vt, hl, h1, hy⟩ := h
  exact ⟨A1, A2, A3, A4, c1, c2, c3, c4, vh, vt, hl, h1.below hb, hy.below hb⟩
/-- what is written below lo does not touch it -/
theorem Tbl.apart {lo a b : Nat} {i : Prob} {c : Int} {r : List Int} {W W' : World} (h : Tbl lo a i c r W) (hb : b < lo) (he : Ex 0 b W W') : Tbl lo a i c r W' := by
  obtain ⟨A1, A2, A3, A4, c1, c2, c3, c4, vh, vt, hl, h1, hy⟩ := h
  exact ⟨A1, A2, A3, A4, c1, c2, c3, c4, vh, vt, hl, h1.heap (he.block a (Nat.zero_le _) (by omega) h1.1) he.size, hy.on ⟨he.size, fun k h1 _ h3 => he.block k (Nat.zero_le _) (by omega) h3⟩⟩
theorem Tbl.lt {lo a : Nat} {i : Prob} {c : Int} {r : List Int} {W : World} (h : Tbl lo a i c r W) : a < W.heap.size ∧ lo ≤ a := by
  obtain ⟨_, _, _, _, _, _, _, _, _, _, hl, h1, _⟩ := h; exact ⟨h1.1, hl⟩
end Go.Proofs.Ytkheepedjoimmaa
