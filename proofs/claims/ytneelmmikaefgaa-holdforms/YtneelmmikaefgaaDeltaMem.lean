/- Edits: what is told of them, sorted; how they lie in memory. -/
import Derived.Test.YtneelmmikaefgaaOwn
import Derived.ArgAppend
namespace Go.Proofs.Ytneelmmikaefgaa
open Go.RowKit
set_option linter.unusedSimpArgs false

structure Hold where
  n : Int
  b : Int
  a : Int
  deriving DecidableEq
/-- a turn of a route as it lies in memory: its car, two slices, and what they hold -/
structure Turn where
  c : Int
  x : Value
  y : Value
  b : List Int
  a : List Int
structure Edit where
  turns : List Turn
  locks : List Hold
  ices : List Hold
def holdNums (h : Hold) : List Int := [h.n, h.b, h.a]
def Hold.at_ (x : Hold) : Nat → Int | 0 => x.n | 1 => x.b | _ => x.a
def Hold.cells (h : Hold) : List Value := ints (holdNums h)
def Turn.cells (t : Turn) : List Value := [.int .i64 t.c, t.x, t.y]
def Turn.flip (t : Turn) : Turn := ⟨t.c, t.y, t.x, t.a, t.b⟩
def Hold.flip (h : Hold) : Hold := ⟨h.n, h.a, h.b⟩
def Edit.flip (d : Edit) : Edit := ⟨d.turns.map Turn.flip, d.locks.map Hold.flip, d.ices.map Hold.flip⟩

section
variable {α : Type} (key : α → Int)
def insBy (x : α) (l : List α) : List α := l.takeWhile (fun y => decide (key y ≤ key x)) ++ x :: l.dropWhile (fun y => decide (key y ≤ key x))
def sortBy (l : List α) : List α := l.foldl (fun o x => insBy key x o) []
theorem insBy_length (x : α) (l : List α) : (insBy key x l).length = l.length + 1 := by
  have := congrArg List.length (List.takeWhile_append_dropWhile (p := fun y => decide (key y ≤ key x)) (l := l))
  simp only [List.length_append] at this
  simp only [insBy, List.length_append, List.length_cons]
  omega
theorem sortBy_snoc (l : List α) (x : α) : sortBy key (l ++ [x]) = insBy key x (sortBy key l) := by
  simp [sortBy, List.foldl_append]
theorem mem_insBy (x y : α) (l : List α) : y ∈ insBy key x l ↔ y = x ∨ y ∈ l := by
  have h : y ∈ l ↔ y ∈ l.takeWhile (fun y => decide (key y ≤ key x)) ∨ y ∈ l.dropWhile (fun y => decide (key y ≤ key x)) := by
    rw [← List.mem_append, List.takeWhile_append_dropWhile]
  simp only [insBy, List.mem_append, List.mem_cons]
  rw [h]
  constructor
  · rintro (h | h | h)
    · exact .inr (.inl h)
    · exact .inl h
    · exact .inr (.inr h)
  · rintro (h | h | h)
    · exact .inr (.inl h)
    · exact .inl h
    · exact .inr (.inr h)
end
theorem foldl_ins_mem {α : Type} (key : α → Int) (y : α) : ∀ (l o : List α), y ∈ l.foldl (fun o x => insBy key x o) o ↔ y ∈ l ∨ y ∈ o
  | [], o => by simp
  | x :: l, o => by
    simp only [List.foldl_cons, foldl_ins_mem key y l, mem_insBy, List.mem_cons]
    constructor
    · rintro (h | h | h)
      · exact .inl (.inr h)
      · exact .inl (.inl h)
      · exact .inr h
    · rintro ((h | h) | h)
      · exact .inr (.inl h)
      · exact .inl h
      · exact .inr (.inr h)
theorem foldl_ins_length {α : Type} (key : α → Int) : ∀ (l o : List α), (l.foldl (fun o x => insBy key x o) o).length = l.length + o.length
  | [], o => by simp
  | x :: l, o => by simp only [List.foldl_cons, foldl_ins_length key l, insBy_length, List.length_cons]; omega
theorem sortBy_length {α : Type} (key : α → Int) (l : List α) : (sortBy key l).length = l.length := by simp [sortBy, foldl_ins_length]
theorem mem_sortBy {α : Type} (key : α → Int) (y : α) (l : List α) : y ∈ sortBy key l ↔ y ∈ l := by simp [sortBy, foldl_ins_mem]
theorem while_stop {α : Type} (p : α → Bool) : ∀ (l : List α) (k : Nat), (∀ j (h : j < l.length), j < k → p l[j] = true) → k ≤ l.length → (∀ h : k < l.length, p l[k] = false) → l.takeWhile p = l.take k ∧ l.dropWhile p = l.drop k
  | [], k, _, h2, _ => by simp
  | x :: l, 0, _, _, h3 => by
    have := h3 (by simp)
    simp only [List.getElem_cons_zero] at this
    simp [this]
  | x :: l, k + 1, h1, h2, h3 => by
    have h0 := h1 0 (by simp) (by omega)
    simp only [List.getElem_cons_zero] at h0
    obtain ⟨e1, e2⟩ := while_stop p l k (fun j h hj => by
      have := h1 (j + 1) (by simpa using h) (by omega)
      rwa [List.getElem_cons_succ] at this) (by simpa using h2) (fun h => by
      have := h3 (by simpa using h)
      rwa [List.getElem_cons_succ] at this)
    simp [h0, e1, e2]
theorem insBy_at {α : Type} (key : α → Int) (x : α) (l : List α) (k : Nat) (h1 : ∀ j (h : j < l.length), j < k → key l[j] ≤ key x) (h2 : k ≤ l.length) (h3 : ∀ h : k < l.length, ¬ key l[k] ≤ key x) : insBy key x l = l.take k ++ x :: l.drop k := by
  obtain ⟨e1, e2⟩ := while_stop (fun y => decide (key y ≤ key x)) l k (fun j h hj => decide_eq_true (h1 j h hj)) h2 (fun h => decide_eq_false (h3 h))
  unfold insBy
  rw [e1, e2]
def tidyD (d : Edit) : Edit := ⟨sortBy Turn.c (d.turns.filter fun t => decide (t.b ≠ t.a)), sortBy Hold.n (d.locks.filter fun h => decide (h.b ≠ h.a)), sortBy Hold.n (d.ices.filter fun h => decide (h.b ≠ h.a))⟩

/-- a slice of records, each of c cells -/
def Rows {α : Type} (W : World) (c : Nat) (f : α → List Value) (v : Value) (l : List α) : Prop :=
  ∃ A cap, v = .slice A l.length cap ∧ ∀ k (h : k < l.length), ∃ B o, A = some ⟨B, o, none⟩ ∧ B < W.heap.size ∧ ∀ j u, (f l[k])[j]? = some u → W.cell? ⟨B, o + k * c + j, none⟩ = some u
theorem Rows.below {α : Type} {W W' : World} {c : Nat} {f : α → List Value} {v : Value} {l : List α} (h : Rows W c f v l) (hb : Below W.heap.size W W') : Rows W' c f v l := by
  obtain ⟨A, cap, rfl, h⟩ := h
  refine ⟨A, cap, rfl, fun k hk => ?_⟩
  obtain ⟨B, o, rfl, hB, hc⟩ := h k hk
  exact ⟨B, o, rfl, Nat.lt_of_lt_of_le hB hb.size, fun j u hj => by rw [hb.cell hB]; exact hc j u hj⟩
def Turn.ok (W : World) (t : Turn) : Prop := Recs W 1 num_ t.x t.b ∧ Recs W 1 num_ t.y t.a
theorem Turn.ok.below {W W' : World} {t : Turn} (h : t.ok W) (hb : Below W.heap.size W W') : t.ok W' := ⟨h.1.below hb, h.2.below hb⟩
def Turns (W : World) (v : Value) (l : List Turn) : Prop := Rows W 3 Turn.cells v l ∧ ∀ t ∈ l, t.ok W
theorem Turns.below {W W' : World} {v : Value} {l : List Turn} (h : Turns W v l) (hb : Below W.heap.size W W') : Turns W' v l := ⟨h.1.below hb, fun t ht => (h.2 t ht).below hb⟩
/-- an edit in memory -/
def EditAt (W : World) (v : Value) (d : Edit) : Prop := ∃ vt vl vi, v = .agg #[vt, vl, vi] ∧ Turns W vt d.turns ∧ Rows W 3 Hold.cells vl d.locks ∧ Rows W 3 Hold.cells vi d.ices
theorem EditAt.below {W W' : World} {v : Value} {d : Edit} (h : EditAt W v d) (hb : Below W.heap.size W W') : EditAt W' v d := by
  obtain ⟨vt, vl, vi, rfl, h1, h2, h3⟩ := h
  exact ⟨vt, vl, vi, rfl, h1.below hb, h2.below hb, h3.below hb⟩
theorem flat_len {α : Type} {f : α → List Value} {c : Nat} (hf : ∀ x, (f x).length = c) (l : List α) : (l.flatMap f).length = l.length * c := by
  induction l with
  | nil => simp
  | cons x l ih => simp only [List.flatMap_cons, List.length_append, ih, hf, List.length_cons, Nat.add_mul]; omega
theorem flat_take {α : Type} {f : α → List Value} {c : Nat} (hf : ∀ x, (f x).length = c) : ∀ (l : List α) (k : Nat), k ≤ l.length → (l.flatMap f).take (k * c) = (l.take k).flatMap f ∧ (l.flatMap f).drop (k * c) = (l.drop k).flatMap f
  | l, 0, _ => by simp
  | [], k + 1, h => by simp at h
  | x :: l, k + 1, h => by
    obtain ⟨h1, h2⟩ := flat_take hf l k (by simpa using h)
    simp only [List.flatMap_cons, List.take_succ_cons, List.drop_succ_cons]
    have e : (k + 1) * c = (f x).length + k * c := by rw [hf, Nat.add_mul]; omega
    rw [e, List.take_length_add_append, List.drop_length_add_append, h1, h2]
    exact ⟨rfl, rfl⟩
theorem Rows.of_own {α : Type} {w : World} {B : Nat} {T : TypeId} {c cap : Nat} {f : α → List Value} {A : Option Addr} {l : List α} (h : w.ownsRow B T c (.slice A l.length cap) l.length (l.flatMap f)) (hf : ∀ x, (f x).length = c) : Rows w c f (.slice A l.length cap) l := by
  refine ⟨A, cap, rfl, fun k hk => ?_⟩
  obtain ⟨g, cap', hv, _, hlt⟩ := h.form (by omega)
  injection hv with hA _ _
  subst hA
  refine ⟨g, 0, rfl, hlt, fun j u hu => ?_⟩
  have hj : j < c := by
    rcases Nat.lt_or_ge j c with h | h
    · exact h
    · rw [List.getElem?_eq_none (by rw [hf]; exact h)] at hu; cases hu
  have := h.cells (g := g) rfl (k * c + j) u (by rw [flat_get hf l k j hk hj]; exact hu)
  rw [Nat.zero_add]
  rw [← this]
  unfold Addr.add
  split
  · next h0 => rw [h0]
  · simp
/-- two indexes of a row's cells -/
theorem Rows.reads {α : Type} {W : World} {c : Nat} {f : α → List Value} {A : Option Addr} {cap : Nat} {l : List α} (h : Rows W c f (.slice A l.length cap) l) (hf : ∀ x, (f x).length = c) (hc : 0 < c) : Reads W W.heap.size c A l.length (l.flatMap f) := by
  refine ⟨flat_len hf l, fun hn => ?_⟩
  obtain ⟨A', cap', hv, h⟩ := h
  injection hv with hA _ _
  subst hA
  obtain ⟨B, o, rfl, hB, _⟩ := h 0 hn
  refine ⟨_, rfl, hB, fun j u hu => ?_⟩
  have hj : j < l.length * c := by
    rcases Nat.lt_or_ge j (l.length * c) with h | h
    · exact h
    · rw [List.getElem?_eq_none (by rw [flat_len hf l]; exact h)] at hu; cases hu
  have hk : j / c < l.length := (Nat.div_lt_iff_lt_mul hc).2 hj
  obtain ⟨B', o', hA, _, hcell⟩ := h (j / c) hk
  injection hA with hA
  injection hA with hB' ho' _
  subst hB' ho'
  have e : j / c * c + j % c = j := by rw [Nat.mul_comm]; exact Nat.div_add_mod j c
  have hm : j % c < c := Nat.mod_lt _ hc
  rw [← e, flat_get hf l (j / c) (j % c) hk hm] at hu
  have := hcell (j % c) u hu
  rw [Nat.add_assoc, e] at this
  rw [← this]
  unfold Addr.add
  split
  · next h0 => rw [h0]; simp
  · rfl
theorem hold_info : (Try.prog.info? 35).map (fun i => (i.zero, i.size, i.bytes)) = some (some (.agg #[.int .i64 0, .int .i64 0, .int .i64 0]), 3, 24) := by kernel_rfl
theorem turn_info : (Try.prog.info? 27).map (fun i => (i.zero, i.size, i.bytes)) = some (some (.agg #[.int .i64 0, .slice none 0 0, .slice none 0 0]), 3, 56) := by kernel_rfl
theorem hold_one : ∀ (l : List Hold), ∀ u ∈ l.flatMap Hold.cells, u.oneCell' = true := by
  intro l u hu
  obtain ⟨h, _, hu⟩ := List.mem_flatMap.1 hu
  exact ints_one _ u hu
theorem Turn.ok.one {W : World} {t : Turn} (h : t.ok W) : ∀ u ∈ t.cells, u.oneCell' = true := by
  obtain ⟨⟨A, c, hx, _⟩, A2, c2, hy, _⟩ := h
  intro u hu
  simp only [Turn.cells, List.mem_cons, List.not_mem_nil, or_false] at hu
  rcases hu with rfl | rfl | rfl
  · rfl
  · rw [hx]; rfl
  · rw [hy]; rfl
theorem turn_one {W : World} {l : List Turn} (h : ∀ t ∈ l, t.ok W) : ∀ u ∈ l.flatMap Turn.cells, u.oneCell' = true := by
  intro u hu
  obtain ⟨t, ht, hu⟩ := List.mem_flatMap.1 hu
  exact (h t ht).one u hu

/-! a row cut at a place: 'out[:k:k]', 'out[k:]', and an append upon the first -/
def clipA (A : Option Addr) (k size : Nat) : Option Addr := if k = 0 then A else A.map (·.add (0 * size))
def cutA (A : Option Addr) (cap k size : Nat) : Option Addr := if cap = k then A else A.map (·.add (k * size))
section
variable {T : TypeId} {size : Nat} (hel : Try.prog.underlying T = some (.slice (Try.prog.elem T))) (hsz : ∀ W, (sizeOf (Try.prog.elem T)).run Try.prog W = .ok size W)
include hel hsz
theorem clip_run (A : Option Addr) (n cap k : Nat) (hk : k ≤ n) (hc : n ≤ cap) (W : World) : (Instr.slice T (.slice A n cap) none (some (.int .i64 (k : Int))) (some (.int .i64 (k : Int)))).run Try.prog W = .ok (.slice (clipA A k size) k k) W := by
  rw [run_slice_hm (P := Try.prog) W T A n cap hel .i64 .i64 (k : Int) (k : Int) (by omega) (by omega) (by omega), hsz]
  simp only [Result.andThen, sliced, Int.toNat_natCast, Nat.sub_zero, clipA]
theorem cut_run (A : Option Addr) (n cap k : Nat) (hk : k ≤ n) (W : World) : (Instr.slice T (.slice A n cap) (some (.int .i64 (k : Int))) none none).run Try.prog W = .ok (.slice (cutA A cap k size) (n - k) (cap - k)) W := by
  rw [run_slice_l (P := Try.prog) W T A n cap hel .i64 (k : Int) (by omega) (by omega), hsz]
  simp only [Result.andThen, sliced, Int.toNat_natCast, cutA]
end
theorem add_zero_addr (a : Addr) : a.add 0 = a := by unfold Addr.add; simp
theorem own_slice_n {w : World} {B : Nat} {e : TypeId} {size n : Nat} {v : Value} {xs : List Value} (h : w.ownsRow B e size v n xs) : ∃ ao cap, v = .slice ao n cap ∧ n ≤ cap := by
  rcases h.2 with ⟨rfl, rfl⟩ | ⟨g, cap, cur, rfl, _, _, hn, _⟩
  · exact ⟨_, _, rfl, Nat.le_refl _⟩
  · exact ⟨_, _, rfl, hn⟩
theorem step_append_clip {P : Program} (w : World) {ops : Array Oper} {o : Oper} {a : Act} {K : Act → World → Prop} {Q : Exit → Act → World → Prop} {E : Prop} (hgd : o.guard = none) (s x : Operand) (t : TypeId)
    (ho : o.op = .call { callee := .builtin .append, args := #[s, x], argTypes := #[t, t] })
    (e : TypeId) (i : TypeInfo) (z : Value) (size bytes : Nat) (ht : P.underlying t = some (.slice e)) (hi : P.info? e = some i) (hz : i.zero = some z)
    (hsize : i.size = size) (hby : i.bytes = bytes) (hzs : z.cells.size = size) (hsz : 0 < size)
    (B0 : Nat) (A : Option Addr) (n : Nat) (xs : List Value) (hr : Reads w B0 size A n xs) (k : Nat) (hk : k ≤ n) (hs : a.eval s = .slice (clipA A k size) k k)
    (B1 : Nat) (v1 : Value) (m : Nat) (news : List Value) (hown : w.ownsRow B1 e size v1 m news) (hm : 0 < m) (hx : a.eval x = v1) (h1 : ∀ u ∈ news, u.oneCell' = true)
    (h63 : k + m ≤ maxLen) (hbytes : (k + m) * bytes ≤ 140737488355328)
    (hK : ∀ v' w', w'.ownsRow w.heap.size e size v' (k + m) (xs.take (k * size) ++ news) → w.grownBy w' none → K (a.put o.dst v') w') :
    if Region.wanted o (yielded ops a.tmps) = true then Oper.wp P o a w K Q else E := by
  have hw : Region.wanted o (yielded ops a.tmps) = true := by simp [Region.wanted, hgd]
  rw [if_pos hw]
  obtain ⟨g, cap1, rfl, _, _⟩ := hown.form hm
  have hnews : ∀ j u, news[j]? = some u → w.cell? ((⟨g, 0, none⟩ : Addr).add j) = some u := hown.cells (g := g) rfl
  have hlo : (xs.take (k * size)).length = k * size := by
    rw [List.length_take, hr.1]
    exact Nat.min_eq_left (Nat.mul_le_mul_right _ hk)
  rcases hA : clipA A k size with _ | b
  · have hk0 : k = 0 := by
      rcases Nat.eq_zero_or_pos k with h | h
      · exact h
      · obtain ⟨ad, rfl, _⟩ := hr.2 (by omega)
        unfold clipA at hA
        rw [if_neg (by omega)] at hA
        cases hA
    subst hk0
    have hnil : xs.take (0 * size) = [] := by simp
    rw [hnil] at hK
    obtain ⟨v', w', hrun, r1, r2, _⟩ := run_append_own (P := P) w w.heap.size t o.type e i z size bytes ht hi hz hsize hby hzs hsz (.slice none 0 0) 0 [] (World.ownsRow_nil w _ e size) ⟨g, 0, none⟩ m cap1 news hown.1 hnews h1 h63 hbytes (Nat.le_refl _)
    unfold Oper.wp execOp
    rw [hA] at hs
    simp only [ho, resolve, invoke, builtin, Sem.run_bind, Sem.run_pure, Result.andThen_ok, List.map_toArray, List.map_cons, List.map_nil, hs, hx, hrun]
    exact hK v' w' r1 r2
  · have holds : ∀ j u, (xs.take (k * size))[j]? = some u → w.cell? (b.add j) = some u := by
      intro j u hu
      have hu' : xs[j]? = some u := by
        rw [List.getElem?_take] at hu
        split at hu
        · exact hu
        · cases hu
      have hk0 : 0 < k := by
        rcases Nat.eq_zero_or_pos k with h | h
        · subst h; simp at hu
        · exact h
      obtain ⟨ad, rfl, _, hc⟩ := hr.2 (by omega)
      unfold clipA at hA
      rw [if_neg (by omega), Option.map_some, Nat.zero_mul, add_zero_addr] at hA
      injection hA with hA
      subst hA
      exact hc j u hu'
    obtain ⟨v', w', hrun, r1, r2⟩ := run_append_arg_grows (P := P) w t o.type e i z size bytes ht hi hz hsize hby hzs hsz b k k (xs.take (k * size)) hlo holds ⟨g, 0, none⟩ m cap1 news hown.1 hnews (by omega) h63 hbytes
    unfold Oper.wp execOp
    rw [hA] at hs
    simp only [ho, resolve, invoke, builtin, Sem.run_bind, Sem.run_pure, Result.andThen_ok, List.map_toArray, List.map_cons, List.map_nil, hs, hx, hrun]
    exact hK v' w' r1 r2
theorem own_lower {w : World} {B B' : Nat} {e : TypeId} {size n : Nat} {v : Value} {xs : List Value} (h : w.ownsRow B e size v n xs) (hB : B' ≤ B) : w.ownsRow B' e size v n xs := by
  refine ⟨h.1, ?_⟩
  rcases h.2 with h | ⟨g, cap, cur, h1, h2, h3⟩
  · exact .inl h
  · exact .inr ⟨g, cap, cur, h1, Nat.le_trans hB h2, h3⟩
theorem own_single {w : World} {B : Nat} {T : TypeId} {m : Nat} {xs : List Value} (hx : xs.length = m) (hB : B ≤ w.heap.size) : (w.alloc (.cells xs.toArray T)).ownsRow B T m (.slice (some ⟨w.heap.size, 0, none⟩) 1 1) 1 xs := by
  subst hx
  refine ⟨by omega, .inr ⟨w.heap.size, 1, xs.toArray, rfl, hB, by unfold World.alloc; simp, Nat.le_refl _, (by decide : 1 ≤ maxLen), by simp, ?_⟩⟩
  rw [Nat.one_mul, List.take_of_length_le (by simp)]
theorem el_hold : Try.prog.underlying 29 = some (.slice (Try.prog.elem 29)) := by kernel_rfl
theorem sz_hold (W : World) : (sizeOf (Try.prog.elem 29)).run Try.prog W = .ok 3 W := by kernel_rfl
theorem el_turn : Try.prog.underlying 28 = some (.slice (Try.prog.elem 28)) := by kernel_rfl
theorem sz_turn (W : World) : (sizeOf (Try.prog.elem 28)).run Try.prog W = .ok 3 W := by kernel_rfl
end Go.Proofs.Ytneelmmikaefgaa
