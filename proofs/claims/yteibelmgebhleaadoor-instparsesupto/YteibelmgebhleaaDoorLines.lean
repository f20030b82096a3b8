/- inst.writeLine: the words of a line go into the builder. -/
import Derived.Test.YteibelmgebhleaaDoorBuild
import Derived.Test.YteibelmgebhleaaDoorDigs
import Derived.Test.YteibelmgebhleaaDoorInstTravel
namespace Go.Proofs.YteibelmgebhleaaDoor
set_option linter.unusedSimpArgs false
open Go.RowKit

def nameL : Nat → List UInt8 | 0 => [99, 97, 114] | 1 => [115, 116, 111, 112] | 2 => [112, 97, 105, 114] | _ => [114, 111, 119]
/-- the package's names lie in block 0 -/
def Names (W : World) : Prop := ∀ k : Nat, k < 4 → W.cell? ⟨0, k, none⟩ = some (.string (ofL (nameL k)))
theorem Names.below {W W' : World} {B : Nat} (h : Names W) (hb : Below B W W') (hB : 0 < B) : Names W' := fun k hk => by rw [hb.cell hB]; exact h k hk
def numsL (ns : List Int) : List UInt8 := ns.flatMap fun n => 32 :: Lib.itoa n
def lineText (k : Nat) (ns : List Int) : List UInt8 := nameL k ++ (numsL ns ++ [10])
theorem nameL_len (k : Nat) : (nameL k).length ≤ 4 := by
  unfold nameL; split <;> simp
theorem numsL_snoc (ns : List Int) (n : Int) : numsL (ns ++ [n]) = numsL ns ++ (32 :: Lib.itoa n) := by simp [numsL]
theorem itoa_le {n : Int} (h : Fit n) : (Lib.itoa n).length ≤ 21 := Lib.itoa_length_le n h.1 h.2
theorem numsL_len {ns : List Int} (h : ∀ n ∈ ns, Fit n) : (numsL ns).length ≤ 22 * ns.length := by
  induction ns with
  | nil => simp [numsL]
  | cons x l ih =>
    have h1 := ih (fun n hn => h n (by simp [hn]))
    have h2 := itoa_le (h x (by simp))
    simp only [numsL, List.flatMap_cons, List.length_append, List.length_cons] at h1 ⊢
    omega
theorem strCells_ofL (l : List UInt8) : Lib.strCells (ofL l) = Lib.byteCells l := by
  simp [Lib.strCells, Lib.byteCells, ofL]
theorem byteCells_append (l m : List UInt8) : Lib.byteCells (l ++ m) = Lib.byteCells l ++ Lib.byteCells m := by simp [Lib.byteCells]
theorem byteCells_len (l : List UInt8) : (Lib.byteCells l).length = l.length := by simp [Lib.byteCells]
abbrev Kept (b : Nat) (w w' : World) : Prop := Lib.OthersKept 5 (some b) w w'
theorem kept_of_below {b : Nat} {w w' : World} (h : Below w.heap.size w w') : Kept b w w' := by
  intro k o hk _ _
  have hlt : k < w.heap.size := (Array.getElem?_eq_some_iff.1 hk).1
  rw [h.block k hlt]; exact hk
theorem isB_below {B b : Nat} {bs : List Value} {w w' : World} (h : IsB B b bs w) (hb : Below w.heap.size w w') : IsB B b bs w' := by
  have hg : w.grownBy w' none := ⟨hb.os, hb.tape, hb.output, hb.size, fun i hi _ => hb.block i hi⟩
  have key : ∀ p, Lib.BuilderAtF 56 5 B b p bs w → Lib.BuilderAtF 56 5 B b p bs w' := by
    intro p hp
    have hlt := hp.lt
    obtain ⟨h1, v, h2, h3, h4⟩ := hp
    exact ⟨h1, v, by rw [hb.block b hlt]; exact h2, h3.kept hg (by cases hv : v.ownBlock <;> simp), h4⟩
  exact h.elim (fun x => .inl (key _ x)) (fun x => .inr (key _ x))
/-- the numbers stay, whatever is written into the builder -/
def Stay (B b : Nat) (w : World) (v : Value) (ns : List Int) : Prop := ∀ w', Below B w w' → Kept b w w' → Recs w' 1 num_ v ns

set_option maxRecDepth 100000 in
set_option maxHeartbeats 2000000 in
theorem line_any (B0 B b k : Nat) (bs : List Value) (v : Value) (ns : List Int) (w : World) (hk : k < 4) (hf : ∀ n ∈ ns, Fit n) (hst : Stay B b w v ns) (hb : IsB B b bs w) (hn : Names w) (hBw : B ≤ w.heap.size)
    (hB0 : B0 ≤ B) (ht : Tab B0 w) (hl : ns.length ≤ 1000000) (hlen : bs.length + 22 * ns.length + 100 ≤ 1099511627776) :
    Calls Tryd.prog 23 #[.pointer (some ⟨b, 0, none⟩), .int .i64 k, v] w fun e w' => e = .returned (.tuple #[]) ∧ IsB B b (bs ++ Lib.byteCells (lineText k ns)) w' ∧ Below B w w' ∧ Kept b w w' := by
  have H0 := Lib.hid (hst w (Below.refl _ _) (Lib.OthersKept.refl _ _ _)).num
  obtain ⟨A, cap, rfl, hh⟩ := H0.out
  clear hh
  have hname := hn k hk
  have hk4 : (k : Int) < 4 := by omega
  have HN := Lib.hid hn
  have HT := Lib.hid ht
  have HS := Lib.hid hst
  have HF := Lib.hid hf
  have C1 := Lib.hid (write_any B b bs (ofL (nameL k)) w hb (by have := nameL_len k; have : (ofL (nameL k)).size = (nameL k).length := rfl; omega) hBw)
  have HNL := Lib.hid (nameL_len k)
  rw [strCells_ofL] at C1
  clear hn ht hst hf hb H0
  go_enter Tryd.func23, Tryd.ntmps23
  go_wp2_with (go_at_call 41; fail)
  (with_reducible refine (C1.out).mono ?_)
  rintro e w1 ⟨rfl, hi1, hb1, hk1⟩
  have HI1 := Lib.hid hi1
  have HB1 := Lib.hid hb1
  have HK1 := Lib.hid hk1
  clear hi1 hb1 hk1 C1 hname
  go_wp2
  go_loopw [15] (fun i wr => ∃ j : Nat, j ≤ ns.length ∧ i = .int .i64 j ∧ IsB B b (bs ++ Lib.byteCells (nameL k ++ numsL (ns.take j))) wr ∧ Below B w wr ∧ Kept b w wr) (fun i _ => ns.length - (intOf i).toNat)
  case atStart => exact ⟨0, Nat.zero_le _, rfl, by simpa [numsL] using HI1.out, HB1.out, HK1.out⟩
  case round =>
    obtain ⟨j, hj, rfl, hi, hb, hkk⟩ := hrel
    have HI := Lib.hid hi
    have HB := Lib.hid hb
    have HK := Lib.hid hkk
    have hsz : B ≤ wr.heap.size := Nat.le_trans hBw hb.size
    have hlt0 : (numsL (ns.take j)).length ≤ 22 * ns.length := by
      have h1 := numsL_len (ns := ns.take j) (fun n hn => HF.out n (List.mem_of_mem_take hn))
      have h2 : (ns.take j).length ≤ ns.length := by simp; omega
      omega
    clear hi hb hkk
    by_cases hlt : j < ns.length
    · obtain ⟨A2, cap2, e2, hcell⟩ := (HS.out wr HB.out HK.out).num
      obtain ⟨rfl, rfl⟩ : A2 = A ∧ cap2 = cap := by simpa [eq_comm] using e2
      obtain ⟨Bn, o, rfl, hBn, c0⟩ := hcell j hlt
      have hfit := HF.out ns[j] (List.getElem_mem _)
      have HTK := Lib.hid (show ns.take (j + 1) = ns.take j ++ [ns[j]] by rw [List.take_succ_eq_append_getElem hlt])
      clear e2 hcell
      generalize ns[j] = x at *
      have hx21 := itoa_le hfit
      have C2 := Lib.hid (write_any B b (bs ++ Lib.byteCells (nameL k ++ numsL (ns.take j))) ⟨#[32]⟩ wr HI.out (by have := HNL.out; simp [Lib.byteCells, ofL, ByteArray.size]; omega) hsz)
      rw [show Lib.strCells ⟨#[32]⟩ = Lib.byteCells [32] from rfl] at C2
      have hx := Lib.hid hx21
      clear hx21
      go_wp2_with (go_at_call 41; fail)
      (with_reducible refine (C2.out).mono ?_)
      rintro e w2 ⟨rfl, hi2, hb2, hk2⟩
      have HI2 := Lib.hid hi2
      have HB2 := Lib.hid (HB.out.trans hb2)
      have HK2 := Lib.hid (Lib.OthersKept.trans HK.out hk2)
      have hs2 : B ≤ w2.heap.size := Nat.le_trans hsz hb2.size
      clear hi2 hb2 hk2 C2 c0
      have C3 := Lib.hid (digits_any B0 x w2 hfit (Nat.le_trans hB0 hs2) (HT.out.on (HB2.out.mono hB0)))
      go_wp2_with (go_at_call 42; fail)
      (with_reducible refine (C3.out).mono ?_)
      rintro e w3 ⟨rfl, _, hb3⟩
      have HI3 := Lib.hid (isB_below HI2.out hb3)
      have HB3 := Lib.hid (HB2.out.trans (hb3.mono hs2))
      have HK3 := Lib.hid (Lib.OthersKept.trans HK2.out (kept_of_below hb3))
      have hs3 : B ≤ w3.heap.size := Nat.le_trans hs2 hb3.size
      clear hb3 C3
      have C4 := Lib.hid (write_any B b _ (digs x) w3 HI3.out (by have := HNL.out; have := hx.out; simp [Lib.byteCells, ofL, digs, ByteArray.size]; omega) hs3)
      rw [show Lib.strCells (digs x) = Lib.byteCells (Lib.itoa x) from strCells_ofL _] at C4
      go_wp2_with (go_at_call 41; fail)
      (with_reducible refine (C4.out).mono ?_)
      rintro e w4 ⟨rfl, hi4, hb4, hk4⟩
      have HI4 := Lib.hid hi4
      have HB4 := Lib.hid (HB3.out.trans hb4)
      have HK4 := Lib.hid (Lib.OthersKept.trans HK3.out hk4)
      clear hi4 hb4 hk4 C4
      go_wp2
      go_roundw
      case rel => exact ⟨j + 1, by omega, by go_num, by rw [HTK.out, numsL_snoc]; simpa [Lib.byteCells_append, List.append_assoc, Lib.byteCells] using HI4.out, HB4.out, HK4.out⟩
      case measure => simp [intOf]; omega
    · obtain rfl : j = ns.length := by omega
      have C2 := Lib.hid (write_any B b (bs ++ Lib.byteCells (nameL k ++ numsL (ns.take ns.length))) ⟨#[10]⟩ wr HI.out (by have := HNL.out; simp [Lib.byteCells, ofL, ByteArray.size] at *; omega) hsz)
      rw [show Lib.strCells ⟨#[10]⟩ = Lib.byteCells [10] from rfl] at C2
      go_wp2_with (go_at_call 41; fail)
      (with_reducible refine (C2.out).mono ?_)
      rintro e w2 ⟨rfl, hi2, hb2, hk2⟩
      have HI2 := Lib.hid hi2
      have HB2 := Lib.hid (HB.out.trans hb2)
      have HK2 := Lib.hid (Lib.OthersKept.trans HK.out hk2)
      clear hi2 hb2 hk2 C2
      go_wp2
      go_end0
      exact ⟨rfl, by simpa [lineText, Lib.byteCells_append, List.append_assoc] using HI2.out, HB2.out, HK2.out⟩
theorem line_lit (m : Int) (B0 B b k : Nat) (bs : List Value) (v : Value) (ns : List Int) (w : World) (hm : m = (k : Int)) (hk : k < 4) (hf : ∀ n ∈ ns, Fit n) (hst : Stay B b w v ns) (hb : IsB B b bs w) (hn : Names w) (hBw : B ≤ w.heap.size)
    (hB0 : B0 ≤ B) (ht : Tab B0 w) (hl : ns.length ≤ 1000000) (hlen : bs.length + 22 * ns.length + 100 ≤ 1099511627776) :
    Calls Tryd.prog 23 #[.pointer (some ⟨b, 0, none⟩), .int .i64 m, v] w fun e w' => e = .returned (.tuple #[]) ∧ IsB B b (bs ++ Lib.byteCells (lineText k ns)) w' ∧ Below B w w' ∧ Kept b w w' := by
  subst hm
  exact line_any B0 B b k bs v ns w hk hf hst hb hn hBw hB0 ht hl hlen
end Go.Proofs.YteibelmgebhleaaDoor
