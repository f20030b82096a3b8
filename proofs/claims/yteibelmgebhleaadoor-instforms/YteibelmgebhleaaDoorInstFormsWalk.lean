/- The walk of InstForms: for any int the law returns true; old memory stands. -/
import Derived.Test.YteibelmgebhleaaDoorParseWalk
import Derived.Test.YteibelmgebhleaaDoorPrintWalk
import Derived.Test.YteibelmgebhleaaDoorSmall
import Derived.Test.YteibelmgebhleaaDoorSameAll
import Derived.Test.YteibelmgebhleaaDoorMates
import Derived.Test.YteibelmgebhleaaDoorKeep
import Derived.Deep.RegionHeld3
namespace Go.Proofs.YteibelmgebhleaaDoor
open Go.RowKit
set_option linter.unusedSimpArgs false

def smallP : Prob := ⟨[⟨5, 1, 9⟩], [⟨2, 0, 8, 1⟩, ⟨-2, 3, 4, 0⟩], [⟨1, 2⟩], [[0, 1, 2], [3, 0, 4], [5, 6, 0]]⟩
def textL : List UInt8 := [99, 97, 114, 32, 53, 32, 49, 32, 57, 10, 115, 116, 111, 112, 32, 50, 32, 48, 32, 56, 32, 49, 10, 115, 116, 111, 112, 32, 45, 50, 32, 51, 32, 52, 32, 48, 10, 112, 97, 105, 114, 32, 49, 32, 50, 10, 114, 111, 119, 32, 48, 32, 49, 32, 50, 10, 114, 111, 119, 32, 51, 32, 48, 32, 52, 10, 114, 111, 119, 32, 53, 32, 54, 32, 48, 10]
def errL (l : List UInt8) : Nat := match parseL l with | none => 2 | some i => if probOk i then 0 else 1
theorem small_text : probText smallP = textL := by decide +kernel
theorem small_parse : parseL textL = some smallP := by decide +kernel
theorem small_ok : probOk smallP = true := by decide
theorem ext_take (l : List UInt8) (r : Nat) : ((ofL l).extract 0 r).data.toList = l.take r := by
  simp [ofL, ByteArray.data_extract]
def rowsT : List (List UInt8 × Nat) := [([], 1), ([99, 97, 114, 32, 53, 32, 49, 32, 57, 10, 114, 111, 119, 32, 48, 10], 0), ([99, 97, 114, 32, 53, 32, 49, 32, 57, 10, 114, 111, 119, 32, 48], 2), ([114, 111, 119, 32, 48, 10, 99, 97, 114, 32, 53, 32, 49, 32, 57, 10], 2), ([99, 97, 114, 32, 53, 32, 49, 10, 114, 111, 119, 32, 48, 10], 2), ([99, 97, 114, 32, 53, 32, 49, 32, 57, 32, 49, 10, 114, 111, 119, 32, 48, 10], 2), ([99, 97, 114, 32, 32, 53, 32, 49, 32, 57, 10, 114, 111, 119, 32, 48, 10], 2), ([32, 99, 97, 114, 32, 53, 32, 49, 32, 57, 10, 114, 111, 119, 32, 48, 10], 2), ([99, 97, 114, 32, 53, 32, 49, 32, 57, 32, 10, 114, 111, 119, 32, 48, 10], 2), ([99, 97, 114, 32, 53, 32, 49, 32, 48, 57, 10, 114, 111, 119, 32, 48, 10], 2), ([99, 97, 114, 32, 53, 32, 49, 32, 57, 10, 10, 114, 111, 119, 32, 48, 10], 2), ([99, 97, 114, 32, 53, 32, 49, 32, 57, 10, 114, 111, 119, 10], 2), ([67, 97, 114, 32, 53, 32, 49, 32, 57, 10, 114, 111, 119, 32, 48, 10], 2), ([99, 97, 114, 32, 53, 32, 49, 32, 57, 10, 114, 111, 119, 32, 49, 10], 1), ([99, 97, 114, 32, 53, 32, 57, 32, 49, 10, 114, 111, 119, 32, 48, 10], 1), ([99, 97, 114, 32, 53, 32, 49, 32, 57, 10, 114, 111, 119, 32, 48, 10, 114, 111, 119, 32, 48, 10], 1), ([99, 97, 114, 32, 53, 32, 49, 32, 57, 10, 114, 111, 119, 32, 48, 32, 48, 10], 1), ([99, 97, 114, 32, 54, 49, 32, 49, 32, 57, 10, 114, 111, 119, 32, 48, 10], 1), ([99, 97, 114, 32, 53, 32, 49, 32, 49, 48, 48, 49, 10, 114, 111, 119, 32, 48, 10], 1), ([99, 97, 114, 32, 53, 32, 49, 32, 57, 10, 112, 97, 105, 114, 32, 49, 32, 50, 10, 114, 111, 119, 32, 48, 10], 1)]
theorem rowsT_ok : ∀ r ∈ rowsT, errL r.1 = r.2 := by decide +kernel
theorem rowsT_len : ∀ r ∈ rowsT, r.1.length ≤ 100 := by decide +kernel
theorem cuts_ok : ∀ n, n < 77 → (errL (textL.take n) == 0) = (n == 76) := by decide +kernel
def GotErr (n : Nat) (w : World) (e : Ending) (w' : World) : Prop := Below w.heap.size w w' ∧ ∃ A1 n1 c1 A2 n2 c2 A3 n3 c3 A4 n4 c4, e = .returned (.tuple #[.agg #[.slice A1 n1 c1, .slice A2 n2 c2, .slice A3 n3 c3, .slice A4 n4 c4], .int .i64 ((n : Nat) : Int)])
theorem parse_err {s : ByteArray} {mx : Int} {w : World} (n : Nat) (he : errL s.data.toList = n) (hs : s.size ≤ 100000000) (hn : Names w) (hm : w.cell? ⟨1, 0, none⟩ = some (.int .i64 mx)) (h1 : 1 < w.heap.size) :
    Calls Tryd.prog 9 #[.string s] w (GotErr n w) := by
  refine (parse_any s mx w hs hn hm h1).mono ?_
  subst he
  rintro e w' ⟨hb, ⟨hp, rfl⟩ | ⟨i, hp, ⟨ho, rfl⟩ | ⟨ho, v, rfl, vc, vs, vp, vt, rfl, ⟨A1, c1, rfl, _⟩, ⟨A2, c2, rfl, _⟩, ⟨A3, c3, rfl, _⟩, ⟨A4, c4, rfl, _⟩⟩⟩⟩
  · rw [show errL s.data.toList = 2 by simp [errL, hp]]; exact ⟨hb, _, _, _, _, _, _, _, _, _, _, _, _, rfl⟩
  · rw [show errL s.data.toList = 1 by simp [errL, hp, ho]]; exact ⟨hb, _, _, _, _, _, _, _, _, _, _, _, _, rfl⟩
  · rw [show errL s.data.toList = 0 by simp [errL, hp, ho]]; exact ⟨hb, _, _, _, _, _, _, _, _, _, _, _, _, rfl⟩
theorem small_lies {w : World} {S : Nat} (h : SmallAt S w [5, 1, 9] [2, 0, 8, 1, -2, 3, 4, 0] [1, 2] [0, 1, 2] [3, 0, 4] [5, 6, 0]) : Lies w (.agg #[.slice (some ⟨S + 1, 0, none⟩) 1 1, .slice (some ⟨S + 2, 0, none⟩) 2 2, .slice (some ⟨S + 3, 0, none⟩) 1 1, .slice (some ⟨S + 7, 0, none⟩) 3 3]) smallP := h.lies
theorem small_short : Short smallP := ⟨by decide, by decide, by decide⟩
theorem print_small {S B0 : Nat} {w : World} (h : SmallAt S w [5, 1, 9] [2, 0, 8, 1, -2, 3, 4, 0] [1, 2] [0, 1, 2] [3, 0, 4] [5, 6, 0]) (hn : Names w) (h0 : 0 < w.heap.size) (hB0 : B0 ≤ w.heap.size) (ht : Tab B0 w) :
    Calls Tryd.prog 7 #[(.agg #[.slice (some ⟨S + 1, 0, none⟩) 1 1, .slice (some ⟨S + 2, 0, none⟩) 2 2, .slice (some ⟨S + 3, 0, none⟩) 1 1, .slice (some ⟨S + 7, 0, none⟩) 3 3])] w fun e w' => e = .returned (.tuple #[.string (ofL textL), .int .i64 0]) ∧ Below w.heap.size w w' := by
  have := print_good B0 _ smallP w (small_lies h) small_short small_ok (by decide) hn h0 hB0 ht
  rwa [small_text] at this
def GotSmall (w : World) (e : Ending) (w' : World) : Prop := Below w.heap.size w w' ∧ ∃ A1 n1 c1 A2 n2 c2 A3 n3 c3 A4 n4 c4, e = .returned (.tuple #[.agg #[.slice A1 n1 c1, .slice A2 n2 c2, .slice A3 n3 c3, .slice A4 n4 c4], .int .i64 0]) ∧ Lies w' (.agg #[.slice A1 n1 c1, .slice A2 n2 c2, .slice A3 n3 c3, .slice A4 n4 c4]) smallP
theorem parse_small {mx : Int} {w : World} (hn : Names w) (hm : w.cell? ⟨1, 0, none⟩ = some (.int .i64 mx)) (h1 : 1 < w.heap.size) :
    Calls Tryd.prog 9 #[.string (ofL textL)] w (GotSmall w) := by
  refine (parse_any (ofL textL) mx w (by decide) hn hm h1).mono ?_
  rw [ofL_toList]
  rintro e w' ⟨hb, ⟨hp, rfl⟩ | ⟨i, hp, ⟨ho, rfl⟩ | ⟨ho, v, rfl, hl⟩⟩⟩
  · rw [small_parse] at hp; cases hp
  · rw [small_parse] at hp; cases hp; rw [small_ok] at ho; cases ho
  · rw [small_parse] at hp
    cases hp
    have hl' := hl
    obtain ⟨vc, vs, vp, vt, rfl, ⟨A1, c1, rfl, _⟩, ⟨A2, c2, rfl, _⟩, ⟨A3, c3, rfl, _⟩, ⟨A4, c4, rfl, _⟩⟩ := hl'
    exact ⟨hb, _, _, _, _, _, _, _, _, _, _, _, _, rfl, hl⟩
/-- the statement's table in block B -/
def Tbl (B : Nat) (W : World) : Prop := B < W.heap.size ∧ ∀ k (h : k < 20), W.cell? ⟨B, k * 2, none⟩ = some (.string (ofL (rowsT[k]'h).1)) ∧ W.cell? ⟨B, k * 2 + 1, none⟩ = some (.int .i64 ((rowsT[k]'h).2 : Nat))
theorem Tbl.below {B : Nat} {W W' : World} (h : Tbl B W) (hb : Below W.heap.size W W') : Tbl B W' :=
  ⟨Nat.lt_of_lt_of_le h.1 hb.size, fun k hk => ⟨by rw [hb.cell h.1]; exact (h.2 k hk).1, by rw [hb.cell h.1]; exact (h.2 k hk).2⟩⟩
def tblCells : Array Value := #[.string ⟨#[]⟩, .int .i64 1, .string ⟨#[99, 97, 114, 32, 53, 32, 49, 32, 57, 10, 114, 111, 119, 32, 48, 10]⟩, .int .i64 0, .string ⟨#[99, 97, 114, 32, 53, 32, 49, 32, 57, 10, 114, 111, 119, 32, 48]⟩, .int .i64 2, .string ⟨#[114, 111, 119, 32, 48, 10, 99, 97, 114, 32, 53, 32, 49, 32, 57, 10]⟩, .int .i64 2, .string ⟨#[99, 97, 114, 32, 53, 32, 49, 10, 114, 111, 119, 32, 48, 10]⟩, .int .i64 2, .string ⟨#[99, 97, 114, 32, 53, 32, 49, 32, 57, 32, 49, 10, 114, 111, 119, 32, 48, 10]⟩, .int .i64 2, .string ⟨#[99, 97, 114, 32, 32, 53, 32, 49, 32, 57, 10, 114, 111, 119, 32, 48, 10]⟩, .int .i64 2, .string ⟨#[32, 99, 97, 114, 32, 53, 32, 49, 32, 57, 10, 114, 111, 119, 32, 48, 10]⟩, .int .i64 2, .string ⟨#[99, 97, 114, 32, 53, 32, 49, 32, 57, 32, 10, 114, 111, 119, 32, 48, 10]⟩, .int .i64 2, .string ⟨#[99, 97, 114, 32, 53, 32, 49, 32, 48, 57, 10, 114, 111, 119, 32, 48, 10]⟩, .int .i64 2, .string ⟨#[99, 97, 114, 32, 53, 32, 49, 32, 57, 10, 10, 114, 111, 119, 32, 48, 10]⟩, .int .i64 2, .string ⟨#[99, 97, 114, 32, 53, 32, 49, 32, 57, 10, 114, 111, 119, 10]⟩, .int .i64 2, .string ⟨#[67, 97, 114, 32, 53, 32, 49, 32, 57, 10, 114, 111, 119, 32, 48, 10]⟩, .int .i64 2, .string ⟨#[99, 97, 114, 32, 53, 32, 49, 32, 57, 10, 114, 111, 119, 32, 49, 10]⟩, .int .i64 1, .string ⟨#[99, 97, 114, 32, 53, 32, 57, 32, 49, 10, 114, 111, 119, 32, 48, 10]⟩, .int .i64 1, .string ⟨#[99, 97, 114, 32, 53, 32, 49, 32, 57, 10, 114, 111, 119, 32, 48, 10, 114, 111, 119, 32, 48, 10]⟩, .int .i64 1, .string ⟨#[99, 97, 114, 32, 53, 32, 49, 32, 57, 10, 114, 111, 119, 32, 48, 32, 48, 10]⟩, .int .i64 1, .string ⟨#[99, 97, 114, 32, 54, 49, 32, 49, 32, 57, 10, 114, 111, 119, 32, 48, 10]⟩, .int .i64 1, .string ⟨#[99, 97, 114, 32, 53, 32, 49, 32, 49, 48, 48, 49, 10, 114, 111, 119, 32, 48, 10]⟩, .int .i64 1, .string ⟨#[99, 97, 114, 32, 53, 32, 49, 32, 57, 10, 112, 97, 105, 114, 32, 49, 32, 50, 10, 114, 111, 119, 32, 48, 10]⟩, .int .i64 1]
theorem tbl_start (w : World) (t : TypeId) : Tbl w.heap.size (w.alloc (.cells tblCells t)) := by
  refine ⟨by simp, fun k hk => ?_⟩
  match k, hk with
  | 0, _ => exact ⟨by rw [World.cell?_alloc_new]; rfl, by rw [World.cell?_alloc_new]; rfl⟩
  | 1, _ => exact ⟨by rw [World.cell?_alloc_new]; rfl, by rw [World.cell?_alloc_new]; rfl⟩
  | 2, _ => exact ⟨by rw [World.cell?_alloc_new]; rfl, by rw [World.cell?_alloc_new]; rfl⟩
  | 3, _ => exact ⟨by rw [World.cell?_alloc_new]; rfl, by rw [World.cell?_alloc_new]; rfl⟩
  | 4, _ => exact ⟨by rw [World.cell?_alloc_new]; rfl, by rw [World.cell?_alloc_new]; rfl⟩
  | 5, _ => exact ⟨by rw [World.cell?_alloc_new]; rfl, by rw [World.cell?_alloc_new]; rfl⟩
  | 6, _ => exact ⟨by rw [World.cell?_alloc_new]; rfl, by rw [World.cell?_alloc_new]; rfl⟩
  | 7, _ => exact ⟨by rw [World.cell?_alloc_new]; rfl, by rw [World.cell?_alloc_new]; rfl⟩
  | 8, _ => exact ⟨by rw [World.cell?_alloc_new]; rfl, by rw [World.cell?_alloc_new]; rfl⟩
  | 9, _ => exact ⟨by rw [World.cell?_alloc_new]; rfl, by rw [World.cell?_alloc_new]; rfl⟩
  | 10, _ => exact ⟨by rw [World.cell?_alloc_new]; rfl, by rw [World.cell?_alloc_new]; rfl⟩
  | 11, _ => exact ⟨by rw [World.cell?_alloc_new]; rfl, by rw [World.cell?_alloc_new]; rfl⟩
  | 12, _ => exact ⟨by rw [World.cell?_alloc_new]; rfl, by rw [World.cell?_alloc_new]; rfl⟩
  | 13, _ => exact ⟨by rw [World.cell?_alloc_new]; rfl, by rw [World.cell?_alloc_new]; rfl⟩
  | 14, _ => exact ⟨by rw [World.cell?_alloc_new]; rfl, by rw [World.cell?_alloc_new]; rfl⟩
  | 15, _ => exact ⟨by rw [World.cell?_alloc_new]; rfl, by rw [World.cell?_alloc_new]; rfl⟩
  | 16, _ => exact ⟨by rw [World.cell?_alloc_new]; rfl, by rw [World.cell?_alloc_new]; rfl⟩
  | 17, _ => exact ⟨by rw [World.cell?_alloc_new]; rfl, by rw [World.cell?_alloc_new]; rfl⟩
  | 18, _ => exact ⟨by rw [World.cell?_alloc_new]; rfl, by rw [World.cell?_alloc_new]; rfl⟩
  | 19, _ => exact ⟨by rw [World.cell?_alloc_new]; rfl, by rw [World.cell?_alloc_new]; rfl⟩
  | k + 20, h => exact absurd h (by omega)
theorem small_m1 {S : Nat} {w : World} (h : SmallAt S w [5, 1, 9] [2, 0, 8, 1, -2, 3, 4, 0] [1, 2] [0, 1, 2] [3, 0, 4] [5, 6, 0]) : Calls Tryd.prog 12 #[(.agg #[.slice (some ⟨S + 1, 0, none⟩) 1 1, .slice (some ⟨S + 2, 0, none⟩) 2 2, .slice (some ⟨S + 3, 0, none⟩) 1 1, .slice (some ⟨S + 7, 0, none⟩) 3 3]), .int .i64 1] w fun e w' => e = .returned (.int .i64 2) ∧ Below w.heap.size w w' := mate_any _ smallP 1 w (small_lies h) (by decide)
theorem small_m2 {S : Nat} {w : World} (h : SmallAt S w [5, 1, 9] [2, 0, 8, 1, -2, 3, 4, 0] [1, 2] [0, 1, 2] [3, 0, 4] [5, 6, 0]) : Calls Tryd.prog 12 #[(.agg #[.slice (some ⟨S + 1, 0, none⟩) 1 1, .slice (some ⟨S + 2, 0, none⟩) 2 2, .slice (some ⟨S + 3, 0, none⟩) 1 1, .slice (some ⟨S + 7, 0, none⟩) 3 3]), .int .i64 2] w fun e w' => e = .returned (.int .i64 1) ∧ Below w.heap.size w w' := mate_any _ smallP 2 w (small_lies h) (by decide)
theorem small_f1 {S : Nat} {w : World} (h : SmallAt S w [5, 1, 9] [2, 0, 8, 1, -2, 3, 4, 0] [1, 2] [0, 1, 2] [3, 0, 4] [5, 6, 0]) : Calls Tryd.prog 13 #[(.agg #[.slice (some ⟨S + 1, 0, none⟩) 1 1, .slice (some ⟨S + 2, 0, none⟩) 2 2, .slice (some ⟨S + 3, 0, none⟩) 1 1, .slice (some ⟨S + 7, 0, none⟩) 3 3]), .int .i64 1] w fun e w' => e = .returned (.bool true) ∧ Below w.heap.size w w' := first_any _ smallP 1 w (small_lies h) (by decide)
theorem small_f2 {S : Nat} {w : World} (h : SmallAt S w [5, 1, 9] [2, 0, 8, 1, -2, 3, 4, 0] [1, 2] [0, 1, 2] [3, 0, 4] [5, 6, 0]) : Calls Tryd.prog 13 #[(.agg #[.slice (some ⟨S + 1, 0, none⟩) 1 1, .slice (some ⟨S + 2, 0, none⟩) 2 2, .slice (some ⟨S + 3, 0, none⟩) 1 1, .slice (some ⟨S + 7, 0, none⟩) 3 3]), .int .i64 2] w fun e w' => e = .returned (.bool false) ∧ Below w.heap.size w w' := first_any _ smallP 2 w (small_lies h) (by decide)
theorem small_m3 {S : Nat} {w : World} (h : SmallAt S w [5, 1, 9] [2, 0, 8, 1, -2, 3, 4, 0] [1, 2] [0, 1, 2] [3, 0, 4] [5, 6, 0]) : Calls Tryd.prog 12 #[(.agg #[.slice (some ⟨S + 1, 0, none⟩) 1 1, .slice (some ⟨S + 2, 0, none⟩) 2 2, .slice (some ⟨S + 3, 0, none⟩) 1 1, .slice (some ⟨S + 7, 0, none⟩) 3 3]), .int .i64 3] w fun e w' => e = .returned (.int .i64 0) ∧ Below w.heap.size w w' := mate_any _ smallP 3 w (small_lies h) (by decide)
theorem small_m0 {S : Nat} {w : World} (h : SmallAt S w [5, 1, 9] [2, 0, 8, 1, -2, 3, 4, 0] [1, 2] [0, 1, 2] [3, 0, 4] [5, 6, 0]) : Calls Tryd.prog 12 #[(.agg #[.slice (some ⟨S + 1, 0, none⟩) 1 1, .slice (some ⟨S + 2, 0, none⟩) 2 2, .slice (some ⟨S + 3, 0, none⟩) 1 1, .slice (some ⟨S + 7, 0, none⟩) 3 3]), .int .i64 0] w fun e w' => e = .returned (.int .i64 0) ∧ Below w.heap.size w w' := mate_any _ smallP 0 w (small_lies h) (by decide)
theorem small_f0 {S : Nat} {w : World} (h : SmallAt S w [5, 1, 9] [2, 0, 8, 1, -2, 3, 4, 0] [1, 2] [0, 1, 2] [3, 0, 4] [5, 6, 0]) : Calls Tryd.prog 13 #[(.agg #[.slice (some ⟨S + 1, 0, none⟩) 1 1, .slice (some ⟨S + 2, 0, none⟩) 2 2, .slice (some ⟨S + 3, 0, none⟩) 1 1, .slice (some ⟨S + 7, 0, none⟩) 3 3]), .int .i64 0] w fun e w' => e = .returned (.bool false) ∧ Below w.heap.size w w' := first_any _ smallP 0 w (small_lies h) (by decide)
set_option maxRecDepth 100000 in
set_option maxHeartbeats 8000000 in
theorem forms_walk (n mx : Int) (w : World) (hn : Names w) (hm : w.cell? ⟨1, 0, none⟩ = some (.int .i64 mx)) (h1 : 1 < w.heap.size) (ht : Tab w.heap.size w) :
    Calls Tryd.prog 3 #[.int .i64 n] w fun e w' => e = .returned (.bool true) ∧ Below w.heap.size w w' := by
  have HN := Lib.hid hn
  have HM := Lib.hid hm
  have HT := Lib.hid ht
  clear hn hm ht
  go_enter Tryd.func3, Tryd.ntmps3
  go_wp2_with (go_at_call 8; fail)
  generalize htt : (⟨([99, 97, 114, 32, 53, 32, 49, 32, 57, 10, 115, 116, 111, 112, 32, 50, 32, 48, 32, 56, 32, 49, 10, 115, 116, 111, 112, 32, 45, 50, 32, 51, 32, 52, 32, 48, 10, 112].append [97, 105, 114, 32, 49, 32, 50, 10, 114, 111, 119, 32, 48, 32, 49, 32, 50, 10, 114, 111, 119, 32, 51, 32, 48, 32, 52, 10, 114, 111, 119, 32, 53, 32, 54, 32, 48, 10]).toArray⟩ : ByteArray) = tt
  obtain rfl : tt = ofL textL := by rw [← htt]; rfl
  clear htt
  (with_reducible refine (small_lit _).mono ?_)
  rintro e w1 ⟨rfl, hs1, hb1⟩
  have HS1 := Lib.hid hs1
  have HB1 := Lib.hid hb1
  have z1 := hb1.size
  clear hs1 hb1
  go_wp2_with (go_at_call 7; fail)
  (with_reducible refine (print_small HS1.out (HN.out.below HB1.out (by omega)) (by omega) z1 (HT.out.on HB1.out)).mono ?_)
  rintro e w2 ⟨rfl, hb2⟩
  have HB2 := Lib.hid (HB1.out.trans (hb2.mono z1))
  have z2 : w.heap.size ≤ w2.heap.size := Nat.le_trans z1 hb2.size
  clear hb2 HS1
  have m2 : w2.cell? ⟨1, 0, none⟩ = some (.int .i64 mx) := by rw [HB2.out.cell h1]; exact HM.out
  have M2 := Lib.hid m2
  clear m2
  go_wp2_with (go_at_call 9; fail)
  (with_reducible refine (parse_small (HN.out.below HB2.out (by omega)) M2.out (by omega)).mono ?_)
  rintro e w3 ⟨hb3, A1, n1, c1, A2, n2, c2, A3, n3, c3, A4, n4, c4, rfl, hl3⟩
  have HL3 := Lib.hid hl3
  have HB3 := Lib.hid (HB2.out.trans (hb3.mono z2))
  have z3 : w.heap.size ≤ w3.heap.size := Nat.le_trans z2 hb3.size
  clear hb3 hl3
  go_wp2
  generalize hW4 : w3.alloc (.cells #[.slice A1 n1 c1, .slice A2 n2 c2, .slice A3 n3 c3, .slice A4 n4 c4] 30) = w4
  have z4 : w3.heap.size < w4.heap.size := by rw [← hW4]; simp
  have HW4 : Hid (Below w3.heap.size w3 w4) := by show Below _ _ _; rw [← hW4]; exact (Below.refl _ _).alloc (Nat.le_refl _) _
  have k0 : w4.cell? ⟨w3.heap.size, 0, none⟩ = some (.slice A1 n1 c1) := by rw [← hW4]; simp
  have k1 : w4.cell? ⟨w3.heap.size, 1, none⟩ = some (.slice A2 n2 c2) := by rw [← hW4]; simp
  have k2 : w4.cell? ⟨w3.heap.size, 2, none⟩ = some (.slice A3 n3 c3) := by rw [← hW4]; simp
  have k3 : w4.cell? ⟨w3.heap.size, 3, none⟩ = some (.slice A4 n4 c4) := by rw [← hW4]; simp
  have HL4 := Lib.hid (HL3.out.below HW4.out)
  have HB4 := Lib.hid (HB3.out.trans (HW4.out.mono z3))
  have hsz4 : w.heap.size ≤ w4.heap.size := by omega
  clear hW4 HL3
  go_region_held3 (fun w' => w'.cell? ⟨w3.heap.size, 0, none⟩ = some (.slice A1 n1 c1) ∧ w'.cell? ⟨w3.heap.size, 1, none⟩ = some (.slice A2 n2 c2) ∧ w'.cell? ⟨w3.heap.size, 2, none⟩ = some (.slice A3 n3 c3) ∧ w'.cell? ⟨w3.heap.size, 3, none⟩ = some (.slice A4 n4 c4))
    (first
      | go_keep
      | exact ⟨by rw [hb5.cell (by simp; omega)]; simpa using k0, by rw [hb5.cell (by simp; omega)]; simpa using k1, by rw [hb5.cell (by simp; omega)]; simpa using k2, by rw [hb5.cell (by simp; omega)]; simpa using k3⟩
      | exact ⟨by rw [hb6.cell (by simp; omega), hb5.cell (by simp; omega)]; simpa using k0, by rw [hb6.cell (by simp; omega), hb5.cell (by simp; omega)]; simpa using k1, by rw [hb6.cell (by simp; omega), hb5.cell (by simp; omega)]; simpa using k2, by rw [hb6.cell (by simp; omega), hb5.cell (by simp; omega)]; simpa using k3⟩)
    (first
      | (go_at_call 8; refine (small_lit _).mono ?_; rintro e w5 ⟨rfl, hs5, hb5⟩; have z5 := hb5.size; simp at z5)
      | (go_at_call 10; refine (same_prob _ _ smallP _ ((HL4.out.below (below_draws' (Below.refl _ _) 1)).below hb5) (small_lies hs5) small_short (by decide) (by decide)).mono ?_; rintro e w6 ⟨rfl, hb6⟩))
  have HB5 := Lib.hid ((below_draws' HB4.out 1).trans (hb5.mono (by simp; omega)))
  have HB6 := Lib.hid (HB5.out.trans (hb6.mono HB5.out.size))
  have z6 : w.heap.size ≤ w6.heap.size := HB6.out.size
  clear hb5 hb6 hs5 k0 k1 k2 k3 HL4 HB4 HB5 HW4
  go_wp2
  go_loopw [61] (fun c wr => ∃ k : Nat, k ≤ 20 ∧ c = .int .i64 k ∧ Tbl w6.heap.size wr ∧ Below w.heap.size w wr) (fun c _ => 20 - (intOf c).toNat)
  case atStart => exact ⟨0, by omega, rfl, tbl_start w6 _, HB6.out.alloc z6 _⟩
  case round =>
    obtain ⟨k, hk, rfl, htb, hb⟩ := hrel
    have HTB := Lib.hid htb
    have HB := Lib.hid hb
    have zr := hb.size
    have hzt := htb.1
    by_cases hlt : k < 20
    · obtain ⟨q0, q1⟩ := htb.2 k hlt
      have herr := rowsT_ok (rowsT[k]'hlt) (List.getElem_mem _)
      have hlen : (rowsT[k]'hlt).1.length ≤ 100 := rowsT_len (rowsT[k]'hlt) (List.getElem_mem _)
      generalize (rowsT[k]'hlt) = r at *
      obtain ⟨x, e0⟩ := r
      simp only at q0 q1 herr hlen
      have HERR := Lib.hid herr
      clear htb hb herr
      go_wp2_with (go_at_call 9; fail)
      (with_reducible refine (parse_err (mx := mx) e0 ?_ ?_ ?_ ?_ ?_).mono ?_)
      · exact HERR.out
      · show x.length ≤ _; omega
      · exact HN.out.below (HB.out.alloc zr _) (by omega)
      · rw [(HB.out.alloc zr _).cell h1]; exact HM.out
      · simp; omega
      rintro e w7 ⟨hb7, A1, n1, c1, A2, n2, c2, A3, n3, c3, A4, n4, c4, rfl⟩
      have x1 : w7.cell? ⟨wr.heap.size, 1, none⟩ = some (.int .i64 (e0 : Nat)) := by rw [hb7.cell (by simp)]; simp
      have HB7 := Lib.hid ((HB.out.alloc zr _).trans (hb7.mono (by simp; omega)))
      have HTB7 := Lib.hid ((HTB.out.below ((Below.refl _ _).alloc (Nat.le_refl _) _)).below hb7)
      have z7 : wr.heap.size < w7.heap.size := by have := hb7.size; simp at this; omega
      clear hb7 q0 q1
      go_wp2
      go_roundw
      case rel => exact ⟨k + 1, by omega, by go_num, HTB7.out.below ((Below.refl _ _).alloc (Nat.le_refl _) _), HB7.out.alloc HB7.out.size _⟩
      case measure => simp [intOf]; omega
    · obtain rfl : k = 20 := by omega
      clear htb hb
      obtain ⟨r, hr, hrN⟩ : ∃ r : Nat, withinI n 77 = (r : Int) ∧ r < 77 := by
        have := withinI_bounds (v := n) (n := 77) (by omega)
        exact ⟨(withinI n 77).toNat, by omega, by omega⟩
      have HW := Lib.hid (fun W => within_any n 77 W (by omega) (by omega))
      rw [hr] at HW
      have hsz : (ofL textL).size = 76 := rfl
      clear hr
      go_wp2_with (go_at_call 11; fail)
      (with_reducible refine (HW.out _).mono ?_); rintro e w' ⟨rfl, rfl⟩
      have hcut := cuts_ok r hrN
      obtain ⟨q, hq, hq2⟩ : ∃ q : Nat, errL (textL.take r) = q ∧ ((r = 76 ∧ q = 0) ∨ (r ≠ 76 ∧ q ≠ 0)) := by
        refine ⟨_, rfl, ?_⟩
        by_cases e : r = 76
        · subst e; exact .inl ⟨rfl, by simpa using hcut⟩
        · exact .inr ⟨e, by intro h; rw [h] at hcut; simp at hcut; exact e hcut⟩
      have HQ : Hid (errL ((ofL textL).extract 0 r).data.toList = q) := by show _ = _; rw [ext_take]; exact hq
      have hr1 : (r : Int) ≤ 76 := by omega
      have hr0 : r ≤ 76 := by omega
      have hes : ((ofL textL).extract 0 r).size ≤ 100000000 := by simp [ByteArray.size_extract]; omega
      have HES := Lib.hid hes
      clear hes hq hcut
      rcases hq2 with ⟨rfl, rfl⟩ | ⟨hr2, hq3⟩
      · as_aux_lemma =>
          go_wp2_with (go_at_call 9; fail)
          (with_reducible refine (parse_err (mx := mx) _ HQ.out HES.out ?_ ?_ ?_).mono ?_)
          · exact HN.out.below HB.out (by omega)
          · rw [HB.out.cell h1]; exact HM.out
          · omega
          rintro e v0 ⟨hb7, A1, n1, c1, A2, n2, c2, A3, n3, c3, A4, n4, c4, rfl⟩
          have HV0 := Lib.hid (HB.out.trans (hb7.mono zr))
          clear hb7
          go_wp2_with (go_at_call 8; fail)
          (with_reducible refine (small_lit _).mono ?_)
          rintro e u1 ⟨rfl, hs, hb⟩
          have HS1 := Lib.hid hs
          have HU1 := Lib.hid (HV0.out.trans (hb.mono HV0.out.size))
          clear hs hb
          go_wp2_with (go_at_call 12; fail)
          (with_reducible refine (small_m1 HS1.out).mono ?_)
          rintro e v1 ⟨rfl, hb⟩
          have HV1 := Lib.hid (HU1.out.trans (hb.mono HU1.out.size))
          clear hb HS1 HU1
          go_wp2_with (go_at_call 8; fail)
          (with_reducible refine (small_lit _).mono ?_)
          rintro e u2 ⟨rfl, hs, hb⟩
          have HS2 := Lib.hid hs
          have HU2 := Lib.hid (HV1.out.trans (hb.mono HV1.out.size))
          clear hs hb
          go_wp2_with (go_at_call 12; fail)
          (with_reducible refine (small_m2 HS2.out).mono ?_)
          rintro e v2 ⟨rfl, hb⟩
          have HV2 := Lib.hid (HU2.out.trans (hb.mono HU2.out.size))
          clear hb HS2 HU2
          go_wp2_with (go_at_call 8; fail)
          (with_reducible refine (small_lit _).mono ?_)
          rintro e u3 ⟨rfl, hs, hb⟩
          have HS3 := Lib.hid hs
          have HU3 := Lib.hid (HV2.out.trans (hb.mono HV2.out.size))
          clear hs hb
          go_wp2_with (go_at_call 13; fail)
          (with_reducible refine (small_f1 HS3.out).mono ?_)
          rintro e v3 ⟨rfl, hb⟩
          have HV3 := Lib.hid (HU3.out.trans (hb.mono HU3.out.size))
          clear hb HS3 HU3
          go_wp2_with (go_at_call 8; fail)
          (with_reducible refine (small_lit _).mono ?_)
          rintro e u4 ⟨rfl, hs, hb⟩
          have HS4 := Lib.hid hs
          have HU4 := Lib.hid (HV3.out.trans (hb.mono HV3.out.size))
          clear hs hb
          go_wp2_with (go_at_call 13; fail)
          (with_reducible refine (small_f2 HS4.out).mono ?_)
          rintro e v4 ⟨rfl, hb⟩
          have HV4 := Lib.hid (HU4.out.trans (hb.mono HU4.out.size))
          clear hb HS4 HU4
          go_wp2_with (go_at_call 8; fail)
          (with_reducible refine (small_lit _).mono ?_)
          rintro e u5 ⟨rfl, hs, hb⟩
          have HS5 := Lib.hid hs
          have HU5 := Lib.hid (HV4.out.trans (hb.mono HV4.out.size))
          clear hs hb
          go_wp2_with (go_at_call 12; fail)
          (with_reducible refine (small_m3 HS5.out).mono ?_)
          rintro e v5 ⟨rfl, hb⟩
          have HV5 := Lib.hid (HU5.out.trans (hb.mono HU5.out.size))
          clear hb HS5 HU5
          go_wp2_with (go_at_call 8; fail)
          (with_reducible refine (small_lit _).mono ?_)
          rintro e u6 ⟨rfl, hs, hb⟩
          have HS6 := Lib.hid hs
          have HU6 := Lib.hid (HV5.out.trans (hb.mono HV5.out.size))
          clear hs hb
          go_wp2_with (go_at_call 12; fail)
          (with_reducible refine (small_m0 HS6.out).mono ?_)
          rintro e v6 ⟨rfl, hb⟩
          have HV6 := Lib.hid (HU6.out.trans (hb.mono HU6.out.size))
          clear hb HS6 HU6
          go_wp2_with (go_at_call 8; fail)
          (with_reducible refine (small_lit _).mono ?_)
          rintro e u7 ⟨rfl, hs, hb⟩
          have HS7 := Lib.hid hs
          have HU7 := Lib.hid (HV6.out.trans (hb.mono HV6.out.size))
          clear hs hb
          go_wp2_with (go_at_call 13; fail)
          (with_reducible refine (small_f0 HS7.out).mono ?_)
          rintro e v7 ⟨rfl, hb⟩
          have HV7 := Lib.hid (HU7.out.trans (hb.mono HU7.out.size))
          clear hb HS7 HU7
          go_wp2_with (go_at_call 14; fail)
          (with_reducible refine (wakes_any _).mono ?_)
          rintro e v8 ⟨rfl, hb⟩
          have HV8 := Lib.hid (HV7.out.trans (hb.mono HV7.out.size))
          clear hb
          go_wp2
          go_ret
          exact ⟨rfl, HV8.out⟩
      · have t1 : ((q : Int) == 0) = false := by simp; omega
        have t2 : ((r : Int) == 76) = false := by simp; omega
        have t3 : (q == 0) = false := by simp; omega
        have t4 : (r == 76) = false := by simp; omega
        as_aux_lemma =>
          go_wp2_with (go_at_call 9; fail)
          (with_reducible refine (parse_err (mx := mx) _ HQ.out HES.out ?_ ?_ ?_).mono ?_)
          · exact HN.out.below HB.out (by omega)
          · rw [HB.out.cell h1]; exact HM.out
          · omega
          rintro e v0 ⟨hb7, A1, n1, c1, A2, n2, c2, A3, n3, c3, A4, n4, c4, rfl⟩
          have HV0 := Lib.hid (HB.out.trans (hb7.mono zr))
          clear hb7
          go_wp2_with (go_at_call 8; fail)
          (with_reducible refine (small_lit _).mono ?_)
          rintro e u1 ⟨rfl, hs, hb⟩
          have HS1 := Lib.hid hs
          have HU1 := Lib.hid (HV0.out.trans (hb.mono HV0.out.size))
          clear hs hb
          go_wp2_with (go_at_call 12; fail)
          (with_reducible refine (small_m1 HS1.out).mono ?_)
          rintro e v1 ⟨rfl, hb⟩
          have HV1 := Lib.hid (HU1.out.trans (hb.mono HU1.out.size))
          clear hb HS1 HU1
          go_wp2_with (go_at_call 8; fail)
          (with_reducible refine (small_lit _).mono ?_)
          rintro e u2 ⟨rfl, hs, hb⟩
          have HS2 := Lib.hid hs
          have HU2 := Lib.hid (HV1.out.trans (hb.mono HV1.out.size))
          clear hs hb
          go_wp2_with (go_at_call 12; fail)
          (with_reducible refine (small_m2 HS2.out).mono ?_)
          rintro e v2 ⟨rfl, hb⟩
          have HV2 := Lib.hid (HU2.out.trans (hb.mono HU2.out.size))
          clear hb HS2 HU2
          go_wp2_with (go_at_call 8; fail)
          (with_reducible refine (small_lit _).mono ?_)
          rintro e u3 ⟨rfl, hs, hb⟩
          have HS3 := Lib.hid hs
          have HU3 := Lib.hid (HV2.out.trans (hb.mono HV2.out.size))
          clear hs hb
          go_wp2_with (go_at_call 13; fail)
          (with_reducible refine (small_f1 HS3.out).mono ?_)
          rintro e v3 ⟨rfl, hb⟩
          have HV3 := Lib.hid (HU3.out.trans (hb.mono HU3.out.size))
          clear hb HS3 HU3
          go_wp2_with (go_at_call 8; fail)
          (with_reducible refine (small_lit _).mono ?_)
          rintro e u4 ⟨rfl, hs, hb⟩
          have HS4 := Lib.hid hs
          have HU4 := Lib.hid (HV3.out.trans (hb.mono HV3.out.size))
          clear hs hb
          go_wp2_with (go_at_call 13; fail)
          (with_reducible refine (small_f2 HS4.out).mono ?_)
          rintro e v4 ⟨rfl, hb⟩
          have HV4 := Lib.hid (HU4.out.trans (hb.mono HU4.out.size))
          clear hb HS4 HU4
          go_wp2_with (go_at_call 8; fail)
          (with_reducible refine (small_lit _).mono ?_)
          rintro e u5 ⟨rfl, hs, hb⟩
          have HS5 := Lib.hid hs
          have HU5 := Lib.hid (HV4.out.trans (hb.mono HV4.out.size))
          clear hs hb
          go_wp2_with (go_at_call 12; fail)
          (with_reducible refine (small_m3 HS5.out).mono ?_)
          rintro e v5 ⟨rfl, hb⟩
          have HV5 := Lib.hid (HU5.out.trans (hb.mono HU5.out.size))
          clear hb HS5 HU5
          go_wp2_with (go_at_call 8; fail)
          (with_reducible refine (small_lit _).mono ?_)
          rintro e u6 ⟨rfl, hs, hb⟩
          have HS6 := Lib.hid hs
          have HU6 := Lib.hid (HV5.out.trans (hb.mono HV5.out.size))
          clear hs hb
          go_wp2_with (go_at_call 12; fail)
          (with_reducible refine (small_m0 HS6.out).mono ?_)
          rintro e v6 ⟨rfl, hb⟩
          have HV6 := Lib.hid (HU6.out.trans (hb.mono HU6.out.size))
          clear hb HS6 HU6
          go_wp2_with (go_at_call 8; fail)
          (with_reducible refine (small_lit _).mono ?_)
          rintro e u7 ⟨rfl, hs, hb⟩
          have HS7 := Lib.hid hs
          have HU7 := Lib.hid (HV6.out.trans (hb.mono HV6.out.size))
          clear hs hb
          go_wp2_with (go_at_call 13; fail)
          (with_reducible refine (small_f0 HS7.out).mono ?_)
          rintro e v7 ⟨rfl, hb⟩
          have HV7 := Lib.hid (HU7.out.trans (hb.mono HU7.out.size))
          clear hb HS7 HU7
          go_wp2_with (go_at_call 14; fail)
          (with_reducible refine (wakes_any _).mono ?_)
          rintro e v8 ⟨rfl, hb⟩
          have HV8 := Lib.hid (HV7.out.trans (hb.mono HV7.out.size))
          clear hb
          go_wp2
          go_ret
          exact ⟨rfl, HV8.out⟩
end Go.Proofs.YteibelmgebhleaaDoor
