/- The walk of ScanTells: for any text of at most 2^21 bytes and any int the law returns true; old memory stands. -/
import Derived.Test.YtakknkenanhjgaaDoorRefInt
import Derived.Test.YtakknkenanhjgaaDoorRefWords
import Derived.Test.YtakknkenanhjgaaDoorDigs
import Derived.Test.YtakknkenanhjgaaDoorSame
import Derived.Test.YtakknkenanhjgaaDoorMem
namespace Go.Proofs.YtakknkenanhjgaaDoor
open Go.RowKit

/-- four texts lie in block B -/
def Four (B : Nat) (wr : World) : Prop := ∀ k, k < 4 → ∃ s : ByteArray, s.size ≤ 2097153 ∧ wr.cell? ⟨B, k, none⟩ = some (.string s)
theorem Four.below {B : Nat} {w1 w2 : World} (h : Four B w1) (hb : Below w1.heap.size w1 w2) (hB : B < w1.heap.size) : Four B w2 := by
  intro k hk
  obtain ⟨s, h1, c1⟩ := h k hk
  exact ⟨s, h1, by rw [hb.cell hB]; exact c1⟩
theorem four_start (w : World) (t : TypeId) (a b c d : ByteArray) (ha : a.size ≤ 2097153) (hb : b.size ≤ 2097153) (hc : c.size ≤ 2097153) (hd : d.size ≤ 2097153) :
    Four w.heap.size (w.alloc (.cells #[.string a, .string b, .string c, .string d] t)) := by
  intro k hk
  match k, hk with
  | 0, _ => exact ⟨a, ha, by rw [World.cell?_alloc_new]; rfl⟩
  | 1, _ => exact ⟨b, hb, by rw [World.cell?_alloc_new]; rfl⟩
  | 2, _ => exact ⟨c, hc, by rw [World.cell?_alloc_new]; rfl⟩
  | 3, _ => exact ⟨d, hd, by rw [World.cell?_alloc_new]; rfl⟩

set_option maxRecDepth 100000 in
set_option maxHeartbeats 4000000 in
theorem tells_walk (s : ByteArray) (n : Int) (w : World) (hs : s.size ≤ 2097152) (hn : Fit n) (ht : Tab w.heap.size w) :
    Calls Tryd.prog 4 #[.string s, .int .i64 n] w fun e w' => e = .returned (.bool true) ∧ Below w.heap.size w w' := by
  have HT := Lib.hid ht
  have hd21 := digs_size hn
  have z1 : (⟨#[45]⟩ ++ s : ByteArray).size ≤ 2097153 := by
    have : (⟨#[45]⟩ : ByteArray).size = 1 := rfl
    rw [ByteArray.size_append, this]; omega
  have z2 : (s ++ ⟨#[48]⟩ : ByteArray).size ≤ 2097153 := by
    have : (⟨#[48]⟩ : ByteArray).size = 1 := rfl
    rw [ByteArray.size_append, this]; omega
  have CD := Lib.hid (fun W => refDigits_any n W hn)
  have CE := Lib.hid (fun W hB ht => digits_any w.heap.size n W hn hB ht)
  clear ht hn
  generalize digs n = d at *
  have HF := Lib.hid (four_start w 9 s d _ _ (by omega) (by omega) z1 z2)
  clear z1 z2
  go_enter Tryd.func4, Tryd.ntmps4
  go_wp2_with (go_at_call 13; (with_reducible refine (CD.out _).mono ?_); rintro e w' ⟨rfl, rfl⟩)
  go_loopw [20] (fun i wr => ∃ k : Nat, k ≤ 4 ∧ i = .int .i64 k ∧ w.heap.size < wr.heap.size ∧ Hid (Four w.heap.size wr) ∧ Hid (Below w.heap.size w wr)) (fun i _ => 4 - (intOf i).toNat)
  case atStart => exact ⟨0, Nat.zero_le _, rfl, by simp, HF, Lib.hid ((Below.refl _ _).alloc (Nat.le_refl _) _)⟩
  case round =>
    obtain ⟨k, hk, rfl, hsz, hf, hb⟩ := hrel
    by_cases hlt : k < 4
    · obtain ⟨x, hx, hc⟩ := hf.out k hlt
      have C1 := Lib.hid (fun W => int_any x W (by omega))
      have C2 := Lib.hid (fun W => refInt_any x W (by omega))
      have C3 := Lib.hid (fun W => words_any x W (by omega))
      have C4 := Lib.hid (fun W => refWords_any x W (by omega))
      have hwl : (words x.data.toList).length ≤ 2097153 := by have := words_length x.data.toList; rw [data_len] at this; omega
      generalize intVal x.data.toList = a at *
      generalize intOk x.data.toList = b at *
      generalize words x.data.toList = l at *
      go_wp2_with (first
        | (go_at_call 7; (with_reducible refine (C1.out _).mono ?_); rintro e w' ⟨rfl, rfl⟩)
        | (go_at_call 14; (with_reducible refine (C2.out _).mono ?_); rintro e w' ⟨rfl, rfl⟩)
        | (go_at_call 11; fail))
      (with_reducible refine (C3.out _).mono ?_); rintro e w1 ⟨v1, rfl, hown1, hb1⟩
      have H1 := Lib.hid hown1
      have B1 := Lib.hid hb1
      clear hown1 hb1
      go_wp2_with (go_at_call 15; fail)
      (with_reducible refine (C4.out _).mono ?_); rintro e w2 ⟨v2, rfl, hown2, hb2⟩
      have H2 := Lib.hid hown2
      have B2 := Lib.hid (B1.out.trans (hb2.mono B1.out.size))
      have H1' := Lib.hid (own_below H1.out hb2)
      have CS := Lib.hid (same_any _ _ _ _ _ _ H1'.out H2.out (by omega))
      clear hown2 hb2
      go_wp2_with (go_at_call 10; fail)
      (with_reducible refine (CS.out).mono ?_); rintro e w3 ⟨rfl, n3, rfl⟩
      have B3 := Lib.hid (below_draws B2.out n3)
      clear CS H1 H1' H2 B1 B2
      generalize w2.drewN n3 = w4 at *
      have S4 := B3.out.size
      go_wp2
      go_roundw
      case rel => exact ⟨k + 1, by omega, by go_num, by omega, Lib.hid (hf.out.below B3.out hsz), Lib.hid (hb.out.trans (B3.out.mono hb.out.size))⟩
      case measure => simp [intOf]; omega
    · obtain rfl : k = 4 := by omega
      go_wp2_with (go_at_call 8; fail)
      (with_reducible refine (CE.out _ hb.out.size (HT.out.on hb.out)).mono ?_); rintro e w1 ⟨rfl, hb1, _⟩
      have B1 := Lib.hid (hb.out.trans hb1)
      clear hb1
      go_wp2_with (first
        | (go_at_call 13; (with_reducible refine (CD.out _).mono ?_); rintro e w' ⟨rfl, rfl⟩)
        | (go_at_call 12; (with_reducible refine (wakes_any _).mono ?_); rintro e w' ⟨rfl, rfl⟩))
      go_ret
      exact ⟨rfl, B1.out⟩
end Go.Proofs.YtakknkenanhjgaaDoor
