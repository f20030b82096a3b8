/- What draymanref01.Words answers: new memory that holds the text's words; old memory stands. -/
import Derived.Test.YteibelmgebhleaaDoorRows1
namespace Go.Proofs.YteibelmgebhleaaDoor
open Go.RowKit
set_option maxRecDepth 100000

/-- k bytes are looked at (or the end as well): these words are done, this one is at hand -/
def RAt (s : ByteArray) (k : Nat) (l : List (List UInt8)) (x : ByteArray) : Prop := x.size ≤ k ∧ l.length ≤ k ∧ (k ≤ s.size → wst (s.data.toList.take k) = (l, x.data.toList)) ∧ (k = s.size + 1 → l = words s.data.toList)
theorem RAt.zero (s : ByteArray) : RAt s 0 [] ⟨#[]⟩ := ⟨Nat.le_refl _, Nat.le_refl _, fun _ => rfl, fun h => by omega⟩
theorem RAt.other {s : ByteArray} {k : Nat} {l : List (List UInt8)} {x : ByteArray} (h : RAt s k l x) (hk : k < s.size) (hc : s[k] ≠ 32) : RAt s (k + 1) l (x ++ s.extract k (k + 1)) := by
  have h1 : (s.extract k (k + 1)).data.toList = [s[k]] := by
    rw [Lib.extract_data, show k + 1 - k = 1 by omega, List.drop_eq_getElem_cons (by rw [data_len]; exact hk)]; rfl
  have h2 : (x ++ s.extract k (k + 1)).data.toList = x.data.toList ++ [s[k]] := by rw [← h1]; simp [ByteArray.data_append]
  refine ⟨?_, by have := h.2.1; omega, fun hk' => ?_, fun e => by omega⟩
  · rw [← data_len, h2, List.length_append, data_len]; have := h.1; simp; exact this
  · rw [take_snoc s k hk, wst_snoc, h.2.2.1 (by omega), h2]
    simp [wstep, hc]
theorem push_len (l : List (List UInt8)) (w : List UInt8) : (push l w).length ≤ l.length + 1 := by unfold push; split <;> simp
theorem RAt.blank {s : ByteArray} {k : Nat} {l : List (List UInt8)} {x : ByteArray} (h : RAt s k l x) (hk : k < s.size) (hc : s[k] = 32) : RAt s (k + 1) (push l x.data.toList) ⟨#[]⟩ := by
  refine ⟨Nat.zero_le _, by have := push_len l x.data.toList; have := h.2.1; omega, fun hk' => ?_, fun e => by omega⟩
  rw [take_snoc s k hk, wst_snoc, h.2.2.1 (by omega)]
  simp [wstep, hc]
theorem RAt.last {s : ByteArray} {l : List (List UInt8)} {x : ByteArray} (h : RAt s s.size l x) : RAt s (s.size + 1) (push l x.data.toList) ⟨#[]⟩ := by
  refine ⟨Nat.zero_le _, by have := push_len l x.data.toList; have := h.2.1; omega, fun hk' => by omega, fun e => ?_⟩
  have := h.2.2.1 (Nat.le_refl _)
  rw [take_all] at this
  unfold words; rw [this]

set_option maxHeartbeats 2000000 in
theorem refWords_any (s : ByteArray) (w : World) (hs : s.size ≤ 1099511627775) :
    Calls Tryd.prog 39 #[.string s] w (SomeRow w.heap.size (words s.data.toList) w) := by
  obtain ⟨i0, hi0, hz0, hz1, hz2⟩ := info_parts str_info
  go_enter Tryd.func39, Tryd.ntmps39
  go_wp2
  go_loopw [3, 4, 5] (fun v x i wr => ∃ (k : Nat) (l : List (List UInt8)) (c : ByteArray), k ≤ s.size + 1 ∧ i = .int .i64 k ∧ x = .string c ∧ RAt s k l c ∧ wr.ownsRow w.heap.size 9 1 v l.length (strs l) ∧ Below w.heap.size w wr) (fun _ _ i _ => s.size + 1 - (intOf i).toNat)
  case atStart => exact ⟨0, [], _, Nat.zero_le _, rfl, rfl, RAt.zero s, World.ownsRow_nil _ _ _ _, Below.refl _ _⟩
  case round =>
    obtain ⟨k, l, c, hk, rfl, rfl, hat, hown, hb⟩ := hrel
    have hc0 := hat.1
    have hl0 := hat.2.1
    have hbs := hb.size
    by_cases hlt : k < s.size
    · by_cases hc : s[k] = 32
      · have R := Lib.hid (hat.blank hlt hc)
        have hc' : ((s[k].toNat : Int) != 32) = false := by rw [hc]; rfl
        clear hc
        by_cases hx : c.toList.isEmpty = true
        · have HX := Lib.hid (isEmpty_true hx)
          go_wp2
          go_roundw
          case rel => exact ⟨k + 1, l, _, by omega, by go_num, rfl, by have := R.out; rw [HX.out, push_nil] at this; exact this, hown, hb⟩
          case measure => simp [intOf]; omega
        · have hx' : c.toList.isEmpty = false := by simpa using hx
          have HX := Lib.hid (isEmpty_false hx')
          clear hx
          go_wp2_with (at_builtin; refine wpList_append_own _ rfl _ _ 51 rfl w.heap.size 9 i0 _ 1 16 Tryd.underlying51 hi0 hz0 hz1 hz2 rfl (by decide) _ _ _ rfl (hown.alloc _) ⟨wr.heap.size, 0, none⟩ 1 1 [.string c] rfl rfl ?c1 ?c2 ?c3 ?c4 ?c5 ?_)
          case c1 =>
            intro j u hj
            match j, hj with
            | 0, hj => simp at hj; subst hj; simp [Addr.add]
          case c2 => intro u hu; simp at hu; subst hu; rfl
          case c3 => unfold maxLen; omega
          case c4 => omega
          case c5 => simp; omega
          intro v' w1 hown' hgrow _
          go_wp2
          go_roundw
          case rel => exact ⟨k + 1, l ++ [c.data.toList], _, by omega, by go_num, rfl, by have := R.out; rw [push_word _ HX.out] at this; exact this, by rw [strs_append, List.length_append]; exact hown', (hb.alloc hbs _).grown hgrow (by simp; omega) (fun j hj => (hown.lt j hj).1)⟩
          case measure => simp [intOf]; omega
      · have R := Lib.hid (hat.other hlt hc)
        have hc' : ((s[k].toNat : Int) != 32) = true := by
          rw [bne_iff_ne]; intro h; exact hc (UInt8.toNat.inj (show s[k].toNat = 32 by omega))
        have hk1 : (k : Int) + 1 ≤ (s.size : Int) := by omega
        have hk2 : k + 1 ≤ s.size := by omega
        have hk3 : k ≤ k + 1 := by omega
        have hk4 : (k : Int) ≤ (k : Int) + 1 := by omega
        clear hc
        go_wp2
        go_roundw
        case rel => exact ⟨k + 1, l, _, by omega, by go_num, rfl, R.out, hown, hb⟩
        case measure => simp [intOf]; omega
    · by_cases he : k = s.size
      · subst he
        have R := Lib.hid hat.last
        by_cases hx : c.toList.isEmpty = true
        · have HX := Lib.hid (isEmpty_true hx)
          go_wp2
          go_roundw
          case rel => exact ⟨s.size + 1, l, _, by omega, by go_num, rfl, by have := R.out; rw [HX.out, push_nil] at this; exact this, hown, hb⟩
          case measure => simp [intOf]
        · have hx' : c.toList.isEmpty = false := by simpa using hx
          have HX := Lib.hid (isEmpty_false hx')
          clear hx
          go_wp2_with (at_builtin; refine wpList_append_own _ rfl _ _ 51 rfl w.heap.size 9 i0 _ 1 16 Tryd.underlying51 hi0 hz0 hz1 hz2 rfl (by decide) _ _ _ rfl (hown.alloc _) ⟨wr.heap.size, 0, none⟩ 1 1 [.string c] rfl rfl ?d1 ?d2 ?d3 ?d4 ?d5 ?_)
          case d1 =>
            intro j u hj
            match j, hj with
            | 0, hj => simp at hj; subst hj; simp [Addr.add]
          case d2 => intro u hu; simp at hu; subst hu; rfl
          case d3 => unfold maxLen; omega
          case d4 => omega
          case d5 => simp; omega
          intro v' w1 hown' hgrow _
          go_wp2
          go_roundw
          case rel => exact ⟨s.size + 1, l ++ [c.data.toList], _, by omega, by go_num, rfl, by have := R.out; rw [push_word _ HX.out] at this; exact this, by rw [strs_append, List.length_append]; exact hown', (hb.alloc hbs _).grown hgrow (by simp; omega) (fun j hj => (hown.lt j hj).1)⟩
          case measure => simp [intOf]
      · obtain rfl : k = s.size + 1 := by omega
        have R := Lib.hid (hat.2.2.2 rfl)
        go_wp2
        go_ret
        exact ⟨_, rfl, by rw [← R.out]; exact hown, hb⟩
end Go.Proofs.YteibelmgebhleaaDoor
