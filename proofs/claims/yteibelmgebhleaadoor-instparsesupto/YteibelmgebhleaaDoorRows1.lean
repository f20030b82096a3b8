/- What scan.Words answers, for every text of at most 2^40 bytes: new memory that holds its words; old memory stands. -/
import Derived.Test.YteibelmgebhleaaDoorProg
import Derived.Test.YteibelmgebhleaaDoorPlain
import Derived.WalkKit
import Derived.WalkLawsBesides
import Derived.Lib.Hide
import Derived.RowKit3
namespace Go.Proofs.YteibelmgebhleaaDoor
open Go.RowKit

def ofL (l : List UInt8) : ByteArray := ⟨l.toArray⟩
theorem ofL_toList (l : List UInt8) : (ofL l).data.toList = l := rfl
theorem ofL_of (s : ByteArray) : ofL s.data.toList = s := rfl
def strs (l : List (List UInt8)) : List Value := l.map fun x => .string (ofL x)
theorem strs_length (l : List (List UInt8)) : (strs l).length = l.length := by simp [strs]
theorem strs_append (l m : List (List UInt8)) : strs (l ++ m) = strs l ++ strs m := by simp [strs]
/-- the call returns new memory, from block B on, that holds these words; below B nothing has turned -/
def SomeRow (B : Nat) (l : List (List UInt8)) (w : World) (e : Ending) (w' : World) : Prop := ∃ v, e = .returned v ∧ w'.ownsRow B 9 1 v l.length (strs l) ∧ Below B w w'

theorem str_info : (Tryd.prog.info? 9).map (fun i => (i.zero, i.size, i.bytes)) = some (some (.string ⟨#[]⟩), 1, 16) := by kernel_rfl

theorem strs_one (l : List (List UInt8)) : ∀ u ∈ strs l, u.oneCell' = true := by
  intro u hu
  simp only [strs, List.mem_map] at hu
  obtain ⟨x, _, rfl⟩ := hu
  rfl
theorem isEmpty_true {x : ByteArray} (h : x.toList.isEmpty = true) : x.data.toList = [] := by
  rw [Lib.toList_data] at h; exact List.isEmpty_iff.1 h
theorem isEmpty_false {x : ByteArray} (h : x.toList.isEmpty = false) : x.data.toList ≠ [] := by
  intro h2; rw [Lib.toList_data, h2] at h; cases h

set_option maxHeartbeats 400000 in
theorem appendWord_any (B : Nat) (v : Value) (l : List (List UInt8)) (x : ByteArray) (w : World) (hown : w.ownsRow B 9 1 v l.length (strs l)) (hB : B ≤ w.heap.size) (hl : l.length ≤ 1099511627776) :
    Calls Tryd.prog 53 #[v, .string x] w (SomeRow B (push l x.data.toList) w) := by
  obtain ⟨i0, hi0, hz0, hz1, hz2⟩ := info_parts str_info
  by_cases hx : x.toList.isEmpty = true
  · have HX := Lib.hid (isEmpty_true hx)
    go_enter Tryd.func53, Tryd.ntmps53
    go_wp2
    go_ret
    exact ⟨v, rfl, by rw [HX.out, push_nil]; exact hown, Below.refl _ _⟩
  · have hx' : x.toList.isEmpty = false := by simpa using hx
    have HX := Lib.hid (isEmpty_false hx')
    clear hx
    go_enter Tryd.func53, Tryd.ntmps53
    go_wp2_with (at_builtin; refine wpList_append_own _ rfl _ _ 51 rfl B 9 i0 _ 1 16 Tryd.underlying51 hi0 hz0 hz1 hz2 rfl (by decide) _ _ _ rfl (hown.alloc _) ⟨w.heap.size, 0, none⟩ 1 1 [.string x] rfl rfl ?c1 ?c2 ?c3 ?c4 ?c5 ?_)
    case c1 =>
      intro j u hj
      match j, hj with
      | 0, hj => simp at hj; subst hj; simp [Addr.add]
    case c2 => intro u hu; simp at hu; subst hu; rfl
    case c3 => unfold maxLen; omega
    case c4 => omega
    case c5 => simp; omega
    intro v' w1 hown' hgrow _
    go_wp2
    go_ret
    refine ⟨v', rfl, ?_, ?_⟩
    · rw [push_word _ HX.out, strs_append, List.length_append]; exact hown'
    · exact ((Below.refl _ _).alloc hB _).grown hgrow (by simp; omega) (fun k hk => (hown.lt k hk).1)

theorem take_snoc (s : ByteArray) (k : Nat) (h : k < s.size) : s.data.toList.take (k + 1) = s.data.toList.take k ++ [s[k]] := by
  rw [List.take_succ_eq_append_getElem (by simpa using h)]; rfl
theorem data_len (s : ByteArray) : s.data.toList.length = s.size := by rw [Array.length_toList]; rfl
theorem take_len (s : ByteArray) (k : Nat) (h : k ≤ s.size) : (s.data.toList.take k).length = k := by
  rw [List.length_take, data_len]; omega
theorem take_all (s : ByteArray) : s.data.toList.take s.size = s.data.toList := List.take_of_length_le (by rw [data_len]; exact Nat.le_refl _)
/-- k bytes are looked at; the word at hand begins at place j -/
def WAt (s : ByteArray) (k j : Nat) : Prop := j ≤ k ∧ (wst (s.data.toList.take k)).2 = (s.data.toList.drop j).take (k - j)
theorem WAt.zero (s : ByteArray) : WAt s 0 0 := ⟨Nat.le_refl _, rfl⟩
theorem WAt.other {s : ByteArray} {k j : Nat} (h : WAt s k j) (hk : k < s.size) (hc : s[k] ≠ 32) :
    WAt s (k + 1) j ∧ (wst (s.data.toList.take (k + 1))).1 = (wst (s.data.toList.take k)).1 := by
  rw [WAt, take_snoc s k hk, wst_snoc]
  simp only [wstep, hc, if_false]
  refine ⟨⟨by have := h.1; omega, ?_⟩, trivial⟩
  have hj := h.1
  have e : k + 1 - j = (k - j) + 1 := by omega
  rw [h.2, e, List.take_succ_eq_append_getElem (by rw [List.length_drop, data_len]; omega)]
  simp only [List.getElem_drop]
  congr 2
  have : j + (k - j) = k := by omega
  simp only [this]; rfl
theorem WAt.blank {s : ByteArray} {k j : Nat} (h : WAt s k j) (hk : k < s.size) (hc : s[k] = 32) :
    WAt s (k + 1) (k + 1) ∧ (wst (s.data.toList.take (k + 1))).1 = push (wst (s.data.toList.take k)).1 (s.extract j k).data.toList := by
  rw [WAt, take_snoc s k hk, wst_snoc]
  simp only [wstep, hc, if_true]
  exact ⟨⟨Nat.le_refl _, by simp⟩, by rw [h.2, Lib.extract_data]⟩
theorem WAt.last {s : ByteArray} {j : Nat} (h : WAt s s.size j) : words s.data.toList = push (wst (s.data.toList.take s.size)).1 (s.extract j s.size).data.toList := by
  rw [Lib.extract_data, ← h.2, take_all]; rfl

set_option maxHeartbeats 1000000 in
theorem words_any (s : ByteArray) (w : World) (hs : s.size ≤ 1099511627776) :
    Calls Tryd.prog 44 #[.string s] w (SomeRow w.heap.size (words s.data.toList) w) := by
  go_enter Tryd.func44, Tryd.ntmps44
  go_wp2
  go_loopw [3, 4, 5] (fun v j i wr => ∃ k m : Nat, k ≤ s.size ∧ m ≤ k ∧ i = .int .i64 k ∧ j = .int .i64 m ∧ WAt s k m ∧ wr.ownsRow w.heap.size 9 1 v (wst (s.data.toList.take k)).1.length (strs (wst (s.data.toList.take k)).1) ∧ Below w.heap.size w wr) (fun _ _ i _ => s.size - (intOf i).toNat)
  case atStart => exact ⟨0, 0, Nat.zero_le _, Nat.zero_le _, rfl, rfl, WAt.zero s, World.ownsRow_nil _ _ _ _, Below.refl _ _⟩
  case round =>
    obtain ⟨k, m, hk, hm, rfl, rfl, hat, hown, hb⟩ := hrel
    have hlen : (wst (s.data.toList.take k)).1.length ≤ 1099511627776 := by
      have h1 := wst_length (s.data.toList.take k); have h2 := take_len s k hk; omega
    by_cases hlt : k < s.size
    · by_cases hc : s[k] = 32
      · have R := Lib.hid (hat.blank hlt hc)
        have hc' : ((s[k].toNat : Int) == 32) = true := by rw [hc]; rfl
        clear hc
        go_wp2_with (go_at_call 53; refine (appendWord_any w.heap.size _ _ _ _ (by assumption) hb.size hlen).mono ?_; rintro e w1 ⟨v1, rfl, hown1, hb1⟩)
        go_roundw
        case rel => exact ⟨k + 1, k + 1, by omega, Nat.le_refl _, by go_num, by go_num, R.out.1, by rw [R.out.2]; exact hown1, hb.trans hb1⟩
        case measure => simp [intOf]; omega
      · have R := Lib.hid (hat.other hlt hc)
        have hc' : ((s[k].toNat : Int) == 32) = false := by
          rw [beq_eq_false_iff_ne]; intro h; exact hc (UInt8.toNat.inj (show s[k].toNat = 32 by omega))
        clear hc
        go_wp2
        go_roundw
        case rel => exact ⟨k + 1, m, by omega, by omega, by go_num, rfl, R.out.1, by rw [R.out.2]; exact hown, hb⟩
        case measure => simp [intOf]; omega
    · obtain rfl : k = s.size := by omega
      have R := Lib.hid hat.last
      go_wp2_with (go_at_call 53; refine (appendWord_any w.heap.size _ _ _ _ (by assumption) hb.size hlen).mono ?_; rintro e w1 ⟨v1, rfl, hown1, hb1⟩)
      go_ret
      exact ⟨v1, rfl, by rw [R.out]; exact hown1, hb.trans hb1⟩
end Go.Proofs.YteibelmgebhleaaDoor
