/- The walk of ScanBack: for any int, any texts (of at most 2^20 bytes each), any int the law returns true; old memory stands. -/
import Derived.Test.YtakknkenanhjgaaDoorRefWords
import Derived.Test.YtakknkenanhjgaaDoorInts
import Derived.Test.YtakknkenanhjgaaDoorDigs
import Derived.Test.YtakknkenanhjgaaDoorSame
import Derived.Test.YtakknkenanhjgaaDoorMem
namespace Go.Proofs.YtakknkenanhjgaaDoor
open Go.RowKit

theorem data_add (a b : ByteArray) : (a ++ b).data.toList = a.data.toList ++ b.data.toList := by simp [ByteArray.data_append]
/-- the words of the first k texts -/
def acc (ss : List ByteArray) (k : Nat) : List (List UInt8) := ((ss.take k).map fun s => words s.data.toList).flatten
theorem acc_succ (ss : List ByteArray) (k : Nat) (h : k < ss.length) : acc ss (k + 1) = acc ss k ++ words ss[k].data.toList := by
  unfold acc; rw [List.take_succ_eq_append_getElem h, List.map_append, List.flatten_append]; simp
/-- the argument: texts that lie in old memory -/
def StrArg (w : World) (B : Nat) (A : Option Addr) (ss : List ByteArray) : Prop := ∀ i (h : i < ss.length), ∃ ad : Addr, A = some ad ∧ ad.block < B ∧ w.cell? (ad.add i) = some (.string ss[i])
/-- a text all of whose words are done, so many bytes at the most -/
def Done (c : ByteArray) (l : List (List UInt8)) (b : Nat) : Prop := c.size ≤ b ∧ l.length ≤ b ∧ wst c.data.toList = (l, [])
theorem Done.blank {c : ByteArray} {l : List (List UInt8)} {b : Nat} (h : Done c l b) : Done (c ++ ⟨#[32]⟩) l (b + 1) := by
  refine ⟨?_, by have := h.2.1; omega, ?_⟩
  · have e : (⟨#[32]⟩ : ByteArray).size = 1 := rfl
    rw [ByteArray.size_append, e]; have := h.1; omega
  · rw [data_add]; exact wst_blank h.2.2
theorem Done.word {c x : ByteArray} {l : List (List UInt8)} {b : Nat} (h : Done c l b) (hx : IsWord x.data.toList) : Done (c ++ (x ++ ⟨#[32]⟩)) (l ++ [x.data.toList]) (b + x.size + 1) := by
  refine ⟨?_, ?_, ?_⟩
  · have e : (⟨#[32]⟩ : ByteArray).size = 1 := rfl
    rw [ByteArray.size_append, ByteArray.size_append, e]; have := h.1; omega
  · rw [List.length_append, List.length_singleton]; have := h.2.1; omega
  · rw [data_add, data_add]; exact wst_more h.2.2 hx
def lenSum (l : List (List UInt8)) (k : Nat) : Nat := ((l.take k).map List.length).sum
theorem lenSum_succ (l : List (List UInt8)) (k : Nat) (h : k < l.length) : lenSum l (k + 1) = lenSum l k + l[k].length := by
  unfold lenSum; rw [List.take_succ_eq_append_getElem h, List.map_append, List.sum_append]; rfl
theorem lenSum_le (l : List (List UInt8)) (k : Nat) : lenSum l k ≤ (l.map List.length).sum := by
  unfold lenSum
  induction l generalizing k with
  | nil => simp
  | cons x l ih => cases k with
    | zero => simp
    | succ k => simp only [List.take_succ_cons, List.map_cons, List.sum_cons]; have := ih k; omega
theorem Done.more {c c' : ByteArray} {l l' : List (List UInt8)} {b b' : Nat} (h : Done c l b) (hc : c = c') (hl : l = l') (hb : b ≤ b') : Done c' l' b' := by
  subst hc; subst hl; exact ⟨by have := h.1; omega, by have := h.2.1; omega, h.2.2⟩
theorem int_back {n : Int} (hn : Fit n) : (n ≤ -1000000000000000000 ∨ 1000000000000000000 ≤ n) → ∀ W : World,
    Calls Tryd.prog 7 #[.string (digs n)] W fun e w' => e = .returned (.tuple #[.int .i64 0, .bool false]) ∧ W = w' := fun h W => by
  have h1 := int_any (digs n) W (by have := digs_size hn; omega)
  have h2 := (int_itoa n).1
  rw [decide_eq_false (by omega)] at h2
  rw [show (digs n).data.toList = Lib.itoa n from rfl, intVal_none h2, h2] at h1
  exact h1
theorem int_back' {n : Int} (hn : Fit n) : (-1000000000000000000 < n ∧ n < 1000000000000000000) → ∀ W : World,
    Calls Tryd.prog 7 #[.string (digs n)] W fun e w' => e = .returned (.tuple #[.int .i64 n, .bool true]) ∧ W = w' := fun h W => by
  have h1 := int_any (digs n) W (by have := digs_size hn; omega)
  have h2 := (int_itoa n).1
  rw [decide_eq_true h] at h2
  rw [show (digs n).data.toList = Lib.itoa n from rfl, (int_itoa n).2 h2, h2] at h1
  exact h1

/-- two owned rows in different blocks -/
def Dis (v3 v : Value) : Prop := v3.ownBlock = none ∨ v3.ownBlock ≠ v.ownBlock
theorem dis_start {w2 w3 : World} {B1 B3 e n1 n3 : Nat} {v v3 : Value} {xs ys : List Value} (h : w2.ownsRow B1 e 1 v n1 xs) (h3 : w3.ownsRow B3 e 1 v3 n3 ys) (hB : w2.heap.size ≤ B3) : Dis v3 v := by
  unfold Dis
  rcases h0 : v3.ownBlock with _ | g3
  · exact .inl rfl
  · refine .inr (fun he => ?_)
    have a1 := (h3.lt g3 h0).1
    have a2 := (h.lt g3 he.symm).2
    omega
theorem dis_next {wr : World} {B3 e n3 g : Nat} {v v' v3 : Value} {ys : List Value} (h : Dis v3 v) (h3 : wr.ownsRow B3 e 1 v3 n3 ys) (hg : wr.heap.size ≤ g) (hat : v'.ownBlock = v.ownBlock ∨ v'.ownBlock = some g) : Dis v3 v' := by
  unfold Dis at h ⊢
  rcases h0 : v3.ownBlock with _ | g3
  · exact .inl rfl
  · refine .inr (fun he => ?_)
    rcases hat with k | k
    · rcases h with h | h
      · rw [h0] at h; cases h
      · exact h (by rw [h0, he, k])
    · rw [k] at he
      have := (h3.lt g3 h0).2
      injection he with he
      omega
theorem reads_one (wr : World) (x : ByteArray) (t : TypeId) : Reads (wr.alloc (.cells #[.string x] t)) (wr.heap.size + 1) 1 (some ⟨wr.heap.size, 0, none⟩) 1 [.string x] := by
  refine ⟨rfl, fun _ => ⟨_, rfl, by simp, fun j u hu => ?_⟩⟩
  match j, hu with
  | 0, hu => simp at hu; subst hu; simp [Addr.add]
theorem take_done (ws : List (List UInt8)) : ws.take ws.length = ws := List.take_length
theorem StrArg.at {w wr : World} {A : Option Addr} {ss : List ByteArray} (h : StrArg w w.heap.size A ss) (hb : Below w.heap.size w wr) (i : Nat) (hi : i < ss.length) : ∃ ad : Addr, A = some ad ∧ wr.cell? (ad.add i) = some (.string ss[i]) := by
  obtain ⟨ad, h1, h2, h3⟩ := h i hi
  exact ⟨ad, h1, by rw [hb.cell (by rw [block_of_add]; exact h2)]; exact h3⟩

set_option maxRecDepth 100000 in
set_option maxHeartbeats 8000000 in
theorem back_walk (n k : Int) (A : Option Addr) (c : Nat) (ss : List ByteArray) (w : World) (hn : Fit n) (ht : Tab w.heap.size w) (ha : StrArg w w.heap.size A ss) (hsz : ∀ s ∈ ss, s.size ≤ 1048576) (_hlen : ss.length ≤ 1048576) :
    Calls Tryd.prog 5 #[.int .i64 n, .slice A ss.length c, .int .i64 k] w fun e w' => e = .returned (.bool true) ∧ Below w.heap.size w w' := by
  obtain ⟨i0, hi0, hz0, hz1, hz2⟩ := info_parts str_info
  have HA := Lib.hid ha
  have HZ := Lib.hid hsz
  have CD := Lib.hid (digits_any w.heap.size n w hn (Nat.le_refl _) ht)
  have CI := Lib.hid (int_back hn)
  have CI' := Lib.hid (int_back' hn)
  obtain ⟨r, hr, hr3⟩ : ∃ r : Nat, withinI k 3 = (r : Int) ∧ r < 3 := by
    have := withinI_bounds (v := k) (n := 3) (by omega)
    exact ⟨(withinI k 3).toNat, by omega, by omega⟩
  have CW := Lib.hid (fun W => within_any k 3 W (by omega) (by omega))
  rw [hr] at CW
  clear hr ha hsz ht hn
  generalize digs n = d at *
  rcases (show n ≤ -1000000000000000000 ∨ 1000000000000000000 ≤ n ∨ (-1000000000000000000 < n ∧ n < 1000000000000000000) by omega) with hq | hq | hq
  · have C1 := Lib.hid (CI.out (.inl hq))
    clear CI CI'
    go_enter Tryd.func5, Tryd.ntmps5
    go_wp2_with (first
      | (go_at_call 8; (with_reducible refine (CD.out).mono ?_); rintro e w1 ⟨rfl, hb1, _⟩; have HB1 := Lib.hid hb1; clear hb1)
      | (go_at_call 7; (with_reducible refine (C1.out _).mono ?_); rintro e w' ⟨rfl, rfl⟩))
    have HO1 := Lib.hid HB1.out
    clear CD C1 HB1
    go_loopw [11, 12, 13] (fun t v i wr => ∃ (m : Nat) (c' : ByteArray), m ≤ ss.length ∧ m ≤ 9 ∧ i = .int .i64 m ∧ t = .string c' ∧ Hid (Done c' (acc ss m) (m * 2200000)) ∧ Hid (wr.ownsRow w.heap.size 9 1 v (acc ss m).length (strs (acc ss m))) ∧ Hid (Below w.heap.size w wr)) (fun _ _ i _ => 9 - (intOf i).toNat)
    case atStart => exact ⟨0, _, Nat.zero_le _, Nat.zero_le _, rfl, rfl, Lib.hid ⟨Nat.le_refl _, Nat.le_refl _, rfl⟩, Lib.hid (World.ownsRow_nil _ _ _ _), HO1⟩
    case round =>
      obtain ⟨m, c', hm1, hm2, rfl, rfl, hdone, hown, hb⟩ := hrel
      have hcs := hdone.out.1
      by_cases hgo : m < ss.length ∧ m < 9
      · obtain ⟨hg1, hg2⟩ := hgo
        obtain ⟨e, he, he2⟩ : ∃ e : Nat, ((r : Int) + (m : Int)) % 3 = (e : Int) ∧ e ≤ 2 := ⟨(r + m) % 3, by omega, by omega⟩
        have D0 := Lib.hid hdone.out.blank
        have hm9 : decide ((m : Int) < 9) = true := by simp; omega
        have B0 := hb.out.size
        go_wp2_with (go_at_call 9; (with_reducible refine (CW.out _).mono ?_); rintro e w' ⟨rfl, rfl⟩)
        go_loop [11, 14] (fun t q => ∃ (p : Nat) (c2 : ByteArray), p ≤ e ∧ q = .int .i64 p ∧ t = .string c2 ∧ Hid (Done c2 (acc ss m) (m * 2200000 + 1 + p))) (fun _ q => e - (intOf q).toNat)
        case atStart => exact ⟨0, _, Nat.zero_le _, rfl, rfl, D0⟩
        case round =>
          obtain ⟨p, c2, hp, rfl, rfl, hd2⟩ := hrel
          have hc2 := hd2.out.1
          by_cases hpe : p < e
          · have D1 := Lib.hid hd2.out.blank
            go_wp2_with (go_at_call 9; (with_reducible refine (CW.out _).mono ?_); rintro e w' ⟨rfl, rfl⟩)
            go_round
            case rel => exact ⟨p + 1, _, by omega, by go_num, rfl, Lib.hid (D1.out.more rfl rfl (by omega))⟩
            case measure => simp [intOf]; omega
          · obtain rfl : p = e := by omega
            obtain ⟨ad, rfl, hcell⟩ := HA.out.at hb.out m hg1
            have hxs : ss[m].size ≤ 1048576 := HZ.out _ (List.getElem_mem hg1)
            have HN := Lib.hid (acc_succ ss m hg1)
            have CR := Lib.hid (fun W => refWords_any ss[m] W (by omega))
            have hwl := words_length ss[m].data.toList
            have HC := Lib.hid (words_count ss[m].data.toList)
            have HI := Lib.hid (words_isWord ss[m].data.toList)
            rw [data_len] at hwl HC
            have hls : ((words ss[m].data.toList).map List.length).sum ≤ 1048576 := by have := HC.out; omega
            clear HC
            generalize words ss[m].data.toList = ws at *
            go_wp2_with (first
              | (go_at_call 9; (with_reducible refine (CW.out _).mono ?_); rintro e w' ⟨rfl, rfl⟩)
              | (go_at_call 15; fail))
            (with_reducible refine (CR.out _).mono ?_); rintro e' w3 ⟨v3, rfl, hown3, hb3⟩
            obtain ⟨A3, c3, rfl, _⟩ := own_view hown3
            have DD := Lib.hid (dis_start hown.out hown3 (Nat.le_refl _))
            have H3 := Lib.hid hown3
            have HW := Lib.hid (own_below hown.out hb3)
            have HB3 := Lib.hid (hb.out.trans (hb3.mono B0))
            clear hown3 hb3 CR
            go_wp2
            go_loopw [11, 12, 78] (fun t v i wr' => ∃ (q : Nat) (c4 : ByteArray), q ≤ ws.length ∧ i = .int .i64 q ∧ t = .string c4 ∧ Hid (Done c4 (acc ss m ++ ws.take q) (m * 2200000 + 3 + lenSum ws q + q)) ∧ Hid (wr'.ownsRow w.heap.size 9 1 v (acc ss m ++ ws.take q).length (strs (acc ss m ++ ws.take q))) ∧ Hid (wr'.ownsRow wr.heap.size 9 1 (.slice A3 ws.length c3) ws.length (strs ws)) ∧ Hid (Dis (.slice A3 ws.length c3) v) ∧ Hid (Below w.heap.size w wr')) (fun _ _ i _ => ws.length - (intOf i).toNat)
            case atStart => exact ⟨0, _, Nat.zero_le _, rfl, rfl, Lib.hid (hd2.out.more rfl (by simp) (by simp [lenSum]; omega)), Lib.hid (by simpa using HW.out), H3, DD, HB3⟩
            case round =>
              obtain ⟨q, c4, hq, rfl, rfl, hd4, hown4, hown3, hdis, hb4⟩ := hrel
              have hc4 := hd4.out.1
              have hl4 := hd4.out.2.1
              have hlq := lenSum_le ws q
              have S4 := hb4.out.size
              by_cases hqs : q < ws.length
              · obtain ⟨A', c'', hv, hcell3⟩ := own_view hown3.out
                obtain ⟨g, hg, hcx⟩ := hcell3 q hqs
                obtain rfl : A3 = some ⟨g, 0, none⟩ := by injection hv with h1 h2 h3; rw [h1]; exact hg
                clear hcell3 hv hg
                have hw := HI.out ws[q] (List.getElem_mem hqs)
                have hx1 : (ofL ws[q]).size = ws[q].length := by rw [← data_len, ofL_toList]
                have HLs := Lib.hid (lenSum_succ ws q hqs)
                have hx2 : (ofL ws[q]).size ≤ 1048576 := by have := lenSum_le ws (q + 1); have := HLs.out; omega
                have D5 := Lib.hid ((hd4.out.word (x := ofL ws[q]) (by rw [ofL_toList]; exact hw)).more rfl (l' := acc ss m ++ ws.take (q + 1)) (b' := m * 2200000 + 3 + lenSum ws (q + 1) + (q + 1)) (by rw [ofL_toList, List.append_assoc, ← List.take_succ_eq_append_getElem hqs]) (by rw [HLs.out, hx1]; omega))
                have HE := Lib.hid (show strs (acc ss m ++ ws.take q) ++ [.string (ofL ws[q])] = strs (acc ss m ++ ws.take (q + 1)) by
                  rw [List.take_succ_eq_append_getElem hqs, ← List.append_assoc, strs_append (acc ss m ++ ws.take q)]; rfl)
                have HF := Lib.hid (show (acc ss m).length + q + 1 = (acc ss m ++ ws.take (q + 1)).length by rw [List.length_append, List.length_take]; omega)
                clear hw hx1
                generalize hgx : ofL ws[q] = x at *
                clear hgx
                have RX := Lib.hid (reads_one wr x 9)
                go_wp2_with (at_builtin; refine wpList_append_any _ rfl (.tmp 86) (.tmp 88) 27 rfl w.heap.size 9 i0 _ 1 16 Tryd.underlying27 hi0 hz0 hz1 hz2 rfl (by omega) _ _ _ rfl (hown4.out.alloc _) (wr.heap.size + 1) _ 1 1 _ rfl RX.out (by intro u hu; simp at hu; subst hu; rfl) (by unfold maxLen; omega) (by omega) (by simp; omega) ?_)
                intro v5 w5 hown5 hg5 hat5
                rw [HE.out, HF.out] at hown5
                have H5 := Lib.hid hown5
                have H35 := Lib.hid ((hown3.out.alloc (.cells #[.string x] 9)).kept hg5 hdis.out)
                have DI := Lib.hid (dis_next hdis.out hown3.out (g := wr.heap.size + 1) (by omega) (by simpa using hat5))
                have B5 := Lib.hid (((hb4.out.alloc S4 (.cells #[.string x] 9))).grown hg5 (by simp; omega) (fun k hk => (hown4.out.lt k hk).1))
                clear hown5 hg5 hat5
                go_wp2
                go_roundw
                case rel => exact ⟨q + 1, _, by omega, by go_num, rfl, D5, H5, H35, DI, B5⟩
                case measure => simp [intOf]; omega
              · obtain rfl : q = ws.length := by omega
                have D6 := Lib.hid (hd4.out.more rfl (l' := acc ss (m + 1)) (b' := (m + 1) * 2200000) (by rw [HN.out, take_done]) (by omega))
                have H6 := Lib.hid (show _ from hown4.out)
                rw [take_done, ← HN.out] at H6
                go_wp2
                go_roundw
                case rel => exact ⟨m + 1, _, by omega, by omega, by go_num, rfl, D6, H6, hb4⟩
                case measure => simp [intOf]; omega
      · have hd := hdone.out
        have hwords := Lib.hid (words_done hd.2.2)
        have CF := Lib.hid (fun W => words_any c' W (by omega))
        rw [hwords.out] at CF
        have hal : (acc ss m).length ≤ 20000000 := by have := hd.2.1; omega
        rcases (show ¬ m < ss.length ∨ (m < ss.length ∧ ¬ m < 9) by omega) with hg | ⟨hg1, hg⟩
        all_goals
          clear hgo hd
          go_wp2_with (go_at_call 11; fail)
          (with_reducible refine (CF.out _).mono ?_); rintro e w2 ⟨v2, rfl, hown2, hb2⟩
          have H2 := Lib.hid hown2
          have HW := Lib.hid (own_below hown.out hb2)
          have B2 := Lib.hid (hb.out.trans (hb2.mono hb.out.size))
          have CS := Lib.hid (same_any _ _ _ _ _ _ H2.out HW.out (by omega))
          clear hown2 hb2
          go_wp2_with (go_at_call 10; fail)
          (with_reducible refine (CS.out).mono ?_); rintro e w3 ⟨rfl, n3, rfl⟩
          have B3 := Lib.hid (below_draws B2.out n3)
          clear CS
          go_wp2_with (go_at_call 12; (with_reducible refine (wakes_any _).mono ?_); rintro e w' ⟨rfl, rfl⟩)
          go_ret
          exact ⟨rfl, B3.out⟩
  · have C1 := Lib.hid (CI.out (.inr hq))
    clear CI CI'
    go_enter Tryd.func5, Tryd.ntmps5
    go_wp2_with (first
      | (go_at_call 8; (with_reducible refine (CD.out).mono ?_); rintro e w1 ⟨rfl, hb1, _⟩; have HB1 := Lib.hid hb1; clear hb1)
      | (go_at_call 7; (with_reducible refine (C1.out _).mono ?_); rintro e w' ⟨rfl, rfl⟩))
    have HO1 := Lib.hid HB1.out
    clear CD C1 HB1
    go_loopw [11, 12, 13] (fun t v i wr => ∃ (m : Nat) (c' : ByteArray), m ≤ ss.length ∧ m ≤ 9 ∧ i = .int .i64 m ∧ t = .string c' ∧ Hid (Done c' (acc ss m) (m * 2200000)) ∧ Hid (wr.ownsRow w.heap.size 9 1 v (acc ss m).length (strs (acc ss m))) ∧ Hid (Below w.heap.size w wr)) (fun _ _ i _ => 9 - (intOf i).toNat)
    case atStart => exact ⟨0, _, Nat.zero_le _, Nat.zero_le _, rfl, rfl, Lib.hid ⟨Nat.le_refl _, Nat.le_refl _, rfl⟩, Lib.hid (World.ownsRow_nil _ _ _ _), HO1⟩
    case round =>
      obtain ⟨m, c', hm1, hm2, rfl, rfl, hdone, hown, hb⟩ := hrel
      have hcs := hdone.out.1
      by_cases hgo : m < ss.length ∧ m < 9
      · obtain ⟨hg1, hg2⟩ := hgo
        obtain ⟨e, he, he2⟩ : ∃ e : Nat, ((r : Int) + (m : Int)) % 3 = (e : Int) ∧ e ≤ 2 := ⟨(r + m) % 3, by omega, by omega⟩
        have D0 := Lib.hid hdone.out.blank
        have hm9 : decide ((m : Int) < 9) = true := by simp; omega
        have B0 := hb.out.size
        go_wp2_with (go_at_call 9; (with_reducible refine (CW.out _).mono ?_); rintro e w' ⟨rfl, rfl⟩)
        go_loop [11, 14] (fun t q => ∃ (p : Nat) (c2 : ByteArray), p ≤ e ∧ q = .int .i64 p ∧ t = .string c2 ∧ Hid (Done c2 (acc ss m) (m * 2200000 + 1 + p))) (fun _ q => e - (intOf q).toNat)
        case atStart => exact ⟨0, _, Nat.zero_le _, rfl, rfl, D0⟩
        case round =>
          obtain ⟨p, c2, hp, rfl, rfl, hd2⟩ := hrel
          have hc2 := hd2.out.1
          by_cases hpe : p < e
          · have D1 := Lib.hid hd2.out.blank
            go_wp2_with (go_at_call 9; (with_reducible refine (CW.out _).mono ?_); rintro e w' ⟨rfl, rfl⟩)
            go_round
            case rel => exact ⟨p + 1, _, by omega, by go_num, rfl, Lib.hid (D1.out.more rfl rfl (by omega))⟩
            case measure => simp [intOf]; omega
          · obtain rfl : p = e := by omega
            obtain ⟨ad, rfl, hcell⟩ := HA.out.at hb.out m hg1
            have hxs : ss[m].size ≤ 1048576 := HZ.out _ (List.getElem_mem hg1)
            have HN := Lib.hid (acc_succ ss m hg1)
            have CR := Lib.hid (fun W => refWords_any ss[m] W (by omega))
            have hwl := words_length ss[m].data.toList
            have HC := Lib.hid (words_count ss[m].data.toList)
            have HI := Lib.hid (words_isWord ss[m].data.toList)
            rw [data_len] at hwl HC
            have hls : ((words ss[m].data.toList).map List.length).sum ≤ 1048576 := by have := HC.out; omega
            clear HC
            generalize words ss[m].data.toList = ws at *
            go_wp2_with (first
              | (go_at_call 9; (with_reducible refine (CW.out _).mono ?_); rintro e w' ⟨rfl, rfl⟩)
              | (go_at_call 15; fail))
            (with_reducible refine (CR.out _).mono ?_); rintro e' w3 ⟨v3, rfl, hown3, hb3⟩
            obtain ⟨A3, c3, rfl, _⟩ := own_view hown3
            have DD := Lib.hid (dis_start hown.out hown3 (Nat.le_refl _))
            have H3 := Lib.hid hown3
            have HW := Lib.hid (own_below hown.out hb3)
            have HB3 := Lib.hid (hb.out.trans (hb3.mono B0))
            clear hown3 hb3 CR
            go_wp2
            go_loopw [11, 12, 78] (fun t v i wr' => ∃ (q : Nat) (c4 : ByteArray), q ≤ ws.length ∧ i = .int .i64 q ∧ t = .string c4 ∧ Hid (Done c4 (acc ss m ++ ws.take q) (m * 2200000 + 3 + lenSum ws q + q)) ∧ Hid (wr'.ownsRow w.heap.size 9 1 v (acc ss m ++ ws.take q).length (strs (acc ss m ++ ws.take q))) ∧ Hid (wr'.ownsRow wr.heap.size 9 1 (.slice A3 ws.length c3) ws.length (strs ws)) ∧ Hid (Dis (.slice A3 ws.length c3) v) ∧ Hid (Below w.heap.size w wr')) (fun _ _ i _ => ws.length - (intOf i).toNat)
            case atStart => exact ⟨0, _, Nat.zero_le _, rfl, rfl, Lib.hid (hd2.out.more rfl (by simp) (by simp [lenSum]; omega)), Lib.hid (by simpa using HW.out), H3, DD, HB3⟩
            case round =>
              obtain ⟨q, c4, hq, rfl, rfl, hd4, hown4, hown3, hdis, hb4⟩ := hrel
              have hc4 := hd4.out.1
              have hl4 := hd4.out.2.1
              have hlq := lenSum_le ws q
              have S4 := hb4.out.size
              by_cases hqs : q < ws.length
              · obtain ⟨A', c'', hv, hcell3⟩ := own_view hown3.out
                obtain ⟨g, hg, hcx⟩ := hcell3 q hqs
                obtain rfl : A3 = some ⟨g, 0, none⟩ := by injection hv with h1 h2 h3; rw [h1]; exact hg
                clear hcell3 hv hg
                have hw := HI.out ws[q] (List.getElem_mem hqs)
                have hx1 : (ofL ws[q]).size = ws[q].length := by rw [← data_len, ofL_toList]
                have HLs := Lib.hid (lenSum_succ ws q hqs)
                have hx2 : (ofL ws[q]).size ≤ 1048576 := by have := lenSum_le ws (q + 1); have := HLs.out; omega
                have D5 := Lib.hid ((hd4.out.word (x := ofL ws[q]) (by rw [ofL_toList]; exact hw)).more rfl (l' := acc ss m ++ ws.take (q + 1)) (b' := m * 2200000 + 3 + lenSum ws (q + 1) + (q + 1)) (by rw [ofL_toList, List.append_assoc, ← List.take_succ_eq_append_getElem hqs]) (by rw [HLs.out, hx1]; omega))
                have HE := Lib.hid (show strs (acc ss m ++ ws.take q) ++ [.string (ofL ws[q])] = strs (acc ss m ++ ws.take (q + 1)) by
                  rw [List.take_succ_eq_append_getElem hqs, ← List.append_assoc, strs_append (acc ss m ++ ws.take q)]; rfl)
                have HF := Lib.hid (show (acc ss m).length + q + 1 = (acc ss m ++ ws.take (q + 1)).length by rw [List.length_append, List.length_take]; omega)
                clear hw hx1
                generalize hgx : ofL ws[q] = x at *
                clear hgx
                have RX := Lib.hid (reads_one wr x 9)
                go_wp2_with (at_builtin; refine wpList_append_any _ rfl (.tmp 86) (.tmp 88) 27 rfl w.heap.size 9 i0 _ 1 16 Tryd.underlying27 hi0 hz0 hz1 hz2 rfl (by omega) _ _ _ rfl (hown4.out.alloc _) (wr.heap.size + 1) _ 1 1 _ rfl RX.out (by intro u hu; simp at hu; subst hu; rfl) (by unfold maxLen; omega) (by omega) (by simp; omega) ?_)
                intro v5 w5 hown5 hg5 hat5
                rw [HE.out, HF.out] at hown5
                have H5 := Lib.hid hown5
                have H35 := Lib.hid ((hown3.out.alloc (.cells #[.string x] 9)).kept hg5 hdis.out)
                have DI := Lib.hid (dis_next hdis.out hown3.out (g := wr.heap.size + 1) (by omega) (by simpa using hat5))
                have B5 := Lib.hid (((hb4.out.alloc S4 (.cells #[.string x] 9))).grown hg5 (by simp; omega) (fun k hk => (hown4.out.lt k hk).1))
                clear hown5 hg5 hat5
                go_wp2
                go_roundw
                case rel => exact ⟨q + 1, _, by omega, by go_num, rfl, D5, H5, H35, DI, B5⟩
                case measure => simp [intOf]; omega
              · obtain rfl : q = ws.length := by omega
                have D6 := Lib.hid (hd4.out.more rfl (l' := acc ss (m + 1)) (b' := (m + 1) * 2200000) (by rw [HN.out, take_done]) (by omega))
                have H6 := Lib.hid (show _ from hown4.out)
                rw [take_done, ← HN.out] at H6
                go_wp2
                go_roundw
                case rel => exact ⟨m + 1, _, by omega, by omega, by go_num, rfl, D6, H6, hb4⟩
                case measure => simp [intOf]; omega
      · have hd := hdone.out
        have hwords := Lib.hid (words_done hd.2.2)
        have CF := Lib.hid (fun W => words_any c' W (by omega))
        rw [hwords.out] at CF
        have hal : (acc ss m).length ≤ 20000000 := by have := hd.2.1; omega
        rcases (show ¬ m < ss.length ∨ (m < ss.length ∧ ¬ m < 9) by omega) with hg | ⟨hg1, hg⟩
        all_goals
          clear hgo hd
          go_wp2_with (go_at_call 11; fail)
          (with_reducible refine (CF.out _).mono ?_); rintro e w2 ⟨v2, rfl, hown2, hb2⟩
          have H2 := Lib.hid hown2
          have HW := Lib.hid (own_below hown.out hb2)
          have B2 := Lib.hid (hb.out.trans (hb2.mono hb.out.size))
          have CS := Lib.hid (same_any _ _ _ _ _ _ H2.out HW.out (by omega))
          clear hown2 hb2
          go_wp2_with (go_at_call 10; fail)
          (with_reducible refine (CS.out).mono ?_); rintro e w3 ⟨rfl, n3, rfl⟩
          have B3 := Lib.hid (below_draws B2.out n3)
          clear CS
          go_wp2_with (go_at_call 12; (with_reducible refine (wakes_any _).mono ?_); rintro e w' ⟨rfl, rfl⟩)
          go_ret
          exact ⟨rfl, B3.out⟩
  · have C1 := Lib.hid (CI'.out hq)
    clear CI CI'
    go_enter Tryd.func5, Tryd.ntmps5
    go_wp2_with (first
      | (go_at_call 8; (with_reducible refine (CD.out).mono ?_); rintro e w1 ⟨rfl, hb1, _⟩; have HB1 := Lib.hid hb1; clear hb1)
      | (go_at_call 7; (with_reducible refine (C1.out _).mono ?_); rintro e w' ⟨rfl, rfl⟩))
    have HO1 := Lib.hid HB1.out
    clear CD C1 HB1
    go_loopw [11, 12, 13] (fun t v i wr => ∃ (m : Nat) (c' : ByteArray), m ≤ ss.length ∧ m ≤ 9 ∧ i = .int .i64 m ∧ t = .string c' ∧ Hid (Done c' (acc ss m) (m * 2200000)) ∧ Hid (wr.ownsRow w.heap.size 9 1 v (acc ss m).length (strs (acc ss m))) ∧ Hid (Below w.heap.size w wr)) (fun _ _ i _ => 9 - (intOf i).toNat)
    case atStart => exact ⟨0, _, Nat.zero_le _, Nat.zero_le _, rfl, rfl, Lib.hid ⟨Nat.le_refl _, Nat.le_refl _, rfl⟩, Lib.hid (World.ownsRow_nil _ _ _ _), HO1⟩
    case round =>
      obtain ⟨m, c', hm1, hm2, rfl, rfl, hdone, hown, hb⟩ := hrel
      have hcs := hdone.out.1
      by_cases hgo : m < ss.length ∧ m < 9
      · obtain ⟨hg1, hg2⟩ := hgo
        obtain ⟨e, he, he2⟩ : ∃ e : Nat, ((r : Int) + (m : Int)) % 3 = (e : Int) ∧ e ≤ 2 := ⟨(r + m) % 3, by omega, by omega⟩
        have D0 := Lib.hid hdone.out.blank
        have hm9 : decide ((m : Int) < 9) = true := by simp; omega
        have B0 := hb.out.size
        go_wp2_with (go_at_call 9; (with_reducible refine (CW.out _).mono ?_); rintro e w' ⟨rfl, rfl⟩)
        go_loop [11, 14] (fun t q => ∃ (p : Nat) (c2 : ByteArray), p ≤ e ∧ q = .int .i64 p ∧ t = .string c2 ∧ Hid (Done c2 (acc ss m) (m * 2200000 + 1 + p))) (fun _ q => e - (intOf q).toNat)
        case atStart => exact ⟨0, _, Nat.zero_le _, rfl, rfl, D0⟩
        case round =>
          obtain ⟨p, c2, hp, rfl, rfl, hd2⟩ := hrel
          have hc2 := hd2.out.1
          by_cases hpe : p < e
          · have D1 := Lib.hid hd2.out.blank
            go_wp2_with (go_at_call 9; (with_reducible refine (CW.out _).mono ?_); rintro e w' ⟨rfl, rfl⟩)
            go_round
            case rel => exact ⟨p + 1, _, by omega, by go_num, rfl, Lib.hid (D1.out.more rfl rfl (by omega))⟩
            case measure => simp [intOf]; omega
          · obtain rfl : p = e := by omega
            obtain ⟨ad, rfl, hcell⟩ := HA.out.at hb.out m hg1
            have hxs : ss[m].size ≤ 1048576 := HZ.out _ (List.getElem_mem hg1)
            have HN := Lib.hid (acc_succ ss m hg1)
            have CR := Lib.hid (fun W => refWords_any ss[m] W (by omega))
            have hwl := words_length ss[m].data.toList
            have HC := Lib.hid (words_count ss[m].data.toList)
            have HI := Lib.hid (words_isWord ss[m].data.toList)
            rw [data_len] at hwl HC
            have hls : ((words ss[m].data.toList).map List.length).sum ≤ 1048576 := by have := HC.out; omega
            clear HC
            generalize words ss[m].data.toList = ws at *
            go_wp2_with (first
              | (go_at_call 9; (with_reducible refine (CW.out _).mono ?_); rintro e w' ⟨rfl, rfl⟩)
              | (go_at_call 15; fail))
            (with_reducible refine (CR.out _).mono ?_); rintro e' w3 ⟨v3, rfl, hown3, hb3⟩
            obtain ⟨A3, c3, rfl, _⟩ := own_view hown3
            have DD := Lib.hid (dis_start hown.out hown3 (Nat.le_refl _))
            have H3 := Lib.hid hown3
            have HW := Lib.hid (own_below hown.out hb3)
            have HB3 := Lib.hid (hb.out.trans (hb3.mono B0))
            clear hown3 hb3 CR
            go_wp2
            go_loopw [11, 12, 78] (fun t v i wr' => ∃ (q : Nat) (c4 : ByteArray), q ≤ ws.length ∧ i = .int .i64 q ∧ t = .string c4 ∧ Hid (Done c4 (acc ss m ++ ws.take q) (m * 2200000 + 3 + lenSum ws q + q)) ∧ Hid (wr'.ownsRow w.heap.size 9 1 v (acc ss m ++ ws.take q).length (strs (acc ss m ++ ws.take q))) ∧ Hid (wr'.ownsRow wr.heap.size 9 1 (.slice A3 ws.length c3) ws.length (strs ws)) ∧ Hid (Dis (.slice A3 ws.length c3) v) ∧ Hid (Below w.heap.size w wr')) (fun _ _ i _ => ws.length - (intOf i).toNat)
            case atStart => exact ⟨0, _, Nat.zero_le _, rfl, rfl, Lib.hid (hd2.out.more rfl (by simp) (by simp [lenSum]; omega)), Lib.hid (by simpa using HW.out), H3, DD, HB3⟩
            case round =>
              obtain ⟨q, c4, hq, rfl, rfl, hd4, hown4, hown3, hdis, hb4⟩ := hrel
              have hc4 := hd4.out.1
              have hl4 := hd4.out.2.1
              have hlq := lenSum_le ws q
              have S4 := hb4.out.size
              by_cases hqs : q < ws.length
              · obtain ⟨A', c'', hv, hcell3⟩ := own_view hown3.out
                obtain ⟨g, hg, hcx⟩ := hcell3 q hqs
                obtain rfl : A3 = some ⟨g, 0, none⟩ := by injection hv with h1 h2 h3; rw [h1]; exact hg
                clear hcell3 hv hg
                have hw := HI.out ws[q] (List.getElem_mem hqs)
                have hx1 : (ofL ws[q]).size = ws[q].length := by rw [← data_len, ofL_toList]
                have HLs := Lib.hid (lenSum_succ ws q hqs)
                have hx2 : (ofL ws[q]).size ≤ 1048576 := by have := lenSum_le ws (q + 1); have := HLs.out; omega
                have D5 := Lib.hid ((hd4.out.word (x := ofL ws[q]) (by rw [ofL_toList]; exact hw)).more rfl (l' := acc ss m ++ ws.take (q + 1)) (b' := m * 2200000 + 3 + lenSum ws (q + 1) + (q + 1)) (by rw [ofL_toList, List.append_assoc, ← List.take_succ_eq_append_getElem hqs]) (by rw [HLs.out, hx1]; omega))
                have HE := Lib.hid (show strs (acc ss m ++ ws.take q) ++ [.string (ofL ws[q])] = strs (acc ss m ++ ws.take (q + 1)) by
                  rw [List.take_succ_eq_append_getElem hqs, ← List.append_assoc, strs_append (acc ss m ++ ws.take q)]; rfl)
                have HF := Lib.hid (show (acc ss m).length + q + 1 = (acc ss m ++ ws.take (q + 1)).length by rw [List.length_append, List.length_take]; omega)
                clear hw hx1
                generalize hgx : ofL ws[q] = x at *
                clear hgx
                have RX := Lib.hid (reads_one wr x 9)
                go_wp2_with (at_builtin; refine wpList_append_any _ rfl (.tmp 86) (.tmp 88) 27 rfl w.heap.size 9 i0 _ 1 16 Tryd.underlying27 hi0 hz0 hz1 hz2 rfl (by omega) _ _ _ rfl (hown4.out.alloc _) (wr.heap.size + 1) _ 1 1 _ rfl RX.out (by intro u hu; simp at hu; subst hu; rfl) (by unfold maxLen; omega) (by omega) (by simp; omega) ?_)
                intro v5 w5 hown5 hg5 hat5
                rw [HE.out, HF.out] at hown5
                have H5 := Lib.hid hown5
                have H35 := Lib.hid ((hown3.out.alloc (.cells #[.string x] 9)).kept hg5 hdis.out)
                have DI := Lib.hid (dis_next hdis.out hown3.out (g := wr.heap.size + 1) (by omega) (by simpa using hat5))
                have B5 := Lib.hid (((hb4.out.alloc S4 (.cells #[.string x] 9))).grown hg5 (by simp; omega) (fun k hk => (hown4.out.lt k hk).1))
                clear hown5 hg5 hat5
                go_wp2
                go_roundw
                case rel => exact ⟨q + 1, _, by omega, by go_num, rfl, D5, H5, H35, DI, B5⟩
                case measure => simp [intOf]; omega
              · obtain rfl : q = ws.length := by omega
                have D6 := Lib.hid (hd4.out.more rfl (l' := acc ss (m + 1)) (b' := (m + 1) * 2200000) (by rw [HN.out, take_done]) (by omega))
                have H6 := Lib.hid (show _ from hown4.out)
                rw [take_done, ← HN.out] at H6
                go_wp2
                go_roundw
                case rel => exact ⟨m + 1, _, by omega, by omega, by go_num, rfl, D6, H6, hb4⟩
                case measure => simp [intOf]; omega
      · have hd := hdone.out
        have hwords := Lib.hid (words_done hd.2.2)
        have CF := Lib.hid (fun W => words_any c' W (by omega))
        rw [hwords.out] at CF
        have hal : (acc ss m).length ≤ 20000000 := by have := hd.2.1; omega
        rcases (show ¬ m < ss.length ∨ (m < ss.length ∧ ¬ m < 9) by omega) with hg | ⟨hg1, hg⟩
        all_goals
          clear hgo hd
          go_wp2_with (go_at_call 11; fail)
          (with_reducible refine (CF.out _).mono ?_); rintro e w2 ⟨v2, rfl, hown2, hb2⟩
          have H2 := Lib.hid hown2
          have HW := Lib.hid (own_below hown.out hb2)
          have B2 := Lib.hid (hb.out.trans (hb2.mono hb.out.size))
          have CS := Lib.hid (same_any _ _ _ _ _ _ H2.out HW.out (by omega))
          clear hown2 hb2
          go_wp2_with (go_at_call 10; fail)
          (with_reducible refine (CS.out).mono ?_); rintro e w3 ⟨rfl, n3, rfl⟩
          have B3 := Lib.hid (below_draws B2.out n3)
          clear CS
          go_wp2_with (go_at_call 12; (with_reducible refine (wakes_any _).mono ?_); rintro e w' ⟨rfl, rfl⟩)
          go_ret
          exact ⟨rfl, B3.out⟩
end Go.Proofs.YtakknkenanhjgaaDoor
