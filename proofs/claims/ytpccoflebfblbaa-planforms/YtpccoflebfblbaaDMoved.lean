/- Check and Moved of an edit (laid by gen_dmoved.py). -/
import Derived.Test.YtpccoflebfblbaaDTwice
namespace Go.Proofs.Ytpccoflebfblbaa
open Go.RowKit
set_option linter.unusedSimpArgs false

/-- is one car, one stop, one car's hold named twice? -/
def twiceE (d : Edit) : Bool := twiceI (d.turns.map Turn.c) || twiceI (d.locks.map Hold.n) || twiceI (d.ices.map Hold.n)
set_option maxRecDepth 100000 in
set_option maxHeartbeats 4000000 in
theorem dcheck_any (At Al Ai : Option Addr) (ct cl ci : Nat) (d : Edit) (w : World) (h : EditIn w At Al Ai ct cl ci d) (n : Int) (hn : n = if twiceE d = true then 1 else 0) :
    Calls Try.prog 21 #[.agg #[.slice At d.turns.length ct, .slice Al d.locks.length cl, .slice Ai d.ices.length ci]] w fun e w' => e = .returned (.int .i64 n) ∧ Below w.heap.size w w' := by
  have HB0 : Hid (Below w.heap.size w (w.alloc (.cells #[.slice At d.turns.length ct, .slice Al d.locks.length cl, .slice Ai d.ices.length ci] 46))) := Lib.hid ((Below.refl _ _).alloc (Nat.le_refl _) _)
  have BD : Hid (Blk (w.alloc (.cells #[.slice At d.turns.length ct, .slice Al d.locks.length cl, .slice Ai d.ices.length ci] 46)) w.heap.size [.slice At d.turns.length ct, .slice Al d.locks.length cl, .slice Ai d.ices.length ci]) := Lib.hid (blk_new w _ _)
  have KT := Lib.hid (fun W (hb : Below w.heap.size w W) => twiceTurn_any At ct d.turns W ((h.below hb).t) (by have := h.nt; omega))
  have KL := Lib.hid (fun W (hb : Below w.heap.size w W) => twiceHold_any Al cl d.locks W ((h.below hb).l) (by have := h.nl; omega))
  have KI := Lib.hid (fun W (hb : Below w.heap.size w W) => twiceHold_any Ai ci d.ices W ((h.below hb).i) (by have := h.ni; omega))
  unfold twiceE at hn
  clear h
  generalize twiceI (d.turns.map Turn.c) = b1 at *
  generalize twiceI (d.locks.map Hold.n) = b2 at *
  generalize twiceI (d.ices.map Hold.n) = b3 at *
  have HN := Lib.hid hn
  clear hn
  go_enter Try.func21, Try.ntmps21
  go_upto_region 1 with (fail)
  generalize hW0 : w.alloc (.cells #[.slice At d.turns.length ct, .slice Al d.locks.length cl, .slice Ai d.ices.length ci] 46) = W0 at *
  clear hW0
  have c0 := BD.out.at0.1
  have c1 := BD.out.at1.1
  have c2 := BD.out.at2.1
  have hlt := BD.out.1
  cases b1
  · go_wp2_with (go_at_call 45; fail)
    (with_reducible refine (KT.out _ HB0.out).mono ?_)
    rintro e w1 ⟨rfl, hb1⟩
    have HB1 := Lib.hid (HB0.out.trans (hb1.mono HB0.out.size))
    have c1 : w1.cell? ⟨w.heap.size, 1, none⟩ = some (.slice Al d.locks.length cl) := (by rw [hb1.cell hlt]; exact c1)
    have c2 : w1.cell? ⟨w.heap.size, 2, none⟩ = some (.slice Ai d.ices.length ci) := (by rw [hb1.cell hlt]; exact c2)
    have hlt1 := Nat.lt_of_lt_of_le hlt hb1.size
    clear hb1
    cases b2
    · go_wp2_with (go_at_call 47; fail)
      (with_reducible refine (KL.out _ HB1.out).mono ?_)
      rintro e w2 ⟨rfl, hb2⟩
      have HB2 := Lib.hid (HB1.out.trans (hb2.mono HB1.out.size))
      have c2 : w2.cell? ⟨w.heap.size, 2, none⟩ = some (.slice Ai d.ices.length ci) := (by rw [hb2.cell hlt1]; exact c2)
      clear hb2
      cases b3
      all_goals
        go_wp2_with (go_at_call 47; fail)
        (with_reducible refine (KI.out _ HB2.out).mono ?_)
        rintro e w3 ⟨rfl, hb3⟩
        have HB3 := Lib.hid (HB2.out.trans (hb3.mono HB2.out.size))
        clear hb3
        go_wp2
        go_ret
        exact ⟨by rw [HN.out]; rfl, HB3.out⟩
    · go_wp2_with (go_at_call 47; fail)
      (with_reducible refine (KL.out _ HB1.out).mono ?_)
      rintro e w2 ⟨rfl, hb2⟩
      have HB2 := Lib.hid (HB1.out.trans (hb2.mono HB1.out.size))
      clear hb2
      go_wp2
      go_ret
      exact ⟨by rw [HN.out]; simp, HB2.out⟩
  · go_wp2_with (go_at_call 45; fail)
    (with_reducible refine (KT.out _ HB0.out).mono ?_)
    rintro e w1 ⟨rfl, hb1⟩
    have HB1 := Lib.hid (HB0.out.trans (hb1.mono HB0.out.size))
    clear hb1
    go_wp2
    go_ret
    exact ⟨by rw [HN.out]; simp, HB1.out⟩
set_option maxRecDepth 100000 in
set_option maxHeartbeats 4000000 in
theorem without_any (A : Option Addr) (cap : Nat) (l : List Int) (A2 : Option Addr) (c2 : Nat) (o : List Int) (w : World) (h : Recs w 1 num_ (.slice A l.length cap) l) (h2 : Recs w 1 num_ (.slice A2 o.length c2) o) (hl : l.length ≤ 1000000000) (ho : o.length ≤ 1000000000) (hs : o.Pairwise (· ≤ ·)) :
    Calls Try.prog 74 #[.slice A l.length cap, .slice A2 o.length c2] w (NewRow 3 1 (l.filter (fun x => !decide (x ∈ o))).length (ints (l.filter (fun x => !decide (x ∈ o)))) w) := by
  obtain ⟨i0, hi0, hz0, hz1, hz2⟩ := info_parts int_info
  have HR := Lib.hid h
  have KB := Lib.hid (fun x W (hb : Below w.heap.size w W) => search_own A2 c2 o x W (h2.below hb) (by omega) hs)
  clear h h2 hs
  go_enter Try.func74, Try.ntmps74
  go_wp2
  go_loopw [5, 12] (fun ov kv wr => ∃ k : Nat, k ≤ l.length ∧ kv = .int .i64 k ∧ Hid (wr.ownsRow w.heap.size 3 1 ov ((l.take k).filter (fun x => !decide (x ∈ o))).length (ints ((l.take k).filter (fun x => !decide (x ∈ o))))) ∧ Hid (Below w.heap.size w wr)) (fun _ kv _ => l.length - (intOf kv).toNat)
  case atStart => exact ⟨0, Nat.zero_le _, rfl, Lib.hid (World.ownsRow_nil _ _ _ _), Lib.hid (Below.refl _ _)⟩
  case round =>
    obtain ⟨k, hk, rfl, HO, HB⟩ := hrel
    by_cases hlt : k < l.length
    · obtain ⟨B, q, rfl, hB, d0⟩ := recs_num HR.out hlt
      have c0 : wr.cell? ⟨B, q + k, none⟩ = some (.int .i64 l[k]) := by rw [HB.out.cell hB]; exact d0
      have HT : Hid (l.take (k + 1) = l.take k ++ [l[k]]) := take_snoc hlt
      have HL : Hid (((l.take k).filter (fun x => !decide (x ∈ o))).length ≤ l.length) := Lib.hid (Nat.le_trans (List.length_filter_le _ _) (by rw [List.length_take]; omega))
      clear d0
      generalize l[k] = x at *
      have KX := Lib.hid (KB.out x wr HB.out)
      by_cases hx : x ∈ o
      · have HE : Hid ((l.take k ++ [x]).filter (fun x => !decide (x ∈ o)) = (l.take k).filter (fun x => !decide (x ∈ o))) := Lib.hid (by simp [List.filter_append, hx])
        have td : decide (x ∈ o) = true := by simpa using hx
        go_wp2_with (go_at_call 123; refine KX.out.mono ?_; rintro e w2 ⟨p, rfl, n, rfl⟩)
        go_roundw
        case rel => exact ⟨k + 1, by omega, by go_num, Lib.hid (by rw [HT.out, HE.out]; exact own_draws HO.out n), Lib.hid (below_draws HB.out n)⟩
        case measure => simp [intOf]; omega
      · have HE : Hid ((l.take k ++ [x]).filter (fun x => !decide (x ∈ o)) = (l.take k).filter (fun x => !decide (x ∈ o)) ++ [x]) := Lib.hid (by simp [List.filter_append, hx])
        have td : decide (x ∈ o) = false := by simpa using hx
        go_upto_region 7 with (go_at_call 123; refine KX.out.mono ?_; rintro e w2 ⟨p, rfl, n, rfl⟩)
        have HO1 := Lib.hid (own_draws HO.out n)
        have HB1 := Lib.hid (below_draws HB.out n)
        generalize wr.drewN n = w2 at *
        generalize (l.take k).filter (fun x => !decide (x ∈ o)) = y at *
        have OW : Hid ((w2.alloc (.cells #[.int .i64 x] 3)).ownsRow w.heap.size 3 1 _ _ _) := Lib.hid (World.ownsRow.alloc HO1.out _)
        have RN : Hid (Reads (w2.alloc (.cells #[.int .i64 x] 3)) (w2.heap.size + 1) 1 (some ⟨w2.heap.size, 0, none⟩) 1 (ints [x])) := Lib.hid (reads_new w2 (ints [x]) 3)
        have HB3 : Hid (Below w.heap.size w (w2.alloc (.cells #[.int .i64 x] 3))) := Lib.hid (HB1.out.alloc HB1.out.size _)
        have hyl := HL.out
        go_wp2_with (at_builtin; refine wpList_append_any _ rfl _ _ 28 rfl w.heap.size 3 i0 _ 1 8 Try.underlying28 hi0 hz0 hz1 hz2 rfl (by decide) _ y.length (ints y) rfl OW.out (w2.heap.size + 1) (some ⟨w2.heap.size, 0, none⟩) 1 1 (ints [x]) rfl RN.out ?c1 ?c2 ?c3 ?c4 ?_)
        case c1 => exact ints_one _
        case c2 => unfold maxLen; omega
        case c3 => omega
        case c4 => exact HB3.out.size
        intro v' w4 hown hgrow hob
        have HO4 : Hid (w4.ownsRow w.heap.size 3 1 v' (y ++ [x]).length (ints (y ++ [x]))) := Lib.hid (by rw [List.length_append]; have e : ints (y ++ [x]) = ints y ++ ints [x] := (by simp [ints]); rw [e]; exact hown)
        have HB4 : Hid (Below w.heap.size w w4) := Lib.hid (HB3.out.grown hgrow HB3.out.size (fun g hg => (own_typed OW.out hg).2))
        clear hown hgrow hob
        go_wp2
        go_roundw
        case rel => exact ⟨k + 1, by omega, by go_num, Lib.hid (by rw [HT.out, HE.out]; exact HO4.out), HB4⟩
        case measure => simp [intOf]; omega
    · have HF : Hid (wr.ownsRow w.heap.size 3 1 _ (l.filter (fun x => !decide (x ∈ o))).length (ints (l.filter (fun x => !decide (x ∈ o))))) := Lib.hid (by have h5 := HO.out; have e : l.take k = l := List.take_of_length_le (by omega); rw [e] at h5; exact h5)
      clear HO
      go_wp2
      go_ret
      exact ⟨_, rfl, HF.out, HB.out⟩
end Go.Proofs.Ytpccoflebfblbaa
