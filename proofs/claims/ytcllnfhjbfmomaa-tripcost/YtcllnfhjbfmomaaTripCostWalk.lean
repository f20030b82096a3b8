/- The walk of TripCost: for any rows of numbers the law returns true; old memory stands. -/
import Derived.Test.YtcllnfhjbfmomaaTripViews
import Derived.Test.YtcllnfhjbfmomaaTripSmall
import Derived.StillTailTactics
import Derived.Deep.DeepCutAuto
namespace Go.Proofs.Ytcllnfhjbfmomaa
open Go.RowKit
set_option linter.unusedSimpArgs false

theorem eval_cost {i : Prob} {c : Int} {l : List Int} {t : TripR} (h : evalL i c l = some t) : t.cost = costP i l := by
  unfold evalL at h
  split at h
  · next hc =>
    rw [Option.map_eq_some_iff] at h
    obtain ⟨d, _, rfl⟩ := h
    simp only [Bool.and_eq_true] at hc
    unfold costP
    rw [if_pos hc.1.1.2]
  · cases h
/-- the variable i and the row r, in a world that stands on w -/
structure Two (w W : World) (I : Nat) (A1 A2 A3 A4 : Option Addr) (c1 c2 c3 c4 : Nat) (i : Prob) (A : Option Addr) (cap : Nat) (r : List Int) : Prop where
  below : Below w.heap.size w W
  box : Box W I A1 A2 A3 A4 c1 c2 c3 c4 i
  row : Recs W 1 num_ (.slice A r.length cap) r
theorem Two.on {w W W' : World} {I : Nat} {A1 A2 A3 A4 : Option Addr} {c1 c2 c3 c4 : Nat} {i : Prob} {A : Option Addr} {cap : Nat} {r : List Int} (h : Two w W I A1 A2 A3 A4 c1 c2 c3 c4 i A cap r) (hb : Below W.heap.size W W') : Two w W' I A1 A2 A3 A4 c1 c2 c3 c4 i A cap r :=
  ⟨h.below.trans (hb.mono h.below.size), h.box.below hb, h.row.below hb⟩
theorem getLastD_take {l : List Int} {k : Nat} (hk : k < l.length) (d : Int) : (l.take (k + 1)).getLastD d = l[k] := by
  rw [List.take_succ_eq_append_getElem hk, List.getLastD_eq_getLast?, List.getLast?_append]
  simp
theorem there_snoc {i : Prob} {l : List Int} {s : Int} (h : thereB i l = true) (h1 : 1 ≤ s) (h2 : s ≤ i.stops.length) : thereB i (l ++ [s]) = true := by
  unfold thereB at h ⊢
  rw [List.all_append, h]
  simp [inB]
  omega
theorem there_no {i : Prob} {l : List Int} {k : Nat} (hk : k < l.length) (h : inB l[k] 1 i.stops.length = false) : costP i l = 0 := by
  unfold costP
  rw [if_neg]
  intro ht
  unfold thereB at ht
  rw [List.all_eq_true] at ht
  rw [ht l[k] (List.getElem_mem _)] at h
  cases h
theorem there_all {i : Prob} {l : List Int} (h : ∀ k (hk : k < l.length), inB l[k] 1 i.stops.length = true) : thereB i l = true := by
  unfold thereB
  rw [List.all_eq_true]
  intro x hx
  obtain ⟨k, hk, rfl⟩ := List.getElem_of_mem hx
  exact h k hk

set_option maxRecDepth 100000 in
set_option maxHeartbeats 8000000 in
theorem cost_walk (v u : Value) (l row : List Int) (s : Int) (w : World) (h : Recs w 1 num_ v l) (hl : l.length ≤ 9223372036854775807) (hr : Recs w 1 num_ u row) (hrl : row.length ≤ 9223372036854775807) :
    Calls Try.prog 8 #[v, u, .int .i64 s] w fun e w' => e = .returned (.bool true) ∧ Below w.heap.size w w' := by
  have HP := Lib.hid (play_said v l w h hl)
  have HU := Lib.hid hr
  clear h hr
  go_enter Try.func8, Try.ntmps8
  go_wp2_with (go_at_call 15; fail)
  (with_reducible refine (HP.out).mono ?_)
  rintro e w1 ⟨i, A1, A2, A3, A4, c1, c2, c3, c4, rfl, hs1, hok, hs2, hs8, hp2, hb1⟩
  have HOK := Lib.hid hok
  have HF := Lib.hid (fine_of hok)
  have BX1 := Lib.hid (box_new hs1 34)
  have HB1 := Lib.hid (hb1.alloc hb1.size (.cells #[.slice A1 i.cars.length c1, .slice A2 i.stops.length c2, .slice A3 i.pairs.length c3, .slice A4 i.travel.length c4] 34))
  have hcar := (fine_of hok).cars
  have htr := (fine_of hok).travel
  have HTR := Lib.hid htr
  clear hok hs1 hb1 HP htr
  go_upto_region 2 with (fail)
  generalize w1.alloc (.cells #[.slice A1 i.cars.length c1, .slice A2 i.stops.length c2, .slice A3 i.pairs.length c3, .slice A4 i.travel.length c4] 34) = wa at *
  generalize w1.heap.size = I at *
  have k0 := BX1.out.b0
  have k1 := BX1.out.b1
  have k2 := BX1.out.b2
  have k3 := BX1.out.b3
  have hIz := BX1.out.lt
  go_wp2_with (go_at_call 16; fail)
  (with_reducible refine (row_any _ _ i row wa BX1.out.lies HOK.out (by omega) hs2 (HU.out.below HB1.out) hrl).mono ?_)
  rintro e w2 ⟨r, A, cap, rfl, hr14, hrc, hrx, hrr, hrf, hb2⟩
  have TW := Lib.hid (⟨HB1.out.trans (hb2.mono HB1.out.size), BX1.out.below hb2, hrr⟩ : Two w w2 I A1 A2 A3 A4 c1 c2 c3 c4 i A cap r)
  clear hb2 hrr hrf hrx k0 k1 k2 k3 hIz BX1 HB1 HU
  have k0 := TW.out.box.b0
  have k1 := TW.out.box.b1
  have k2 := TW.out.box.b2
  have k3 := TW.out.box.b3
  have hIz := TW.out.box.lt
  go_wp2_with (go_at_call 13; fail)
  (with_reducible refine (cost_any _ _ i r w2 TW.out.box.lies HOK.out (by omega) TW.out.row (by omega)).mono ?_)
  rintro e w3 ⟨rfl, hb3⟩
  have TW3 := Lib.hid (TW.out.on hb3)
  clear hb3 k0 k1 k2 k3 hIz TW
  have k0 := TW3.out.box.b0
  go_wp2
  go_loopw [29] (fun cv wr => ∃ k : Nat, k ≤ i.cars.length ∧ cv = .int .i64 k ∧ Two w wr I A1 A2 A3 A4 c1 c2 c3 c4 i A cap r) (fun cv _ => i.cars.length - (intOf cv).toNat)
  case atStart => exact ⟨0, Nat.zero_le _, rfl, TW3.out⟩
  case round =>
    obtain ⟨k, hk, rfl, htw⟩ := hrel
    have TW := Lib.hid htw
    clear htw k0 TW3
    have k0 := TW.out.box.b0
    have k1 := TW.out.box.b1
    have k2 := TW.out.box.b2
    have k3 := TW.out.box.b3
    have hIz := TW.out.box.lt
    by_cases hlt : k < i.cars.length
    · go_wp2_with (go_at_call 9; fail)
      (with_reducible refine (eval_any _ _ i k r wr TW.out.box.lies HOK.out (by omega) TW.out.row (by omega)).mono ?_)
      rintro e w4 hti
      obtain ⟨hb4, D1, n1, d1, D2, n2, d2, cc, hh, ok, rfl, htv⟩ := hti.parts
      have TW4 := Lib.hid (TW.out.on hb4)
      have hcc : ok = true → cc = costP i r := fun e => by
        obtain ⟨t, h1, _, _, h4, _⟩ := htv.yes e
        rw [h4]; exact eval_cost h1
      clear hb4 htv hti k0 k1 k2 k3 hIz
      cases ok
      · clear hcc
        go_wp2
        go_roundw
        case rel => exact ⟨k + 1, by omega, by go_num, TW4.out.on ((Below.refl _ _).alloc (Nat.le_refl _) _)⟩
        case measure => simp [intOf]; omega
      · obtain rfl := hcc rfl
        clear hcc
        go_wp2
        go_roundw
        case rel => exact ⟨k + 1, by omega, by go_num, TW4.out.on ((Below.refl _ _).alloc (Nat.le_refl _) _)⟩
        case measure => simp [intOf]; omega
    · obtain ⟨s0, hs0, hs0l⟩ := within_nat s i.stops.length (by omega)
      have K0 := Lib.hid (fun W => within_q s i.stops.length W (by omega) (by omega) _ hs0)
      clear hs0
      go_wp2_with (go_at_call 12; fail)
      (with_reducible refine (K0.out _).mono ?_)
      rintro e w2 ⟨rfl, rfl⟩
      clear k0 k2 k3 K0
      have HW0 := Lib.hid (wakes_any)
      go_wp2
      go_loopw [13, 55] (fun lv jv wr => ∃ (j q : Nat), j ≤ r.length ∧ q ≤ i.stops.length ∧ lv = .int .i64 q ∧ jv = .int .i64 j ∧ (q : Int) = (r.take j).getLastD 0 ∧ (∀ k (hk : k < r.length), k < j → inB r[k] 1 i.stops.length = true) ∧ Two w wr I A1 A2 A3 A4 c1 c2 c3 c4 i A cap r) (fun _ jv _ => r.length - (intOf jv).toNat)
      case atStart => exact ⟨0, 0, Nat.zero_le _, Nat.zero_le _, rfl, rfl, by simp, fun k _ h => absurd h (by omega), TW.out⟩
      case round =>
        obtain ⟨j, q, hj, hq, rfl, rfl, hlast, hin, htw⟩ := hrel
        have TWr := Lib.hid htw
        have HLA := Lib.hid hlast
        have HIN := Lib.hid hin
        clear htw hlast hin TW k1
        have k0 := TWr.out.box.b0
        have k1 := TWr.out.box.b1
        have k2 := TWr.out.box.b2
        have k3 := TWr.out.box.b3
        have hIr := TWr.out.box.lt
        by_cases hjl : j < r.length
        · obtain ⟨A', cap', he, hc⟩ := TWr.out.row.num
          injection he with he1 _ he3
          subst he1 he3
          obtain ⟨B, o, rfl, hB, d0⟩ := hc j hjl
          clear hc
          rcases (show (r[j] < 1 ∧ inB r[j] 1 i.stops.length = false) ∨ (1 ≤ r[j] ∧ (i.stops.length : Int) < r[j] ∧ inB r[j] 1 i.stops.length = false) ∨ (1 ≤ r[j] ∧ r[j] ≤ (i.stops.length : Int) ∧ inB r[j] 1 i.stops.length = true) by
            rw [inB_no, inB_iff]; omega) with ⟨h1, h2⟩ | ⟨h1, h2, h3⟩ | ⟨h1, h2, h3⟩
          · rw [there_no hjl h2]
            clear h2
            generalize r[j] = x at *
            go_wp2_with (go_at_call 14; fail)
            (with_reducible refine (wakes_any _).mono ?_)
            rintro e w5 ⟨rfl, hb5⟩
            have TW5 := Lib.hid (TWr.out.on hb5)
            clear hb5 k0 k1 k2 k3 d0
            go_wp2
            go_ret
            exact ⟨rfl, TW5.out.below⟩
          · rw [there_no hjl h3]
            clear h3
            generalize r[j] = x at *
            go_wp2_with (go_at_call 14; fail)
            (with_reducible refine (wakes_any _).mono ?_)
            rintro e w5 ⟨rfl, hb5⟩
            have TW5 := Lib.hid (TWr.out.on hb5)
            clear hb5 k0 k1 k2 k3 d0
            go_wp2
            go_ret
            exact ⟨rfl, TW5.out.below⟩
          · have HLN : Hid ((r.take (j + 1)).getLastD 0 = r[j]) := getLastD_take hjl 0
            have HIN2 : Hid (∀ k (hk : k < r.length), k < j + 1 → inB r[k] 1 i.stops.length = true) := fun k hk hkj => by
              by_cases e : k = j
              · subst e; exact h3
              · exact HIN.out k hk (by omega)
            clear h3
            obtain ⟨x, hx⟩ : ∃ x : Nat, r[j] = (x : Int) := ⟨r[j].toNat, by omega⟩
            rw [hx] at d0 h1 h2 HLN
            clear hx
            go_wp2
            go_roundw
            case rel => exact ⟨j + 1, x, by omega, by omega, by go_num, by go_num, HLN.out.symm, HIN2.out, TWr.out⟩
            case measure => simp [intOf]; omega
        · have HTH : Hid (thereB i r = true) := there_all (fun k hk => HIN.out k hk (by omega))
          have hjj : j = r.length := by omega
          subst hjj
          have HLQ : Hid ((q : Int) = r.getLastD 0) := by have := HLA.out; rw [List.take_length] at this; exact this
          clear HLA HIN
          go_upto_region 20 with (fail)
          obtain ⟨i0, hi0, hz0, hz1, hz2⟩ := info_parts int_info
          go_cut [16] from 75 to 81 (fun mv wx => mv = .int .i64 (costP i (r ++ [1 + (s0 : Int)])) ∧ Two w wx I A1 A2 A3 A4 c1 c2 c3 c4 i A cap r)
          case first =>
            refine wp_region_z (S := (fun w' => w'.cell? ⟨I, 0, none⟩ = some (.slice A1 i.cars.length c1) ∧ w'.cell? ⟨I, 1, none⟩ = some (.slice A2 i.stops.length c2) ∧ w'.cell? ⟨I, 2, none⟩ = some (.slice A3 i.pairs.length c3) ∧ w'.cell? ⟨I, 3, none⟩ = some (.slice A4 i.travel.length c4))) (z := 7) (by kernel_rfl) ⟨k0, k1, k2, k3⟩ (fun hH => ?_)
            refine wpAnyZ_take (i := 0) (v := ?_) rfl (by kernel_rfl) (by kernel_rfl) (by kernel_rfl) rfl (by kernel_rfl) (fun _ _ _ h => h) (gives_value (by rfl) ?_) (by assumption) ?_
            rotate_left
            · intro w hSw
              (try dsimp only at hSw)
              go_simp
              (try with_reducible rfl)
            (try simp only [Act.put, List.getElem_toArray, List.getElem_cons_succ, List.getElem_cons_zero, List.setIfInBounds_toArray, List.set_cons_zero, List.set_cons_succ])
            refine wpAnyZ_take (i := 1) (v := ?_) rfl (by kernel_rfl) (by kernel_rfl) (by kernel_rfl) rfl (by kernel_rfl) (fun _ _ _ h => h) (gives_value (by rfl) ?_) (by assumption) ?_
            rotate_left
            · intro w hSw
              (try dsimp only at hSw)
              go_simp
              (try with_reducible rfl)
            (try simp only [Act.put, List.getElem_toArray, List.getElem_cons_succ, List.getElem_cons_zero, List.setIfInBounds_toArray, List.set_cons_zero, List.set_cons_succ])
            refine wpAnyZ_take (i := 3) (v := ?_) rfl (by kernel_rfl) (by kernel_rfl) (by kernel_rfl) rfl (by kernel_rfl) (fun _ _ _ h => h) (gives_value (by rfl) ?_) (by assumption) ?_
            rotate_left
            · intro w hSw
              (try dsimp only at hSw)
              go_simp
              (try with_reducible rfl)
            (try simp only [Act.put, List.getElem_toArray, List.getElem_cons_succ, List.getElem_cons_zero, List.setIfInBounds_toArray, List.set_cons_zero, List.set_cons_succ])
            refine wpAnyZ_two (i := 2) (j := 4) (by kernel_rfl) ?_ ?_
            · refine zstep rfl (fun K hK => ?_)
              go_simp
              (with_reducible refine (copy_any A cap r wr.drew (TWr.out.row.below ((Below.refl _ _).drew)) (by omega)).mono ?_)
              rintro e w5 ⟨D, dcap, rfl, hown5, hb5⟩
              have HB5 : Hid (Below wr.heap.size wr w5) := ((Below.refl wr.heap.size wr).drew).trans hb5
              have TW5 := Lib.hid (TWr.out.on HB5.out)
              have HBW5 := Lib.hid (HB5.out.alloc HB5.out.size (.cells #[.int .i64 (1 + (s0 : Int))] 3))
              have TWx := Lib.hid (TWr.out.on HBW5.out)
              have OW5 : Hid ((w5.alloc (.cells #[.int .i64 (1 + (s0 : Int))] 3)).ownsRow wr.heap.size 3 1 (.slice D r.length dcap) r.length (ints r)) := own_below hown5 ((Below.refl _ _).alloc (Nat.le_refl _) _)
              have RD5 := Lib.hid (reads_new w5 [.int .i64 (1 + (s0 : Int))] 3)
              clear hown5 hb5
              refine hK.out _ _ (fun _ => ⟨TW5.out.box.b0, TW5.out.box.b1, TW5.out.box.b2, TW5.out.box.b3⟩) (fun hH => ?_)
              replace hH := hH (by decide)
              clear hK K
              (try simp only [Act.put, List.getElem_toArray, List.getElem_cons_succ, List.getElem_cons_zero, List.setIfInBounds_toArray, List.set_cons_zero, List.set_cons_succ])
              refine wpAnyZ_one (i := 4) (by kernel_rfl) ?_
              refine zstep rfl (fun K hK => ?_)
              go_simp
              refine hK.out _ _ (fun _ => ⟨TWx.out.box.b0, TWx.out.box.b1, TWx.out.box.b2, TWx.out.box.b3⟩) (fun hH => ?_)
              replace hH := hH (by decide)
              clear hK K
              (try simp only [Act.put, List.getElem_toArray, List.getElem_cons_succ, List.getElem_cons_zero, List.setIfInBounds_toArray, List.set_cons_zero, List.set_cons_succ])
              refine wpAnyZ_one (i := 5) (by kernel_rfl) ?_
              refine zstep rfl (fun K hK => ?_)
              refine step_append_any _ rfl (.tmp 77) (.tmp 79) 22 rfl wr.heap.size 3 i0 _ 1 8 Try.underlying22 hi0 hz0 hz1 hz2 rfl (by decide) (.slice D r.length dcap) r.length (ints r) (by rfl) OW5.out (w5.heap.size + 1) (some ⟨w5.heap.size, 0, none⟩) 1 1 [.int .i64 (1 + (s0 : Int))] (by rfl) RD5.out (by intro x hx; simp at hx; subst hx; rfl) (by unfold maxLen; omega) (by omega) HBW5.out.size ?_
              intro v' w7 hown' hgrow hob
              have HO7 := Lib.hid (row_snoc hown')
              have HB7 := Lib.hid (HBW5.out.grown hgrow HBW5.out.size (fun g hg => (own_typed OW5.out hg).2))
              have TW7 := Lib.hid (TWr.out.on HB7.out)
              obtain ⟨E, ecap, rfl, hec, hrE, hfE⟩ := own_nums HO7.out
              have RE := Lib.hid hrE
              clear hown' hgrow hob hrE hfE
              have hlen : (r ++ [1 + (s0 : Int)]).length = r.length + 1 := by simp
              rw [hlen] at RE
              refine hK.out _ _ (fun _ => ⟨TW7.out.box.b0, TW7.out.box.b1, TW7.out.box.b2, TW7.out.box.b3⟩) (fun hH => ?_)
              replace hH := hH (by decide)
              clear hK K
              (try simp only [Act.put, List.getElem_toArray, List.getElem_cons_succ, List.getElem_cons_zero, List.setIfInBounds_toArray, List.set_cons_zero, List.set_cons_succ])
              refine wpAnyZ_one (i := 6) (by kernel_rfl) ?_
              refine zstep rfl (fun K hK => ?_)
              go_simp
              (with_reducible refine (cost_any _ _ i (r ++ [1 + (s0 : Int)]) w7 TW7.out.box.lies HOK.out (by omega) RE.out (by omega)).mono ?_)
              rintro e w8 ⟨rfl, hb8⟩
              have TW8 := Lib.hid (TW7.out.on hb8)
              clear hb8
              refine hK.out _ _ (fun _ => ⟨TW8.out.box.b0, TW8.out.box.b1, TW8.out.box.b2, TW8.out.box.b3⟩) (fun hH => ?_)
              replace hH := hH (by decide)
              clear hK K
              (try simp only [Act.put, List.getElem_toArray, List.getElem_cons_succ, List.getElem_cons_zero, List.setIfInBounds_toArray, List.set_cons_zero, List.set_cons_succ])
              refine wpAnyZ_one (i := 7) (by kernel_rfl) ?_
              refine zstep rfl (fun K hK => ?_)
              go_simp
              refine hK.out _ _ (fun h => absurd rfl h) (fun _ => ?_)
              clear hK K
              (try simp only [Act.put, List.getElem_toArray, List.getElem_cons_succ, List.getElem_cons_zero, List.setIfInBounds_toArray, List.set_cons_zero, List.set_cons_succ])
              refine wpAnyZ_done (by kernel_rfl) ?_ _
              go_wp2_with fail
              go_meet
              exact ⟨rfl, TW8.out⟩
            · refine zstep rfl (fun K hK => ?_)
              go_simp
              have HB4 : Hid (Below wr.heap.size wr (wr.alloc (.cells #[.int .i64 (1 + (s0 : Int))] 3)).drew) := ((Below.refl _ _).alloc (Nat.le_refl _) _).drew
              have TW4 := Lib.hid (TWr.out.on HB4.out)
              have hz4 : (wr.alloc (.cells #[.int .i64 (1 + (s0 : Int))] 3)).drew.heap.size = wr.heap.size + 1 := by show (wr.alloc _).heap.size = _; simp
              have RD4 := Lib.hid ((reads_new wr [.int .i64 (1 + (s0 : Int))] 3).drew)
              refine hK.out _ _ (fun _ => ⟨TW4.out.box.b0, TW4.out.box.b1, TW4.out.box.b2, TW4.out.box.b3⟩) (fun hH => ?_)
              replace hH := hH (by decide)
              clear hK K
              (try simp only [Act.put, List.getElem_toArray, List.getElem_cons_succ, List.getElem_cons_zero, List.setIfInBounds_toArray, List.set_cons_zero, List.set_cons_succ])
              refine wpAnyZ_one (i := 2) (by kernel_rfl) ?_
              refine zstep rfl (fun K hK => ?_)
              go_simp
              generalize (wr.alloc (.cells #[.int .i64 (1 + (s0 : Int))] 3)).drew = w4 at *
              (with_reducible refine (copy_any A cap r w4 (TWr.out.row.below HB4.out) (by omega)).mono ?_)
              rintro e w5 ⟨D, dcap, rfl, hown5, hb5⟩
              have HBW5 : Hid (Below wr.heap.size wr w5) := HB4.out.trans (hb5.mono HB4.out.size)
              have TWx := Lib.hid (TWr.out.on HBW5.out)
              have OW5 := Lib.hid (own_mono hown5 (show wr.heap.size ≤ w4.heap.size by omega))
              have RD5 : Hid (Reads w5 (wr.heap.size + 1) 1 (some ⟨wr.heap.size, 0, none⟩) 1 [.int .i64 (1 + (s0 : Int))]) := by rw [hz4] at hb5; exact RD4.out.below hb5
              clear hown5 hb5
              refine hK.out _ _ (fun _ => ⟨TWx.out.box.b0, TWx.out.box.b1, TWx.out.box.b2, TWx.out.box.b3⟩) (fun hH => ?_)
              replace hH := hH (by decide)
              clear hK K
              (try simp only [Act.put, List.getElem_toArray, List.getElem_cons_succ, List.getElem_cons_zero, List.setIfInBounds_toArray, List.set_cons_zero, List.set_cons_succ])
              refine wpAnyZ_one (i := 5) (by kernel_rfl) ?_
              refine zstep rfl (fun K hK => ?_)
              refine step_append_any _ rfl (.tmp 77) (.tmp 79) 22 rfl wr.heap.size 3 i0 _ 1 8 Try.underlying22 hi0 hz0 hz1 hz2 rfl (by decide) (.slice D r.length dcap) r.length (ints r) (by rfl) OW5.out (wr.heap.size + 1) (some ⟨wr.heap.size, 0, none⟩) 1 1 [.int .i64 (1 + (s0 : Int))] (by rfl) RD5.out (by intro x hx; simp at hx; subst hx; rfl) (by unfold maxLen; omega) (by omega) HBW5.out.size ?_
              intro v' w7 hown' hgrow hob
              have HO7 := Lib.hid (row_snoc hown')
              have HB7 := Lib.hid (HBW5.out.grown hgrow HBW5.out.size (fun g hg => (own_typed OW5.out hg).2))
              have TW7 := Lib.hid (TWr.out.on HB7.out)
              obtain ⟨E, ecap, rfl, hec, hrE, hfE⟩ := own_nums HO7.out
              have RE := Lib.hid hrE
              clear hown' hgrow hob hrE hfE
              have hlen : (r ++ [1 + (s0 : Int)]).length = r.length + 1 := by simp
              rw [hlen] at RE
              refine hK.out _ _ (fun _ => ⟨TW7.out.box.b0, TW7.out.box.b1, TW7.out.box.b2, TW7.out.box.b3⟩) (fun hH => ?_)
              replace hH := hH (by decide)
              clear hK K
              (try simp only [Act.put, List.getElem_toArray, List.getElem_cons_succ, List.getElem_cons_zero, List.setIfInBounds_toArray, List.set_cons_zero, List.set_cons_succ])
              refine wpAnyZ_one (i := 6) (by kernel_rfl) ?_
              refine zstep rfl (fun K hK => ?_)
              go_simp
              (with_reducible refine (cost_any _ _ i (r ++ [1 + (s0 : Int)]) w7 TW7.out.box.lies HOK.out (by omega) RE.out (by omega)).mono ?_)
              rintro e w8 ⟨rfl, hb8⟩
              have TW8 := Lib.hid (TW7.out.on hb8)
              clear hb8
              refine hK.out _ _ (fun _ => ⟨TW8.out.box.b0, TW8.out.box.b1, TW8.out.box.b2, TW8.out.box.b3⟩) (fun hH => ?_)
              replace hH := hH (by decide)
              clear hK K
              (try simp only [Act.put, List.getElem_toArray, List.getElem_cons_succ, List.getElem_cons_zero, List.setIfInBounds_toArray, List.set_cons_zero, List.set_cons_succ])
              refine wpAnyZ_one (i := 7) (by kernel_rfl) ?_
              refine zstep rfl (fun K hK => ?_)
              go_simp
              refine hK.out _ _ (fun h => absurd rfl h) (fun _ => ?_)
              clear hK K
              (try simp only [Act.put, List.getElem_toArray, List.getElem_cons_succ, List.getElem_cons_zero, List.setIfInBounds_toArray, List.set_cons_zero, List.set_cons_succ])
              refine wpAnyZ_done (by kernel_rfl) ?_ _
              go_wp2_with fail
              go_meet
              exact ⟨rfl, TW8.out⟩
          case rest =>
            obtain ⟨rfl, htw⟩ := hcut
            have TWc := Lib.hid htw
            clear htw k0 k1 k2 k3
            have hs1 : ((1 + (s0 : Int)) : Int) = ((s0 + 1 : Nat) : Int) := by omega
            have hwb1 := way_bounds HF.out (q : Int) 0
            have hwb2 := way_bounds HF.out (q : Int) (1 + (s0 : Int))
            have hwb3 := way_bounds HF.out (1 + (s0 : Int)) 0
            obtain ⟨B1, o1, x1, B2, o2, rfl, hB1, d1, hB2, d2⟩ := said_way TWc.out.box.lies HF.out (a := q) (b := 0) hq (by omega)
            obtain ⟨B3, o3, x3, B4, o4, e3, hB3, d3, hB4, d4⟩ := said_way TWc.out.box.lies HF.out (a := q) (b := s0 + 1) hq (by omega)
            obtain ⟨B5, o5, x5, B6, o6, e5, hB5, d5, hB6, d6⟩ := said_way TWc.out.box.lies HF.out (a := s0 + 1) (b := 0) (by omega) (by omega)
            obtain ⟨rfl, rfl⟩ : B1 = B3 ∧ o1 = o3 := by simpa using e3
            obtain ⟨rfl, rfl⟩ : B1 = B5 ∧ o1 = o5 := by simpa using e5
            obtain ⟨rfl, rfl, rfl⟩ : B2 = B4 ∧ o2 = o4 ∧ x1 = x3 := by rw [d1] at d3; simpa [and_assoc] using d3
            simp only [Int.natCast_zero, Nat.add_zero] at d2 d6
            rw [← hs1] at d4 d6
            have HCS : Hid (costP i (r ++ [1 + (s0 : Int)]) = costL i 0 r - way i q 0 + way i q (1 + (s0 : Int)) + way i (1 + (s0 : Int)) 0) := by
              show _ = _
              unfold costP
              rw [if_pos (there_snoc HTH.out (by omega) (by omega)), costL_snoc, ← HLQ.out]
            have HCP : Hid (costP i r = costL i 0 r) := by show _ = _; unfold costP; rw [if_pos HTH.out]
            have k0 := TWc.out.box.b0
            have k1 := TWc.out.box.b1
            have k2 := TWc.out.box.b2
            have k3 := TWc.out.box.b3
            have hIc := TWc.out.box.lt
            have hcl := costL_bounds HF.out r 0
            rw [HCS.out, HCP.out]
            have HTT := Lib.hid HTR.out
            rw [HTR.out] at k3
            clear e3 e5 d3 hs1
            by_cases hr0 : 0 < r.length
            · have hr0' : (0 : Int) < (r.length : Int) := by omega
              generalize costL i 0 r = C at *
              generalize way i q 0 = ya at *
              generalize way i q (1 + (s0 : Int)) = yb at *
              generalize way i (1 + (s0 : Int)) 0 = yc at *
              have f1 : IntKind.i64.wrap (C - ya) = C - ya := IntWalk.i64_in _ (by omega)
              have f2 : IntKind.i64.wrap (C - ya + yb) = C - ya + yb := IntWalk.i64_in _ (by omega)
              have f3 : IntKind.i64.wrap (C - ya + yb + yc) = C - ya + yb + yc := IntWalk.i64_in _ (by omega)
              go_upto_region 24 with (fail)
              refine wp_region_still_tail 23 (by kernel_rfl) (by kernel_rfl) ?_
              simp only [List.take_succ_cons, List.take_zero, List.drop_succ_cons, List.drop_zero]
              change wpStill _ _ wc.drew (fun a' => wpList _ _ _ _ a' wc.drew) _ _
              have TWd := Lib.hid (TWc.out.on ((Below.refl _ _).drew))
              replace k3 := (show wc.drew.cell? ⟨I, 3, none⟩ = _ from k3)
              replace d1 := (show wc.drew.cell? ⟨B1, o1 + q, none⟩ = _ from d1)
              replace d4 := (show wc.drew.cell? ⟨B2, o2 + (s0 + 1), none⟩ = _ from d4)
              replace d5 := (show wc.drew.cell? ⟨B1, o1 + (s0 + 1), none⟩ = _ from d5)
              replace d6 := (show wc.drew.cell? ⟨B6, o6, none⟩ = _ from d6)
              have hIz2 : I < wc.drew.heap.size := hIc
              have hz1' : B1 < wc.drew.heap.size := hB1
              have hz2' : B2 < wc.drew.heap.size := hB2
              have hz6' : B6 < wc.drew.heap.size := hB6
              generalize wc.drew = wd at *
              have g1 : (q : Int) < (i.stops.length : Int) + 1 := by omega
              have g2 : 1 + (s0 : Int) < (i.stops.length : Int) + 1 := by omega
              have g3 : (0 : Int) < (i.stops.length : Int) + 1 := by omega
              have g4 : (0 : Int) ≤ 1 + (s0 : Int) := by omega
              have g5 : (1 + (s0 : Int)).toNat = s0 + 1 := by omega
              repeat still_step
              refine wpStill_nil ?_
              go_wp2_with (go_at_call 14; fail)
              (with_reducible refine (wakes_any _).mono ?_)
              rintro e w9 ⟨rfl, hb9⟩
              have TW9 := Lib.hid (TWd.out.on hb9)
              clear hb9
              go_wp2
              go_ret
              exact ⟨rfl, TW9.out.below⟩
            · have hrn : r = [] := List.eq_nil_of_length_eq_zero (by omega)
              have hr0' : decide ((0 : Int) < (r.length : Int)) = false := by simp; omega
              have hq0 : (q : Int) = 0 := by rw [HLQ.out, hrn]; rfl
              have hC : costL i 0 r = 0 := by rw [hrn]; exact way_diag HOK.out 0
              have hya : way i q 0 = 0 := by rw [hq0]; exact way_diag HOK.out 0
              rw [hC, hya]
              clear hC hya hrn hq0 d2 hcl
              generalize way i q (1 + (s0 : Int)) = yb at *
              generalize way i (1 + (s0 : Int)) 0 = yc at *
              have f2 : IntKind.i64.wrap (0 + yb) = 0 + yb := IntWalk.i64_in _ (by omega)
              have f3 : IntKind.i64.wrap (0 + yb + yc) = 0 + yb + yc := IntWalk.i64_in _ (by omega)
              have f4 : IntKind.i64.wrap yb = yb := IntWalk.i64_in _ (by omega)
              have f5 : IntKind.i64.wrap (yb + yc) = yb + yc := IntWalk.i64_in _ (by omega)
              go_upto_region 24 with (fail)
              refine wp_region_still_tail 23 (by kernel_rfl) (by kernel_rfl) ?_
              simp only [List.take_succ_cons, List.take_zero, List.drop_succ_cons, List.drop_zero]
              change wpStill _ _ wc.drew (fun a' => wpList _ _ _ _ a' wc.drew) _ _
              have TWd := Lib.hid (TWc.out.on ((Below.refl _ _).drew))
              replace k3 := (show wc.drew.cell? ⟨I, 3, none⟩ = _ from k3)
              replace d1 := (show wc.drew.cell? ⟨B1, o1 + q, none⟩ = _ from d1)
              replace d4 := (show wc.drew.cell? ⟨B2, o2 + (s0 + 1), none⟩ = _ from d4)
              replace d5 := (show wc.drew.cell? ⟨B1, o1 + (s0 + 1), none⟩ = _ from d5)
              replace d6 := (show wc.drew.cell? ⟨B6, o6, none⟩ = _ from d6)
              have hIz2 : I < wc.drew.heap.size := hIc
              have hz1' : B1 < wc.drew.heap.size := hB1
              have hz2' : B2 < wc.drew.heap.size := hB2
              have hz6' : B6 < wc.drew.heap.size := hB6
              generalize wc.drew = wd at *
              have g1 : (q : Int) < (i.stops.length : Int) + 1 := by omega
              have g2 : 1 + (s0 : Int) < (i.stops.length : Int) + 1 := by omega
              have g3 : (0 : Int) < (i.stops.length : Int) + 1 := by omega
              have g4 : (0 : Int) ≤ 1 + (s0 : Int) := by omega
              have g5 : (1 + (s0 : Int)).toNat = s0 + 1 := by omega
              repeat still_step
              refine wpStill_nil ?_
              go_wp2_with (go_at_call 14; fail)
              (with_reducible refine (wakes_any _).mono ?_)
              rintro e w9 ⟨rfl, hb9⟩
              have TW9 := Lib.hid (TWd.out.on hb9)
              clear hb9
              go_wp2
              go_ret
              exact ⟨rfl, TW9.out.below⟩
end Go.Proofs.Ytcllnfhjbfmomaa
