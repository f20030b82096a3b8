/- DeltaMoves: stops that only change their route, or their place, do not come or go (laid by gen_dmoves.py). -/
import Derived.Test.YtbellnanikaffaaDFew
import Derived.Test.YtbellnanikaffaaDBubble
namespace Go.Proofs.Ytbellnanikaffaa
open Go.RowKit
set_option linter.unusedSimpArgs false

theorem addr_add (g q : Nat) : (⟨g, 0, none⟩ : Addr).add q = ⟨g, q, none⟩ := by unfold Addr.add; split <;> simp_all
theorem reads_pair (w : World) (a b : Int) : Reads (w.alloc (.cells #[.int .i64 a, .int .i64 b] 3)) (w.heap.size + 1) 1 (some ⟨w.heap.size, 0, none⟩) 2 (ints [a, b]) := by
  refine ⟨by simp [ints], fun _ => ⟨⟨w.heap.size, 0, none⟩, rfl, by simp, fun j u hu => ?_⟩⟩
  have hb := blk_new w #[.int .i64 a, .int .i64 b] 3
  have hj : j < 2 := by have := (List.getElem?_eq_some_iff.1 hu).1; simpa [ints] using this
  rw [addr_add, (hb.2 j (by simpa using hj)).1, ← hu]
  match j, hj with
  | 0, _ | 1, _ => rfl
theorem ints_getD {l : List Int} {q : Nat} (h : q < l.length) : (ints l)[q]? = some (.int .i64 (l.getD q 0)) := by simp [ints, List.getD, h]
theorem reads_drop {w : World} {B n g cap k : Nat} {l : List Int} (h : w.ownsRow B 3 1 (.slice (some ⟨g, 0, none⟩) n cap) n (ints l)) (hc : n ≤ cap) (hk : k ≤ n) : Reads w w.heap.size 1 (cutA (some ⟨g, 0, none⟩) cap k 1) (n - k) (ints (l.drop k)) := by
  have := (Reads.of_own h).cut hk hc
  simpa [ints, cutA] using this
theorem reads_pre {w : World} {B : Nat} {A : Option Addr} {n k : Nat} {l : List Int} (h : Reads w B 1 A n (ints l)) (hk : k ≤ n) : Reads w B 1 A k (ints (l.take k)) := by
  have hl : l.length = n := by have := h.1; simpa [ints] using this
  refine ⟨by simp [ints]; omega, fun hn => ?_⟩
  obtain ⟨ad, rfl, hb, hc⟩ := h.2 (by omega)
  refine ⟨ad, rfl, hb, fun j u hu => hc j u ?_⟩
  have hj : j < k := by
    have := (List.getElem?_eq_some_iff.1 hu).1
    simp [ints] at this; omega
  rw [← hu]
  unfold ints
  rw [List.map_take, List.getElem?_take_of_lt hj]
theorem slice_to (A : Option Addr) (n cap k : Nat) (hk : k ≤ n) (hc : n ≤ cap) (W : World) : (Instr.slice 22 (.slice A n cap) none (some (.int .i64 (k : Int))) none).run Try.prog W = .ok (.slice A k cap) W := by
  have hsz : ∀ W, (sizeOf (Try.prog.elem 22)).run Try.prog W = .ok 1 W := fun W => by kernel_rfl
  have hel : Try.prog.underlying 22 = some (.slice (Try.prog.elem 22)) := by kernel_rfl
  rw [run_slice_h (P := Try.prog) W 22 A n cap hel .i64 (k : Int) (by omega) (by omega), hsz]
  have e : (if cap = 0 then A else A.map (fun x => x.add (0 * 1))) = A := by
    split
    · rfl
    · rw [Nat.zero_mul]
      cases A with
      | none => rfl
      | some a => rw [Option.map_some, add_zero_addr]
  simp only [Result.andThen, sliced, Int.toNat_natCast, Nat.sub_zero, e]
theorem slice_from (A : Option Addr) (n cap k : Nat) (hk : k ≤ n) (W : World) : (Instr.slice 22 (.slice A n cap) (some (.int .i64 (k : Int))) none none).run Try.prog W = .ok (.slice (cutA A cap k 1) (n - k) (cap - k)) W :=
  cut_run (by kernel_rfl) (fun W => by kernel_rfl) A n cap k hk W
theorem moved_none : movedE ⟨[], [], []⟩ = [] := by simp [movedE, befE, aftE, outOf, sortI, Lib.compact, Lib.compactUpTo]
/-- what the law's edit moves: the numbers of y -/
theorem moves_moved {x y z want : List Int} {f : List Turn} (hf : f.map Turn.pl = [(0, x ++ y, z), (1, z, x)] ∨ f.map Turn.pl = [(0, z, x ++ y), (1, x, z)]) (hx : ∀ a ∈ x, (0 : Int) ≤ a ∧ a < 20) (hy : ∀ a ∈ y, (20 : Int) ≤ a ∧ a < 40) (hz : ∀ a ∈ z, (40 : Int) ≤ a ∧ a < 60)
    (hw : StrictI want) (hm : ∀ a, a ∈ want ↔ a ∈ y) : movedE ⟨f, [], []⟩ = want := by
  refine strict_same (movedE_strict _) hw fun a => ?_
  rw [movedE_mem, hm]
  have eb : ∀ f : List Turn, f.flatMap Turn.b = (f.map Turn.pl).flatMap (fun p => p.2.1) := fun f => by simp [List.flatMap_map, Turn.pl]
  have ea : ∀ f : List Turn, f.flatMap Turn.a = (f.map Turn.pl).flatMap (fun p => p.2.2) := fun f => by simp [List.flatMap_map, Turn.pl]
  have nyx : a ∈ y → a ∉ x := fun h h' => by have := hx a h'; have := hy a h; omega
  have nyz : a ∈ y → a ∉ z := fun h h' => by have := hz a h'; have := hy a h; omega
  unfold befE aftE
  simp only
  rw [eb, ea]
  rcases hf with hf | hf
  all_goals
    rw [hf]
    simp only [List.flatMap_cons, List.flatMap_nil, List.append_nil, List.mem_append]
    constructor
    · rintro (⟨h1, h2⟩ | ⟨h1, h2⟩)
      · by_cases hya : a ∈ y
        · exact hya
        · exfalso; revert h1 h2; simp [hya]; try grind
      · by_cases hya : a ∈ y
        · exact hya
        · exfalso; revert h1 h2; simp [hya]; try grind
    · intro hya
      have := nyx hya
      have := nyz hya
      simp [*]
set_option maxRecDepth 100000 in
set_option maxHeartbeats 1000000 in
theorem moves_walk (Aa : Option Addr) (ca : Nat) (a : List Int) (Ab : Option Addr) (cb : Nat) (b : List Int) (Ac : Option Addr) (cc : Nat) (c : List Int) (w : World) (h1 : Recs w 1 num_ (.slice Aa a.length ca) a) (h2 : Recs w 1 num_ (.slice Ab b.length cb) b) (h3 : Recs w 1 num_ (.slice Ac c.length cc) c) :
    Calls Try.prog 5 #[.slice Aa a.length ca, .slice Ab b.length cb, .slice Ac c.length cc] w fun e w' => e = .returned (.bool true) ∧ Below w.heap.size w w' := by
  obtain ⟨i0, hi0, hz0, hz1, hz2⟩ := info_parts int_info
  have K1 := Lib.hid (fun W (hb : Below w.heap.size w W) => few_any Aa ca a 0 W (h1.below hb) (by omega))
  have K2 := Lib.hid (fun W (hb : Below w.heap.size w W) => few_any Ab cb b 20 W (h2.below hb) (by omega))
  have K3 := Lib.hid (fun W (hb : Below w.heap.size w W) => few_any Ac cc c 40 W (h3.below hb) (by omega))
  clear h1 h2 h3
  go_enter Try.func5, Try.ntmps5
  go_wp2_with (go_at_call 17; fail)
  refine (K1.out _ (Below.refl _ _)).mono ?_
  rintro e w1 ⟨x, vx, rfl, ho, hlx, hrx, hnx, hb⟩
  have HX := Lib.hid ho
  have HB1 := Lib.hid hb
  obtain ⟨Ax, Cx, rfl, _⟩ := own_slice_n ho
  clear ho hb
  go_wp2_with (go_at_call 17; fail)
  refine (K2.out _ HB1.out).mono ?_
  rintro e w2 ⟨y, vy, rfl, ho, hly, hry, hny, hb⟩
  replace HX := Lib.hid (own_below HX.out hb)
  have HY := Lib.hid (own_lower ho HB1.out.size)
  have HB2 : Hid (Below w.heap.size w w2) := Lib.hid (HB1.out.trans (hb.mono HB1.out.size))
  obtain ⟨Ay, Cy, rfl, _⟩ := own_slice_n ho
  clear ho hb
  go_wp2_with (go_at_call 17; fail)
  refine (K3.out _ HB2.out).mono ?_
  rintro e w3 ⟨z, vz, rfl, ho, hlz, hrz, hnz, hb⟩
  replace HX := Lib.hid (own_below HX.out hb)
  replace HY := Lib.hid (own_below HY.out hb)
  have HZ := Lib.hid (own_lower ho HB2.out.size)
  have HB3 : Hid (Below w.heap.size w w3) := Lib.hid (HB2.out.trans (hb.mono HB2.out.size))
  obtain ⟨Az, Cz, rfl, _⟩ := own_slice_n ho
  clear ho hb HB1 HB2 K1 K2 K3
  have KC := Lib.hid (copy_any Ax Cx x w3 (own_recs1 HX.out) (by omega))
  go_wp2_with (go_at_call 16; fail)
  refine KC.out.mono ?_
  rintro e w4 ⟨A4, C4, rfl, ho, hb⟩
  have HV := Lib.hid ho
  have HG4 := Lib.hid hb
  have RY := Lib.hid (Reads.of_own (own_below HY.out hb))
  clear ho hb
  go_wp2_with (at_builtin; refine wpList_append_any _ rfl _ _ 22 rfl w3.heap.size 3 i0 _ 1 8 Try.underlying22 hi0 hz0 hz1 hz2 rfl (by decide) _ x.length (ints x) rfl HV.out w4.heap.size Ay y.length Cy (ints y) rfl RY.out ?c1 ?c2 ?c3 ?c4 ?_)
  case c1 => exact ints_one _
  case c2 => unfold maxLen; omega
  case c3 => omega
  case c4 => exact HG4.out.size
  intro v5 w5 hown hgrow hob
  have HG5 : Hid (Below w3.heap.size w3 w5) := Lib.hid (HG4.out.grown hgrow HG4.out.size (fun q hq => (HV.out.lt q hq).1))
  obtain ⟨A5, C5, rfl, _⟩ := own_slice_n hown
  have HV5 : Hid (w5.ownsRow w3.heap.size 3 1 (.slice A5 (x.length + y.length) C5) (x ++ y).length (ints (x ++ y))) := Lib.hid (outI_put hown)
  clear hown hgrow hob HV HG4 RY KC
  replace HX := Lib.hid (own_below HX.out HG5.out)
  replace HY := Lib.hid (own_below HY.out HG5.out)
  replace HZ := Lib.hid (own_below HZ.out HG5.out)
  replace HB3 : Hid (Below w.heap.size w w5) := Lib.hid (HB3.out.trans (HG5.out.mono HB3.out.size))
  have hxy : (x ++ y).length = x.length + y.length := by simp
  have B1 := Lib.hid (blk_new w5 #[.int .i64 0, .slice A5 (x.length + y.length) C5, .slice Az z.length Cz, .int .i64 1, .slice Az z.length Cz, .slice Ax x.length Cx] 24)
  have G1 : Hid (Below w5.heap.size w5 ((w5.alloc (.cells #[.int .i64 0, .slice A5 (x.length + y.length) C5, .slice Az z.length Cz, .int .i64 1, .slice Az z.length Cz, .slice Ax x.length Cx] 24)).alloc (.cells #[.slice (some ⟨w5.heap.size, 0, none⟩) 2 2, .slice none 0 0, .slice none 0 0] 30))) := Lib.hid (((Below.refl w5.heap.size w5).alloc (Nat.le_refl _) _).alloc (by simp) _)
  have B2 := Lib.hid (B1.out.alloc (.cells #[.slice (some ⟨w5.heap.size, 0, none⟩) 2 2, .slice none 0 0, .slice none 0 0] 30))
  have B3 : Hid (Blk ((w5.alloc (.cells #[.int .i64 0, .slice A5 (x.length + y.length) C5, .slice Az z.length Cz, .int .i64 1, .slice Az z.length Cz, .slice Ax x.length Cx] 24)).alloc (.cells #[.slice (some ⟨w5.heap.size, 0, none⟩) 2 2, .slice none 0 0, .slice none 0 0] 30)) (w5.heap.size + 1) [.slice (some ⟨w5.heap.size, 0, none⟩) 2 2, .slice none 0 0, .slice none 0 0]) := Lib.hid (blk_at (w := w5.alloc _) #[.slice (some ⟨w5.heap.size, 0, none⟩) 2 2, .slice none 0 0, .slice none 0 0] 30 (by simp))
  go_upto_region 3 with (fail)
  generalize (w5.alloc (.cells #[.int .i64 0, .slice A5 (x.length + y.length) C5, .slice Az z.length Cz, .int .i64 1, .slice Az z.length Cz, .slice Ax x.length Cx] 24)).alloc (.cells #[.slice (some ⟨w5.heap.size, 0, none⟩) 2 2, .slice none 0 0, .slice none 0 0] 30) = Wb at *
  replace HX := Lib.hid (own_below HX.out G1.out)
  replace HY := Lib.hid (own_below HY.out G1.out)
  replace HZ := Lib.hid (own_below HZ.out G1.out)
  replace HV5 := Lib.hid (own_below HV5.out G1.out)
  replace HB3 : Hid (Below w.heap.size w Wb) := Lib.hid (HB3.out.trans (G1.out.mono HB3.out.size))
  have HE : Hid (EditIn Wb (some ⟨w5.heap.size, 0, none⟩) none none 2 0 0 ⟨[⟨0, .slice A5 (x.length + y.length) C5, .slice Az z.length Cz, x ++ y, z⟩, ⟨1, .slice Az z.length Cz, .slice Ax x.length Cx, z, x⟩], [], []⟩) := Lib.hid ⟨⟨rows_blk (l := [⟨0, .slice A5 (x.length + y.length) C5, .slice Az z.length Cz, x ++ y, z⟩, ⟨1, .slice Az z.length Cz, .slice Ax x.length Cx, z, x⟩]) B2.out turn_len, fun t ht => by
      rcases List.mem_cons.1 ht with rfl | ht
      · exact ⟨own_recs1 HV5.out, own_recs1 HZ.out⟩
      · obtain rfl := List.mem_singleton.1 ht
        exact ⟨own_recs1 HZ.out, own_recs1 HX.out⟩⟩, rows_nil, rows_nil, by simp, by simp, by simp, fun t ht => by
      rcases List.mem_cons.1 ht with rfl | ht
      · simp only
        omega
      · obtain rfl := List.mem_singleton.1 ht
        simp only
        omega⟩
  have e0 := B3.out.at0.1
  have e1 := B3.out.at1.1
  have e2 := B3.out.at2.1
  have hd0 := B3.out.1
  clear B1 B2 B3 G1 HG5
  generalize w5.heap.size + 1 = g0 at *
  generalize w5.heap.size = g1 at *
  clear HX HZ HV5
  obtain ⟨n, hn⟩ : ∃ n, n = y.length := ⟨_, rfl⟩
  replace HY : Hid (Wb.ownsRow w.heap.size 3 1 (.slice Ay y.length Cy) n (ints y)) := by rw [hn]; exact HY
  have hn6 : n ≤ 6 := by omega
  have HN : Hid (n = y.length) := Lib.hid hn
  clear hn
  go_wp2_with (fail)
  go_loopw [11, 12] (fun wv kv wr => ∃ (k : Nat) (l : List Int), kv = .int .i64 k ∧ l.length = n ∧ k ≤ n ∧ Hid (wr.ownsRow w.heap.size 3 1 wv n (ints l)) ∧ Hid (l.Perm y) ∧ Hid (PB l n k) ∧ Hid (Below Wb.heap.size Wb wr)) (fun _ kv _ => n - (intOf kv).toNat)
  case atStart => exact ⟨0, y, rfl, HN.out.symm, Nat.zero_le _, HY, Lib.hid (List.Perm.refl _), Lib.hid (PB.start _ _), Lib.hid (Below.refl _ _)⟩
  case round =>
    obtain ⟨k, l, rfl, hln, hkn, HW, HPm, HPb, HBb⟩ := hrel
    obtain ⟨A, CW, rfl, hcw⟩ := own_slice_n HW.out
    by_cases hlt : k < n
    · have tk : decide ((k : Int) < (n : Int)) = true := by simpa using hlt
      go_wp2_with (fail)
      go_loopw [11, 13] (fun wv jv wr => ∃ (j : Nat) (l : List Int), jv = .int .i64 j ∧ l.length = n ∧ j < n ∧ Hid (wr.ownsRow w.heap.size 3 1 wv n (ints l)) ∧ Hid (l.Perm y) ∧ Hid (QB l n k j) ∧ Hid (Below Wb.heap.size Wb wr)) (fun _ jv _ => n - (intOf jv).toNat)
      case atStart => exact ⟨0, l, rfl, hln, by omega, HW, HPm, Lib.hid (QB.start HPb.out), HBb⟩
      case round =>
        clear HW HPm HPb HBb hln hcw
        obtain ⟨j, l, rfl, hln, hjn, HW, HPm, HQ, HBw⟩ := hrel
        obtain ⟨A, CW, rfl, hcw⟩ := own_slice_n HW.out
        by_cases hj1 : j + 1 < n
        · have hnp : 0 < n := Nat.lt_of_le_of_lt (Nat.zero_le _) hjn
          obtain ⟨g, cap', hv, hge, hgs⟩ := HW.out.form hnp
          obtain ⟨rfl, rfl⟩ : A = some ⟨g, 0, none⟩ ∧ CW = cap' := by injection hv with a _ b; exact ⟨a, b⟩
          clear hv
          have cell : ∀ q, q < n → wr.cell? ⟨g, q, none⟩ = some (.int .i64 (l.getD q 0)) := fun q hq => by
            have := HW.out.cells (g := g) rfl q (.int .i64 (l.getD q 0)) (ints_getD (by omega))
            rw [addr_add] at this
            exact this
          have c0 := cell j hjn
          have c1 := cell (j + 1) hj1
          clear cell
          have m0 : (0 : Int) ≤ (j : Int) := by omega
          have m1 : (j : Int) < (n : Int) := by omega
          have m2 : (j : Int).toNat = j := by omega
          have m3 : (0 : Int) ≤ (j : Int) + 1 := by omega
          have m4 : (j : Int) + 1 < (n : Int) := by omega
          have m5 : ((j : Int) + 1).toNat = j + 1 := by omega
          obtain ⟨p0, hp0⟩ : ∃ p, p = l.getD j 0 := ⟨_, rfl⟩
          obtain ⟨p1, hp1⟩ : ∃ p, p = l.getD (j + 1) 0 := ⟨_, rfl⟩
          rw [← hp0] at c0
          rw [← hp1] at c1
          have HPP : Hid (p0 = l.getD j 0 ∧ p1 = l.getD (j + 1) 0) := Lib.hid ⟨hp0, hp1⟩
          clear hp0 hp1
          by_cases hlt2 : p1 < p0
          · have t2 : decide (p0 > p1) = true := by simpa using hlt2
            have t2' : decide (p1 < p0) = true := by simpa using hlt2
            go_upto_region 10 with (fail)
            go_quiet (fail)
            go_upto_region 11 with (fail)
            have RT0 := Lib.hid (reads_pre (l := l) (Reads.of_own HW.out) (k := j) (by omega))
            have RD0 := Lib.hid (reads_drop HW.out hcw (k := j + 2) (by omega))
            have SL1 := Lib.hid (slice_to (some ⟨g, 0, none⟩) n CW j (by omega) hcw)
            have SL2 := Lib.hid (slice_from (some ⟨g, 0, none⟩) n CW (j + 2) (by omega))
            have WR1 : Hid (IntKind.i64.wrap ((j : Int) + 1) = (j : Int) + 1) := Lib.hid (by rw [IntKind.wrap_i64]; omega)
            have WR2 : Hid (IntKind.i64.wrap ((j : Int) + 2) = (j : Int) + 2) := Lib.hid (by rw [IntKind.wrap_i64]; omega)
            have SL2 : Hid (∀ W, (Instr.slice 22 (.slice (some ⟨g, 0, none⟩) n CW) (some (.int .i64 ((j : Int) + 2))) none none).run Try.prog W = .ok (.slice (cutA (some ⟨g, 0, none⟩) CW (j + 2) 1) (n - (j + 2)) (CW - (j + 2))) W) := SL2
            obtain ⟨Ws, hWs⟩ : ∃ W, W = (wr.drewN nq).drew := ⟨_, rfl⟩
            have HBw2 : Hid (Below Wb.heap.size Wb Ws) := Lib.hid (by rw [hWs]; exact (below_draws HBw.out nq).drew)
            have RT : Hid (Reads Ws Ws.heap.size 1 (some ⟨g, 0, none⟩) j (ints (l.take j))) := Lib.hid (by rw [hWs]; exact RT0.out)
            have RD : Hid (Reads Ws Ws.heap.size 1 (cutA (some ⟨g, 0, none⟩) CW (j + 2) 1) (n - (j + 2)) (ints (l.drop (j + 2)))) := Lib.hid (by rw [hWs]; exact RD0.out)
            have c0 : Ws.cell? ⟨g, j, none⟩ = some (.int .i64 p0) := by rw [hWs]; exact c0
            have c1 : Ws.cell? ⟨g, j + 1, none⟩ = some (.int .i64 p1) := by rw [hWs]; exact c1
            have hgs : g < Ws.heap.size := by rw [hWs]; exact hgs
            have hwW : w.heap.size ≤ Ws.heap.size := by rw [hWs]; exact Nat.le_trans HB3.out.size HBw.out.size
            refine wp_region_z (S := (fun W => Below (wr.drewN nq).drew.heap.size (wr.drewN nq).drew W)) (z := 21) (by kernel_rfl) (Below.refl _ _) (fun hH => ?_)
            rw [← hWs] at hH ⊢
            have HB : Hid (Below Ws.heap.size Ws Ws) := Lib.hid (Below.refl _ _)
            clear hWs RT0 RD0 HW
            refine wpAnyZ_takeS (i := 0) (v := ?_) rfl (by kernel_rfl) (by kernel_rfl) (by kernel_rfl) (by kernel_rfl) (fun _ _ _ h => h) (gives_value (by rfl) ?_) (by assumption) ?_
            rotate_left
            · intro w hSw
              have s0 : w.cell? ⟨g, j, none⟩ = some (.int .i64 p0) := by rw [hSw.cell hgs]; exact c0
              have s1 : w.cell? ⟨g, j + 1, none⟩ = some (.int .i64 p1) := by rw [hSw.cell hgs]; exact c1
              have wr1 := WR1.out
              have wr2 := WR2.out
              go_simp
              (try with_reducible rfl)
            (try simp only [Act.put, List.getElem_toArray, List.getElem_cons_succ, List.getElem_cons_zero, List.setIfInBounds_toArray, List.set_cons_zero, List.set_cons_succ])
            refine wpAnyZ_takeS (i := 1) (v := ?_) rfl (by kernel_rfl) (by kernel_rfl) (by kernel_rfl) (by kernel_rfl) (fun _ _ _ h => h) (gives_value (by rfl) ?_) (by assumption) ?_
            rotate_left
            · intro w hSw
              have s0 : w.cell? ⟨g, j, none⟩ = some (.int .i64 p0) := by rw [hSw.cell hgs]; exact c0
              have s1 : w.cell? ⟨g, j + 1, none⟩ = some (.int .i64 p1) := by rw [hSw.cell hgs]; exact c1
              have wr1 := WR1.out
              have wr2 := WR2.out
              go_simp
              (try with_reducible rfl)
            (try simp only [Act.put, List.getElem_toArray, List.getElem_cons_succ, List.getElem_cons_zero, List.setIfInBounds_toArray, List.set_cons_zero, List.set_cons_succ])
            refine wpAnyZ_takeS (i := 2) (v := ?_) rfl (by kernel_rfl) (by kernel_rfl) (by kernel_rfl) (by kernel_rfl) (fun _ _ _ h => h) (gives_value (by rfl) ?_) (by assumption) ?_
            rotate_left
            · intro w hSw
              have s0 : w.cell? ⟨g, j, none⟩ = some (.int .i64 p0) := by rw [hSw.cell hgs]; exact c0
              have s1 : w.cell? ⟨g, j + 1, none⟩ = some (.int .i64 p1) := by rw [hSw.cell hgs]; exact c1
              have wr1 := WR1.out
              have wr2 := WR2.out
              have sl1 := SL1.out
              go_simp
              (try with_reducible rfl)
            (try simp only [Act.put, List.getElem_toArray, List.getElem_cons_succ, List.getElem_cons_zero, List.setIfInBounds_toArray, List.set_cons_zero, List.set_cons_succ])
            refine wpAnyZ_takeS (i := 4) (v := ?_) rfl (by kernel_rfl) (by kernel_rfl) (by kernel_rfl) (by kernel_rfl) (fun _ _ _ h => h) (gives_value (by rfl) ?_) (by assumption) ?_
            rotate_left
            · intro w hSw
              have s0 : w.cell? ⟨g, j, none⟩ = some (.int .i64 p0) := by rw [hSw.cell hgs]; exact c0
              have s1 : w.cell? ⟨g, j + 1, none⟩ = some (.int .i64 p1) := by rw [hSw.cell hgs]; exact c1
              have wr1 := WR1.out
              have wr2 := WR2.out
              go_simp
              (try with_reducible rfl)
            (try simp only [Act.put, List.getElem_toArray, List.getElem_cons_succ, List.getElem_cons_zero, List.setIfInBounds_toArray, List.set_cons_zero, List.set_cons_succ])
            refine wpAnyZ_takeS (i := 5) (v := ?_) rfl (by kernel_rfl) (by kernel_rfl) (by kernel_rfl) (by kernel_rfl) (fun _ _ _ h => h) (gives_value (by rfl) ?_) (by assumption) ?_
            rotate_left
            · intro w hSw
              have s0 : w.cell? ⟨g, j, none⟩ = some (.int .i64 p0) := by rw [hSw.cell hgs]; exact c0
              have s1 : w.cell? ⟨g, j + 1, none⟩ = some (.int .i64 p1) := by rw [hSw.cell hgs]; exact c1
              have wr1 := WR1.out
              have wr2 := WR2.out
              go_simp
              (try with_reducible rfl)
            (try simp only [Act.put, List.getElem_toArray, List.getElem_cons_succ, List.getElem_cons_zero, List.setIfInBounds_toArray, List.set_cons_zero, List.set_cons_succ])
            refine wpAnyZ_takeS (i := 6) (v := ?_) rfl (by kernel_rfl) (by kernel_rfl) (by kernel_rfl) (by kernel_rfl) (fun _ _ _ h => h) (gives_value (by rfl) ?_) (by assumption) ?_
            rotate_left
            · intro w hSw
              have s0 : w.cell? ⟨g, j, none⟩ = some (.int .i64 p0) := by rw [hSw.cell hgs]; exact c0
              have s1 : w.cell? ⟨g, j + 1, none⟩ = some (.int .i64 p1) := by rw [hSw.cell hgs]; exact c1
              have wr1 := WR1.out
              have wr2 := WR2.out
              go_simp
              (try with_reducible rfl)
            (try simp only [Act.put, List.getElem_toArray, List.getElem_cons_succ, List.getElem_cons_zero, List.setIfInBounds_toArray, List.set_cons_zero, List.set_cons_succ])
            refine wpAnyZ_takeS (i := 7) (v := ?_) rfl (by kernel_rfl) (by kernel_rfl) (by kernel_rfl) (by kernel_rfl) (fun _ _ _ h => h) (gives_value (by rfl) ?_) (by assumption) ?_
            rotate_left
            · intro w hSw
              have s0 : w.cell? ⟨g, j, none⟩ = some (.int .i64 p0) := by rw [hSw.cell hgs]; exact c0
              have s1 : w.cell? ⟨g, j + 1, none⟩ = some (.int .i64 p1) := by rw [hSw.cell hgs]; exact c1
              have wr1 := WR1.out
              have wr2 := WR2.out
              go_simp
              (try with_reducible rfl)
            (try simp only [Act.put, List.getElem_toArray, List.getElem_cons_succ, List.getElem_cons_zero, List.setIfInBounds_toArray, List.set_cons_zero, List.set_cons_succ])
            refine wpAnyZ_takeS (i := 8) (v := ?_) rfl (by kernel_rfl) (by kernel_rfl) (by kernel_rfl) (by kernel_rfl) (fun _ _ _ h => h) (gives_value (by rfl) ?_) (by assumption) ?_
            rotate_left
            · intro w hSw
              have s0 : w.cell? ⟨g, j, none⟩ = some (.int .i64 p0) := by rw [hSw.cell hgs]; exact c0
              have s1 : w.cell? ⟨g, j + 1, none⟩ = some (.int .i64 p1) := by rw [hSw.cell hgs]; exact c1
              have wr1 := WR1.out
              have wr2 := WR2.out
              go_simp
              (try with_reducible rfl)
            (try simp only [Act.put, List.getElem_toArray, List.getElem_cons_succ, List.getElem_cons_zero, List.setIfInBounds_toArray, List.set_cons_zero, List.set_cons_succ])
            refine wpAnyZ_takeS (i := 9) (v := ?_) rfl (by kernel_rfl) (by kernel_rfl) (by kernel_rfl) (by kernel_rfl) (fun _ _ _ h => h) (gives_value (by rfl) ?_) (by assumption) ?_
            rotate_left
            · intro w hSw
              have s0 : w.cell? ⟨g, j, none⟩ = some (.int .i64 p0) := by rw [hSw.cell hgs]; exact c0
              have s1 : w.cell? ⟨g, j + 1, none⟩ = some (.int .i64 p1) := by rw [hSw.cell hgs]; exact c1
              have wr1 := WR1.out
              have wr2 := WR2.out
              go_simp
              (try with_reducible rfl)
            (try simp only [Act.put, List.getElem_toArray, List.getElem_cons_succ, List.getElem_cons_zero, List.setIfInBounds_toArray, List.set_cons_zero, List.set_cons_succ])
            refine wpAnyZ_takeS (i := 10) (v := ?_) rfl (by kernel_rfl) (by kernel_rfl) (by kernel_rfl) (by kernel_rfl) (fun _ _ _ h => h) (gives_value (by rfl) ?_) (by assumption) ?_
            rotate_left
            · intro w hSw
              have s0 : w.cell? ⟨g, j, none⟩ = some (.int .i64 p0) := by rw [hSw.cell hgs]; exact c0
              have s1 : w.cell? ⟨g, j + 1, none⟩ = some (.int .i64 p1) := by rw [hSw.cell hgs]; exact c1
              have wr1 := WR1.out
              have wr2 := WR2.out
              go_simp
              (try with_reducible rfl)
            (try simp only [Act.put, List.getElem_toArray, List.getElem_cons_succ, List.getElem_cons_zero, List.setIfInBounds_toArray, List.set_cons_zero, List.set_cons_succ])
            refine wpAnyZ_takeS (i := 11) (v := ?_) rfl (by kernel_rfl) (by kernel_rfl) (by kernel_rfl) (by kernel_rfl) (fun _ _ _ h => h) (gives_value (by rfl) ?_) (by assumption) ?_
            rotate_left
            · intro w hSw
              have s0 : w.cell? ⟨g, j, none⟩ = some (.int .i64 p0) := by rw [hSw.cell hgs]; exact c0
              have s1 : w.cell? ⟨g, j + 1, none⟩ = some (.int .i64 p1) := by rw [hSw.cell hgs]; exact c1
              have wr1 := WR1.out
              have wr2 := WR2.out
              go_simp
              (try with_reducible rfl)
            (try simp only [Act.put, List.getElem_toArray, List.getElem_cons_succ, List.getElem_cons_zero, List.setIfInBounds_toArray, List.set_cons_zero, List.set_cons_succ])
            refine wpAnyZ_takeS (i := 12) (v := ?_) rfl (by kernel_rfl) (by kernel_rfl) (by kernel_rfl) (by kernel_rfl) (fun _ _ _ h => h) (gives_value (by rfl) ?_) (by assumption) ?_
            rotate_left
            · intro w hSw
              have s0 : w.cell? ⟨g, j, none⟩ = some (.int .i64 p0) := by rw [hSw.cell hgs]; exact c0
              have s1 : w.cell? ⟨g, j + 1, none⟩ = some (.int .i64 p1) := by rw [hSw.cell hgs]; exact c1
              have wr1 := WR1.out
              have wr2 := WR2.out
              go_simp
              (try with_reducible rfl)
            (try simp only [Act.put, List.getElem_toArray, List.getElem_cons_succ, List.getElem_cons_zero, List.setIfInBounds_toArray, List.set_cons_zero, List.set_cons_succ])
            refine wpAnyZ_takeS (i := 15) (v := ?_) rfl (by kernel_rfl) (by kernel_rfl) (by kernel_rfl) (by kernel_rfl) (fun _ _ _ h => h) (gives_value (by rfl) ?_) (by assumption) ?_
            rotate_left
            · intro w hSw
              have s0 : w.cell? ⟨g, j, none⟩ = some (.int .i64 p0) := by rw [hSw.cell hgs]; exact c0
              have s1 : w.cell? ⟨g, j + 1, none⟩ = some (.int .i64 p1) := by rw [hSw.cell hgs]; exact c1
              have wr1 := WR1.out
              have wr2 := WR2.out
              go_simp
              (try with_reducible rfl)
            (try simp only [Act.put, List.getElem_toArray, List.getElem_cons_succ, List.getElem_cons_zero, List.setIfInBounds_toArray, List.set_cons_zero, List.set_cons_succ])
            refine wpAnyZ_takeS (i := 16) (v := ?_) rfl (by kernel_rfl) (by kernel_rfl) (by kernel_rfl) (by kernel_rfl) (fun _ _ _ h => h) (gives_value (by rfl) ?_) (by assumption) ?_
            rotate_left
            · intro w hSw
              have s0 : w.cell? ⟨g, j, none⟩ = some (.int .i64 p0) := by rw [hSw.cell hgs]; exact c0
              have s1 : w.cell? ⟨g, j + 1, none⟩ = some (.int .i64 p1) := by rw [hSw.cell hgs]; exact c1
              have wr1 := WR1.out
              have wr2 := WR2.out
              go_simp
              (try with_reducible rfl)
            (try simp only [Act.put, List.getElem_toArray, List.getElem_cons_succ, List.getElem_cons_zero, List.setIfInBounds_toArray, List.set_cons_zero, List.set_cons_succ])
            refine wpAnyZ_takeS (i := 17) (v := ?_) rfl (by kernel_rfl) (by kernel_rfl) (by kernel_rfl) (by kernel_rfl) (fun _ _ _ h => h) (gives_value (by rfl) ?_) (by assumption) ?_
            rotate_left
            · intro w hSw
              have s0 : w.cell? ⟨g, j, none⟩ = some (.int .i64 p0) := by rw [hSw.cell hgs]; exact c0
              have s1 : w.cell? ⟨g, j + 1, none⟩ = some (.int .i64 p1) := by rw [hSw.cell hgs]; exact c1
              have wr1 := WR1.out
              have wr2 := WR2.out
              go_simp
              (try with_reducible rfl)
            (try simp only [Act.put, List.getElem_toArray, List.getElem_cons_succ, List.getElem_cons_zero, List.setIfInBounds_toArray, List.set_cons_zero, List.set_cons_succ])
            refine wpAnyZ_takeS (i := 18) (v := ?_) rfl (by kernel_rfl) (by kernel_rfl) (by kernel_rfl) (by kernel_rfl) (fun _ _ _ h => h) (gives_value (by rfl) ?_) (by assumption) ?_
            rotate_left
            · intro w hSw
              have s0 : w.cell? ⟨g, j, none⟩ = some (.int .i64 p0) := by rw [hSw.cell hgs]; exact c0
              have s1 : w.cell? ⟨g, j + 1, none⟩ = some (.int .i64 p1) := by rw [hSw.cell hgs]; exact c1
              have wr1 := WR1.out
              have wr2 := WR2.out
              have sl2 := SL2.out
              go_simp
              (try with_reducible rfl)
            (try simp only [Act.put, List.getElem_toArray, List.getElem_cons_succ, List.getElem_cons_zero, List.setIfInBounds_toArray, List.set_cons_zero, List.set_cons_succ])
            refine wpAnyZ_two (i := 3) (j := 13) (by kernel_rfl) ?_ ?_
            · refine zstep rfl (fun K hK => ?_)
              refine step_append_any Ws rfl (.const (.slice none 0 0)) (.tmp 57) 22 rfl Ws.heap.size 3 i0 _ 1 8 Try.underlying22 hi0 hz0 hz1 hz2 rfl (by decide) (.slice none 0 0) 0 [] (by rfl) (World.ownsRow_nil _ _ _ _) Ws.heap.size (some ⟨g, 0, none⟩) j CW (ints (l.take j)) (by rfl) (RT.out.below HB.out) (ints_one _) (by unfold maxLen; omega) (by omega) HB.out.size ?_
              intro v3 v1 hown hgrow hob
              have hb : Below Ws.heap.size Ws v1 := (Below.refl _ _).grown hgrow (Nat.le_refl _) (fun q hq => by cases hq)
              have H3 : Hid (v1.ownsRow Ws.heap.size 3 1 v3 j (ints (l.take j))) := Lib.hid (by simpa using hown)
              replace HB : Hid (Below Ws.heap.size Ws v1) := Lib.hid (HB.out.trans (hb.mono HB.out.size))
              obtain ⟨A3, C3, rfl, _⟩ := own_slice_n H3.out
              clear hown hgrow hob hb
              refine hK.out _ _ (fun _ => HB.out) (fun hH => ?_)
              replace hH := hH (by decide)
              clear hK K
              (try simp only [Act.put, List.getElem_toArray, List.getElem_cons_succ, List.getElem_cons_zero, List.setIfInBounds_toArray, List.set_cons_zero, List.set_cons_succ])
              refine wpAnyZ_one (i := 13) (by kernel_rfl) ?_
              refine zstep rfl (fun K hK => ?_)
              go_simp
              have hb : Below v1.heap.size v1 (v1.alloc (.cells #[.int .i64 p1, .int .i64 p0] 3)) := (Below.refl _ _).alloc (Nat.le_refl _) _
              replace H3 := Lib.hid (own_below H3.out hb)
              have RP2 : Hid (Reads (v1.alloc (.cells #[.int .i64 p1, .int .i64 p0] 3)) (v1.heap.size + 1) 1 (some ⟨v1.heap.size, 0, none⟩) 2 (ints [p1, p0])) := Lib.hid (reads_pair v1 p1 p0)
              replace HB : Hid (Below Ws.heap.size Ws (v1.alloc (.cells #[.int .i64 p1, .int .i64 p0] 3))) := Lib.hid (HB.out.trans (hb.mono HB.out.size))
              clear hb
              generalize (v1.alloc (.cells #[.int .i64 p1, .int .i64 p0] 3)) = v2 at *
              generalize v1.heap.size = gp at RP2 ⊢
              refine hK.out _ _ (fun _ => HB.out) (fun hH => ?_)
              replace hH := hH (by decide)
              clear hK K
              (try simp only [Act.put, List.getElem_toArray, List.getElem_cons_succ, List.getElem_cons_zero, List.setIfInBounds_toArray, List.set_cons_zero, List.set_cons_succ])
              refine wpAnyZ_one (i := 14) (by kernel_rfl) ?_
              refine zstep rfl (fun K hK => ?_)
              refine step_append_any v2 rfl (.tmp 58) (.tmp 68) 22 rfl Ws.heap.size 3 i0 _ 1 8 Try.underlying22 hi0 hz0 hz1 hz2 rfl (by decide) (.slice A3 j C3) j (ints (l.take j)) (by rfl) H3.out (gp + 1) (some ⟨gp, 0, none⟩) 2 2 (ints [p1, p0]) (by rfl) RP2.out (ints_one _) (by unfold maxLen; omega) (by omega) HB.out.size ?_
              intro v4 v3 hown hgrow hob
              have H4 : Hid (v3.ownsRow Ws.heap.size 3 1 v4 (j + 2) (ints (l.take j ++ [p1, p0]))) := Lib.hid (by rw [show ints (l.take j ++ [p1, p0]) = ints (l.take j) ++ ints [p1, p0] by simp [ints]]; exact hown)
              replace HB : Hid (Below Ws.heap.size Ws v3) := Lib.hid (HB.out.grown hgrow HB.out.size (fun q hq => (H3.out.lt q hq).1))
              obtain ⟨A4, C4, rfl, _⟩ := own_slice_n H4.out
              clear hown hgrow hob H3 RP2
              refine hK.out _ _ (fun _ => HB.out) (fun hH => ?_)
              replace hH := hH (by decide)
              clear hK K
              (try simp only [Act.put, List.getElem_toArray, List.getElem_cons_succ, List.getElem_cons_zero, List.setIfInBounds_toArray, List.set_cons_zero, List.set_cons_succ])
              refine wpAnyZ_one (i := 19) (by kernel_rfl) ?_
              refine zstep rfl (fun K hK => ?_)
              refine step_append_any v3 rfl (.tmp 69) (.tmp 73) 22 rfl Ws.heap.size 3 i0 _ 1 8 Try.underlying22 hi0 hz0 hz1 hz2 rfl (by decide) (.slice A4 (j + 2) C4) (j + 2) (ints (l.take j ++ [p1, p0])) (by rfl) H4.out Ws.heap.size (cutA (some ⟨g, 0, none⟩) CW (j + 2) 1) (n - (j + 2)) (CW - (j + 2)) (ints (l.drop (j + 2))) (by rfl) (RD.out.below HB.out) (ints_one _) (by unfold maxLen; omega) (by omega) HB.out.size ?_
              intro v5 v4 hown hgrow hob
              have H5 : Hid (v4.ownsRow Ws.heap.size 3 1 v5 n (ints (swapAt l j))) := Lib.hid (by
                have e : ints (swapAt l j) = ints (l.take j ++ [p1, p0]) ++ ints (l.drop (j + 2)) := by
                  unfold swapAt
                  rw [← HPP.out.1, ← HPP.out.2]
                  simp [ints]
                rw [e, ← show j + 2 + (n - (j + 2)) = n by omega]
                have := hown
                rw [show j + 2 + (n - (j + 2)) = n by omega] at this ⊢
                exact this)
              replace HB : Hid (Below Ws.heap.size Ws v4) := Lib.hid (HB.out.grown hgrow HB.out.size (fun q hq => (H4.out.lt q hq).1))
              obtain ⟨A5, C5, rfl, _⟩ := own_slice_n H5.out
              clear hown hgrow hob H4
              refine hK.out _ _ (fun _ => HB.out) (fun hH => ?_)
              replace hH := hH (by decide)
              clear hK K
              (try simp only [Act.put, List.getElem_toArray, List.getElem_cons_succ, List.getElem_cons_zero, List.setIfInBounds_toArray, List.set_cons_zero, List.set_cons_succ])
              refine wpAnyZ_one (i := 20) (by kernel_rfl) ?_
              refine zstep rfl (fun K hK => ?_)
              go_simp
              refine hK.out _ _ (fun _ => HB.out) (fun hH => ?_)
              replace hH := hH (by decide)
              clear hK K
              (try simp only [Act.put, List.getElem_toArray, List.getElem_cons_succ, List.getElem_cons_zero, List.setIfInBounds_toArray, List.set_cons_zero, List.set_cons_succ])
              refine wpAnyZ_done (by kernel_rfl) ?_ _
              clear hH
              go_wp2_with (fail)
              go_roundw
              case rel => exact ⟨j + 1, swapAt l j, by go_num, by rw [swap_len (by omega)]; exact hln, by omega, Lib.hid (own_lower H5.out hwW), Lib.hid ((swap_perm (l := l) (j := j) (by omega)).trans HPm.out), Lib.hid (HQ.out.swap hln (by omega) (by rw [← HPP.out.1, ← HPP.out.2]; exact hlt2)), Lib.hid (HBw2.out.trans (HB.out.mono HBw2.out.size))⟩
              case measure => simp [intOf]; omega
            · refine zstep rfl (fun K hK => ?_)
              go_simp
              have hb : Below Ws.heap.size Ws (Ws.alloc (.cells #[.int .i64 p1, .int .i64 p0] 3)) := (Below.refl _ _).alloc (Nat.le_refl _) _
              have RP2 : Hid (Reads (Ws.alloc (.cells #[.int .i64 p1, .int .i64 p0] 3)) (Ws.heap.size + 1) 1 (some ⟨Ws.heap.size, 0, none⟩) 2 (ints [p1, p0])) := Lib.hid (reads_pair Ws p1 p0)
              replace HB : Hid (Below Ws.heap.size Ws (Ws.alloc (.cells #[.int .i64 p1, .int .i64 p0] 3))) := Lib.hid hb
              clear hb
              have hgz : Ws.heap.size + 1 ≤ (Ws.alloc (.cells #[.int .i64 p1, .int .i64 p0] 3)).heap.size := by simp
              generalize (Ws.alloc (.cells #[.int .i64 p1, .int .i64 p0] 3)) = v6 at *
              refine hK.out _ _ (fun _ => HB.out) (fun hH => ?_)
              replace hH := hH (by decide)
              clear hK K
              (try simp only [Act.put, List.getElem_toArray, List.getElem_cons_succ, List.getElem_cons_zero, List.setIfInBounds_toArray, List.set_cons_zero, List.set_cons_succ])
              refine wpAnyZ_one (i := 3) (by kernel_rfl) ?_
              refine zstep rfl (fun K hK => ?_)
              refine step_append_any v6 rfl (.const (.slice none 0 0)) (.tmp 57) 22 rfl Ws.heap.size 3 i0 _ 1 8 Try.underlying22 hi0 hz0 hz1 hz2 rfl (by decide) (.slice none 0 0) 0 [] (by rfl) (World.ownsRow_nil _ _ _ _) Ws.heap.size (some ⟨g, 0, none⟩) j CW (ints (l.take j)) (by rfl) (RT.out.below HB.out) (ints_one _) (by unfold maxLen; omega) (by omega) HB.out.size ?_
              intro v3 v7 hown hgrow hob
              have hb : Below v6.heap.size v6 v7 := (Below.refl _ _).grown hgrow (Nat.le_refl _) (fun q hq => by cases hq)
              have RP2 := Lib.hid (RP2.out.grown hgrow hgz (fun q hq => by cases hq))
              have H3 : Hid (v7.ownsRow Ws.heap.size 3 1 v3 j (ints (l.take j))) := Lib.hid (by simpa using hown)
              replace HB : Hid (Below Ws.heap.size Ws v7) := Lib.hid (HB.out.trans (hb.mono HB.out.size))
              obtain ⟨A3, C3, rfl, _⟩ := own_slice_n H3.out
              clear hown hgrow hob hb
              refine hK.out _ _ (fun _ => HB.out) (fun hH => ?_)
              replace hH := hH (by decide)
              clear hK K
              (try simp only [Act.put, List.getElem_toArray, List.getElem_cons_succ, List.getElem_cons_zero, List.setIfInBounds_toArray, List.set_cons_zero, List.set_cons_succ])
              refine wpAnyZ_one (i := 14) (by kernel_rfl) ?_
              refine zstep rfl (fun K hK => ?_)
              refine step_append_any v7 rfl (.tmp 58) (.tmp 68) 22 rfl Ws.heap.size 3 i0 _ 1 8 Try.underlying22 hi0 hz0 hz1 hz2 rfl (by decide) (.slice A3 j C3) j (ints (l.take j)) (by rfl) H3.out (Ws.heap.size + 1) (some ⟨Ws.heap.size, 0, none⟩) 2 2 (ints [p1, p0]) (by rfl) RP2.out (ints_one _) (by unfold maxLen; omega) (by omega) HB.out.size ?_
              intro v4 v8 hown hgrow hob
              have H4 : Hid (v8.ownsRow Ws.heap.size 3 1 v4 (j + 2) (ints (l.take j ++ [p1, p0]))) := Lib.hid (by rw [show ints (l.take j ++ [p1, p0]) = ints (l.take j) ++ ints [p1, p0] by simp [ints]]; exact hown)
              replace HB : Hid (Below Ws.heap.size Ws v8) := Lib.hid (HB.out.grown hgrow HB.out.size (fun q hq => (H3.out.lt q hq).1))
              obtain ⟨A4, C4, rfl, _⟩ := own_slice_n H4.out
              clear hown hgrow hob H3 RP2
              refine hK.out _ _ (fun _ => HB.out) (fun hH => ?_)
              replace hH := hH (by decide)
              clear hK K
              (try simp only [Act.put, List.getElem_toArray, List.getElem_cons_succ, List.getElem_cons_zero, List.setIfInBounds_toArray, List.set_cons_zero, List.set_cons_succ])
              refine wpAnyZ_one (i := 19) (by kernel_rfl) ?_
              refine zstep rfl (fun K hK => ?_)
              refine step_append_any v8 rfl (.tmp 69) (.tmp 73) 22 rfl Ws.heap.size 3 i0 _ 1 8 Try.underlying22 hi0 hz0 hz1 hz2 rfl (by decide) (.slice A4 (j + 2) C4) (j + 2) (ints (l.take j ++ [p1, p0])) (by rfl) H4.out Ws.heap.size (cutA (some ⟨g, 0, none⟩) CW (j + 2) 1) (n - (j + 2)) (CW - (j + 2)) (ints (l.drop (j + 2))) (by rfl) (RD.out.below HB.out) (ints_one _) (by unfold maxLen; omega) (by omega) HB.out.size ?_
              intro v5 v9 hown hgrow hob
              have H5 : Hid (v9.ownsRow Ws.heap.size 3 1 v5 n (ints (swapAt l j))) := Lib.hid (by
                have e : ints (swapAt l j) = ints (l.take j ++ [p1, p0]) ++ ints (l.drop (j + 2)) := by
                  unfold swapAt
                  rw [← HPP.out.1, ← HPP.out.2]
                  simp [ints]
                rw [e, ← show j + 2 + (n - (j + 2)) = n by omega]
                have := hown
                rw [show j + 2 + (n - (j + 2)) = n by omega] at this ⊢
                exact this)
              replace HB : Hid (Below Ws.heap.size Ws v9) := Lib.hid (HB.out.grown hgrow HB.out.size (fun q hq => (H4.out.lt q hq).1))
              obtain ⟨A5, C5, rfl, _⟩ := own_slice_n H5.out
              clear hown hgrow hob H4
              refine hK.out _ _ (fun _ => HB.out) (fun hH => ?_)
              replace hH := hH (by decide)
              clear hK K
              (try simp only [Act.put, List.getElem_toArray, List.getElem_cons_succ, List.getElem_cons_zero, List.setIfInBounds_toArray, List.set_cons_zero, List.set_cons_succ])
              refine wpAnyZ_one (i := 20) (by kernel_rfl) ?_
              refine zstep rfl (fun K hK => ?_)
              go_simp
              refine hK.out _ _ (fun _ => HB.out) (fun hH => ?_)
              replace hH := hH (by decide)
              clear hK K
              (try simp only [Act.put, List.getElem_toArray, List.getElem_cons_succ, List.getElem_cons_zero, List.setIfInBounds_toArray, List.set_cons_zero, List.set_cons_succ])
              refine wpAnyZ_done (by kernel_rfl) ?_ _
              clear hH
              go_wp2_with (fail)
              go_roundw
              case rel => exact ⟨j + 1, swapAt l j, by go_num, by rw [swap_len (by omega)]; exact hln, by omega, Lib.hid (own_lower H5.out hwW), Lib.hid ((swap_perm (l := l) (j := j) (by omega)).trans HPm.out), Lib.hid (HQ.out.swap hln (by omega) (by rw [← HPP.out.1, ← HPP.out.2]; exact hlt2)), Lib.hid (HBw2.out.trans (HB.out.mono HBw2.out.size))⟩
              case measure => simp [intOf]; omega
          · have t2 : decide (p0 > p1) = false := by simp; omega
            have t2' : decide (p1 < p0) = false := by simp; omega
            go_wp2_with (fail)
            go_quiet (fail)
            go_wp2_with (fail)
            go_roundw
            case rel => exact ⟨j + 1, l, by go_num, hln, by omega, Lib.hid (own_draws HW.out _), HPm, Lib.hid (HQ.out.stay hj1 (by rw [← HPP.out.1, ← HPP.out.2]; omega)), Lib.hid (below_draws HBw.out _)⟩
            case measure => simp [intOf]; omega
        · have tj : decide ((j : Int) + 1 < (n : Int)) = false := by simp; omega
          go_wp2_with (fail)
          go_roundw
          case rel => exact ⟨k + 1, l, by go_num, hln, by omega, HW, HPm, Lib.hid (HQ.out.next hlt hj1), HBw⟩
          case measure => simp [intOf]; omega
    · have tk : decide ((k : Int) < (n : Int)) = false := by simpa using hlt
      have HS : Hid (StrictI l) := Lib.hid (strict_of (HPb.out.sorted hln (by omega)) ((HPm.out.nodup_iff).2 hny))
      have HM : Hid (∀ a, a ∈ l ↔ a ∈ y) := Lib.hid (fun a => HPm.out.mem_iff)
      have f0 : wr.cell? ⟨g0, 0, none⟩ = _ := (HBb.out.cell (p := ⟨g0, 0, none⟩) hd0).trans e0
      have f1 : wr.cell? ⟨g0, 1, none⟩ = _ := (HBb.out.cell (p := ⟨g0, 1, none⟩) hd0).trans e1
      have f2 : wr.cell? ⟨g0, 2, none⟩ = _ := (HBb.out.cell (p := ⟨g0, 2, none⟩) hd0).trans e2
      have E1 := Lib.hid (HE.out.below HBb.out)
      have hd1 : g0 < wr.heap.size := Nat.lt_of_lt_of_le hd0 HBb.out.size
      have M1 : Hid (movedE ⟨[⟨0, .slice A5 (x.length + y.length) C5, .slice Az z.length Cz, x ++ y, z⟩, ⟨1, .slice Az z.length Cz, .slice Ax x.length Cx, z, x⟩], [], []⟩ = l) := Lib.hid (moves_moved (.inl rfl) hrx (fun a ha => hry a ha) (fun a ha => hrz a ha) HS.out HM.out)
      have HBt : Hid (Below w.heap.size w wr) := Lib.hid (HB3.out.trans (HBb.out.mono HB3.out.size))
      have KM := Lib.hid (moved_any _ _ _ _ _ _ _ wr E1.out)
      rw [M1.out] at KM
      have KV := Lib.hid (fun W (hb : Below wr.heap.size wr W) => inverse_any _ _ _ _ _ _ _ W (E1.out.below hb))
      clear e0 e1 e2 HE
      go_wp2_with (go_at_call 13; fail)
      refine KM.out.mono ?_
      rintro e u1 ⟨v1, rfl, ho, hb⟩
      have HL1 := Lib.hid (own_below HW.out hb)
      have HG1 : Hid (Below wr.heap.size wr u1) := Lib.hid hb
      rw [hln] at ho
      obtain ⟨Am, Cm, rfl, _⟩ := own_slice_n ho
      have S1 := Lib.hid (same_ints (.slice Am n Cm) (.slice A n CW) l u1 (own_recs1 (by rw [hln]; exact ho)) (own_recs1 (by rw [hln]; exact HL1.out)) (by omega))
      clear ho hb
      go_wp2_with (go_at_call 12; fail)
      refine S1.out.mono ?_
      rintro e u2 ⟨rfl, q2, rfl⟩
      have HG2 : Hid (Below wr.heap.size wr (u1.drewN q2)) := Lib.hid (below_draws HG1.out q2)
      generalize u1.drewN q2 = u2 at *
      have f0 : u2.cell? ⟨g0, 0, none⟩ = _ := (HG2.out.cell (p := ⟨g0, 0, none⟩) hd1).trans f0
      have f1 : u2.cell? ⟨g0, 1, none⟩ = _ := (HG2.out.cell (p := ⟨g0, 1, none⟩) hd1).trans f1
      have f2 : u2.cell? ⟨g0, 2, none⟩ = _ := (HG2.out.cell (p := ⟨g0, 2, none⟩) hd1).trans f2
      go_wp2_with (go_at_call 10; fail)
      refine (KV.out _ HG2.out).mono ?_
      rintro e u3 ⟨v1, v2, v3, f, rfl, hn1, hf, h2, h3, hb⟩
      have HG3 : Hid (Below wr.heap.size wr u3) := Lib.hid (HG2.out.trans (hb.mono HG2.out.size))
      have hf' : f.map Turn.pl = [(0, z, x ++ y), (1, x, z)] := hf
      have HFL : Hid (f.length = 2) := Lib.hid (by have := congrArg List.length hf'; simpa using this)
      have M2 : Hid (movedE ⟨f, [], []⟩ = l) := Lib.hid (moves_moved (.inr hf') hrx (fun a ha => hry a ha) (fun a ha => hrz a ha) HS.out HM.out)
      have hfm : ∀ t ∈ f, t.b.length ≤ 1000000 ∧ t.a.length ≤ 1000000 := fun t ht => by
        have hp : t.pl ∈ f.map Turn.pl := List.mem_map_of_mem ht
        rw [hf'] at hp
        obtain ⟨tc, tx, ty, tb, ta⟩ := t
        rcases List.mem_cons.1 hp with hp | hp
        · injection hp with _ hp; injection hp with hp1 hp2
          dsimp only at hp1 hp2
          subst hp1 hp2
          simp only
          omega
        · have hp := List.mem_singleton.1 hp
          injection hp with _ hp; injection hp with hp1 hp2
          dsimp only at hp1 hp2
          subst hp1 hp2
          simp only
          omega
      obtain ⟨A7, C7, rfl, _⟩ := own_slice_n hn1.1
      obtain ⟨A8, C8, rfl, _⟩ := own_slice_n (n := 0) h2
      obtain ⟨A9, C9, rfl, _⟩ := own_slice_n (n := 0) h3
      have E2 := Lib.hid (moved_any A7 A8 A9 C7 C8 C9 ⟨f, [], []⟩ u3 ⟨hn1.turns, rows_nil, rows_nil, (by show f.length < 20; rw [HFL.out]; omega), by simp, by simp, hfm⟩)
      rw [M2.out] at E2
      clear hn1 hf hf' h2 h3 hb hfm
      go_wp2_with (go_at_call 13; fail)
      refine E2.out.mono ?_
      rintro e u4 ⟨v4, rfl, ho, hb⟩
      have HG4 : Hid (Below wr.heap.size wr u4) := Lib.hid (HG3.out.trans (hb.mono HG3.out.size))
      have HL4 := Lib.hid (own_below HW.out HG4.out)
      rw [hln] at ho
      obtain ⟨Ao, Co, rfl, _⟩ := own_slice_n ho
      have S2 := Lib.hid (same_ints (.slice Ao n Co) (.slice A n CW) l u4 (own_recs1 (by rw [hln]; exact ho)) (own_recs1 (by rw [hln]; exact HL4.out)) (by omega))
      clear ho hb
      go_wp2_with (go_at_call 12; fail)
      refine S2.out.mono ?_
      rintro e u5 ⟨rfl, q5, rfl⟩
      have HG5 : Hid (Below wr.heap.size wr (u4.drewN q5)) := Lib.hid (below_draws HG4.out q5)
      generalize u4.drewN q5 = u5 at *
      have K0 := Lib.hid (moved_any none none none 0 0 0 ⟨[], [], []⟩ u5 ⟨turns_nil, rows_nil, rows_nil, by simp, by simp, by simp, fun t ht => by cases ht⟩)
      rw [moved_none] at K0
      go_wp2_with (go_at_call 13; fail)
      refine K0.out.mono ?_
      rintro e u6 ⟨v6, rfl, ho, hb⟩
      have HG6 : Hid (Below wr.heap.size wr u6) := Lib.hid (HG5.out.trans (hb.mono HG5.out.size))
      obtain ⟨Ap, Cp, rfl, _⟩ := own_slice_n (n := 0) ho
      clear ho hb
      go_wp2_with (go_at_call 14; fail)
      refine (wakes7_any _).mono ?_
      rintro e u7 ⟨rfl, hb⟩
      have HGf : Hid (Below w.heap.size w u7) := Lib.hid (HBt.out.trans ((HG6.out.trans (hb.mono HG6.out.size)).mono HBt.out.size))
      clear hb
      go_wp2
      go_ret
      exact ⟨rfl, HGf.out⟩
end Go.Proofs.Ytbellnanikaffaa
