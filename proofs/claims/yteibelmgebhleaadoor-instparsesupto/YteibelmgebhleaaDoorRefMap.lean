/- The map literal of draymanref01.ParseInst: what it answers. -/
import Derived.Test.YteibelmgebhleaaDoorRefParsePlain
import Derived.StringKeys
namespace Go.Proofs.YteibelmgebhleaaDoor
open Go.RowKit Go.Maps
set_option maxRecDepth 100000

section
variable {H : Type} {P : Program} (w : World) {ops : Array Oper} {rest : List Oper} {o : Oper} {a : Act} {Q : Exit → Act → World → Prop}
/-- an entry of a map literal -/
theorem wpList_insert_in (hg : o.guard = none) (m x v : Operand) (t : TypeId) (hop : o.op = Op.insert t m x v)
    (k e : TypeId) (K : Keyed P k) (ht : P.underlying t = some (.map k e)) (R : Value → Option (DataW H × List MemPlace)) (b n : Nat) (D : DataW H)
    (hm : a.eval m = .map (some b)) (hown : w.ownsMap P k R b n D) (hn : n < maxLen) (key val : Value) (kl : Lit) (hx : a.eval x = key) (hv : a.eval v = val) (hkey : keyOf P k key = some kl)
    (d : DataW H) (ps : List MemPlace) (hval : R val = some (d, ps))
    (hK : ∀ w', w'.ownsMap P k R b (n + 1) (D.put kl d) → w.mapTurned w' b → wpList P ops Q rest (a.put o.dst undef) w') :
    wpList P ops Q (o :: rest) a w := by
  refine wpList_plain hg fun K' hK' => ?_
  obtain ⟨w', hrun, r1, r2⟩ := hown.store K ht hn hkey hval
  unfold Oper.wp
  simp [execOp, hop, hm, hx, hv, hrun, Result.andThen]
  exact hK' _ _ (hK w' r1 r2)
end
def kindD : DataW Unit := (((((DataW.map []).put (.string (nameL 0)) (.lit (.int .i64 1))).put (.string (nameL 1)) (.lit (.int .i64 2))).put (.string (nameL 2)) (.lit (.int .i64 3))).put (.string (nameL 3)) (.lit (.int .i64 4)))
theorem isMap_put {D : DataW Unit} (h : IsMap D) (k : Lit) (d : DataW Unit) : IsMap (D.put k d) := by
  obtain ⟨es, rfl⟩ := h; exact ⟨_, rfl⟩
theorem kindD_at (x : List UInt8) : kindD.atKey (.string x) (.lit (.int .i64 0)) = .lit (.int .i64 (kindNum x)) := by
  have m0 : IsMap (DataW.map [] : DataW Unit) := ⟨_, rfl⟩
  have m1 := isMap_put m0 (.string (nameL 0)) (.lit (.int .i64 1))
  have m2 := isMap_put m1 (.string (nameL 1)) (.lit (.int .i64 2))
  have m3 := isMap_put m2 (.string (nameL 2)) (.lit (.int .i64 3))
  have ne : ∀ {p q : List UInt8}, p ≠ q → Lit.string p ≠ Lit.string q := fun h e => h (Lit.string.inj e)
  unfold kindD kindNum
  cases hk : kindL x with
  | none =>
    have h : ∀ {k : Nat}, k < 4 → x ≠ nameL k := fun hk4 => kindL_none hk hk4
    rw [atKey_put_other (ne (h (k := 3) (by omega))), atKey_put_other (ne (h (k := 2) (by omega))), atKey_put_other (ne (h (k := 1) (by omega))), atKey_put_other (ne (h (k := 0) (by omega)))]
    rfl
  | some k =>
    obtain ⟨h4, rfl⟩ := kindL_lt hk
    obtain rfl | rfl | rfl | rfl : k = 0 ∨ k = 1 ∨ k = 2 ∨ k = 3 := by omega
    · rw [atKey_put_other (ne (by decide)), atKey_put_other (ne (by decide)), atKey_put_other (ne (by decide)), atKey_put_same m0 (by simp [WideAt.IsKeyLit])]; rfl
    · rw [atKey_put_other (ne (by decide)), atKey_put_other (ne (by decide)), atKey_put_same m1 (by simp [WideAt.IsKeyLit])]; rfl
    · rw [atKey_put_other (ne (by decide)), atKey_put_same m2 (by simp [WideAt.IsKeyLit])]; rfl
    · rw [atKey_put_same m3 (by simp [WideAt.IsKeyLit])]; rfl
theorem key_str : Keyed Tryd.prog 9 := string_keyed Tryd.underlying9
theorem zero_int (w : World) : (zeroValue 3).run Tryd.prog w = .ok (.int .i64 0) w := by kernel_rfl
theorem key_name {s : ByteArray} (h : s.size ≤ 1099511627776) : keyOf Tryd.prog 9 (.string s) = some (.string s.data.toList) := WideMaps.keyOf_string_mk Tryd.underlying9 (by unfold maxLen; omega)
theorem look_kind {wr : World} {B n : Nat} (hown : wr.ownsMap Tryd.prog 9 (plainElem Tryd.prog 3) B n kindD) {x : ByteArray} (hs : x.size ≤ 1099511627776) :
    (Instr.lookup 85 (.map (some B)) (.string x) false).run Tryd.prog wr = .ok (.int .i64 (kindNum x.data.toList)) wr := by
  obtain ⟨c, hrun, hat, _⟩ := hown.lookup_int key_str Tryd.underlying85 Tryd.underlying3 (zero_int wr) (key_name hs)
  rw [kindD_at] at hat
  rw [hrun]
  injection hat with hat
  injection hat with _ hat
  rw [hat]
end Go.Proofs.YteibelmgebhleaaDoor
