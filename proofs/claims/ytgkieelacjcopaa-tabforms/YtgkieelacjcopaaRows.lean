/-
  No cell of these rows narrows 'for every input' (looked for: loops, veiled, ifaces, maps, wideKeys, modest, calm, conditions, laid).
  DERIVED. THE GIVEN ROWS OF THIS SEAT. 6 by the template 'for every input the law returns true; each argument reads behind the call as it read before'; 0 by the template 'total and deterministic' (their statements: YtgkieelacjcopaaTotals.lean).
  GIVEN WITH THE SEED: the statements are not yours to turn. If you find one false, say at which input.
  Laid BY PROGRAM, IN A SANDBOX (cutbox-rows.mjs): the forced cells as the released guide's own fill.sh prints them over the translation f0c274daad9721c6… (all of the seat's roots in one cut). By AI agents, Wed Nov 11 2026. No macro, syntax, notation, axiom, sorry.
-/
import Derived.Test.YtgkieelacjcopaaChecked
import GoSem.Claim
import GoSem.ClaimJoined
import GoSem.ClaimMapViews
import Derived.JoinedTies
import Derived.KernelRfl
namespace Go.Proofs.Ytgkieelacjcopaa
/- THE CELL 'sum', in the pinned program and in every row, IS THE sha256 OF THE DUMP (.gsa) THAT YtgkieelacjcopaaProg.lean LOADS. Nothing in Lean hashes anything: it is a label: what it is worth is what the hold of that sum in a sandbox is worth. -/
noncomputable def Try.pinned : Pinned := { name := "ytgkieelacjcopaa", sum := "f0c274daad9721c66dcae98dfe74706b37b751eb6047eecc9f9d7065f2bfcbbb", checked := Try.checked }
namespace Rows
def none {H : Type} : Left H := { results := [], args := [] }

/-- 'draymanlaw05.TabForms': WHATEVER THE INPUT: true; the input reads as it did. -/
def tabFormsSpec : ChangeSpec := { name := "tabForms", fn := fun _ => fun
  | [d] => { results := [.lit (.bool true)], args := [d] }
  | _ => none }
def tabFormsRow : OpenClaim := { program := "ytgkieelacjcopaa", sum := "f0c274daad9721c66dcae98dfe74706b37b751eb6047eecc9f9d7065f2bfcbbb", func := "drayman/draymanlaw05.TabForms", spec := "tabForms", apart := false }
def TabFormsSaid : Prop := tabFormsRow.holds Try.pinned (OpenSpec.ofChange tabFormsSpec)

/-- ITS FALSE NEIGHBOUR: 'it returns false'. Refute it at one input. -/
def tabFormsWrong : ChangeSpec := { name := "tabForms", fn := fun _ => fun
  | [d] => { results := [.lit (.bool false)], args := [d] }
  | _ => none }
def TabFormsWrongFalsely : Prop := tabFormsRow.holds Try.pinned (OpenSpec.ofChange tabFormsWrong)

/-- 'draymanlaw05.TabParts': WHATEVER THE INPUT: true; the input reads as it did. -/
def tabPartsSpec : ChangeSpec := { name := "tabParts", fn := fun _ => fun
  | [d1, d2, d3] => { results := [.lit (.bool true)], args := [d1, d2, d3] }
  | _ => none }
def tabPartsRow : OpenClaim := { program := "ytgkieelacjcopaa", sum := "f0c274daad9721c66dcae98dfe74706b37b751eb6047eecc9f9d7065f2bfcbbb", func := "drayman/draymanlaw05.TabParts", spec := "tabParts", unfollowed := true, recurses := true, apart := false }
def TabPartsSaid : Prop := tabPartsRow.holds Try.pinned (OpenSpec.ofChange tabPartsSpec)

/-- ITS FALSE NEIGHBOUR: 'it returns false'. Refute it at one input. -/
def tabPartsWrong : ChangeSpec := { name := "tabParts", fn := fun _ => fun
  | [d1, d2, d3] => { results := [.lit (.bool false)], args := [d1, d2, d3] }
  | _ => none }
def TabPartsWrongFalsely : Prop := tabPartsRow.holds Try.pinned (OpenSpec.ofChange tabPartsWrong)

/-- 'draymanlaw05.TabLate': WHATEVER THE INPUT: true; the input reads as it did. -/
def tabLateSpec : ChangeSpec := { name := "tabLate", fn := fun _ => fun
  | [d1, d2, d3, d4] => { results := [.lit (.bool true)], args := [d1, d2, d3, d4] }
  | _ => none }
def tabLateRow : OpenClaim := { program := "ytgkieelacjcopaa", sum := "f0c274daad9721c66dcae98dfe74706b37b751eb6047eecc9f9d7065f2bfcbbb", func := "drayman/draymanlaw05.TabLate", spec := "tabLate", unfollowed := true, recurses := true, apart := false }
def TabLateSaid : Prop := tabLateRow.holds Try.pinned (OpenSpec.ofChange tabLateSpec)

/-- ITS FALSE NEIGHBOUR: 'it returns false'. Refute it at one input. -/
def tabLateWrong : ChangeSpec := { name := "tabLate", fn := fun _ => fun
  | [d1, d2, d3, d4] => { results := [.lit (.bool false)], args := [d1, d2, d3, d4] }
  | _ => none }
def TabLateWrongFalsely : Prop := tabLateRow.holds Try.pinned (OpenSpec.ofChange tabLateWrong)

/-- 'draymanlaw05.TabTells': WHATEVER THE INPUT: true; the input reads as it did. -/
def tabTellsSpec : ChangeSpec := { name := "tabTells", fn := fun _ => fun
  | [d1, d2, d3] => { results := [.lit (.bool true)], args := [d1, d2, d3] }
  | _ => none }
def tabTellsRow : OpenClaim := { program := "ytgkieelacjcopaa", sum := "f0c274daad9721c66dcae98dfe74706b37b751eb6047eecc9f9d7065f2bfcbbb", func := "drayman/draymanlaw05.TabTells", spec := "tabTells", unfollowed := true, recurses := true, apart := false }
def TabTellsSaid : Prop := tabTellsRow.holds Try.pinned (OpenSpec.ofChange tabTellsSpec)

/-- ITS FALSE NEIGHBOUR: 'it returns false'. Refute it at one input. -/
def tabTellsWrong : ChangeSpec := { name := "tabTells", fn := fun _ => fun
  | [d1, d2, d3] => { results := [.lit (.bool false)], args := [d1, d2, d3] }
  | _ => none }
def TabTellsWrongFalsely : Prop := tabTellsRow.holds Try.pinned (OpenSpec.ofChange tabTellsWrong)

/-- 'draymanlaw05.TabMeets': WHATEVER THE INPUT: true; the input reads as it did. -/
def tabMeetsSpec : ChangeSpec := { name := "tabMeets", fn := fun _ => fun
  | [d1, d2, d3, d4] => { results := [.lit (.bool true)], args := [d1, d2, d3, d4] }
  | _ => none }
def tabMeetsRow : OpenClaim := { program := "ytgkieelacjcopaa", sum := "f0c274daad9721c66dcae98dfe74706b37b751eb6047eecc9f9d7065f2bfcbbb", func := "drayman/draymanlaw05.TabMeets", spec := "tabMeets", unfollowed := true, recurses := true, apart := false }
def TabMeetsSaid : Prop := tabMeetsRow.holds Try.pinned (OpenSpec.ofChange tabMeetsSpec)

/-- ITS FALSE NEIGHBOUR: 'it returns false'. Refute it at one input. -/
def tabMeetsWrong : ChangeSpec := { name := "tabMeets", fn := fun _ => fun
  | [d1, d2, d3, d4] => { results := [.lit (.bool false)], args := [d1, d2, d3, d4] }
  | _ => none }
def TabMeetsWrongFalsely : Prop := tabMeetsRow.holds Try.pinned (OpenSpec.ofChange tabMeetsWrong)

/-- 'draymanlaw05.TabSets': WHATEVER THE INPUT: true; the input reads as it did. -/
def tabSetsSpec : ChangeSpec := { name := "tabSets", fn := fun _ => fun
  | [d1, d2, d3] => { results := [.lit (.bool true)], args := [d1, d2, d3] }
  | _ => none }
def tabSetsRow : OpenClaim := { program := "ytgkieelacjcopaa", sum := "f0c274daad9721c66dcae98dfe74706b37b751eb6047eecc9f9d7065f2bfcbbb", func := "drayman/draymanlaw05.TabSets", spec := "tabSets", unfollowed := true, recurses := true, apart := false }
def TabSetsSaid : Prop := tabSetsRow.holds Try.pinned (OpenSpec.ofChange tabSetsSpec)

/-- ITS FALSE NEIGHBOUR: 'it returns false'. Refute it at one input. -/
def tabSetsWrong : ChangeSpec := { name := "tabSets", fn := fun _ => fun
  | [d1, d2, d3] => { results := [.lit (.bool false)], args := [d1, d2, d3] }
  | _ => none }
def TabSetsWrongFalsely : Prop := tabSetsRow.holds Try.pinned (OpenSpec.ofChange tabSetsWrong)

/- THE SECOND FORM. 'bulk': how many values and letters a reading holds, each counted each time it is reached (what is shared counts as often as it is met; a slice's spare places count too). A statement '..UptoSaid' is the law's where the arguments, and the package variables that the reading takes, are together of bulk at most 1048576: NARROWER than '..Said'. Prove '..Said' where nothing that the law and all that it calls make is longer than what came in: it says more and counts as full. Else prove '..UptoSaid'. A law counts once. -/
mutual
def uptoBulk {H : Type} : DataW H → Nat
  | .lit (.string bytes) => bytes.length + 1
  | .lit _ => 1
  | .nil => 1
  | .ptr d => uptoBulk d + 1
  | .slice elems spare => uptoBulkAll elems + uptoBulkAll spare + 1
  | .agg parts => uptoBulkAll parts + 1
  | .iface _ d => uptoBulk d + 1
  | .map entries => uptoBulkEntries entries + 1
  | .held _ => 1
def uptoBulkAll {H : Type} : List (DataW H) → Nat
  | [] => 0
  | d :: r => uptoBulk d + uptoBulkAll r
def uptoBulkEntries {H : Type} : List (Lit × DataW H) → Nat
  | [] => 0
  | x :: r => uptoBulkEntry x + uptoBulkEntries r
def uptoBulkEntry {H : Type} : Lit × DataW H → Nat
  | (.string bytes, d) => bytes.length + uptoBulk d + 1
  | (_, d) => uptoBulk d + 1
 end
def uptoSmall : (H : Type) → List (DataW H) → Bool := fun _ ds => decide (uptoBulkAll ds ≤ 1048576)
def OpenSpec.upto (s : _root_.Go.ChangeSpec) : _root_.Go.OpenSpec := { _root_.Go.OpenSpec.ofChange s with cond := some uptoSmall }

/-- 'draymanlaw05.TabForms', WHERE WHAT IT READS IS OF BULK AT MOST 1048576: true; the input reads as it did. -/
def tabFormsUptoRow : OpenClaim := { program := "ytgkieelacjcopaa", sum := "f0c274daad9721c66dcae98dfe74706b37b751eb6047eecc9f9d7065f2bfcbbb", func := "drayman/draymanlaw05.TabForms", spec := "tabForms", apart := false, narrowed := true }
def TabFormsUptoSaid : Prop := tabFormsUptoRow.holds Try.pinned (OpenSpec.upto tabFormsSpec)

/-- 'draymanlaw05.TabParts', WHERE WHAT IT READS IS OF BULK AT MOST 1048576: true; the input reads as it did. -/
def tabPartsUptoRow : OpenClaim := { program := "ytgkieelacjcopaa", sum := "f0c274daad9721c66dcae98dfe74706b37b751eb6047eecc9f9d7065f2bfcbbb", func := "drayman/draymanlaw05.TabParts", spec := "tabParts", unfollowed := true, recurses := true, apart := false, narrowed := true }
def TabPartsUptoSaid : Prop := tabPartsUptoRow.holds Try.pinned (OpenSpec.upto tabPartsSpec)

/-- 'draymanlaw05.TabLate', WHERE WHAT IT READS IS OF BULK AT MOST 1048576: true; the input reads as it did. -/
def tabLateUptoRow : OpenClaim := { program := "ytgkieelacjcopaa", sum := "f0c274daad9721c66dcae98dfe74706b37b751eb6047eecc9f9d7065f2bfcbbb", func := "drayman/draymanlaw05.TabLate", spec := "tabLate", unfollowed := true, recurses := true, apart := false, narrowed := true }
def TabLateUptoSaid : Prop := tabLateUptoRow.holds Try.pinned (OpenSpec.upto tabLateSpec)

/-- 'draymanlaw05.TabTells', WHERE WHAT IT READS IS OF BULK AT MOST 1048576: true; the input reads as it did. -/
def tabTellsUptoRow : OpenClaim := { program := "ytgkieelacjcopaa", sum := "f0c274daad9721c66dcae98dfe74706b37b751eb6047eecc9f9d7065f2bfcbbb", func := "drayman/draymanlaw05.TabTells", spec := "tabTells", unfollowed := true, recurses := true, apart := false, narrowed := true }
def TabTellsUptoSaid : Prop := tabTellsUptoRow.holds Try.pinned (OpenSpec.upto tabTellsSpec)

/-- 'draymanlaw05.TabMeets', WHERE WHAT IT READS IS OF BULK AT MOST 1048576: true; the input reads as it did. -/
def tabMeetsUptoRow : OpenClaim := { program := "ytgkieelacjcopaa", sum := "f0c274daad9721c66dcae98dfe74706b37b751eb6047eecc9f9d7065f2bfcbbb", func := "drayman/draymanlaw05.TabMeets", spec := "tabMeets", unfollowed := true, recurses := true, apart := false, narrowed := true }
def TabMeetsUptoSaid : Prop := tabMeetsUptoRow.holds Try.pinned (OpenSpec.upto tabMeetsSpec)

/-- 'draymanlaw05.TabSets', WHERE WHAT IT READS IS OF BULK AT MOST 1048576: true; the input reads as it did. -/
def tabSetsUptoRow : OpenClaim := { program := "ytgkieelacjcopaa", sum := "f0c274daad9721c66dcae98dfe74706b37b751eb6047eecc9f9d7065f2bfcbbb", func := "drayman/draymanlaw05.TabSets", spec := "tabSets", unfollowed := true, recurses := true, apart := false, narrowed := true }
def TabSetsUptoSaid : Prop := tabSetsUptoRow.holds Try.pinned (OpenSpec.upto tabSetsSpec)

end Rows
end Go.Proofs.Ytgkieelacjcopaa
