/-
  No cell of these rows narrows 'for every input' (looked for: loops, veiled, ifaces, maps, wideKeys, modest, calm, conditions, laid).
  DERIVED. THE GIVEN ROWS OF THIS SEAT. 7 by the template 'for every input the law returns true; each argument reads behind the call as it read before'; 0 by the template 'total and deterministic' (their statements: YtkheepedjoimmaaTotals.lean).
  GIVEN WITH THE SEED: the statements are not yours to turn. If you find one false, say at which input.
  Laid BY PROGRAM, IN A SANDBOX (cutbox-rows.mjs): the forced cells as the released guide's own fill.sh prints them over the translation f1c2ab1de06881e9… (all of the seat's roots in one cut). By AI agents, Wed Nov 11 2026. No macro, syntax, notation, axiom, sorry.
-/
import Derived.Test.YtkheepedjoimmaaChecked
import GoSem.Claim
import GoSem.ClaimJoined
import GoSem.ClaimMapViews
import Derived.JoinedTies
import Derived.KernelRfl
namespace Go.Proofs.Ytkheepedjoimmaa
/- THE CELL 'sum', in the pinned program and in every row, IS THE sha256 OF THE DUMP (.gsa) THAT YtkheepedjoimmaaProg.lean LOADS. Nothing in Lean hashes anything: it is a label: what it is worth is what the hold of that sum in a sandbox is worth. -/
noncomputable def Try.pinned : Pinned := { name := "ytkheepedjoimmaa", sum := "f1c2ab1de06881e9b7f34650160bd127d485d37ed037e00cd58ac82cd5380623", checked := Try.checked }
namespace Rows
def none {H : Type} : Left H := { results := [], args := [] }

/-- 'draymanlaw05.TabParts': WHATEVER THE INPUT: true; the input reads as it did. -/
def tabPartsSpec : ChangeSpec := { name := "tabParts", fn := fun _ => fun
  | [d1, d2, d3] => { results := [.lit (.bool true)], args := [d1, d2, d3] }
  | _ => none }
def tabPartsRow : OpenClaim := { program := "ytkheepedjoimmaa", sum := "f1c2ab1de06881e9b7f34650160bd127d485d37ed037e00cd58ac82cd5380623", func := "drayman/draymanlaw05.TabParts", spec := "tabParts", unfollowed := true, recurses := true, apart := false }
def TabPartsSaid : Prop := tabPartsRow.holds Try.pinned (OpenSpec.ofChange tabPartsSpec)

/-- ITS FALSE NEIGHBOUR: 'it returns false'. Refute it at one input. -/
def tabPartsWrong : ChangeSpec := { name := "tabParts", fn := fun _ => fun
  | [d1, d2, d3] => { results := [.lit (.bool false)], args := [d1, d2, d3] }
  | _ => none }
def TabPartsWrongFalsely : Prop := tabPartsRow.holds Try.pinned (OpenSpec.ofChange tabPartsWrong)

/-- 'draymanlaw05.TabLate': WHATEVER THE INPUT: true; the input reads as it did. -/
def tabLateSpec : ChangeSpec := { name := "tabLate", fn := fun _ => fun
  | [d1, d2, d3, d4] => { results := [.lit (.bool true)], args := [d1, d2, d3, d4] }
  | _ => none }
def tabLateRow : OpenClaim := { program := "ytkheepedjoimmaa", sum := "f1c2ab1de06881e9b7f34650160bd127d485d37ed037e00cd58ac82cd5380623", func := "drayman/draymanlaw05.TabLate", spec := "tabLate", unfollowed := true, recurses := true, apart := false }
def TabLateSaid : Prop := tabLateRow.holds Try.pinned (OpenSpec.ofChange tabLateSpec)

/-- ITS FALSE NEIGHBOUR: 'it returns false'. Refute it at one input. -/
def tabLateWrong : ChangeSpec := { name := "tabLate", fn := fun _ => fun
  | [d1, d2, d3, d4] => { results := [.lit (.bool false)], args := [d1, d2, d3, d4] }
  | _ => none }
def TabLateWrongFalsely : Prop := tabLateRow.holds Try.pinned (OpenSpec.ofChange tabLateWrong)

/-- 'draymanlaw06.FitsCross': WHATEVER THE INPUT: true; the input reads as it did. -/
def fitsCrossSpec : ChangeSpec := { name := "fitsCross", fn := fun _ => fun
  | [d1, d2, d3, d4, d5, d6] => { results := [.lit (.bool true)], args := [d1, d2, d3, d4, d5, d6] }
  | _ => none }
def fitsCrossRow : OpenClaim := { program := "ytkheepedjoimmaa", sum := "f1c2ab1de06881e9b7f34650160bd127d485d37ed037e00cd58ac82cd5380623", func := "drayman/draymanlaw06.FitsCross", spec := "fitsCross", unfollowed := true, recurses := true, apart := false }
def FitsCrossSaid : Prop := fitsCrossRow.holds Try.pinned (OpenSpec.ofChange fitsCrossSpec)

/-- ITS FALSE NEIGHBOUR: 'it returns false'. Refute it at one input. -/
def fitsCrossWrong : ChangeSpec := { name := "fitsCross", fn := fun _ => fun
  | [d1, d2, d3, d4, d5, d6] => { results := [.lit (.bool false)], args := [d1, d2, d3, d4, d5, d6] }
  | _ => none }
def FitsCrossWrongFalsely : Prop := fitsCrossRow.holds Try.pinned (OpenSpec.ofChange fitsCrossWrong)

/-- 'draymanlaw06.FitsAsks': WHATEVER THE INPUT: true; the input reads as it did. -/
def fitsAsksSpec : ChangeSpec := { name := "fitsAsks", fn := fun _ => fun
  | [d1, d2, d3, d4, d5, d6] => { results := [.lit (.bool true)], args := [d1, d2, d3, d4, d5, d6] }
  | _ => none }
def fitsAsksRow : OpenClaim := { program := "ytkheepedjoimmaa", sum := "f1c2ab1de06881e9b7f34650160bd127d485d37ed037e00cd58ac82cd5380623", func := "drayman/draymanlaw06.FitsAsks", spec := "fitsAsks", unfollowed := true, recurses := true, apart := false }
def FitsAsksSaid : Prop := fitsAsksRow.holds Try.pinned (OpenSpec.ofChange fitsAsksSpec)

/-- ITS FALSE NEIGHBOUR: 'it returns false'. Refute it at one input. -/
def fitsAsksWrong : ChangeSpec := { name := "fitsAsks", fn := fun _ => fun
  | [d1, d2, d3, d4, d5, d6] => { results := [.lit (.bool false)], args := [d1, d2, d3, d4, d5, d6] }
  | _ => none }
def FitsAsksWrongFalsely : Prop := fitsAsksRow.holds Try.pinned (OpenSpec.ofChange fitsAsksWrong)

/-- 'draymanlaw06.FitsGrows': WHATEVER THE INPUT: true; the input reads as it did. -/
def fitsGrowsSpec : ChangeSpec := { name := "fitsGrows", fn := fun _ => fun
  | [d1, d2, d3] => { results := [.lit (.bool true)], args := [d1, d2, d3] }
  | _ => none }
def fitsGrowsRow : OpenClaim := { program := "ytkheepedjoimmaa", sum := "f1c2ab1de06881e9b7f34650160bd127d485d37ed037e00cd58ac82cd5380623", func := "drayman/draymanlaw06.FitsGrows", spec := "fitsGrows", unfollowed := true, recurses := true, apart := false }
def FitsGrowsSaid : Prop := fitsGrowsRow.holds Try.pinned (OpenSpec.ofChange fitsGrowsSpec)

/-- ITS FALSE NEIGHBOUR: 'it returns false'. Refute it at one input. -/
def fitsGrowsWrong : ChangeSpec := { name := "fitsGrows", fn := fun _ => fun
  | [d1, d2, d3] => { results := [.lit (.bool false)], args := [d1, d2, d3] }
  | _ => none }
def FitsGrowsWrongFalsely : Prop := fitsGrowsRow.holds Try.pinned (OpenSpec.ofChange fitsGrowsWrong)

/-- 'draymanlaw06.FitsForms': WHATEVER THE INPUT: true; the input reads as it did. -/
def fitsFormsSpec : ChangeSpec := { name := "fitsForms", fn := fun _ => fun
  | [d] => { results := [.lit (.bool true)], args := [d] }
  | _ => none }
def fitsFormsRow : OpenClaim := { program := "ytkheepedjoimmaa", sum := "f1c2ab1de06881e9b7f34650160bd127d485d37ed037e00cd58ac82cd5380623", func := "drayman/draymanlaw06.FitsForms", spec := "fitsForms", unfollowed := true, recurses := true, apart := false }
def FitsFormsSaid : Prop := fitsFormsRow.holds Try.pinned (OpenSpec.ofChange fitsFormsSpec)

/-- ITS FALSE NEIGHBOUR: 'it returns false'. Refute it at one input. -/
def fitsFormsWrong : ChangeSpec := { name := "fitsForms", fn := fun _ => fun
  | [d] => { results := [.lit (.bool false)], args := [d] }
  | _ => none }
def FitsFormsWrongFalsely : Prop := fitsFormsRow.holds Try.pinned (OpenSpec.ofChange fitsFormsWrong)

/-- 'draymanlaw06.FitsTells': WHATEVER THE INPUT: true; the input reads as it did. -/
def fitsTellsSpec : ChangeSpec := { name := "fitsTells", fn := fun _ => fun
  | [d1, d2, d3, d4, d5, d6] => { results := [.lit (.bool true)], args := [d1, d2, d3, d4, d5, d6] }
  | _ => none }
def fitsTellsRow : OpenClaim := { program := "ytkheepedjoimmaa", sum := "f1c2ab1de06881e9b7f34650160bd127d485d37ed037e00cd58ac82cd5380623", func := "drayman/draymanlaw06.FitsTells", spec := "fitsTells", unfollowed := true, recurses := true, apart := false }
def FitsTellsSaid : Prop := fitsTellsRow.holds Try.pinned (OpenSpec.ofChange fitsTellsSpec)

/-- ITS FALSE NEIGHBOUR: 'it returns false'. Refute it at one input. -/
def fitsTellsWrong : ChangeSpec := { name := "fitsTells", fn := fun _ => fun
  | [d1, d2, d3, d4, d5, d6] => { results := [.lit (.bool false)], args := [d1, d2, d3, d4, d5, d6] }
  | _ => none }
def FitsTellsWrongFalsely : Prop := fitsTellsRow.holds Try.pinned (OpenSpec.ofChange fitsTellsWrong)

/- THE SECOND FORM. 'bulk': how many values and letters a reading holds, each counted each time it is reached (what is shared counts as often as it is met; a slice's spare places count too). A statement '..UptoSaid' is the law's where the arguments, and the package variables that the reading takes, are together of bulk at most 1048576: NARROWER than '..Said'. Prove '..Said' where nothing that the law and all that it calls make is longer than what came in: it says more and counts as full. Else prove '..UptoSaid'. A law counts once. -/
mutual
def uptoBulk {H : Type} : DataW H → Nat
  | .lit (.string bytes) => bytes.length + 1
  | .lit _ => 1
  | .nil => 1
  | .ptr d => uptoBulk d + 1
  | .slice elems spare => uptoBulkAll elems + uptoBulkAll spare + 1
  | .agg parts => uptoBulkAll parts + 1
  | .iface _ d => uptoBulk d + 1
  | .map entries => uptoBulkEntries entries + 1
  | .held _ => 1
def uptoBulkAll {H : Type} : List (DataW H) → Nat
  | [] => 0
  | d :: r => uptoBulk d + uptoBulkAll r
def uptoBulkEntries {H : Type} : List (Lit × DataW H) → Nat
  | [] => 0
  | x :: r => uptoBulkEntry x + uptoBulkEntries r
def uptoBulkEntry {H : Type} : Lit × DataW H → Nat
  | (.string bytes, d) => bytes.length + uptoBulk d + 1
  | (_, d) => uptoBulk d + 1
 end
def uptoSmall : (H : Type) → List (DataW H) → Bool := fun _ ds => decide (uptoBulkAll ds ≤ 1048576)
def OpenSpec.upto (s : _root_.Go.ChangeSpec) : _root_.Go.OpenSpec := { _root_.Go.OpenSpec.ofChange s with cond := some uptoSmall }

/-- 'draymanlaw05.TabParts', WHERE WHAT IT READS IS OF BULK AT MOST 1048576: true; the input reads as it did. -/
def tabPartsUptoRow : OpenClaim := { program := "ytkheepedjoimmaa", sum := "f1c2ab1de06881e9b7f34650160bd127d485d37ed037e00cd58ac82cd5380623", func := "drayman/draymanlaw05.TabParts", spec := "tabParts", unfollowed := true, recurses := true, apart := false, narrowed := true }
def TabPartsUptoSaid : Prop := tabPartsUptoRow.holds Try.pinned (OpenSpec.upto tabPartsSpec)

/-- 'draymanlaw05.TabLate', WHERE WHAT IT READS IS OF BULK AT MOST 1048576: true; the input reads as it did. -/
def tabLateUptoRow : OpenClaim := { program := "ytkheepedjoimmaa", sum := "f1c2ab1de06881e9b7f34650160bd127d485d37ed037e00cd58ac82cd5380623", func := "drayman/draymanlaw05.TabLate", spec := "tabLate", unfollowed := true, recurses := true, apart := false, narrowed := true }
def TabLateUptoSaid : Prop := tabLateUptoRow.holds Try.pinned (OpenSpec.upto tabLateSpec)

/-- 'draymanlaw06.FitsCross', WHERE WHAT IT READS IS OF BULK AT MOST 1048576: true; the input reads as it did. -/
def fitsCrossUptoRow : OpenClaim := { program := "ytkheepedjoimmaa", sum := "f1c2ab1de06881e9b7f34650160bd127d485d37ed037e00cd58ac82cd5380623", func := "drayman/draymanlaw06.FitsCross", spec := "fitsCross", unfollowed := true, recurses := true, apart := false, narrowed := true }
def FitsCrossUptoSaid : Prop := fitsCrossUptoRow.holds Try.pinned (OpenSpec.upto fitsCrossSpec)

/-- 'draymanlaw06.FitsAsks', WHERE WHAT IT READS IS OF BULK AT MOST 1048576: true; the input reads as it did. -/
def fitsAsksUptoRow : OpenClaim := { program := "ytkheepedjoimmaa", sum := "f1c2ab1de06881e9b7f34650160bd127d485d37ed037e00cd58ac82cd5380623", func := "drayman/draymanlaw06.FitsAsks", spec := "fitsAsks", unfollowed := true, recurses := true, apart := false, narrowed := true }
def FitsAsksUptoSaid : Prop := fitsAsksUptoRow.holds Try.pinned (OpenSpec.upto fitsAsksSpec)

/-- 'draymanlaw06.FitsGrows', WHERE WHAT IT READS IS OF BULK AT MOST 1048576: true; the input reads as it did. -/
def fitsGrowsUptoRow : OpenClaim := { program := "ytkheepedjoimmaa", sum := "f1c2ab1de06881e9b7f34650160bd127d485d37ed037e00cd58ac82cd5380623", func := "drayman/draymanlaw06.FitsGrows", spec := "fitsGrows", unfollowed := true, recurses := true, apart := false, narrowed := true }
def FitsGrowsUptoSaid : Prop := fitsGrowsUptoRow.holds Try.pinned (OpenSpec.upto fitsGrowsSpec)

/-- 'draymanlaw06.FitsForms', WHERE WHAT IT READS IS OF BULK AT MOST 1048576: true; the input reads as it did. -/
def fitsFormsUptoRow : OpenClaim := { program := "ytkheepedjoimmaa", sum := "f1c2ab1de06881e9b7f34650160bd127d485d37ed037e00cd58ac82cd5380623", func := "drayman/draymanlaw06.FitsForms", spec := "fitsForms", unfollowed := true, recurses := true, apart := false, narrowed := true }
def FitsFormsUptoSaid : Prop := fitsFormsUptoRow.holds Try.pinned (OpenSpec.upto fitsFormsSpec)

/-- 'draymanlaw06.FitsTells', WHERE WHAT IT READS IS OF BULK AT MOST 1048576: true; the input reads as it did. -/
def fitsTellsUptoRow : OpenClaim := { program := "ytkheepedjoimmaa", sum := "f1c2ab1de06881e9b7f34650160bd127d485d37ed037e00cd58ac82cd5380623", func := "drayman/draymanlaw06.FitsTells", spec := "fitsTells", unfollowed := true, recurses := true, apart := false, narrowed := true }
def FitsTellsUptoSaid : Prop := fitsTellsUptoRow.holds Try.pinned (OpenSpec.upto fitsTellsSpec)

end Rows
end Go.Proofs.Ytkheepedjoimmaa
