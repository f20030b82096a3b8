/-
  No cell of these rows narrows 'for every input' (looked for: loops, veiled, ifaces, maps, wideKeys, modest, calm, conditions, laid).
  DERIVED. THE GIVEN ROWS OF THIS SEAT. 6 by the template 'for every input the law returns true; each argument reads behind the call as it read before'; 0 by the template 'total and deterministic' (their statements: YtcllnfhjbfmomaaTotals.lean).
  GIVEN WITH THE SEED: the statements are not yours to turn. If you find one false, say at which input.
  Laid BY PROGRAM, IN A SANDBOX (cutbox-rows.mjs): the forced cells as the released guide's own fill.sh prints them over the translation 9848a2b817bd0ecd… (all of the seat's roots in one cut). By AI agents, Wed Nov 11 2026. No macro, syntax, notation, axiom, sorry.
-/
import Derived.Test.YtcllnfhjbfmomaaChecked
import GoSem.Claim
import GoSem.ClaimJoined
import GoSem.ClaimMapViews
import Derived.JoinedTies
import Derived.KernelRfl
namespace Go.Proofs.Ytcllnfhjbfmomaa
/- THE CELL 'sum', in the pinned program and in every row, IS THE sha256 OF THE DUMP (.gsa) THAT YtcllnfhjbfmomaaProg.lean LOADS. Nothing in Lean hashes anything: it is a label: what it is worth is what the hold of that sum in a sandbox is worth. -/
noncomputable def Try.pinned : Pinned := { name := "ytcllnfhjbfmomaa", sum := "9848a2b817bd0ecd693020a8d664b5c1029fc24144877005966bbbe8383044cc", checked := Try.checked }
namespace Rows
def none {H : Type} : Left H := { results := [], args := [] }

/-- 'draymanlaw04.TripForms': WHATEVER THE INPUT: true; the input reads as it did. -/
def tripFormsSpec : ChangeSpec := { name := "tripForms", fn := fun _ => fun
  | [d] => { results := [.lit (.bool true)], args := [d] }
  | _ => none }
def tripFormsRow : OpenClaim := { program := "ytcllnfhjbfmomaa", sum := "9848a2b817bd0ecd693020a8d664b5c1029fc24144877005966bbbe8383044cc", func := "drayman/draymanlaw04.TripForms", spec := "tripForms", apart := false }
def TripFormsSaid : Prop := tripFormsRow.holds Try.pinned (OpenSpec.ofChange tripFormsSpec)

/-- ITS FALSE NEIGHBOUR: 'it returns false'. Refute it at one input. -/
def tripFormsWrong : ChangeSpec := { name := "tripForms", fn := fun _ => fun
  | [d] => { results := [.lit (.bool false)], args := [d] }
  | _ => none }
def TripFormsWrongFalsely : Prop := tripFormsRow.holds Try.pinned (OpenSpec.ofChange tripFormsWrong)

/-- 'draymanlaw04.TripBegins': WHATEVER THE INPUT: true; the input reads as it did. -/
def tripBeginsSpec : ChangeSpec := { name := "tripBegins", fn := fun _ => fun
  | [d1, d2, d3, d4] => { results := [.lit (.bool true)], args := [d1, d2, d3, d4] }
  | _ => none }
def tripBeginsRow : OpenClaim := { program := "ytcllnfhjbfmomaa", sum := "9848a2b817bd0ecd693020a8d664b5c1029fc24144877005966bbbe8383044cc", func := "drayman/draymanlaw04.TripBegins", spec := "tripBegins", unfollowed := true, recurses := true, apart := false }
def TripBeginsSaid : Prop := tripBeginsRow.holds Try.pinned (OpenSpec.ofChange tripBeginsSpec)

/-- ITS FALSE NEIGHBOUR: 'it returns false'. Refute it at one input. -/
def tripBeginsWrong : ChangeSpec := { name := "tripBegins", fn := fun _ => fun
  | [d1, d2, d3, d4] => { results := [.lit (.bool false)], args := [d1, d2, d3, d4] }
  | _ => none }
def TripBeginsWrongFalsely : Prop := tripBeginsRow.holds Try.pinned (OpenSpec.ofChange tripBeginsWrong)

/-- 'draymanlaw04.TripTells': WHATEVER THE INPUT: true; the input reads as it did. -/
def tripTellsSpec : ChangeSpec := { name := "tripTells", fn := fun _ => fun
  | [d1, d2, d3] => { results := [.lit (.bool true)], args := [d1, d2, d3] }
  | _ => none }
def tripTellsRow : OpenClaim := { program := "ytcllnfhjbfmomaa", sum := "9848a2b817bd0ecd693020a8d664b5c1029fc24144877005966bbbe8383044cc", func := "drayman/draymanlaw04.TripTells", spec := "tripTells", unfollowed := true, recurses := true, apart := false }
def TripTellsSaid : Prop := tripTellsRow.holds Try.pinned (OpenSpec.ofChange tripTellsSpec)

/-- ITS FALSE NEIGHBOUR: 'it returns false'. Refute it at one input. -/
def tripTellsWrong : ChangeSpec := { name := "tripTells", fn := fun _ => fun
  | [d1, d2, d3] => { results := [.lit (.bool false)], args := [d1, d2, d3] }
  | _ => none }
def TripTellsWrongFalsely : Prop := tripTellsRow.holds Try.pinned (OpenSpec.ofChange tripTellsWrong)

/-- 'draymanlaw04.TripWaits': WHATEVER THE INPUT: true; the input reads as it did. -/
def tripWaitsSpec : ChangeSpec := { name := "tripWaits", fn := fun _ => fun
  | [d1, d2, d3] => { results := [.lit (.bool true)], args := [d1, d2, d3] }
  | _ => none }
def tripWaitsRow : OpenClaim := { program := "ytcllnfhjbfmomaa", sum := "9848a2b817bd0ecd693020a8d664b5c1029fc24144877005966bbbe8383044cc", func := "drayman/draymanlaw04.TripWaits", spec := "tripWaits", unfollowed := true, recurses := true, apart := false }
def TripWaitsSaid : Prop := tripWaitsRow.holds Try.pinned (OpenSpec.ofChange tripWaitsSpec)

/-- ITS FALSE NEIGHBOUR: 'it returns false'. Refute it at one input. -/
def tripWaitsWrong : ChangeSpec := { name := "tripWaits", fn := fun _ => fun
  | [d1, d2, d3] => { results := [.lit (.bool false)], args := [d1, d2, d3] }
  | _ => none }
def TripWaitsWrongFalsely : Prop := tripWaitsRow.holds Try.pinned (OpenSpec.ofChange tripWaitsWrong)

/-- 'draymanlaw04.TripPairs': WHATEVER THE INPUT: true; the input reads as it did. -/
def tripPairsSpec : ChangeSpec := { name := "tripPairs", fn := fun _ => fun
  | [d1, d2, d3] => { results := [.lit (.bool true)], args := [d1, d2, d3] }
  | _ => none }
def tripPairsRow : OpenClaim := { program := "ytcllnfhjbfmomaa", sum := "9848a2b817bd0ecd693020a8d664b5c1029fc24144877005966bbbe8383044cc", func := "drayman/draymanlaw04.TripPairs", spec := "tripPairs", unfollowed := true, recurses := true, apart := false }
def TripPairsSaid : Prop := tripPairsRow.holds Try.pinned (OpenSpec.ofChange tripPairsSpec)

/-- ITS FALSE NEIGHBOUR: 'it returns false'. Refute it at one input. -/
def tripPairsWrong : ChangeSpec := { name := "tripPairs", fn := fun _ => fun
  | [d1, d2, d3] => { results := [.lit (.bool false)], args := [d1, d2, d3] }
  | _ => none }
def TripPairsWrongFalsely : Prop := tripPairsRow.holds Try.pinned (OpenSpec.ofChange tripPairsWrong)

/-- 'draymanlaw04.TripCost': WHATEVER THE INPUT: true; the input reads as it did. -/
def tripCostSpec : ChangeSpec := { name := "tripCost", fn := fun _ => fun
  | [d1, d2, d3] => { results := [.lit (.bool true)], args := [d1, d2, d3] }
  | _ => none }
def tripCostRow : OpenClaim := { program := "ytcllnfhjbfmomaa", sum := "9848a2b817bd0ecd693020a8d664b5c1029fc24144877005966bbbe8383044cc", func := "drayman/draymanlaw04.TripCost", spec := "tripCost", unfollowed := true, recurses := true, apart := false }
def TripCostSaid : Prop := tripCostRow.holds Try.pinned (OpenSpec.ofChange tripCostSpec)

/-- ITS FALSE NEIGHBOUR: 'it returns false'. Refute it at one input. -/
def tripCostWrong : ChangeSpec := { name := "tripCost", fn := fun _ => fun
  | [d1, d2, d3] => { results := [.lit (.bool false)], args := [d1, d2, d3] }
  | _ => none }
def TripCostWrongFalsely : Prop := tripCostRow.holds Try.pinned (OpenSpec.ofChange tripCostWrong)

/- THE SECOND FORM. 'bulk': how many values and letters a reading holds, each counted each time it is reached (what is shared counts as often as it is met; a slice's spare places count too). A statement '..UptoSaid' is the law's where the arguments, and the package variables that the reading takes, are together of bulk at most 1048576: NARROWER than '..Said'. Prove '..Said' where nothing that the law and all that it calls make is longer than what came in: it says more and counts as full. Else prove '..UptoSaid'. A law counts once. -/
mutual
def uptoBulk {H : Type} : DataW H → Nat
  | .lit (.string bytes) => bytes.length + 1
  | .lit _ => 1
  | .nil => 1
  | .ptr d => uptoBulk d + 1
  | .slice elems spare => uptoBulkAll elems + uptoBulkAll spare + 1
  | .agg parts => uptoBulkAll parts + 1
  | .iface _ d => uptoBulk d + 1
  | .map entries => uptoBulkEntries entries + 1
  | .held _ => 1
def uptoBulkAll {H : Type} : List (DataW H) → Nat
  | [] => 0
  | d :: r => uptoBulk d + uptoBulkAll r
def uptoBulkEntries {H : Type} : List (Lit × DataW H) → Nat
  | [] => 0
  | x :: r => uptoBulkEntry x + uptoBulkEntries r
def uptoBulkEntry {H : Type} : Lit × DataW H → Nat
  | (.string bytes, d) => bytes.length + uptoBulk d + 1
  | (_, d) => uptoBulk d + 1
 end
def uptoSmall : (H : Type) → List (DataW H) → Bool := fun _ ds => decide (uptoBulkAll ds ≤ 1048576)
def OpenSpec.upto (s : _root_.Go.ChangeSpec) : _root_.Go.OpenSpec := { _root_.Go.OpenSpec.ofChange s with cond := some uptoSmall }

/-- 'draymanlaw04.TripForms', WHERE WHAT IT READS IS OF BULK AT MOST 1048576: true; the input reads as it did. -/
def tripFormsUptoRow : OpenClaim := { program := "ytcllnfhjbfmomaa", sum := "9848a2b817bd0ecd693020a8d664b5c1029fc24144877005966bbbe8383044cc", func := "drayman/draymanlaw04.TripForms", spec := "tripForms", apart := false, narrowed := true }
def TripFormsUptoSaid : Prop := tripFormsUptoRow.holds Try.pinned (OpenSpec.upto tripFormsSpec)

/-- 'draymanlaw04.TripBegins', WHERE WHAT IT READS IS OF BULK AT MOST 1048576: true; the input reads as it did. -/
def tripBeginsUptoRow : OpenClaim := { program := "ytcllnfhjbfmomaa", sum := "9848a2b817bd0ecd693020a8d664b5c1029fc24144877005966bbbe8383044cc", func := "drayman/draymanlaw04.TripBegins", spec := "tripBegins", unfollowed := true, recurses := true, apart := false, narrowed := true }
def TripBeginsUptoSaid : Prop := tripBeginsUptoRow.holds Try.pinned (OpenSpec.upto tripBeginsSpec)

/-- 'draymanlaw04.TripTells', WHERE WHAT IT READS IS OF BULK AT MOST 1048576: true; the input reads as it did. -/
def tripTellsUptoRow : OpenClaim := { program := "ytcllnfhjbfmomaa", sum := "9848a2b817bd0ecd693020a8d664b5c1029fc24144877005966bbbe8383044cc", func := "drayman/draymanlaw04.TripTells", spec := "tripTells", unfollowed := true, recurses := true, apart := false, narrowed := true }
def TripTellsUptoSaid : Prop := tripTellsUptoRow.holds Try.pinned (OpenSpec.upto tripTellsSpec)

/-- 'draymanlaw04.TripWaits', WHERE WHAT IT READS IS OF BULK AT MOST 1048576: true; the input reads as it did. -/
def tripWaitsUptoRow : OpenClaim := { program := "ytcllnfhjbfmomaa", sum := "9848a2b817bd0ecd693020a8d664b5c1029fc24144877005966bbbe8383044cc", func := "drayman/draymanlaw04.TripWaits", spec := "tripWaits", unfollowed := true, recurses := true, apart := false, narrowed := true }
def TripWaitsUptoSaid : Prop := tripWaitsUptoRow.holds Try.pinned (OpenSpec.upto tripWaitsSpec)

/-- 'draymanlaw04.TripPairs', WHERE WHAT IT READS IS OF BULK AT MOST 1048576: true; the input reads as it did. -/
def tripPairsUptoRow : OpenClaim := { program := "ytcllnfhjbfmomaa", sum := "9848a2b817bd0ecd693020a8d664b5c1029fc24144877005966bbbe8383044cc", func := "drayman/draymanlaw04.TripPairs", spec := "tripPairs", unfollowed := true, recurses := true, apart := false, narrowed := true }
def TripPairsUptoSaid : Prop := tripPairsUptoRow.holds Try.pinned (OpenSpec.upto tripPairsSpec)

/-- 'draymanlaw04.TripCost', WHERE WHAT IT READS IS OF BULK AT MOST 1048576: true; the input reads as it did. -/
def tripCostUptoRow : OpenClaim := { program := "ytcllnfhjbfmomaa", sum := "9848a2b817bd0ecd693020a8d664b5c1029fc24144877005966bbbe8383044cc", func := "drayman/draymanlaw04.TripCost", spec := "tripCost", unfollowed := true, recurses := true, apart := false, narrowed := true }
def TripCostUptoSaid : Prop := tripCostUptoRow.holds Try.pinned (OpenSpec.upto tripCostSpec)

end Rows
end Go.Proofs.Ytcllnfhjbfmomaa
