/-
  No cell of these rows narrows 'for every input' (looked for: loops, veiled, ifaces, maps, wideKeys, modest, calm, conditions, laid).
  DERIVED. THE GIVEN ROWS OF THIS SEAT. 4 by the template 'for every input the law returns true; each argument reads behind the call as it read before'; 0 by the template 'total and deterministic' (their statements: YtcdgllngefeelaaTotals.lean).
  GIVEN WITH THE SEED: the statements are not yours to turn. If you find one false, say at which input.
  Laid BY PROGRAM, IN A SANDBOX (cutbox-rows.mjs): the forced cells as the released guide's own fill.sh prints them over the translation c1cb90ec1510fcb3… (all of the seat's roots in one cut). By AI agents, Wed Nov 11 2026. No macro, syntax, notation, axiom, sorry.
-/
import Derived.Test.YtcdgllngefeelaaChecked
import GoSem.Claim
import GoSem.ClaimJoined
import GoSem.ClaimMapViews
import Derived.JoinedTies
import Derived.KernelRfl
namespace Go.Proofs.Ytcdgllngefeelaa
/- THE CELL 'sum', in the pinned program and in every row, IS THE sha256 OF THE DUMP (.gsa) THAT YtcdgllngefeelaaProg.lean LOADS. Nothing in Lean hashes anything: it is a label: what it is worth is what the hold of that sum in a sandbox is worth. -/
noncomputable def Try.pinned : Pinned := { name := "ytcdgllngefeelaa", sum := "c1cb90ec1510fcb320b1ec87772d17fd5195edd8f069b4be6da72fe63736bfa8", checked := Try.checked }
namespace Rows
def none {H : Type} : Left H := { results := [], args := [] }

/-- 'pitheadlaw19.FactFinds': WHATEVER THE INPUT: true; the input reads as it did. -/
def factFindsSpec : ChangeSpec := { name := "factFinds", fn := fun _ => fun
  | [d1, d2] => { results := [.lit (.bool true)], args := [d1, d2] }
  | _ => none }
def factFindsRow : OpenClaim := { program := "ytcdgllngefeelaa", sum := "c1cb90ec1510fcb320b1ec87772d17fd5195edd8f069b4be6da72fe63736bfa8", func := "pithead/pitheadlaw19.FactFinds", spec := "factFinds", unfollowed := true, recurses := true, apart := false }
def FactFindsSaid : Prop := factFindsRow.holds Try.pinned (OpenSpec.ofChange factFindsSpec)

/-- ITS FALSE NEIGHBOUR: 'it returns false'. Refute it at one input. -/
def factFindsWrong : ChangeSpec := { name := "factFinds", fn := fun _ => fun
  | [d1, d2] => { results := [.lit (.bool false)], args := [d1, d2] }
  | _ => none }
def FactFindsWrongFalsely : Prop := factFindsRow.holds Try.pinned (OpenSpec.ofChange factFindsWrong)

/-- 'pitheadlaw25.ArenaNobody': WHATEVER THE INPUT: true; the input reads as it did. -/
def arenaNobodySpec : ChangeSpec := { name := "arenaNobody", fn := fun _ => fun
  | [d1, d2, d3] => { results := [.lit (.bool true)], args := [d1, d2, d3] }
  | _ => none }
def arenaNobodyRow : OpenClaim := { program := "ytcdgllngefeelaa", sum := "c1cb90ec1510fcb320b1ec87772d17fd5195edd8f069b4be6da72fe63736bfa8", func := "pithead/pitheadlaw25.ArenaNobody", spec := "arenaNobody", unfollowed := true, recurses := true, apart := false }
def ArenaNobodySaid : Prop := arenaNobodyRow.holds Try.pinned (OpenSpec.ofChange arenaNobodySpec)

/-- ITS FALSE NEIGHBOUR: 'it returns false'. Refute it at one input. -/
def arenaNobodyWrong : ChangeSpec := { name := "arenaNobody", fn := fun _ => fun
  | [d1, d2, d3] => { results := [.lit (.bool false)], args := [d1, d2, d3] }
  | _ => none }
def ArenaNobodyWrongFalsely : Prop := arenaNobodyRow.holds Try.pinned (OpenSpec.ofChange arenaNobodyWrong)

/-- 'pitheadlaw27.LookupNobody': WHATEVER THE INPUT: true; the input reads as it did. -/
def lookupNobodySpec : ChangeSpec := { name := "lookupNobody", fn := fun _ => fun
  | [d1, d2] => { results := [.lit (.bool true)], args := [d1, d2] }
  | _ => none }
def lookupNobodyRow : OpenClaim := { program := "ytcdgllngefeelaa", sum := "c1cb90ec1510fcb320b1ec87772d17fd5195edd8f069b4be6da72fe63736bfa8", func := "pithead/pitheadlaw27.LookupNobody", spec := "lookupNobody", unfollowed := true, recurses := true, apart := false }
def LookupNobodySaid : Prop := lookupNobodyRow.holds Try.pinned (OpenSpec.ofChange lookupNobodySpec)

/-- ITS FALSE NEIGHBOUR: 'it returns false'. Refute it at one input. -/
def lookupNobodyWrong : ChangeSpec := { name := "lookupNobody", fn := fun _ => fun
  | [d1, d2] => { results := [.lit (.bool false)], args := [d1, d2] }
  | _ => none }
def LookupNobodyWrongFalsely : Prop := lookupNobodyRow.holds Try.pinned (OpenSpec.ofChange lookupNobodyWrong)

/-- 'pitheadlaw29.TuplesNobody': WHATEVER THE INPUT: true; the input reads as it did. -/
def tuplesNobodySpec : ChangeSpec := { name := "tuplesNobody", fn := fun _ => fun
  | [d1, d2, d3] => { results := [.lit (.bool true)], args := [d1, d2, d3] }
  | _ => none }
def tuplesNobodyRow : OpenClaim := { program := "ytcdgllngefeelaa", sum := "c1cb90ec1510fcb320b1ec87772d17fd5195edd8f069b4be6da72fe63736bfa8", func := "pithead/pitheadlaw29.TuplesNobody", spec := "tuplesNobody", unfollowed := true, recurses := true, apart := false }
def TuplesNobodySaid : Prop := tuplesNobodyRow.holds Try.pinned (OpenSpec.ofChange tuplesNobodySpec)

/-- ITS FALSE NEIGHBOUR: 'it returns false'. Refute it at one input. -/
def tuplesNobodyWrong : ChangeSpec := { name := "tuplesNobody", fn := fun _ => fun
  | [d1, d2, d3] => { results := [.lit (.bool false)], args := [d1, d2, d3] }
  | _ => none }
def TuplesNobodyWrongFalsely : Prop := tuplesNobodyRow.holds Try.pinned (OpenSpec.ofChange tuplesNobodyWrong)

/- THE SECOND FORM. 'bulk': how many values and letters a reading holds, each counted each time it is reached (what is shared counts as often as it is met; a slice's spare places count too). A statement '..UptoSaid' is the law's where the arguments, and the package variables that the reading takes, are together of bulk at most 1048576: NARROWER than '..Said'. Prove '..Said' where nothing that the law and all that it calls make is longer than what came in: it says more and counts as full. Else prove '..UptoSaid'. A law counts once. -/
mutual
def uptoBulk {H : Type} : DataW H → Nat
  | .lit (.string bytes) => bytes.length + 1
  | .lit _ => 1
  | .nil => 1
  | .ptr d => uptoBulk d + 1
  | .slice elems spare => uptoBulkAll elems + uptoBulkAll spare + 1
  | .agg parts => uptoBulkAll parts + 1
  | .iface _ d => uptoBulk d + 1
  | .map entries => uptoBulkEntries entries + 1
  | .held _ => 1
def uptoBulkAll {H : Type} : List (DataW H) → Nat
  | [] => 0
  | d :: r => uptoBulk d + uptoBulkAll r
def uptoBulkEntries {H : Type} : List (Lit × DataW H) → Nat
  | [] => 0
  | x :: r => uptoBulkEntry x + uptoBulkEntries r
def uptoBulkEntry {H : Type} : Lit × DataW H → Nat
  | (.string bytes, d) => bytes.length + uptoBulk d + 1
  | (_, d) => uptoBulk d + 1
 end
def uptoSmall : (H : Type) → List (DataW H) → Bool := fun _ ds => decide (uptoBulkAll ds ≤ 1048576)
def OpenSpec.upto (s : _root_.Go.ChangeSpec) : _root_.Go.OpenSpec := { _root_.Go.OpenSpec.ofChange s with cond := some uptoSmall }

/-- 'pitheadlaw19.FactFinds', WHERE WHAT IT READS IS OF BULK AT MOST 1048576: true; the input reads as it did. -/
def factFindsUptoRow : OpenClaim := { program := "ytcdgllngefeelaa", sum := "c1cb90ec1510fcb320b1ec87772d17fd5195edd8f069b4be6da72fe63736bfa8", func := "pithead/pitheadlaw19.FactFinds", spec := "factFinds", unfollowed := true, recurses := true, apart := false, narrowed := true }
def FactFindsUptoSaid : Prop := factFindsUptoRow.holds Try.pinned (OpenSpec.upto factFindsSpec)

/-- 'pitheadlaw25.ArenaNobody', WHERE WHAT IT READS IS OF BULK AT MOST 1048576: true; the input reads as it did. -/
def arenaNobodyUptoRow : OpenClaim := { program := "ytcdgllngefeelaa", sum := "c1cb90ec1510fcb320b1ec87772d17fd5195edd8f069b4be6da72fe63736bfa8", func := "pithead/pitheadlaw25.ArenaNobody", spec := "arenaNobody", unfollowed := true, recurses := true, apart := false, narrowed := true }
def ArenaNobodyUptoSaid : Prop := arenaNobodyUptoRow.holds Try.pinned (OpenSpec.upto arenaNobodySpec)

/-- 'pitheadlaw27.LookupNobody', WHERE WHAT IT READS IS OF BULK AT MOST 1048576: true; the input reads as it did. -/
def lookupNobodyUptoRow : OpenClaim := { program := "ytcdgllngefeelaa", sum := "c1cb90ec1510fcb320b1ec87772d17fd5195edd8f069b4be6da72fe63736bfa8", func := "pithead/pitheadlaw27.LookupNobody", spec := "lookupNobody", unfollowed := true, recurses := true, apart := false, narrowed := true }
def LookupNobodyUptoSaid : Prop := lookupNobodyUptoRow.holds Try.pinned (OpenSpec.upto lookupNobodySpec)

/-- 'pitheadlaw29.TuplesNobody', WHERE WHAT IT READS IS OF BULK AT MOST 1048576: true; the input reads as it did. -/
def tuplesNobodyUptoRow : OpenClaim := { program := "ytcdgllngefeelaa", sum := "c1cb90ec1510fcb320b1ec87772d17fd5195edd8f069b4be6da72fe63736bfa8", func := "pithead/pitheadlaw29.TuplesNobody", spec := "tuplesNobody", unfollowed := true, recurses := true, apart := false, narrowed := true }
def TuplesNobodyUptoSaid : Prop := tuplesNobodyUptoRow.holds Try.pinned (OpenSpec.upto tuplesNobodySpec)

end Rows
end Go.Proofs.Ytcdgllngefeelaa
