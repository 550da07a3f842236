/-
  No cell of these rows narrows 'for every input' (looked for: loops, veiled, ifaces, maps, wideKeys, modest, calm, conditions, laid).
  DERIVED. THE GIVEN ROWS OF THIS SEAT. 5 by the template 'for every input the law returns true; each argument reads behind the call as it read before'; 0 by the template 'total and deterministic' (their statements: YtfnopcblmmeofaaTotals.lean).
  GIVEN WITH THE SEED: the statements are not yours to turn. If you find one false, say at which input.
  Laid BY PROGRAM, IN A SANDBOX (cutbox-rows.mjs): the forced cells as the released guide's own fill.sh prints them over the translation fe702442165aedf5… (all of the seat's roots in one cut). By AI agents, Wed Nov 11 2026. No macro, syntax, notation, axiom, sorry.
-/
import Derived.Test.YtfnopcblmmeofaaChecked
import GoSem.Claim
import GoSem.ClaimJoined
import GoSem.ClaimMapViews
import Derived.JoinedTies
import Derived.KernelRfl
namespace Go.Proofs.Ytfnopcblmmeofaa
/- THE CELL 'sum', in the pinned program and in every row, IS THE sha256 OF THE DUMP (.gsa) THAT YtfnopcblmmeofaaProg.lean LOADS. Nothing in Lean hashes anything: it is a label: what it is worth is what the hold of that sum in a sandbox is worth. -/
noncomputable def Try.pinned : Pinned := { name := "ytfnopcblmmeofaa", sum := "fe702442165aedf5bef9bb4af8410a9723d57fee28f48e890b1616180036da43", checked := Try.checked }
namespace Rows
def none {H : Type} : Left H := { results := [], args := [] }

/-- 'pitheadlaw04.TakeReads': WHATEVER THE INPUT: true; the input reads as it did. -/
def takeReadsSpec : ChangeSpec := { name := "takeReads", fn := fun _ => fun
  | [d1, d2] => { results := [.lit (.bool true)], args := [d1, d2] }
  | _ => none }
def takeReadsRow : OpenClaim := { program := "ytfnopcblmmeofaa", sum := "fe702442165aedf5bef9bb4af8410a9723d57fee28f48e890b1616180036da43", func := "pithead/pitheadlaw04.TakeReads", spec := "takeReads", unfollowed := true, recurses := true, apart := false }
def TakeReadsSaid : Prop := takeReadsRow.holds Try.pinned (OpenSpec.ofChange takeReadsSpec)

/-- ITS FALSE NEIGHBOUR: 'it returns false'. Refute it at one input. -/
def takeReadsWrong : ChangeSpec := { name := "takeReads", fn := fun _ => fun
  | [d1, d2] => { results := [.lit (.bool false)], args := [d1, d2] }
  | _ => none }
def TakeReadsWrongFalsely : Prop := takeReadsRow.holds Try.pinned (OpenSpec.ofChange takeReadsWrong)

/-- 'pitheadlaw05.TermTakes': WHATEVER THE INPUT: true; the input reads as it did. -/
def termTakesSpec : ChangeSpec := { name := "termTakes", fn := fun _ => fun
  | [d1, d2] => { results := [.lit (.bool true)], args := [d1, d2] }
  | _ => none }
def termTakesRow : OpenClaim := { program := "ytfnopcblmmeofaa", sum := "fe702442165aedf5bef9bb4af8410a9723d57fee28f48e890b1616180036da43", func := "pithead/pitheadlaw05.TermTakes", spec := "termTakes", inPlace := ["internal/abi.NoEscape"], unfollowed := true, recurses := true, apart := false }
def TermTakesSaid : Prop := termTakesRow.holds Try.pinned (OpenSpec.ofChange termTakesSpec)

/-- ITS FALSE NEIGHBOUR: 'it returns false'. Refute it at one input. -/
def termTakesWrong : ChangeSpec := { name := "termTakes", fn := fun _ => fun
  | [d1, d2] => { results := [.lit (.bool false)], args := [d1, d2] }
  | _ => none }
def TermTakesWrongFalsely : Prop := termTakesRow.holds Try.pinned (OpenSpec.ofChange termTakesWrong)

/-- 'pitheadlaw06.AggPuts': WHATEVER THE INPUT: true; the input reads as it did. -/
def aggPutsSpec : ChangeSpec := { name := "aggPuts", fn := fun _ => fun
  | [d1, d2] => { results := [.lit (.bool true)], args := [d1, d2] }
  | _ => none }
def aggPutsRow : OpenClaim := { program := "ytfnopcblmmeofaa", sum := "fe702442165aedf5bef9bb4af8410a9723d57fee28f48e890b1616180036da43", func := "pithead/pitheadlaw06.AggPuts", spec := "aggPuts", inPlace := ["internal/abi.NoEscape"], unfollowed := true, recurses := true, apart := false }
def AggPutsSaid : Prop := aggPutsRow.holds Try.pinned (OpenSpec.ofChange aggPutsSpec)

/-- ITS FALSE NEIGHBOUR: 'it returns false'. Refute it at one input. -/
def aggPutsWrong : ChangeSpec := { name := "aggPuts", fn := fun _ => fun
  | [d1, d2] => { results := [.lit (.bool false)], args := [d1, d2] }
  | _ => none }
def AggPutsWrongFalsely : Prop := aggPutsRow.holds Try.pinned (OpenSpec.ofChange aggPutsWrong)

/-- 'pitheadlaw06.AggTakes': WHATEVER THE INPUT: true; the input reads as it did. -/
def aggTakesSpec : ChangeSpec := { name := "aggTakes", fn := fun _ => fun
  | [d1, d2] => { results := [.lit (.bool true)], args := [d1, d2] }
  | _ => none }
def aggTakesRow : OpenClaim := { program := "ytfnopcblmmeofaa", sum := "fe702442165aedf5bef9bb4af8410a9723d57fee28f48e890b1616180036da43", func := "pithead/pitheadlaw06.AggTakes", spec := "aggTakes", inPlace := ["internal/abi.NoEscape"], unfollowed := true, recurses := true, apart := false }
def AggTakesSaid : Prop := aggTakesRow.holds Try.pinned (OpenSpec.ofChange aggTakesSpec)

/-- ITS FALSE NEIGHBOUR: 'it returns false'. Refute it at one input. -/
def aggTakesWrong : ChangeSpec := { name := "aggTakes", fn := fun _ => fun
  | [d1, d2] => { results := [.lit (.bool false)], args := [d1, d2] }
  | _ => none }
def AggTakesWrongFalsely : Prop := aggTakesRow.holds Try.pinned (OpenSpec.ofChange aggTakesWrong)

/-- 'pitheadlaw06.AggOrder': WHATEVER THE INPUT: true; the input reads as it did. -/
def aggOrderSpec : ChangeSpec := { name := "aggOrder", fn := fun _ => fun
  | [d1, d2, d3] => { results := [.lit (.bool true)], args := [d1, d2, d3] }
  | _ => none }
def aggOrderRow : OpenClaim := { program := "ytfnopcblmmeofaa", sum := "fe702442165aedf5bef9bb4af8410a9723d57fee28f48e890b1616180036da43", func := "pithead/pitheadlaw06.AggOrder", spec := "aggOrder", apart := false }
def AggOrderSaid : Prop := aggOrderRow.holds Try.pinned (OpenSpec.ofChange aggOrderSpec)

/-- ITS FALSE NEIGHBOUR: 'it returns false'. Refute it at one input. -/
def aggOrderWrong : ChangeSpec := { name := "aggOrder", fn := fun _ => fun
  | [d1, d2, d3] => { results := [.lit (.bool false)], args := [d1, d2, d3] }
  | _ => none }
def AggOrderWrongFalsely : Prop := aggOrderRow.holds Try.pinned (OpenSpec.ofChange aggOrderWrong)

/- THE SECOND FORM. 'bulk': how many values and letters a reading holds, each counted each time it is reached (what is shared counts as often as it is met; a slice's spare places count too). A statement '..UptoSaid' is the law's where the arguments, and the package variables that the reading takes, are together of bulk at most 1048576: NARROWER than '..Said'. Prove '..Said' where nothing that the law and all that it calls make is longer than what came in: it says more and counts as full. Else prove '..UptoSaid'. A law counts once. -/
mutual
def uptoBulk {H : Type} : DataW H → Nat
  | .lit (.string bytes) => bytes.length + 1
  | .lit _ => 1
  | .nil => 1
  | .ptr d => uptoBulk d + 1
  | .slice elems spare => uptoBulkAll elems + uptoBulkAll spare + 1
  | .agg parts => uptoBulkAll parts + 1
  | .iface _ d => uptoBulk d + 1
  | .map entries => uptoBulkEntries entries + 1
  | .held _ => 1
def uptoBulkAll {H : Type} : List (DataW H) → Nat
  | [] => 0
  | d :: r => uptoBulk d + uptoBulkAll r
def uptoBulkEntries {H : Type} : List (Lit × DataW H) → Nat
  | [] => 0
  | x :: r => uptoBulkEntry x + uptoBulkEntries r
def uptoBulkEntry {H : Type} : Lit × DataW H → Nat
  | (.string bytes, d) => bytes.length + uptoBulk d + 1
  | (_, d) => uptoBulk d + 1
 end
def uptoSmall : (H : Type) → List (DataW H) → Bool := fun _ ds => decide (uptoBulkAll ds ≤ 1048576)
def OpenSpec.upto (s : _root_.Go.ChangeSpec) : _root_.Go.OpenSpec := { _root_.Go.OpenSpec.ofChange s with cond := some uptoSmall }

/-- 'pitheadlaw04.TakeReads', WHERE WHAT IT READS IS OF BULK AT MOST 1048576: true; the input reads as it did. -/
def takeReadsUptoRow : OpenClaim := { program := "ytfnopcblmmeofaa", sum := "fe702442165aedf5bef9bb4af8410a9723d57fee28f48e890b1616180036da43", func := "pithead/pitheadlaw04.TakeReads", spec := "takeReads", unfollowed := true, recurses := true, apart := false, narrowed := true }
def TakeReadsUptoSaid : Prop := takeReadsUptoRow.holds Try.pinned (OpenSpec.upto takeReadsSpec)

/-- 'pitheadlaw05.TermTakes', WHERE WHAT IT READS IS OF BULK AT MOST 1048576: true; the input reads as it did. -/
def termTakesUptoRow : OpenClaim := { program := "ytfnopcblmmeofaa", sum := "fe702442165aedf5bef9bb4af8410a9723d57fee28f48e890b1616180036da43", func := "pithead/pitheadlaw05.TermTakes", spec := "termTakes", inPlace := ["internal/abi.NoEscape"], unfollowed := true, recurses := true, apart := false, narrowed := true }
def TermTakesUptoSaid : Prop := termTakesUptoRow.holds Try.pinned (OpenSpec.upto termTakesSpec)

/-- 'pitheadlaw06.AggPuts', WHERE WHAT IT READS IS OF BULK AT MOST 1048576: true; the input reads as it did. -/
def aggPutsUptoRow : OpenClaim := { program := "ytfnopcblmmeofaa", sum := "fe702442165aedf5bef9bb4af8410a9723d57fee28f48e890b1616180036da43", func := "pithead/pitheadlaw06.AggPuts", spec := "aggPuts", inPlace := ["internal/abi.NoEscape"], unfollowed := true, recurses := true, apart := false, narrowed := true }
def AggPutsUptoSaid : Prop := aggPutsUptoRow.holds Try.pinned (OpenSpec.upto aggPutsSpec)

/-- 'pitheadlaw06.AggTakes', WHERE WHAT IT READS IS OF BULK AT MOST 1048576: true; the input reads as it did. -/
def aggTakesUptoRow : OpenClaim := { program := "ytfnopcblmmeofaa", sum := "fe702442165aedf5bef9bb4af8410a9723d57fee28f48e890b1616180036da43", func := "pithead/pitheadlaw06.AggTakes", spec := "aggTakes", inPlace := ["internal/abi.NoEscape"], unfollowed := true, recurses := true, apart := false, narrowed := true }
def AggTakesUptoSaid : Prop := aggTakesUptoRow.holds Try.pinned (OpenSpec.upto aggTakesSpec)

/-- 'pitheadlaw06.AggOrder', WHERE WHAT IT READS IS OF BULK AT MOST 1048576: true; the input reads as it did. -/
def aggOrderUptoRow : OpenClaim := { program := "ytfnopcblmmeofaa", sum := "fe702442165aedf5bef9bb4af8410a9723d57fee28f48e890b1616180036da43", func := "pithead/pitheadlaw06.AggOrder", spec := "aggOrder", apart := false, narrowed := true }
def AggOrderUptoSaid : Prop := aggOrderUptoRow.holds Try.pinned (OpenSpec.upto aggOrderSpec)

end Rows
end Go.Proofs.Ytfnopcblmmeofaa
