/-
  No cell of these rows narrows 'for every input' (looked for: loops, veiled, ifaces, maps, wideKeys, modest, calm, conditions, laid).
  DERIVED. THE GIVEN ROWS OF THIS SEAT. 9 by the template 'for every input the law returns true; each argument reads behind the call as it read before'; 0 by the template 'total and deterministic' (their statements: YtfamombmnehpmaaTotals.lean).
  GIVEN WITH THE SEED: the statements are not yours to turn. If you find one false, say at which input.
  Laid BY PROGRAM, IN A SANDBOX (cutbox-rows.mjs): the forced cells as the released guide's own fill.sh prints them over the translation 3e70b6b786929928… (all of the seat's roots in one cut). By AI agents, Wed Nov 11 2026. No macro, syntax, notation, axiom, sorry.
-/
import Derived.Test.YtfamombmnehpmaaChecked
import GoSem.Claim
import GoSem.ClaimJoined
import GoSem.ClaimMapViews
import Derived.JoinedTies
import Derived.KernelRfl
namespace Go.Proofs.Ytfamombmnehpmaa
/- THE CELL 'sum', in the pinned program and in every row, IS THE sha256 OF THE DUMP (.gsa) THAT YtfamombmnehpmaaProg.lean LOADS. Nothing in Lean hashes anything: it is a label: what it is worth is what the hold of that sum in a sandbox is worth. -/
noncomputable def Try.pinned : Pinned := { name := "ytfamombmnehpmaa", sum := "3e70b6b786929928eaa5dbeaa8a32344966f199f2ce508b3efcbc1658a30dfcc", checked := Try.checked }
namespace Rows
def none {H : Type} : Left H := { results := [], args := [] }

/-- 'pitheadlaw06.AggOrder': WHATEVER THE INPUT: true; the input reads as it did. -/
def aggOrderSpec : ChangeSpec := { name := "aggOrder", fn := fun _ => fun
  | [d1, d2, d3] => { results := [.lit (.bool true)], args := [d1, d2, d3] }
  | _ => none }
def aggOrderRow : OpenClaim := { program := "ytfamombmnehpmaa", sum := "3e70b6b786929928eaa5dbeaa8a32344966f199f2ce508b3efcbc1658a30dfcc", func := "pithead/pitheadlaw06.AggOrder", spec := "aggOrder", apart := false }
def AggOrderSaid : Prop := aggOrderRow.holds Try.pinned (OpenSpec.ofChange aggOrderSpec)

/-- ITS FALSE NEIGHBOUR: 'it returns false'. Refute it at one input. -/
def aggOrderWrong : ChangeSpec := { name := "aggOrder", fn := fun _ => fun
  | [d1, d2, d3] => { results := [.lit (.bool false)], args := [d1, d2, d3] }
  | _ => none }
def AggOrderWrongFalsely : Prop := aggOrderRow.holds Try.pinned (OpenSpec.ofChange aggOrderWrong)

/-- 'pitheadlaw19.FactOrder': WHATEVER THE INPUT: true; the input reads as it did. -/
def factOrderSpec : ChangeSpec := { name := "factOrder", fn := fun _ => fun
  | [d1, d2] => { results := [.lit (.bool true)], args := [d1, d2] }
  | _ => none }
def factOrderRow : OpenClaim := { program := "ytfamombmnehpmaa", sum := "3e70b6b786929928eaa5dbeaa8a32344966f199f2ce508b3efcbc1658a30dfcc", func := "pithead/pitheadlaw19.FactOrder", spec := "factOrder", unfollowed := true, recurses := true, apart := false }
def FactOrderSaid : Prop := factOrderRow.holds Try.pinned (OpenSpec.ofChange factOrderSpec)

/-- ITS FALSE NEIGHBOUR: 'it returns false'. Refute it at one input. -/
def factOrderWrong : ChangeSpec := { name := "factOrder", fn := fun _ => fun
  | [d1, d2] => { results := [.lit (.bool false)], args := [d1, d2] }
  | _ => none }
def FactOrderWrongFalsely : Prop := factOrderRow.holds Try.pinned (OpenSpec.ofChange factOrderWrong)

/-- 'pitheadlaw19.FactFinds': WHATEVER THE INPUT: true; the input reads as it did. -/
def factFindsSpec : ChangeSpec := { name := "factFinds", fn := fun _ => fun
  | [d1, d2] => { results := [.lit (.bool true)], args := [d1, d2] }
  | _ => none }
def factFindsRow : OpenClaim := { program := "ytfamombmnehpmaa", sum := "3e70b6b786929928eaa5dbeaa8a32344966f199f2ce508b3efcbc1658a30dfcc", func := "pithead/pitheadlaw19.FactFinds", spec := "factFinds", unfollowed := true, recurses := true, apart := false }
def FactFindsSaid : Prop := factFindsRow.holds Try.pinned (OpenSpec.ofChange factFindsSpec)

/-- ITS FALSE NEIGHBOUR: 'it returns false'. Refute it at one input. -/
def factFindsWrong : ChangeSpec := { name := "factFinds", fn := fun _ => fun
  | [d1, d2] => { results := [.lit (.bool false)], args := [d1, d2] }
  | _ => none }
def FactFindsWrongFalsely : Prop := factFindsRow.holds Try.pinned (OpenSpec.ofChange factFindsWrong)

/-- 'pitheadlaw20.BatchValues': WHATEVER THE INPUT: true; the input reads as it did. -/
def batchValuesSpec : ChangeSpec := { name := "batchValues", fn := fun _ => fun
  | [d] => { results := [.lit (.bool true)], args := [d] }
  | _ => none }
def batchValuesRow : OpenClaim := { program := "ytfamombmnehpmaa", sum := "3e70b6b786929928eaa5dbeaa8a32344966f199f2ce508b3efcbc1658a30dfcc", func := "pithead/pitheadlaw20.BatchValues", spec := "batchValues", inPlace := ["internal/abi.NoEscape"], apart := false }
def BatchValuesSaid : Prop := batchValuesRow.holds Try.pinned (OpenSpec.ofChange batchValuesSpec)

/-- ITS FALSE NEIGHBOUR: 'it returns false'. Refute it at one input. -/
def batchValuesWrong : ChangeSpec := { name := "batchValues", fn := fun _ => fun
  | [d] => { results := [.lit (.bool false)], args := [d] }
  | _ => none }
def BatchValuesWrongFalsely : Prop := batchValuesRow.holds Try.pinned (OpenSpec.ofChange batchValuesWrong)

/-- 'pitheadlaw21.RunCuts': WHATEVER THE INPUT: true; the input reads as it did. -/
def runCutsSpec : ChangeSpec := { name := "runCuts", fn := fun _ => fun
  | [d1, d2] => { results := [.lit (.bool true)], args := [d1, d2] }
  | _ => none }
def runCutsRow : OpenClaim := { program := "ytfamombmnehpmaa", sum := "3e70b6b786929928eaa5dbeaa8a32344966f199f2ce508b3efcbc1658a30dfcc", func := "pithead/pitheadlaw21.RunCuts", spec := "runCuts", unfollowed := true, recurses := true, apart := false }
def RunCutsSaid : Prop := runCutsRow.holds Try.pinned (OpenSpec.ofChange runCutsSpec)

/-- ITS FALSE NEIGHBOUR: 'it returns false'. Refute it at one input. -/
def runCutsWrong : ChangeSpec := { name := "runCuts", fn := fun _ => fun
  | [d1, d2] => { results := [.lit (.bool false)], args := [d1, d2] }
  | _ => none }
def RunCutsWrongFalsely : Prop := runCutsRow.holds Try.pinned (OpenSpec.ofChange runCutsWrong)

/-- 'pitheadlaw21.RunSorts': WHATEVER THE INPUT: true; the input reads as it did. -/
def runSortsSpec : ChangeSpec := { name := "runSorts", fn := fun _ => fun
  | [d] => { results := [.lit (.bool true)], args := [d] }
  | _ => none }
def runSortsRow : OpenClaim := { program := "ytfamombmnehpmaa", sum := "3e70b6b786929928eaa5dbeaa8a32344966f199f2ce508b3efcbc1658a30dfcc", func := "pithead/pitheadlaw21.RunSorts", spec := "runSorts", unfollowed := true, recurses := true, apart := false }
def RunSortsSaid : Prop := runSortsRow.holds Try.pinned (OpenSpec.ofChange runSortsSpec)

/-- ITS FALSE NEIGHBOUR: 'it returns false'. Refute it at one input. -/
def runSortsWrong : ChangeSpec := { name := "runSorts", fn := fun _ => fun
  | [d] => { results := [.lit (.bool false)], args := [d] }
  | _ => none }
def RunSortsWrongFalsely : Prop := runSortsRow.holds Try.pinned (OpenSpec.ofChange runSortsWrong)

/-- 'pitheadlaw22.KmergeMerges': WHATEVER THE INPUT: true; the input reads as it did. -/
def kmergeMergesSpec : ChangeSpec := { name := "kmergeMerges", fn := fun _ => fun
  | [d1, d2] => { results := [.lit (.bool true)], args := [d1, d2] }
  | _ => none }
def kmergeMergesRow : OpenClaim := { program := "ytfamombmnehpmaa", sum := "3e70b6b786929928eaa5dbeaa8a32344966f199f2ce508b3efcbc1658a30dfcc", func := "pithead/pitheadlaw22.KmergeMerges", spec := "kmergeMerges", unfollowed := true, recurses := true, apart := false }
def KmergeMergesSaid : Prop := kmergeMergesRow.holds Try.pinned (OpenSpec.ofChange kmergeMergesSpec)

/-- ITS FALSE NEIGHBOUR: 'it returns false'. Refute it at one input. -/
def kmergeMergesWrong : ChangeSpec := { name := "kmergeMerges", fn := fun _ => fun
  | [d1, d2] => { results := [.lit (.bool false)], args := [d1, d2] }
  | _ => none }
def KmergeMergesWrongFalsely : Prop := kmergeMergesRow.holds Try.pinned (OpenSpec.ofChange kmergeMergesWrong)

/-- 'pitheadlaw22.KmergeSorts': WHATEVER THE INPUT: true; the input reads as it did. -/
def kmergeSortsSpec : ChangeSpec := { name := "kmergeSorts", fn := fun _ => fun
  | [d1, d2, d3] => { results := [.lit (.bool true)], args := [d1, d2, d3] }
  | _ => none }
def kmergeSortsRow : OpenClaim := { program := "ytfamombmnehpmaa", sum := "3e70b6b786929928eaa5dbeaa8a32344966f199f2ce508b3efcbc1658a30dfcc", func := "pithead/pitheadlaw22.KmergeSorts", spec := "kmergeSorts", unfollowed := true, recurses := true, apart := false }
def KmergeSortsSaid : Prop := kmergeSortsRow.holds Try.pinned (OpenSpec.ofChange kmergeSortsSpec)

/-- ITS FALSE NEIGHBOUR: 'it returns false'. Refute it at one input. -/
def kmergeSortsWrong : ChangeSpec := { name := "kmergeSorts", fn := fun _ => fun
  | [d1, d2, d3] => { results := [.lit (.bool false)], args := [d1, d2, d3] }
  | _ => none }
def KmergeSortsWrongFalsely : Prop := kmergeSortsRow.holds Try.pinned (OpenSpec.ofChange kmergeSortsWrong)

/-- 'pitheadlaw23.IngestFolds': WHATEVER THE INPUT: true; the input reads as it did. -/
def ingestFoldsSpec : ChangeSpec := { name := "ingestFolds", fn := fun _ => fun
  | [d1, d2] => { results := [.lit (.bool true)], args := [d1, d2] }
  | _ => none }
def ingestFoldsRow : OpenClaim := { program := "ytfamombmnehpmaa", sum := "3e70b6b786929928eaa5dbeaa8a32344966f199f2ce508b3efcbc1658a30dfcc", func := "pithead/pitheadlaw23.IngestFolds", spec := "ingestFolds", unfollowed := true, recurses := true, apart := false }
def IngestFoldsSaid : Prop := ingestFoldsRow.holds Try.pinned (OpenSpec.ofChange ingestFoldsSpec)

/-- ITS FALSE NEIGHBOUR: 'it returns false'. Refute it at one input. -/
def ingestFoldsWrong : ChangeSpec := { name := "ingestFolds", fn := fun _ => fun
  | [d1, d2] => { results := [.lit (.bool false)], args := [d1, d2] }
  | _ => none }
def IngestFoldsWrongFalsely : Prop := ingestFoldsRow.holds Try.pinned (OpenSpec.ofChange ingestFoldsWrong)

/- THE SECOND FORM. 'bulk': how many values and letters a reading holds, each counted each time it is reached (what is shared counts as often as it is met; a slice's spare places count too). A statement '..UptoSaid' is the law's where the arguments, and the package variables that the reading takes, are together of bulk at most 1048576: NARROWER than '..Said'. Prove '..Said' where nothing that the law and all that it calls make is longer than what came in: it says more and counts as full. Else prove '..UptoSaid'. A law counts once. -/
mutual
def uptoBulk {H : Type} : DataW H → Nat
  | .lit (.string bytes) => bytes.length + 1
  | .lit _ => 1
  | .nil => 1
  | .ptr d => uptoBulk d + 1
  | .slice elems spare => uptoBulkAll elems + uptoBulkAll spare + 1
  | .agg parts => uptoBulkAll parts + 1
  | .iface _ d => uptoBulk d + 1
  | .map entries => uptoBulkEntries entries + 1
  | .held _ => 1
def uptoBulkAll {H : Type} : List (DataW H) → Nat
  | [] => 0
  | d :: r => uptoBulk d + uptoBulkAll r
def uptoBulkEntries {H : Type} : List (Lit × DataW H) → Nat
  | [] => 0
  | x :: r => uptoBulkEntry x + uptoBulkEntries r
def uptoBulkEntry {H : Type} : Lit × DataW H → Nat
  | (.string bytes, d) => bytes.length + uptoBulk d + 1
  | (_, d) => uptoBulk d + 1
 end
def uptoSmall : (H : Type) → List (DataW H) → Bool := fun _ ds => decide (uptoBulkAll ds ≤ 1048576)
def OpenSpec.upto (s : _root_.Go.ChangeSpec) : _root_.Go.OpenSpec := { _root_.Go.OpenSpec.ofChange s with cond := some uptoSmall }

/-- 'pitheadlaw06.AggOrder', WHERE WHAT IT READS IS OF BULK AT MOST 1048576: true; the input reads as it did. -/
def aggOrderUptoRow : OpenClaim := { program := "ytfamombmnehpmaa", sum := "3e70b6b786929928eaa5dbeaa8a32344966f199f2ce508b3efcbc1658a30dfcc", func := "pithead/pitheadlaw06.AggOrder", spec := "aggOrder", apart := false, narrowed := true }
def AggOrderUptoSaid : Prop := aggOrderUptoRow.holds Try.pinned (OpenSpec.upto aggOrderSpec)

/-- 'pitheadlaw19.FactOrder', WHERE WHAT IT READS IS OF BULK AT MOST 1048576: true; the input reads as it did. -/
def factOrderUptoRow : OpenClaim := { program := "ytfamombmnehpmaa", sum := "3e70b6b786929928eaa5dbeaa8a32344966f199f2ce508b3efcbc1658a30dfcc", func := "pithead/pitheadlaw19.FactOrder", spec := "factOrder", unfollowed := true, recurses := true, apart := false, narrowed := true }
def FactOrderUptoSaid : Prop := factOrderUptoRow.holds Try.pinned (OpenSpec.upto factOrderSpec)

/-- 'pitheadlaw19.FactFinds', WHERE WHAT IT READS IS OF BULK AT MOST 1048576: true; the input reads as it did. -/
def factFindsUptoRow : OpenClaim := { program := "ytfamombmnehpmaa", sum := "3e70b6b786929928eaa5dbeaa8a32344966f199f2ce508b3efcbc1658a30dfcc", func := "pithead/pitheadlaw19.FactFinds", spec := "factFinds", unfollowed := true, recurses := true, apart := false, narrowed := true }
def FactFindsUptoSaid : Prop := factFindsUptoRow.holds Try.pinned (OpenSpec.upto factFindsSpec)

/-- 'pitheadlaw20.BatchValues', WHERE WHAT IT READS IS OF BULK AT MOST 1048576: true; the input reads as it did. -/
def batchValuesUptoRow : OpenClaim := { program := "ytfamombmnehpmaa", sum := "3e70b6b786929928eaa5dbeaa8a32344966f199f2ce508b3efcbc1658a30dfcc", func := "pithead/pitheadlaw20.BatchValues", spec := "batchValues", inPlace := ["internal/abi.NoEscape"], apart := false, narrowed := true }
def BatchValuesUptoSaid : Prop := batchValuesUptoRow.holds Try.pinned (OpenSpec.upto batchValuesSpec)

/-- 'pitheadlaw21.RunCuts', WHERE WHAT IT READS IS OF BULK AT MOST 1048576: true; the input reads as it did. -/
def runCutsUptoRow : OpenClaim := { program := "ytfamombmnehpmaa", sum := "3e70b6b786929928eaa5dbeaa8a32344966f199f2ce508b3efcbc1658a30dfcc", func := "pithead/pitheadlaw21.RunCuts", spec := "runCuts", unfollowed := true, recurses := true, apart := false, narrowed := true }
def RunCutsUptoSaid : Prop := runCutsUptoRow.holds Try.pinned (OpenSpec.upto runCutsSpec)

/-- 'pitheadlaw21.RunSorts', WHERE WHAT IT READS IS OF BULK AT MOST 1048576: true; the input reads as it did. -/
def runSortsUptoRow : OpenClaim := { program := "ytfamombmnehpmaa", sum := "3e70b6b786929928eaa5dbeaa8a32344966f199f2ce508b3efcbc1658a30dfcc", func := "pithead/pitheadlaw21.RunSorts", spec := "runSorts", unfollowed := true, recurses := true, apart := false, narrowed := true }
def RunSortsUptoSaid : Prop := runSortsUptoRow.holds Try.pinned (OpenSpec.upto runSortsSpec)

/-- 'pitheadlaw22.KmergeMerges', WHERE WHAT IT READS IS OF BULK AT MOST 1048576: true; the input reads as it did. -/
def kmergeMergesUptoRow : OpenClaim := { program := "ytfamombmnehpmaa", sum := "3e70b6b786929928eaa5dbeaa8a32344966f199f2ce508b3efcbc1658a30dfcc", func := "pithead/pitheadlaw22.KmergeMerges", spec := "kmergeMerges", unfollowed := true, recurses := true, apart := false, narrowed := true }
def KmergeMergesUptoSaid : Prop := kmergeMergesUptoRow.holds Try.pinned (OpenSpec.upto kmergeMergesSpec)

/-- 'pitheadlaw22.KmergeSorts', WHERE WHAT IT READS IS OF BULK AT MOST 1048576: true; the input reads as it did. -/
def kmergeSortsUptoRow : OpenClaim := { program := "ytfamombmnehpmaa", sum := "3e70b6b786929928eaa5dbeaa8a32344966f199f2ce508b3efcbc1658a30dfcc", func := "pithead/pitheadlaw22.KmergeSorts", spec := "kmergeSorts", unfollowed := true, recurses := true, apart := false, narrowed := true }
def KmergeSortsUptoSaid : Prop := kmergeSortsUptoRow.holds Try.pinned (OpenSpec.upto kmergeSortsSpec)

/-- 'pitheadlaw23.IngestFolds', WHERE WHAT IT READS IS OF BULK AT MOST 1048576: true; the input reads as it did. -/
def ingestFoldsUptoRow : OpenClaim := { program := "ytfamombmnehpmaa", sum := "3e70b6b786929928eaa5dbeaa8a32344966f199f2ce508b3efcbc1658a30dfcc", func := "pithead/pitheadlaw23.IngestFolds", spec := "ingestFolds", unfollowed := true, recurses := true, apart := false, narrowed := true }
def IngestFoldsUptoSaid : Prop := ingestFoldsUptoRow.holds Try.pinned (OpenSpec.upto ingestFoldsSpec)

end Rows
end Go.Proofs.Ytfamombmnehpmaa
