/-
  No cell of these rows narrows 'for every input' (looked for: loops, veiled, ifaces, maps, wideKeys, modest, calm, conditions, laid).
  DERIVED. THE GIVEN ROWS OF THIS SEAT. 7 by the template 'for every input the law returns true; each argument reads behind the call as it read before'; 0 by the template 'total and deterministic' (their statements: YtnmfbhmnffjfgaaTotals.lean).
  GIVEN WITH THE SEED: the statements are not yours to turn. If you find one false, say at which input.
  Laid BY PROGRAM, IN A SANDBOX (cutbox-rows.mjs): the forced cells as the released guide's own fill.sh prints them over the translation ef24e6f4b02176bd… (all of the seat's roots in one cut). By AI agents, Wed Nov 11 2026. No macro, syntax, notation, axiom, sorry.
-/
import Derived.Test.YtnmfbhmnffjfgaaChecked
import GoSem.Claim
import GoSem.ClaimJoined
import GoSem.ClaimMapViews
import Derived.JoinedTies
import Derived.KernelRfl
namespace Go.Proofs.Ytnmfbhmnffjfgaa
/- THE CELL 'sum', in the pinned program and in every row, IS THE sha256 OF THE DUMP (.gsa) THAT YtnmfbhmnffjfgaaProg.lean LOADS. Nothing in Lean hashes anything: it is a label: what it is worth is what the hold of that sum in a sandbox is worth. -/
noncomputable def Try.pinned : Pinned := { name := "ytnmfbhmnffjfgaa", sum := "ef24e6f4b02176bda703ed2777fae3671fe6a1c041bc4d721d2e2a2fc482a05e", checked := Try.checked }
namespace Rows
def none {H : Type} : Left H := { results := [], args := [] }

/-- 'pitheadlaw25.ArenaAdds': WHATEVER THE INPUT: true; the input reads as it did. -/
def arenaAddsSpec : ChangeSpec := { name := "arenaAdds", fn := fun _ => fun
  | [d1, d2, d3, d4] => { results := [.lit (.bool true)], args := [d1, d2, d3, d4] }
  | _ => none }
def arenaAddsRow : OpenClaim := { program := "ytnmfbhmnffjfgaa", sum := "ef24e6f4b02176bda703ed2777fae3671fe6a1c041bc4d721d2e2a2fc482a05e", func := "pithead/pitheadlaw25.ArenaAdds", spec := "arenaAdds", unfollowed := true, recurses := true, plainKeys := false, apart := false }
def ArenaAddsSaid : Prop := arenaAddsRow.holds Try.pinned (OpenSpec.ofChange arenaAddsSpec)

/-- ITS FALSE NEIGHBOUR: 'it returns false'. Refute it at one input. -/
def arenaAddsWrong : ChangeSpec := { name := "arenaAdds", fn := fun _ => fun
  | [d1, d2, d3, d4] => { results := [.lit (.bool false)], args := [d1, d2, d3, d4] }
  | _ => none }
def ArenaAddsWrongFalsely : Prop := arenaAddsRow.holds Try.pinned (OpenSpec.ofChange arenaAddsWrong)

/-- 'pitheadlaw25.ArenaLoads': WHATEVER THE INPUT: true; the input reads as it did. -/
def arenaLoadsSpec : ChangeSpec := { name := "arenaLoads", fn := fun _ => fun
  | [d1, d2] => { results := [.lit (.bool true)], args := [d1, d2] }
  | _ => none }
def arenaLoadsRow : OpenClaim := { program := "ytnmfbhmnffjfgaa", sum := "ef24e6f4b02176bda703ed2777fae3671fe6a1c041bc4d721d2e2a2fc482a05e", func := "pithead/pitheadlaw25.ArenaLoads", spec := "arenaLoads", unfollowed := true, recurses := true, plainKeys := false, apart := false }
def ArenaLoadsSaid : Prop := arenaLoadsRow.holds Try.pinned (OpenSpec.ofChange arenaLoadsSpec)

/-- ITS FALSE NEIGHBOUR: 'it returns false'. Refute it at one input. -/
def arenaLoadsWrong : ChangeSpec := { name := "arenaLoads", fn := fun _ => fun
  | [d1, d2] => { results := [.lit (.bool false)], args := [d1, d2] }
  | _ => none }
def ArenaLoadsWrongFalsely : Prop := arenaLoadsRow.holds Try.pinned (OpenSpec.ofChange arenaLoadsWrong)

/-- 'pitheadlaw25.ArenaAhead': WHATEVER THE INPUT: true; the input reads as it did. -/
def arenaAheadSpec : ChangeSpec := { name := "arenaAhead", fn := fun _ => fun
  | [d1, d2, d3] => { results := [.lit (.bool true)], args := [d1, d2, d3] }
  | _ => none }
def arenaAheadRow : OpenClaim := { program := "ytnmfbhmnffjfgaa", sum := "ef24e6f4b02176bda703ed2777fae3671fe6a1c041bc4d721d2e2a2fc482a05e", func := "pithead/pitheadlaw25.ArenaAhead", spec := "arenaAhead", unfollowed := true, recurses := true, plainKeys := false, apart := false }
def ArenaAheadSaid : Prop := arenaAheadRow.holds Try.pinned (OpenSpec.ofChange arenaAheadSpec)

/-- ITS FALSE NEIGHBOUR: 'it returns false'. Refute it at one input. -/
def arenaAheadWrong : ChangeSpec := { name := "arenaAhead", fn := fun _ => fun
  | [d1, d2, d3] => { results := [.lit (.bool false)], args := [d1, d2, d3] }
  | _ => none }
def ArenaAheadWrongFalsely : Prop := arenaAheadRow.holds Try.pinned (OpenSpec.ofChange arenaAheadWrong)

/-- 'pitheadlaw27.LookupAlong': WHATEVER THE INPUT: true; the input reads as it did. -/
def lookupAlongSpec : ChangeSpec := { name := "lookupAlong", fn := fun _ => fun
  | [d1, d2, d3] => { results := [.lit (.bool true)], args := [d1, d2, d3] }
  | _ => none }
def lookupAlongRow : OpenClaim := { program := "ytnmfbhmnffjfgaa", sum := "ef24e6f4b02176bda703ed2777fae3671fe6a1c041bc4d721d2e2a2fc482a05e", func := "pithead/pitheadlaw27.LookupAlong", spec := "lookupAlong", unfollowed := true, recurses := true, plainKeys := false, apart := false }
def LookupAlongSaid : Prop := lookupAlongRow.holds Try.pinned (OpenSpec.ofChange lookupAlongSpec)

/-- ITS FALSE NEIGHBOUR: 'it returns false'. Refute it at one input. -/
def lookupAlongWrong : ChangeSpec := { name := "lookupAlong", fn := fun _ => fun
  | [d1, d2, d3] => { results := [.lit (.bool false)], args := [d1, d2, d3] }
  | _ => none }
def LookupAlongWrongFalsely : Prop := lookupAlongRow.holds Try.pinned (OpenSpec.ofChange lookupAlongWrong)

/-- 'pitheadlaw30.PairNobody': WHATEVER THE INPUT: true; the input reads as it did. -/
def pairNobodySpec : ChangeSpec := { name := "pairNobody", fn := fun _ => fun
  | [d1, d2, d3] => { results := [.lit (.bool true)], args := [d1, d2, d3] }
  | _ => none }
def pairNobodyRow : OpenClaim := { program := "ytnmfbhmnffjfgaa", sum := "ef24e6f4b02176bda703ed2777fae3671fe6a1c041bc4d721d2e2a2fc482a05e", func := "pithead/pitheadlaw30.PairNobody", spec := "pairNobody", unfollowed := true, recurses := true, plainKeys := false, apart := false }
def PairNobodySaid : Prop := pairNobodyRow.holds Try.pinned (OpenSpec.ofChange pairNobodySpec)

/-- ITS FALSE NEIGHBOUR: 'it returns false'. Refute it at one input. -/
def pairNobodyWrong : ChangeSpec := { name := "pairNobody", fn := fun _ => fun
  | [d1, d2, d3] => { results := [.lit (.bool false)], args := [d1, d2, d3] }
  | _ => none }
def PairNobodyWrongFalsely : Prop := pairNobodyRow.holds Try.pinned (OpenSpec.ofChange pairNobodyWrong)

/-- 'pitheadlaw32.CellcodePuts': WHATEVER THE INPUT: true; the input reads as it did. -/
def cellcodePutsSpec : ChangeSpec := { name := "cellcodePuts", fn := fun _ => fun
  | [d1, d2, d3] => { results := [.lit (.bool true)], args := [d1, d2, d3] }
  | _ => none }
def cellcodePutsRow : OpenClaim := { program := "ytnmfbhmnffjfgaa", sum := "ef24e6f4b02176bda703ed2777fae3671fe6a1c041bc4d721d2e2a2fc482a05e", func := "pithead/pitheadlaw32.CellcodePuts", spec := "cellcodePuts", inPlace := ["internal/abi.NoEscape"], unfollowed := true, recurses := true, plainKeys := false, apart := false }
def CellcodePutsSaid : Prop := cellcodePutsRow.holds Try.pinned (OpenSpec.ofChange cellcodePutsSpec)

/-- ITS FALSE NEIGHBOUR: 'it returns false'. Refute it at one input. -/
def cellcodePutsWrong : ChangeSpec := { name := "cellcodePuts", fn := fun _ => fun
  | [d1, d2, d3] => { results := [.lit (.bool false)], args := [d1, d2, d3] }
  | _ => none }
def CellcodePutsWrongFalsely : Prop := cellcodePutsRow.holds Try.pinned (OpenSpec.ofChange cellcodePutsWrong)

/-- 'pitheadlaw32.CellcodeTakes': WHATEVER THE INPUT: true; the input reads as it did. -/
def cellcodeTakesSpec : ChangeSpec := { name := "cellcodeTakes", fn := fun _ => fun
  | [d1, d2] => { results := [.lit (.bool true)], args := [d1, d2] }
  | _ => none }
def cellcodeTakesRow : OpenClaim := { program := "ytnmfbhmnffjfgaa", sum := "ef24e6f4b02176bda703ed2777fae3671fe6a1c041bc4d721d2e2a2fc482a05e", func := "pithead/pitheadlaw32.CellcodeTakes", spec := "cellcodeTakes", inPlace := ["internal/abi.NoEscape"], unfollowed := true, recurses := true, plainKeys := false, apart := false }
def CellcodeTakesSaid : Prop := cellcodeTakesRow.holds Try.pinned (OpenSpec.ofChange cellcodeTakesSpec)

/-- ITS FALSE NEIGHBOUR: 'it returns false'. Refute it at one input. -/
def cellcodeTakesWrong : ChangeSpec := { name := "cellcodeTakes", fn := fun _ => fun
  | [d1, d2] => { results := [.lit (.bool false)], args := [d1, d2] }
  | _ => none }
def CellcodeTakesWrongFalsely : Prop := cellcodeTakesRow.holds Try.pinned (OpenSpec.ofChange cellcodeTakesWrong)

/- THE SECOND FORM. 'bulk': how many values and letters a reading holds, each counted each time it is reached (what is shared counts as often as it is met; a slice's spare places count too). A statement '..UptoSaid' is the law's where the arguments, and the package variables that the reading takes, are together of bulk at most 1048576: NARROWER than '..Said'. Prove '..Said' where nothing that the law and all that it calls make is longer than what came in: it says more and counts as full. Else prove '..UptoSaid'. A law counts once. -/
mutual
def uptoBulk {H : Type} : DataW H → Nat
  | .lit (.string bytes) => bytes.length + 1
  | .lit _ => 1
  | .nil => 1
  | .ptr d => uptoBulk d + 1
  | .slice elems spare => uptoBulkAll elems + uptoBulkAll spare + 1
  | .agg parts => uptoBulkAll parts + 1
  | .iface _ d => uptoBulk d + 1
  | .map entries => uptoBulkEntries entries + 1
  | .held _ => 1
def uptoBulkAll {H : Type} : List (DataW H) → Nat
  | [] => 0
  | d :: r => uptoBulk d + uptoBulkAll r
def uptoBulkEntries {H : Type} : List (Lit × DataW H) → Nat
  | [] => 0
  | x :: r => uptoBulkEntry x + uptoBulkEntries r
def uptoBulkEntry {H : Type} : Lit × DataW H → Nat
  | (.string bytes, d) => bytes.length + uptoBulk d + 1
  | (_, d) => uptoBulk d + 1
 end
def uptoSmall : (H : Type) → List (DataW H) → Bool := fun _ ds => decide (uptoBulkAll ds ≤ 1048576)
def OpenSpec.upto (s : _root_.Go.ChangeSpec) : _root_.Go.OpenSpec := { _root_.Go.OpenSpec.ofChange s with cond := some uptoSmall }

/-- 'pitheadlaw25.ArenaAdds', WHERE WHAT IT READS IS OF BULK AT MOST 1048576: true; the input reads as it did. -/
def arenaAddsUptoRow : OpenClaim := { program := "ytnmfbhmnffjfgaa", sum := "ef24e6f4b02176bda703ed2777fae3671fe6a1c041bc4d721d2e2a2fc482a05e", func := "pithead/pitheadlaw25.ArenaAdds", spec := "arenaAdds", unfollowed := true, recurses := true, plainKeys := false, apart := false, narrowed := true }
def ArenaAddsUptoSaid : Prop := arenaAddsUptoRow.holds Try.pinned (OpenSpec.upto arenaAddsSpec)

/-- 'pitheadlaw25.ArenaLoads', WHERE WHAT IT READS IS OF BULK AT MOST 1048576: true; the input reads as it did. -/
def arenaLoadsUptoRow : OpenClaim := { program := "ytnmfbhmnffjfgaa", sum := "ef24e6f4b02176bda703ed2777fae3671fe6a1c041bc4d721d2e2a2fc482a05e", func := "pithead/pitheadlaw25.ArenaLoads", spec := "arenaLoads", unfollowed := true, recurses := true, plainKeys := false, apart := false, narrowed := true }
def ArenaLoadsUptoSaid : Prop := arenaLoadsUptoRow.holds Try.pinned (OpenSpec.upto arenaLoadsSpec)

/-- 'pitheadlaw25.ArenaAhead', WHERE WHAT IT READS IS OF BULK AT MOST 1048576: true; the input reads as it did. -/
def arenaAheadUptoRow : OpenClaim := { program := "ytnmfbhmnffjfgaa", sum := "ef24e6f4b02176bda703ed2777fae3671fe6a1c041bc4d721d2e2a2fc482a05e", func := "pithead/pitheadlaw25.ArenaAhead", spec := "arenaAhead", unfollowed := true, recurses := true, plainKeys := false, apart := false, narrowed := true }
def ArenaAheadUptoSaid : Prop := arenaAheadUptoRow.holds Try.pinned (OpenSpec.upto arenaAheadSpec)

/-- 'pitheadlaw27.LookupAlong', WHERE WHAT IT READS IS OF BULK AT MOST 1048576: true; the input reads as it did. -/
def lookupAlongUptoRow : OpenClaim := { program := "ytnmfbhmnffjfgaa", sum := "ef24e6f4b02176bda703ed2777fae3671fe6a1c041bc4d721d2e2a2fc482a05e", func := "pithead/pitheadlaw27.LookupAlong", spec := "lookupAlong", unfollowed := true, recurses := true, plainKeys := false, apart := false, narrowed := true }
def LookupAlongUptoSaid : Prop := lookupAlongUptoRow.holds Try.pinned (OpenSpec.upto lookupAlongSpec)

/-- 'pitheadlaw30.PairNobody', WHERE WHAT IT READS IS OF BULK AT MOST 1048576: true; the input reads as it did. -/
def pairNobodyUptoRow : OpenClaim := { program := "ytnmfbhmnffjfgaa", sum := "ef24e6f4b02176bda703ed2777fae3671fe6a1c041bc4d721d2e2a2fc482a05e", func := "pithead/pitheadlaw30.PairNobody", spec := "pairNobody", unfollowed := true, recurses := true, plainKeys := false, apart := false, narrowed := true }
def PairNobodyUptoSaid : Prop := pairNobodyUptoRow.holds Try.pinned (OpenSpec.upto pairNobodySpec)

/-- 'pitheadlaw32.CellcodePuts', WHERE WHAT IT READS IS OF BULK AT MOST 1048576: true; the input reads as it did. -/
def cellcodePutsUptoRow : OpenClaim := { program := "ytnmfbhmnffjfgaa", sum := "ef24e6f4b02176bda703ed2777fae3671fe6a1c041bc4d721d2e2a2fc482a05e", func := "pithead/pitheadlaw32.CellcodePuts", spec := "cellcodePuts", inPlace := ["internal/abi.NoEscape"], unfollowed := true, recurses := true, plainKeys := false, apart := false, narrowed := true }
def CellcodePutsUptoSaid : Prop := cellcodePutsUptoRow.holds Try.pinned (OpenSpec.upto cellcodePutsSpec)

/-- 'pitheadlaw32.CellcodeTakes', WHERE WHAT IT READS IS OF BULK AT MOST 1048576: true; the input reads as it did. -/
def cellcodeTakesUptoRow : OpenClaim := { program := "ytnmfbhmnffjfgaa", sum := "ef24e6f4b02176bda703ed2777fae3671fe6a1c041bc4d721d2e2a2fc482a05e", func := "pithead/pitheadlaw32.CellcodeTakes", spec := "cellcodeTakes", inPlace := ["internal/abi.NoEscape"], unfollowed := true, recurses := true, plainKeys := false, apart := false, narrowed := true }
def CellcodeTakesUptoSaid : Prop := cellcodeTakesUptoRow.holds Try.pinned (OpenSpec.upto cellcodeTakesSpec)

end Rows
end Go.Proofs.Ytnmfbhmnffjfgaa
