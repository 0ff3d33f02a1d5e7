/-
  No cell of these rows narrows 'for every input' (looked for: loops, veiled, ifaces, maps, wideKeys, modest, calm, conditions, laid).
  DERIVED. THE GIVEN ROWS OF THIS SEAT. 15 by the template 'for every input the law returns true; each argument reads behind the call as it read before'; 0 by the template 'total and deterministic' (their statements: YtkajcbjacjfhnaaTotals.lean).
  GIVEN WITH THE SEED: the statements are not yours to turn. If you find one false, say at which input.
  Laid BY PROGRAM, IN A SANDBOX (cutbox-rows.mjs): the forced cells as the released guide's own fill.sh prints them over the translation b96d50537aa1e13a… (all of the seat's roots in one cut). By AI agents, Wed Nov 11 2026. No macro, syntax, notation, axiom, sorry.
-/
import Derived.Test.YtkajcbjacjfhnaaChecked
import GoSem.Claim
import GoSem.ClaimJoined
import GoSem.ClaimMapViews
import Derived.JoinedTies
import Derived.KernelRfl
namespace Go.Proofs.Ytkajcbjacjfhnaa
/- THE CELL 'sum', in the pinned program and in every row, IS THE sha256 OF THE DUMP (.gsa) THAT YtkajcbjacjfhnaaProg.lean LOADS. Nothing in Lean hashes anything: it is a label: what it is worth is what the hold of that sum in a sandbox is worth. -/
noncomputable def Try.pinned : Pinned := { name := "ytkajcbjacjfhnaa", sum := "b96d50537aa1e13a42be7fe3b6e76f53d5cb493340f9a78eac01164e3e18dd68", checked := Try.checked }
namespace Rows
def none {H : Type} : Left H := { results := [], args := [] }

/-- 'tranklaw03.SkinGrades': WHATEVER THE INPUT: true; the input reads as it did. -/
def skinGradesSpec : ChangeSpec := { name := "skinGrades", fn := fun _ => fun
  | [d1, d2] => { results := [.lit (.bool true)], args := [d1, d2] }
  | _ => none }
def skinGradesRow : OpenClaim := { program := "ytkajcbjacjfhnaa", sum := "b96d50537aa1e13a42be7fe3b6e76f53d5cb493340f9a78eac01164e3e18dd68", func := "trank/tranklaw03.SkinGrades", spec := "skinGrades", unfollowed := true, recurses := true, plainKeys := false, apart := false }
def SkinGradesSaid : Prop := skinGradesRow.holds Try.pinned (OpenSpec.ofChange skinGradesSpec)

/-- ITS FALSE NEIGHBOUR: 'it returns false'. Refute it at one input. -/
def skinGradesWrong : ChangeSpec := { name := "skinGrades", fn := fun _ => fun
  | [d1, d2] => { results := [.lit (.bool false)], args := [d1, d2] }
  | _ => none }
def SkinGradesWrongFalsely : Prop := skinGradesRow.holds Try.pinned (OpenSpec.ofChange skinGradesWrong)

/-- 'tranklaw03.SkinCounts': WHATEVER THE INPUT: true; the input reads as it did. -/
def skinCountsSpec : ChangeSpec := { name := "skinCounts", fn := fun _ => fun
  | [d1, d2, d3] => { results := [.lit (.bool true)], args := [d1, d2, d3] }
  | _ => none }
def skinCountsRow : OpenClaim := { program := "ytkajcbjacjfhnaa", sum := "b96d50537aa1e13a42be7fe3b6e76f53d5cb493340f9a78eac01164e3e18dd68", func := "trank/tranklaw03.SkinCounts", spec := "skinCounts", unfollowed := true, recurses := true, plainKeys := false, apart := false }
def SkinCountsSaid : Prop := skinCountsRow.holds Try.pinned (OpenSpec.ofChange skinCountsSpec)

/-- ITS FALSE NEIGHBOUR: 'it returns false'. Refute it at one input. -/
def skinCountsWrong : ChangeSpec := { name := "skinCounts", fn := fun _ => fun
  | [d1, d2, d3] => { results := [.lit (.bool false)], args := [d1, d2, d3] }
  | _ => none }
def SkinCountsWrongFalsely : Prop := skinCountsRow.holds Try.pinned (OpenSpec.ofChange skinCountsWrong)

/-- 'tranklaw03.SkinNobody': WHATEVER THE INPUT: true; the input reads as it did. -/
def skinNobodySpec : ChangeSpec := { name := "skinNobody", fn := fun _ => fun
  | [d] => { results := [.lit (.bool true)], args := [d] }
  | _ => none }
def skinNobodyRow : OpenClaim := { program := "ytkajcbjacjfhnaa", sum := "b96d50537aa1e13a42be7fe3b6e76f53d5cb493340f9a78eac01164e3e18dd68", func := "trank/tranklaw03.SkinNobody", spec := "skinNobody", unfollowed := true, recurses := true, plainKeys := false, apart := false }
def SkinNobodySaid : Prop := skinNobodyRow.holds Try.pinned (OpenSpec.ofChange skinNobodySpec)

/-- ITS FALSE NEIGHBOUR: 'it returns false'. Refute it at one input. -/
def skinNobodyWrong : ChangeSpec := { name := "skinNobody", fn := fun _ => fun
  | [d] => { results := [.lit (.bool false)], args := [d] }
  | _ => none }
def SkinNobodyWrongFalsely : Prop := skinNobodyRow.holds Try.pinned (OpenSpec.ofChange skinNobodyWrong)

/-- 'tranklaw03.SkinTurns': WHATEVER THE INPUT: true; the input reads as it did. -/
def skinTurnsSpec : ChangeSpec := { name := "skinTurns", fn := fun _ => fun
  | [d1, d2] => { results := [.lit (.bool true)], args := [d1, d2] }
  | _ => none }
def skinTurnsRow : OpenClaim := { program := "ytkajcbjacjfhnaa", sum := "b96d50537aa1e13a42be7fe3b6e76f53d5cb493340f9a78eac01164e3e18dd68", func := "trank/tranklaw03.SkinTurns", spec := "skinTurns", unfollowed := true, recurses := true, plainKeys := false, apart := false }
def SkinTurnsSaid : Prop := skinTurnsRow.holds Try.pinned (OpenSpec.ofChange skinTurnsSpec)

/-- ITS FALSE NEIGHBOUR: 'it returns false'. Refute it at one input. -/
def skinTurnsWrong : ChangeSpec := { name := "skinTurns", fn := fun _ => fun
  | [d1, d2] => { results := [.lit (.bool false)], args := [d1, d2] }
  | _ => none }
def SkinTurnsWrongFalsely : Prop := skinTurnsRow.holds Try.pinned (OpenSpec.ofChange skinTurnsWrong)

/-- 'tranklaw03.SkinCrops': WHATEVER THE INPUT: true; the input reads as it did. -/
def skinCropsSpec : ChangeSpec := { name := "skinCrops", fn := fun _ => fun
  | [d1, d2] => { results := [.lit (.bool true)], args := [d1, d2] }
  | _ => none }
def skinCropsRow : OpenClaim := { program := "ytkajcbjacjfhnaa", sum := "b96d50537aa1e13a42be7fe3b6e76f53d5cb493340f9a78eac01164e3e18dd68", func := "trank/tranklaw03.SkinCrops", spec := "skinCrops", unfollowed := true, recurses := true, plainKeys := false, apart := false }
def SkinCropsSaid : Prop := skinCropsRow.holds Try.pinned (OpenSpec.ofChange skinCropsSpec)

/-- ITS FALSE NEIGHBOUR: 'it returns false'. Refute it at one input. -/
def skinCropsWrong : ChangeSpec := { name := "skinCrops", fn := fun _ => fun
  | [d1, d2] => { results := [.lit (.bool false)], args := [d1, d2] }
  | _ => none }
def SkinCropsWrongFalsely : Prop := skinCropsRow.holds Try.pinned (OpenSpec.ofChange skinCropsWrong)

/-- 'tranklaw03.SkinErodes': WHATEVER THE INPUT: true; the input reads as it did. -/
def skinErodesSpec : ChangeSpec := { name := "skinErodes", fn := fun _ => fun
  | [d1, d2] => { results := [.lit (.bool true)], args := [d1, d2] }
  | _ => none }
def skinErodesRow : OpenClaim := { program := "ytkajcbjacjfhnaa", sum := "b96d50537aa1e13a42be7fe3b6e76f53d5cb493340f9a78eac01164e3e18dd68", func := "trank/tranklaw03.SkinErodes", spec := "skinErodes", unfollowed := true, recurses := true, plainKeys := false, apart := false }
def SkinErodesSaid : Prop := skinErodesRow.holds Try.pinned (OpenSpec.ofChange skinErodesSpec)

/-- ITS FALSE NEIGHBOUR: 'it returns false'. Refute it at one input. -/
def skinErodesWrong : ChangeSpec := { name := "skinErodes", fn := fun _ => fun
  | [d1, d2] => { results := [.lit (.bool false)], args := [d1, d2] }
  | _ => none }
def SkinErodesWrongFalsely : Prop := skinErodesRow.holds Try.pinned (OpenSpec.ofChange skinErodesWrong)

/-- 'tranklaw03.SkinOpened': WHATEVER THE INPUT: true; the input reads as it did. -/
def skinOpenedSpec : ChangeSpec := { name := "skinOpened", fn := fun _ => fun
  | [d1, d2, d3] => { results := [.lit (.bool true)], args := [d1, d2, d3] }
  | _ => none }
def skinOpenedRow : OpenClaim := { program := "ytkajcbjacjfhnaa", sum := "b96d50537aa1e13a42be7fe3b6e76f53d5cb493340f9a78eac01164e3e18dd68", func := "trank/tranklaw03.SkinOpened", spec := "skinOpened", unfollowed := true, recurses := true, plainKeys := false, apart := false }
def SkinOpenedSaid : Prop := skinOpenedRow.holds Try.pinned (OpenSpec.ofChange skinOpenedSpec)

/-- ITS FALSE NEIGHBOUR: 'it returns false'. Refute it at one input. -/
def skinOpenedWrong : ChangeSpec := { name := "skinOpened", fn := fun _ => fun
  | [d1, d2, d3] => { results := [.lit (.bool false)], args := [d1, d2, d3] }
  | _ => none }
def SkinOpenedWrongFalsely : Prop := skinOpenedRow.holds Try.pinned (OpenSpec.ofChange skinOpenedWrong)

/-- 'tranklaw03.SkinParts': WHATEVER THE INPUT: true; the input reads as it did. -/
def skinPartsSpec : ChangeSpec := { name := "skinParts", fn := fun _ => fun
  | [d1, d2] => { results := [.lit (.bool true)], args := [d1, d2] }
  | _ => none }
def skinPartsRow : OpenClaim := { program := "ytkajcbjacjfhnaa", sum := "b96d50537aa1e13a42be7fe3b6e76f53d5cb493340f9a78eac01164e3e18dd68", func := "trank/tranklaw03.SkinParts", spec := "skinParts", unfollowed := true, recurses := true, plainKeys := false, apart := false }
def SkinPartsSaid : Prop := skinPartsRow.holds Try.pinned (OpenSpec.ofChange skinPartsSpec)

/-- ITS FALSE NEIGHBOUR: 'it returns false'. Refute it at one input. -/
def skinPartsWrong : ChangeSpec := { name := "skinParts", fn := fun _ => fun
  | [d1, d2] => { results := [.lit (.bool false)], args := [d1, d2] }
  | _ => none }
def SkinPartsWrongFalsely : Prop := skinPartsRow.holds Try.pinned (OpenSpec.ofChange skinPartsWrong)

/-- 'tranklaw03.SkinWhole': WHATEVER THE INPUT: true; the input reads as it did. -/
def skinWholeSpec : ChangeSpec := { name := "skinWhole", fn := fun _ => fun
  | [d1, d2] => { results := [.lit (.bool true)], args := [d1, d2] }
  | _ => none }
def skinWholeRow : OpenClaim := { program := "ytkajcbjacjfhnaa", sum := "b96d50537aa1e13a42be7fe3b6e76f53d5cb493340f9a78eac01164e3e18dd68", func := "trank/tranklaw03.SkinWhole", spec := "skinWhole", unfollowed := true, recurses := true, plainKeys := false, apart := false }
def SkinWholeSaid : Prop := skinWholeRow.holds Try.pinned (OpenSpec.ofChange skinWholeSpec)

/-- ITS FALSE NEIGHBOUR: 'it returns false'. Refute it at one input. -/
def skinWholeWrong : ChangeSpec := { name := "skinWhole", fn := fun _ => fun
  | [d1, d2] => { results := [.lit (.bool false)], args := [d1, d2] }
  | _ => none }
def SkinWholeWrongFalsely : Prop := skinWholeRow.holds Try.pinned (OpenSpec.ofChange skinWholeWrong)

/-- 'tranklaw03.SkinLargest': WHATEVER THE INPUT: true; the input reads as it did. -/
def skinLargestSpec : ChangeSpec := { name := "skinLargest", fn := fun _ => fun
  | [d1, d2] => { results := [.lit (.bool true)], args := [d1, d2] }
  | _ => none }
def skinLargestRow : OpenClaim := { program := "ytkajcbjacjfhnaa", sum := "b96d50537aa1e13a42be7fe3b6e76f53d5cb493340f9a78eac01164e3e18dd68", func := "trank/tranklaw03.SkinLargest", spec := "skinLargest", unfollowed := true, recurses := true, plainKeys := false, apart := false }
def SkinLargestSaid : Prop := skinLargestRow.holds Try.pinned (OpenSpec.ofChange skinLargestSpec)

/-- ITS FALSE NEIGHBOUR: 'it returns false'. Refute it at one input. -/
def skinLargestWrong : ChangeSpec := { name := "skinLargest", fn := fun _ => fun
  | [d1, d2] => { results := [.lit (.bool false)], args := [d1, d2] }
  | _ => none }
def SkinLargestWrongFalsely : Prop := skinLargestRow.holds Try.pinned (OpenSpec.ofChange skinLargestWrong)

/-- 'tranklaw03.SkinMaximal': WHATEVER THE INPUT: true; the input reads as it did. -/
def skinMaximalSpec : ChangeSpec := { name := "skinMaximal", fn := fun _ => fun
  | [d1, d2] => { results := [.lit (.bool true)], args := [d1, d2] }
  | _ => none }
def skinMaximalRow : OpenClaim := { program := "ytkajcbjacjfhnaa", sum := "b96d50537aa1e13a42be7fe3b6e76f53d5cb493340f9a78eac01164e3e18dd68", func := "trank/tranklaw03.SkinMaximal", spec := "skinMaximal", unfollowed := true, recurses := true, plainKeys := false, apart := false }
def SkinMaximalSaid : Prop := skinMaximalRow.holds Try.pinned (OpenSpec.ofChange skinMaximalSpec)

/-- ITS FALSE NEIGHBOUR: 'it returns false'. Refute it at one input. -/
def skinMaximalWrong : ChangeSpec := { name := "skinMaximal", fn := fun _ => fun
  | [d1, d2] => { results := [.lit (.bool false)], args := [d1, d2] }
  | _ => none }
def SkinMaximalWrongFalsely : Prop := skinMaximalRow.holds Try.pinned (OpenSpec.ofChange skinMaximalWrong)

/-- 'tranklaw03.SkinWithin': WHATEVER THE INPUT: true; the input reads as it did. -/
def skinWithinSpec : ChangeSpec := { name := "skinWithin", fn := fun _ => fun
  | [d1, d2, d3] => { results := [.lit (.bool true)], args := [d1, d2, d3] }
  | _ => none }
def skinWithinRow : OpenClaim := { program := "ytkajcbjacjfhnaa", sum := "b96d50537aa1e13a42be7fe3b6e76f53d5cb493340f9a78eac01164e3e18dd68", func := "trank/tranklaw03.SkinWithin", spec := "skinWithin", unfollowed := true, recurses := true, plainKeys := false, apart := false }
def SkinWithinSaid : Prop := skinWithinRow.holds Try.pinned (OpenSpec.ofChange skinWithinSpec)

/-- ITS FALSE NEIGHBOUR: 'it returns false'. Refute it at one input. -/
def skinWithinWrong : ChangeSpec := { name := "skinWithin", fn := fun _ => fun
  | [d1, d2, d3] => { results := [.lit (.bool false)], args := [d1, d2, d3] }
  | _ => none }
def SkinWithinWrongFalsely : Prop := skinWithinRow.holds Try.pinned (OpenSpec.ofChange skinWithinWrong)

/-- 'tranklaw03.SkinFewest': WHATEVER THE INPUT: true; the input reads as it did. -/
def skinFewestSpec : ChangeSpec := { name := "skinFewest", fn := fun _ => fun
  | [d1, d2] => { results := [.lit (.bool true)], args := [d1, d2] }
  | _ => none }
def skinFewestRow : OpenClaim := { program := "ytkajcbjacjfhnaa", sum := "b96d50537aa1e13a42be7fe3b6e76f53d5cb493340f9a78eac01164e3e18dd68", func := "trank/tranklaw03.SkinFewest", spec := "skinFewest", unfollowed := true, recurses := true, plainKeys := false, apart := false }
def SkinFewestSaid : Prop := skinFewestRow.holds Try.pinned (OpenSpec.ofChange skinFewestSpec)

/-- ITS FALSE NEIGHBOUR: 'it returns false'. Refute it at one input. -/
def skinFewestWrong : ChangeSpec := { name := "skinFewest", fn := fun _ => fun
  | [d1, d2] => { results := [.lit (.bool false)], args := [d1, d2] }
  | _ => none }
def SkinFewestWrongFalsely : Prop := skinFewestRow.holds Try.pinned (OpenSpec.ofChange skinFewestWrong)

/-- 'tranklaw03.SkinLeast': WHATEVER THE INPUT: true; the input reads as it did. -/
def skinLeastSpec : ChangeSpec := { name := "skinLeast", fn := fun _ => fun
  | [d1, d2] => { results := [.lit (.bool true)], args := [d1, d2] }
  | _ => none }
def skinLeastRow : OpenClaim := { program := "ytkajcbjacjfhnaa", sum := "b96d50537aa1e13a42be7fe3b6e76f53d5cb493340f9a78eac01164e3e18dd68", func := "trank/tranklaw03.SkinLeast", spec := "skinLeast", unfollowed := true, recurses := true, plainKeys := false, apart := false }
def SkinLeastSaid : Prop := skinLeastRow.holds Try.pinned (OpenSpec.ofChange skinLeastSpec)

/-- ITS FALSE NEIGHBOUR: 'it returns false'. Refute it at one input. -/
def skinLeastWrong : ChangeSpec := { name := "skinLeast", fn := fun _ => fun
  | [d1, d2] => { results := [.lit (.bool false)], args := [d1, d2] }
  | _ => none }
def SkinLeastWrongFalsely : Prop := skinLeastRow.holds Try.pinned (OpenSpec.ofChange skinLeastWrong)

/-- 'tranklaw03.SkinAround': WHATEVER THE INPUT: true; the input reads as it did. -/
def skinAroundSpec : ChangeSpec := { name := "skinAround", fn := fun _ => fun
  | [d1, d2, d3] => { results := [.lit (.bool true)], args := [d1, d2, d3] }
  | _ => none }
def skinAroundRow : OpenClaim := { program := "ytkajcbjacjfhnaa", sum := "b96d50537aa1e13a42be7fe3b6e76f53d5cb493340f9a78eac01164e3e18dd68", func := "trank/tranklaw03.SkinAround", spec := "skinAround", unfollowed := true, recurses := true, plainKeys := false, apart := false }
def SkinAroundSaid : Prop := skinAroundRow.holds Try.pinned (OpenSpec.ofChange skinAroundSpec)

/-- ITS FALSE NEIGHBOUR: 'it returns false'. Refute it at one input. -/
def skinAroundWrong : ChangeSpec := { name := "skinAround", fn := fun _ => fun
  | [d1, d2, d3] => { results := [.lit (.bool false)], args := [d1, d2, d3] }
  | _ => none }
def SkinAroundWrongFalsely : Prop := skinAroundRow.holds Try.pinned (OpenSpec.ofChange skinAroundWrong)

/- THE SECOND FORM. 'bulk': how many values and letters a reading holds, each counted each time it is reached (what is shared counts as often as it is met; a slice's spare places count too). A statement '..UptoSaid' is the law's where the arguments, and the package variables that the reading takes, are together of bulk at most 1048576: NARROWER than '..Said'. Prove '..Said' where nothing that the law and all that it calls make is longer than what came in: it says more and counts as full. Else prove '..UptoSaid'. A law counts once. -/
mutual
def uptoBulk {H : Type} : DataW H → Nat
  | .lit (.string bytes) => bytes.length + 1
  | .lit _ => 1
  | .nil => 1
  | .ptr d => uptoBulk d + 1
  | .slice elems spare => uptoBulkAll elems + uptoBulkAll spare + 1
  | .agg parts => uptoBulkAll parts + 1
  | .iface _ d => uptoBulk d + 1
  | .map entries => uptoBulkEntries entries + 1
  | .held _ => 1
def uptoBulkAll {H : Type} : List (DataW H) → Nat
  | [] => 0
  | d :: r => uptoBulk d + uptoBulkAll r
def uptoBulkEntries {H : Type} : List (Lit × DataW H) → Nat
  | [] => 0
  | x :: r => uptoBulkEntry x + uptoBulkEntries r
def uptoBulkEntry {H : Type} : Lit × DataW H → Nat
  | (.string bytes, d) => bytes.length + uptoBulk d + 1
  | (_, d) => uptoBulk d + 1
 end
def uptoSmall : (H : Type) → List (DataW H) → Bool := fun _ ds => decide (uptoBulkAll ds ≤ 1048576)
def OpenSpec.upto (s : _root_.Go.ChangeSpec) : _root_.Go.OpenSpec := { _root_.Go.OpenSpec.ofChange s with cond := some uptoSmall }

/-- 'tranklaw03.SkinGrades', WHERE WHAT IT READS IS OF BULK AT MOST 1048576: true; the input reads as it did. -/
def skinGradesUptoRow : OpenClaim := { program := "ytkajcbjacjfhnaa", sum := "b96d50537aa1e13a42be7fe3b6e76f53d5cb493340f9a78eac01164e3e18dd68", func := "trank/tranklaw03.SkinGrades", spec := "skinGrades", unfollowed := true, recurses := true, plainKeys := false, apart := false, narrowed := true }
def SkinGradesUptoSaid : Prop := skinGradesUptoRow.holds Try.pinned (OpenSpec.upto skinGradesSpec)

/-- 'tranklaw03.SkinCounts', WHERE WHAT IT READS IS OF BULK AT MOST 1048576: true; the input reads as it did. -/
def skinCountsUptoRow : OpenClaim := { program := "ytkajcbjacjfhnaa", sum := "b96d50537aa1e13a42be7fe3b6e76f53d5cb493340f9a78eac01164e3e18dd68", func := "trank/tranklaw03.SkinCounts", spec := "skinCounts", unfollowed := true, recurses := true, plainKeys := false, apart := false, narrowed := true }
def SkinCountsUptoSaid : Prop := skinCountsUptoRow.holds Try.pinned (OpenSpec.upto skinCountsSpec)

/-- 'tranklaw03.SkinNobody', WHERE WHAT IT READS IS OF BULK AT MOST 1048576: true; the input reads as it did. -/
def skinNobodyUptoRow : OpenClaim := { program := "ytkajcbjacjfhnaa", sum := "b96d50537aa1e13a42be7fe3b6e76f53d5cb493340f9a78eac01164e3e18dd68", func := "trank/tranklaw03.SkinNobody", spec := "skinNobody", unfollowed := true, recurses := true, plainKeys := false, apart := false, narrowed := true }
def SkinNobodyUptoSaid : Prop := skinNobodyUptoRow.holds Try.pinned (OpenSpec.upto skinNobodySpec)

/-- 'tranklaw03.SkinTurns', WHERE WHAT IT READS IS OF BULK AT MOST 1048576: true; the input reads as it did. -/
def skinTurnsUptoRow : OpenClaim := { program := "ytkajcbjacjfhnaa", sum := "b96d50537aa1e13a42be7fe3b6e76f53d5cb493340f9a78eac01164e3e18dd68", func := "trank/tranklaw03.SkinTurns", spec := "skinTurns", unfollowed := true, recurses := true, plainKeys := false, apart := false, narrowed := true }
def SkinTurnsUptoSaid : Prop := skinTurnsUptoRow.holds Try.pinned (OpenSpec.upto skinTurnsSpec)

/-- 'tranklaw03.SkinCrops', WHERE WHAT IT READS IS OF BULK AT MOST 1048576: true; the input reads as it did. -/
def skinCropsUptoRow : OpenClaim := { program := "ytkajcbjacjfhnaa", sum := "b96d50537aa1e13a42be7fe3b6e76f53d5cb493340f9a78eac01164e3e18dd68", func := "trank/tranklaw03.SkinCrops", spec := "skinCrops", unfollowed := true, recurses := true, plainKeys := false, apart := false, narrowed := true }
def SkinCropsUptoSaid : Prop := skinCropsUptoRow.holds Try.pinned (OpenSpec.upto skinCropsSpec)

/-- 'tranklaw03.SkinErodes', WHERE WHAT IT READS IS OF BULK AT MOST 1048576: true; the input reads as it did. -/
def skinErodesUptoRow : OpenClaim := { program := "ytkajcbjacjfhnaa", sum := "b96d50537aa1e13a42be7fe3b6e76f53d5cb493340f9a78eac01164e3e18dd68", func := "trank/tranklaw03.SkinErodes", spec := "skinErodes", unfollowed := true, recurses := true, plainKeys := false, apart := false, narrowed := true }
def SkinErodesUptoSaid : Prop := skinErodesUptoRow.holds Try.pinned (OpenSpec.upto skinErodesSpec)

/-- 'tranklaw03.SkinOpened', WHERE WHAT IT READS IS OF BULK AT MOST 1048576: true; the input reads as it did. -/
def skinOpenedUptoRow : OpenClaim := { program := "ytkajcbjacjfhnaa", sum := "b96d50537aa1e13a42be7fe3b6e76f53d5cb493340f9a78eac01164e3e18dd68", func := "trank/tranklaw03.SkinOpened", spec := "skinOpened", unfollowed := true, recurses := true, plainKeys := false, apart := false, narrowed := true }
def SkinOpenedUptoSaid : Prop := skinOpenedUptoRow.holds Try.pinned (OpenSpec.upto skinOpenedSpec)

/-- 'tranklaw03.SkinParts', WHERE WHAT IT READS IS OF BULK AT MOST 1048576: true; the input reads as it did. -/
def skinPartsUptoRow : OpenClaim := { program := "ytkajcbjacjfhnaa", sum := "b96d50537aa1e13a42be7fe3b6e76f53d5cb493340f9a78eac01164e3e18dd68", func := "trank/tranklaw03.SkinParts", spec := "skinParts", unfollowed := true, recurses := true, plainKeys := false, apart := false, narrowed := true }
def SkinPartsUptoSaid : Prop := skinPartsUptoRow.holds Try.pinned (OpenSpec.upto skinPartsSpec)

/-- 'tranklaw03.SkinWhole', WHERE WHAT IT READS IS OF BULK AT MOST 1048576: true; the input reads as it did. -/
def skinWholeUptoRow : OpenClaim := { program := "ytkajcbjacjfhnaa", sum := "b96d50537aa1e13a42be7fe3b6e76f53d5cb493340f9a78eac01164e3e18dd68", func := "trank/tranklaw03.SkinWhole", spec := "skinWhole", unfollowed := true, recurses := true, plainKeys := false, apart := false, narrowed := true }
def SkinWholeUptoSaid : Prop := skinWholeUptoRow.holds Try.pinned (OpenSpec.upto skinWholeSpec)

/-- 'tranklaw03.SkinLargest', WHERE WHAT IT READS IS OF BULK AT MOST 1048576: true; the input reads as it did. -/
def skinLargestUptoRow : OpenClaim := { program := "ytkajcbjacjfhnaa", sum := "b96d50537aa1e13a42be7fe3b6e76f53d5cb493340f9a78eac01164e3e18dd68", func := "trank/tranklaw03.SkinLargest", spec := "skinLargest", unfollowed := true, recurses := true, plainKeys := false, apart := false, narrowed := true }
def SkinLargestUptoSaid : Prop := skinLargestUptoRow.holds Try.pinned (OpenSpec.upto skinLargestSpec)

/-- 'tranklaw03.SkinMaximal', WHERE WHAT IT READS IS OF BULK AT MOST 1048576: true; the input reads as it did. -/
def skinMaximalUptoRow : OpenClaim := { program := "ytkajcbjacjfhnaa", sum := "b96d50537aa1e13a42be7fe3b6e76f53d5cb493340f9a78eac01164e3e18dd68", func := "trank/tranklaw03.SkinMaximal", spec := "skinMaximal", unfollowed := true, recurses := true, plainKeys := false, apart := false, narrowed := true }
def SkinMaximalUptoSaid : Prop := skinMaximalUptoRow.holds Try.pinned (OpenSpec.upto skinMaximalSpec)

/-- 'tranklaw03.SkinWithin', WHERE WHAT IT READS IS OF BULK AT MOST 1048576: true; the input reads as it did. -/
def skinWithinUptoRow : OpenClaim := { program := "ytkajcbjacjfhnaa", sum := "b96d50537aa1e13a42be7fe3b6e76f53d5cb493340f9a78eac01164e3e18dd68", func := "trank/tranklaw03.SkinWithin", spec := "skinWithin", unfollowed := true, recurses := true, plainKeys := false, apart := false, narrowed := true }
def SkinWithinUptoSaid : Prop := skinWithinUptoRow.holds Try.pinned (OpenSpec.upto skinWithinSpec)

/-- 'tranklaw03.SkinFewest', WHERE WHAT IT READS IS OF BULK AT MOST 1048576: true; the input reads as it did. -/
def skinFewestUptoRow : OpenClaim := { program := "ytkajcbjacjfhnaa", sum := "b96d50537aa1e13a42be7fe3b6e76f53d5cb493340f9a78eac01164e3e18dd68", func := "trank/tranklaw03.SkinFewest", spec := "skinFewest", unfollowed := true, recurses := true, plainKeys := false, apart := false, narrowed := true }
def SkinFewestUptoSaid : Prop := skinFewestUptoRow.holds Try.pinned (OpenSpec.upto skinFewestSpec)

/-- 'tranklaw03.SkinLeast', WHERE WHAT IT READS IS OF BULK AT MOST 1048576: true; the input reads as it did. -/
def skinLeastUptoRow : OpenClaim := { program := "ytkajcbjacjfhnaa", sum := "b96d50537aa1e13a42be7fe3b6e76f53d5cb493340f9a78eac01164e3e18dd68", func := "trank/tranklaw03.SkinLeast", spec := "skinLeast", unfollowed := true, recurses := true, plainKeys := false, apart := false, narrowed := true }
def SkinLeastUptoSaid : Prop := skinLeastUptoRow.holds Try.pinned (OpenSpec.upto skinLeastSpec)

/-- 'tranklaw03.SkinAround', WHERE WHAT IT READS IS OF BULK AT MOST 1048576: true; the input reads as it did. -/
def skinAroundUptoRow : OpenClaim := { program := "ytkajcbjacjfhnaa", sum := "b96d50537aa1e13a42be7fe3b6e76f53d5cb493340f9a78eac01164e3e18dd68", func := "trank/tranklaw03.SkinAround", spec := "skinAround", unfollowed := true, recurses := true, plainKeys := false, apart := false, narrowed := true }
def SkinAroundUptoSaid : Prop := skinAroundUptoRow.holds Try.pinned (OpenSpec.upto skinAroundSpec)

end Rows
end Go.Proofs.Ytkajcbjacjfhnaa
