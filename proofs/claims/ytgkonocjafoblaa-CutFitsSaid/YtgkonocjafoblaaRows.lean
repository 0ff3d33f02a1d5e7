/-
  No cell of these rows narrows 'for every input' (looked for: loops, veiled, ifaces, maps, wideKeys, modest, calm, conditions, laid).
  DERIVED. THE GIVEN ROWS OF THIS SEAT. 16 by the template 'for every input the law returns true; each argument reads behind the call as it read before'; 0 by the template 'total and deterministic' (their statements: YtgkonocjafoblaaTotals.lean).
  GIVEN WITH THE SEED: the statements are not yours to turn. If you find one false, say at which input.
  Laid BY PROGRAM, IN A SANDBOX (cutbox-rows.mjs): the forced cells as the released guide's own fill.sh prints them over the translation 3b3cb67d95c471f8… (all of the seat's roots in one cut). By AI agents, Wed Nov 11 2026. No macro, syntax, notation, axiom, sorry.
-/
import Derived.Test.YtgkonocjafoblaaChecked
import GoSem.Claim
import GoSem.ClaimJoined
import GoSem.ClaimMapViews
import Derived.JoinedTies
import Derived.KernelRfl
namespace Go.Proofs.Ytgkonocjafoblaa
/- THE CELL 'sum', in the pinned program and in every row, IS THE sha256 OF THE DUMP (.gsa) THAT YtgkonocjafoblaaProg.lean LOADS. Nothing in Lean hashes anything: it is a label: what it is worth is what the hold of that sum in a sandbox is worth. -/
noncomputable def Try.pinned : Pinned := { name := "ytgkonocjafoblaa", sum := "3b3cb67d95c471f8d9a0ea8d7b002bb65add1cc8e81a5e2da93fe38d1ee3e728", checked := Try.checked }
namespace Rows
def none {H : Type} : Left H := { results := [], args := [] }

/-- 'tranklaw05.CutRects': WHATEVER THE INPUT: true; the input reads as it did. -/
def cutRectsSpec : ChangeSpec := { name := "cutRects", fn := fun _ => fun
  | [d1, d2, d3] => { results := [.lit (.bool true)], args := [d1, d2, d3] }
  | _ => none }
def cutRectsRow : OpenClaim := { program := "ytgkonocjafoblaa", sum := "3b3cb67d95c471f8d9a0ea8d7b002bb65add1cc8e81a5e2da93fe38d1ee3e728", func := "trank/tranklaw05.CutRects", spec := "cutRects", unfollowed := true, recurses := true, plainKeys := false, apart := false }
def CutRectsSaid : Prop := cutRectsRow.holds Try.pinned (OpenSpec.ofChange cutRectsSpec)

/-- ITS FALSE NEIGHBOUR: 'it returns false'. Refute it at one input. -/
def cutRectsWrong : ChangeSpec := { name := "cutRects", fn := fun _ => fun
  | [d1, d2, d3] => { results := [.lit (.bool false)], args := [d1, d2, d3] }
  | _ => none }
def CutRectsWrongFalsely : Prop := cutRectsRow.holds Try.pinned (OpenSpec.ofChange cutRectsWrong)

/-- 'tranklaw05.CutBest': WHATEVER THE INPUT: true; the input reads as it did. -/
def cutBestSpec : ChangeSpec := { name := "cutBest", fn := fun _ => fun
  | [d1, d2] => { results := [.lit (.bool true)], args := [d1, d2] }
  | _ => none }
def cutBestRow : OpenClaim := { program := "ytgkonocjafoblaa", sum := "3b3cb67d95c471f8d9a0ea8d7b002bb65add1cc8e81a5e2da93fe38d1ee3e728", func := "trank/tranklaw05.CutBest", spec := "cutBest", unfollowed := true, recurses := true, plainKeys := false, apart := false }
def CutBestSaid : Prop := cutBestRow.holds Try.pinned (OpenSpec.ofChange cutBestSpec)

/-- ITS FALSE NEIGHBOUR: 'it returns false'. Refute it at one input. -/
def cutBestWrong : ChangeSpec := { name := "cutBest", fn := fun _ => fun
  | [d1, d2] => { results := [.lit (.bool false)], args := [d1, d2] }
  | _ => none }
def CutBestWrongFalsely : Prop := cutBestRow.holds Try.pinned (OpenSpec.ofChange cutBestWrong)

/-- 'tranklaw05.CutReads': WHATEVER THE INPUT: true; the input reads as it did. -/
def cutReadsSpec : ChangeSpec := { name := "cutReads", fn := fun _ => fun
  | [d1, d2, d3] => { results := [.lit (.bool true)], args := [d1, d2, d3] }
  | _ => none }
def cutReadsRow : OpenClaim := { program := "ytgkonocjafoblaa", sum := "3b3cb67d95c471f8d9a0ea8d7b002bb65add1cc8e81a5e2da93fe38d1ee3e728", func := "trank/tranklaw05.CutReads", spec := "cutReads", unfollowed := true, recurses := true, plainKeys := false, apart := false }
def CutReadsSaid : Prop := cutReadsRow.holds Try.pinned (OpenSpec.ofChange cutReadsSpec)

/-- ITS FALSE NEIGHBOUR: 'it returns false'. Refute it at one input. -/
def cutReadsWrong : ChangeSpec := { name := "cutReads", fn := fun _ => fun
  | [d1, d2, d3] => { results := [.lit (.bool false)], args := [d1, d2, d3] }
  | _ => none }
def CutReadsWrongFalsely : Prop := cutReadsRow.holds Try.pinned (OpenSpec.ofChange cutReadsWrong)

/-- 'tranklaw05.CutPlans': WHATEVER THE INPUT: true; the input reads as it did. -/
def cutPlansSpec : ChangeSpec := { name := "cutPlans", fn := fun _ => fun
  | [d1, d2] => { results := [.lit (.bool true)], args := [d1, d2] }
  | _ => none }
def cutPlansRow : OpenClaim := { program := "ytgkonocjafoblaa", sum := "3b3cb67d95c471f8d9a0ea8d7b002bb65add1cc8e81a5e2da93fe38d1ee3e728", func := "trank/tranklaw05.CutPlans", spec := "cutPlans", unfollowed := true, recurses := true, plainKeys := false, apart := false }
def CutPlansSaid : Prop := cutPlansRow.holds Try.pinned (OpenSpec.ofChange cutPlansSpec)

/-- ITS FALSE NEIGHBOUR: 'it returns false'. Refute it at one input. -/
def cutPlansWrong : ChangeSpec := { name := "cutPlans", fn := fun _ => fun
  | [d1, d2] => { results := [.lit (.bool false)], args := [d1, d2] }
  | _ => none }
def CutPlansWrongFalsely : Prop := cutPlansRow.holds Try.pinned (OpenSpec.ofChange cutPlansWrong)

/-- 'tranklaw05.CutProves': WHATEVER THE INPUT: true; the input reads as it did. -/
def cutProvesSpec : ChangeSpec := { name := "cutProves", fn := fun _ => fun
  | [d1, d2] => { results := [.lit (.bool true)], args := [d1, d2] }
  | _ => none }
def cutProvesRow : OpenClaim := { program := "ytgkonocjafoblaa", sum := "3b3cb67d95c471f8d9a0ea8d7b002bb65add1cc8e81a5e2da93fe38d1ee3e728", func := "trank/tranklaw05.CutProves", spec := "cutProves", unfollowed := true, recurses := true, plainKeys := false, apart := false }
def CutProvesSaid : Prop := cutProvesRow.holds Try.pinned (OpenSpec.ofChange cutProvesSpec)

/-- ITS FALSE NEIGHBOUR: 'it returns false'. Refute it at one input. -/
def cutProvesWrong : ChangeSpec := { name := "cutProves", fn := fun _ => fun
  | [d1, d2] => { results := [.lit (.bool false)], args := [d1, d2] }
  | _ => none }
def CutProvesWrongFalsely : Prop := cutProvesRow.holds Try.pinned (OpenSpec.ofChange cutProvesWrong)

/-- 'tranklaw05.CutChecks': WHATEVER THE INPUT: true; the input reads as it did. -/
def cutChecksSpec : ChangeSpec := { name := "cutChecks", fn := fun _ => fun
  | [d1, d2, d3] => { results := [.lit (.bool true)], args := [d1, d2, d3] }
  | _ => none }
def cutChecksRow : OpenClaim := { program := "ytgkonocjafoblaa", sum := "3b3cb67d95c471f8d9a0ea8d7b002bb65add1cc8e81a5e2da93fe38d1ee3e728", func := "trank/tranklaw05.CutChecks", spec := "cutChecks", unfollowed := true, recurses := true, plainKeys := false, apart := false }
def CutChecksSaid : Prop := cutChecksRow.holds Try.pinned (OpenSpec.ofChange cutChecksSpec)

/-- ITS FALSE NEIGHBOUR: 'it returns false'. Refute it at one input. -/
def cutChecksWrong : ChangeSpec := { name := "cutChecks", fn := fun _ => fun
  | [d1, d2, d3] => { results := [.lit (.bool false)], args := [d1, d2, d3] }
  | _ => none }
def CutChecksWrongFalsely : Prop := cutChecksRow.holds Try.pinned (OpenSpec.ofChange cutChecksWrong)

/-- 'tranklaw05.CutBounds': WHATEVER THE INPUT: true; the input reads as it did. -/
def cutBoundsSpec : ChangeSpec := { name := "cutBounds", fn := fun _ => fun
  | [d1, d2, d3, d4] => { results := [.lit (.bool true)], args := [d1, d2, d3, d4] }
  | _ => none }
def cutBoundsRow : OpenClaim := { program := "ytgkonocjafoblaa", sum := "3b3cb67d95c471f8d9a0ea8d7b002bb65add1cc8e81a5e2da93fe38d1ee3e728", func := "trank/tranklaw05.CutBounds", spec := "cutBounds", unfollowed := true, recurses := true, plainKeys := false, apart := false }
def CutBoundsSaid : Prop := cutBoundsRow.holds Try.pinned (OpenSpec.ofChange cutBoundsSpec)

/-- ITS FALSE NEIGHBOUR: 'it returns false'. Refute it at one input. -/
def cutBoundsWrong : ChangeSpec := { name := "cutBounds", fn := fun _ => fun
  | [d1, d2, d3, d4] => { results := [.lit (.bool false)], args := [d1, d2, d3, d4] }
  | _ => none }
def CutBoundsWrongFalsely : Prop := cutBoundsRow.holds Try.pinned (OpenSpec.ofChange cutBoundsWrong)

/-- 'tranklaw05.CutMore': WHATEVER THE INPUT: true; the input reads as it did. -/
def cutMoreSpec : ChangeSpec := { name := "cutMore", fn := fun _ => fun
  | [d1, d2, d3, d4, d5] => { results := [.lit (.bool true)], args := [d1, d2, d3, d4, d5] }
  | _ => none }
def cutMoreRow : OpenClaim := { program := "ytgkonocjafoblaa", sum := "3b3cb67d95c471f8d9a0ea8d7b002bb65add1cc8e81a5e2da93fe38d1ee3e728", func := "trank/tranklaw05.CutMore", spec := "cutMore", unfollowed := true, recurses := true, plainKeys := false, apart := false }
def CutMoreSaid : Prop := cutMoreRow.holds Try.pinned (OpenSpec.ofChange cutMoreSpec)

/-- ITS FALSE NEIGHBOUR: 'it returns false'. Refute it at one input. -/
def cutMoreWrong : ChangeSpec := { name := "cutMore", fn := fun _ => fun
  | [d1, d2, d3, d4, d5] => { results := [.lit (.bool false)], args := [d1, d2, d3, d4, d5] }
  | _ => none }
def CutMoreWrongFalsely : Prop := cutMoreRow.holds Try.pinned (OpenSpec.ofChange cutMoreWrong)

/-- 'tranklaw05.CutStrict': WHATEVER THE INPUT: true; the input reads as it did. -/
def cutStrictSpec : ChangeSpec := { name := "cutStrict", fn := fun _ => fun
  | [d1, d2, d3] => { results := [.lit (.bool true)], args := [d1, d2, d3] }
  | _ => none }
def cutStrictRow : OpenClaim := { program := "ytgkonocjafoblaa", sum := "3b3cb67d95c471f8d9a0ea8d7b002bb65add1cc8e81a5e2da93fe38d1ee3e728", func := "trank/tranklaw05.CutStrict", spec := "cutStrict", unfollowed := true, recurses := true, plainKeys := false, apart := false }
def CutStrictSaid : Prop := cutStrictRow.holds Try.pinned (OpenSpec.ofChange cutStrictSpec)

/-- ITS FALSE NEIGHBOUR: 'it returns false'. Refute it at one input. -/
def cutStrictWrong : ChangeSpec := { name := "cutStrict", fn := fun _ => fun
  | [d1, d2, d3] => { results := [.lit (.bool false)], args := [d1, d2, d3] }
  | _ => none }
def CutStrictWrongFalsely : Prop := cutStrictRow.holds Try.pinned (OpenSpec.ofChange cutStrictWrong)

/-- 'tranklaw05.CutTurns': WHATEVER THE INPUT: true; the input reads as it did. -/
def cutTurnsSpec : ChangeSpec := { name := "cutTurns", fn := fun _ => fun
  | [d1, d2, d3] => { results := [.lit (.bool true)], args := [d1, d2, d3] }
  | _ => none }
def cutTurnsRow : OpenClaim := { program := "ytgkonocjafoblaa", sum := "3b3cb67d95c471f8d9a0ea8d7b002bb65add1cc8e81a5e2da93fe38d1ee3e728", func := "trank/tranklaw05.CutTurns", spec := "cutTurns", unfollowed := true, recurses := true, plainKeys := false, apart := false }
def CutTurnsSaid : Prop := cutTurnsRow.holds Try.pinned (OpenSpec.ofChange cutTurnsSpec)

/-- ITS FALSE NEIGHBOUR: 'it returns false'. Refute it at one input. -/
def cutTurnsWrong : ChangeSpec := { name := "cutTurns", fn := fun _ => fun
  | [d1, d2, d3] => { results := [.lit (.bool false)], args := [d1, d2, d3] }
  | _ => none }
def CutTurnsWrongFalsely : Prop := cutTurnsRow.holds Try.pinned (OpenSpec.ofChange cutTurnsWrong)

/-- 'tranklaw05.CutFill': WHATEVER THE INPUT: true; the input reads as it did. -/
def cutFillSpec : ChangeSpec := { name := "cutFill", fn := fun _ => fun
  | [d1, d2, d3] => { results := [.lit (.bool true)], args := [d1, d2, d3] }
  | _ => none }
def cutFillRow : OpenClaim := { program := "ytgkonocjafoblaa", sum := "3b3cb67d95c471f8d9a0ea8d7b002bb65add1cc8e81a5e2da93fe38d1ee3e728", func := "trank/tranklaw05.CutFill", spec := "cutFill", unfollowed := true, recurses := true, plainKeys := false, apart := false }
def CutFillSaid : Prop := cutFillRow.holds Try.pinned (OpenSpec.ofChange cutFillSpec)

/-- ITS FALSE NEIGHBOUR: 'it returns false'. Refute it at one input. -/
def cutFillWrong : ChangeSpec := { name := "cutFill", fn := fun _ => fun
  | [d1, d2, d3] => { results := [.lit (.bool false)], args := [d1, d2, d3] }
  | _ => none }
def CutFillWrongFalsely : Prop := cutFillRow.holds Try.pinned (OpenSpec.ofChange cutFillWrong)

/-- 'tranklaw05.CutBins': WHATEVER THE INPUT: true; the input reads as it did. -/
def cutBinsSpec : ChangeSpec := { name := "cutBins", fn := fun _ => fun
  | [d1, d2] => { results := [.lit (.bool true)], args := [d1, d2] }
  | _ => none }
def cutBinsRow : OpenClaim := { program := "ytgkonocjafoblaa", sum := "3b3cb67d95c471f8d9a0ea8d7b002bb65add1cc8e81a5e2da93fe38d1ee3e728", func := "trank/tranklaw05.CutBins", spec := "cutBins", unfollowed := true, recurses := true, plainKeys := false, apart := false }
def CutBinsSaid : Prop := cutBinsRow.holds Try.pinned (OpenSpec.ofChange cutBinsSpec)

/-- ITS FALSE NEIGHBOUR: 'it returns false'. Refute it at one input. -/
def cutBinsWrong : ChangeSpec := { name := "cutBins", fn := fun _ => fun
  | [d1, d2] => { results := [.lit (.bool false)], args := [d1, d2] }
  | _ => none }
def CutBinsWrongFalsely : Prop := cutBinsRow.holds Try.pinned (OpenSpec.ofChange cutBinsWrong)

/-- 'tranklaw05.CutFits': WHATEVER THE INPUT: true; the input reads as it did. -/
def cutFitsSpec : ChangeSpec := { name := "cutFits", fn := fun _ => fun
  | [d1, d2] => { results := [.lit (.bool true)], args := [d1, d2] }
  | _ => none }
def cutFitsRow : OpenClaim := { program := "ytgkonocjafoblaa", sum := "3b3cb67d95c471f8d9a0ea8d7b002bb65add1cc8e81a5e2da93fe38d1ee3e728", func := "trank/tranklaw05.CutFits", spec := "cutFits", unfollowed := true, recurses := true, plainKeys := false, apart := false }
def CutFitsSaid : Prop := cutFitsRow.holds Try.pinned (OpenSpec.ofChange cutFitsSpec)

/-- ITS FALSE NEIGHBOUR: 'it returns false'. Refute it at one input. -/
def cutFitsWrong : ChangeSpec := { name := "cutFits", fn := fun _ => fun
  | [d1, d2] => { results := [.lit (.bool false)], args := [d1, d2] }
  | _ => none }
def CutFitsWrongFalsely : Prop := cutFitsRow.holds Try.pinned (OpenSpec.ofChange cutFitsWrong)

/-- 'tranklaw05.CutStrips': WHATEVER THE INPUT: true; the input reads as it did. -/
def cutStripsSpec : ChangeSpec := { name := "cutStrips", fn := fun _ => fun
  | [d1, d2] => { results := [.lit (.bool true)], args := [d1, d2] }
  | _ => none }
def cutStripsRow : OpenClaim := { program := "ytgkonocjafoblaa", sum := "3b3cb67d95c471f8d9a0ea8d7b002bb65add1cc8e81a5e2da93fe38d1ee3e728", func := "trank/tranklaw05.CutStrips", spec := "cutStrips", unfollowed := true, recurses := true, plainKeys := false, apart := false }
def CutStripsSaid : Prop := cutStripsRow.holds Try.pinned (OpenSpec.ofChange cutStripsSpec)

/-- ITS FALSE NEIGHBOUR: 'it returns false'. Refute it at one input. -/
def cutStripsWrong : ChangeSpec := { name := "cutStrips", fn := fun _ => fun
  | [d1, d2] => { results := [.lit (.bool false)], args := [d1, d2] }
  | _ => none }
def CutStripsWrongFalsely : Prop := cutStripsRow.holds Try.pinned (OpenSpec.ofChange cutStripsWrong)

/-- 'tranktop.TopTurned': WHATEVER THE INPUT: true; the input reads as it did. -/
def topTurnedSpec : ChangeSpec := { name := "topTurned", fn := fun _ => fun
  | [d1, d2, d3] => { results := [.lit (.bool true)], args := [d1, d2, d3] }
  | _ => none }
def topTurnedRow : OpenClaim := { program := "ytgkonocjafoblaa", sum := "3b3cb67d95c471f8d9a0ea8d7b002bb65add1cc8e81a5e2da93fe38d1ee3e728", func := "trank/tranktop.TopTurned", spec := "topTurned", unfollowed := true, recurses := true, plainKeys := false, apart := false }
def TopTurnedSaid : Prop := topTurnedRow.holds Try.pinned (OpenSpec.ofChange topTurnedSpec)

/-- ITS FALSE NEIGHBOUR: 'it returns false'. Refute it at one input. -/
def topTurnedWrong : ChangeSpec := { name := "topTurned", fn := fun _ => fun
  | [d1, d2, d3] => { results := [.lit (.bool false)], args := [d1, d2, d3] }
  | _ => none }
def TopTurnedWrongFalsely : Prop := topTurnedRow.holds Try.pinned (OpenSpec.ofChange topTurnedWrong)

/-- 'tranktop.TopApart': WHATEVER THE INPUT: true; the input reads as it did. -/
def topApartSpec : ChangeSpec := { name := "topApart", fn := fun _ => fun
  | [d1, d2] => { results := [.lit (.bool true)], args := [d1, d2] }
  | _ => none }
def topApartRow : OpenClaim := { program := "ytgkonocjafoblaa", sum := "3b3cb67d95c471f8d9a0ea8d7b002bb65add1cc8e81a5e2da93fe38d1ee3e728", func := "trank/tranktop.TopApart", spec := "topApart", unfollowed := true, recurses := true, plainKeys := false, apart := false }
def TopApartSaid : Prop := topApartRow.holds Try.pinned (OpenSpec.ofChange topApartSpec)

/-- ITS FALSE NEIGHBOUR: 'it returns false'. Refute it at one input. -/
def topApartWrong : ChangeSpec := { name := "topApart", fn := fun _ => fun
  | [d1, d2] => { results := [.lit (.bool false)], args := [d1, d2] }
  | _ => none }
def TopApartWrongFalsely : Prop := topApartRow.holds Try.pinned (OpenSpec.ofChange topApartWrong)

/- THE SECOND FORM. 'bulk': how many values and letters a reading holds, each counted each time it is reached (what is shared counts as often as it is met; a slice's spare places count too). A statement '..UptoSaid' is the law's where the arguments, and the package variables that the reading takes, are together of bulk at most 1048576: NARROWER than '..Said'. Prove '..Said' where nothing that the law and all that it calls make is longer than what came in: it says more and counts as full. Else prove '..UptoSaid'. A law counts once. -/
mutual
def uptoBulk {H : Type} : DataW H → Nat
  | .lit (.string bytes) => bytes.length + 1
  | .lit _ => 1
  | .nil => 1
  | .ptr d => uptoBulk d + 1
  | .slice elems spare => uptoBulkAll elems + uptoBulkAll spare + 1
  | .agg parts => uptoBulkAll parts + 1
  | .iface _ d => uptoBulk d + 1
  | .map entries => uptoBulkEntries entries + 1
  | .held _ => 1
def uptoBulkAll {H : Type} : List (DataW H) → Nat
  | [] => 0
  | d :: r => uptoBulk d + uptoBulkAll r
def uptoBulkEntries {H : Type} : List (Lit × DataW H) → Nat
  | [] => 0
  | x :: r => uptoBulkEntry x + uptoBulkEntries r
def uptoBulkEntry {H : Type} : Lit × DataW H → Nat
  | (.string bytes, d) => bytes.length + uptoBulk d + 1
  | (_, d) => uptoBulk d + 1
 end
def uptoSmall : (H : Type) → List (DataW H) → Bool := fun _ ds => decide (uptoBulkAll ds ≤ 1048576)
def OpenSpec.upto (s : _root_.Go.ChangeSpec) : _root_.Go.OpenSpec := { _root_.Go.OpenSpec.ofChange s with cond := some uptoSmall }

/-- 'tranklaw05.CutRects', WHERE WHAT IT READS IS OF BULK AT MOST 1048576: true; the input reads as it did. -/
def cutRectsUptoRow : OpenClaim := { program := "ytgkonocjafoblaa", sum := "3b3cb67d95c471f8d9a0ea8d7b002bb65add1cc8e81a5e2da93fe38d1ee3e728", func := "trank/tranklaw05.CutRects", spec := "cutRects", unfollowed := true, recurses := true, plainKeys := false, apart := false, narrowed := true }
def CutRectsUptoSaid : Prop := cutRectsUptoRow.holds Try.pinned (OpenSpec.upto cutRectsSpec)

/-- 'tranklaw05.CutBest', WHERE WHAT IT READS IS OF BULK AT MOST 1048576: true; the input reads as it did. -/
def cutBestUptoRow : OpenClaim := { program := "ytgkonocjafoblaa", sum := "3b3cb67d95c471f8d9a0ea8d7b002bb65add1cc8e81a5e2da93fe38d1ee3e728", func := "trank/tranklaw05.CutBest", spec := "cutBest", unfollowed := true, recurses := true, plainKeys := false, apart := false, narrowed := true }
def CutBestUptoSaid : Prop := cutBestUptoRow.holds Try.pinned (OpenSpec.upto cutBestSpec)

/-- 'tranklaw05.CutReads', WHERE WHAT IT READS IS OF BULK AT MOST 1048576: true; the input reads as it did. -/
def cutReadsUptoRow : OpenClaim := { program := "ytgkonocjafoblaa", sum := "3b3cb67d95c471f8d9a0ea8d7b002bb65add1cc8e81a5e2da93fe38d1ee3e728", func := "trank/tranklaw05.CutReads", spec := "cutReads", unfollowed := true, recurses := true, plainKeys := false, apart := false, narrowed := true }
def CutReadsUptoSaid : Prop := cutReadsUptoRow.holds Try.pinned (OpenSpec.upto cutReadsSpec)

/-- 'tranklaw05.CutPlans', WHERE WHAT IT READS IS OF BULK AT MOST 1048576: true; the input reads as it did. -/
def cutPlansUptoRow : OpenClaim := { program := "ytgkonocjafoblaa", sum := "3b3cb67d95c471f8d9a0ea8d7b002bb65add1cc8e81a5e2da93fe38d1ee3e728", func := "trank/tranklaw05.CutPlans", spec := "cutPlans", unfollowed := true, recurses := true, plainKeys := false, apart := false, narrowed := true }
def CutPlansUptoSaid : Prop := cutPlansUptoRow.holds Try.pinned (OpenSpec.upto cutPlansSpec)

/-- 'tranklaw05.CutProves', WHERE WHAT IT READS IS OF BULK AT MOST 1048576: true; the input reads as it did. -/
def cutProvesUptoRow : OpenClaim := { program := "ytgkonocjafoblaa", sum := "3b3cb67d95c471f8d9a0ea8d7b002bb65add1cc8e81a5e2da93fe38d1ee3e728", func := "trank/tranklaw05.CutProves", spec := "cutProves", unfollowed := true, recurses := true, plainKeys := false, apart := false, narrowed := true }
def CutProvesUptoSaid : Prop := cutProvesUptoRow.holds Try.pinned (OpenSpec.upto cutProvesSpec)

/-- 'tranklaw05.CutChecks', WHERE WHAT IT READS IS OF BULK AT MOST 1048576: true; the input reads as it did. -/
def cutChecksUptoRow : OpenClaim := { program := "ytgkonocjafoblaa", sum := "3b3cb67d95c471f8d9a0ea8d7b002bb65add1cc8e81a5e2da93fe38d1ee3e728", func := "trank/tranklaw05.CutChecks", spec := "cutChecks", unfollowed := true, recurses := true, plainKeys := false, apart := false, narrowed := true }
def CutChecksUptoSaid : Prop := cutChecksUptoRow.holds Try.pinned (OpenSpec.upto cutChecksSpec)

/-- 'tranklaw05.CutBounds', WHERE WHAT IT READS IS OF BULK AT MOST 1048576: true; the input reads as it did. -/
def cutBoundsUptoRow : OpenClaim := { program := "ytgkonocjafoblaa", sum := "3b3cb67d95c471f8d9a0ea8d7b002bb65add1cc8e81a5e2da93fe38d1ee3e728", func := "trank/tranklaw05.CutBounds", spec := "cutBounds", unfollowed := true, recurses := true, plainKeys := false, apart := false, narrowed := true }
def CutBoundsUptoSaid : Prop := cutBoundsUptoRow.holds Try.pinned (OpenSpec.upto cutBoundsSpec)

/-- 'tranklaw05.CutMore', WHERE WHAT IT READS IS OF BULK AT MOST 1048576: true; the input reads as it did. -/
def cutMoreUptoRow : OpenClaim := { program := "ytgkonocjafoblaa", sum := "3b3cb67d95c471f8d9a0ea8d7b002bb65add1cc8e81a5e2da93fe38d1ee3e728", func := "trank/tranklaw05.CutMore", spec := "cutMore", unfollowed := true, recurses := true, plainKeys := false, apart := false, narrowed := true }
def CutMoreUptoSaid : Prop := cutMoreUptoRow.holds Try.pinned (OpenSpec.upto cutMoreSpec)

/-- 'tranklaw05.CutStrict', WHERE WHAT IT READS IS OF BULK AT MOST 1048576: true; the input reads as it did. -/
def cutStrictUptoRow : OpenClaim := { program := "ytgkonocjafoblaa", sum := "3b3cb67d95c471f8d9a0ea8d7b002bb65add1cc8e81a5e2da93fe38d1ee3e728", func := "trank/tranklaw05.CutStrict", spec := "cutStrict", unfollowed := true, recurses := true, plainKeys := false, apart := false, narrowed := true }
def CutStrictUptoSaid : Prop := cutStrictUptoRow.holds Try.pinned (OpenSpec.upto cutStrictSpec)

/-- 'tranklaw05.CutTurns', WHERE WHAT IT READS IS OF BULK AT MOST 1048576: true; the input reads as it did. -/
def cutTurnsUptoRow : OpenClaim := { program := "ytgkonocjafoblaa", sum := "3b3cb67d95c471f8d9a0ea8d7b002bb65add1cc8e81a5e2da93fe38d1ee3e728", func := "trank/tranklaw05.CutTurns", spec := "cutTurns", unfollowed := true, recurses := true, plainKeys := false, apart := false, narrowed := true }
def CutTurnsUptoSaid : Prop := cutTurnsUptoRow.holds Try.pinned (OpenSpec.upto cutTurnsSpec)

/-- 'tranklaw05.CutFill', WHERE WHAT IT READS IS OF BULK AT MOST 1048576: true; the input reads as it did. -/
def cutFillUptoRow : OpenClaim := { program := "ytgkonocjafoblaa", sum := "3b3cb67d95c471f8d9a0ea8d7b002bb65add1cc8e81a5e2da93fe38d1ee3e728", func := "trank/tranklaw05.CutFill", spec := "cutFill", unfollowed := true, recurses := true, plainKeys := false, apart := false, narrowed := true }
def CutFillUptoSaid : Prop := cutFillUptoRow.holds Try.pinned (OpenSpec.upto cutFillSpec)

/-- 'tranklaw05.CutBins', WHERE WHAT IT READS IS OF BULK AT MOST 1048576: true; the input reads as it did. -/
def cutBinsUptoRow : OpenClaim := { program := "ytgkonocjafoblaa", sum := "3b3cb67d95c471f8d9a0ea8d7b002bb65add1cc8e81a5e2da93fe38d1ee3e728", func := "trank/tranklaw05.CutBins", spec := "cutBins", unfollowed := true, recurses := true, plainKeys := false, apart := false, narrowed := true }
def CutBinsUptoSaid : Prop := cutBinsUptoRow.holds Try.pinned (OpenSpec.upto cutBinsSpec)

/-- 'tranklaw05.CutFits', WHERE WHAT IT READS IS OF BULK AT MOST 1048576: true; the input reads as it did. -/
def cutFitsUptoRow : OpenClaim := { program := "ytgkonocjafoblaa", sum := "3b3cb67d95c471f8d9a0ea8d7b002bb65add1cc8e81a5e2da93fe38d1ee3e728", func := "trank/tranklaw05.CutFits", spec := "cutFits", unfollowed := true, recurses := true, plainKeys := false, apart := false, narrowed := true }
def CutFitsUptoSaid : Prop := cutFitsUptoRow.holds Try.pinned (OpenSpec.upto cutFitsSpec)

/-- 'tranklaw05.CutStrips', WHERE WHAT IT READS IS OF BULK AT MOST 1048576: true; the input reads as it did. -/
def cutStripsUptoRow : OpenClaim := { program := "ytgkonocjafoblaa", sum := "3b3cb67d95c471f8d9a0ea8d7b002bb65add1cc8e81a5e2da93fe38d1ee3e728", func := "trank/tranklaw05.CutStrips", spec := "cutStrips", unfollowed := true, recurses := true, plainKeys := false, apart := false, narrowed := true }
def CutStripsUptoSaid : Prop := cutStripsUptoRow.holds Try.pinned (OpenSpec.upto cutStripsSpec)

/-- 'tranktop.TopTurned', WHERE WHAT IT READS IS OF BULK AT MOST 1048576: true; the input reads as it did. -/
def topTurnedUptoRow : OpenClaim := { program := "ytgkonocjafoblaa", sum := "3b3cb67d95c471f8d9a0ea8d7b002bb65add1cc8e81a5e2da93fe38d1ee3e728", func := "trank/tranktop.TopTurned", spec := "topTurned", unfollowed := true, recurses := true, plainKeys := false, apart := false, narrowed := true }
def TopTurnedUptoSaid : Prop := topTurnedUptoRow.holds Try.pinned (OpenSpec.upto topTurnedSpec)

/-- 'tranktop.TopApart', WHERE WHAT IT READS IS OF BULK AT MOST 1048576: true; the input reads as it did. -/
def topApartUptoRow : OpenClaim := { program := "ytgkonocjafoblaa", sum := "3b3cb67d95c471f8d9a0ea8d7b002bb65add1cc8e81a5e2da93fe38d1ee3e728", func := "trank/tranktop.TopApart", spec := "topApart", unfollowed := true, recurses := true, plainKeys := false, apart := false, narrowed := true }
def TopApartUptoSaid : Prop := topApartUptoRow.holds Try.pinned (OpenSpec.upto topApartSpec)

end Rows
end Go.Proofs.Ytgkonocjafoblaa
