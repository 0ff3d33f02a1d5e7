/- Known answers of stage 5's seat: numbers and parts of rectangles. -/
import Derived.Test.YtgkonocjafoblaaYq
import Derived.Test.YtgkonocjafoblaaRows
import Derived.WalkKit
import Derived.WalkSpells
import Derived.Handy
import Derived.KernelRfl
namespace Go.Ab
open Go Go.RowKit Go.Proofs Go.Proofs.Ytgkonocjafoblaa
abbrev wr (n : Int) : Int := IntKind.i64.wrap n
abbrev noKn : Known := ⟨noPr, fun _ => false⟩
def tsum (n : Int) : Int := wr ((wr (n * wr (n + 1))).tdiv 2)
theorem toSum_any (n : Int) (w : World) : Calls Try.prog 115 #[.int .i64 n] w fun e w' => e = .returned (.int .i64 (tsum n)) ∧ Below w.heap.size w w' :=
  plain_call (kn := noKn) (noPr_ok _) (n := 5) (d := 5) (args := [.int .i64 n]) rfl rfl (by kernel_rfl) w

def pr1 : Prim := fun f args =>
  match f with
  | 115 => (match args with | [.int .i64 n] => some (.int .i64 (tsum n)) | _ => none)
  | _ => none
theorem pr1_ok : PrimOk Try.prog pr1 := by
  intro f args v h
  unfold pr1 at h
  split at h
  · split at h
    · cases h; exact ⟨rfl, rfl, fun w => toSum_any _ w⟩
    · cases h
  · cases h

/-- the number of a rectangle, as the program reckons it -/
def numV (b h x y rw rh : Int) : Int :=
  let below := wr (h - y)
  let above := wr (wr (tsum h - tsum below) * tsum b)
  let left := wr (wr (tsum b - tsum (wr (b - x))) * below)
  wr (wr (wr (wr (above + left) + wr (wr (rw - 1) * below)) + rh) - 1)

theorem number_any (b h x y rw rh : Int) (w : World) : Calls Try.prog 73 #[.agg #[.int .i64 b, .int .i64 h], .agg #[.int .i64 x, .int .i64 y, .int .i64 rw, .int .i64 rh]] w fun e w' => e = .returned (.int .i64 (numV b h x y rw rh)) ∧ Below w.heap.size w w' :=
  plain_call (kn := ⟨pr1, fun _ => false⟩) pr1_ok (n := 5) (d := 5) (args := [.agg #[.int .i64 b, .int .i64 h], .agg #[.int .i64 x, .int .i64 y, .int .i64 rw, .int .i64 rh]]) rfl rfl (by kernel_rfl) w

def pr2 : Prim := fun f args =>
  match f with
  | 115 => (match args with | [.int .i64 n] => some (.int .i64 (tsum n)) | _ => none)
  | 73 => (match args with | [.agg ⟨[.int .i64 b, .int .i64 h]⟩, .agg ⟨[.int .i64 x, .int .i64 y, .int .i64 rw, .int .i64 rh]⟩] => some (.int .i64 (numV b h x y rw rh)) | _ => none)
  | _ => none
theorem pr2_ok : PrimOk Try.prog pr2 := by
  intro f args v h
  unfold pr2 at h
  split at h
  · split at h
    · cases h; exact ⟨rfl, rfl, fun w => toSum_any _ w⟩
    · cases h
  · split at h
    · cases h; exact ⟨rfl, rfl, fun w => number_any _ _ _ _ _ _ w⟩
    · cases h
  · cases h
end Go.Ab
