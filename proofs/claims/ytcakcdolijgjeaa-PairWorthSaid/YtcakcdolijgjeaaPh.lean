/- A rule (a struct of two structs of four ints) among a law's arguments, opened. -/
import Derived.Lib.SmallJoins
import Derived.Deep.Slices
import Derived.Deep.Fields

set_option linter.unusedVariables false
namespace Go.Proofs.Ytcakcdolijgjeaa
open Go Go.ChangeShapes Go.WideShapes Go.RowKit Go.Joins
section
variable {H : Type} {enc : TypeId × Value → H} {P : Program} {w : World} {base : Nat} {held : Bool}
def In64 (n : Int) : Prop := -9223372036854775808 ≤ n ∧ n ≤ 9223372036854775807
theorem in64_lit {n : Int} (h : (Lit.int .i64 n).wf = true) : In64 n := by
  have := bounds_i64 h; exact ⟨by omega, by omega⟩
theorem array8 {α : Type} {cs : Array α} (h : cs.size = 8) : ∃ c0 c1 c2 c3 c4 c5 c6 c7, cs = #[c0, c1, c2, c3, c4, c5, c6, c7] := by
  obtain ⟨l⟩ := cs
  match l, h with
  | [c0, c1, c2, c3, c4, c5, c6, c7], _ => exact ⟨c0, c1, c2, c3, c4, c5, c6, c7, rfl⟩
theorem four_ints {s : TypeId} {f0 f1 f2 f3 : Field} {n : Nat} {c0 c1 c2 c3 : Value} {y : DataW H × List MemPlace} (hs : P.underlying s = some (.struct #[f0, f1, f2, f3])) (hone : Go.Deep.oneCellFields P #[f0, f1, f2, f3] = true)
    (k0 : P.underlying f0.type = some (.int .i64)) (k1 : P.underlying f1.type = some (.int .i64)) (k2 : P.underlying f2.type = some (.int .i64)) (k3 : P.underlying f3.type = some (.int .i64))
    (h : DataW.trod enc P w base (fun _ => true) held n s [c0, c1, c2, c3] = some y) :
    ∃ a0 a1 a2 a3 : Int, (c0 = .int .i64 a0 ∧ c1 = .int .i64 a1 ∧ c2 = .int .i64 a2 ∧ c3 = .int .i64 a3) ∧ (In64 a0 ∧ In64 a1) ∧ In64 a2 ∧ In64 a3 := by
  obtain ⟨y0, y1, y2, y3, n', _, _, h0, h1, h2, h3⟩ := trod_struct4 hs h
  obtain ⟨o0, j0⟩ := Go.Deep.hone_of hone 0 f0 rfl
  obtain ⟨o1, j1⟩ := Go.Deep.hone_of hone 1 f1 rfl
  obtain ⟨o2, j2⟩ := Go.Deep.hone_of hone 2 f2 rfl
  obtain ⟨o3, j3⟩ := Go.Deep.hone_of hone 3 f3 rfl
  rw [o0, j0] at h0; rw [o1, j1] at h1; rw [o2, j2] at h2; rw [o3, j3] at h3
  obtain ⟨a0, e0, _, w0⟩ := DataW.trod_int k0 h0
  obtain ⟨a1, e1, _, w1⟩ := DataW.trod_int k1 h1
  obtain ⟨a2, e2, _, w2⟩ := DataW.trod_int k2 h2
  obtain ⟨a3, e3, _, w3⟩ := DataW.trod_int k3 h3
  simp at e0 e1 e2 e3
  exact ⟨a0, a1, a2, a3, ⟨e0, e1, e2, e3⟩, ⟨in64_lit w0, in64_lit w1⟩, in64_lit w2, in64_lit w3⟩
theorem open_rule {r : Reach} {b0 : Nat} {t s : TypeId} {f g f0 f1 f2 f3 : Field} {v : Value} {d : DataW H} {p : List MemPlace} (ht : P.underlying t = some (.struct #[f, g])) (of : f.offset = 0) (og : g.offset = 4) (tf : f.type = s) (tg : g.type = s)
    (hs : P.underlying s = some (.struct #[f0, f1, f2, f3])) (cs : P.cellsOf s = 4) (ct : P.cellsOf t = 8) (hone : Go.Deep.oneCellFields P #[f0, f1, f2, f3] = true)
    (k0 : P.underlying f0.type = some (.int .i64)) (k1 : P.underlying f1.type = some (.int .i64)) (k2 : P.underlying f2.type = some (.int .i64)) (k3 : P.underlying f3.type = some (.int .i64))
    (hv : Value.okWide P w r b0 t v) (h : DataW.Trod enc P w base (fun _ => true) held t v d p) :
    ∃ a0 a1 a2 a3 b0 b1 b2 b3 : Int, v = .agg #[.int .i64 a0, .int .i64 a1, .int .i64 a2, .int .i64 a3, .int .i64 b0, .int .i64 b1, .int .i64 b2, .int .i64 b3] ∧ ((In64 a0 ∧ In64 a1) ∧ In64 a2 ∧ In64 a3) ∧ (In64 b0 ∧ In64 b1) ∧ In64 b2 ∧ In64 b3 := by
  obtain ⟨xs, rfl, hsz⟩ := okWide_struct ht hv
  obtain ⟨c0, c1, c2, c3, c4, c5, c6, c7, rfl⟩ := array8 (hsz.trans ct)
  obtain ⟨fuel, hf⟩ := h
  obtain ⟨y0, y1, n, _, _, h0, h1⟩ := trod_struct2 ht hf
  rw [of, tf, cs] at h0
  rw [og, tg, cs] at h1
  obtain ⟨a0, a1, a2, a3, ⟨rfl, rfl, rfl, rfl⟩, i⟩ := four_ints hs hone k0 k1 k2 k3 (by simpa [Value.cells] using h0)
  obtain ⟨b0, b1, b2, b3, ⟨rfl, rfl, rfl, rfl⟩, j⟩ := four_ints hs hone k0 k1 k2 k3 (by simpa [Value.cells] using h1)
  exact ⟨a0, a1, a2, a3, b0, b1, b2, b3, rfl, i, j⟩
end
end Go.Proofs.Ytcakcdolijgjeaa
