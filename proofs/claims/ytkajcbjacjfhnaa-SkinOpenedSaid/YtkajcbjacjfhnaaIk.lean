/- A slice of rectangles among a law's arguments, opened. -/
import Derived.Test.YtkajcbjacjfhnaaIj
import Derived.Test.YtkajcbjacjfhnaaGk
import Derived.Deep.Slices
import Derived.Deep.Fields
set_option linter.unusedVariables false
namespace Go.Proofs.Ytkajcbjacjfhnaa
open Go.ChangeShapes Go.WideShapes Go.RowKit
/-- rectangles in memory -/
def RcAt (w : World) (b off l : Nat) (rs : Nat → Int × Int × Int × Int) : Prop := ∀ i, i < l →
  ((w.cell? ⟨b, off + i * 4, none⟩ = some (.int .i64 (rs i).1) ∧ w.cell? ⟨b, off + i * 4 + 1, none⟩ = some (.int .i64 (rs i).2.1)) ∧ (w.cell? ⟨b, off + i * 4 + 2, none⟩ = some (.int .i64 (rs i).2.2.1) ∧ w.cell? ⟨b, off + i * 4 + 3, none⟩ = some (.int .i64 (rs i).2.2.2))) ∧
  (In64 (rs i).1 ∧ In64 (rs i).2.1) ∧ In64 (rs i).2.2.1 ∧ In64 (rs i).2.2.2
def Rcs (w : World) (a : Option Addr) (l : Nat) (rs : Nat → Int × Int × Int × Int) : Prop := l = 0 ∨ ∃ b off, a = some ⟨b, off, none⟩ ∧ RcAt w b off l rs
section
variable {H : Type} {enc : TypeId × Value → H} {P : Program} {w : World} {base : Nat} {held : Bool}
theorem open_rects {r : Reach} {b0 : Nat} {t e : TypeId} {f0 f1 f2 f3 : Field} {v : Value} {d : DataW H} {ps : List MemPlace} (ht : P.underlying t = some (.slice e)) (he : P.underlying e = some (.struct #[f0, f1, f2, f3])) (ce : P.cellsOf e = 4)
    (hone : Go.Deep.oneCellFields P #[f0, f1, f2, f3] = true) (k0 : P.underlying f0.type = some (.int .i64)) (k1 : P.underlying f1.type = some (.int .i64)) (k2 : P.underlying f2.type = some (.int .i64)) (k3 : P.underlying f3.type = some (.int .i64))
    (hval : Value.okWide P w r b0 t v) (hd : DataW.Trod enc P w base (fun _ => true) held t v d ps) :
    ∃ (a : Option Addr) (len cap : Nat) (rs : Nat → Int × Int × Int × Int), v = .slice a len cap ∧ Rcs w a len rs ∧ len ≤ maxLen := by
  obtain ⟨a0, len0, cap0, rfl⟩ := okWide_slice ht hval
  obtain ⟨fuel, hf⟩ := hd
  rcases Go.Deep.open_slice ht hf with ⟨hcs, _⟩ | ⟨a, len, cap, m, n, D, Pl, hcs, hb, hl, hm, hmm, hx, hi⟩
  · simp [Value.cells] at hcs
    obtain ⟨rfl, rfl, rfl⟩ := hcs
    exact ⟨none, 0, 0, fun _ => (0, 0, 0, 0), rfl, .inl rfl, by simp [maxLen]⟩
  · simp [Value.cells] at hcs
    obtain ⟨rfl, rfl, rfl⟩ := hcs
    simp only [if_true] at hmm
    subst hmm
    have each : ∀ i, i < m → ∃ q : Int × Int × Int × Int, ((w.cell? (a.add (i * 4)) = some (.int .i64 q.1) ∧ w.cell? (a.add (i * 4 + 1)) = some (.int .i64 q.2.1)) ∧ (w.cell? (a.add (i * 4 + 2)) = some (.int .i64 q.2.2.1) ∧ w.cell? (a.add (i * 4 + 3)) = some (.int .i64 q.2.2.2))) ∧ (In64 q.1 ∧ In64 q.2.1) ∧ In64 q.2.2.1 ∧ In64 q.2.2.2 := by
      intro i him
      obtain ⟨cs', hc, ht'⟩ := hi i him
      rw [ce] at hc
      obtain ⟨ys, n', hn', hy, hlen, hyl, hff⟩ := DataW.trod_struct he ht'
      obtain ⟨_, hcl, hat⟩ := World.cells?_some hc
      have part : ∀ (j : Nat) (f : Field), (#[f0, f1, f2, f3] : Array Field)[j]? = some f → P.underlying f.type = some (.int .i64) → ∃ x : Int, w.cell? (a.add (i * 4 + j)) = some (.int .i64 x) ∧ In64 x := by
        intro j f hj hk
        have hjl : j < 4 := (Array.getElem?_eq_some_iff.1 hj).1
        obtain ⟨ho, hk1⟩ := Go.Deep.hone_of hone j f hj
        have h1 := hff j f hj
        rw [ho, hk1] at h1
        have hjc : j < cs'.length := by omega
        have e1 : (cs'.drop j).take 1 = [cs'[j]] := by rw [List.drop_eq_getElem_cons hjc]; rfl
        rw [e1] at h1
        have hys : ys[j]? = some (ys[j]'(by rw [hyl]; exact hjl)) := List.getElem?_eq_getElem _
        rw [hys] at h1
        obtain ⟨x, ex, _, wx⟩ := DataW.trod_int hk h1
        refine ⟨x, ?_, in64_wf' wx⟩
        have h2 := hat j hjl
        rw [Go.Deep.add_add] at h2
        rw [h2]
        rw [List.getElem?_eq_getElem hjc]
        injection ex with ex
        rw [ex]
      obtain ⟨x0, h0, i0⟩ := part 0 f0 rfl k0
      obtain ⟨x1, h1, i1⟩ := part 1 f1 rfl k1
      obtain ⟨x2, h2, i2⟩ := part 2 f2 rfl k2
      obtain ⟨x3, h3, i3⟩ := part 3 f3 rfl k3
      exact ⟨(x0, x1, x2, x3), ⟨⟨h0, h1⟩, h2, h3⟩, ⟨i0, i1⟩, i2, i3⟩
    obtain ⟨q, hq⟩ := Go.Deep.choose_lt each
    refine ⟨some a, len0, m, q, rfl, ?_, by omega⟩
    by_cases h0 : len0 = 0
    · exact .inl h0
    · obtain ⟨b, off, spot⟩ := a
      have hspot : spot = none := by simpa [Addr.add] using World.cell?_spot (hq 0 (by omega)).1.1.1
      subst hspot
      refine .inr ⟨b, off, rfl, fun i hil => ?_⟩
      have := hq i (by omega)
      simpa only [Go.WideShapes.add_plain, Nat.add_assoc] using this
end
end Go.Proofs.Ytkajcbjacjfhnaa
