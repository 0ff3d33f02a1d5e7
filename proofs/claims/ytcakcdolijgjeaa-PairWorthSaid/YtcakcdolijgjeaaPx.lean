/- Numbers appended to a row; Worth, of the reference. -/
import Derived.Test.YtcakcdolijgjeaaPw
import Derived.Deep.Upon
set_option linter.unusedVariables false
namespace Go.Proofs.Ytcakcdolijgjeaa
open Go Go.RowKit Go.Ab
def ils (f : Nat → Int) (n : Nat) : List Value := (List.range n).map fun i => .int .i64 (f i)
theorem ils_len (f : Nat → Int) (n : Nat) : (ils f n).length = n := by unfold ils; simp
theorem ils_get (f : Nat → Int) (n i : Nat) (h : i < n) : (ils f n)[i]? = some (.int .i64 (f i)) := by
  unfold ils; rw [List.getElem?_map, List.getElem?_range h]; rfl
theorem ls_cells {w : World} {ad : Addr} {m : Nat} {f : Nat → Int} (hy : Ls w (some ad) m f) : ∀ j u, (ils f m)[j]? = some u → w.cell? (ad.add j) = some u := by
  intro j u hu
  have hj : j < m := by have := (List.getElem?_eq_some_iff.1 hu).1; rw [ils_len] at this; exact this
  rcases hy with h | ⟨b, off, e, h⟩
  · omega
  · injection e with e
    subst e
    rw [ils_get f m j hj] at hu
    cases hu
    simpa only [Go.WideShapes.add_plain] using (h j hj).1
theorem append_ls {ops : Array Oper} {rest : List Oper} {o : Oper} {a : Act} {Q : Exit → Act → World → Prop} {w : World} (hgd : o.guard = none) (s x : Operand) (ho : o.op = .call { callee := .builtin .append, args := #[s, x], argTypes := #[38, 38] })
    (i3 : TypeInfo) (hi3 : Try.prog.info? 3 = some i3) (hz3 : i3.zero = some (.int .i64 0)) (hs3 : i3.size = 1) (hb3 : i3.bytes = 8) (base : Nat) (v : Value) (n : Nat) (xs : List Value) (hs : a.eval s = v) (hown : w.ownsRow base 3 1 v n xs)
    (y : Option Addr) (m c : Nat) (f : Nat → Int) (hx : a.eval x = .slice y m c) (hy : Ls w y m f) (h63 : n + m ≤ 1000) (hbase : base ≤ w.heap.size)
    (h : ∀ v' w', w'.ownsRow base 3 1 v' (n + m) (xs ++ ils f m) → w.grownBy w' v.ownBlock → wpList Try.prog ops Q rest (a.put o.dst v') w') : wpList Try.prog ops Q (o :: rest) a w := by
  cases y with
  | some ad =>
    exact wpList_append_own w hgd s x 38 ho base 3 i3 (.int .i64 0) 1 8 Try.underlying38 hi3 hz3 hs3 hb3 rfl (by decide) v n xs hs hown ad m c (ils f m) hx (by rw [ils_len]; omega) (ls_cells hy)
      (by intro u hu; unfold ils at hu; obtain ⟨i, _, rfl⟩ := List.mem_map.1 hu; rfl) (by unfold maxLen; omega) (by omega) hbase fun v' w' h1 h2 _ => h v' w' h1 h2
  | none =>
    have hm : m = 0 := by
      rcases hy with h | ⟨b, off, e, _⟩
      · exact h
      · cases e
    subst hm
    have hrun : (Builtin.append_ #[38, 38] o.type #[v, .slice none 0 c]).run Try.prog w = .ok v w := by
      obtain ⟨hl, ⟨rfl, rfl⟩ | ⟨g, cap, cur, rfl, hg, hc, hn, _⟩⟩ := id hown
      · exact run_append_nothing w 38 38 o.type 3 i3 Try.underlying38 hi3 none 0 0 (Nat.le_refl _) _ (Src.ofNil w Try.underlying38 c)
      · exact run_append_nothing w 38 38 o.type 3 i3 Try.underlying38 hi3 _ n cap hn _ (Src.ofNil w Try.underlying38 c)
    refine wpList_plain hgd fun K hK' => ?_
    unfold Oper.wp
    simp [execOp, ho, resolve, invoke, builtin, hs, hx, hrun, Result.andThen]
    exact hK' _ _ (h v w (by simpa [ils] using hown) (World.grownBy.refl _ _))
end Go.Proofs.Ytcakcdolijgjeaa
