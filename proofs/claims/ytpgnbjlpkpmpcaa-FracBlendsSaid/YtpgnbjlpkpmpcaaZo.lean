import Derived.Test.YtpgnbjlpkpmpcaaZn
import Derived.Deep.DeepCutAuto
namespace Go.Proofs.Ytpgnbjlpkpmpcaa.R
open Go.RowKit Go.Proofs.Ytpgnbjlpkpmpcaa.N
/-- a store of a fraction leaves the cells of other blocks -/
theorem keep2 {w : World} {s : Nat} {p : Addr} {v : Value} (h : w.cell? p = some v) (hp : s ≠ p.block) (u1 u2 : Value) : ((w.setCell ⟨s, 0, none⟩ u1).setCell ⟨s, 1, none⟩ u2).cell? p = some v := by
  have n0 : (⟨s, 0, none⟩ : Addr) ≠ p := by intro e; exact hp (by rw [← e])
  have n1 : (⟨s, 1, none⟩ : Addr) ≠ p := by intro e; exact hp (by rw [← e])
  rw [World.cell?_setCell_other (h := n1), World.cell?_setCell_other (h := n0)]; exact h
theorem got0 {w : World} {s : Nat} {v : Value} (h : w.cell? ⟨s, 0, none⟩ = some v) (u1 u2 : Value) : ((w.setCell ⟨s, 0, none⟩ u1).setCell ⟨s, 1, none⟩ u2).cell? ⟨s, 0, none⟩ = some u1 := by
  rw [World.cell?_setCell_other (h := by simp)]; exact World.cell?_setCell_same w _ u1 h
theorem got1 {w : World} {s : Nat} {v : Value} (h : w.cell? ⟨s, 1, none⟩ = some v) (u1 u2 : Value) : ((w.setCell ⟨s, 0, none⟩ u1).setCell ⟨s, 1, none⟩ u2).cell? ⟨s, 1, none⟩ = some u2 :=
  World.cell?_setCell_same _ _ u2 (by rw [World.cell?_setCell_other (h := by simp)]; exact h)
theorem size2 (w : World) (a b : Addr) (u v : Value) : ((w.setCell a u).setCell b v).heap.size = w.heap.size := by simp [go_sem]
/-- two variables with fractions, above the boxes of two fractions -/
def Rk (w0 w : World) (n d m q : Int) (f g : Nat) (a b c e : Int) : Prop := L2 w0 w n d m q ∧ ((w.cell? ⟨f, 0, none⟩ = some (.int .i64 a) ∧ w.cell? ⟨f, 1, none⟩ = some (.int .i64 b)) ∧ (w.cell? ⟨g, 0, none⟩ = some (.int .i64 c) ∧ w.cell? ⟨g, 1, none⟩ = some (.int .i64 e))) ∧ ((w.frozen? ⟨f, 0, none⟩ = false ∧ w.frozen? ⟨f, 1, none⟩ = false) ∧ (w.frozen? ⟨g, 0, none⟩ = false ∧ w.frozen? ⟨g, 1, none⟩ = false)) ∧ (w0.heap.size + 1 < f ∧ f < g)
theorem rk_step {w0 w w' : World} {n d m q : Int} {f g : Nat} {a b c e : Int} (h : Hid (Rk w0 w n d m q f g a b c e)) (hb : Below w.heap.size w w') : Hid (Rk w0 w' n d m q f g a b c e) := by
  obtain ⟨l, ⟨⟨c1, c2⟩, ⟨c3, c4⟩⟩, ⟨⟨f1, f2⟩, ⟨f3, f4⟩⟩, z⟩ := h.out
  exact hide ⟨(l2_step (hide l) hb).out, ⟨⟨kc hb c1, kc hb c2⟩, ⟨kc hb c3, kc hb c4⟩⟩, ⟨⟨kf hb c1 f1, kf hb c2 f2⟩, ⟨kf hb c3 f3, kf hb c4 f4⟩⟩, z⟩
theorem l2_set {w0 w : World} {n d m q : Int} (h : L2 w0 w n d m q) {f : Nat} (hf : w0.heap.size + 1 < f) (u v : Value) : L2 w0 ((w.setCell ⟨f, 0, none⟩ u).setCell ⟨f, 1, none⟩ v) n d m q := by
  obtain ⟨⟨c1, c2, c3, c4⟩, ⟨z1, z2⟩, b⟩ := h
  exact ⟨⟨keep2 c1 (by simp only []; omega) _ _, keep2 c2 (by simp only []; omega) _ _, keep2 c3 (by simp only []; omega) _ _, keep2 c4 (by simp only []; omega) _ _⟩, by rw [size2]; exact ⟨z1, z2⟩, bs (bs b (by simp only []; omega) _) (by simp only []; omega) _⟩
theorem rk_setf {w0 w : World} {n d m q : Int} {f g : Nat} {a b c e : Int} (h : Hid (Rk w0 w n d m q f g a b c e)) (x y : Int) : Hid (Rk w0 ((w.setCell ⟨f, 0, none⟩ (.int .i64 x)).setCell ⟨f, 1, none⟩ (.int .i64 y)) n d m q f g x y c e) := by
  obtain ⟨l, ⟨⟨c1, c2⟩, ⟨c3, c4⟩⟩, ⟨⟨f1, f2⟩, ⟨f3, f4⟩⟩, z⟩ := h.out
  refine hide ⟨l2_set l z.1 _ _, ⟨⟨got0 c1 _ _, got1 c2 _ _⟩, ⟨keep2 c3 (by simp only []; omega) _ _, keep2 c4 (by simp only []; omega) _ _⟩⟩, ?_, z⟩
  simp only [frozen_set]; exact ⟨⟨f1, f2⟩, ⟨f3, f4⟩⟩
theorem rk_setg {w0 w : World} {n d m q : Int} {f g : Nat} {a b c e : Int} (h : Hid (Rk w0 w n d m q f g a b c e)) (x y : Int) : Hid (Rk w0 ((w.setCell ⟨g, 0, none⟩ (.int .i64 x)).setCell ⟨g, 1, none⟩ (.int .i64 y)) n d m q f g a b x y) := by
  obtain ⟨l, ⟨⟨c1, c2⟩, ⟨c3, c4⟩⟩, ⟨⟨f1, f2⟩, ⟨f3, f4⟩⟩, z⟩ := h.out
  refine hide ⟨l2_set l (by omega) _ _, ⟨⟨keep2 c1 (by simp only []; omega) _ _, keep2 c2 (by simp only []; omega) _ _⟩, ⟨got0 c3 _ _, got1 c4 _ _⟩⟩, ?_, z⟩
  simp only [frozen_set]; exact ⟨⟨f1, f2⟩, ⟨f3, f4⟩⟩
theorem rk_new {w0 w w' : World} {n d m q a b c e : Int} {f : Nat} (h : Hid (L2 w0 w n d m q)) (hf : f = w.heap.size) (hb : Below (w.alloc (.cells #[.int .i64 a, .int .i64 b] 23)).heap.size (w.alloc (.cells #[.int .i64 a, .int .i64 b] 23)) w') : Hid (Rk w0 (w'.alloc (.cells #[.int .i64 c, .int .i64 e] 23)) n d m q f w'.heap.size a b c e) := by
  subst hf
  have c1 : (w.alloc (.cells #[.int .i64 a, .int .i64 b] 23)).cell? ⟨w.heap.size, 0, none⟩ = some (.int .i64 a) := by simp [go_sem]
  have c2 : (w.alloc (.cells #[.int .i64 a, .int .i64 b] 23)).cell? ⟨w.heap.size, 1, none⟩ = some (.int .i64 b) := by simp [go_sem]
  have f1 : (w.alloc (.cells #[.int .i64 a, .int .i64 b] 23)).frozen? ⟨w.heap.size, 0, none⟩ = false := by simp [go_sem]
  have f2 : (w.alloc (.cells #[.int .i64 a, .int .i64 b] 23)).frozen? ⟨w.heap.size, 1, none⟩ = false := by simp [go_sem]
  have hl := l2_step (l2_step h (ba (Below.refl _ _) (.cells #[.int .i64 a, .int .i64 b] 23))) hb
  have hn := ba (Below.refl w'.heap.size w') (.cells #[.int .i64 c, .int .i64 e] 23)
  have hz := hb.size
  have hs : w.heap.size < (w.alloc (.cells #[.int .i64 a, .int .i64 b] 23)).heap.size := by simp
  refine hide ⟨(l2_step hl hn).out, ⟨⟨kc hn (kc hb c1), kc hn (kc hb c2)⟩, ⟨by simp [go_sem], by simp [go_sem]⟩⟩, ⟨⟨kf hn (kc hb c1) (kf hb c1 f1), kf hn (kc hb c2) (kf hb c2 f2)⟩, ⟨by simp [go_sem], by simp [go_sem]⟩⟩, h.out.2.1.2, by omega⟩
end Go.Proofs.Ytpgnbjlpkpmpcaa.R
