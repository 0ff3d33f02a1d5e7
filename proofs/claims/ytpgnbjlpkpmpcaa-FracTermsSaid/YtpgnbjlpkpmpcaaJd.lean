import Derived.Test.YtpgnbjlpkpmpcaaJc
set_option linter.unusedVariables false
namespace Go.Proofs.Ytpgnbjlpkpmpcaa.M
theorem rest_is {N D W R : Int} (hD : 1 ≤ D) (hR : R = N + -W * D) : Rat.divInt N D - (W : Rat) = Rat.divInt R D := by
  rw [← int_div W, ← sub_is (by omega) (by decide)]
  congr 1
  · rw [hR]; omega
  · omega
theorem back_is {D R : Int} : (1 : Rat) / Rat.divInt R D = Rat.divInt D R := by
  have e1 : (1 : Rat) = Rat.divInt 1 1 := by decide
  rw [e1, ← div_is, Int.one_mul, Int.one_mul]
end Go.Proofs.Ytpgnbjlpkpmpcaa.M
namespace Go.Proofs.Ytpgnbjlpkpmpcaa.R
open Go.RowKit Go.Proofs.Ytpgnbjlpkpmpcaa.N
/-- no digit of a Nat -/
def NoU (u : Value) : Prop := ∀ x, u ≠ .int .u32 x
theorem far_u {w w' : World} {r : Value} {b j x : Int} {p : Nat} {q : Nat} (hg : w.grownBy w' r.ownBlock) (ha : AllIn w r NoU) (c : w.cell? ⟨p, q, none⟩ = some (.int .u32 x)) : w'.cell? ⟨p, q, none⟩ = some (.int .u32 x) :=
  hg.cell c (fun e => ha p e.symm q _ c x rfl)
theorem RN.grownBy {w w' : World} {r v : Value} {n : Nat} (h : RN w v n) (hg : w.grownBy w' r.ownBlock) (ha : AllIn w r NoU) : RN w' v n := by
  obtain ⟨l, ao, cap, rfl, h2, h3, h4, h5⟩ := h
  refine ⟨l, ao, cap, rfl, h2, h3, ?_, h5⟩
  rcases h4 with h4 | ⟨b, off, rfl, h4⟩
  · exact .inl h4
  · exact .inr ⟨b, off, rfl, fun i hi => hg.cell (h4 i hi) (fun e => ha b e.symm _ _ (h4 i hi) _ rfl)⟩
theorem RQ.grownBy {w w' : World} {r v : Value} {q : Rat} (h : RQ w v q) (hg : w.grownBy w' r.ownBlock) (ha : AllIn w r NoU) : RQ w' v q := by
  obtain ⟨ao, la, ca, bo, lb, cb, rfl, h2, h3⟩ := h
  exact ⟨ao, la, ca, bo, lb, cb, rfl, h2.grownBy hg ha, h3.grownBy hg ha⟩
theorem c3_grown {w w' : World} {s : Nat} {v : Value} {row : Option Nat} (h : C3 w s v) (hg : w.grownBy w' row) (ne : some s ≠ row) : C3 w' s v := by
  obtain ⟨b, x, l1, c1, y, l2, c2, rfl, h0, h1, h2⟩ := h
  exact ⟨b, x, l1, c1, y, l2, c2, rfl, hg.cell h0 ne, hg.cell h1 ne, hg.cell h2 ne⟩
theorem fz_grown {w w' : World} {s : Nat} {v : Value} {row : Option Nat} (h : FZ w s) (c : C3 w s v) (hg : w.grownBy w' row) (ne : some s ≠ row) : FZ w' s := by
  have hs := c3_lt c
  exact ⟨(World.grownBy.frozen_far hg ⟨s, 0, none⟩ hs ne).trans h.1, (World.grownBy.frozen_far hg ⟨s, 1, none⟩ hs ne).trans h.2.1, (World.grownBy.frozen_far hg ⟨s, 2, none⟩ hs ne).trans h.2.2⟩
/-- a rational number in a variable of the call's own -/
def Qn (w0 w : World) (s : Nat) (v : Value) (q : Rat) : Prop := (w0.heap.size ≤ s ∧ Below w0.heap.size w0 w) ∧ QA w s v q ∧ FZ w s
theorem qn_step {w0 w w' : World} {s : Nat} {v : Value} {q : Rat} (h : Hid (Qn w0 w s v q)) (hb : Below w.heap.size w w') : Hid (Qn w0 w' s v q) := by
  obtain ⟨⟨z, b⟩, hq, hf⟩ := h.out
  exact hide ⟨⟨z, bt b hb⟩, (qa_step (hide hq) hb).out, fz_step hf hq.2 hb⟩
theorem qn_drew {w0 w : World} {s : Nat} {v : Value} {q : Rat} (h : Hid (Qn w0 w s v q)) : Hid (Qn w0 w.drew s v q) := by
  obtain ⟨⟨z, b⟩, hq, hf⟩ := h.out
  exact hide ⟨⟨z, b.drew⟩, hq, hf⟩
theorem qn_get {w0 w : World} {s : Nat} {b : Bool} {x y : Option Addr} {l1 c1 l2 c2 : Nat} {q : Rat} (h : Hid (Qn w0 w s (.agg #[.bool b, .slice x l1 c1, .slice y l2 c2]) q)) : (w.cell? ⟨s, 0, none⟩ = some (.bool b) ∧ w.cell? ⟨s, 1, none⟩ = some (.slice x l1 c1) ∧ w.cell? ⟨s, 2, none⟩ = some (.slice y l2 c2)) ∧
    (w.frozen? ⟨s, 0, none⟩ = false ∧ w.frozen? ⟨s, 1, none⟩ = false ∧ w.frozen? ⟨s, 2, none⟩ = false) := ⟨c3_get h.out.2.1.2, h.out.2.2⟩
theorem qn_form {w0 w : World} {s : Nat} {v : Value} {q : Rat} (h : Hid (Qn w0 w s v q)) : ∃ b x l1 c1 y l2 c2, v = .agg #[.bool b, .slice x l1 c1, .slice y l2 c2] := by
  obtain ⟨_, ⟨_, b, x, l1, c1, y, l2, c2, e, _⟩, _⟩ := h.out
  exact ⟨b, x, l1, c1, y, l2, c2, e⟩
theorem qn_rq {w0 w : World} {s : Nat} {v : Value} {q : Rat} (h : Hid (Qn w0 w s v q)) : RQ w v q := h.out.2.1.1
theorem qn_new {w0 w : World} {q : Rat} {b : Bool} {x y : Option Addr} {l1 c1 l2 c2 : Nat} (h : Below w0.heap.size w0 w) (hr : RQ w (.agg #[.bool b, .slice x l1 c1, .slice y l2 c2]) q) : Hid (Qn w0 (w.alloc (.cells #[.bool b, .slice x l1 c1, .slice y l2 c2] 43)) w.heap.size (.agg #[.bool b, .slice x l1 c1, .slice y l2 c2]) q) :=
  hide ⟨⟨h.size, ba h _⟩, ⟨hr.below (ba (Below.refl _ _) _), c3_new _ _ _ _ _ _ _ _⟩, fz_new _ _ _ _ _ _ _ _⟩
theorem qn_put {w0 w : World} {s : Nat} {v : Value} {q q' : Rat} {b : Bool} {x y : Option Addr} {l1 c1 l2 c2 : Nat} (h : Hid (Qn w0 w s v q)) (hr : RQ w (.agg #[.bool b, .slice x l1 c1, .slice y l2 c2]) q') : Hid (Qn w0 (put3 w s b x y l1 c1 l2 c2) s (.agg #[.bool b, .slice x l1 c1, .slice y l2 c2]) q') := by
  obtain ⟨⟨z, bl⟩, ⟨hq, hc⟩, hf⟩ := h.out
  exact hide ⟨⟨z, below_put bl z _ _ _ _ _ _ _⟩, ⟨rq_put hr hc _ _ _ _ _ _ _, c3_put_same hc _ _ _ _ _ _ _⟩, fz_put hf _ _ _ _ _ _ _⟩
/-- the row of the answers, above the variable, without digits in its block -/
def Row (w : World) (s : Nat) (v : Value) (k : Nat) (ns : Nat → Int) : Prop := w.ownsRow (s + 1) 3 1 v k (i64s ns k) ∧ AllIn w v NoU
theorem row_step {w w' : World} {s k : Nat} {v : Value} {ns : Nat → Int} (h : Hid (Row w s v k ns)) (hb : Below w.heap.size w w') : Hid (Row w' s v k ns) :=
  hide ⟨owns_below h.out.1 hb, fun g hg j u hu => h.out.2 g hg j u (by rw [← hb.cell (p := ⟨g, j, none⟩) (h.out.1.lt g hg).2]; exact hu)⟩
theorem row_put {w : World} {s k : Nat} {v : Value} {ns : Nat → Int} (h : Hid (Row w s v k ns)) (b : Bool) (x y : Option Addr) (l1 c1 l2 c2 : Nat) : Hid (Row (put3 w s b x y l1 c1 l2 c2) s v k ns) := by
  refine hide ⟨ownsRow_setCell_below (ownsRow_setCell_below (ownsRow_setCell_below h.out.1 (a := ⟨s, 0, none⟩) (by simp) _) (a := ⟨s, 1, none⟩) (by simp) _) (a := ⟨s, 2, none⟩) (by simp) _, fun g hg j u hu => h.out.2 g hg j u ?_⟩
  have hne := (h.out.1.lt g hg).1
  have ne : ∀ i, (⟨s, i, none⟩ : Addr) ≠ ⟨g, j, none⟩ := fun i e => by injection e with e1; omega
  unfold put3 at hu
  rw [World.cell?_setCell_other (h := ne _), World.cell?_setCell_other (h := ne _), World.cell?_setCell_other (h := ne _)] at hu
  exact hu
theorem row_nil (w : World) (s : Nat) (ns : Nat → Int) : Hid (Row w s (.slice none 0 0) 0 ns) := hide ⟨World.ownsRow_nil _ _ _ _, fun g hg => by simp [Value.ownBlock] at hg⟩
theorem qn_grown {w0 w w' : World} {s : Nat} {v r : Value} {q : Rat} {k : Nat} {ns : Nat → Int} (h : Hid (Qn w0 w s v q)) (hr : Hid (Row w s r k ns)) (hg : w.grownBy w' r.ownBlock) : Hid (Qn w0 w' s v q) := by
  obtain ⟨⟨z, b⟩, ⟨hq, hc⟩, hf⟩ := h.out
  have ne : some s ≠ r.ownBlock := fun e => by have := hr.out.1.lt s e.symm; omega
  exact hide ⟨⟨z, b.grown hg b.size (fun k hk => by have := hr.out.1.lt k hk; omega)⟩, ⟨hq.grownBy hg hr.out.2, c3_grown hc hg ne⟩, fz_grown hf hc hg ne⟩
/-- a variable that is newer than the row -/
theorem qa_grown {w w' : World} {s s' : Nat} {v r : Value} {q : Rat} {k : Nat} {ns : Nat → Int} (h : Hid (QA w s' v q)) (hr : Hid (Row w s r k ns)) (hg : w.grownBy w' r.ownBlock) (ne : some s' ≠ r.ownBlock) : Hid (QA w' s' v q) :=
  hide ⟨h.out.1.grownBy hg hr.out.2, c3_grown h.out.2 hg ne⟩
theorem qa_rq {w : World} {s : Nat} {v : Value} {q : Rat} (h : Hid (QA w s v q)) : RQ w v q := h.out.1
theorem qa_get {w : World} {s : Nat} {b : Bool} {x y : Option Addr} {l1 c1 l2 c2 : Nat} {q : Rat} (h : Hid (QA w s (.agg #[.bool b, .slice x l1 c1, .slice y l2 c2]) q)) : (w.cell? ⟨s, 0, none⟩ = some (.bool b) ∧ w.cell? ⟨s, 1, none⟩ = some (.slice x l1 c1) ∧ w.cell? ⟨s, 2, none⟩ = some (.slice y l2 c2)) := c3_get h.out.2
theorem qa_new {w : World} {q : Rat} {b : Bool} {x y : Option Addr} {l1 c1 l2 c2 : Nat} (hr : RQ w (.agg #[.bool b, .slice x l1 c1, .slice y l2 c2]) q) : Hid (QA (w.alloc (.cells #[.bool b, .slice x l1 c1, .slice y l2 c2] 43)) w.heap.size (.agg #[.bool b, .slice x l1 c1, .slice y l2 c2]) q) :=
  hide ⟨hr.below (ba (Below.refl _ _) _), c3_new _ _ _ _ _ _ _ _⟩
def RtRel (w0 : World) (s : Nat) (n d : Int) (last : Nat) (v : Value) (wr : World) : Prop := ∃ k va, k ≤ last ∧ lenOf v = k ∧ Qn w0 wr s va (Rat.divInt (M.eN n d k).1 (M.eN n d k).2) ∧ Row wr s v k (M.eT n d)
end Go.Proofs.Ytpgnbjlpkpmpcaa.R
