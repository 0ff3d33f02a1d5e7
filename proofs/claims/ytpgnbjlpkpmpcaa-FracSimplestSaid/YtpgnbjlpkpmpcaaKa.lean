import Derived.Test.YtpgnbjlpkpmpcaaEc
import Derived.Test.YtpgnbjlpkpmpcaaZu
import Derived.Test.YtpgnbjlpkpmpcaaZm
set_option linter.unusedVariables false
namespace Go.Proofs.Ytpgnbjlpkpmpcaa.R
open Go.RowKit Go.Proofs.Ytpgnbjlpkpmpcaa.N
theorem pos_bq {n d : Int} (h1 : 1 ≤ n) (h2 : n ≤ 1000000000) (h3 : 1 ≤ d) (h4 : d ≤ 1000000000) : Bq 2 (Rat.divInt n d) := by
  obtain ⟨k, k1, e1, e2⟩ := M.parts (n := n) (d := d) (by omega)
  have hs := (M.divInt_num_sign (u := n) (D := d) (by omega)).2.2 (by omega)
  have hd := (Rat.divInt n d).den_pos
  have a1 : (Rat.divInt n d).num ≤ k * (Rat.divInt n d).num := by
    have := Int.mul_le_mul_of_nonneg_right (show 1 ≤ k by omega) (show 0 ≤ (Rat.divInt n d).num by omega); omega
  have a2 : ((Rat.divInt n d).den : Int) ≤ k * ((Rat.divInt n d).den : Int) := by
    have := Int.mul_le_mul_of_nonneg_right (show 1 ≤ k by omega) (show 0 ≤ ((Rat.divInt n d).den : Int) by omega); omega
  unfold Bq
  rw [b2]
  omega
theorem sub_div {L n d : Int} (hd : 1 ≤ d) : (L : Rat) - Rat.divInt n d = Rat.divInt (L * d - n) d := by
  have e : (L : Rat) = Rat.divInt L 1 := by rw [Rat.divInt_eq_div]; grind
  rw [e, ← M.sub_is (by decide) (by omega)]
  congr 1 <;> omega
theorem div_sub {L n d : Int} (hd : 1 ≤ d) : Rat.divInt n d - (L : Rat) = Rat.divInt (n - L * d) d := by
  have e : (L : Rat) = Rat.divInt L 1 := by rw [Rat.divInt_eq_div]; grind
  rw [e, ← M.sub_is (by omega) (by decide)]
  congr 1
  · rw [Int.neg_mul]; omega
  · omega
theorem inv_div {n d : Int} (o : Rat) (ho : o = ((1 : Int) : Rat)) : o / Rat.divInt n d = Rat.divInt d n := by
  have e1 : o = Rat.divInt 1 1 := by rw [ho]; decide
  rw [e1, ← M.div_is, Int.one_mul, Int.one_mul]
theorem add_div {L x y : Int} (hx : x ≠ 0) : (L : Rat) + Rat.divInt y x = Rat.divInt (y + L * x) x := by
  have e : (L : Rat) = Rat.divInt L 1 := by rw [Rat.divInt_eq_div]; grind
  rw [e, Rat.divInt_add_divInt _ _ (by decide) hx]
  congr 1
  · omega
  · omega
theorem intq (L : Int) : (L : Rat) = Rat.divInt L 1 := by rw [Rat.divInt_eq_div]; grind
/-- what simple answers above zero -/
def SqRet (w : World) (n d m q : Int) (e : Ending) (w' : World) : Prop := ∃ (x y : Int) (v : Value), e = .returned v ∧ RQ w' v (Rat.divInt x y) ∧ M.Sp n d m q x y ∧ Below w.heap.size w w'
/-- the result's variable and the two boxes -/
def P2 (w0 w : World) (va vb : Value) (a b : Rat) : Prop := R3 w0 (w0.heap.size + 1 + 1) w ∧ QA w w0.heap.size va a ∧ QA w (w0.heap.size + 1) vb b
theorem p2_step {w0 w w' : World} {va vb : Value} {a b : Rat} (h : Hid (P2 w0 w va vb a b)) (hb : Below w.heap.size w w') : Hid (P2 w0 w' va vb a b) :=
  hide ⟨(r3_step (hide h.out.1) hb).out, (qa_step (hide h.out.2.1) hb).out, (qa_step (hide h.out.2.2) hb).out⟩
theorem p2_drew {w0 w : World} {va vb : Value} {a b : Rat} (h : Hid (P2 w0 w va vb a b)) : Hid (P2 w0 w.drew va vb a b) :=
  hide ⟨(r3_drew (hide h.out.1)).out, h.out.2.1, h.out.2.2⟩
theorem p2_new (w : World) (s1 s2 : Bool) (a b c d : Option Addr) (la ca lb cb lc cc ld cd : Nat) (p q : Rat) (hp : RQ w (.agg #[.bool s1, .slice a la ca, .slice b lb cb]) p) (hq : RQ w (.agg #[.bool s2, .slice c lc cc, .slice d ld cd]) q) :
    Hid (P2 w (boxed w s1 s2 a b c d la ca lb cb lc cc ld cd) (.agg #[.bool s1, .slice a la ca, .slice b lb cb]) (.agg #[.bool s2, .slice c lc cc, .slice d ld cd]) p q) := by
  have hb : Below w.heap.size w (boxed w s1 s2 a b c d la ca lb cb lc cc ld cd) := by unfold boxed; exact ba (ba (ba (Below.refl _ _) _) _) _
  obtain ⟨c0, c1, c2, c3, c4, c5⟩ := boxed_cells w s1 s2 a b c d la ca lb cb lc cc ld cd _ rfl
  exact hide ⟨(boxed_r3 w s1 s2 a b c d la ca lb cb lc cc ld cd).out, ⟨hp.below hb, ⟨_, _, _, _, _, _, _, rfl, c0, c1, c2⟩⟩, ⟨hq.below hb, ⟨_, _, _, _, _, _, _, rfl, c3, c4, c5⟩⟩⟩
theorem p2_a {w0 w : World} {b1 : Bool} {x y : Option Addr} {l1 c1 l2 c2 : Nat} {vb : Value} {a b : Rat} (h : Hid (P2 w0 w (.agg #[.bool b1, .slice x l1 c1, .slice y l2 c2]) vb a b)) : RQ w (.agg #[.bool b1, .slice x l1 c1, .slice y l2 c2]) a ∧ w.cell? ⟨w0.heap.size, 0, none⟩ = some (.bool b1) ∧ w.cell? ⟨w0.heap.size, 1, none⟩ = some (.slice x l1 c1) ∧ w.cell? ⟨w0.heap.size, 2, none⟩ = some (.slice y l2 c2) := ⟨h.out.2.1.1, c3_get h.out.2.1.2⟩
theorem p2_b {w0 w : World} {b1 : Bool} {x y : Option Addr} {l1 c1 l2 c2 : Nat} {va : Value} {a b : Rat} (h : Hid (P2 w0 w va (.agg #[.bool b1, .slice x l1 c1, .slice y l2 c2]) a b)) : RQ w (.agg #[.bool b1, .slice x l1 c1, .slice y l2 c2]) b ∧ w.cell? ⟨w0.heap.size + 1, 0, none⟩ = some (.bool b1) ∧ w.cell? ⟨w0.heap.size + 1, 1, none⟩ = some (.slice x l1 c1) ∧ w.cell? ⟨w0.heap.size + 1, 2, none⟩ = some (.slice y l2 c2) := ⟨h.out.2.2.1, c3_get h.out.2.2.2⟩
theorem p2_r {w0 w : World} {va vb : Value} {a b : Rat} (h : Hid (P2 w0 w va vb a b)) : Hid (R3 w0 (w0.heap.size + 1 + 1) w) := hide h.out.1
theorem qa_rq {w : World} {s : Nat} {v : Value} {q : Rat} (h : Hid (QA w s v q)) : RQ w v q := h.out.1
theorem qa_new {w : World} {q : Rat} {b : Bool} {x y : Option Addr} {l1 c1 l2 c2 : Nat} (hr : RQ w (.agg #[.bool b, .slice x l1 c1, .slice y l2 c2]) q) : Hid (QA (w.alloc (.cells #[.bool b, .slice x l1 c1, .slice y l2 c2] 43)) w.heap.size (.agg #[.bool b, .slice x l1 c1, .slice y l2 c2]) q) :=
  hide ⟨hr.below (ba (Below.refl _ _) _), c3_new _ _ _ _ _ _ _ _⟩
theorem qa_get {w : World} {s : Nat} {b : Bool} {x y : Option Addr} {l1 c1 l2 c2 : Nat} {q : Rat} (h : Hid (QA w s (.agg #[.bool b, .slice x l1 c1, .slice y l2 c2]) q)) : (w.cell? ⟨s, 0, none⟩ = some (.bool b) ∧ w.cell? ⟨s, 1, none⟩ = some (.slice x l1 c1) ∧ w.cell? ⟨s, 2, none⟩ = some (.slice y l2 c2)) := c3_get h.out.2
theorem down_b (p : Rat) (vp : Value) (w : World) (hp : RQ w vp p) (bp : Hid (Bq 2 p)) (z : Rat) (hz : Hid (z = ((p.num / (p.den : Int) : Int) : Rat))) : Calls Try.prog 99 #[vp] w (RetQ w z) := down_q 2 p vp w hp bp.out half2 z hz
theorem int_b (n : Int) (w : World) (h : In64 n) (q : Rat) (hq : Hid (q = (n : Rat))) : Calls Try.prog 77 #[.int .i64 n] w (RetQ w q) := by
  rw [hq.out]; exact int_q n w h.1 h.2
end Go.Proofs.Ytpgnbjlpkpmpcaa.R
