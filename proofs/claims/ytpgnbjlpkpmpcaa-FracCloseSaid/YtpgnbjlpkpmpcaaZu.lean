import Derived.Test.YtpgnbjlpkpmpcaaZt
set_option linter.unusedVariables false
namespace Go.Proofs.Ytpgnbjlpkpmpcaa.R
open Go.RowKit Go.Proofs.Ytpgnbjlpkpmpcaa.N
theorem floor_divInt {n d : Int} (hd : 0 < d) : (Rat.divInt n d).num / ((Rat.divInt n d).den : Int) = n / d := by
  obtain ⟨k, hk, h1, h2⟩ := M.parts (n := n) hd
  generalize (Rat.divInt n d).num = x at *
  generalize ((Rat.divInt n d).den : Int) = y at *
  subst h1 h2
  exact (Int.mul_ediv_mul_of_pos _ _ hk).symm
theorem cast_div (f : Int) : (f : Rat) = Rat.divInt f 1 := by rw [Rat.divInt_eq_div]; grind
theorem rest_is (p : Rat) : p - ((p.num / (p.den : Int) : Int) : Rat) = Rat.divInt (p.num % (p.den : Int)) p.den := by
  have hp : 0 < (p.den : Int) := by have := p.den_pos; omega
  have e := M.sub_is (n := p.num) (d := p.den) (m := p.num / (p.den : Int)) (q := 1) hp (by omega)
  rw [M.divInt_num_den, ← cast_div] at e
  rw [← e, Int.mul_one, Int.mul_one, Int.emod_def, Int.neg_mul, Int.mul_comm (p.num / (p.den : Int)), ← Int.sub_eq_add_neg]
theorem half_rest {r d : Int} (hd : 0 < d) : Rat.divInt r d - ((1 : Int) : Rat) / ((2 : Int) : Rat) = Rat.divInt (2 * r - d) (2 * d) := by
  rw [of_divInt, ← M.sub_is hd (by omega)]
  congr 1 <;> omega
theorem sgn_divInt {u D : Int} (hD : 0 < D) : Int.sign (Rat.divInt u D).num = Int.sign u := by
  obtain ⟨a, b⟩ := M.divInt_num_sign (u := u) hD
  rcases Int.lt_trichotomy u 0 with h | h | h
  · rw [Int.sign_eq_neg_one_of_neg h, Int.sign_eq_neg_one_of_neg (a.2 h)]
  · have : (Rat.divInt u D).num = 0 := by omega
    rw [this, h]
  · rw [Int.sign_eq_one_of_pos h, Int.sign_eq_one_of_pos (b.2 h)]
theorem bq_div {n d : Int} (hd : 0 < d) (h1 : n.natAbs < B ^ 2) (h2 : d.natAbs < B ^ 2) : Bq 2 (Rat.divInt n d) := by
  obtain ⟨k, hk, e1, e2⟩ := M.parts (n := n) hd
  have k1 : (Rat.divInt n d).num.natAbs ≤ n.natAbs := by
    conv => rhs; rw [e1]
    rw [Int.natAbs_mul]; exact Nat.le_mul_of_pos_left _ (by omega)
  have k2 : (Rat.divInt n d).den ≤ d.natAbs := by
    conv => rhs; rw [e2]
    rw [Int.natAbs_mul]; simp only [Int.natAbs_natCast]; exact Nat.le_mul_of_pos_left _ (by omega)
  exact ⟨by omega, by omega⟩
def fl (p : Rat) : Int := p.num / (p.den : Int)
def rem (p : Rat) : Int := p.num % (p.den : Int)
def hi (p : Rat) : Int := if 0 < rem p then fl p + 1 else fl p
theorem pick_low {p : Rat} {m : Int} (h : M.upB p.den (fl p) (rem p) m = false) : M.rq p m = fl p := by
  unfold M.rq M.rnd; unfold fl rem at h; rw [h]; simp [fl]
theorem pick_high {p : Rat} {m : Int} (h : M.upB p.den (fl p) (rem p) m = decide (0 < rem p)) : M.rq p m = hi p := by
  unfold M.rq M.rnd hi; unfold fl rem at *; rw [h]; simp
theorem even_is (f : Int) : ((f / 2 : Int) : Rat) * ((2 : Int) : Rat) - (f : Rat) = ((f / 2 * 2 - f : Int) : Rat) := by
  rw [← Rat.intCast_mul, ← Rat.intCast_sub]
theorem half_fl (f : Int) : (((f : Rat) / ((2 : Int) : Rat)).num / (((f : Rat) / ((2 : Int) : Rat)).den : Int)) = f / 2 := by
  rw [of_divInt, floor_divInt (by omega)]
/-- sizes of a number that is rounded -/
def Mid (p : Rat) : Prop := p.num.natAbs ≤ 1000000000000000000 ∧ p.den ≤ 1000000000000000000
theorem mid_facts {p : Rat} (h : Mid p) : (-1000000000000000001 ≤ fl p ∧ fl p ≤ 1000000000000000000) ∧ (0 ≤ rem p ∧ rem p < p.den) ∧ (p.num < 0 ↔ fl p < 0) := by
  unfold Mid at h
  have hp : 0 < (p.den : Int) := by have := p.den_pos; omega
  have e := Int.mul_ediv_add_emod p.num p.den
  have e1 := Int.emod_nonneg p.num (b := (p.den : Int)) (by omega)
  have e2 := Int.emod_lt_of_pos p.num hp
  have k1 : -1000000000000000001 ≤ p.num / p.den := by rw [Int.le_ediv_iff_mul_le hp]; omega
  have k2 : p.num / p.den ≤ 1000000000000000000 := by
    have : p.num / p.den < 1000000000000000001 := by rw [Int.ediv_lt_iff_lt_mul hp]; omega
    omega
  have k3 : p.num / p.den < 0 ↔ p.num < 0 := by rw [Int.ediv_lt_iff_lt_mul hp]; omega
  exact ⟨⟨k1, k2⟩, ⟨e1, e2⟩, k3.symm⟩
theorem b2 : B ^ 2 = 18446744073709551616 := by decide
theorem mid_bq {p : Rat} (h : Mid p) : Bq 2 p := by unfold Mid at h; exact ⟨by rw [b2]; omega, by rw [b2]; omega⟩
theorem bq_mid_int {f : Int} (h : -4611686018427387904 ≤ f ∧ f ≤ 4611686018427387904) : Bq 2 (f : Rat) := bq_int ⟨by omega, by omega⟩
theorem qa_drew {w : World} {s : Nat} {v : Value} {q : Rat} (h : QA w s v q) : QA w.drew s v q := h
/-- all the variables of the rounding -/
def St (w0 w : World) (s5 s6 s7 : Nat) (vp vl vr : Value) (p l r h : Rat) : Prop :=
  R3 w0 (w0.heap.size + 1) w ∧ QA w w0.heap.size vp p ∧ QA w s5 vl l ∧ QA w s6 vr r ∧ ((∃ vh, QA w s7 vh h) ∧ FZ w s7) ∧ (w0.heap.size + 1 < s5 ∧ s5 < s6 ∧ s6 < s7)
theorem st_step {w0 w w' : World} {s5 s6 s7 : Nat} {vp vl vr : Value} {p l r h : Rat} (a : Hid (St w0 w s5 s6 s7 vp vl vr p l r h)) (hb : Below w.heap.size w w') : Hid (St w0 w' s5 s6 s7 vp vl vr p l r h) := by
  obtain ⟨a1, a2, a3, a4, ⟨⟨vh, a5⟩, a6⟩, a7⟩ := a.out
  exact hide ⟨(r3_step (hide a1) hb).out, (qa_step (hide a2) hb).out, (qa_step (hide a3) hb).out, (qa_step (hide a4) hb).out, ⟨⟨vh, (qa_step (hide a5) hb).out⟩, fz_step a6 a5.2 hb⟩, a7⟩
theorem st_drew {w0 w : World} {s5 s6 s7 : Nat} {vp vl vr : Value} {p l r h : Rat} (a : Hid (St w0 w s5 s6 s7 vp vl vr p l r h)) : Hid (St w0 w.drew s5 s6 s7 vp vl vr p l r h) := by
  obtain ⟨a1, a2, a3, a4, ⟨⟨vh, a5⟩, a6⟩, a7⟩ := a.out
  exact hide ⟨(r3_drew (hide a1)).out, a2, a3, a4, ⟨⟨vh, a5⟩, a6⟩, a7⟩
theorem r3_put {w0 w : World} {s t : Nat} (h : R3 w0 t w) (hs : w0.heap.size ≤ s) (b : Bool) (x y : Option Addr) (l1 c1 l2 c2 : Nat) : R3 w0 t (put3 w s b x y l1 c1 l2 c2) := by
  obtain ⟨⟨d0, d1, d2⟩, ⟨f0, f1, f2⟩, ht, hb⟩ := h
  have e0 : ∀ z, Value.bool b ≠ .int .u32 z := fun z h => by simp at h
  have e1 : ∀ z, Value.slice x l1 c1 ≠ .int .u32 z := fun z h => by simp at h
  have e2 : ∀ z, Value.slice y l2 c2 ≠ .int .u32 z := fun z h => by simp at h
  refine ⟨⟨((d0.set e0).set e1).set e2, ((d1.set e0).set e1).set e2, ((d2.set e0).set e1).set e2⟩, ?_, ht, below_put hb hs _ _ _ _ _ _ _⟩
  unfold put3; simp only [frozen_set]; exact ⟨f0, f1, f2⟩
theorem st_put {w0 w : World} {s5 s6 s7 : Nat} {vp vl vr : Value} {p l r h h' : Rat} (a : Hid (St w0 w s5 s6 s7 vp vl vr p l r h)) {b : Bool} {x y : Option Addr} {l1 c1 l2 c2 : Nat} (n : RQ w (.agg #[.bool b, .slice x l1 c1, .slice y l2 c2]) h') : Hid (St w0 (put3 w s7 b x y l1 c1 l2 c2) s5 s6 s7 vp vl vr p l r h') := by
  obtain ⟨a1, ⟨a2, a2'⟩, ⟨a3, a3'⟩, ⟨a4, a4'⟩, ⟨⟨vh, a5, a5'⟩, a6⟩, z1, z2, z3⟩ := a.out
  exact hide ⟨r3_put a1 (by omega) _ _ _ _ _ _ _, ⟨rq_put a2 a5' _ _ _ _ _ _ _, c3_put a2' (by omega) _ _ _ _ _ _ _⟩, ⟨rq_put a3 a5' _ _ _ _ _ _ _, c3_put a3' (by omega) _ _ _ _ _ _ _⟩, ⟨rq_put a4 a5' _ _ _ _ _ _ _, c3_put a4' (by omega) _ _ _ _ _ _ _⟩, ⟨⟨_, rq_put n a5' _ _ _ _ _ _ _, c3_put_same a5' _ _ _ _ _ _ _⟩, fz_put a6 _ _ _ _ _ _ _⟩, z1, z2, z3⟩
theorem cell_put {w : World} {s t i : Nat} {v : Value} (h : w.cell? ⟨t, i, none⟩ = some v) (hs : s ≠ t) (b : Bool) (x y : Option Addr) (l1 c1 l2 c2 : Nat) : (put3 w s b x y l1 c1 l2 c2).cell? ⟨t, i, none⟩ = some v := by
  have ne : ∀ j, (⟨s, j, none⟩ : Addr) ≠ ⟨t, i, none⟩ := fun j e => hs (by injection e)
  unfold put3
  rw [World.cell?_setCell_other (h := ne _), World.cell?_setCell_other (h := ne _), World.cell?_setCell_other (h := ne _)]; exact h
end Go.Proofs.Ytpgnbjlpkpmpcaa.R
