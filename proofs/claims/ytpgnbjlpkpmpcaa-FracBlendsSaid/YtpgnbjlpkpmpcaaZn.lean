import Derived.Test.YtpgnbjlpkpmpcaaZj
import Derived.Test.YtpgnbjlpkpmpcaaZk
import Derived.Test.YtpgnbjlpkpmpcaaZl
import Derived.Test.YtpgnbjlpkpmpcaaZm
namespace Go.Proofs.Ytpgnbjlpkpmpcaa.R
open Go.RowKit Go.Proofs.Ytpgnbjlpkpmpcaa.N
set_option maxRecDepth 20000 in
set_option maxHeartbeats 2000000 in
theorem rdiv_zero (n d q : Int) (w : World) (hv1 : Hid (M.okB n d = true)) (hv2 : Hid (M.okB 0 q = true)) : Calls Try.prog 35 #[.agg #[.int .i64 n, .int .i64 d], .agg #[.int .i64 0, .int .i64 q]] w fun e w' => e = .returned (.tuple #[.agg #[.int .i64 0, .int .i64 0], .int .i64 4]) ∧ Below w.heap.size w w' := by
  go_enter Try.func35, Try.ntmps35
  go_wp2_with fail
  refine (rvalid_is n d _ _ hv1).mono ?_
  rintro e w1 ⟨rfl, hb1⟩
  have hk := k2_step (k2_new w n d 0 q) hb1; clear hb1
  obtain ⟨⟨c1, c2, c3, c4⟩, _, _⟩ := hk.out
  go_wp2_with fail
  refine (rvalid_is 0 q _ _ hv2).mono ?_
  rintro e w2 ⟨rfl, hb2⟩
  have hk := k2_step hk hb2; clear hb2 c1 c2 c3 c4
  obtain ⟨⟨c1, c2, c3, c4⟩, ⟨q0, q1, f0, f1⟩, _⟩ := hk.out
  go_wp2_with fail
  refine bodyPost_ret (v := .tuple #[.agg #[.int .i64 0, .int .i64 0], .int .i64 4]) (by simp [results, Try.results35, go_sem, *]) rfl ⟨rfl, ?_⟩
  exact k2_end hk _ _
/-- a number and its error, where both fractions are valid; else a bad argument -/
def Duo (ok : Bool) (a x z : Int) : Prop := if ok = true then x = a ∧ z = 0 else x = 0 ∧ z = 2
theorem duo_ex (ok : Bool) (a : Int) : ∃ x z, Hid (Duo ok a x z) := by
  cases ok
  · exact ⟨0, 2, hide ⟨rfl, rfl⟩⟩
  · exact ⟨a, 0, hide ⟨rfl, rfl⟩⟩
theorem duo_no {ok : Bool} {a x z : Int} (h : Hid (Duo ok a x z)) (h0 : ok = false) : x = 0 ∧ z = 2 := by
  have := h.out; unfold Duo at this; rw [h0] at this; simpa using this
theorem duo_yes {ok : Bool} {a x z : Int} (h : Hid (Duo ok a x z)) (h0 : ok = true) : Hid (x = a) ∧ z = 0 := by
  have := h.out; unfold Duo at this; rw [if_pos h0] at this; exact ⟨hide this.1, this.2⟩
theorem cmp_is (n d m q x z : Int) (w : World) (i : Hid (Ins n d m q)) (h : Hid (Duo (M.okB n d && M.okB m q) (Int.sign (n * q - m * d)) x z)) :
    Calls Try.prog 26 #[.agg #[.int .i64 n, .int .i64 d], .agg #[.int .i64 m, .int .i64 q]] w fun e w' => e = .returned (.tuple #[.int .i64 x, .int .i64 z]) ∧ Below w.heap.size w w' := by
  cases c : (M.okB n d && M.okB m q)
  · obtain ⟨rfl, rfl⟩ := duo_no h c
    exact cmp_no n d m q w i.out.1.1 i.out.1.2 i.out.2.1 i.out.2.2 c
  · obtain ⟨e1, rfl⟩ := duo_yes h c
    obtain ⟨c1, c2⟩ := both_yes c
    exact cmp_yes n d m q w c1 c2 x e1
theorem rcmp_is (n d m q x z : Int) (w : World) (h : Hid (Duo (M.okB n d && M.okB m q) (Int.sign (n * q - m * d)) x z)) :
    Calls Try.prog 27 #[.agg #[.int .i64 n, .int .i64 d], .agg #[.int .i64 m, .int .i64 q]] w fun e w' => e = .returned (.tuple #[.int .i64 x, .int .i64 z]) ∧ Below w.heap.size w w' := by
  cases c : (M.okB n d && M.okB m q)
  · obtain ⟨rfl, rfl⟩ := duo_no h c
    rcases both_no c with c1 | ⟨c1, c2⟩
    · exact rcmp_noa n d m q w (hide c1)
    · exact rcmp_nob n d m q w (hide c1) (hide c2)
  · obtain ⟨e1, rfl⟩ := duo_yes h c
    obtain ⟨c1, c2⟩ := both_yes c
    exact rcmp_yes n d m q x w (hide c1) (hide c2) e1
/-- the answer that a rational number gives, of two fractions -/
def Ans (n d m q : Int) (r : Rat) (x y z : Int) : Prop := Tri (M.okB n d && M.okB m q) (M.aN r) (M.aD r) (M.aE r) x y z
theorem ans_ex (n d m q : Int) (r : Rat) : ∃ x y z, Hid (Ans n d m q r x y z) := tri_ex _ _ _ _
theorem is_of {n d x y z : Int} {r : Rat} (hd : d ≠ 0) (hr : Rat.divInt n d = r) (h : Hid (x = M.aN r) ∧ Hid (y = M.aD r) ∧ Hid (z = M.aE r)) : Hid (x = M.nN n d) ∧ Hid (y = M.nD n d) ∧ Hid (z = M.nE n d) := by
  obtain ⟨a, b, c⟩ := M.new_is hd hr
  rw [a, b, c]; exact h
theorem den_ne {n d m q : Int} (h1 : M.okB n d = true) (h2 : M.okB m q = true) : d * q ≠ 0 := by
  have := M.okB_pos h1; have := M.okB_pos h2
  exact Int.mul_ne_zero (by omega) (by omega)
theorem add_is (n d m q x y z : Int) (w : World) (i : Hid (Ins n d m q)) (h : Hid (Ans n d m q (Rat.divInt n d + Rat.divInt m q) x y z)) :
    Calls Try.prog 28 #[.agg #[.int .i64 n, .int .i64 d], .agg #[.int .i64 m, .int .i64 q]] w fun e w' => e = .returned (.tuple #[.agg #[.int .i64 x, .int .i64 y], .int .i64 z]) ∧ Below w.heap.size w w' := by
  cases c : (M.okB n d && M.okB m q)
  · obtain ⟨rfl, rfl, rfl⟩ := tri_no h c
    exact add_no n d m q w i.out.1.1 i.out.1.2 i.out.2.1 i.out.2.2 c
  · obtain ⟨c1, c2⟩ := both_yes c
    obtain ⟨e1, e2, e3⟩ := is_of (den_ne c1 c2) (M.add_is (M.okB_pos c1) (M.okB_pos c2)) (tri_yes h c)
    exact add_yes n d m q x y z w c1 c2 e1 e2 e3
theorem radd_is (n d m q x y z : Int) (w : World) (h : Hid (Ans n d m q (Rat.divInt n d + Rat.divInt m q) x y z)) :
    Calls Try.prog 29 #[.agg #[.int .i64 n, .int .i64 d], .agg #[.int .i64 m, .int .i64 q]] w fun e w' => e = .returned (.tuple #[.agg #[.int .i64 x, .int .i64 y], .int .i64 z]) ∧ Below w.heap.size w w' := by
  cases c : (M.okB n d && M.okB m q)
  · obtain ⟨rfl, rfl, rfl⟩ := tri_no h c
    rcases both_no c with c1 | ⟨c1, c2⟩
    · exact radd_noa n d m q w (hide c1)
    · exact radd_nob n d m q w (hide c1) (hide c2)
  · obtain ⟨e1, e2, e3⟩ := tri_yes h c
    obtain ⟨c1, c2⟩ := both_yes c
    exact radd_yes n d m q x y z _ w (hide c1) (hide c2) (hide rfl) e1 e2 e3
theorem sub_is (n d m q x y z : Int) (w : World) (i : Hid (Ins n d m q)) (h : Hid (Ans n d m q (Rat.divInt n d - Rat.divInt m q) x y z)) :
    Calls Try.prog 30 #[.agg #[.int .i64 n, .int .i64 d], .agg #[.int .i64 m, .int .i64 q]] w fun e w' => e = .returned (.tuple #[.agg #[.int .i64 x, .int .i64 y], .int .i64 z]) ∧ Below w.heap.size w w' := by
  cases c : (M.okB n d && M.okB m q)
  · obtain ⟨rfl, rfl, rfl⟩ := tri_no h c
    exact sub_no n d m q w i.out.1.1 i.out.1.2 i.out.2.1 i.out.2.2 c
  · obtain ⟨c1, c2⟩ := both_yes c
    obtain ⟨e1, e2, e3⟩ := is_of (den_ne c1 c2) (M.sub_is (M.okB_pos c1) (M.okB_pos c2)) (tri_yes h c)
    exact sub_yes n d m q x y z w c1 c2 e1 e2 e3
theorem rsub_is (n d m q x y z : Int) (w : World) (h : Hid (Ans n d m q (Rat.divInt n d - Rat.divInt m q) x y z)) :
    Calls Try.prog 31 #[.agg #[.int .i64 n, .int .i64 d], .agg #[.int .i64 m, .int .i64 q]] w fun e w' => e = .returned (.tuple #[.agg #[.int .i64 x, .int .i64 y], .int .i64 z]) ∧ Below w.heap.size w w' := by
  cases c : (M.okB n d && M.okB m q)
  · obtain ⟨rfl, rfl, rfl⟩ := tri_no h c
    rcases both_no c with c1 | ⟨c1, c2⟩
    · exact rsub_noa n d m q w (hide c1)
    · exact rsub_nob n d m q w (hide c1) (hide c2)
  · obtain ⟨e1, e2, e3⟩ := tri_yes h c
    obtain ⟨c1, c2⟩ := both_yes c
    exact rsub_yes n d m q x y z _ w (hide c1) (hide c2) (hide rfl) e1 e2 e3
theorem mul_is (n d m q x y z : Int) (w : World) (i : Hid (Ins n d m q)) (h : Hid (Ans n d m q (Rat.divInt n d * Rat.divInt m q) x y z)) :
    Calls Try.prog 32 #[.agg #[.int .i64 n, .int .i64 d], .agg #[.int .i64 m, .int .i64 q]] w fun e w' => e = .returned (.tuple #[.agg #[.int .i64 x, .int .i64 y], .int .i64 z]) ∧ Below w.heap.size w w' := by
  cases c : (M.okB n d && M.okB m q)
  · obtain ⟨rfl, rfl, rfl⟩ := tri_no h c
    exact mul_no n d m q w i.out.1.1 i.out.1.2 i.out.2.1 i.out.2.2 c
  · obtain ⟨c1, c2⟩ := both_yes c
    obtain ⟨e1, e2, e3⟩ := is_of (den_ne c1 c2) M.mul_is (tri_yes h c)
    exact mul_yes n d m q x y z w c1 c2 e1 e2 e3
theorem rmul_is (n d m q x y z : Int) (w : World) (h : Hid (Ans n d m q (Rat.divInt n d * Rat.divInt m q) x y z)) :
    Calls Try.prog 33 #[.agg #[.int .i64 n, .int .i64 d], .agg #[.int .i64 m, .int .i64 q]] w fun e w' => e = .returned (.tuple #[.agg #[.int .i64 x, .int .i64 y], .int .i64 z]) ∧ Below w.heap.size w w' := by
  cases c : (M.okB n d && M.okB m q)
  · obtain ⟨rfl, rfl, rfl⟩ := tri_no h c
    rcases both_no c with c1 | ⟨c1, c2⟩
    · exact rmul_noa n d m q w (hide c1)
    · exact rmul_nob n d m q w (hide c1) (hide c2)
  · obtain ⟨e1, e2, e3⟩ := tri_yes h c
    obtain ⟨c1, c2⟩ := both_yes c
    exact rmul_yes n d m q x y z _ w (hide c1) (hide c2) (hide rfl) e1 e2 e3
/-- a quotient: as above, but a zero below is an error of its own -/
def DivAns (n d m q : Int) (x y z : Int) : Prop := if m = 0 then Tri (M.okB n d && M.okB m q) 0 0 4 x y z else Ans n d m q (Rat.divInt n d / Rat.divInt m q) x y z
theorem div_ex (n d m q : Int) : ∃ x y z, Hid (DivAns n d m q x y z) := by
  by_cases h : m = 0
  · obtain ⟨x, y, z, k⟩ := tri_ex (M.okB n d && M.okB m q) 0 0 4
    exact ⟨x, y, z, hide (by unfold DivAns; rw [if_pos h]; exact k.out)⟩
  · obtain ⟨x, y, z, k⟩ := ans_ex n d m q (Rat.divInt n d / Rat.divInt m q)
    exact ⟨x, y, z, hide (by unfold DivAns; rw [if_neg h]; exact k.out)⟩
theorem div_is (n d m q x y z : Int) (w : World) (i : Hid (Ins n d m q)) (h : Hid (DivAns n d m q x y z)) :
    Calls Try.prog 34 #[.agg #[.int .i64 n, .int .i64 d], .agg #[.int .i64 m, .int .i64 q]] w fun e w' => e = .returned (.tuple #[.agg #[.int .i64 x, .int .i64 y], .int .i64 z]) ∧ Below w.heap.size w w' := by
  by_cases hm : m = 0
  · have k : Hid (Tri (M.okB n d && M.okB m q) 0 0 4 x y z) := hide (by have := h.out; unfold DivAns at this; rw [if_pos hm] at this; exact this)
    cases c : (M.okB n d && M.okB m q)
    · obtain ⟨rfl, rfl, rfl⟩ := tri_no k c
      exact Go.Proofs.Ytpgnbjlpkpmpcaa.div_no n d m q w i.out.1.1 i.out.1.2 i.out.2.1 i.out.2.2 c
    · obtain ⟨e1, e2, e3⟩ := tri_yes k c
      obtain ⟨c1, c2⟩ := both_yes c
      rw [e1.out, e2.out, e3.out]
      subst hm
      exact div_zero n d q w c1 c2
  · have k : Hid (Ans n d m q (Rat.divInt n d / Rat.divInt m q) x y z) := hide (by have := h.out; unfold DivAns at this; rw [if_neg hm] at this; exact this)
    cases c : (M.okB n d && M.okB m q)
    · obtain ⟨rfl, rfl, rfl⟩ := tri_no k c
      exact Go.Proofs.Ytpgnbjlpkpmpcaa.div_no n d m q w i.out.1.1 i.out.1.2 i.out.2.1 i.out.2.2 c
    · obtain ⟨c1, c2⟩ := both_yes c
      have hd : d * m ≠ 0 := Int.mul_ne_zero (by have := M.okB_pos c1; omega) hm
      obtain ⟨e1, e2, e3⟩ := is_of hd M.div_is (tri_yes k c)
      exact Go.Proofs.Ytpgnbjlpkpmpcaa.div_yes n d m q x y z w c1 c2 hm e1 e2 e3
theorem rdiv_is (n d m q x y z : Int) (w : World) (h : Hid (DivAns n d m q x y z)) :
    Calls Try.prog 35 #[.agg #[.int .i64 n, .int .i64 d], .agg #[.int .i64 m, .int .i64 q]] w fun e w' => e = .returned (.tuple #[.agg #[.int .i64 x, .int .i64 y], .int .i64 z]) ∧ Below w.heap.size w w' := by
  by_cases hm : m = 0
  · have k : Hid (Tri (M.okB n d && M.okB m q) 0 0 4 x y z) := hide (by have := h.out; unfold DivAns at this; rw [if_pos hm] at this; exact this)
    cases c : (M.okB n d && M.okB m q)
    · obtain ⟨rfl, rfl, rfl⟩ := tri_no k c
      rcases both_no c with c1 | ⟨c1, c2⟩
      · exact rdiv_noa n d m q w (hide c1)
      · exact rdiv_nob n d m q w (hide c1) (hide c2)
    · obtain ⟨e1, e2, e3⟩ := tri_yes k c
      obtain ⟨c1, c2⟩ := both_yes c
      rw [e1.out, e2.out, e3.out]
      subst hm
      exact rdiv_zero n d q w (hide c1) (hide c2)
  · have k : Hid (Ans n d m q (Rat.divInt n d / Rat.divInt m q) x y z) := hide (by have := h.out; unfold DivAns at this; rw [if_neg hm] at this; exact this)
    cases c : (M.okB n d && M.okB m q)
    · obtain ⟨rfl, rfl, rfl⟩ := tri_no k c
      rcases both_no c with c1 | ⟨c1, c2⟩
      · exact rdiv_noa n d m q w (hide c1)
      · exact rdiv_nob n d m q w (hide c1) (hide c2)
    · obtain ⟨e1, e2, e3⟩ := tri_yes k c
      obtain ⟨c1, c2⟩ := both_yes c
      exact rdiv_yes n d m q x y z _ w (hide c1) (hide c2) hm (hide rfl) e1 e2 e3
theorem neg_is (n d x y z : Int) (w : World) (i : Hid (In64 n ∧ In64 d)) (h : Hid (Tri (M.okB n d) (-n) d 0 x y z)) :
    Calls Try.prog 36 #[.agg #[.int .i64 n, .int .i64 d]] w fun e w' => e = .returned (.tuple #[.agg #[.int .i64 x, .int .i64 y], .int .i64 z]) ∧ Below w.heap.size w w' := by
  cases c : M.okB n d
  · obtain ⟨rfl, rfl, rfl⟩ := tri_no h c
    exact neg_no n d w i.out.1 i.out.2 c
  · obtain ⟨e1, e2, e3⟩ := tri_yes h c
    obtain ⟨k1, k2, k3⟩ := M.ok_new (M.neg_ok c)
    exact neg_yes n d x y z (-n) w c (hide rfl) (hide (e1.out.trans k1)) (hide (e2.out.trans k2)) (hide (e3.out.trans k3))
theorem rneg_is (n d x y z : Int) (w : World) (h : Hid (Tri (M.okB n d) (-n) d 0 x y z)) :
    Calls Try.prog 37 #[.agg #[.int .i64 n, .int .i64 d]] w fun e w' => e = .returned (.tuple #[.agg #[.int .i64 x, .int .i64 y], .int .i64 z]) ∧ Below w.heap.size w w' := by
  cases c : M.okB n d
  · obtain ⟨rfl, rfl, rfl⟩ := tri_no h c
    exact rneg_no n d w (hide c)
  · obtain ⟨e1, e2, e3⟩ := tri_yes h c
    rw [e2.out, e3.out]
    exact rneg_yes n d x w (hide c) e1
theorem abs_ok {n d : Int} (h : M.okB n d = true) : M.okB (n.natAbs : Int) d = true := by
  rw [M.okB_iff] at *; simp only [Int.natAbs_natCast]; omega
theorem abs_is (n d x y z : Int) (w : World) (i : Hid (In64 n ∧ In64 d)) (h : Hid (Tri (M.okB n d) (n.natAbs : Int) d 0 x y z)) :
    Calls Try.prog 38 #[.agg #[.int .i64 n, .int .i64 d]] w fun e w' => e = .returned (.tuple #[.agg #[.int .i64 x, .int .i64 y], .int .i64 z]) ∧ Below w.heap.size w w' := by
  cases c : M.okB n d
  · obtain ⟨rfl, rfl, rfl⟩ := tri_no h c
    exact abs_no n d w i.out.1 i.out.2 c
  · obtain ⟨e1, e2, e3⟩ := tri_yes h c
    obtain ⟨k1, k2, k3⟩ := M.ok_new (abs_ok c)
    exact abs_yes n d x y z _ w c (hide rfl) (hide (e1.out.trans k1)) (hide (e2.out.trans k2)) (hide (e3.out.trans k3))
theorem rabs_is (n d x y z : Int) (w : World) (h : Hid (Tri (M.okB n d) (n.natAbs : Int) d 0 x y z)) :
    Calls Try.prog 39 #[.agg #[.int .i64 n, .int .i64 d]] w fun e w' => e = .returned (.tuple #[.agg #[.int .i64 x, .int .i64 y], .int .i64 z]) ∧ Below w.heap.size w w' := by
  cases c : M.okB n d
  · obtain ⟨rfl, rfl, rfl⟩ := tri_no h c
    exact rabs_no n d w (hide c)
  · obtain ⟨e1, e2, e3⟩ := tri_yes h c
    rw [e2.out, e3.out]
    exact rabs_yes n d x w (hide c) e1
end Go.Proofs.Ytpgnbjlpkpmpcaa.R
