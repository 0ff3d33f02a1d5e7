import Derived.Test.YtpgnbjlpkpmpcaaI
import Derived.Test.YtpgnbjlpkpmpcaaH
import Derived.Test.YtpgnbjlpkpmpcaaFa
import Derived.Test.YtpgnbjlpkpmpcaaFs
import Derived.Test.YtpgnbjlpkpmpcaaFm
import Derived.Test.YtpgnbjlpkpmpcaaFd
import Derived.Deep.DeepCutAuto
import Derived.Test.YtpgnbjlpkpmpcaaM2
namespace Go.Proofs.Ytpgnbjlpkpmpcaa
open Go.RowKit
theorem half_third : Hid ((5 : Int) = M.nN (1 * 3 + 1 * 2) (2 * 3)) ∧ Hid ((6 : Int) = M.nD (1 * 3 + 1 * 2) (2 * 3)) ∧ Hid ((0 : Int) = M.nE (1 * 3 + 1 * 2) (2 * 3)) := by
  have h := M.new_ok (n := 5) (d := 6) (x := 5) (y := 6) (by decide) (by decide) (by decide) (by decide)
  exact ⟨hide (by rw [show (1 * 3 + 1 * 2 : Int) = 5 by decide, show (2 * 3 : Int) = 6 by decide, h.1]; decide), hide (by rw [show (1 * 3 + 1 * 2 : Int) = 5 by decide, show (2 * 3 : Int) = 6 by decide, h.2.1]; decide), hide (by rw [show (1 * 3 + 1 * 2 : Int) = 5 by decide, show (2 * 3 : Int) = 6 by decide, h.2.2])⟩
set_option maxHeartbeats 400000 in
theorem awake_any (w : World) : Calls Try.prog 22 #[] w fun e w' => e = .returned (.bool true) ∧ Below w.heap.size w w' := by
  go_enter Try.func22, Try.ntmps22
  go_wp2_with fail
  refine (add_yes 1 2 1 3 5 6 0 _ (by decide) (by decide) half_third.1 half_third.2.1 half_third.2.2).mono ?_
  rintro e w1 ⟨rfl, hb⟩
  have HB := hide hb; clear hb
  go_wp2_with fail
  go_ret
  exact ⟨rfl, bt HB.out (ba (Below.refl _ _) _)⟩
/-- the two boxes of a law of two fractions -/
def L2 (w0 w : World) (n d m q : Int) : Prop := (w.cell? ⟨w0.heap.size, 0, none⟩ = some (.int .i64 n) ∧ w.cell? ⟨w0.heap.size, 1, none⟩ = some (.int .i64 d) ∧ w.cell? ⟨w0.heap.size + 1, 0, none⟩ = some (.int .i64 m) ∧ w.cell? ⟨w0.heap.size + 1, 1, none⟩ = some (.int .i64 q)) ∧ (w0.heap.size < w.heap.size ∧ w0.heap.size + 1 < w.heap.size) ∧ Below w0.heap.size w0 w
theorem l2_step {w0 w w' : World} {n d m q : Int} (h : Hid (L2 w0 w n d m q)) (hb : Below w.heap.size w w') : Hid (L2 w0 w' n d m q) := by
  obtain ⟨⟨r1, r2, r3, r4⟩, ⟨z1, z2⟩, b⟩ := h.out
  exact hide ⟨⟨kc hb r1, kc hb r2, kc hb r3, kc hb r4⟩, ⟨Nat.lt_of_lt_of_le z1 hb.size, Nat.lt_of_lt_of_le z2 hb.size⟩, bt b hb⟩
theorem l2_start {w : World} {n d m q : Int} : Hid (L2 w ((w.alloc (.cells #[.int .i64 n, .int .i64 d] 23)).alloc (.cells #[.int .i64 m, .int .i64 q] 23)) n d m q) :=
  hide ⟨⟨by simp [go_sem], by simp [go_sem], by simp [go_sem], by simp [go_sem]⟩, ⟨by simp; omega, by simp⟩, ba (ba (Below.refl _ _) _) _⟩


theorem okB_bd {n d : Int} (h : M.okB n d = true) : In64 n ∧ In64 d := by
  have := okB_in h; exact ⟨⟨by omega, by omega⟩, ⟨by omega, by omega⟩⟩
/-- the last part of the law, over a valid fraction -/
def Neg2 (n d : Int) : Prop := (M.okB n d = true ∧ M.okB (-n) d = true) ∧ (-n = M.nN (-n) d ∧ d = M.nD (-n) d ∧ 0 = M.nE (-n) d) ∧ (n = M.nN n d ∧ d = M.nD n d ∧ 0 = M.nE n d)
theorem neg2_of {n d : Int} (h : M.okB n d = true) : Hid (Neg2 n d) := hide ⟨⟨h, M.neg_ok h⟩, M.ok_new (M.neg_ok h), M.ok_new h⟩

set_option maxHeartbeats 1000000 in
theorem back_no (n d m q : Int) (w : World) (i1 : In64 n) (i2 : In64 d) (i3 : In64 m) (i4 : In64 q) (h : (M.okB n d && M.okB m q) = false) :
    Calls Try.prog 6 #[.agg #[.int .i64 n, .int .i64 d], .agg #[.int .i64 m, .int .i64 q]] w fun e w' => e = .returned (.bool true) ∧ Below w.heap.size w w' := by
  have H := hide h; clear h
  have G := hide (And.intro (And.intro i1 i2) (And.intro i3 i4)); clear i1 i2 i3 i4
  have HL := l2_start (w := w) (n := n) (d := d) (m := m) (q := q)
  go_enter Try.func6, Try.ntmps6
  go_wp2_with fail
  refine (add_no n d m q _ G.out.1.1 G.out.1.2 G.out.2.1 G.out.2.2 H.out).mono ?_
  rintro e w1 ⟨rfl, hb⟩
  have HL1 := l2_step HL hb; clear hb
  obtain ⟨⟨r1, r2, r3, r4⟩, ⟨_, _⟩, _⟩ := HL1.out
  go_wp2_with fail
  refine (mul_no n d m q _ G.out.1.1 G.out.1.2 G.out.2.1 G.out.2.2 H.out).mono ?_
  rintro e w2 ⟨rfl, hb⟩
  have HL2 := l2_step HL1 (bt (ba (Below.refl _ _) _) hb); clear hb
  obtain ⟨⟨_, _, _, _⟩, ⟨_, _⟩, _⟩ := HL2.out
  go_wp2_with fail
  refine (sub_no n d m q _ G.out.1.1 G.out.1.2 G.out.2.1 G.out.2.2 H.out).mono ?_
  rintro e w3 ⟨rfl, hb⟩
  have HL3 := l2_step HL2 (bt (ba (Below.refl _ _) _) hb); clear hb
  obtain ⟨⟨_, _, _, _⟩, ⟨_, _⟩, _⟩ := HL3.out
  go_wp2_with fail
  refine (cmp_no n d m q _ G.out.1.1 G.out.1.2 G.out.2.1 G.out.2.2 H.out).mono ?_
  rintro e w4 ⟨rfl, hb⟩
  have HL4 := l2_step HL3 (bt (ba (Below.refl _ _) _) hb); clear hb
  obtain ⟨⟨_, _, _, _⟩, ⟨_, _⟩, _⟩ := HL4.out
  go_wp2_with fail
  cases ha : M.okB n d
  · have HA := hide ha; clear ha
    refine (neg_no n d _ G.out.1.1 G.out.1.2 HA.out).mono ?_
    rintro e w5 ⟨rfl, hb⟩
    have HL5 := l2_step HL4 hb; clear hb
    obtain ⟨⟨_, _, _, _⟩, ⟨_, _⟩, _⟩ := HL5.out
    go_wp2_with fail
    refine (awake_any _).mono ?_
    rintro e w6 ⟨rfl, hb⟩
    have HL6 := l2_step HL5 (bt (ba (Below.refl _ _) _) hb); clear hb
    go_wp2_with fail
    go_ret
    exact ⟨rfl, HL6.out.2.2⟩
  · have HN := neg2_of ha; clear ha
    refine (neg_yes n d (-n) d 0 (-n) _ HN.out.1.1 (hide rfl) (hide HN.out.2.1.1) (hide HN.out.2.1.2.1) (hide HN.out.2.1.2.2)).mono ?_
    rintro e w5 ⟨rfl, hb⟩
    have HL5 := l2_step HL4 hb; clear hb
    obtain ⟨⟨_, _, _, _⟩, ⟨_, _⟩, _⟩ := HL5.out
    go_wp2_with fail
    refine (neg_yes (-n) d n d 0 n _ HN.out.1.2 (hide (by omega)) (hide HN.out.2.2.1) (hide HN.out.2.2.2.1) (hide HN.out.2.2.2.2)).mono ?_
    rintro e w6 ⟨rfl, hb⟩
    have HL6 := l2_step HL5 (bt (ba (Below.refl _ _) _) hb); clear hb
    obtain ⟨⟨_, _, _, _⟩, ⟨_, _⟩, _⟩ := HL6.out
    go_wp2_with fail
    refine (awake_any _).mono ?_
    rintro e w7 ⟨rfl, hb⟩
    have HL7 := l2_step HL6 (bt (ba (Below.refl _ _) _) hb); clear hb
    go_wp2_with fail
    go_ret
    exact ⟨rfl, HL7.out.2.2⟩
end Go.Proofs.Ytpgnbjlpkpmpcaa
