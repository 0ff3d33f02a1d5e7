import Derived.Test.YtpgnbjlpkpmpcaaA
import Derived.Test.YtpgnbjlpkpmpcaaM
namespace Go.Proofs.Ytpgnbjlpkpmpcaa
open Go.RowKit
theorem qs {P : Program} {f : FuncId} {args : Array Value} {w : World} {n : Nat} {v : Value}
    (h : Calls P f args (w.drewN n) fun e w' => e = .returned v ∧ w.drewN n = w') : Calls P f args (w.drewN n) fun e w'' => e = .returned v ∧ ∃ m, w'' = w.drewN m :=
  h.mono fun _ _ ⟨he, hm⟩ => ⟨he, n, hm.symm⟩
theorem ret_bool {a b : Bool} (h : a = b) : Ending.returned (.bool a) = .returned (.bool b) := by rw [h]
theorem below_drewN {B : Nat} {w w' : World} (h : Below B w w') (n : Nat) : Below B w (w'.drewN n) := ⟨h.os, h.tape, h.output, h.size, h.block⟩

theorem okB_no {n d : Int} (h : ¬ (1 ≤ d ∧ d ≤ 1000000000 ∧ -1000000000 ≤ n ∧ n ≤ 1000000000)) : false = M.okB n d := by
  symm; rw [Bool.eq_false_iff]; intro c; rw [M.okB_iff] at c; omega
theorem okB_yes {n d : Int} (h : 1 ≤ d ∧ d ≤ 1000000000 ∧ -1000000000 ≤ n ∧ n ≤ 1000000000) : ((Nat.gcd n.natAbs d.natAbs : Int) == 1) = M.okB n d := by
  rw [Bool.eq_iff_iff, M.okB_iff, beq_iff_eq]; omega

set_option maxHeartbeats 400000 in
theorem valid_any (n d : Int) (w : World) (h1 : -9223372036854775808 ≤ n) (h2 : n ≤ 9223372036854775807) (h3 : -9223372036854775808 ≤ d) (h4 : d ≤ 9223372036854775807) :
    Calls Try.prog 20 #[.agg #[.int .i64 n, .int .i64 d]] w fun e w' => e = .returned (.bool (M.okB n d)) ∧ Below w.heap.size w w' := by
  have hb0 : ∀ nq, Below w.heap.size w ((w.alloc (Obj.cells #[Value.int IntKind.i64 n, Value.int IntKind.i64 d] 23)).drewN nq) := fun nq => below_drewN ((Below.refl _ _).alloc (Nat.le_refl _) _) _
  have HB := hide hb0; clear hb0
  by_cases c1 : 1 ≤ d
  · by_cases c2 : d ≤ 1000000000
    · by_cases c3 : -1000000000 ≤ n
      · by_cases c4 : n ≤ 1000000000
        · have HF := hide (okB_yes ⟨c1, c2, c3, c4⟩)
          go_enter Try.func20, Try.ntmps20
          go_wp2_with fail
          go_quiet ((first | (go_at_call 74; exact qs (size_any _ _ (by omega) (by omega))) | (go_at_call 73; exact Calls.quiet_of (divisor_any _ _ _ (by omega) (by omega)))))
          go_wp2_with fail
          go_ret
          exact ⟨ret_bool HF.out, HB.out _⟩
        · have c' : decide (n ≤ 1000000000) = false := by simpa using c4
          go_enter Try.func20, Try.ntmps20
          go_wp2_with fail
          go_quiet (fail)
          go_wp2_with fail
          go_ret
          exact ⟨ret_bool (okB_no (by omega)), HB.out _⟩
      · have c' : decide (-1000000000 ≤ n) = false := by simpa using c3
        go_enter Try.func20, Try.ntmps20
        go_wp2_with fail
        go_quiet (fail)
        go_wp2_with fail
        go_ret
        exact ⟨ret_bool (okB_no (by omega)), HB.out _⟩
    · have c' : decide (d ≤ 1000000000) = false := by simpa using c2
      go_enter Try.func20, Try.ntmps20
      go_wp2_with fail
      go_quiet (fail)
      go_wp2_with fail
      go_ret
      exact ⟨ret_bool (okB_no (by omega)), HB.out _⟩
  · have c' : decide (1 ≤ d) = false := by simpa using c1
    go_enter Try.func20, Try.ntmps20
    go_wp2_with fail
    go_quiet (fail)
    go_wp2_with fail
    go_ret
    exact ⟨ret_bool (okB_no (by omega)), HB.out _⟩

theorem size_is (n : Int) (a : Nat) (w : World) (h1 : -9223372036854775808 ≤ n) (h2 : n ≤ 9223372036854775807) (h : Hid (a = n.natAbs)) :
    Calls Try.prog 74 #[.int .i64 n] w fun e w' => e = .returned (.int .u64 a) ∧ w = w' := by
  rw [h.out]; exact size_any n w h1 h2
theorem divisor_is (a b g : Nat) (w : World) (h1 : a < 18446744073709551616) (h2 : b < 18446744073709551616) (h : Hid (g = Nat.gcd a b)) :
    Calls Try.prog 73 #[.int .u64 a, .int .u64 b] w fun e w' => e = .returned (.int .u64 g) ∧ ∃ m, w' = w.drewN m := by
  rw [h.out]; exact divisor_any a b w h1 h2

set_option maxHeartbeats 400000 in
set_option maxRecDepth 100000 in
theorem new_any (n d : Int) (w : World) (h1 : -9223372036854775808 ≤ n) (h2 : n ≤ 9223372036854775807) (h3 : -9223372036854775808 ≤ d) (h4 : d ≤ 9223372036854775807) :
    Calls Try.prog 23 #[.int .i64 n, .int .i64 d] w fun e w' => e = .returned (.tuple #[.agg #[.int .i64 (M.nN n d), .int .i64 (M.nD n d)], .int .i64 (M.nE n d)]) ∧ Below w.heap.size w w' := by
  by_cases c0 : d = 0
  · subst c0
    go_enter Try.func23, Try.ntmps23
    go_wp2_with fail
    go_returns
    exact ⟨by simp [M.nN, M.nD, M.nE], (Below.refl _ _).alloc (Nat.le_refl _) _⟩
  · have cd : (d == 0) = false := by simpa using c0
    obtain ⟨a, ha⟩ : ∃ a, a = n.natAbs := ⟨_, rfl⟩
    obtain ⟨b, hb⟩ : ∃ b, b = d.natAbs := ⟨_, rfl⟩
    obtain ⟨g, hg⟩ : ∃ g, g = Nat.gcd a b := ⟨_, rfl⟩
    have hg1 : 1 ≤ g := by rw [hg]; exact Nat.gcd_pos_of_pos_right _ (by omega)
    have ha1 : (a : Int) < 18446744073709551616 := by omega
    have hb1 : (b : Int) < 18446744073709551616 := by omega
    have hgb : g ≤ b := by rw [hg]; exact Nat.gcd_le_right _ (by omega)
    have hgn : ¬ g = 0 := by omega
    have hgi : (1 : Int) ≤ (g : Int) := by omega
    obtain ⟨x, hx⟩ : ∃ x, x = a / g := ⟨_, rfl⟩
    obtain ⟨y, hy⟩ : ∃ y, y = b / g := ⟨_, rfl⟩
    have hxl : x ≤ a := by rw [hx]; exact Nat.div_le_self _ _
    have hyl : y ≤ b := by rw [hy]; exact Nat.div_le_self _ _
    have ex : IntKind.u64.wrap ((a : Int) / (g : Int)) = (x : Int) := by
      rw [IntKind.wrap_u64, hx, Int.natCast_ediv]
      rw [hx] at hxl
      have : ((a / g : Nat) : Int) ≤ a := by omega
      rw [Int.natCast_ediv] at this
      have h0 : 0 ≤ (a : Int) / (g : Int) := Int.ediv_nonneg (by omega) (by omega)
      omega
    have ey : IntKind.u64.wrap ((b : Int) / (g : Int)) = (y : Int) := by
      rw [IntKind.wrap_u64, hy, Int.natCast_ediv]
      rw [hy] at hyl
      have : ((b / g : Nat) : Int) ≤ b := by omega
      rw [Int.natCast_ediv] at this
      have h0 : 0 ≤ (b : Int) / (g : Int) := Int.ediv_nonneg (by omega) (by omega)
      omega
    have HX := hide hx; clear hx
    have HY := hide hy; clear hy
    have HA := hide ha; clear ha
    have HB := hide hb; clear hb
    have HG := hide hg; clear hg
    have hc : (1000000000 : Int) < (x : Int) ∨ ((x : Int) ≤ 1000000000 ∧ (1000000000 : Int) < (y : Int)) ∨ ((x : Int) ≤ 1000000000 ∧ (y : Int) ≤ 1000000000) := by omega
    rcases hc with c1 | ⟨c1, c2⟩ | ⟨c1, c2⟩
    · have HE := hide (M.new_err (n := n) (x := x) (y := y) c0 (by rw [HX.out, HG.out, HA.out, HB.out]) (by rw [HY.out, HG.out, HA.out, HB.out]) (.inl c1))
      go_enter Try.func23, Try.ntmps23
      go_wp2_with fail
      refine (size_is n a _ (by omega) (by omega) HA).mono ?_; rintro e w' ⟨rfl, rfl⟩
      go_wp2_with fail
      refine (size_is d b _ (by omega) (by omega) HB).mono ?_; rintro e w' ⟨rfl, rfl⟩
      go_wp2_with fail
      refine (divisor_is a b g _ (by omega) (by omega) HG).mono ?_; rintro e w' ⟨rfl, m, rfl⟩
      go_wp2_with fail
      go_region
      go_wp2_with fail
      go_returns
      exact ⟨by rw [HE.out.1, HE.out.2.1, HE.out.2.2], ((below_drewN ((Below.refl _ _).alloc (Nat.le_refl _) _) _).setCell (Nat.le_refl _) _).setCell (Nat.le_refl _) _⟩
    · have HE := hide (M.new_err (n := n) (x := x) (y := y) c0 (by rw [HX.out, HG.out, HA.out, HB.out]) (by rw [HY.out, HG.out, HA.out, HB.out]) (.inr c2))
      have c1' : decide ((1000000000 : Int) < (x : Int)) = false := by simpa using c1
      go_enter Try.func23, Try.ntmps23
      go_wp2_with fail
      refine (size_is n a _ (by omega) (by omega) HA).mono ?_; rintro e w' ⟨rfl, rfl⟩
      go_wp2_with fail
      refine (size_is d b _ (by omega) (by omega) HB).mono ?_; rintro e w' ⟨rfl, rfl⟩
      go_wp2_with fail
      refine (divisor_is a b g _ (by omega) (by omega) HG).mono ?_; rintro e w' ⟨rfl, m, rfl⟩
      go_wp2_with fail
      go_region
      go_wp2_with fail
      go_returns
      exact ⟨by rw [HE.out.1, HE.out.2.1, HE.out.2.2], ((below_drewN ((Below.refl _ _).alloc (Nat.le_refl _) _) _).setCell (Nat.le_refl _) _).setCell (Nat.le_refl _) _⟩
    · have HE := hide (M.new_ok (n := n) (x := x) (y := y) c0 (by rw [HX.out, HG.out, HA.out, HB.out]) (by rw [HY.out, HG.out, HA.out, HB.out]) ⟨c1, c2⟩)
      have c1' : decide ((1000000000 : Int) < (x : Int)) = false := by simpa using c1
      have c2' : decide ((1000000000 : Int) < (y : Int)) = false := by simpa using c2
      have hd : (decide (n < 0) = true ∧ decide (d < 0) = true) ∨ (decide (n < 0) = true ∧ decide (d < 0) = false) ∨ (decide (n < 0) = false ∧ decide (d < 0) = true) ∨ (decide (n < 0) = false ∧ decide (d < 0) = false) := by
        simp only [decide_eq_true_eq, decide_eq_false_iff_not]; omega
      rcases hd with ⟨d1, d2⟩ | ⟨d1, d2⟩ | ⟨d1, d2⟩ | ⟨d1, d2⟩
      all_goals
        go_enter Try.func23, Try.ntmps23
        go_wp2_with fail
        refine (size_is n a _ (by omega) (by omega) HA).mono ?_; rintro e w' ⟨rfl, rfl⟩
        go_wp2_with fail
        refine (size_is d b _ (by omega) (by omega) HB).mono ?_; rintro e w' ⟨rfl, rfl⟩
        go_wp2_with fail
        refine (divisor_is a b g _ (by omega) (by omega) HG).mono ?_; rintro e w' ⟨rfl, m, rfl⟩
        go_wp2_with fail
        go_region
        clear ha1 hb1 hxl hyl hgb hgi hg1 ex ey h1 h2 h3 h4 hgn
        go_wp2_with fail
        go_returns
        refine ⟨?_, ((below_drewN ((Below.refl _ _).alloc (Nat.le_refl _) _) _).setCell (Nat.le_refl _) _).setCell (Nat.le_refl _) _⟩
        rw [HE.out.1, HE.out.2.1, HE.out.2.2]
        simp only [decide_eq_true_eq, decide_eq_false_iff_not] at d1 d2
        first
          | rw [if_pos (by omega)]
          | rw [if_neg (by omega)]
end Go.Proofs.Ytpgnbjlpkpmpcaa
