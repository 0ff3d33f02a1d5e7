/- Sums of usable cells: plain mathematics; validAt and Good. -/
import Derived.Test.YtkajcbjacjfhnaaIf
set_option linter.unusedVariables false
namespace Go.Proofs.Ytkajcbjacjfhnaa
open Go.RowKit Go.Ab
/-- how many of the first x cells of row y -/
def rowN (u : Nat → Nat → Bool) (y : Nat) : Nat → Int
  | 0 => 0
  | x + 1 => rowN u y x + if u x y then 1 else 0
/-- how many of the first x columns in the first y rows -/
def sumN (u : Nat → Nat → Bool) : Nat → Nat → Int
  | 0, _ => 0
  | y + 1, x => sumN u y x + rowN u y x
theorem rowN_bd (u : Nat → Nat → Bool) (y x : Nat) : 0 ≤ rowN u y x ∧ rowN u y x ≤ x := by
  induction x with
  | zero => simp [rowN]
  | succ x ih => unfold rowN; split <;> omega
theorem sumN_bd (u : Nat → Nat → Bool) (y x : Nat) : 0 ≤ sumN u y x ∧ sumN u y x ≤ y * x := by
  induction y with
  | zero => simp [sumN]
  | succ y ih =>
    unfold sumN
    have := rowN_bd u y x
    have e : ((y + 1 : Nat) : Int) * (x : Int) = y * x + x := by rw [Int.natCast_add, Int.add_mul]; simp
    rw [e]; omega
theorem sumN_zero (u : Nat → Nat → Bool) (y : Nat) : sumN u y 0 = 0 := by
  induction y with
  | zero => rfl
  | succ y ih => unfold sumN; rw [ih]; rfl
/-- how many in a rectangle -/
def rectN (u : Nat → Nat → Bool) (X Y B : Nat) : Nat → Int
  | 0 => 0
  | h + 1 => rectN u X Y B h + (rowN u (Y + h) (X + B) - rowN u (Y + h) X)
theorem rectN_is (u : Nat → Nat → Bool) (X Y B h : Nat) : rectN u X Y B h = sumN u (Y + h) (X + B) - sumN u (Y + h) X - sumN u Y (X + B) + sumN u Y X := by
  induction h with
  | zero => simp [rectN]; omega
  | succ h ih =>
    show rectN u X Y B h + _ = _
    rw [ih]
    show _ = (sumN u (Y + h) (X + B) + rowN u (Y + h) (X + B)) - (sumN u (Y + h) X + rowN u (Y + h) X) - _ + _
    omega
def goodB (l : Nat) (ss : Nat → ByteArray) (g : Int) : Bool := validB l ss && decide (1 ≤ g) && decide (g ≤ 9)
theorem goodB_no1 {l : Nat} {ss : Nat → ByteArray} {g : Int} (h : validB l ss = false) : goodB l ss g = false := by unfold goodB; rw [h]; rfl
theorem goodB_no2 {l : Nat} {ss : Nat → ByteArray} {g : Int} (h : ¬ (1 ≤ g ∧ g ≤ 9)) : goodB l ss g = false := by
  cases e : goodB l ss g with
  | false => rfl
  | true =>
    unfold goodB at e
    simp only [Bool.and_eq_true, decide_eq_true_eq] at e
    exact absurd ⟨e.1.2, e.2⟩ h
theorem goodB_yes {l : Nat} {ss : Nat → ByteArray} {g : Int} (h : validB l ss = true) (h1 : 1 ≤ g) (h2 : g ≤ 9) : goodB l ss g = true := by unfold goodB; simp [h, h1, h2]
theorem goodB_get {l : Nat} {ss : Nat → ByteArray} {g : Int} (h : goodB l ss g = true) : validB l ss = true ∧ 1 ≤ g ∧ g ≤ 9 := by
  unfold goodB at h
  simp only [Bool.and_eq_true, decide_eq_true_eq] at h
  exact ⟨h.1.1, h.1.2, h.2⟩
theorem validAt_is (a : Option Addr) (l c : Nat) (g : Int) (ss : Nat → ByteArray) (w : World) (hz : Zs w a l ss) :
    Calls Try.prog 69 #[.slice a l c, .int .i64 g] w fun e w' => e = .returned (.bool (goodB l ss g)) ∧ w = w' := by
  have HZ := hide hz; clear hz
  cases hv : validB l ss with
  | false =>
    have HR : Hid (goodB l ss g = false) := hide (goodB_no1 hv)
    have HV := hide hv; clear hv
    go_enter Try.func69, Try.ntmps69
    go_wp2_with (go_at_call 22; refine (valid_all a l c ss _ HZ.out).mono ?_; rintro e w' ⟨rfl, rfl⟩; rw [HV.out])
    go_ret
    exact ⟨by rw [HR.out]; rfl, rfl⟩
  | true =>
    by_cases h1 : 1 ≤ g
    · by_cases h2 : g ≤ 9
      · have HR : Hid (goodB l ss g = true) := hide (goodB_yes hv h1 h2)
        have HV := hide hv; clear hv
        go_enter Try.func69, Try.ntmps69
        go_wp2_with (go_at_call 22; refine (valid_all a l c ss _ HZ.out).mono ?_; rintro e w' ⟨rfl, rfl⟩; rw [HV.out])
        go_ret
        exact ⟨by rw [HR.out]; rfl, rfl⟩
      · have HR : Hid (goodB l ss g = false) := hide (goodB_no2 (by omega))
        have hd9 : decide (g ≤ 9) = false := by simp; omega
        have HV := hide hv; clear hv
        go_enter Try.func69, Try.ntmps69
        go_wp2_with (go_at_call 22; refine (valid_all a l c ss _ HZ.out).mono ?_; rintro e w' ⟨rfl, rfl⟩; rw [HV.out])
        go_ret
        exact ⟨by rw [HR.out]; rfl, rfl⟩
    · have HR : Hid (goodB l ss g = false) := hide (goodB_no2 (by omega))
      have HV := hide hv; clear hv
      go_enter Try.func69, Try.ntmps69
      go_wp2_with (go_at_call 22; refine (valid_all a l c ss _ HZ.out).mono ?_; rintro e w' ⟨rfl, rfl⟩; rw [HV.out])
      go_ret
      exact ⟨by rw [HR.out]; rfl, rfl⟩
theorem good_is (a : Option Addr) (l c : Nat) (g : Int) (ss : Nat → ByteArray) (w : World) (hz : Zs w a l ss) :
    Calls Try.prog 27 #[.slice a l c, .int .i64 g] w fun e w' => e = .returned (.bool (goodB l ss g)) ∧ w = w' := by
  have HZ := hide hz; clear hz
  cases hv : validB l ss with
  | false =>
    have HR : Hid (goodB l ss g = false) := hide (goodB_no1 hv)
    have HV := hide hv; clear hv
    go_enter Try.func27, Try.ntmps27
    go_wp2_with (go_at_call 23; refine (rvalid_all a l c ss _ HZ.out).mono ?_; rintro e w' ⟨rfl, rfl⟩; rw [HV.out])
    go_ret
    exact ⟨by rw [HR.out]; rfl, rfl⟩
  | true =>
    by_cases h1 : 1 ≤ g
    · by_cases h2 : g ≤ 9
      · have HR : Hid (goodB l ss g = true) := hide (goodB_yes hv h1 h2)
        have HV := hide hv; clear hv
        go_enter Try.func27, Try.ntmps27
        go_wp2_with (go_at_call 23; refine (rvalid_all a l c ss _ HZ.out).mono ?_; rintro e w' ⟨rfl, rfl⟩; rw [HV.out])
        go_ret
        exact ⟨by rw [HR.out]; rfl, rfl⟩
      · have HR : Hid (goodB l ss g = false) := hide (goodB_no2 (by omega))
        have hd9 : decide (g ≤ 9) = false := by simp; omega
        have HV := hide hv; clear hv
        go_enter Try.func27, Try.ntmps27
        go_wp2_with (go_at_call 23; refine (rvalid_all a l c ss _ HZ.out).mono ?_; rintro e w' ⟨rfl, rfl⟩; rw [HV.out])
        go_ret
        exact ⟨by rw [HR.out]; rfl, rfl⟩
    · have HR : Hid (goodB l ss g = false) := hide (goodB_no2 (by omega))
      have HV := hide hv; clear hv
      go_enter Try.func27, Try.ntmps27
      go_wp2_with (go_at_call 23; refine (rvalid_all a l c ss _ HZ.out).mono ?_; rintro e w' ⟨rfl, rfl⟩; rw [HV.out])
      go_ret
      exact ⟨by rw [HR.out]; rfl, rfl⟩
end Go.Proofs.Ytkajcbjacjfhnaa
