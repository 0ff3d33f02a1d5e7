/- Valid, of the program and of the reference. -/
import Derived.Test.YtkajcbjacjfhnaaGa
namespace Go.Proofs.Ytkajcbjacjfhnaa
open Go.RowKit
/-- rows of strings at a place -/
def ZsAt (w : World) (b off l : Nat) (ss : Nat → ByteArray) : Prop := ∀ i, i < l → w.cell? ⟨b, off + i, none⟩ = some (.string (ss i)) ∧ (ss i).size ≤ maxLen
def rowB (n : Nat) (s : ByteArray) : Bool := decide (s.size = n) && gradesB s
def rowsB (n l : Nat) (ss : Nat → ByteArray) : Bool := (List.range l).all fun i => rowB n (ss i)
def validB (l : Nat) (ss : Nat → ByteArray) : Bool := decide (1 ≤ l) && decide (l ≤ 48) && decide (1 ≤ (ss 0).size) && decide ((ss 0).size ≤ 48) && rowsB (ss 0).size l ss
theorem rowsB_succ (n k : Nat) (ss : Nat → ByteArray) : rowsB n (k + 1) ss = (rowsB n k ss && rowB n (ss k)) := by
  unfold rowsB
  rw [List.range_succ, List.all_append]
  simp
theorem rowsB_not {n l k : Nat} {ss : Nat → ByteArray} (h : k < l) (hb : rowB n (ss k) = false) : rowsB n l ss = false := by
  unfold rowsB
  rw [← Bool.not_eq_true, List.all_eq_true]
  intro hall
  have := hall k (by simpa using h)
  rw [hb] at this; cases this
theorem validB_no {l : Nat} {ss : Nat → ByteArray} (h : ¬ (1 ≤ l ∧ l ≤ 48 ∧ 1 ≤ (ss 0).size ∧ (ss 0).size ≤ 48)) : validB l ss = false := by
  unfold validB
  by_cases h1 : 1 ≤ l <;> by_cases h2 : l ≤ 48 <;> by_cases h3 : 1 ≤ (ss 0).size <;> by_cases h4 : (ss 0).size ≤ 48 <;> simp [h1, h2, h3, h4] at h ⊢
theorem validB_rows {l : Nat} {ss : Nat → ByteArray} (h1 : 1 ≤ l) (h2 : l ≤ 48) (h3 : 1 ≤ (ss 0).size) (h4 : (ss 0).size ≤ 48) : validB l ss = rowsB (ss 0).size l ss := by
  unfold validB; simp [h1, h2, h3, h4]

set_option maxHeartbeats 400000 in
theorem valid_none (a : Option Addr) (l c : Nat) (ss : Nat → ByteArray) (w : World) (h : l < 1) :
    Calls Try.prog 22 #[.slice a l c] w fun e w' => e = .returned (.bool (validB l ss)) ∧ w = w' := by
  have HV : Hid (validB l ss = false) := validB_no (by omega)
  obtain rfl : l = 0 := by omega
  clear h
  go_enter Try.func22, Try.ntmps22
  go_wp2
  go_ret
  exact ⟨by rw [HV.out]; rfl, rfl⟩
set_option maxHeartbeats 400000 in
theorem valid_long (a : Option Addr) (l c : Nat) (ss : Nat → ByteArray) (w : World) (h : 48 < l) :
    Calls Try.prog 22 #[.slice a l c] w fun e w' => e = .returned (.bool (validB l ss)) ∧ w = w' := by
  have HV : Hid (validB l ss = false) := validB_no (by omega)
  have hd : decide ((l : Int) < 1) = false := by simp; omega
  have hd2 : decide ((48 : Int) < (l : Int)) = true := by simp; omega
  go_enter Try.func22, Try.ntmps22
  go_wp2
  go_ret
  exact ⟨by rw [HV.out]; rfl, rfl⟩
set_option maxHeartbeats 1000000 in
theorem valid_mid (b off l c : Nat) (ss : Nat → ByteArray) (w : World) (h1 : 1 ≤ l) (h2 : l ≤ 48) (hz : ZsAt w b off l ss) :
    Calls Try.prog 22 #[.slice (some ⟨b, off, none⟩) l c] w fun e w' => e = .returned (.bool (validB l ss)) ∧ w = w' := by
  have HZ := hide hz; clear hz
  have c0 := (HZ.out 0 (by omega)).1
  have m0 := (HZ.out 0 (by omega)).2
  rw [Nat.add_zero] at c0
  unfold maxLen at m0
  have hd : decide ((l : Int) < 1) = false := by simp; omega
  have hd2 : decide ((48 : Int) < (l : Int)) = false := by simp; omega
  by_cases h3 : (ss 0).size < 1
  · have HV : Hid (validB l ss = false) := validB_no (by omega)
    have hd3 : decide (((ss 0).size : Int) < 1) = true := by simp; omega
    go_enter Try.func22, Try.ntmps22
    go_wp2
    go_ret
    exact ⟨by rw [HV.out]; rfl, rfl⟩
  have hd3 : decide (((ss 0).size : Int) < 1) = false := by simp; omega
  by_cases h4 : 48 < (ss 0).size
  · have HV : Hid (validB l ss = false) := validB_no (by omega)
    have hd4 : decide ((48 : Int) < ((ss 0).size : Int)) = true := by simp; omega
    go_enter Try.func22, Try.ntmps22
    go_wp2
    go_ret
    exact ⟨by rw [HV.out]; rfl, rfl⟩
  have hd4 : decide ((48 : Int) < ((ss 0).size : Int)) = false := by simp; omega
  have HV : Hid (validB l ss = rowsB (ss 0).size l ss) := validB_rows h1 h2 (by omega) (by omega)
  go_enter Try.func22, Try.ntmps22
  go_wp2
  go_loop [29] (fun i => ∃ k : Nat, k ≤ l ∧ i = .int .i64 k ∧ Hid (rowsB (ss 0).size k ss = true)) (fun i => l - (intOf i).toNat)
  case atStart => exact ⟨0, Nat.zero_le _, rfl, hide rfl⟩
  case round =>
    obtain ⟨k, hk, rfl, HK⟩ := hrel
    by_cases hlt : k < l
    · have ck := (HZ.out k hlt).1
      have mk := (HZ.out k hlt).2
      have HN : Hid (rowB (ss 0).size (ss k) = false → rowsB (ss 0).size l ss = false) := rowsB_not hlt
      by_cases he : (ss k).size = (ss 0).size
      · have he2 : decide (((ss k).size : Int) ≠ ((ss 0).size : Int)) = false := by simp; omega
        have he3 : (((ss k).size : Int) != ((ss 0).size : Int)) = false := by simp; omega
        have HE := hide he; clear he
        cases hg : gradesB (ss k)
        · have HG := hide hg; clear hg
          go_wp2_with (go_at_call 67; refine (grades_any _ _ mk).mono ?_; rintro e w' ⟨rfl, rfl⟩; rw [HG.out])
          go_ret
          exact ⟨by rw [HV.out, HN.out (by unfold rowB; rw [HG.out]; simp)]; rfl, rfl⟩
        · have HG := hide hg; clear hg
          go_wp2_with (go_at_call 67; refine (grades_any _ _ mk).mono ?_; rintro e w' ⟨rfl, rfl⟩; rw [HG.out])
          go_round
          case rel => exact ⟨k + 1, by omega, by go_num, hide (by rw [rowsB_succ, HK.out]; unfold rowB; rw [HG.out]; simp [HE.out])⟩
          case measure => simp [intOf]; omega
      · have he3 : (((ss k).size : Int) != ((ss 0).size : Int)) = true := by simp; omega
        have HE := hide he; clear he
        go_wp2_with fail
        go_ret
        exact ⟨by rw [HV.out, HN.out (by unfold rowB; simp [HE.out])]; rfl, rfl⟩
    · have HR : Hid (rowsB (ss 0).size l ss = true) := by
        obtain rfl : k = l := by omega
        exact HK
      go_wp2_with fail
      go_ret
      exact ⟨by rw [HV.out, HR.out]; rfl, rfl⟩
end Go.Proofs.Ytkajcbjacjfhnaa
