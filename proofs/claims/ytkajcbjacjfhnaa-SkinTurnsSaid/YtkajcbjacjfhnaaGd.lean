/- Counting grades: plain mathematics; the program's count. -/
import Derived.Test.YtkajcbjacjfhnaaGc
namespace Go.Proofs.Ytkajcbjacjfhnaa
open Go.RowKit
def cntL (l : List UInt8) (g : Nat) : Nat := (l.filter fun c => c.toNat == 48 + g).length
theorem cntL_snoc (s : ByteArray) (j g : Nat) (h : j < s.size) : cntL (s.data.toList.take (j + 1)) g = cntL (s.data.toList.take j) g + if s[j].toNat = 48 + g then 1 else 0 := by
  unfold cntL
  rw [List.take_succ_eq_append_getElem (by simpa using h), List.filter_append]
  have : s.data.toList[j]'(by simpa using h) = s[j] := rfl
  rw [this]
  by_cases e : s[j].toNat = 48 + g <;> simp [e]
theorem cntL_le (l : List UInt8) (g : Nat) : cntL l g ≤ l.length := List.length_filter_le _ _
def rowsC (ss : Nat → ByteArray) : Nat → Nat → Nat
  | 0, _ => 0
  | k + 1, g => rowsC ss k g + cntL (ss k).data.toList g
theorem rowsC_le (ss : Nat → ByteArray) (m : Nat) : ∀ k g, (∀ i, i < k → (ss i).size ≤ m) → rowsC ss k g ≤ k * m
  | 0, _, _ => Nat.zero_le _
  | k + 1, g, h => by
    have h1 := rowsC_le ss m k g (fun i hi => h i (by omega))
    have h2 := cntL_le (ss k).data.toList g
    have h3 := h k (by omega)
    have : (ss k).data.toList.length = (ss k).size := by simp
    unfold rowsC
    rw [Nat.add_mul]; omega
/-- what has been counted: rows before k, and j cells of row k -/
def T (ss : Nat → ByteArray) (k j g : Nat) : Int := ((rowsC ss k g + cntL ((ss k).data.toList.take j) g : Nat) : Int)
theorem T_zero (ss : Nat → ByteArray) (g : Nat) : T ss 0 0 g = 0 := by simp [T, rowsC, cntL]
theorem T_next (ss : Nat → ByteArray) (k j g : Nat) (h : (ss k).size ≤ j) : T ss (k + 1) 0 g = T ss k j g := by
  have e : (ss k).data.toList.take j = (ss k).data.toList := List.take_of_length_le (by simpa using h)
  unfold T
  rw [e]
  simp [rowsC, cntL]
theorem T_same (ss : Nat → ByteArray) (k j g d : Nat) (h : j < (ss k).size) (hd : (ss k)[j].toNat = 48 + d) (hn : g ≠ d) : T ss k (j + 1) g = T ss k j g := by
  unfold T; rw [cntL_snoc _ _ _ h, if_neg (by omega)]; rfl
theorem T_more (ss : Nat → ByteArray) (k j d : Nat) (h : j < (ss k).size) (hd : (ss k)[j].toNat = 48 + d) : T ss k (j + 1) d = T ss k j d + 1 := by
  unfold T; rw [cntL_snoc _ _ _ h, if_pos hd]; omega
theorem T_bd (ss : Nat → ByteArray) (k j g : Nat) (hk : k ≤ 48) (hs : ∀ i, i ≤ k → (ss i).size ≤ 48) : 0 ≤ T ss k j g ∧ T ss k j g ≤ 2400 := by
  have h1 := rowsC_le ss 48 k g (fun i hi => hs i (by omega))
  have h2 := cntL_le ((ss k).data.toList.take j) g
  have h3 : ((ss k).data.toList.take j).length ≤ (ss k).size := by simp; omega
  have h4 := hs k (Nat.le_refl _)
  have h5 : k * 48 ≤ 48 * 48 := Nat.mul_le_mul_right 48 hk
  unfold T
  omega
theorem T_row (ss : Nat → ByteArray) (n l k j : Nat) (hv : rowsB n l ss = true) (hk : k < l) : (ss k).size = n ∧ ∀ h : j < (ss k).size, ∃ d, d < 10 ∧ (ss k)[j].toNat = 48 + d := by
  have := List.all_eq_true.1 hv k (by simpa using hk)
  unfold rowB at this
  simp only [Bool.and_eq_true, decide_eq_true_eq] at this
  refine ⟨this.1, fun h => ?_⟩
  have h2 := List.all_eq_true.1 this.2 (ss k)[j] (by
    have : (ss k).data.toList[j]'(by simpa using h) ∈ (ss k).data.toList := List.getElem_mem _
    exact this)
  unfold okB at h2
  simp at h2
  exact ⟨(ss k)[j].toNat - 48, by omega, by omega⟩
/-- ten numbers, as a row of cells -/
def vec (C : Nat → Int) : Array Value := #[.int .i64 (C 0), .int .i64 (C 1), .int .i64 (C 2), .int .i64 (C 3), .int .i64 (C 4), .int .i64 (C 5), .int .i64 (C 6), .int .i64 (C 7), .int .i64 (C 8), .int .i64 (C 9)]
theorem vec_zero (ss : Nat → ByteArray) : vec (T ss 0 0) = vec fun _ => 0 := by simp [vec, T_zero]
theorem vec_next (ss : Nat → ByteArray) (k j : Nat) (h : (ss k).size ≤ j) : vec (T ss (k + 1) 0) = vec (T ss k j) := by simp [vec, T_next ss k j _ h]
/-- one more of grade d -/
theorem vec_more (ss : Nat → ByteArray) (k j d : Nat) (h : j < (ss k).size) (hd : (ss k)[j].toNat = 48 + d) (hlt : d < 10) : vec (T ss k (j + 1)) = (vec (T ss k j)).setIfInBounds d (.int .i64 (T ss k j d + 1)) := by
  have hs := fun g hn => T_same ss k j g d h hd hn
  have hm := T_more ss k j d h hd
  have : d = 0 ∨ d = 1 ∨ d = 2 ∨ d = 3 ∨ d = 4 ∨ d = 5 ∨ d = 6 ∨ d = 7 ∨ d = 8 ∨ d = 9 := by omega
  rcases this with rfl | rfl | rfl | rfl | rfl | rfl | rfl | rfl | rfl | rfl <;> simp [vec, hm, hs]
theorem vec_get (C : Nat → Int) (d : Nat) (h : d < 10) : (vec C)[d]? = some (.int .i64 (C d)) := by
  have : d = 0 ∨ d = 1 ∨ d = 2 ∨ d = 3 ∨ d = 4 ∨ d = 5 ∨ d = 6 ∨ d = 7 ∨ d = 8 ∨ d = 9 := by omega
  rcases this with rfl | rfl | rfl | rfl | rfl | rfl | rfl | rfl | rfl | rfl <;> rfl
end Go.Proofs.Ytkajcbjacjfhnaa
