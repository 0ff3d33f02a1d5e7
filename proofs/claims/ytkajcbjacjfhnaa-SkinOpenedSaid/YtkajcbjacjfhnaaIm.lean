/- Least and greatest grades around a cell: plain mathematics. -/
import Derived.Test.YtkajcbjacjfhnaaHv
set_option linter.unusedVariables false
namespace Go.Proofs.Ytkajcbjacjfhnaa
open Go.RowKit Go.Ab
/-- a goes before b: the lesser (or the greater) one -/
def le' (mn : Bool) (a b : Nat) : Prop := if mn then a ≤ b else b ≤ a
theorem le'_refl (mn : Bool) (a : Nat) : le' mn a a := by cases mn <;> simp [le']
theorem le'_trans {mn : Bool} {a b c : Nat} (h : le' mn a b) (k : le' mn b c) : le' mn a c := by cases mn <;> simp [le'] at * <;> omega
theorem le'_anti {mn : Bool} {a b : Nat} (h : le' mn a b) (k : le' mn b a) : a = b := by cases mn <;> simp [le'] at * <;> omega
def Best (mn : Bool) (P : Nat → Prop) (v : Nat) : Prop := P v ∧ ∀ u, P u → le' mn v u
theorem best_unique {mn : Bool} {P : Nat → Prop} {a b : Nat} (h : Best mn P a) (k : Best mn P b) : a = b := le'_anti (h.2 b k.1) (k.2 a h.1)
theorem best_congr {mn : Bool} {P Q : Nat → Prop} {a : Nat} (h : Best mn P a) (e : ∀ v, P v ↔ Q v) : Best mn Q a := ⟨(e a).1 h.1, fun u hu => h.2 u ((e u).2 hu)⟩
def pkN (mn : Bool) (a b : Nat) : Nat := if mn then min a b else max a b
theorem best_more {mn : Bool} {P : Nat → Prop} {a : Nat} (h : Best mn P a) (b : Nat) : Best mn (fun v => P v ∨ v = b) (pkN mn a b) := by
  have e : pkN mn a b = a ∧ le' mn a b ∨ pkN mn a b = b ∧ le' mn b a := by
    cases mn <;> simp only [pkN, le'] <;> simp <;> omega
  rcases e with ⟨e, k⟩ | ⟨e, k⟩
  · rw [e]
    refine ⟨.inl h.1, fun u hu => ?_⟩
    rcases hu with hu | rfl
    · exact h.2 u hu
    · exact k
  · rw [e]
    refine ⟨.inr rfl, fun u hu => ?_⟩
    rcases hu with hu | rfl
    · exact le'_trans k (h.2 u hu)
    · exact le'_refl _ _
/-- the pick of two bytes -/
def pkU (mn : Bool) (a b : UInt8) : UInt8 := if pkN mn a.toNat b.toNat = a.toNat then a else b
theorem pkU_nat (mn : Bool) (a b : UInt8) : (pkU mn a b).toNat = pkN mn a.toNat b.toNat := by
  unfold pkU
  split
  · rename_i h; rw [h]
  · rename_i h
    cases mn <;> simp only [pkN] at * <;> simp at * <;> omega
/-- the byte at a place of a row, '0' beyond its ends -/
def el (f : Nat → Nat → UInt8) (n y : Nat) (p : Int) : UInt8 := if 0 ≤ p ∧ p < n then f p.toNat y else 48
def loK (x k : Nat) : Int := max ((x : Int) - k) (-1)
def hiK (x k n : Nat) : Int := min ((x : Int) + k) n
def swK (mn : Bool) (f : Nat → Nat → UInt8) (n k x y j : Nat) : UInt8 := (List.range j).foldl (fun a (i : Nat) => pkU mn a (el f n y (loK x k + (i : Int)))) (f x y)
theorem swK_succ (mn : Bool) (f : Nat → Nat → UInt8) (n k x y j : Nat) : swK mn f n k x y (j + 1) = pkU mn (swK mn f n k x y j) (el f n y (loK x k + j)) := by
  unfold swK; rw [List.range_succ, List.foldl_append]; rfl
def cntK (x k n : Nat) : Nat := (hiK x k n - loK x k + 1).toNat
def sw (mn : Bool) (f : Nat → Nat → UInt8) (n k x y : Nat) : UInt8 := swK mn f n k x y (cntK x k n)
theorem swK_best (mn : Bool) (f : Nat → Nat → UInt8) (n k x y j : Nat) : Best mn (fun v => v = (f x y).toNat ∨ ∃ i, i < j ∧ v = (el f n y (loK x k + i)).toNat) (swK mn f n k x y j).toNat := by
  induction j with
  | zero => exact ⟨.inl rfl, fun u hu => by rcases hu with rfl | ⟨i, hi, _⟩; exact le'_refl _ _; omega⟩
  | succ j ih =>
    rw [swK_succ, pkU_nat]
    refine best_congr (best_more ih _) fun v => ⟨fun h => ?_, fun h => ?_⟩
    · rcases h with (h | ⟨i, hi, h⟩) | h
      · exact .inl h
      · exact .inr ⟨i, by omega, h⟩
      · exact .inr ⟨j, by omega, h⟩
    · rcases h with h | ⟨i, hi, h⟩
      · exact .inl (.inl h)
      · by_cases e : i = j
        · subst e; exact .inr h
        · exact .inl (.inr ⟨i, by omega, h⟩)
/-- what a row's sweep looks at -/
def RowP (f : Nat → Nat → UInt8) (n k x y v : Nat) : Prop := (∃ u, u < n ∧ u ≤ x + k ∧ x ≤ u + k ∧ v = (f u y).toNat) ∨ (v = 48 ∧ (x < k ∨ n ≤ x + k))
theorem sw_best (mn : Bool) (f : Nat → Nat → UInt8) (n k x y : Nat) (hx : x < n) : Best mn (RowP f n k x y) (sw mn f n k x y).toNat := by
  refine best_congr (swK_best mn f n k x y (cntK x k n)) fun v => ⟨fun h => ?_, fun h => ?_⟩
  · rcases h with h | ⟨i, hi, h⟩
    · exact .inl ⟨x, hx, by omega, by omega, h⟩
    · unfold cntK at hi
      unfold el at h
      by_cases hp : 0 ≤ loK x k + i ∧ loK x k + i < n
      · rw [if_pos hp] at h
        refine .inl ⟨(loK x k + i).toNat, ?_, ?_, ?_, h⟩
        · omega
        · unfold hiK at hi; omega
        · unfold loK at *; omega
      · rw [if_neg hp] at h
        refine .inr ⟨h, ?_⟩
        unfold loK hiK at *; omega
  · rcases h with ⟨u, hu, h1, h2, h⟩ | ⟨h, hs⟩
    · refine .inr ⟨((u : Int) - loK x k).toNat, ?_, ?_⟩
      · unfold cntK loK hiK; omega
      · have e : loK x k + (((u : Int) - loK x k).toNat : Int) = (u : Int) := by unfold loK; omega
        rw [e]
        unfold el
        rw [if_pos ⟨by omega, by omega⟩]
        exact h
    · by_cases hk : x < k
      · refine .inr ⟨0, ?_, ?_⟩
        · unfold cntK loK hiK; omega
        · unfold el
          rw [if_neg (by unfold loK; omega), h]; rfl
      · refine .inr ⟨((n : Int) - loK x k).toNat, ?_, ?_⟩
        · unfold cntK loK hiK; omega
        · have e : loK x k + (((n : Int) - loK x k).toNat : Int) = (n : Int) := by unfold loK; omega
          rw [e]
          unfold el
          rw [if_neg (by omega), h]; rfl
/-- the square around a cell sticks out -/
def stick (n l k x y : Nat) : Prop := x < k ∨ y < k ∨ n ≤ x + k ∨ l ≤ y + k
def WinP (f : Nat → Nat → UInt8) (n l k x y v : Nat) : Prop := ∃ u r, (u < n ∧ u ≤ x + k ∧ x ≤ u + k) ∧ (r < l ∧ r ≤ y + k ∧ y ≤ r + k) ∧ v = (f u r).toNat
def SqP (f : Nat → Nat → UInt8) (n l k x y v : Nat) : Prop := WinP f n l k x y v ∨ (v = 48 ∧ stick n l k x y)
/-- the swept skin turned: its cell before the second sweep -/
def tur (l : Nat) (S : Nat → Nat → UInt8) (x y : Nat) : UInt8 := S y (l - 1 - x)
theorem sq_best (mn : Bool) (f : Nat → Nat → UInt8) (n l k x y : Nat) (hx : x < n) (hy : y < l) : Best mn (SqP f n l k x y) (sw mn (tur l (sw mn f n k)) l k (l - 1 - y) x).toNat := by
  have h1 := sw_best mn (tur l (sw mn f n k)) l k (l - 1 - y) x (by omega)
  have h2 : ∀ r, Best mn (RowP f n k x r) (sw mn f n k x r).toNat := fun r => sw_best mn f n k x r hx
  constructor
  · rcases h1.1 with ⟨u, hu, a, b, e⟩ | ⟨e, hs⟩
    · have e2 : tur l (sw mn f n k) u x = sw mn f n k x (l - 1 - u) := rfl
      rw [e2] at e
      rw [e]
      rcases (h2 (l - 1 - u)).1 with ⟨c, hc, a', b', e'⟩ | ⟨e', hs⟩
      · exact .inl ⟨c, l - 1 - u, ⟨hc, a', b'⟩, ⟨by omega, by omega, by omega⟩, e'⟩
      · refine .inr ⟨e', ?_⟩
        unfold stick; omega
    · rw [e]
      refine .inr ⟨rfl, ?_⟩
      unfold stick; omega
  · intro v hv
    rcases hv with ⟨u, r, ⟨a1, a2, a3⟩, ⟨b1, b2, b3⟩, e⟩ | ⟨e, hs⟩
    · have k1 := h1.2 (sw mn f n k x r).toNat (.inl ⟨l - 1 - r, by omega, by omega, by omega, by
        show _ = (sw mn f n k x (l - 1 - (l - 1 - r))).toNat
        rw [show l - 1 - (l - 1 - r) = r by omega]⟩)
      exact le'_trans k1 ((h2 r).2 v (.inl ⟨u, a1, a2, a3, e⟩))
    · rw [e]
      unfold stick at hs
      by_cases hs2 : y < k ∨ l ≤ y + k
      · exact h1.2 48 (.inr ⟨rfl, by omega⟩)
      · have k1 := h1.2 (sw mn f n k x y).toNat (.inl ⟨l - 1 - y, by omega, by omega, by omega, by
          show _ = (sw mn f n k x (l - 1 - (l - 1 - y))).toNat
          rw [show l - 1 - (l - 1 - y) = y by omega]⟩)
        exact le'_trans k1 ((h2 y).2 48 (.inr ⟨rfl, by omega⟩))
/-- what the reference looks at -/
def RefP (mn : Bool) (f : Nat → Nat → UInt8) (n l k x y v : Nat) : Prop := WinP f n l k x y v ∨ (mn = true ∧ v = 48 ∧ stick n l k x y)
theorem ref_of_sq {mn : Bool} {f : Nat → Nat → UInt8} {n l k x y v : Nat} (h48 : 48 ≤ (f x y).toNat) (hx : x < n) (hy : y < l) (h : Best mn (SqP f n l k x y) v) : Best mn (RefP mn f n l k x y) v := by
  have hc : WinP f n l k x y (f x y).toNat := ⟨x, y, ⟨hx, by omega, by omega⟩, ⟨hy, by omega, by omega⟩, rfl⟩
  cases mn with
  | true => exact best_congr h fun u => by unfold SqP RefP; simp
  | false =>
    refine ⟨?_, fun u hu => ?_⟩
    · rcases h.1 with h1 | ⟨e, _⟩
      · exact .inl h1
      · have := h.2 _ (.inl hc)
        simp [le'] at this
        refine .inl ?_
        rw [show v = (f x y).toNat by omega]; exact hc
    · rcases hu with hu | ⟨hu, _⟩
      · exact h.2 u (.inl hu)
      · cases hu
end Go.Proofs.Ytkajcbjacjfhnaa
