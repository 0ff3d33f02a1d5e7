/- Numbers of rectangles, in plain numbers. Sides and areas of boards, of the program. -/
import Derived.Test.YtgkonocjafoblaaYs
import Derived.WalkLawsBesides
import Derived.BigQuiet
import Derived.Deep.QuietTactic
import Derived.Lib.Hide
set_option linter.unusedVariables false
namespace Go.Proofs.Ytgkonocjafoblaa
open Go Go.RowKit Go.Ab
theorem hide {p : Prop} (h : p) : Hid p := h
theorem bt {a b c : World} (h : Below a.heap.size a b) (h' : Below b.heap.size b c) : Below a.heap.size a c := h.trans (h'.mono h.size)
theorem kc {w w' : World} {p : Addr} {v : Value} (hb : Below w.heap.size w w') (h : w.cell? p = some v) : w'.cell? p = some v := by
  rw [hb.cell (World.block_lt_of_cell? _ _ h)]; exact h
def In64 (n : Int) : Prop := -9223372036854775808 ≤ n ∧ n ≤ 9223372036854775807
/-- 1 + 2 + .. + n -/
def Tn (n : Nat) : Nat := n * (n + 1) / 2
theorem Tn_succ (n : Nat) : Tn (n + 1) = Tn n + (n + 1) := by
  unfold Tn
  rw [show (n + 1) * (n + 1 + 1) = n * (n + 1) + (n + 1) * 2 by rw [Nat.mul_add (n + 1) (n + 1) 1, Nat.mul_one, Nat.mul_comm n (n + 1), Nat.mul_add, Nat.mul_one]; omega]
  rw [Nat.add_mul_div_right _ _ (by decide)]
/-- h + (h - 1) + .. : k of them -/
def Sn (h k : Nat) : Nat := Tn h - Tn (h - k)
theorem Tn_mono (n : Nat) : ∀ d, Tn n ≤ Tn (n + d)
  | 0 => Nat.le_refl _
  | d + 1 => by have := Tn_mono n d; rw [show n + (d + 1) = n + d + 1 from rfl, Tn_succ]; omega
theorem Tn_le {m n : Nat} (h : m ≤ n) : Tn m ≤ Tn n := by
  obtain ⟨d, rfl⟩ : ∃ d, n = m + d := ⟨n - m, by omega⟩
  exact Tn_mono m d
theorem Sn_zero (h : Nat) : Sn h 0 = 0 := by unfold Sn; simp
theorem Sn_succ {h k : Nat} (hk : k < h) : Sn h (k + 1) = Sn h k + (h - k) := by
  unfold Sn
  have e : h - k = (h - (k + 1)) + 1 := by omega
  have h1 := Tn_succ (h - (k + 1))
  rw [← e] at h1
  have h2 := Tn_le (show h - k ≤ h by omega)
  omega
theorem Tn_16 {n : Nat} (h : n ≤ 16) : Tn n ≤ 136 := Tn_le h
theorem Sn_16 {n k : Nat} (h : n ≤ 16) : Sn n k ≤ 136 := Nat.le_trans (Nat.sub_le _ _) (Tn_16 h)
/-- the number of a rectangle -/
def plV (w h x y b t : Nat) : Nat := Tn w * Sn h y + Sn w x * (h - y) + (b - 1) * (h - y) + t - 1
theorem wr_in {n : Int} (h1 : -9223372036854775808 ≤ n) (h2 : n ≤ 9223372036854775807) : wr n = n := IntWalk.i64_in _ (by omega)
theorem tsum_16 : ∀ n : Fin 17, tsum (n.val : Int) = (Tn n.val : Int) := by decide +kernel
theorem tsum_is {n : Nat} (h : n ≤ 16) : tsum (n : Int) = (Tn n : Int) := tsum_16 ⟨n, by omega⟩
theorem num_is {w h x y b t : Nat} (hw : w ≤ 16) (hh : h ≤ 16) (hb : 1 ≤ b) (ht : 1 ≤ t) (hx : x + b ≤ w) (hy : y + t ≤ h) : numV w h x y b t = (plV w h x y b t : Int) := by
  unfold numV
  have e1 : ((h : Int) - y) = ((h - y : Nat) : Int) := by omega
  have e2 : ((w : Int) - x) = ((w - x : Nat) : Int) := by omega
  have e3 : ((b : Int) - 1) = ((b - 1 : Nat) : Int) := by omega
  have m1 := Tn_le (show h - y ≤ h by omega)
  have m2 := Tn_le (show w - x ≤ w by omega)
  have s1 : ((Tn h : Int) - (Tn (h - y) : Int)) = ((Sn h y : Nat) : Int) := by unfold Sn; omega
  have s2 : ((Tn w : Int) - (Tn (w - x) : Int)) = ((Sn w x : Nat) : Int) := by unfold Sn; omega
  have b1 := Sn_16 (k := y) hh
  have b2 := Sn_16 (k := x) hw
  have b3 := Tn_16 hw
  have p1 : Sn h y * Tn w ≤ 136 * 136 := Nat.mul_le_mul b1 b3
  have p2 : Sn w x * (h - y) ≤ 136 * 16 := Nat.mul_le_mul b2 (by omega)
  have p3 : (b - 1) * (h - y) ≤ 16 * 16 := Nat.mul_le_mul (by omega) (by omega)
  have c1 : (Sn h y : Int) * (Tn w : Int) = ((Sn h y * Tn w : Nat) : Int) := by simp
  have c2 : (Sn w x : Int) * ((h - y : Nat) : Int) = ((Sn w x * (h - y) : Nat) : Int) := by simp
  have c3 : ((b - 1 : Nat) : Int) * ((h - y : Nat) : Int) = (((b - 1) * (h - y) : Nat) : Int) := by simp
  simp only []
  rw [e1, e2, e3, wr_in (n := ((h - y : Nat) : Int)) (by omega) (by omega), wr_in (n := ((w - x : Nat) : Int)) (by omega) (by omega), wr_in (n := ((b - 1 : Nat) : Int)) (by omega) (by omega),
    tsum_is hh, tsum_is hw, tsum_is (show h - y ≤ 16 by omega), tsum_is (show w - x ≤ 16 by omega), s1, s2, wr_in (n := ((Sn h y : Nat) : Int)) (by omega) (by omega), wr_in (n := ((Sn w x : Nat) : Int)) (by omega) (by omega),
    c1, c2, c3, wr_in (n := ((Sn h y * Tn w : Nat) : Int)) (by omega) (by omega), wr_in (n := ((Sn w x * (h - y) : Nat) : Int)) (by omega) (by omega), wr_in (n := (((b - 1) * (h - y) : Nat) : Int)) (by omega) (by omega)]
  unfold plV
  rw [Nat.mul_comm (Tn w)]
  clear c1 c2 c3 s1 s2 b1 b2 b3 m1 m2 e1 e2 e3
  obtain ⟨A, hA⟩ : ∃ A, A = Sn h y * Tn w := ⟨_, rfl⟩
  obtain ⟨B, hB⟩ : ∃ B, B = Sn w x * (h - y) := ⟨_, rfl⟩
  obtain ⟨C, hC⟩ : ∃ C, C = (b - 1) * (h - y) := ⟨_, rfl⟩
  rw [← hA] at p1 ⊢
  rw [← hB] at p2 ⊢
  rw [← hC] at p3 ⊢
  clear hA hB hC
  rw [wr_in (n := (A : Int) + B) (by omega) (by omega), wr_in (n := (A : Int) + B + C) (by omega) (by omega), wr_in (n := (A : Int) + B + C + t) (by omega) (by omega), wr_in (n := (A : Int) + B + C + t - 1) (by omega) (by omega)]
  omega

def sideB (n : Int) : Bool := decide (1 ≤ n) && decide (n ≤ 16)
theorem sideB_yes {n : Int} (h1 : 1 ≤ n) (h2 : n ≤ 16) : sideB n = true := by unfold sideB; simp [h1, h2]
theorem sideB_no {n : Int} (H : ¬ (1 ≤ n ∧ n ≤ 16)) : sideB n = false := by
  unfold sideB
  by_cases h1 : 1 ≤ n <;> by_cases h2 : n ≤ 16 <;> simp [h1, h2]
  exact H ⟨h1, h2⟩
set_option maxHeartbeats 1000000 in
theorem side_is (n : Int) (w : World) : Calls Try.prog 114 #[.int .i64 n] w fun e w' => e = .returned (.bool (sideB n)) ∧ w = w' := by
  by_cases h1 : 1 ≤ n
  · by_cases h2 : n ≤ 16
    · have HR := hide (sideB_yes h1 h2)
      go_enter Try.func114, Try.ntmps114
      go_wp2
      go_ret
      exact ⟨by rw [HR.out]; rfl, rfl⟩
    · have HR : Hid (sideB n = false) := hide (sideB_no (by omega))
      go_enter Try.func114, Try.ntmps114
      go_wp2
      go_ret
      exact ⟨by rw [HR.out]; rfl, rfl⟩
  · have HR : Hid (sideB n = false) := hide (sideB_no (by omega))
    go_enter Try.func114, Try.ntmps114
    go_wp2
    go_ret
    exact ⟨by rw [HR.out]; rfl, rfl⟩
def areaB (w h : Int) : Bool := sideB w && sideB h
set_option maxRecDepth 20000 in
set_option maxHeartbeats 1000000 in
theorem valid_is (a b : Int) (w : World) : Calls Try.prog 70 #[.agg #[.int .i64 a, .int .i64 b]] w fun e w' => e = .returned (.bool (areaB a b)) ∧ Below w.heap.size w w' := by
  have HB : Hid (Below w.heap.size w (w.alloc (.cells #[.int .i64 a, .int .i64 b] 108))) := hide ((Below.refl _ _).alloc (Nat.le_refl _) _)
  cases h1 : sideB a with
  | true =>
    have H1 := hide h1; clear h1
    go_enter Try.func70, Try.ntmps70
    go_wp2_with (first | (go_at_call 114; (with_reducible refine (side_is a _).mono ?_); rintro e w' ⟨rfl, rfl⟩; rw [H1.out]) | (go_at_call 114; (with_reducible refine (side_is b _).mono ?_); rintro e w' ⟨rfl, rfl⟩))
    go_ret
    exact ⟨by unfold areaB; rw [H1.out]; rfl, HB.out⟩
  | false =>
    have H1 := hide h1; clear h1
    go_enter Try.func70, Try.ntmps70
    go_wp2_with (go_at_call 114; (with_reducible refine (side_is a _).mono ?_); rintro e w' ⟨rfl, rfl⟩; rw [H1.out])
    go_ret
    exact ⟨by unfold areaB; rw [H1.out]; rfl, HB.out⟩
theorem rects_any (a b : Int) (w : World) : Calls Try.prog 71 #[.agg #[.int .i64 a, .int .i64 b]] w fun e w' => e = .returned (.int .i64 (wr (tsum a * tsum b))) ∧ Below w.heap.size w w' :=
  plain_call (kn := ⟨pr1, fun _ => false⟩) pr1_ok (n := 5) (d := 5) (args := [.agg #[.int .i64 a, .int .i64 b]]) rfl rfl (by kernel_rfl) w
def hasB (a b x y c d : Int) : Bool := decide (c ≤ wr (a - x)) && decide (d ≤ wr (b - y))
set_option maxRecDepth 20000 in
set_option maxHeartbeats 1000000 in
theorem has_is (a b x y c d : Int) (w : World) : Calls Try.prog 72 #[.agg #[.int .i64 a, .int .i64 b], .agg #[.int .i64 x, .int .i64 y, .int .i64 c, .int .i64 d]] w fun e w' => e = .returned (.bool (hasB a b x y c d)) ∧ Below w.heap.size w w' := by
  have HB : Hid (Below w.heap.size w ((w.alloc (.cells #[.int .i64 a, .int .i64 b] 108)).alloc (.cells #[.int .i64 x, .int .i64 y, .int .i64 c, .int .i64 d] 23))) := hide (((Below.refl _ _).alloc (Nat.le_refl _) _).alloc (by simp) _)
  have e1 : wr (a - x) = wrap64 (a - x) := IntWalk.i64_left _
  have e2 : wr (b - y) = wrap64 (b - y) := IntWalk.i64_left _
  unfold hasB
  rw [e1, e2]
  by_cases h1 : c ≤ wrap64 (a - x)
  · have D1 : Hid (decide (c ≤ wrap64 (a - x)) = true) := hide (decide_eq_true h1)
    by_cases h2 : d ≤ wrap64 (b - y)
    · have D2 : Hid (decide (d ≤ wrap64 (b - y)) = true) := hide (decide_eq_true h2)
      go_enter Try.func72, Try.ntmps72
      go_wp2
      go_ret
      exact ⟨by have h3 := D1.out; have h4 := D2.out; simp only [h3, h4]; rfl, HB.out⟩
    · have D2 : Hid (decide (d ≤ wrap64 (b - y)) = false) := hide (decide_eq_false h2)
      go_enter Try.func72, Try.ntmps72
      go_wp2
      go_ret
      exact ⟨by have h3 := D1.out; have h4 := D2.out; simp only [h4]; rfl, HB.out⟩
  · have D1 : Hid (decide (c ≤ wrap64 (a - x)) = false) := hide (decide_eq_false h1)
    go_enter Try.func72, Try.ntmps72
    go_wp2
    go_ret
    exact ⟨by have h3 := D1.out; simp only [h3]; rfl, HB.out⟩
end Go.Proofs.Ytgkonocjafoblaa
