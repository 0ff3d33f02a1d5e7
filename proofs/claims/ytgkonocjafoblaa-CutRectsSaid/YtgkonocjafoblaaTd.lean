/- place, of the reference. -/
import Derived.Test.YtgkonocjafoblaaTc
set_option linter.unusedVariables false
namespace Go.Proofs.Ytgkonocjafoblaa
open Go Go.RowKit Go.Ab
theorem w64 {n : Int} (h1 : -9223372036854775808 ≤ n) (h2 : n ≤ 9223372036854775807) : wrap64 n = n := IntWalk.wrap64_in _ (by omega)
theorem half_is {W : Nat} (hW : W ≤ 16) : wrap64 ((wrap64 ((W : Int) * ((W : Int) + 1))).tdiv 2) = (Tn W : Int) := by
  rw [← tsum_is hW]
  unfold tsum
  rw [wr_in (n := (W : Int) + 1) (by omega) (by omega)]
  simp only [wr, IntWalk.i64_left]
theorem step1 {W H k : Nat} (hW : W ≤ 16) (hH : H ≤ 16) (hk : k < H) : wrap64 ((Tn W : Int) * (Sn H k : Int) + wrap64 (wrap64 ((wrap64 ((W : Int) * ((W : Int) + 1))).tdiv 2) * ((H : Int) - k))) = ((Tn W * Sn H (k + 1) : Nat) : Int) := by
  rw [half_is hW, Sn_succ hk, Nat.mul_add]
  have e : ((H : Int) - k) = ((H - k : Nat) : Int) := by omega
  have b1 : Tn W * Sn H k ≤ 136 * 136 := Nat.mul_le_mul (Tn_16 hW) (Sn_16 hH)
  have b2 : Tn W * (H - k) ≤ 136 * 16 := Nat.mul_le_mul (Tn_16 hW) (by omega)
  rw [e, ← Int.natCast_mul, ← Int.natCast_mul]
  generalize Tn W * Sn H k = A at *
  generalize Tn W * (H - k) = B at *
  rw [w64 (n := (B : Int)) (by omega) (by omega), w64 (by omega) (by omega)]
  omega
theorem step2 {W k A r : Nat} (hW : W ≤ 16) (hr : r ≤ 16) (hk : k < W) (hA : A ≤ 18496) : wrap64 ((A : Int) + (Sn W k : Int) * (r : Int) + wrap64 (((W : Int) - k) * (r : Int))) = ((A + Sn W (k + 1) * r : Nat) : Int) := by
  rw [Sn_succ hk, Nat.add_mul]
  have e : ((W : Int) - k) = ((W - k : Nat) : Int) := by omega
  have b1 : Sn W k * r ≤ 136 * 16 := Nat.mul_le_mul (Sn_16 hW) hr
  have b2 : (W - k) * r ≤ 16 * 16 := Nat.mul_le_mul (by omega) hr
  rw [e, ← Int.natCast_mul, ← Int.natCast_mul]
  generalize Sn W k * r = B at *
  generalize (W - k) * r = C at *
  rw [w64 (n := (C : Int)) (by omega) (by omega), w64 (by omega) (by omega)]
  omega
theorem step3 {W k A r b t : Nat} (hW : W ≤ 16) (hr : r ≤ 16) (hA : A ≤ 18496) (hb : 1 ≤ b) (hb' : b ≤ 16) (ht : 1 ≤ t) (ht' : t ≤ 16) :
    wrap64 (wrap64 (wrap64 ((A : Int) + (Sn W k : Int) * (r : Int) + wrap64 (((b : Int) - 1) * (r : Int))) + t) - 1) = ((A + Sn W k * r + (b - 1) * r + t - 1 : Nat) : Int) := by
  have e : ((b : Int) - 1) = ((b - 1 : Nat) : Int) := by omega
  have b1 : Sn W k * r ≤ 136 * 16 := Nat.mul_le_mul (Sn_16 hW) hr
  have b2 : (b - 1) * r ≤ 16 * 16 := Nat.mul_le_mul (by omega) hr
  rw [e, ← Int.natCast_mul, ← Int.natCast_mul]
  generalize Sn W k * r = B at *
  generalize (b - 1) * r = C at *
  rw [w64 (n := (C : Int)) (by omega) (by omega), w64 (n := (A : Int) + B + C) (by omega) (by omega), w64 (n := (A : Int) + B + C + t) (by omega) (by omega), w64 (by omega) (by omega)]
  omega
set_option maxRecDepth 20000 in
set_option maxHeartbeats 4000000 in
theorem place_is (W H x y b t : Nat) (w : World) (hW : W ≤ 16) (hH : H ≤ 16) (hb : 1 ≤ b) (ht : 1 ≤ t) (hx : x + b ≤ W) (hy : y + t ≤ H) :
    Calls Try.prog 74 #[.int .i64 W, .int .i64 H, .agg #[.int .i64 x, .int .i64 y, .int .i64 b, .int .i64 t]] w fun e w' => e = .returned (.int .i64 (plV W H x y b t : Int)) ∧ Below w.heap.size w w' := by
  have HB : Hid (Below w.heap.size w (w.alloc (.cells #[.int .i64 x, .int .i64 y, .int .i64 b, .int .i64 t] 23))) := hide ((Below.refl _ _).alloc (Nat.le_refl _) _)
  obtain ⟨A, hA⟩ : ∃ A, Hid (A = Tn W * Sn H y) := ⟨_, hide rfl⟩
  obtain ⟨r, hr⟩ : ∃ r, Hid (r = H - y) := ⟨_, hide rfl⟩
  have hr16 : r ≤ 16 := by rw [hr.out]; omega
  have hri : (H : Int) - (y : Int) = (r : Int) := by rw [hr.out]; omega
  have hA16 : Hid (A ≤ 18496) := hide (by rw [hA.out]; exact Nat.mul_le_mul (Tn_16 hW) (Sn_16 hH))
  go_enter Try.func74, Try.ntmps74
  go_wp2
  go_loopw [7, 12] (fun v i wr => ∃ k : Nat, k ≤ y ∧ i = .int .i64 k ∧ v = .int .i64 ((Tn W * Sn H k : Nat) : Int) ∧ wr = w.alloc (.cells #[.int .i64 x, .int .i64 y, .int .i64 b, .int .i64 t] 23)) (fun _ i _ => y - (intOf i).toNat)
  case atStart => exact ⟨0, Nat.zero_le _, rfl, by rw [Sn_zero, Nat.mul_zero]; rfl, rfl⟩
  case round =>
    obtain ⟨k, hk, rfl, rfl, rfl⟩ := hrel
    by_cases hlt : k < y
    · have HE : Hid (wrap64 ((Tn W : Int) * (Sn H k : Int) + wrap64 (wrap64 ((wrap64 ((W : Int) * ((W : Int) + 1))).tdiv 2) * ((H : Int) - k))) = ((Tn W * Sn H (k + 1) : Nat) : Int)) := hide (step1 hW hH (by omega))
      go_wp2
      refine ⟨⟨k + 1, hlt, rfl, by rw [HE.out], trivial⟩, ?_⟩
      show y - ((k : Int) + 1).toNat < y - (k : Int).toNat
      omega
    · obtain rfl : k = y := by omega
      go_wp2
      go_loopw [7, 29] (fun v i wr => ∃ j : Nat, j ≤ x ∧ i = .int .i64 j ∧ v = .int .i64 ((A + Sn W j * r : Nat) : Int) ∧ wr = w.alloc (.cells #[.int .i64 x, .int .i64 k, .int .i64 b, .int .i64 t] 23)) (fun _ i _ => x - (intOf i).toNat)
      case atStart => exact ⟨0, Nat.zero_le _, rfl, by rw [Sn_zero, Nat.zero_mul, hA.out]; rfl, rfl⟩
      case round =>
        obtain ⟨j, hj, rfl, rfl, rfl⟩ := hrel
        by_cases hlj : j < x
        · have HE : Hid (wrap64 ((A : Int) + (Sn W j : Int) * (r : Int) + wrap64 (((W : Int) - j) * (r : Int))) = ((A + Sn W (j + 1) * r : Nat) : Int)) := hide (step2 hW hr16 (by omega) hA16.out)
          go_wp2
          refine ⟨⟨j + 1, hlj, rfl, by rw [HE.out], trivial⟩, ?_⟩
          show x - ((j : Int) + 1).toNat < x - (j : Int).toNat
          omega
        · obtain rfl : j = x := by omega
          have HF : Hid (wrap64 (wrap64 (wrap64 ((A : Int) + (Sn W j : Int) * (r : Int) + wrap64 (((b : Int) - 1) * (r : Int))) + t) - 1) = (plV W H j k b t : Int)) := hide (by
            rw [step3 hW hr16 hA16.out hb (by omega) ht (by omega)]
            unfold plV
            rw [← hA.out, ← hr.out])
          go_wp2
          go_ret
          exact ⟨by rw [← HF.out]; rfl, HB.out⟩
end Go.Proofs.Ytgkonocjafoblaa
