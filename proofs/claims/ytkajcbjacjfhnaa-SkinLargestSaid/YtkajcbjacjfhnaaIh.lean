/- The reference's Count. -/
import Derived.Test.YtkajcbjacjfhnaaIg
set_option linter.unusedVariables false
namespace Go.Proofs.Ytkajcbjacjfhnaa
open Go.RowKit Go.Ab
theorem rowN_mono (u : Nat → Nat → Bool) (y x j : Nat) : 0 ≤ rowN u y (x + j) - rowN u y x ∧ rowN u y (x + j) - rowN u y x ≤ j := by
  induction j with
  | zero => simp
  | succ j ih =>
    have e : rowN u y (x + (j + 1)) = rowN u y (x + j) + if u (x + j) y then 1 else 0 := rfl
    rw [e]
    split <;> omega
theorem rectN_bd (u : Nat → Nat → Bool) (X Y B h : Nat) (hB : B ≤ 48) : 0 ≤ rectN u X Y B h ∧ rectN u X Y B h ≤ 48 * h := by
  induction h with
  | zero => simp [rectN]
  | succ h ih =>
    unfold rectN
    have := rowN_mono u (Y + h) X B
    omega
set_option maxRecDepth 20000 in
set_option maxHeartbeats 4000000 in
theorem rcount_is (bb off c n l g X Y B H : Nat) (f : Nat → Nat → UInt8) (w : World) (hz : ZsAt w bb off l (rowS f n)) (hd : Dim (n, l, f)) (hg : Dg (n, l, f)) (h9 : g ≤ 9) (hX : X + B ≤ n) (hY : Y + H ≤ l) :
    Calls Try.prog 31 #[.slice (some ⟨bb, off, none⟩) l c, .int .i64 g, .agg #[.int .i64 X, .int .i64 Y, .int .i64 B, .int .i64 H]] w fun e w' => e = .returned (.int .i64 (rectN (usB f g) X Y B H)) ∧ Below w.heap.size w w' := by
  have hb0 : Below w.heap.size w (w.alloc (.cells #[.int .i64 X, .int .i64 Y, .int .i64 B, .int .i64 H] 39)) := (Below.refl _ _).alloc (Nat.le_refl _) _
  have HB0 := hide hb0
  have HZ := hide (hz.below hb0)
  have HN : Hid ((X + B ≤ n ∧ Y + H ≤ l) ∧ n ≤ 48 ∧ l ≤ 48) := hide ⟨⟨hX, hY⟩, hd.1.2, hd.2.2⟩
  have HD := hide hd
  have HG := hide hg
  have bX : (X : Int) ≤ 48 := by have := HN.out; omega
  have bY : (Y : Int) ≤ 48 := by have := HN.out; omega
  have bB : (B : Int) ≤ 48 := by have := HN.out; omega
  have bH : (H : Int) ≤ 48 := by have := HN.out; omega
  clear hz hd hg h9 hX hY hb0
  go_enter Try.func31, Try.ntmps31
  go_wp2_with fail
  go_loop [7, 8, 9] (fun s i _ => ∃ (k : Nat), k ≤ H ∧ i = .int .i64 ((Y : Int) + (k : Int)) ∧ s = .int .i64 (rectN (usB f g) X Y B k)) (fun _ i _ => (Y + H - intOf i).toNat)
  case atStart => exact ⟨0, Nat.zero_le _, by simp, rfl⟩
  case round =>
    obtain ⟨k, hk, rfl, rfl⟩ := hrel
    obtain ⟨N, hN⟩ : ∃ N : Int, Hid (N = rectN (usB f g) X Y B k) := ⟨_, hide rfl⟩
    have hNb : 0 ≤ N ∧ N ≤ 2304 := by
      have := rectN_bd (usB f g) X Y B k (by have := HN.out; omega)
      rw [hN.out]; omega
    obtain ⟨hN0, hN1⟩ := hNb
    rw [← hN.out]
    by_cases hlt : k < H
    · have t1 : (Y : Int) + (k : Int) < (Y : Int) + (H : Int) := by omega
      obtain ⟨q, hq⟩ : ∃ q : Nat, Hid (q = Y + k) := ⟨_, hide rfl⟩
      have hql : q < l := by rw [hq.out]; have := HN.out; omega
      have hqi : (Y : Int) + (k : Int) = (q : Int) := by rw [hq.out]; omega
      have hq48 : (q : Int) ≤ 48 := by have := HN.out; omega
      go_wp2_with fail
      go_loop [7, 9] (fun s i => ∃ (j : Nat), j ≤ B ∧ i = .int .i64 ((X : Int) + (j : Int)) ∧ s = .int .i64 (N + (rowN (usB f g) q (X + j) - rowN (usB f g) q X))) (fun _ i => (X + B - intOf i).toNat)
      case atStart => exact ⟨0, Nat.zero_le _, by simp, by simp⟩
      case round =>
        obtain ⟨j, hj, rfl, rfl⟩ := hrel
        obtain ⟨M, hM⟩ : ∃ M : Int, Hid (M = N + (rowN (usB f g) q (X + j) - rowN (usB f g) q X)) := ⟨_, hide rfl⟩
        have hMb : 0 ≤ M ∧ M ≤ 3000 := by
          have := rowN_mono (usB f g) q X j
          have := HN.out
          rw [hM.out]; omega
        obtain ⟨hM0, hM1⟩ := hMb
        rw [← hM.out]
        by_cases hlj : j < B
        · have t2 : (X : Int) + (j : Int) < (X : Int) + (B : Int) := by omega
          obtain ⟨r, hr⟩ : ∃ r : Nat, Hid (r = X + j) := ⟨_, hide rfl⟩
          have hrn : r < n := by rw [hr.out]; have := HN.out; omega
          have hri : (X : Int) + (j : Int) = (r : Int) := by rw [hr.out]; omega
          have hr48 : (r : Int) ≤ 48 := by have := HN.out; omega
          obtain ⟨D, hD⟩ : ∃ D : Int, Hid (D = ((f r q).toNat : Int) - 48) := ⟨_, rfl⟩
          have HC : Hid (∀ W, W = W → Below (w.alloc (.cells #[.int .i64 X, .int .i64 Y, .int .i64 B, .int .i64 H] 39)).heap.size (w.alloc (.cells #[.int .i64 X, .int .i64 Y, .int .i64 B, .int .i64 H] 39)) W → Calls Try.prog 63 #[.slice (some ⟨bb, off, none⟩) l c, .int .i64 r, .int .i64 q] W fun e w' => e = .returned (.int .i64 D) ∧ W = w') := hide (fun W _ hb => by
            rw [hD.out]
            exact grade_sp _ (n, l, f) r q W ⟨bb, off, c, rfl, HZ.out.below hb⟩ HD.out HG.out hrn hql)
          have HRr : Hid (rowN (usB f g) q (X + (j + 1)) = rowN (usB f g) q (X + j) + if usB f g r q then 1 else 0) := hide (by
            rw [hr.out, ← Nat.add_assoc]; rfl)
          cases hus : usB f g r q with
          | false =>
            rw [hus] at HRr
            have hge : ¬ ((g : Int) ≤ D) := by
              have e := hus
              unfold usB at e
              rw [decide_eq_false_iff_not] at e
              have := hD.out; omega
            clear hus
            go_wp2_with (go_at_call 63; refine (HC.out _ rfl (Below.refl _ _)).mono ?_; rintro e w' ⟨rfl, rfl⟩)
            go_round
            case rel => exact ⟨j + 1, by omega, by congr 1; rw [← hri]; omega, by congr 1; rw [hM.out, HRr.out]; simp⟩
            case measure => simp [intOf]; omega
          | true =>
            rw [hus] at HRr
            have hge : (g : Int) ≤ D := by
              have e := hus
              unfold usB at e
              rw [decide_eq_true_eq] at e
              have := hD.out; omega
            clear hus
            go_wp2_with (go_at_call 63; refine (HC.out _ rfl (Below.refl _ _)).mono ?_; rintro e w' ⟨rfl, rfl⟩)
            go_round
            case rel => exact ⟨j + 1, by omega, by congr 1; rw [← hri]; omega, by congr 1; rw [hM.out, HRr.out]; simp; omega⟩
            case measure => simp [intOf]; omega
        · obtain rfl : j = B := by omega
          have HS : Hid (M = rectN (usB f g) X Y j (k + 1)) := hide (by rw [hM.out, hN.out, hq.out]; rfl)
          go_wp2_with fail
          go_round
          case rel => exact ⟨k + 1, by omega, by congr 1; omega, by rw [HS.out]⟩
          case measure => simp [intOf]; omega
    · obtain rfl : k = H := by omega
      go_wp2_with fail
      go_ret
      exact ⟨by rw [← hN.out]; rfl, HB0.out⟩
end Go.Proofs.Ytkajcbjacjfhnaa
