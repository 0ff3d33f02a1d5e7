/- Worth, of the program and of the reference. -/
import Derived.Test.YtkajcbjacjfhnaaGg
namespace Go.Proofs.Ytkajcbjacjfhnaa
open Go.RowKit
theorem iv0 (C : Nat → Int) (w : World) : (Instr.index 79 (.agg (vec C)) (.int .i64 ((0 : Nat) : Int))).run Try.prog w = .ok (.int .i64 (C 0)) w := by kernel_rfl
theorem iv1 (C : Nat → Int) (w : World) : (Instr.index 79 (.agg (vec C)) (.int .i64 ((1 : Nat) : Int))).run Try.prog w = .ok (.int .i64 (C 1)) w := by kernel_rfl
theorem iv2 (C : Nat → Int) (w : World) : (Instr.index 79 (.agg (vec C)) (.int .i64 ((2 : Nat) : Int))).run Try.prog w = .ok (.int .i64 (C 2)) w := by kernel_rfl
theorem iv3 (C : Nat → Int) (w : World) : (Instr.index 79 (.agg (vec C)) (.int .i64 ((3 : Nat) : Int))).run Try.prog w = .ok (.int .i64 (C 3)) w := by kernel_rfl
theorem iv4 (C : Nat → Int) (w : World) : (Instr.index 79 (.agg (vec C)) (.int .i64 ((4 : Nat) : Int))).run Try.prog w = .ok (.int .i64 (C 4)) w := by kernel_rfl
theorem iv5 (C : Nat → Int) (w : World) : (Instr.index 79 (.agg (vec C)) (.int .i64 ((5 : Nat) : Int))).run Try.prog w = .ok (.int .i64 (C 5)) w := by kernel_rfl
theorem iv6 (C : Nat → Int) (w : World) : (Instr.index 79 (.agg (vec C)) (.int .i64 ((6 : Nat) : Int))).run Try.prog w = .ok (.int .i64 (C 6)) w := by kernel_rfl
theorem iv7 (C : Nat → Int) (w : World) : (Instr.index 79 (.agg (vec C)) (.int .i64 ((7 : Nat) : Int))).run Try.prog w = .ok (.int .i64 (C 7)) w := by kernel_rfl
theorem iv8 (C : Nat → Int) (w : World) : (Instr.index 79 (.agg (vec C)) (.int .i64 ((8 : Nat) : Int))).run Try.prog w = .ok (.int .i64 (C 8)) w := by kernel_rfl
theorem iv9 (C : Nat → Int) (w : World) : (Instr.index 79 (.agg (vec C)) (.int .i64 ((9 : Nat) : Int))).run Try.prog w = .ok (.int .i64 (C 9)) w := by kernel_rfl
theorem index_vec (C : Nat → Int) (k : Nat) (h : k < 10) (w : World) : (Instr.index 79 (.agg (vec C)) (.int .i64 k)).run Try.prog w = .ok (.int .i64 (C k)) w := by
  have : k = 0 ∨ k = 1 ∨ k = 2 ∨ k = 3 ∨ k = 4 ∨ k = 5 ∨ k = 6 ∨ k = 7 ∨ k = 8 ∨ k = 9 := by omega
  rcases this with rfl | rfl | rfl | rfl | rfl | rfl | rfl | rfl | rfl | rfl
  · exact iv0 C w
  · exact iv1 C w
  · exact iv2 C w
  · exact iv3 C w
  · exact iv4 C w
  · exact iv5 C w
  · exact iv6 C w
  · exact iv7 C w
  · exact iv8 C w
  · exact iv9 C w
theorem T_bds (ss : Nat → ByteArray) (l : Nat) (hv : validB l ss = true) : ∀ g, 0 ≤ T ss l 0 g ∧ T ss l 0 g ≤ 2400 := fun g => by
  obtain ⟨h1, h2, h3, h4, hr⟩ := validB_parts hv
  have h := rowsC_le ss 48 l g (fun i hi => by have := (T_row ss _ l i 0 hr hi).1; omega)
  have h5 : l * 48 ≤ 48 * 48 := Nat.mul_le_mul_right 48 h2
  unfold T
  simp [cntL]
  omega
set_option maxHeartbeats 1000000 in
theorem worth_no1 (a a' : Option Addr) (l c m c' : Nat) (ss : Nat → ByteArray) (w : World) (hz : Zs w a l ss) (hv : validB l ss = false) :
    Calls Try.prog 20 #[.slice a l c, .slice a' m c'] w fun e w' => e = .returned (.tuple #[.int .i64 0, .int .i64 2]) ∧ w = w' := by
  have HZ := hide hz; clear hz
  have HV := hide hv; clear hv
  go_enter Try.func20, Try.ntmps20
  go_wp2_with (go_at_call 22; refine (valid_all a l c ss _ HZ.out).mono ?_; rintro e w' ⟨rfl, rfl⟩; rw [HV.out])
  go_ret2
  exact ⟨rfl, rfl⟩
set_option maxHeartbeats 1000000 in
theorem worth_no2 (a a' : Option Addr) (l c m c' : Nat) (ss : Nat → ByteArray) (ns : Nat → Int) (w : World) (hm : m ≤ maxLen) (hz : Zs w a l ss) (hp : Ps w a' m ns) (hv : validB l ss = true) (hb : pricesB m ns = false) :
    Calls Try.prog 20 #[.slice a l c, .slice a' m c'] w fun e w' => e = .returned (.tuple #[.int .i64 0, .int .i64 2]) ∧ w = w' := by
  have HZ := hide hz; clear hz
  have HV := hide hv; clear hv
  have HP := hide hp; clear hp
  have HB := hide hb; clear hb
  go_enter Try.func20, Try.ntmps20
  go_wp2_with (first | (go_at_call 22; refine (valid_all a l c ss _ HZ.out).mono ?_; rintro e w' ⟨rfl, rfl⟩; rw [HV.out]) | (go_at_call 66; refine (prices_any a' m c' ns _ hm HP.out).mono ?_; rintro e w' ⟨rfl, rfl⟩; rw [HB.out]))
  go_ret2
  exact ⟨rfl, rfl⟩
set_option maxRecDepth 100000 in
set_option maxHeartbeats 2000000 in
theorem worth_yes (b off l c b' off' c' : Nat) (ss : Nat → ByteArray) (ns : Nat → Int) (w : World) (hz : ZsAt w b off l ss) (hp : PsAt w b' off' 10 ns) (hv : validB l ss = true) (hb : pricesB 10 ns = true) :
    Calls Try.prog 20 #[.slice (some ⟨b, off, none⟩) l c, .slice (some ⟨b', off', none⟩) 10 c'] w fun e w' => e = .returned (.tuple #[.int .i64 (sumW (T ss l 0) ns 10), .int .i64 0]) ∧ Below w.heap.size w w' := by
  have HQ : Hid (pricesA 10 ns = true) := hide (by unfold pricesB at hb; simpa using hb)
  have HT := hide (T_bds ss l hv)
  have HX := hide (validB_parts hv)
  have HZ := hide hz; clear hz
  have HV := hide hv; clear hv
  have HP := hide hp; clear hp
  have HB := hide hb; clear hb
  go_enter Try.func20, Try.ntmps20
  go_wp2_with (first | (go_at_call 22; refine (valid_any b off l c ss _ HZ.out).mono ?_; rintro e w' ⟨rfl, rfl⟩; rw [HV.out]) | (go_at_call 66; refine (prices_at b' off' 10 c' ns _ (by unfold maxLen; omega) HP.out).mono ?_; rintro e w' ⟨rfl, rfl⟩; rw [HB.out]))
  refine (counted_any b off l c (ss 0).size ss _ HX.out.2.1 HX.out.2.2.2.1 HZ.out HX.out.2.2.2.2).mono ?_
  rintro e w1 ⟨rfl, hbel⟩
  have HBel := hide hbel; clear hbel
  have HP1 := hide (HP.out.below HBel.out)
  obtain ⟨C, hC⟩ : ∃ C, C = T ss l 0 := ⟨_, rfl⟩
  rw [← hC] at HT ⊢
  have HC := hide hC; clear hC
  go_wp2_with fail
  go_loop [6, 19] (fun s i => ∃ k : Nat, k ≤ 10 ∧ i = .int .i64 k ∧ s = .int .i64 (sumW C ns k)) (fun _ i => 10 - (intOf i).toNat)
  case atStart => exact ⟨0, by omega, rfl, rfl⟩
  case round =>
    obtain ⟨k, hk, rfl, rfl⟩ := hrel
    by_cases hlt : k < 10
    · have hlt2 : (k : Int) < 10 := by omega
      have ck := (HP1.out k hlt).1
      have hix := index_vec C k hlt w1
      have hp0 := pricesA_get HQ.out hlt
      obtain ⟨p0, p1⟩ := hp0
      have hc0 := HT.out k
      obtain ⟨q0, q1⟩ := hc0
      have hm := mul_bd (C k) (ns k) ⟨q0, q1⟩ ⟨p0, p1⟩
      obtain ⟨m0, m1⟩ := hm
      have hs := sumW_bd C ns k (fun i _ => HT.out i) (fun i hi => pricesA_get HQ.out (by omega))
      obtain ⟨s0, s1⟩ := hs
      have s2 : sumW C ns k ≤ 24000000000 := by omega
      have HS : Hid (sumW C ns (k + 1) = sumW C ns k + C k * ns k) := rfl
      obtain ⟨M, hM⟩ : ∃ M, M = C k * ns k := ⟨_, rfl⟩
      rw [← hM] at m0 m1 HS
      have hw : wrap64 (C k * ns k) = M := by rw [← hM]; exact IntWalk.wrap64_in _ (by omega)
      clear s1 hM
      go_wp2_with fail
      go_round
      case rel => exact ⟨k + 1, by omega, by go_num, by rw [HS.out]⟩
      case measure => simp [intOf]; omega
    · obtain rfl : k = 10 := by omega
      go_wp2_with fail
      go_ret2
      refine ⟨?_, HBel.out⟩
      show Ending.returned (.tuple #[.int .i64 (sumW C ns 10), .int .i64 0]) = _
      rw [HC.out]
set_option maxHeartbeats 1000000 in
theorem rworth_no1 (a a' : Option Addr) (l c m c' : Nat) (ss : Nat → ByteArray) (w : World) (hz : Zs w a l ss) (hv : validB l ss = false) :
    Calls Try.prog 21 #[.slice a l c, .slice a' m c'] w fun e w' => e = .returned (.tuple #[.int .i64 0, .int .i64 2]) ∧ Below w.heap.size w w' := by
  have HZ := hide hz; clear hz
  have HV := hide hv; clear hv
  go_enter Try.func21, Try.ntmps21
  go_wp2_with (go_at_call 19; refine (rgrades_no a l c ss _ HZ.out HV.out).mono ?_; rintro e w' ⟨rfl, rfl⟩)
  go_ret2
  exact ⟨rfl, Below.refl _ _⟩
set_option maxHeartbeats 1000000 in
theorem rworth_no2 (b off l c : Nat) (a' : Option Addr) (m c' : Nat) (ss : Nat → ByteArray) (w : World) (hz : ZsAt w b off l ss) (hv : validB l ss = true) (hne : m ≠ 10) :
    Calls Try.prog 21 #[.slice (some ⟨b, off, none⟩) l c, .slice a' m c'] w fun e w' => e = .returned (.tuple #[.int .i64 0, .int .i64 2]) ∧ Below w.heap.size w w' := by
  have t : (((m : Nat) : Int) != 10) = true := by simp; omega
  have HZ := hide hz; clear hz
  have HV := hide hv; clear hv
  go_enter Try.func21, Try.ntmps21
  go_wp2_with fail
  refine (rgrades_yes b off l c ss _ HZ.out HV.out).mono ?_
  rintro e w1 ⟨B, rfl, hB, hT, hbel⟩
  have HBel := hide hbel; clear hbel hT hB
  go_wp2_with fail
  go_ret2
  exact ⟨rfl, HBel.out⟩
def worthV (C ns : Nat → Int) : Value := if pricesA 10 ns then .tuple #[.int .i64 (sumW C ns 10), .int .i64 0] else .tuple #[.int .i64 0, .int .i64 2]
theorem worthV_yes {C ns : Nat → Int} (h : pricesA 10 ns = true) : worthV C ns = .tuple #[.int .i64 (sumW C ns 10), .int .i64 0] := by unfold worthV; rw [if_pos h]
theorem worthV_no {C ns : Nat → Int} (h : pricesA 10 ns = false) : worthV C ns = .tuple #[.int .i64 0, .int .i64 2] := by unfold worthV; rw [h]; rfl
set_option maxRecDepth 100000 in
set_option maxHeartbeats 2000000 in
theorem rworth_ten (b off l c b' off' c' : Nat) (ss : Nat → ByteArray) (ns : Nat → Int) (w : World) (hz : ZsAt w b off l ss) (hp : PsAt w b' off' 10 ns) (hv : validB l ss = true) :
    Calls Try.prog 21 #[.slice (some ⟨b, off, none⟩) l c, .slice (some ⟨b', off', none⟩) 10 c'] w fun e w' => e = .returned (worthV (T ss l 0) ns) ∧ Below w.heap.size w w' := by
  have HT := hide (T_bds ss l hv)
  have HZ := hide hz; clear hz
  have HV := hide hv; clear hv
  have HP := hide hp; clear hp
  go_enter Try.func21, Try.ntmps21
  go_wp2_with fail
  refine (rgrades_yes b off l c ss _ HZ.out HV.out).mono ?_
  rintro e w1 ⟨B, rfl, hB, hTen, hbel⟩
  have HBel := hide hbel; clear hbel hB
  have HP1 := hide (HP.out.below HBel.out)
  have HTen := hide hTen; clear hTen
  go_wp2_with fail
  go_loop [8, 25] (fun s i => ∃ k : Nat, k ≤ 10 ∧ i = .int .i64 k ∧ s = .int .i64 (sumW (T ss l 0) ns k) ∧ Hid (pricesA k ns = true)) (fun _ i => 10 - (intOf i).toNat)
  case atStart => exact ⟨0, by omega, rfl, rfl, hide rfl⟩
  case round =>
    obtain ⟨k, hk, rfl, rfl, HK⟩ := hrel
    by_cases hlt : k < 10
    · have hlt2 : (k : Int) < 10 := by omega
      have ck := (HP1.out k hlt).1
      have tk := HTen.out k hlt
      have HN : Hid (okP (ns k) = false → pricesA 10 ns = false) := hide fun h => pricesA_not hlt h
      have HS2 := hide (pricesA_succ k ns)
      by_cases g1 : ns k < 0
      · go_wp2_with fail
        go_ret2
        exact ⟨by rw [worthV_no (HN.out (by unfold okP; simp; omega))]; rfl, HBel.out⟩
      · by_cases g2 : 1000000 < ns k
        · go_wp2_with fail
          go_ret2
          exact ⟨by rw [worthV_no (HN.out (by unfold okP; simp; omega))]; rfl, HBel.out⟩
        · have p0 : 0 ≤ ns k := by omega
          have p1 : ns k ≤ 1000000 := by omega
          have hc0 := HT.out k
          obtain ⟨q0, q1⟩ := hc0
          have hm := mul_bd (T ss l 0 k) (ns k) ⟨q0, q1⟩ ⟨p0, p1⟩
          obtain ⟨m0, m1⟩ := hm
          have hs := sumW_bd (T ss l 0) ns k (fun i _ => HT.out i) (fun i hi => pricesA_get HK.out hi)
          obtain ⟨s0, s1⟩ := hs
          have s2 : sumW (T ss l 0) ns k ≤ 24000000000 := by omega
          have HS : Hid (sumW (T ss l 0) ns (k + 1) = sumW (T ss l 0) ns k + T ss l 0 k * ns k) := rfl
          obtain ⟨M, hM⟩ : ∃ M, M = T ss l 0 k * ns k := ⟨_, rfl⟩
          rw [← hM] at m0 m1 HS
          have hw : wrap64 (ns k * T ss l 0 k) = M := by rw [Int.mul_comm, ← hM]; exact IntWalk.wrap64_in _ (by omega)
          clear s1 hM
          go_wp2_with fail
          go_round
          case rel => exact ⟨k + 1, by omega, by go_num, by rw [HS.out], hide (by rw [HS2.out, HK.out]; unfold okP; simp; omega)⟩
          case measure => simp [intOf]; omega
    · obtain rfl : k = 10 := by omega
      go_wp2_with fail
      go_ret2
      exact ⟨by rw [worthV_yes HK.out]; rfl, HBel.out⟩
end Go.Proofs.Ytkajcbjacjfhnaa
