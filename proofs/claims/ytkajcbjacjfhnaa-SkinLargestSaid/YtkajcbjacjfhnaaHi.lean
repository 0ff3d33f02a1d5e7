/- SkinTurns' walk. -/
import Derived.Test.YtkajcbjacjfhnaaHh
set_option linter.unusedVariables false
namespace Go.Proofs.Ytkajcbjacjfhnaa
open Go.RowKit Go.Ab
set_option maxHeartbeats 1000000 in
theorem sequal_nil (w : World) : Calls Try.prog 36 #[.slice none 0 0, .slice none 0 0] w fun e w' => e = .returned (.bool true) ∧ Below w.heap.size w w' := by
  go_enter Try.func36, Try.ntmps36
  go_wp2
  go_loop [13] (fun i => i = .int .i64 0) (fun _ => 0)
  case atStart => rfl
  case round =>
    subst hrel
    go_wp2
    go_ret
    exact ⟨rfl, Below.refl _ _⟩
set_option maxHeartbeats 1000000 in
theorem sequal_at (b off c b' off' c' l : Nat) (S : Nat → ByteArray) (w : World) (h48 : l ≤ 48) (h : ZsAt w b off l S) (h' : ZsAt w b' off' l S) :
    Calls Try.prog 36 #[.slice (some ⟨b, off, none⟩) l c, .slice (some ⟨b', off', none⟩) l c'] w fun e w' => e = .returned (.bool true) ∧ Below w.heap.size w w' := by
  have H := hide h; clear h
  have H' := hide h'; clear h'
  go_enter Try.func36, Try.ntmps36
  go_wp2
  go_loopw [13] (fun i wr => ∃ k : Nat, k ≤ l ∧ i = .int .i64 k ∧ ∃ n, wr = w.drewN n) (fun i _ => l - (intOf i).toNat)
  case atStart => exact ⟨0, by omega, rfl, 0, rfl⟩
  case round =>
    obtain ⟨k, hk, rfl, n, rfl⟩ := hrel
    by_cases hlt : k < l
    · have hlt2 : (k : Int) < (l : Int) := by omega
      have h0 : (0 : Int) ≤ (k : Int) := by omega
      have c1 : w.cell? ⟨b, off + k, none⟩ = some (.string (S k)) := (H.out k hlt).1
      have c2 : w.cell? ⟨b', off' + k, none⟩ = some (.string (S k)) := (H'.out k hlt).1
      go_wp2_with fail
      go_quiet (fail)
      go_wp2_with fail
      go_roundw
      case rel => exact ⟨k + 1, by omega, by go_num, _, rfl⟩
      case measure => simp [intOf]; omega
    · obtain rfl : k = l := by omega
      go_wp2_with fail
      go_ret
      exact ⟨rfl, ⟨rfl, rfl, rfl, Nat.le_refl _, fun _ _ => rfl⟩⟩
theorem sequal_sp (v v' : Value) (p : Nat × Nat × (Nat → Nat → UInt8)) (w : World) (hd : Dim p) (h : Sp w v p) (h' : Sp w v' p) :
    Calls Try.prog 36 #[v, v'] w fun e w' => e = .returned (.bool true) ∧ Below w.heap.size w w' := by
  obtain ⟨b, off, c, rfl, hz⟩ := h
  obtain ⟨b', off', c', rfl, hz'⟩ := h'
  exact sequal_at b off c b' off' c' p.2.1 _ w hd.2.2 hz hz'
set_option maxHeartbeats 1000000 in
theorem turn_no (a : Option Addr) (l c : Nat) (k : Int) (ss : Nat → ByteArray) (w : World) (hz : Zs w a l ss) (hv : validB l ss = false) :
    Calls Try.prog 32 #[.slice a l c, .int .i64 k] w fun e w' => e = .returned (.tuple #[.slice none 0 0, .int .i64 2]) ∧ w = w' := by
  have HZ := hide hz; clear hz
  have HV := hide hv; clear hv
  go_enter Try.func32, Try.ntmps32
  go_wp2_with (go_at_call 22; refine (valid_all a l c ss _ HZ.out).mono ?_; rintro e w' ⟨rfl, rfl⟩; rw [HV.out])
  go_ret2
  exact ⟨rfl, rfl⟩
set_option maxHeartbeats 1000000 in
theorem rturn_no (a : Option Addr) (l c : Nat) (k : Int) (ss : Nat → ByteArray) (w : World) (hz : Zs w a l ss) (hv : validB l ss = false) :
    Calls Try.prog 33 #[.slice a l c, .int .i64 k] w fun e w' => e = .returned (.tuple #[.slice none 0 0, .int .i64 2]) ∧ w = w' := by
  have HZ := hide hz; clear hz
  have HV := hide hv; clear hv
  go_enter Try.func33, Try.ntmps33
  go_wp2_with (go_at_call 23; refine (rvalid_all a l c ss _ HZ.out).mono ?_; rintro e w' ⟨rfl, rfl⟩; rw [HV.out])
  go_ret2
  exact ⟨rfl, rfl⟩
set_option maxHeartbeats 1000000 in
theorem mirror_no (a : Option Addr) (l c : Nat) (ss : Nat → ByteArray) (w : World) (hz : Zs w a l ss) (hv : validB l ss = false) :
    Calls Try.prog 34 #[.slice a l c] w fun e w' => e = .returned (.tuple #[.slice none 0 0, .int .i64 2]) ∧ Below w.heap.size w w' := by
  have HB : Hid (Below w.heap.size w (w.alloc (.cells #[.slice a l c] 22))) := hide ((Below.refl _ _).alloc (Nat.le_refl _) _)
  have HZ := hide (hz.below HB.out); clear hz
  have HV := hide hv; clear hv
  go_enter Try.func34, Try.ntmps34
  go_wp2_with (go_at_call 22; refine (valid_all a l c ss _ HZ.out).mono ?_; rintro e w' ⟨rfl, rfl⟩; rw [HV.out])
  go_ret2
  exact ⟨rfl, HB.out⟩
set_option maxHeartbeats 1000000 in
theorem rmirror_no (a : Option Addr) (l c : Nat) (ss : Nat → ByteArray) (w : World) (hz : Zs w a l ss) (hv : validB l ss = false) :
    Calls Try.prog 35 #[.slice a l c] w fun e w' => e = .returned (.tuple #[.slice none 0 0, .int .i64 2]) ∧ w = w' := by
  have HZ := hide hz; clear hz
  have HV := hide hv; clear hv
  go_enter Try.func35, Try.ntmps35
  go_wp2_with (go_at_call 23; refine (rvalid_all a l c ss _ HZ.out).mono ?_; rintro e w' ⟨rfl, rfl⟩; rw [HV.out])
  go_ret2
  exact ⟨rfl, rfl⟩
end Go.Proofs.Ytkajcbjacjfhnaa
