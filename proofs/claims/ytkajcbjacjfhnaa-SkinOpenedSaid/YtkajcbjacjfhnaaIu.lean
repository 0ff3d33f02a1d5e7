/- SkinOpened: the refusals. -/
import Derived.Test.YtkajcbjacjfhnaaIt
set_option linter.unusedVariables false
namespace Go.Proofs.Ytkajcbjacjfhnaa
open Go.RowKit Go.Ab
set_option maxRecDepth 100000 in
set_option maxHeartbeats 4000000 in
theorem opened_no (a : Option Addr) (l c : Nat) (g k : Int) (ss : Nat → ByteArray) (w : World) (hz : Zs w a l ss) (hv : validB l ss = false) :
    Calls Try.prog 9 #[.slice a l c, .int .i64 g, .int .i64 k] w fun e w' => e = .returned (.bool true) ∧ Below w.heap.size w w' := by
  have HO := hide (open_err (.slice a l c) k w (erode_of _ k 2 _ w (swept_no a l c 90 k ss w hz hv)))
  have HZ := hide hz
  have HV := hide hv
  have HG : Hid (goodB l ss g = false) := hide (goodB_no1 hv)
  clear hz hv
  go_enter Try.func9, Try.ntmps9
  go_wp2_with fail
  refine HO.out.mono ?_
  rintro e w1 ⟨u, rfl, rfl, hb⟩
  have HB1 := hide hb
  have HZ1 := hide (HZ.out.below hb)
  clear hb HO
  go_wp2_with (first | (go_at_call 27; refine (good_is a l c g ss _ HZ1.out).mono ?_; rintro e w' ⟨rfl, rfl⟩; rw [HG.out]) | (go_at_call 23; refine (rvalid_all a l c ss _ HZ1.out).mono ?_; rintro e w' ⟨rfl, rfl⟩; rw [HV.out]))
  refine (awake_any _).mono ?_
  rintro e w2 ⟨rfl, hb⟩
  have HB2 := hide (bt HB1.out hb); clear hb
  go_wp2_with fail
  go_ret
  exact ⟨rfl, HB2.out⟩
set_option maxRecDepth 100000 in
set_option maxHeartbeats 4000000 in
theorem opened_low (bb off l c n : Nat) (f : Nat → Nat → UInt8) (g k : Int) (w : World) (hz : ZsAt w bb off l (rowS f n)) (hv : validB l (rowS f n) = true) (hk : k < 0) (gb : Bool) (hgb : goodB l (rowS f n) g = gb) :
    Calls Try.prog 9 #[.slice (some ⟨bb, off, none⟩) l c, .int .i64 g, .int .i64 k] w fun e w' => e = .returned (.bool true) ∧ Below w.heap.size w w' := by
  have HO := hide (open_err (.slice (some ⟨bb, off, none⟩) l c) k w (erode_of _ k 2 _ w (swept_low _ (n, l, f) 90 k w ⟨bb, off, c, rfl, hz⟩ hv hk)))
  have HZ := hide hz
  have HV := hide hv
  have HG := hide hgb
  have hk0 : decide (0 ≤ k) = false := by simp; omega
  clear hz hv hgb
  go_enter Try.func9, Try.ntmps9
  go_wp2_with fail
  refine HO.out.mono ?_
  rintro e w1 ⟨u, rfl, rfl, hb⟩
  have HB1 := hide hb
  have HZ1 := hide (HZ.out.below hb)
  clear hb HO
  cases gb
  all_goals
    go_wp2_with (first | (go_at_call 27; refine (good_is _ l c g _ _ (.inr ⟨bb, off, rfl, HZ1.out⟩)).mono ?_; rintro e w' ⟨rfl, rfl⟩; rw [HG.out]) | (go_at_call 23; refine (rvalid_any bb off l c _ _ HZ1.out).mono ?_; rintro e w' ⟨rfl, rfl⟩; rw [HV.out]))
    refine (awake_any _).mono ?_
    rintro e w2 ⟨rfl, hb⟩
    have HB2 := hide (bt HB1.out hb); clear hb
    go_wp2_with fail
    go_ret
    exact ⟨rfl, HB2.out⟩
set_option maxRecDepth 100000 in
set_option maxHeartbeats 4000000 in
theorem opened_high (bb off l c n : Nat) (f : Nat → Nat → UInt8) (g k : Int) (w : World) (hz : ZsAt w bb off l (rowS f n)) (hv : validB l (rowS f n) = true) (hk : 48 < k) (gb : Bool) (hgb : goodB l (rowS f n) g = gb) :
    Calls Try.prog 9 #[.slice (some ⟨bb, off, none⟩) l c, .int .i64 g, .int .i64 k] w fun e w' => e = .returned (.bool true) ∧ Below w.heap.size w w' := by
  have HO := hide (open_err (.slice (some ⟨bb, off, none⟩) l c) k w (erode_of _ k 2 _ w (swept_high _ (n, l, f) 90 k w ⟨bb, off, c, rfl, hz⟩ hv hk)))
  have HZ := hide hz
  have HV := hide hv
  have HG := hide hgb
  have hk0 : decide (0 ≤ k) = true := by simp; omega
  have hk1 : ¬ k < 0 := by omega
  have hk2 : decide ((48 : Int) < k) = true := by simp; omega
  have hk3 : decide (k ≤ (48 : Int)) = false := by simp; omega
  clear hz hv hgb
  go_enter Try.func9, Try.ntmps9
  go_wp2_with fail
  refine HO.out.mono ?_
  rintro e w1 ⟨u, rfl, rfl, hb⟩
  have HB1 := hide hb
  have HZ1 := hide (HZ.out.below hb)
  clear hb HO
  cases gb
  all_goals
    go_wp2_with (first | (go_at_call 27; refine (good_is _ l c g _ _ (.inr ⟨bb, off, rfl, HZ1.out⟩)).mono ?_; rintro e w' ⟨rfl, rfl⟩; rw [HG.out]) | (go_at_call 23; refine (rvalid_any bb off l c _ _ HZ1.out).mono ?_; rintro e w' ⟨rfl, rfl⟩; rw [HV.out]))
    refine (awake_any _).mono ?_
    rintro e w2 ⟨rfl, hb⟩
    have HB2 := hide (bt HB1.out hb); clear hb
    go_wp2_with fail
    go_ret
    exact ⟨rfl, HB2.out⟩
set_option maxRecDepth 100000 in
set_option maxHeartbeats 4000000 in
theorem opened_bad (bb off l c n k : Nat) (f : Nat → Nat → UInt8) (g : Int) (w : World) (hz : ZsAt w bb off l (rowS f n)) (hd : Dim (n, l, f)) (hg : Dg (n, l, f)) (hk : k ≤ 48) (hgb : goodB l (rowS f n) g = false) :
    Calls Try.prog 9 #[.slice (some ⟨bb, off, none⟩) l c, .int .i64 g, .int .i64 k] w fun e w' => e = .returned (.bool true) ∧ Below w.heap.size w w' := by
  have HO := hide (open_ok (.slice (some ⟨bb, off, none⟩) l c) n l k f w ⟨bb, off, c, rfl, hz⟩ hd hg hk)
  have HZ := hide hz
  have HV : Hid (validB l (rowS f n) = true) := hide (valid_dg hd hg)
  have HG := hide hgb
  have bk : (k : Int) ≤ 48 := by omega
  have bk2 : decide ((k : Int) ≤ 48) = true := by simp; omega
  clear hz hd hg hk hgb
  go_enter Try.func9, Try.ntmps9
  go_wp2_with fail
  refine HO.out.mono ?_
  rintro e w1 ⟨u, rfl, _, hb⟩
  have HB1 := hide hb
  have HZ1 := hide (HZ.out.below hb)
  clear hb HO
  go_wp2_with (first | (go_at_call 27; refine (good_is _ l c g _ _ (.inr ⟨bb, off, rfl, HZ1.out⟩)).mono ?_; rintro e w' ⟨rfl, rfl⟩; rw [HG.out]) | (go_at_call 23; refine (rvalid_any bb off l c _ _ HZ1.out).mono ?_; rintro e w' ⟨rfl, rfl⟩; rw [HV.out]))
  refine (awake_any _).mono ?_
  rintro e w2 ⟨rfl, hb⟩
  have HB2 := hide (bt HB1.out hb); clear hb
  go_wp2_with fail
  go_ret
  exact ⟨rfl, HB2.out⟩
end Go.Proofs.Ytkajcbjacjfhnaa
