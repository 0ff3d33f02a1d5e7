/- The reference's Trim; the refusals of Trim. -/
import Derived.Test.YtkajcbjacjfhnaaIc
set_option linter.unusedVariables false
namespace Go.Proofs.Ytkajcbjacjfhnaa
open Go.RowKit Go.Ab
theorem rtrim_none (bb off c n l : Nat) (f : Nat → Nat → UInt8) (w : World) (hz : ZsAt w bb off l (rowS f n)) (hd : Dim (n, l, f)) (hg : Dg (n, l, f)) (hv : validB l (rowS f n) = true) (hcs : usL f n 1 (l * n) = []) :
    Calls Try.prog 42 #[.slice (some ⟨bb, off, none⟩) l c] w fun e w' => e = .returned (.tuple #[.agg #[.int .i64 0, .int .i64 0, .int .i64 0, .int .i64 0], .int .i64 7]) ∧ Below w.heap.size w w' := by
  have hb0 : Below w.heap.size w (w.alloc (.cells #[.int .i64 0, .int .i64 0, .int .i64 0, .int .i64 0] 39)) := (Below.refl _ _).alloc (Nat.le_refl _) _
  have HB0 := hide hb0
  have Z0 := hide (hz.below hb0)
  have K0 := hide (Blk.new w #[.int .i64 0, .int .i64 0, .int .i64 0, .int .i64 0] 39)
  have HV := hide hv
  have HU := hide (rusable_is bb off c n l 1 f _ Z0.out hd hg (by decide))
  rw [hcs] at HU
  clear hz hd hg hv hb0 hcs
  go_enter Try.func42, Try.ntmps42
  go_wp2_with (go_at_call 23; refine (rvalid_any bb off l c _ _ Z0.out).mono ?_; rintro e w' ⟨rfl, rfl⟩; rw [HV.out])
  refine HU.out.mono ?_
  rintro e w1 ⟨v1, rfl, ho, hb⟩
  have HB1 := hide (bt HB0.out hb)
  have K1 := hide (K0.out.below hb)
  obtain ⟨a1, c1, rfl⟩ : ∃ a c, v1 = .slice a (0 : Nat) c := by
    obtain ⟨_, ⟨rfl, _⟩ | ⟨g, cap, cur, rfl, _⟩⟩ := ho
    · exact ⟨_, _, rfl⟩
    · exact ⟨_, _, rfl⟩
  clear hb ho HU
  go_wp2_with fail
  refine (box_nil a1 c1 _).mono ?_
  rintro e w2 ⟨rfl, hb⟩
  have HB2 := hide (bt HB1.out hb)
  have K2 := hide (K1.out.below hb)
  clear hb
  have hbA : Hid (Below w2.heap.size w2 (w2.alloc (.cells #[.int .i64 0, .int .i64 0, .int .i64 0, .int .i64 0] 39))) := hide ((Below.refl _ _).alloc (Nat.le_refl _) _)
  have K3 := hide (K2.out.below hbA.out)
  have r0 := K3.out.cell 0 (v := .int .i64 0) rfl
  have r1 := K3.out.cell 1 (v := .int .i64 0) rfl
  have r2 := K3.out.cell 2 (v := .int .i64 0) rfl
  have r3 := K3.out.cell 3 (v := .int .i64 0) rfl
  have f0 := K3.out.free 0
  have f1 := K3.out.free 1
  have f2 := K3.out.free 2
  have f3 := K3.out.free 3
  go_wp2_with fail
  refine bodyPost_ret (v := .tuple #[.agg #[.int .i64 0, .int .i64 0, .int .i64 0, .int .i64 0], .int .i64 7]) (by simp [results, Try.results42, go_sem, r0, r1, r2, r3, World.cell?_setCell_same]) rfl ⟨rfl, ?_⟩
  exact (bt HB2.out hbA.out).trans (gb_low (gb_set4 _ _ _ _ _ _) (Nat.le_refl _) (bt HB2.out hbA.out).size)
theorem rtrim_some (bb off c n l : Nat) (f : Nat → Nat → UInt8) (w : World) (hz : ZsAt w bb off l (rowS f n)) (hd : Dim (n, l, f)) (hg : Dg (n, l, f)) (hv : validB l (rowS f n) = true) (cs : List (Nat × Nat)) (ecs : cs = usL f n 1 (l * n)) (hcs : cs ≠ []) :
    Calls Try.prog 42 #[.slice (some ⟨bb, off, none⟩) l c] w fun e w' => e = .returned (.tuple #[.agg #[.int .i64 (boxL cs).x0, .int .i64 (boxL cs).y0, .int .i64 (bW cs), .int .i64 (bH cs)], .int .i64 0]) ∧ Below w.heap.size w w' := by
  have hb0 : Below w.heap.size w (w.alloc (.cells #[.int .i64 0, .int .i64 0, .int .i64 0, .int .i64 0] 39)) := (Below.refl _ _).alloc (Nat.le_refl _) _
  have HB0 := hide hb0
  have Z0 := hide (hz.below hb0)
  have K0 := hide (Blk.new w #[.int .i64 0, .int .i64 0, .int .i64 0, .int .i64 0] 39)
  have HV := hide hv
  have HU := hide (rusable_is bb off c n l 1 f _ Z0.out hd hg (by decide))
  rw [← ecs] at HU
  have HC : Hid (∀ c ∈ cs, c.1 < 48 ∧ c.2 < 48) := hide (by
    intro c hc
    rw [ecs] at hc
    have := usL_in (l := l) (by have := hd.1.1; simp only at this; omega) (Nat.le_refl _) c hc
    have h1 := hd.1.2; have h2 := hd.2.2; simp only at h1 h2
    omega)
  have HL : Hid (0 < cs.length ∧ cs.length ≤ 2304) := hide ⟨by cases cs with | nil => exact absurd rfl hcs | cons a t => simp, by
    rw [ecs]
    have h1 := hd.1.2; have h2 := hd.2.2; simp only at h1 h2
    exact Nat.le_trans (usL_le f n 1 (l * n)) (Nat.mul_le_mul h2 h1)⟩
  have HNE := hide hcs
  clear hz hd hg hv hb0 hcs ecs
  go_enter Try.func42, Try.ntmps42
  go_wp2_with (go_at_call 23; refine (rvalid_any bb off l c _ _ Z0.out).mono ?_; rintro e w' ⟨rfl, rfl⟩; rw [HV.out])
  refine HU.out.mono ?_
  rintro e w1 ⟨v1, rfl, ho, hb⟩
  have HB1 := hide (bt HB0.out hb)
  have K1 := hide (K0.out.below hb)
  obtain ⟨b1, c1, rfl, hp⟩ := pr_of_owns ho HNE.out
  have HP := hide hp
  clear hb ho HU hp
  obtain ⟨L, hL⟩ : ∃ L, Hid (L = cs.length) := ⟨_, hide rfl⟩
  rw [← hL.out]
  go_wp2_with fail
  refine (box_cons b1 c1 L cs _ HP.out HL.out.1 hL.out HL.out.2 HC.out).mono ?_
  rintro e w2 ⟨rfl, hb⟩
  have HB2 := hide (bt HB1.out hb)
  have K2 := hide (K1.out.below hb)
  clear hb
  obtain ⟨x, hx⟩ : ∃ x, Hid (x = (boxL cs).x0) := ⟨_, hide rfl⟩
  obtain ⟨y, hy⟩ : ∃ x, Hid (x = (boxL cs).y0) := ⟨_, hide rfl⟩
  obtain ⟨u, hu⟩ : ∃ x, Hid (x = bW cs) := ⟨_, hide rfl⟩
  obtain ⟨t, ht⟩ : ∃ x, Hid (x = bH cs) := ⟨_, hide rfl⟩
  rw [← hx.out, ← hy.out, ← hu.out, ← ht.out]
  have hbA : Hid (Below w2.heap.size w2 (w2.alloc (.cells #[.int .i64 x, .int .i64 y, .int .i64 u, .int .i64 t] 39))) := hide ((Below.refl _ _).alloc (Nat.le_refl _) _)
  have K3 := hide (K2.out.below hbA.out)
  have r0 := K3.out.cell 0 (v := .int .i64 0) rfl
  have r1 := K3.out.cell 1 (v := .int .i64 0) rfl
  have r2 := K3.out.cell 2 (v := .int .i64 0) rfl
  have r3 := K3.out.cell 3 (v := .int .i64 0) rfl
  have f0 := K3.out.free 0
  have f1 := K3.out.free 1
  have f2 := K3.out.free 2
  have f3 := K3.out.free 3
  go_wp2_with fail
  refine bodyPost_ret (v := .tuple #[.agg #[.int .i64 x, .int .i64 y, .int .i64 u, .int .i64 t], .int .i64 0]) (by simp [results, Try.results42, go_sem, r0, r1, r2, r3, World.cell?_setCell_same]) rfl ⟨by rw [← hx.out, ← hy.out, ← hu.out, ← ht.out], ?_⟩
  exact (bt HB2.out hbA.out).trans (gb_low (gb_set4 _ _ _ _ _ _) (Nat.le_refl _) (bt HB2.out hbA.out).size)
theorem rtrim_is (bb off c n l : Nat) (f : Nat → Nat → UInt8) (w : World) (hz : ZsAt w bb off l (rowS f n)) (hd : Dim (n, l, f)) (hg : Dg (n, l, f)) (hv : validB l (rowS f n) = true) :
    Calls Try.prog 42 #[.slice (some ⟨bb, off, none⟩) l c] w fun e w' => e = .returned (.tuple (trimV (usL f n 1 (l * n)))) ∧ Below w.heap.size w w' := by
  by_cases h : usL f n 1 (l * n) = []
  · rw [h, trimV_nil]; exact rtrim_none bb off c n l f w hz hd hg hv h
  · rw [trimV_cons h]; exact rtrim_some bb off c n l f w hz hd hg hv _ rfl h
set_option maxHeartbeats 1000000 in
theorem trim_no (a : Option Addr) (l c : Nat) (ss : Nat → ByteArray) (w : World) (hz : Zs w a l ss) (hv : validB l ss = false) :
    Calls Try.prog 41 #[.slice a l c] w fun e w' => e = .returned (.tuple #[.agg #[.int .i64 0, .int .i64 0, .int .i64 0, .int .i64 0], .int .i64 2]) ∧ Below w.heap.size w w' := by
  have HB : Hid (Below w.heap.size w (w.alloc (.cells #[.int .i64 0, .int .i64 0, .int .i64 0, .int .i64 0] 39))) := hide ((Below.refl _ _).alloc (Nat.le_refl _) _)
  have HZ := hide (hz.below HB.out); clear hz
  have HV := hide hv; clear hv
  go_enter Try.func41, Try.ntmps41
  go_wp2_with (go_at_call 22; refine (valid_all a l c ss _ HZ.out).mono ?_; rintro e w' ⟨rfl, rfl⟩; rw [HV.out])
  refine bodyPost_ret (v := .tuple #[.agg #[.int .i64 0, .int .i64 0, .int .i64 0, .int .i64 0], .int .i64 2]) (by simp [results, Try.results41, go_sem]) rfl ⟨rfl, HB.out⟩
set_option maxHeartbeats 1000000 in
theorem rtrim_no (a : Option Addr) (l c : Nat) (ss : Nat → ByteArray) (w : World) (hz : Zs w a l ss) (hv : validB l ss = false) :
    Calls Try.prog 42 #[.slice a l c] w fun e w' => e = .returned (.tuple #[.agg #[.int .i64 0, .int .i64 0, .int .i64 0, .int .i64 0], .int .i64 2]) ∧ Below w.heap.size w w' := by
  have HB : Hid (Below w.heap.size w (w.alloc (.cells #[.int .i64 0, .int .i64 0, .int .i64 0, .int .i64 0] 39))) := hide ((Below.refl _ _).alloc (Nat.le_refl _) _)
  have HZ := hide (hz.below HB.out); clear hz
  have HV := hide hv; clear hv
  go_enter Try.func42, Try.ntmps42
  go_wp2_with (go_at_call 23; refine (rvalid_all a l c ss _ HZ.out).mono ?_; rintro e w' ⟨rfl, rfl⟩; rw [HV.out])
  refine bodyPost_ret (v := .tuple #[.agg #[.int .i64 0, .int .i64 0, .int .i64 0, .int .i64 0], .int .i64 2]) (by simp [results, Try.results42, go_sem]) rfl ⟨rfl, HB.out⟩
end Go.Proofs.Ytkajcbjacjfhnaa
