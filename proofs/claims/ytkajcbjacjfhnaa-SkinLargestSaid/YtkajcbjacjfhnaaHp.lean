/- within, where the rectangle is one. The reference's checked. -/
import Derived.Test.YtkajcbjacjfhnaaHk
set_option linter.unusedVariables false
namespace Go.Proofs.Ytkajcbjacjfhnaa
open Go.RowKit Go.Ab
theorem rectB_get {x y b h : Int} (H : rectB x y b h = true) : 0 ≤ x ∧ 0 ≤ y ∧ 1 ≤ b ∧ 1 ≤ h := by
  unfold rectB at H
  simp only [Bool.and_eq_true, decide_eq_true_eq] at H
  exact ⟨H.1.1.1, H.1.1.2, H.1.2, H.2⟩
def R4 (w W : World) (x y b h : Int) : Prop := (W.cell? ⟨w.heap.size, 0, none⟩ = some (.int .i64 x) ∧ W.cell? ⟨w.heap.size, 1, none⟩ = some (.int .i64 y)) ∧ (W.cell? ⟨w.heap.size, 2, none⟩ = some (.int .i64 b) ∧ W.cell? ⟨w.heap.size, 3, none⟩ = some (.int .i64 h))
theorem rx_new (w : World) (x y b h : Int) : R4 w (w.alloc (.cells #[.int .i64 x, .int .i64 y, .int .i64 b, .int .i64 h] 39)) x y b h := ⟨⟨by simp [go_sem], by simp [go_sem]⟩, by simp [go_sem], by simp [go_sem]⟩
theorem rx_step {w W W' : World} {x y b h : Int} (H : R4 w W x y b h) (hb : Below W.heap.size W W') : R4 w W' x y b h := ⟨⟨kc hb H.1.1, kc hb H.1.2⟩, kc hb H.2.1, kc hb H.2.2⟩
def Rx (w W : World) (x y b h : Int) (bb off l n : Nat) (f : Nat → Nat → UInt8) : Prop := R4 w W x y b h ∧ ZsAt W bb off l (rowS f n) ∧ Below w.heap.size w W
theorem rx_all {w W W' : World} {x y b h : Int} {bb off l n : Nat} {f : Nat → Nat → UInt8} (H : Hid (Rx w W x y b h bb off l n f)) (hb : Below W.heap.size W W') : Hid (Rx w W' x y b h bb off l n f) := hide ⟨rx_step H.out.1 hb, H.out.2.1.below hb, bt H.out.2.2 hb⟩
theorem rx_drew {w W : World} {x y b h : Int} {bb off l n : Nat} {f : Nat → Nat → UInt8} (H : Hid (Rx w W x y b h bb off l n f)) : Hid (Rx w W.drew x y b h bb off l n f) := rx_all H (Below.refl _ _).drew
theorem rx_get {w W : World} {x y b h : Int} {bb off l n : Nat} {f : Nat → Nat → UInt8} (H : Hid (Rx w W x y b h bb off l n f)) : ((W.cell? ⟨w.heap.size, 0, none⟩ = some (.int .i64 x) ∧ W.cell? ⟨w.heap.size, 1, none⟩ = some (.int .i64 y)) ∧ (W.cell? ⟨w.heap.size, 2, none⟩ = some (.int .i64 b) ∧ W.cell? ⟨w.heap.size, 3, none⟩ = some (.int .i64 h))) ∧ Hid (Rx w W x y b h bb off l n f) := ⟨H.out.1, H⟩
theorem rx_zs {w W : World} {x y b h : Int} {bb off l n : Nat} {f : Nat → Nat → UInt8} (H : Hid (Rx w W x y b h bb off l n f)) : ZsAt W bb off l (rowS f n) := H.out.2.1
set_option maxRecDepth 20000 in
set_option maxHeartbeats 2000000 in
theorem within_out (bb off c n l : Nat) (f : Nat → Nat → UInt8) (x y b h : Int) (w : World) (hz : ZsAt w bb off l (rowS f n)) (hd : Dim (n, l, f)) (hv : validB l (rowS f n) = true) (hr : rectB x y b h = true) (i1 : b ≤ 9223372036854775807) (i2 : h ≤ 9223372036854775807) (hl : liesB x y b h n l = false) :
    Calls Try.prog 77 #[.slice (some ⟨bb, off, none⟩) l c, .agg #[.int .i64 x, .int .i64 y, .int .i64 b, .int .i64 h]] w fun e w' => e = .returned (.int .i64 5) ∧ Below w.heap.size w w' := by
  have HB : Hid (Below w.heap.size w (w.alloc (.cells #[.int .i64 x, .int .i64 y, .int .i64 b, .int .i64 h] 39))) := hide ((Below.refl _ _).alloc (Nat.le_refl _) _)
  have HS := hide (hz.below HB.out); clear hz
  have HV := hide hv; clear hv
  have H1 : Hid (1 ≤ l ∧ (n : Int) ≤ 48 ∧ (l : Int) ≤ 48) := hide ⟨hd.2.1, by have := hd.1.2; simp only at this; omega, by have := hd.2.2; simp only at this; omega⟩
  clear hd
  have HQ := hide (rectB_get hr)
  have HR := hide hr; clear hr
  have HL := hide hl; clear hl
  have HI := hide (And.intro i1 i2); clear i1 i2
  have HC := hide (rx_new w x y b h)
  go_enter Try.func77, Try.ntmps77
  go_wp2_with (go_at_call 22; refine (valid_any bb off l c _ _ HS.out).mono ?_; rintro e w' ⟨rfl, rfl⟩; rw [HV.out])
  refine (vrect_is x y b h _).mono ?_
  rintro e w1 ⟨rfl, hb⟩
  rw [HR.out]
  have HX : Hid (Rx w w1 x y b h bb off l n f) := hide ⟨rx_step HC.out hb, HS.out.below hb, bt HB.out hb⟩
  clear hb HS HB HC
  go_wp2_with fail
  have HXd := rx_drew HX
  go_region_held3 (fun W => ((W.cell? ⟨w.heap.size, 0, none⟩ = some (.int .i64 x) ∧ W.cell? ⟨w.heap.size, 1, none⟩ = some (.int .i64 y)) ∧ (W.cell? ⟨w.heap.size, 2, none⟩ = some (.int .i64 b) ∧ W.cell? ⟨w.heap.size, 3, none⟩ = some (.int .i64 h))) ∧ Hid (Rx w W x y b h bb off l n f))
    ((go_split_ands; refine rx_get ?_; first | (with_reducible exact HX) | (with_reducible exact HXd) | (with_reducible exact rx_all ‹_› hbw)))
    (first
      | (go_at_call 84; (with_reducible refine (extent_is bb off l c n f _ (rx_zs (w := w) (x := x) (y := y) (b := b) (h := h) (by assumption)) H1.out.1).mono ?_); rintro e w' ⟨rfl, hbw⟩)
      | (go_at_call 72; (with_reducible refine (fits_is x y b h n l _ HQ.out.2.2.1 HI.out.1 HQ.out.2.2.2 HI.out.2 H1.out.2.1 H1.out.2.2).mono ?_); rintro e w' ⟨rfl, hbw⟩; rw [HL.out]))
  all_goals go_wp2_with fail
  all_goals go_ret
  all_goals go_split_ands
  all_goals exact ⟨rfl, (Hid.out (p := Rx _ _ _ _ _ _ _ _ _ _ _) ‹_›).2.2⟩
set_option maxRecDepth 20000 in
set_option maxHeartbeats 2000000 in
theorem within_ok (bb off c n l : Nat) (f : Nat → Nat → UInt8) (x y b h : Int) (w : World) (hz : ZsAt w bb off l (rowS f n)) (hd : Dim (n, l, f)) (hv : validB l (rowS f n) = true) (hr : rectB x y b h = true) (i1 : b ≤ 9223372036854775807) (i2 : h ≤ 9223372036854775807) (hl : liesB x y b h n l = true) :
    Calls Try.prog 77 #[.slice (some ⟨bb, off, none⟩) l c, .agg #[.int .i64 x, .int .i64 y, .int .i64 b, .int .i64 h]] w fun e w' => e = .returned (.int .i64 0) ∧ Below w.heap.size w w' := by
  have HB : Hid (Below w.heap.size w (w.alloc (.cells #[.int .i64 x, .int .i64 y, .int .i64 b, .int .i64 h] 39))) := hide ((Below.refl _ _).alloc (Nat.le_refl _) _)
  have HS := hide (hz.below HB.out); clear hz
  have HV := hide hv; clear hv
  have H1 : Hid (1 ≤ l ∧ (n : Int) ≤ 48 ∧ (l : Int) ≤ 48) := hide ⟨hd.2.1, by have := hd.1.2; simp only at this; omega, by have := hd.2.2; simp only at this; omega⟩
  clear hd
  have HQ := hide (rectB_get hr)
  have HR := hide hr; clear hr
  have HL := hide hl; clear hl
  have HI := hide (And.intro i1 i2); clear i1 i2
  have HC := hide (rx_new w x y b h)
  go_enter Try.func77, Try.ntmps77
  go_wp2_with (go_at_call 22; refine (valid_any bb off l c _ _ HS.out).mono ?_; rintro e w' ⟨rfl, rfl⟩; rw [HV.out])
  refine (vrect_is x y b h _).mono ?_
  rintro e w1 ⟨rfl, hb⟩
  rw [HR.out]
  have HX : Hid (Rx w w1 x y b h bb off l n f) := hide ⟨rx_step HC.out hb, HS.out.below hb, bt HB.out hb⟩
  clear hb HS HB HC
  go_wp2_with fail
  have HXd := rx_drew HX
  go_region_held3 (fun W => ((W.cell? ⟨w.heap.size, 0, none⟩ = some (.int .i64 x) ∧ W.cell? ⟨w.heap.size, 1, none⟩ = some (.int .i64 y)) ∧ (W.cell? ⟨w.heap.size, 2, none⟩ = some (.int .i64 b) ∧ W.cell? ⟨w.heap.size, 3, none⟩ = some (.int .i64 h))) ∧ Hid (Rx w W x y b h bb off l n f))
    ((go_split_ands; refine rx_get ?_; first | (with_reducible exact HX) | (with_reducible exact HXd) | (with_reducible exact rx_all ‹_› hbw)))
    (first
      | (go_at_call 84; (with_reducible refine (extent_is bb off l c n f _ (rx_zs (w := w) (x := x) (y := y) (b := b) (h := h) (by assumption)) H1.out.1).mono ?_); rintro e w' ⟨rfl, hbw⟩)
      | (go_at_call 72; (with_reducible refine (fits_is x y b h n l _ HQ.out.2.2.1 HI.out.1 HQ.out.2.2.2 HI.out.2 H1.out.2.1 H1.out.2.2).mono ?_); rintro e w' ⟨rfl, hbw⟩; rw [HL.out]))
  all_goals go_wp2_with fail
  all_goals go_ret
  all_goals go_split_ands
  all_goals exact ⟨rfl, (Hid.out (p := Rx _ _ _ _ _ _ _ _ _ _ _) ‹_›).2.2⟩
end Go.Proofs.Ytkajcbjacjfhnaa
set_option linter.unusedVariables false
namespace Go.Proofs.Ytkajcbjacjfhnaa
open Go.RowKit Go.Ab
theorem rx_get2 {w W : World} {x y b h : Int} {bb off l n : Nat} {f : Nat → Nat → UInt8} (H : Hid (Rx w W x y b h bb off l n f)) (h1 : 1 ≤ l) : ((W.cell? ⟨w.heap.size, 0, none⟩ = some (.int .i64 x) ∧ W.cell? ⟨w.heap.size, 1, none⟩ = some (.int .i64 y)) ∧ (W.cell? ⟨w.heap.size, 2, none⟩ = some (.int .i64 b) ∧ W.cell? ⟨w.heap.size, 3, none⟩ = some (.int .i64 h))) ∧ W.cell? ⟨bb, off, none⟩ = some (.string (rowS f n 0)) ∧ Hid (Rx w W x y b h bb off l n f) := by
  refine ⟨H.out.1, ?_, H⟩
  have := (H.out.2.1 0 h1).1
  rwa [Nat.add_zero] at this
set_option maxHeartbeats 1000000 in
theorem checked_no (a : Option Addr) (l c : Nat) (x y b h : Int) (ss : Nat → ByteArray) (w : World) (hz : Zs w a l ss) (hv : validB l ss = false) :
    Calls Try.prog 79 #[.slice a l c, .agg #[.int .i64 x, .int .i64 y, .int .i64 b, .int .i64 h]] w fun e w' => e = .returned (.int .i64 2) ∧ Below w.heap.size w w' := by
  have HB : Hid (Below w.heap.size w (w.alloc (.cells #[.int .i64 x, .int .i64 y, .int .i64 b, .int .i64 h] 39))) := hide ((Below.refl _ _).alloc (Nat.le_refl _) _)
  have HZ := hide (hz.below HB.out); clear hz
  have HV := hide hv; clear hv
  go_enter Try.func79, Try.ntmps79
  go_wp2_with (go_at_call 23; refine (rvalid_all a l c ss _ HZ.out).mono ?_; rintro e w' ⟨rfl, rfl⟩; rw [HV.out])
  go_ret
  exact ⟨rfl, HB.out⟩
set_option maxHeartbeats 1000000 in
theorem checked_bad (v : Value) (p : Nat × Nat × (Nat → Nat → UInt8)) (x y b h : Int) (w : World) (hs : Sp w v p) (hv : validB p.2.1 (rowS p.2.2 p.1) = true) (hr : rectB x y b h = false) :
    Calls Try.prog 79 #[v, .agg #[.int .i64 x, .int .i64 y, .int .i64 b, .int .i64 h]] w fun e w' => e = .returned (.int .i64 2) ∧ Below w.heap.size w w' := by
  have HB : Hid (Below w.heap.size w (w.alloc (.cells #[.int .i64 x, .int .i64 y, .int .i64 b, .int .i64 h] 39))) := hide ((Below.refl _ _).alloc (Nat.le_refl _) _)
  have HS := hide (hs.below HB.out); clear hs
  have HV := hide hv; clear hv
  have HR := hide hr; clear hr
  go_enter Try.func79, Try.ntmps79
  go_wp2_with (go_at_call 23; refine (rvalid_sp v p _ HS.out HV.out).mono ?_; rintro e w' ⟨rfl, rfl⟩)
  refine (rrect_is x y b h _).mono ?_
  rintro e w1 ⟨rfl, hb⟩
  rw [HR.out]
  have HB1 := hide (bt HB.out hb); clear hb
  go_wp2_with fail
  go_ret
  exact ⟨rfl, HB1.out⟩
set_option maxRecDepth 20000 in
set_option maxHeartbeats 2000000 in
theorem checked_out (bb off c n l : Nat) (f : Nat → Nat → UInt8) (x y b h : Int) (w : World) (hz : ZsAt w bb off l (rowS f n)) (hd : Dim (n, l, f)) (hv : validB l (rowS f n) = true) (hr : rectB x y b h = true) (i1 : b ≤ 9223372036854775807) (i2 : h ≤ 9223372036854775807) (hl : liesB x y b h n l = false) :
    Calls Try.prog 79 #[.slice (some ⟨bb, off, none⟩) l c, .agg #[.int .i64 x, .int .i64 y, .int .i64 b, .int .i64 h]] w fun e w' => e = .returned (.int .i64 5) ∧ Below w.heap.size w w' := by
  have HB : Hid (Below w.heap.size w (w.alloc (.cells #[.int .i64 x, .int .i64 y, .int .i64 b, .int .i64 h] 39))) := hide ((Below.refl _ _).alloc (Nat.le_refl _) _)
  have HS := hide (hz.below HB.out); clear hz
  have HV := hide hv; clear hv
  have H1 : Hid (1 ≤ l ∧ (n : Int) ≤ 48 ∧ (l : Int) ≤ 48) := hide ⟨hd.2.1, by have := hd.1.2; simp only at this; omega, by have := hd.2.2; simp only at this; omega⟩
  clear hd
  have HQ := hide (rectB_get hr)
  have HR := hide hr; clear hr
  have HL := hide hl; clear hl
  have h1n : 0 < l := H1.out.1
  have h1i : (0 : Int) < (l : Int) := by omega
  have hsz : (rowS f n 0).size = n := rowS_size f n 0
  have HI := hide (And.intro i1 i2); clear i1 i2
  have HC := hide (rx_new w x y b h)
  go_enter Try.func79, Try.ntmps79
  go_wp2_with (go_at_call 23; refine (rvalid_any bb off l c _ _ HS.out).mono ?_; rintro e w' ⟨rfl, rfl⟩; rw [HV.out])
  refine (rrect_is x y b h _).mono ?_
  rintro e w1 ⟨rfl, hb⟩
  rw [HR.out]
  have HX : Hid (Rx w w1 x y b h bb off l n f) := hide ⟨rx_step HC.out hb, HS.out.below hb, bt HB.out hb⟩
  clear hb HS HB HC
  go_wp2_with fail
  have HXd := rx_drew HX
  go_region_held3 (fun W => ((W.cell? ⟨w.heap.size, 0, none⟩ = some (.int .i64 x) ∧ W.cell? ⟨w.heap.size, 1, none⟩ = some (.int .i64 y)) ∧ (W.cell? ⟨w.heap.size, 2, none⟩ = some (.int .i64 b) ∧ W.cell? ⟨w.heap.size, 3, none⟩ = some (.int .i64 h))) ∧ W.cell? ⟨bb, off, none⟩ = some (.string (rowS f n 0)) ∧ Hid (Rx w W x y b h bb off l n f))
    ((go_split_ands; refine rx_get2 ?_ H1.out.1; first | (with_reducible exact HX) | (with_reducible exact HXd) | (with_reducible exact rx_all ‹_› hbw)))
    ((go_at_call 30; (with_reducible refine (lies_is x y b h n l _ HQ.out.2.2.1 HI.out.1 HQ.out.2.2.2 HI.out.2 H1.out.2.1 H1.out.2.2 HQ.out.1 HQ.out.2.1).mono ?_); rintro e w' ⟨rfl, hbw⟩; rw [HL.out]))
  all_goals go_wp2_with fail
  all_goals go_ret
  all_goals go_split_ands
  all_goals exact ⟨rfl, (Hid.out (p := Rx _ _ _ _ _ _ _ _ _ _ _) ‹_›).2.2⟩
set_option maxRecDepth 20000 in
set_option maxHeartbeats 2000000 in
theorem checked_ok (bb off c n l : Nat) (f : Nat → Nat → UInt8) (x y b h : Int) (w : World) (hz : ZsAt w bb off l (rowS f n)) (hd : Dim (n, l, f)) (hv : validB l (rowS f n) = true) (hr : rectB x y b h = true) (i1 : b ≤ 9223372036854775807) (i2 : h ≤ 9223372036854775807) (hl : liesB x y b h n l = true) :
    Calls Try.prog 79 #[.slice (some ⟨bb, off, none⟩) l c, .agg #[.int .i64 x, .int .i64 y, .int .i64 b, .int .i64 h]] w fun e w' => e = .returned (.int .i64 0) ∧ Below w.heap.size w w' := by
  have HB : Hid (Below w.heap.size w (w.alloc (.cells #[.int .i64 x, .int .i64 y, .int .i64 b, .int .i64 h] 39))) := hide ((Below.refl _ _).alloc (Nat.le_refl _) _)
  have HS := hide (hz.below HB.out); clear hz
  have HV := hide hv; clear hv
  have H1 : Hid (1 ≤ l ∧ (n : Int) ≤ 48 ∧ (l : Int) ≤ 48) := hide ⟨hd.2.1, by have := hd.1.2; simp only at this; omega, by have := hd.2.2; simp only at this; omega⟩
  clear hd
  have HQ := hide (rectB_get hr)
  have HR := hide hr; clear hr
  have HL := hide hl; clear hl
  have h1n : 0 < l := H1.out.1
  have h1i : (0 : Int) < (l : Int) := by omega
  have hsz : (rowS f n 0).size = n := rowS_size f n 0
  have HI := hide (And.intro i1 i2); clear i1 i2
  have HC := hide (rx_new w x y b h)
  go_enter Try.func79, Try.ntmps79
  go_wp2_with (go_at_call 23; refine (rvalid_any bb off l c _ _ HS.out).mono ?_; rintro e w' ⟨rfl, rfl⟩; rw [HV.out])
  refine (rrect_is x y b h _).mono ?_
  rintro e w1 ⟨rfl, hb⟩
  rw [HR.out]
  have HX : Hid (Rx w w1 x y b h bb off l n f) := hide ⟨rx_step HC.out hb, HS.out.below hb, bt HB.out hb⟩
  clear hb HS HB HC
  go_wp2_with fail
  have HXd := rx_drew HX
  go_region_held3 (fun W => ((W.cell? ⟨w.heap.size, 0, none⟩ = some (.int .i64 x) ∧ W.cell? ⟨w.heap.size, 1, none⟩ = some (.int .i64 y)) ∧ (W.cell? ⟨w.heap.size, 2, none⟩ = some (.int .i64 b) ∧ W.cell? ⟨w.heap.size, 3, none⟩ = some (.int .i64 h))) ∧ W.cell? ⟨bb, off, none⟩ = some (.string (rowS f n 0)) ∧ Hid (Rx w W x y b h bb off l n f))
    ((go_split_ands; refine rx_get2 ?_ H1.out.1; first | (with_reducible exact HX) | (with_reducible exact HXd) | (with_reducible exact rx_all ‹_› hbw)))
    ((go_at_call 30; (with_reducible refine (lies_is x y b h n l _ HQ.out.2.2.1 HI.out.1 HQ.out.2.2.2 HI.out.2 H1.out.2.1 H1.out.2.2 HQ.out.1 HQ.out.2.1).mono ?_); rintro e w' ⟨rfl, hbw⟩; rw [HL.out]))
  all_goals go_wp2_with fail
  all_goals go_ret
  all_goals go_split_ands
  all_goals exact ⟨rfl, (Hid.out (p := Rx _ _ _ _ _ _ _ _ _ _ _) ‹_›).2.2⟩
end Go.Proofs.Ytkajcbjacjfhnaa
