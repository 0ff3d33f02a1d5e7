/- SkinCrops' law for every argument. -/
import Derived.Test.YtkajcbjacjfhnaaIe
import Derived.Test.YtkajcbjacjfhnaaHj
set_option linter.unusedVariables false
namespace Go.Proofs.Ytkajcbjacjfhnaa
open Go.RowKit Go.Ab
theorem trimV_ex (cs : List (Nat × Nat)) : ∃ x y b h e : Int, trimV cs = #[.agg #[.int .i64 x, .int .i64 y, .int .i64 b, .int .i64 h], .int .i64 e] := by
  by_cases h : cs = []
  · rw [h]; exact ⟨0, 0, 0, 0, 7, rfl⟩
  · rw [trimV_cons h]; exact ⟨_, _, _, _, 0, rfl⟩
theorem crops_law (a : Option Addr) (l c : Nat) (ss : Nat → ByteArray) (x y b h : Int) (w : World) (hz : Zs w a l ss) (i1 : In64 x) (i2 : In64 y) (i3 : In64 b) (i4 : In64 h) :
    Calls Try.prog 7 #[.slice a l c, .agg #[.int .i64 x, .int .i64 y, .int .i64 b, .int .i64 h]] w fun e w' => e = .returned (.bool true) ∧ Below w.heap.size w w' := by
  cases hv : validB l ss with
  | false =>
    have hw : ∀ W, Below w.heap.size w W → ∀ W', Below W.heap.size W W' → Calls Try.prog 77 #[.slice a l c, .agg #[.int .i64 x, .int .i64 y, .int .i64 b, .int .i64 h]] W' fun e w' => e = .returned (.int .i64 2) ∧ Below W'.heap.size W' w' :=
      fun W hb W' hb' => within_no a l c x y b h ss W' (hz.below (bt hb hb')) hv
    have hr : ∀ W, Below w.heap.size w W → ∀ W', Below W.heap.size W W' → Calls Try.prog 79 #[.slice a l c, .agg #[.int .i64 x, .int .i64 y, .int .i64 b, .int .i64 h]] W' fun e w' => e = .returned (.int .i64 2) ∧ Below W'.heap.size W' w' :=
      fun W hb W' hb' => checked_no a l c x y b h ss W' (hz.below (bt hb hb')) hv
    exact crops_core a l c x y b h 2 2 2 0 0 0 0 QNil QNil w
      (hide (twin_nil (fun W hb => crop_err a l c x y b h 2 W rfl (hw W hb)) (fun W hb => rcrop_err a l c x y b h 2 W rfl (hr W hb))))
      (hide (twin_nil (fun W hb => punch_err a l c x y b h 2 W rfl (hw W hb)) (fun W hb => rpunch_err a l c x y b h 2 W rfl (hr W hb))))
      (hide fun W hb => trim_no a l c ss W (hz.below hb) hv) (hide fun W hb => rtrim_no a l c ss W (hz.below hb) hv)
  | true =>
    rcases hz with h0 | ⟨bb, off, rfl, hz⟩
    · rw [h0, validB_zero] at hv; cases hv
    · obtain ⟨hs, hd, hg, hvv⟩ := skin_of c hz hv
      obtain ⟨b', off', c', e, hz'⟩ := hs
      injection e with e1 e2 e3
      injection e1 with e1
      injection e1 with e1 e4
      subst e1 e4 e3
      obtain ⟨tx, ty, tb, th, te, htr⟩ := trimV_ex (usL (skinOf ss l).2.2 (skinOf ss l).1 1 (l * (skinOf ss l).1))
      have hf1 : Hid (Fst #[.slice (some ⟨bb, off, none⟩) l c] w 41 tx ty tb th te) := hide fun W hb => by
        have := trim_is bb off c (skinOf ss l).1 l (skinOf ss l).2.2 W (ZsAt.below hz' hb) hd hvv
        rwa [htr] at this
      have hf2 : Hid (Fst #[.slice (some ⟨bb, off, none⟩) l c] w 42 tx ty tb th te) := hide fun W hb => by
        have := rtrim_is bb off c (skinOf ss l).1 l (skinOf ss l).2.2 W (ZsAt.below hz' hb) hd hg hvv
        rwa [htr] at this
      have hsp : ∀ W, Below w.heap.size w W → Sp W (.slice (some ⟨bb, off, none⟩) l c) (skinOf ss l) := fun W hb => ⟨bb, off, c, rfl, ZsAt.below hz' hb⟩
      cases hr : rectB x y b h with
      | false =>
        have hw : ∀ W, Below w.heap.size w W → ∀ W', Below W.heap.size W W' → Calls Try.prog 77 #[.slice (some ⟨bb, off, none⟩) l c, .agg #[.int .i64 x, .int .i64 y, .int .i64 b, .int .i64 h]] W' fun e w' => e = .returned (.int .i64 2) ∧ Below W'.heap.size W' w' :=
          fun W hb W' hb' => within_bad _ (skinOf ss l) x y b h W' (hsp _ (bt hb hb')) hvv hr
        have hr' : ∀ W, Below w.heap.size w W → ∀ W', Below W.heap.size W W' → Calls Try.prog 79 #[.slice (some ⟨bb, off, none⟩) l c, .agg #[.int .i64 x, .int .i64 y, .int .i64 b, .int .i64 h]] W' fun e w' => e = .returned (.int .i64 2) ∧ Below W'.heap.size W' w' :=
          fun W hb W' hb' => checked_bad _ (skinOf ss l) x y b h W' (hsp _ (bt hb hb')) hvv hr
        exact crops_core _ l c x y b h 2 2 te tx ty tb th QNil QNil w
          (hide (twin_nil (fun W hb => crop_err _ l c x y b h 2 W rfl (hw W hb)) (fun W hb => rcrop_err _ l c x y b h 2 W rfl (hr' W hb))))
          (hide (twin_nil (fun W hb => punch_err _ l c x y b h 2 W rfl (hw W hb)) (fun W hb => rpunch_err _ l c x y b h 2 W rfl (hr' W hb)))) hf1 hf2
      | true =>
        cases hl : liesB x y b h (skinOf ss l).1 l with
        | false =>
          have hw : ∀ W, Below w.heap.size w W → ∀ W', Below W.heap.size W W' → Calls Try.prog 77 #[.slice (some ⟨bb, off, none⟩) l c, .agg #[.int .i64 x, .int .i64 y, .int .i64 b, .int .i64 h]] W' fun e w' => e = .returned (.int .i64 5) ∧ Below W'.heap.size W' w' :=
            fun W hb W' hb' => within_out bb off c (skinOf ss l).1 l (skinOf ss l).2.2 x y b h W' (ZsAt.below hz' (bt hb hb')) hd hvv hr i3.2 i4.2 hl
          have hr' : ∀ W, Below w.heap.size w W → ∀ W', Below W.heap.size W W' → Calls Try.prog 79 #[.slice (some ⟨bb, off, none⟩) l c, .agg #[.int .i64 x, .int .i64 y, .int .i64 b, .int .i64 h]] W' fun e w' => e = .returned (.int .i64 5) ∧ Below W'.heap.size W' w' :=
            fun W hb W' hb' => checked_out bb off c (skinOf ss l).1 l (skinOf ss l).2.2 x y b h W' (ZsAt.below hz' (bt hb hb')) hd hvv hr i3.2 i4.2 hl
          exact crops_core _ l c x y b h 5 5 te tx ty tb th QNil QNil w
            (hide (twin_nil (fun W hb => crop_err _ l c x y b h 5 W rfl (hw W hb)) (fun W hb => rcrop_err _ l c x y b h 5 W rfl (hr' W hb))))
            (hide (twin_nil (fun W hb => punch_err _ l c x y b h 5 W rfl (hw W hb)) (fun W hb => rpunch_err _ l c x y b h 5 W rfl (hr' W hb)))) hf1 hf2
        | true =>
          obtain ⟨r1, r2, r3, r4⟩ := rectB_get hr
          have hl2 : x + b ≤ (skinOf ss l).1 ∧ y + h ≤ l := by
            unfold liesB at hl
            simpa only [Bool.and_eq_true, decide_eq_true_eq] using hl
          obtain ⟨X, rfl⟩ := Int.eq_ofNat_of_zero_le r1
          obtain ⟨Y, rfl⟩ := Int.eq_ofNat_of_zero_le r2
          obtain ⟨B, rfl⟩ := Int.eq_ofNat_of_zero_le (show 0 ≤ b by omega)
          obtain ⟨H, rfl⟩ := Int.eq_ofNat_of_zero_le (show 0 ≤ h by omega)
          have k1 : 1 ≤ B := by omega
          have k2 : 1 ≤ H := by omega
          have k3 : X + B ≤ (skinOf ss l).1 := by omega
          have k4 : Y + H ≤ l := by omega
          have hn : (skinOf ss l).1 ≤ 48 := hd.1.2
          have hl48 : l ≤ 48 := hd.2.2
          refine crops_core _ l c X Y B H 0 0 te tx ty tb th _ _ w (hide (twin_sp (p := cropOf (skinOf ss l).2.2 X Y B H) ⟨⟨k1, ?_⟩, k2, ?_⟩ (fun W hb => ?_) (fun W hb => ?_))) (hide (twin_sp (p := punOf (skinOf ss l) X Y B H) hd (fun W hb => ?_) (fun W hb => ?_))) hf1 hf2
          · show B ≤ 48; omega
          · show H ≤ 48; omega
          · exact crop_is bb off c _ l X Y B H _ W (ZsAt.below hz' hb) hd hvv k1 k2 k3 k4
          · exact rcrop_is bb off c _ l X Y B H _ W (ZsAt.below hz' hb) hd hg hvv k1 k2 k3 k4
          · exact punch_is bb off c _ l X Y B H _ W (ZsAt.below hz' hb) hd hvv k1 k2 k3 k4
          · exact rpunch_is bb off c _ l X Y B H _ W (ZsAt.below hz' hb) hd hg hvv k1 k2 k3 k4
end Go.Proofs.Ytkajcbjacjfhnaa
