/- Worth: the law. -/
import Derived.Test.YtcakcdolijgjeaaPy
set_option linter.unusedVariables false
namespace Go.Proofs.Ytcakcdolijgjeaa
open Go Go.RowKit Go.Ab
theorem worthV_min (u um : G4) (gl gr : Nat → G4) (aa bb : Nat → Int) (l r na nb : Nat) : worthV u um gl gr aa bb (min l 34) (min r 34) na nb = worthV u um gl gr aa bb l r na nb := by
  rcases min_both (gl := gl) (gr := gr) (l := l) (r := r) (u := u) (um := um) with ⟨h1, h2⟩ | ⟨h1, h2⟩
  · rw [h1, h2]
  · rw [worthV_bad h1, worthV_bad h2]
set_option maxRecDepth 20000 in
set_option maxHeartbeats 8000000 in
theorem worth_law (a : Option Addr) (l c : Nat) (gl : Nat → G4) (b : Option Addr) (r d : Nat) (gr : Nat → G4) (u0 u1 u2 u3 m0 m1 m2 m3 : Int) (x : Option Addr) (na ca : Nat) (aa : Nat → Int) (y : Option Addr) (nb cb : Nat) (bb : Nat → Int) (w : World)
    (hs : Gs w a l gl ∧ l ≤ maxLen) (ht : Gs w b r gr ∧ r ≤ maxLen) (hx : Ls w x na aa ∧ na ≤ maxLen) (hy : Ls w y nb bb ∧ nb ≤ maxLen) :
    Calls Try.prog 9 #[.slice a l c, .slice b r d, .agg #[.int .i64 u0, .int .i64 u1, .int .i64 u2, .int .i64 u3, .int .i64 m0, .int .i64 m1, .int .i64 m2, .int .i64 m3], .slice x na ca, .slice y nb cb] w fun e w' => e = .returned (.bool true) ∧ Below w.heap.size w w' := by
  have H1 := hide hs.1
  have H2 := hide ht.1
  have H5 := hide hx.1
  have H6 := hide hy.1
  obtain ⟨S, C, E2, hP⟩ := worthV_form (u0, u1, u2, u3) (m0, m1, m2, m3) gl gr aa bb l r na nb
  have hCC : (C == C) = true := by cases C <;> rfl
  have K26 := hide (fun W a' c' b' d' h1 h2 h3 h4 => worth_is a' b' x y (min l 34) c' (min r 34) d' na ca nb cb gl gr aa bb (u0, u1, u2, u3) (m0, m1, m2, m3) W h1 h2 h3 h4 (by omega) (by omega) hx.2 hy.2)
  have K28 := hide (fun W h1 h2 h3 h4 => rworth_is a b x y l c r d na ca nb cb gl gr aa bb (u0, u1, u2, u3) (m0, m1, m2, m3) W h1 h2 h3 h4 hs.2 ht.2 hx.2 hy.2)
  have K27 := hide (fun W h1 => side_is a l c gl W h1 hs.2)
  have K27b := hide (fun W h1 => side_is b r d gr W h1 ht.2)
  rw [worthV_min, hP] at K26
  rw [hP] at K28
  unfold uVal at K26 K28
  simp only at K26 K28
  clear hs ht hx hy hP
  have HX := hide (l8_new w u0 u1 u2 u3 m0 m1 m2 m3 25)
  obtain ⟨f, _⟩ := l8_get HX
  obtain ⟨s, hsz⟩ : ∃ s, min l 34 = s := ⟨_, rfl⟩
  obtain ⟨t, htz⟩ : ∃ t, min r 34 = t := ⟨_, rfl⟩
  rw [hsz] at K26 K27
  rw [htz] at K26 K27b
  go_enter Try.func9, Try.ntmps9
  go_wp2_with fail
  have HYd := hide (HX.out.below (Below.refl _ _).drew)
  go_region_held3 (fun W => (((W.cell? ⟨w.heap.size, 0, none⟩ = some (.int .i64 u0) ∧ W.cell? ⟨w.heap.size, 1, none⟩ = some (.int .i64 u1)) ∧ (W.cell? ⟨w.heap.size, 2, none⟩ = some (.int .i64 u2) ∧ W.cell? ⟨w.heap.size, 3, none⟩ = some (.int .i64 u3))) ∧ (W.cell? ⟨w.heap.size, 4, none⟩ = some (.int .i64 m0) ∧ W.cell? ⟨w.heap.size, 5, none⟩ = some (.int .i64 m1)) ∧ (W.cell? ⟨w.heap.size, 6, none⟩ = some (.int .i64 m2) ∧ W.cell? ⟨w.heap.size, 7, none⟩ = some (.int .i64 m3))) ∧ Hid (L8 w W u0 u1 u2 u3 m0 m1 m2 m3))
    ((go_split_ands; refine l8_get ?_; first | (with_reducible exact HX) | (with_reducible exact HYd) | (with_reducible exact hide (L8.below (Hid.out ‹_›) hbw))))
    ((first
      | (go_at_call 27; (with_reducible refine Calls.mono (K27.out _ ?_) ?_); exact H1.out.below HYd.out.2; rintro e w' ⟨a', c', rfl, hGa, hbw⟩; have hB1 := bt HYd.out.2 hbw)
      | (go_at_call 27; (with_reducible refine Calls.mono (K27b.out _ ?_) ?_); exact H2.out.below hB1; rintro e w' ⟨b', d', rfl, hGb, hbw⟩; have hB2 := bt hB1 hbw; have hGa2 := hGa.below hbw)
      | (go_at_call 23; (with_reducible refine (rule_any _ _ _ _ _ _ _ _ _).mono ?_); rintro e w' ⟨rfl, hbw⟩; have hB3 := bt hB2 hbw; have hGa3 := hGa2.below hbw; have hGb3 := hGb.below hbw)
      | (go_at_call 39; (with_reducible refine Calls.mono (K26.out _ _ _ _ _ ?_ ?_ ?_ ?_) ?_); exact hGa3; exact hGb3; exact H5.out.below hB3; exact H6.out.below hB3; rintro e w' ⟨rfl, hbw⟩; have hB4 := bt hB3 hbw)))
  go_split_ands
  have HY : Hid (L8 w w' u0 u1 u2 u3 m0 m1 m2 m3) := ‹_›
  clear hbw HX HYd hB1 hB2 hB3 hB4 hGa hGa2 hGa3 hGb hGb3
  go_wp2_with fail
  refine (K28.out _ (H1.out.below HY.out.2) (H2.out.below HY.out.2) (H5.out.below HY.out.2) (H6.out.below HY.out.2)).mono ?_
  rintro e W2 ⟨rfl, hb⟩
  have HB := hide (bt HY.out.2 hb)
  clear hb
  go_wp2_with fail
  refine (awake_any _).mono ?_
  rintro e W3 ⟨rfl, hb⟩
  have HC := hide (bt HB.out hb)
  clear hb
  go_wp2_with fail
  go_ret
  exact ⟨rfl, HC.out⟩
end Go.Proofs.Ytcakcdolijgjeaa
