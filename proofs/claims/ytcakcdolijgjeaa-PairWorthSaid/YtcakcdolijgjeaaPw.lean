/- Weigh: of the reference; the law. -/
import Derived.Test.YtcakcdolijgjeaaPv
set_option linter.unusedVariables false
namespace Go.Proofs.Ytcakcdolijgjeaa
open Go Go.RowKit Go.Ab
theorem min_both {gl gr : Nat → G4} {l r : Nat} {u um : G4} : (min l 34 = l ∧ min r 34 = r) ∨ (goodB gl gr l r u um = false ∧ goodB gl gr (min l 34) (min r 34) u um = false) := by
  by_cases h : l ≤ 34 ∧ r ≤ 34
  · exact .inl ⟨Nat.min_eq_left h.1, Nat.min_eq_left h.2⟩
  · have hb : goodB gl gr l r u um = false := by
      cases e : goodB gl gr l r u um with
      | false => rfl
      | true =>
        have h1 := (handsB_get (goodB_get e).1.1).2
        have h2 := (handsB_get (goodB_get e).1.2).2
        omega
    exact .inr ⟨hb, by rw [goodB_min]; exact hb⟩
theorem weighV_min (u um : G4) (gl gr : Nat → G4) (mm : Nat → Int) (l r n : Nat) : weighV u um gl gr mm (min l 34) (min r 34) n = weighV u um gl gr mm l r n := by
  rcases min_both (gl := gl) (gr := gr) (l := l) (r := r) (u := u) (um := um) with ⟨h1, h2⟩ | ⟨h1, h2⟩
  · rw [h1, h2]
  · unfold weighV
    rw [opE_bad h1, opE_bad h2]
theorem weighV_no {u um : G4} {gl gr : Nat → G4} {mm : Nat → Int} {l r n : Nat} {E : Int} (h : opE u um gl gr mm l r n = E) (h0 : ¬ E = 0) : weighV u um gl gr mm l r n = .tuple #[.int .i64 0, .int .i64 0, .int .i64 E] := by unfold weighV; rw [h, if_neg h0]
theorem weighV_yes {u um : G4} {gl gr : Nat → G4} {mm : Nat → Int} {l r n : Nat} (h : opE u um gl gr mm l r n = 0) : weighV u um gl gr mm l r n = .tuple #[.int .i64 (cntM mm n : Nat), .int .i64 (costM u um gl gr mm n), .int .i64 0] := by unfold weighV; rw [if_pos h]
set_option maxRecDepth 20000 in
set_option maxHeartbeats 4000000 in
theorem rweigh_is (a b g : Option Addr) (l c r d n e0 : Nat) (gl gr : Nat → G4) (mm : Nat → Int) (u um : G4) (w : World) (hs : Gs w a l gl) (ht : Gs w b r gr) (hm : Ls w g n mm) (hl : l ≤ maxLen) (hr : r ≤ maxLen) (hn : n ≤ maxLen) :
    Calls Try.prog 28 #[.slice a l c, .slice b r d, uVal u um, .slice g n e0] w fun e w' => e = .returned (weighV u um gl gr mm l r n) ∧ Below w.heap.size w w' := by
  have H1 := hide hs
  have H2 := hide ht
  have H3 := hide hm
  clear hs ht hm
  have K36 := hide (fun W h h' => good_is a b l r c d gl gr u um W h h' hl hr)
  have K67 := hide (fun W h h' hg => table_is a b l r c d gl gr u um W h h' hg)
  unfold maxLen at hl hr hn
  unfold uVal at K36 K67 ⊢
  have HX := hide (bx8_new w u.1 u.2.1 u.2.2.1 u.2.2.2 um.1 um.2.1 um.2.2.1 um.2.2.2 25)
  have HB0 := hide (ba w (.cells #[.int .i64 u.1, .int .i64 u.2.1, .int .i64 u.2.2.1, .int .i64 u.2.2.2, .int .i64 um.1, .int .i64 um.2.1, .int .i64 um.2.2.1, .int .i64 um.2.2.2] 25))
  obtain ⟨V, hV⟩ : ∃ V, Hid (V = weighV u um gl gr mm l r n) := ⟨_, hide rfl⟩
  rw [← hV.out]
  go_enter Try.func28, Try.ntmps28
  go_wp2_with fail
  refine (K36.out _ (H1.out.below HB0.out) (H2.out.below HB0.out)).mono ?_
  rintro e W1 ⟨rfl, hb⟩
  have HB := hide (bt HB0.out hb)
  have HX1 := hide (HX.out.below hb)
  clear hb HX HB0
  cases hg : goodB gl gr l r u um with
  | false =>
    have HV := hide (hV.out.trans (weighV_no (opE_bad hg) (by decide)))
    go_wp2_with fail
    go_ret3
    exact ⟨by rw [HV.out]; rfl, HB.out⟩
  | true =>
    by_cases hnl : n = l
    · subst hnl
      obtain ⟨⟨⟨q0, q1⟩, q2, q3⟩, ⟨r0, r1⟩, r2, r3⟩ := HX1.out
      go_wp2_with fail
      refine (K67.out _ (H1.out.below HB.out) (H2.out.below HB.out) hg).mono ?_
      rintro e W2 ⟨t, cap, rfl, hT, hb⟩
      have HT := hide hT
      have HB2 := hide (bt HB.out hb)
      clear hb hT q0 q1 q2 q3 r0 r1 r2 r3
      have HW := hide (weighed_is t g n r cap e0 gl gr mm u um W2 HT.out (H3.out.below HB2.out) hg)
      cases hp : prB (alw u um gl gr) r mm n with
      | false =>
        have HV := hide (hV.out.trans (weighV_no (opE_form hg hp) (by decide)))
        have e1 : wdV u um gl gr mm n r = .tuple #[.int .i64 0, .int .i64 0, .bool false] := by unfold wdV; rw [if_pos hp]
        rw [e1] at HW
        go_wp2_with fail
        refine HW.out.mono ?_
        rintro e W3 ⟨rfl, hb⟩
        have HB3 := hide (bt HB2.out hb)
        clear hb
        go_wp2_with fail
        go_ret3
        exact ⟨by rw [HV.out]; rfl, HB3.out⟩
      | true =>
        have HV := hide (hV.out.trans (weighV_yes (opE_ok hg hp)))
        have e1 : wdV u um gl gr mm n r = .tuple #[.int .i64 (cntM mm n : Nat), .int .i64 (costM u um gl gr mm n), .bool true] := by unfold wdV; rw [if_neg (by rw [hp]; decide)]
        rw [e1] at HW
        obtain ⟨N, hN⟩ : ∃ N : Int, Hid (N = (cntM mm n : Nat)) := ⟨_, hide rfl⟩
        obtain ⟨C, hC⟩ : ∃ C, Hid (C = costM u um gl gr mm n) := ⟨_, hide rfl⟩
        rw [← hN.out, ← hC.out] at HW HV
        go_wp2_with fail
        refine HW.out.mono ?_
        rintro e W3 ⟨rfl, hb⟩
        have HB3 := hide (bt HB2.out hb)
        clear hb
        go_wp2_with fail
        go_ret3
        exact ⟨by rw [HV.out]; rfl, HB3.out⟩
    · have HV := hide (hV.out.trans (weighV_no (opE_len hg hnl) (by decide)))
      have hnl2 : ¬ (n : Int) = (l : Int) := by omega
      go_wp2_with fail
      go_ret3
      exact ⟨by rw [HV.out]; rfl, HB.out⟩
set_option maxRecDepth 20000 in
set_option maxHeartbeats 8000000 in
theorem weigh_law (a : Option Addr) (l c : Nat) (gl : Nat → G4) (b : Option Addr) (r d : Nat) (gr : Nat → G4) (u0 u1 u2 u3 m0 m1 m2 m3 : Int) (g : Option Addr) (n e0 : Nat) (mm : Nat → Int) (w : World)
    (hs : Gs w a l gl ∧ l ≤ maxLen) (ht : Gs w b r gr ∧ r ≤ maxLen) (hm : Ls w g n mm ∧ n ≤ maxLen) :
    Calls Try.prog 4 #[.slice a l c, .slice b r d, .agg #[.int .i64 u0, .int .i64 u1, .int .i64 u2, .int .i64 u3, .int .i64 m0, .int .i64 m1, .int .i64 m2, .int .i64 m3], .slice g n e0] w fun e w' => e = .returned (.bool true) ∧ Below w.heap.size w w' := by
  have H1 := hide hs.1
  have H2 := hide ht.1
  have H5 := hide hm.1
  obtain ⟨S, C, E2, hP⟩ := weighV_form (u0, u1, u2, u3) (m0, m1, m2, m3) gl gr mm l r n
  have K26 := hide (fun W a' c' b' d' h1 h2 h3 => weigh_is a' b' g (min l 34) c' (min r 34) d' n e0 gl gr mm (u0, u1, u2, u3) (m0, m1, m2, m3) W h1 h2 h3 (by omega) (by omega) hm.2)
  have K28 := hide (fun W h1 h2 h3 => rweigh_is a b g l c r d n e0 gl gr mm (u0, u1, u2, u3) (m0, m1, m2, m3) W h1 h2 h3 hs.2 ht.2 hm.2)
  have K27 := hide (fun W h1 => side_is a l c gl W h1 hs.2)
  have K27b := hide (fun W h1 => side_is b r d gr W h1 ht.2)
  rw [weighV_min, hP] at K26
  rw [hP] at K28
  unfold uVal at K26 K28
  simp only at K26 K28
  clear hs ht hm hP
  have HX := hide (l8_new w u0 u1 u2 u3 m0 m1 m2 m3 25)
  obtain ⟨f, _⟩ := l8_get HX
  obtain ⟨s, hsz⟩ : ∃ s, min l 34 = s := ⟨_, rfl⟩
  obtain ⟨t, htz⟩ : ∃ t, min r 34 = t := ⟨_, rfl⟩
  rw [hsz] at K26 K27
  rw [htz] at K26 K27b
  go_enter Try.func4, Try.ntmps4
  go_wp2_with fail
  have HYd := hide (HX.out.below (Below.refl _ _).drew)
  go_region_held3 (fun W => (((W.cell? ⟨w.heap.size, 0, none⟩ = some (.int .i64 u0) ∧ W.cell? ⟨w.heap.size, 1, none⟩ = some (.int .i64 u1)) ∧ (W.cell? ⟨w.heap.size, 2, none⟩ = some (.int .i64 u2) ∧ W.cell? ⟨w.heap.size, 3, none⟩ = some (.int .i64 u3))) ∧ (W.cell? ⟨w.heap.size, 4, none⟩ = some (.int .i64 m0) ∧ W.cell? ⟨w.heap.size, 5, none⟩ = some (.int .i64 m1)) ∧ (W.cell? ⟨w.heap.size, 6, none⟩ = some (.int .i64 m2) ∧ W.cell? ⟨w.heap.size, 7, none⟩ = some (.int .i64 m3))) ∧ Hid (L8 w W u0 u1 u2 u3 m0 m1 m2 m3))
    ((go_split_ands; refine l8_get ?_; first | (with_reducible exact HX) | (with_reducible exact HYd) | (with_reducible exact hide (L8.below (Hid.out ‹_›) hbw))))
    ((first
      | (go_at_call 27; (with_reducible refine Calls.mono (K27.out _ ?_) ?_); exact H1.out.below HYd.out.2; rintro e w' ⟨a', c', rfl, hGa, hbw⟩; have hB1 := bt HYd.out.2 hbw)
      | (go_at_call 27; (with_reducible refine Calls.mono (K27b.out _ ?_) ?_); exact H2.out.below hB1; rintro e w' ⟨b', d', rfl, hGb, hbw⟩; have hB2 := bt hB1 hbw; have hGa2 := hGa.below hbw)
      | (go_at_call 23; (with_reducible refine (rule_any _ _ _ _ _ _ _ _ _).mono ?_); rintro e w' ⟨rfl, hbw⟩; have hB3 := bt hB2 hbw; have hGa3 := hGa2.below hbw; have hGb3 := hGb.below hbw)
      | (go_at_call 26; (with_reducible refine Calls.mono (K26.out _ _ _ _ _ ?_ ?_ ?_) ?_); exact hGa3; exact hGb3; exact H5.out.below hB3; rintro e w' ⟨rfl, hbw⟩; have hB4 := bt hB3 hbw)))
  go_split_ands
  have HY : Hid (L8 w w' u0 u1 u2 u3 m0 m1 m2 m3) := ‹_›
  clear hbw HX HYd hB1 hB2 hB3 hB4 hGa hGa2 hGa3 hGb hGb3
  go_wp2_with fail
  refine (K28.out _ (H1.out.below HY.out.2) (H2.out.below HY.out.2) (H5.out.below HY.out.2)).mono ?_
  rintro e W2 ⟨rfl, hb⟩
  have HB := hide (bt HY.out.2 hb)
  clear hb
  go_wp2_with fail
  refine (awake_any _).mono ?_
  rintro e W3 ⟨rfl, hb⟩
  have HC := hide (bt HB.out hb)
  clear hb
  go_wp2_with fail
  go_ret
  exact ⟨rfl, HC.out⟩
end Go.Proofs.Ytcakcdolijgjeaa
