/- Prices that are a proof are worth at least each pairing: the law. -/
import Derived.Test.YtcakcdolijgjeaaPs
set_option linter.unusedVariables false
namespace Go.Proofs.Ytcakcdolijgjeaa
open Go Go.RowKit Go.Ab
/-- the prices of the right gloves that are taken -/
def sumU (bb : Nat → Int) (t : Nat → Bool) : Nat → Int
  | 0 => 0
  | x + 1 => sumU bb t x + if t x = true then bb x else 0
theorem sumU_same {bb : Nat → Int} {t t' : Nat → Bool} : ∀ {r : Nat}, (∀ x, x < r → t' x = t x) → sumU bb t' r = sumU bb t r
  | 0, _ => rfl
  | r + 1, h => by
    unfold sumU
    rw [sumU_same (fun x hx => h x (by omega)), h r (by omega)]
theorem sumU_add {bb : Nat → Int} {t t' : Nat → Bool} {J : Nat} (hJ : t J = false) (ht : ∀ x, t' x = if x = J then true else t x) : ∀ {r : Nat}, J < r → sumU bb t' r = sumU bb t r + bb J
  | r + 1, h => by
    unfold sumU
    by_cases e : J = r
    · subst e
      rw [sumU_same (t := t) (t' := t') (fun x hx => by rw [ht, if_neg (by omega)]), ht, if_pos rfl, hJ]
      simp
    · have e2 : t' r = t r := by rw [ht, if_neg (fun h => e h.symm)]
      rw [sumU_add hJ ht (show J < r by omega), e2]
      omega
theorem sumU_le {bb : Nat → Int} {t : Nat → Bool} {n : Nat} (h : prsB bb n = true) : ∀ r, r ≤ n → sumU bb t r ≤ sumP bb r
  | 0, _ => Int.le_refl _
  | r + 1, hr => by
    have ih := sumU_le (t := t) h r (by omega)
    have := prsB_get h r (by omega)
    unfold sumU sumP
    split <;> omega
theorem sumU_zero (bb : Nat → Int) (mm : Nat → Int) : ∀ r, sumU bb (tkn mm 0) r = 0
  | 0 => rfl
  | r + 1 => by
    unfold sumU
    rw [sumU_zero bb mm r]
    rfl
theorem dual_step {u um : G4} {gl gr : Nat → G4} {aa bb mm : Nat → Int} {l r : Nat} (hp : prB (alw u um gl gr) r mm l = true) (ha : prsB aa l = true) (hq : proofB (wth u um gl gr l r) aa bb r l = true) :
    ∀ k, k ≤ l → 1000000000 * (cntM mm k : Int) - costM u um gl gr mm k ≤ sumP aa k + sumU bb (tkn mm k) r
  | 0, _ => by rw [sumU_zero]; unfold cntM costM sumP; omega
  | k + 1, hk => by
    have ih := dual_step hp ha hq k (by omega)
    have hak := prsB_get ha k (by omega)
    by_cases e : mm k = -1
    · have h1 : cntM mm (k + 1) = cntM mm k := by show cntM mm k + (if mm k = -1 then 0 else 1) = _; rw [if_pos e]; rfl
      rw [h1, costM_none e, sumU_same (t := tkn mm k) (t' := tkn mm (k + 1)) (fun x _ => tkn_none e x)]
      unfold sumP
      omega
    · obtain ⟨J, hJ, hJr, ht, hal⟩ := pair_at hp (show k < l by omega) e
      have h1 : cntM mm (k + 1) = cntM mm k + 1 := by show cntM mm k + (if mm k = -1 then 0 else 1) = _; rw [if_neg e]
      rw [h1, costM_in hJ, sumU_add ht (fun x => tkn_in hJ x) hJr]
      have hx := proofB_get hq k J (by omega) hJr
      have hal : 0 ≤ prc u um (gl k) (gr J) := of_decide_eq_true hal
      have hw : wth u um gl gr l r k J = 1000000000 - prc u um (gl k) (gr J) := by unfold wth; rw [if_pos ⟨by omega, hJr, hal⟩]
      rw [hw] at hx
      unfold sumP
      push_cast
      omega
theorem worthV_get {u um : G4} {gl gr : Nat → G4} {aa bb : Nat → Int} {l r na nb : Nat} {N E : Int} (h : worthV u um gl gr aa bb l r na nb = .tuple #[.int .i64 N, .bool true, .int .i64 E]) :
    prsB aa l = true ∧ prsB bb r = true ∧ proofB (wth u um gl gr l r) aa bb r l = true ∧ N = sumP aa l + sumP bb r := by
  unfold worthV at h
  split at h
  · injection h with h; injection h with h; injection h with h1 h2; injection h2 with h2 h3; injection h2 with h2; cases h2
  · split at h
    · injection h with h; injection h with h; injection h with h1 h2; injection h2 with h2 h3; injection h2 with h2; cases h2
    · split at h
      · injection h with h; injection h with h; injection h with h1 h2; injection h2 with h2 h3; injection h2 with h2; cases h2
      · split at h
        · injection h with h; injection h with h; injection h with h1 h2; injection h2 with h2 h3; injection h2 with h2; cases h2
        · rename_i a b c d
          injection h with h; injection h with h; injection h with h1 h2; injection h1 with _ h1
          have hc : (prsB aa l && prsB bb r) = true := by cases hh : (prsB aa l && prsB bb r) <;> simp_all
          simp only [Bool.and_eq_true] at hc
          exact ⟨hc.1, hc.2, by cases hh : proofB (wth u um gl gr l r) aa bb r l <;> simp_all, h1.symm⟩
theorem weighV_get {u um : G4} {gl gr : Nat → G4} {mm : Nat → Int} {l r n : Nat} {S C : Int} (h : weighV u um gl gr mm l r n = .tuple #[.int .i64 S, .int .i64 C, .int .i64 0]) :
    opE u um gl gr mm l r n = 0 ∧ S = (cntM mm n : Nat) ∧ C = costM u um gl gr mm n := by
  unfold weighV at h
  split at h
  · rename_i h0
    injection h with h; injection h with h; injection h with h1 h2; injection h2 with h2 h3; injection h1 with _ h1; injection h2 with _ h2
    exact ⟨h0, h1.symm, h2.symm⟩
  · rename_i h0
    injection h with h; injection h with h; injection h with h1 h2; injection h2 with h2 h3; injection h3 with h3 h4; injection h3 with _ h3
    exact absurd h3 h0
theorem dual_num {u um : G4} {gl gr : Nat → G4} {aa bb mm : Nat → Int} {l r na nb n : Nat} {N S C E : Int} (hw : worthV u um gl gr aa bb l r na nb = .tuple #[.int .i64 N, .bool true, .int .i64 E])
    (hp : weighV u um gl gr mm l r n = .tuple #[.int .i64 S, .int .i64 C, .int .i64 0]) : 1000000000 * S - C ≤ N ∧ (0 ≤ S ∧ S ≤ 32) ∧ 0 ≤ C ∧ C ≤ 128000000 := by
  obtain ⟨h1, h2, h3, rfl⟩ := worthV_get hw
  obtain ⟨h4, rfl, rfl⟩ := weighV_get hp
  obtain ⟨hg, rfl, hpr⟩ := opE_get h4
  have h32 : n ≤ 32 := (handsB_get (goodB_get hg).1.1).2
  have a := dual_step hpr h1 h3 n (Nat.le_refl _)
  have b := sumU_le (t := tkn mm n) h2 r (Nat.le_refl _)
  have c := cntM_le mm n
  have d := costM_bd hg hpr n (Nat.le_refl _)
  omega
theorem weighV_form (u um : G4) (gl gr : Nat → G4) (mm : Nat → Int) (l r n : Nat) : ∃ S C E : Int, weighV u um gl gr mm l r n = .tuple #[.int .i64 S, .int .i64 C, .int .i64 E] := by
  unfold weighV; split <;> exact ⟨_, _, _, rfl⟩
theorem worthV_form (u um : G4) (gl gr : Nat → G4) (aa bb : Nat → Int) (l r na nb : Nat) : ∃ (N : Int) (B : Bool) (E : Int), worthV u um gl gr aa bb l r na nb = .tuple #[.int .i64 N, .bool B, .int .i64 E] := by
  unfold worthV
  split
  · exact ⟨_, _, _, rfl⟩
  · split
    · exact ⟨_, _, _, rfl⟩
    · split
      · exact ⟨_, _, _, rfl⟩
      · split <;> exact ⟨_, _, _, rfl⟩
set_option maxRecDepth 20000 in
set_option maxHeartbeats 8000000 in
theorem dual_law (a : Option Addr) (l c : Nat) (gl : Nat → G4) (b : Option Addr) (r d : Nat) (gr : Nat → G4) (u0 u1 u2 u3 m0 m1 m2 m3 : Int) (x : Option Addr) (na ca : Nat) (aa : Nat → Int) (y : Option Addr) (nb cb : Nat) (bb : Nat → Int) (g : Option Addr) (n e0 : Nat) (mm : Nat → Int) (w : World)
    (hs : Gs w a l gl ∧ l ≤ maxLen) (ht : Gs w b r gr ∧ r ≤ maxLen) (hx : Ls w x na aa ∧ na ≤ maxLen) (hy : Ls w y nb bb ∧ nb ≤ maxLen) (hm : Ls w g n mm ∧ n ≤ maxLen) :
    Calls Try.prog 10 #[.slice a l c, .slice b r d, .agg #[.int .i64 u0, .int .i64 u1, .int .i64 u2, .int .i64 u3, .int .i64 m0, .int .i64 m1, .int .i64 m2, .int .i64 m3], .slice x na ca, .slice y nb cb, .slice g n e0] w fun e w' => e = .returned (.bool true) ∧ Below w.heap.size w w' := by
  have H1 := hide hs.1
  have H2 := hide ht.1
  have H3 := hide hx.1
  have H4 := hide hy.1
  have H5 := hide hm.1
  obtain ⟨N, B, E1, hW⟩ := worthV_form (u0, u1, u2, u3) (m0, m1, m2, m3) gl gr aa bb (min l 34) (min r 34) na nb
  obtain ⟨S, C, E2, hP⟩ := weighV_form (u0, u1, u2, u3) (m0, m1, m2, m3) gl gr mm (min l 34) (min r 34) n
  have HW := hide hW
  have HP := hide hP
  have K39 := hide (fun W a' c' b' d' h1 h2 h3 h4 => worth_is a' b' x y (min l 34) c' (min r 34) d' na ca nb cb gl gr aa bb (u0, u1, u2, u3) (m0, m1, m2, m3) W h1 h2 h3 h4 (by omega) (by omega) hx.2 hy.2)
  have K26 := hide (fun W a' c' b' d' h1 h2 h3 => weigh_is a' b' g (min l 34) c' (min r 34) d' n e0 gl gr mm (u0, u1, u2, u3) (m0, m1, m2, m3) W h1 h2 h3 (by omega) (by omega) hm.2)
  have K27 := hide (fun W h1 => side_is a l c gl W h1 hs.2)
  have K27b := hide (fun W h1 => side_is b r d gr W h1 ht.2)
  rw [hW] at K39
  rw [hP] at K26
  unfold uVal at K39 K26
  simp only at K39 K26
  clear hs ht hx hy hm hW hP
  have HX := hide (l8_new w u0 u1 u2 u3 m0 m1 m2 m3 25)
  obtain ⟨f, _⟩ := l8_get HX
  obtain ⟨s, hsz⟩ : ∃ s, min l 34 = s := ⟨_, rfl⟩
  obtain ⟨t, htz⟩ : ∃ t, min r 34 = t := ⟨_, rfl⟩
  rw [hsz] at K39 K26 K27 HW HP
  rw [htz] at K39 K26 K27b HW HP
  go_enter Try.func10, Try.ntmps10
  go_wp2_with fail
  have HXd := hide (HX.out.below (Below.refl _ _).drew)
  go_region_held3 (fun W => (((W.cell? ⟨w.heap.size, 0, none⟩ = some (.int .i64 u0) ∧ W.cell? ⟨w.heap.size, 1, none⟩ = some (.int .i64 u1)) ∧ (W.cell? ⟨w.heap.size, 2, none⟩ = some (.int .i64 u2) ∧ W.cell? ⟨w.heap.size, 3, none⟩ = some (.int .i64 u3))) ∧ (W.cell? ⟨w.heap.size, 4, none⟩ = some (.int .i64 m0) ∧ W.cell? ⟨w.heap.size, 5, none⟩ = some (.int .i64 m1)) ∧ (W.cell? ⟨w.heap.size, 6, none⟩ = some (.int .i64 m2) ∧ W.cell? ⟨w.heap.size, 7, none⟩ = some (.int .i64 m3))) ∧ Hid (L8 w W u0 u1 u2 u3 m0 m1 m2 m3))
    ((go_split_ands; refine l8_get ?_; first | (with_reducible exact HX) | (with_reducible exact HXd) | (with_reducible exact hide (L8.below (Hid.out ‹_›) hbw))))
    ((first
      | (go_at_call 27; (with_reducible refine Calls.mono (K27.out _ ?_) ?_); exact H1.out.below HXd.out.2; rintro e w' ⟨a', c', rfl, hGa, hbw⟩; have hB1 := bt HXd.out.2 hbw)
      | (go_at_call 27; (with_reducible refine Calls.mono (K27b.out _ ?_) ?_); exact H2.out.below hB1; rintro e w' ⟨b', d', rfl, hGb, hbw⟩; have hB2 := bt hB1 hbw; have hGa2 := hGa.below hbw)
      | (go_at_call 23; (with_reducible refine (rule_any _ _ _ _ _ _ _ _ _).mono ?_); rintro e w' ⟨rfl, hbw⟩; have hB3 := bt hB2 hbw; have hGa3 := hGa2.below hbw; have hGb3 := hGb.below hbw)
      | (go_at_call 39; (with_reducible refine Calls.mono (K39.out _ _ _ _ _ ?_ ?_ ?_ ?_) ?_); exact hGa3; exact hGb3; exact H3.out.below hB3; exact H4.out.below hB3; rintro e w' ⟨rfl, hbw⟩; have hB4 := bt hB3 hbw)))
  go_split_ands
  have HY : Hid (L8 w w' u0 u1 u2 u3 m0 m1 m2 m3) := ‹_›
  clear hbw HX HXd hB1 hB2 hB3 hB4 hGa hGa2 hGa3 hGb hGb3
  go_wp2_with fail
  have HYd := hide (HY.out.below (Below.refl _ _).drew)
  go_region_held3 (fun W => (((W.cell? ⟨w.heap.size, 0, none⟩ = some (.int .i64 u0) ∧ W.cell? ⟨w.heap.size, 1, none⟩ = some (.int .i64 u1)) ∧ (W.cell? ⟨w.heap.size, 2, none⟩ = some (.int .i64 u2) ∧ W.cell? ⟨w.heap.size, 3, none⟩ = some (.int .i64 u3))) ∧ (W.cell? ⟨w.heap.size, 4, none⟩ = some (.int .i64 m0) ∧ W.cell? ⟨w.heap.size, 5, none⟩ = some (.int .i64 m1)) ∧ (W.cell? ⟨w.heap.size, 6, none⟩ = some (.int .i64 m2) ∧ W.cell? ⟨w.heap.size, 7, none⟩ = some (.int .i64 m3))) ∧ Hid (L8 w W u0 u1 u2 u3 m0 m1 m2 m3))
    ((go_split_ands; refine l8_get ?_; first | (with_reducible exact HY) | (with_reducible exact HYd) | (with_reducible exact hide (L8.below (Hid.out ‹_›) hbw))))
    ((first
      | (go_at_call 27; (with_reducible refine Calls.mono (K27.out _ ?_) ?_); exact H1.out.below HYd.out.2; rintro e w' ⟨a', c', rfl, hGa, hbw⟩; have hB1 := bt HYd.out.2 hbw)
      | (go_at_call 27; (with_reducible refine Calls.mono (K27b.out _ ?_) ?_); exact H2.out.below hB1; rintro e w' ⟨b', d', rfl, hGb, hbw⟩; have hB2 := bt hB1 hbw; have hGa2 := hGa.below hbw)
      | (go_at_call 23; (with_reducible refine (rule_any _ _ _ _ _ _ _ _ _).mono ?_); rintro e w' ⟨rfl, hbw⟩; have hB3 := bt hB2 hbw; have hGa3 := hGa2.below hbw; have hGb3 := hGb.below hbw)
      | (go_at_call 26; (with_reducible refine Calls.mono (K26.out _ _ _ _ _ ?_ ?_ ?_) ?_); exact hGa3; exact hGb3; exact H5.out.below hB3; rintro e w' ⟨rfl, hbw⟩; have hB4 := bt hB3 hbw)))
  go_split_ands
  have HZ := hide hB4
  clear hbw HY HYd hB1 hB2 hB3 hB4 hGa hGa2 hGa3 hGb hGb3
  by_cases hE1 : E1 = 0
  · subst hE1
    cases B with
    | false =>
      go_wp2_with fail
      refine (awake_any _).mono ?_
      rintro e W3 ⟨rfl, hb⟩
      have HC := hide (bt HZ.out hb)
      clear hb
      go_wp2_with fail
      go_ret
      exact ⟨rfl, HC.out⟩
    | true =>
      by_cases hE2 : E2 = 0
      · subst hE2
        obtain ⟨h1, ⟨h2, h3⟩, h4, h5⟩ := dual_num HW.out HP.out
        have hw1 : IntKind.i64.wrap (1000000000 * S) = 1000000000 * S := IntWalk.i64_in _ (by omega)
        have hw2 : IntKind.i64.wrap (1000000000 * S - C) = 1000000000 * S - C := IntWalk.i64_in _ (by omega)
        go_wp2_with fail
        refine (awake_any _).mono ?_
        rintro e W3 ⟨rfl, hb⟩
        have HC := hide (bt HZ.out hb)
        clear hb
        go_wp2_with fail
        go_ret
        exact ⟨rfl, HC.out⟩
      · go_wp2_with fail
        refine (awake_any _).mono ?_
        rintro e W3 ⟨rfl, hb⟩
        have HC := hide (bt HZ.out hb)
        clear hb
        go_wp2_with fail
        go_ret
        exact ⟨rfl, HC.out⟩
  · go_wp2_with fail
    refine (awake_any _).mono ?_
    rintro e W3 ⟨rfl, hb⟩
    have HC := hide (bt HZ.out hb)
    clear hb
    go_wp2_with fail
    go_ret
    exact ⟨rfl, HC.out⟩
end Go.Proofs.Ytcakcdolijgjeaa
