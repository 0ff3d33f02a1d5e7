/- Weigh, of the program. -/
import Derived.Test.YtcakcdolijgjeaaPp
set_option linter.unusedVariables false
namespace Go.Proofs.Ytcakcdolijgjeaa
open Go Go.RowKit Go.Ab
def costM (u um : G4) (gl gr : Nat → G4) (mm : Nat → Int) : Nat → Int
  | 0 => 0
  | k + 1 => costM u um gl gr mm k + if mm k = -1 then 0 else prc u um (gl k) (gr (mm k).toNat)
theorem costM_none {u um : G4} {gl gr : Nat → G4} {mm : Nat → Int} {k : Nat} (h : mm k = -1) : costM u um gl gr mm (k + 1) = costM u um gl gr mm k := by
  show costM u um gl gr mm k + (if mm k = -1 then 0 else prc u um (gl k) (gr (mm k).toNat)) = _
  rw [if_pos h]; omega
theorem costM_in {u um : G4} {gl gr : Nat → G4} {mm : Nat → Int} {k J : Nat} (h : mm k = (J : Int)) : costM u um gl gr mm (k + 1) = costM u um gl gr mm k + prc u um (gl k) (gr J) := by
  show costM u um gl gr mm k + (if mm k = -1 then 0 else prc u um (gl k) (gr (mm k).toNat)) = _
  rw [if_neg (by omega), h]; rfl
theorem pair_at {al : Nat → Nat → Bool} {r : Nat} {mm : Nat → Int} {n i : Nat} (h : prB al r mm n = true) (hi : i < n) (hn : ¬ mm i = -1) : ∃ J : Nat, mm i = (J : Int) ∧ J < r ∧ tkn mm i J = false ∧ al i J = true := by
  have hk := prB_get h i hi
  by_cases e : 0 ≤ mm i ∧ mm i < (r : Int)
  · refine ⟨(mm i).toNat, by omega, by omega, ?_⟩
    rw [okJ_in (J := (mm i).toNat) (by omega) (by omega)] at hk
    simpa using hk
  · rw [okJ_out hn e] at hk; cases hk
theorem costM_bd {u um : G4} {gl gr : Nat → G4} {l r : Nat} {mm : Nat → Int} (hg : goodB gl gr l r u um = true) (hp : prB (alw u um gl gr) r mm l = true) : ∀ k, k ≤ l → 0 ≤ costM u um gl gr mm k ∧ costM u um gl gr mm k ≤ (k : Int) * 4000000
  | 0, _ => ⟨Int.le_refl _, by unfold costM; omega⟩
  | k + 1, hk => by
    have ih := costM_bd hg hp k (by omega)
    by_cases e : mm k = -1
    · rw [costM_none e]; omega
    · obtain ⟨J, hJ, hJr, _, ha⟩ := pair_at hp (show k < l by omega) e
      rw [costM_in hJ]
      obtain ⟨⟨h1, h2⟩, h3, h4⟩ := goodB_get hg
      have hb := prc_in (m := um) h3 (allG_get (handsB_get h1).1 k (by omega)) (allG_get (handsB_get h2).1 J hJr)
      have ha : 0 ≤ prc u um (gl k) (gr J) := of_decide_eq_true ha
      omega
def weighV (u um : G4) (gl gr : Nat → G4) (mm : Nat → Int) (l r n : Nat) : Value :=
  if opE u um gl gr mm l r n = 0 then .tuple #[.int .i64 (cntM mm n : Nat), .int .i64 (costM u um gl gr mm n), .int .i64 0] else .tuple #[.int .i64 0, .int .i64 0, .int .i64 (opE u um gl gr mm l r n)]
set_option maxRecDepth 20000 in
set_option maxHeartbeats 4000000 in
theorem weigh_is (a b g : Option Addr) (l c r d n e : Nat) (gl gr : Nat → G4) (mm : Nat → Int) (u um : G4) (w : World) (hs : Gs w a l gl) (ht : Gs w b r gr) (hm : Ls w g n mm) (hl : l ≤ 34) (hr : r ≤ 34) (hn : n ≤ maxLen) :
    Calls Try.prog 26 #[.slice a l c, .slice b r d, uVal u um, .slice g n e] w fun e w' => e = .returned (weighV u um gl gr mm l r n) ∧ Below w.heap.size w w' := by
  have H3 := hide hm
  have HO := hide (fun W h h' h'' => openWith_is a b g l c r d n e gl gr mm u um W h h' h'' hl hr hn)
  have H1 := hide hs
  have H2 := hide ht
  clear hs ht hm
  unfold uVal at HO ⊢
  have HB0 := hide (ba w (.cells #[.int .i64 u.1, .int .i64 u.2.1, .int .i64 u.2.2.1, .int .i64 u.2.2.2, .int .i64 um.1, .int .i64 um.2.1, .int .i64 um.2.2.1, .int .i64 um.2.2.2] 32))
  obtain ⟨V, hV⟩ : ∃ V, Hid (V = weighV u um gl gr mm l r n) := ⟨_, hide rfl⟩
  rw [← hV.out]
  obtain ⟨E, hE⟩ : ∃ E, Hid (E = opE u um gl gr mm l r n) := ⟨_, hide rfl⟩
  rw [← hE.out] at HO
  by_cases h0 : E = 0
  · have ⟨hg, hnl, hp⟩ := opE_get (hE.out.symm.trans h0)
    have HG := hide hg
    have HP := hide hp
    have h32 : l ≤ 32 := (handsB_get (goodB_get hg).1.1).2
    have r32 : r ≤ 32 := (handsB_get (goodB_get hg).1.2).2
    have HV : Hid (V = .tuple #[.int .i64 (cntM mm n : Nat), .int .i64 (costM u um gl gr mm n), .int .i64 0]) := hide (by rw [hV.out]; unfold weighV; rw [if_pos (hE.out.symm.trans h0)])
    subst h0 hnl
    clear hg hp hV
    go_enter Try.func26, Try.ntmps26
    go_wp2_with fail
    refine (HO.out _ (H1.out.below HB0.out) (H2.out.below HB0.out) (H3.out.below HB0.out)).mono ?_
    rintro e W1 ⟨v, rfl, hT0, hb⟩
    obtain ⟨T, rfl, hT⟩ := hT0 (by trivial)
    clear hT0
    have HT := hide hT
    have HB := hide (bt HB0.out hb)
    clear hb hT
    go_wp2_with fail
    go_loopw [13, 14, 30] (fun s t i wr => ∃ (wq : World) (k : Nat), wq = wr ∧ k ≤ n ∧ i = .int .i64 k ∧ s = .int .i64 (cntM mm k : Nat) ∧ (∃ C : Int, t = .int .i64 C ∧ Hid (C = costM u um gl gr mm k)) ∧ Tb wr T n r (wth u um gl gr n r) ∧ Below w.heap.size w wr) (fun _ _ i _ => n - (intOf i).toNat)
    case atStart => exact ⟨_, 0, rfl, Nat.zero_le _, rfl, rfl, ⟨0, rfl, hide rfl⟩, HT.out, HB.out⟩
    case round =>
      clear HT HB
      obtain ⟨wr, k, rfl, hk, rfl, rfl, ⟨C, rfl, HC⟩, hT, hB⟩ := hrel
      have HT := hide hT
      have HB := hide hB
      clear hT hB
      have hck := cntM_le mm k
      obtain ⟨N, hN⟩ : ∃ N, Hid (N = cntM mm k) := ⟨_, hide rfl⟩
      rw [← hN.out] at hck ⊢
      by_cases hlt : k < n
      · obtain ⟨b1, off, rfl, hc⟩ : ∃ b1 off, g = some ⟨b1, off, none⟩ ∧ LsAt w b1 off n mm := by
          rcases H3.out with h | h
          · omega
          · exact h
        have ck := kc HB.out (hc k hlt).1
        clear hc
        obtain ⟨q, hq⟩ : ∃ q, Hid (q = mm k) := ⟨_, hide rfl⟩
        rw [← hq.out] at ck
        have bd := costM_bd HG.out HP.out k (by omega)
        rw [← HC.out] at bd
        by_cases e1 : q = -1
        · have HN2 : Hid (cntM mm (k + 1) = N) := hide (by unfold cntM; rw [← hq.out, if_pos e1, hN.out, Nat.add_zero])
          have HC2 : Hid (C = costM u um gl gr mm (k + 1)) := hide (by rw [costM_none (by rw [← hq.out]; exact e1)]; exact HC.out)
          go_wp2_with fail
          go_roundw
          case rel => exact ⟨_, k + 1, rfl, by omega, by go_num, by rw [HN2.out], ⟨_, rfl, HC2⟩, HT.out, HB.out⟩
          case measure => simp [intOf]; omega
        · obtain ⟨J, hJ, hJr, _, ha⟩ := pair_at HP.out hlt (by rw [← hq.out]; exact e1)
          have HN2 : Hid (cntM mm (k + 1) = N + 1) := hide (by unfold cntM; rw [← hq.out, if_neg e1, hN.out])
          have HC2 := hide (costM_in (u := u) (um := um) (gl := gl) (gr := gr) hJ)
          rw [← HC.out] at HC2
          obtain ⟨⟨h1, h2⟩, h3, h4⟩ := goodB_get HG.out
          have hb := prc_in (m := um) h3 (allG_get (handsB_get h1).1 k (by omega)) (allG_get (handsB_get h2).1 J hJr)
          have ha : 0 ≤ prc u um (gl k) (gr J) := of_decide_eq_true ha
          have hw : wth u um gl gr n r k J = 1000000000 - prc u um (gl k) (gr J) := by unfold wth; rw [if_pos ⟨hlt, hJr, ha⟩]
          have HK := hide (tcost_is T n r k J _ wr HT.out (by omega) (by omega) (by rw [hw]; omega) (by rw [hw]; omega))
          rw [hw] at HK
          obtain ⟨D, hD⟩ : ∃ D, Hid (D = prc u um (gl k) (gr J)) := ⟨_, hide rfl⟩
          rw [← hD.out] at HK HC2 hb ha
          rw [show (1000000000 : Int) - (1000000000 - D) = D by omega] at HK
          have hqJ : q = (J : Int) := hq.out.trans hJ
          subst hqJ
          clear h1 h2 h3 h4 hw
          have hw1 : IntKind.i64.wrap (C + D) = C + D := IntWalk.i64_in _ (by omega)
          go_wp2_with fail
          refine HK.out.mono ?_
          rintro e W2 ⟨rfl, hb2⟩
          have HT2 := hide (HT.out.below hb2)
          have HB2 := hide (bt HB.out hb2)
          clear hb2
          go_wp2_with fail
          go_roundw
          case rel => exact ⟨_, k + 1, rfl, by omega, by go_num, by rw [HN2.out]; go_num, ⟨_, rfl, hide HC2.out.symm⟩, HT2.out, HB2.out⟩
          case measure => simp [intOf]; omega
      · obtain rfl : k = n := by omega
        rw [← hN.out, ← HC.out] at HV
        go_wp2_with fail
        go_ret3
        exact ⟨by rw [HV.out]; rfl, HB.out⟩
  · have HV : Hid (V = .tuple #[.int .i64 0, .int .i64 0, .int .i64 E]) := hide (by rw [hV.out]; unfold weighV; rw [if_neg (fun h => h0 (hE.out.trans h)), hE.out])
    clear hV hE
    go_enter Try.func26, Try.ntmps26
    go_wp2_with fail
    refine (HO.out _ (H1.out.below HB0.out) (H2.out.below HB0.out) (H3.out.below HB0.out)).mono ?_
    rintro e W1 ⟨v, rfl, hT, hb⟩
    have HB := hide (bt HB0.out hb)
    clear hb hT
    go_wp2_with fail
    go_ret3
    exact ⟨by rw [HV.out]; rfl, HB.out⟩
end Go.Proofs.Ytcakcdolijgjeaa
