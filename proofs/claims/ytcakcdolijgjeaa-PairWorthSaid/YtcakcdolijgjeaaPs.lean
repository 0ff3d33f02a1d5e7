/- Worth, of the program. -/
import Derived.Test.YtcakcdolijgjeaaPr
set_option linter.unusedVariables false
namespace Go.Proofs.Ytcakcdolijgjeaa
open Go Go.RowKit Go.Ab
def worthV (u um : G4) (gl gr : Nat → G4) (aa bb : Nat → Int) (l r na nb : Nat) : Value :=
  if goodB gl gr l r u um = false then .tuple #[.int .i64 0, .bool false, .int .i64 2]
  else if ¬ (na = l ∧ nb = r) then .tuple #[.int .i64 0, .bool false, .int .i64 3]
  else if (prsB aa l && prsB bb r) = false then .tuple #[.int .i64 0, .bool false, .int .i64 2]
  else if proofB (wth u um gl gr l r) aa bb r l = false then .tuple #[.int .i64 0, .bool false, .int .i64 0]
  else .tuple #[.int .i64 (sumP aa l + sumP bb r), .bool true, .int .i64 0]
section
variable {u um : G4} {gl gr : Nat → G4} {aa bb : Nat → Int} {l r na nb : Nat}
theorem worthV_bad (h : goodB gl gr l r u um = false) : worthV u um gl gr aa bb l r na nb = .tuple #[.int .i64 0, .bool false, .int .i64 2] := by unfold worthV; rw [if_pos h]
theorem worthV_len (h : goodB gl gr l r u um = true) (hn : ¬ (na = l ∧ nb = r)) : worthV u um gl gr aa bb l r na nb = .tuple #[.int .i64 0, .bool false, .int .i64 3] := by unfold worthV; rw [if_neg (by rw [h]; decide), if_pos hn]
theorem worthV_prs (h : goodB gl gr l r u um = true) (hp : (prsB aa l && prsB bb r) = false) : worthV u um gl gr aa bb l r l r = .tuple #[.int .i64 0, .bool false, .int .i64 2] := by unfold worthV; rw [if_neg (by rw [h]; decide), if_neg (fun h => h ⟨rfl, rfl⟩), if_pos hp]
theorem worthV_not (h : goodB gl gr l r u um = true) (hp : (prsB aa l && prsB bb r) = true) (hq : proofB (wth u um gl gr l r) aa bb r l = false) : worthV u um gl gr aa bb l r l r = .tuple #[.int .i64 0, .bool false, .int .i64 0] := by unfold worthV; rw [if_neg (by rw [h]; decide), if_neg (fun h => h ⟨rfl, rfl⟩), if_neg (by rw [hp]; decide), if_pos hq]
theorem worthV_yes (h : goodB gl gr l r u um = true) (hp : (prsB aa l && prsB bb r) = true) (hq : proofB (wth u um gl gr l r) aa bb r l = true) : worthV u um gl gr aa bb l r l r = .tuple #[.int .i64 (sumP aa l + sumP bb r), .bool true, .int .i64 0] := by unfold worthV; rw [if_neg (by rw [h]; decide), if_neg (fun h => h ⟨rfl, rfl⟩), if_neg (by rw [hp]; decide), if_neg (by rw [hq]; decide)]
end
set_option maxRecDepth 20000 in
set_option maxHeartbeats 4000000 in
theorem worth_is (a b x y : Option Addr) (l c r d na ca nb cb : Nat) (gl gr : Nat → G4) (aa bb : Nat → Int) (u um : G4) (w : World) (hs : Gs w a l gl) (ht : Gs w b r gr) (hx : Ls w x na aa) (hy : Ls w y nb bb) (hl : l ≤ 34) (hr : r ≤ 34) (hna : na ≤ maxLen) (hnb : nb ≤ maxLen) :
    Calls Try.prog 39 #[.slice a l c, .slice b r d, uVal u um, .slice x na ca, .slice y nb cb] w fun e w' => e = .returned (worthV u um gl gr aa bb l r na nb) ∧ Below w.heap.size w w' := by
  unfold maxLen at hna hnb
  have H1 := hide hs
  have H2 := hide ht
  have H3 := hide hx
  have H4 := hide hy
  clear hs ht hx hy
  have HBAD := hide (fun W h h' hg => open_bad a b l r c d gl gr u um W h h' hl hr hg)
  have HGOOD := hide (fun W h h' hg => open_good a b l r c d gl gr u um W h h' hl hr hg)
  unfold uVal at HBAD HGOOD ⊢
  have HB0 := hide (ba w (.cells #[.int .i64 u.1, .int .i64 u.2.1, .int .i64 u.2.2.1, .int .i64 u.2.2.2, .int .i64 um.1, .int .i64 um.2.1, .int .i64 um.2.2.1, .int .i64 um.2.2.2] 32))
  obtain ⟨V, hV⟩ : ∃ V, Hid (V = worthV u um gl gr aa bb l r na nb) := ⟨_, hide rfl⟩
  rw [← hV.out]
  cases hg : goodB gl gr l r u um with
  | false =>
    have HV := hide (hV.out.trans (worthV_bad hg))
    go_enter Try.func39, Try.ntmps39
    go_wp2_with fail
    refine (HBAD.out _ (H1.out.below HB0.out) (H2.out.below HB0.out) hg).mono ?_
    rintro e W1 ⟨rfl, hb⟩
    have HB := hide (bt HB0.out hb)
    clear hb
    go_wp2_with fail
    go_ret3
    exact ⟨by rw [HV.out]; rfl, HB.out⟩
  | true =>
    have h32 : l ≤ 32 := (handsB_get (goodB_get hg).1.1).2
    have r32 : r ≤ 32 := (handsB_get (goodB_get hg).1.2).2
    go_enter Try.func39, Try.ntmps39
    go_wp2_with fail
    refine (HGOOD.out _ (H1.out.below HB0.out) (H2.out.below HB0.out) hg).mono ?_
    rintro e W1 ⟨T, rfl, hT, hb⟩
    have HT := hide hT
    have HB := hide (bt HB0.out hb)
    clear hb hT
    have c0 := HT.out.lefts
    have c1 := HT.out.rights
    by_cases hnl : na = l
    · subst hnl
      by_cases hnr : nb = r
      · subst hnr
        go_wp2_with fail
        refine (arePrices_is x na ca aa _ (H3.out.below HB.out) h32).mono ?_
        rintro e W2 ⟨rfl, rfl⟩
        cases hp : prsB aa na with
        | false =>
          have HV := hide (hV.out.trans (worthV_prs hg (by rw [hp]; rfl)))
          go_wp2_with fail
          go_ret3
          exact ⟨by rw [HV.out]; rfl, HB.out⟩
        | true =>
          go_wp2_with fail
          refine (arePrices_is y nb cb bb _ (H4.out.below HB.out) r32).mono ?_
          rintro e W2 ⟨rfl, rfl⟩
          cases hp2 : prsB bb nb with
          | false =>
            have HV := hide (hV.out.trans (worthV_prs hg (by rw [hp, hp2]; rfl)))
            go_wp2_with fail
            go_ret3
            exact ⟨by rw [HV.out]; rfl, HB.out⟩
          | true =>
            go_wp2_with fail
            refine (isProof_is T na nb ca cb x y aa bb _ _ HT.out (H3.out.below HB.out) (H4.out.below HB.out) h32 r32 hp hp2).mono ?_
            rintro e W2 ⟨rfl, hb⟩
            have HB2 := hide (bt HB.out hb)
            clear hb c0 c1
            cases hq : proofB (wth u um gl gr na nb) aa bb nb na with
            | false =>
              have HV := hide (hV.out.trans (worthV_not hg (by rw [hp, hp2]; rfl) hq))
              go_wp2_with fail
              go_ret3
              exact ⟨by rw [HV.out]; rfl, HB2.out⟩
            | true =>
              have HV := hide (hV.out.trans (worthV_yes hg (by rw [hp, hp2]; rfl) hq))
              have b1 := sumP_bd hp na (Nat.le_refl _)
              have b2 := sumP_bd hp2 nb (Nat.le_refl _)
              have HS1 := hide (sum_is x na ca aa W2 (H3.out.below HB2.out) h32 hp)
              have HS2 := hide (sum_is y nb cb bb W2 (H4.out.below HB2.out) r32 hp2)
              obtain ⟨X, hX⟩ : ∃ X, Hid (X = sumP aa na) := ⟨_, hide rfl⟩
              obtain ⟨Y, hY⟩ : ∃ Y, Hid (Y = sumP bb nb) := ⟨_, hide rfl⟩
              rw [← hX.out] at HS1 b1 HV
              rw [← hY.out] at HS2 b2 HV
              have hw1 : IntKind.i64.wrap (X + Y) = X + Y := IntWalk.i64_in _ (by omega)
              go_wp2_with fail
              refine HS1.out.mono ?_
              rintro e W3 ⟨rfl, rfl⟩
              go_wp2_with fail
              refine HS2.out.mono ?_
              rintro e W3 ⟨rfl, rfl⟩
              go_wp2_with fail
              go_ret3
              exact ⟨by rw [HV.out]; rfl, HB2.out⟩
      · have HV := hide (hV.out.trans (worthV_len hg (fun h => hnr h.2)))
        have hnr2 : ¬ (nb : Int) = (r : Int) := by omega
        go_wp2_with fail
        go_ret3
        exact ⟨by rw [HV.out]; rfl, HB.out⟩
    · have HV := hide (hV.out.trans (worthV_len hg (fun h => hnl h.1)))
      have hnl2 : ¬ (na : Int) = (l : Int) := by omega
      go_wp2_with fail
      go_ret3
      exact ⟨by rw [HV.out]; rfl, HB.out⟩
end Go.Proofs.Ytcakcdolijgjeaa
