/- Worth, of the reference. -/
import Derived.Test.YtcakcdolijgjeaaPx
set_option linter.unusedVariables false
namespace Go.Proofs.Ytcakcdolijgjeaa
open Go Go.RowKit Go.Ab
def cmb (aa bb : Nat → Int) (l i : Nat) : Int := if i < l then aa i else bb (i - l)
theorem ils_cmb (aa bb : Nat → Int) (l r i : Nat) (h : i < l + r) : (ils aa l ++ ils bb r)[i]? = some (.int .i64 (cmb aa bb l i)) := by
  unfold cmb
  by_cases e : i < l
  · rw [if_pos e, List.getElem?_append_left (by rw [ils_len]; exact e), ils_get _ _ _ e]
  · rw [if_neg e, List.getElem?_append_right (by rw [ils_len]; omega), ils_len, ils_get _ _ _ (by omega)]
theorem prsB_left {aa bb : Nat → Int} {l : Nat} : ∀ {k : Nat}, k ≤ l → prsB (cmb aa bb l) k = prsB aa k
  | 0, _ => rfl
  | k + 1, h => by
    unfold prsB
    rw [prsB_left (show k ≤ l by omega)]
    have : cmb aa bb l k = aa k := by unfold cmb; rw [if_pos (by omega)]
    rw [this]
theorem prsB_cmb {aa bb : Nat → Int} {l : Nat} : ∀ {r : Nat}, prsB (cmb aa bb l) (l + r) = (prsB aa l && prsB bb r)
  | 0 => by rw [Nat.add_zero, prsB_left (Nat.le_refl _)]; show _ = (prsB aa l && true); rw [Bool.and_true]
  | r + 1 => by
    show (prsB (cmb aa bb l) (l + r) && (decide (0 ≤ cmb aa bb l (l + r)) && decide (cmb aa bb l (l + r) ≤ 1000000000))) = (prsB aa l && (prsB bb r && (decide (0 ≤ bb r) && decide (bb r ≤ 1000000000))))
    have : cmb aa bb l (l + r) = bb r := by unfold cmb; rw [if_neg (by omega), show l + r - l = r by omega]
    rw [this, prsB_cmb, Bool.and_assoc]
theorem sumP_left {aa bb : Nat → Int} {l : Nat} : ∀ {k : Nat}, k ≤ l → sumP (cmb aa bb l) k = sumP aa k
  | 0, _ => rfl
  | k + 1, h => by
    unfold sumP
    rw [sumP_left (show k ≤ l by omega)]
    have : cmb aa bb l k = aa k := by unfold cmb; rw [if_pos (by omega)]
    rw [this]
theorem sumP_cmb {aa bb : Nat → Int} {l : Nat} : ∀ {r : Nat}, sumP (cmb aa bb l) (l + r) = sumP aa l + sumP bb r
  | 0 => by rw [Nat.add_zero, sumP_left (Nat.le_refl _)]; show _ = sumP aa l + 0; omega
  | r + 1 => by
    show sumP (cmb aa bb l) (l + r) + cmb aa bb l (l + r) = sumP aa l + (sumP bb r + bb r)
    have : cmb aa bb l (l + r) = bb r := by unfold cmb; rw [if_neg (by omega), show l + r - l = r by omega]
    rw [this, sumP_cmb]; omega
theorem cells_of_owns {w : World} {B n : Nat} {v : Value} {xs : List Value} {f : Nat → Int} (h : w.ownsRow B 3 1 v n xs) (hx : ∀ i, i < n → xs[i]? = some (.int .i64 (f i))) : ∃ a cap, v = .slice a n cap ∧ (n = 0 ∨ ∃ g, a = some ⟨g, 0, none⟩ ∧ ∀ i, i < n → w.cell? ⟨g, i, none⟩ = some (.int .i64 (f i))) := by
  obtain ⟨hl, ⟨rfl, rfl⟩ | ⟨g, cap, cur, rfl, hg, hc, hn, hm, hs, ht⟩⟩ := h
  · exact ⟨none, 0, rfl, .inl rfl⟩
  · refine ⟨_, cap, rfl, .inr ⟨g, rfl, fun i hi => ?_⟩⟩
    have h' : w.ownsRow B 3 1 (.slice (some ⟨g, 0, none⟩) n cap) n xs := ⟨hl, .inr ⟨g, cap, cur, rfl, hg, hc, hn, hm, hs, ht⟩⟩
    rw [h'.cellAt i (by omega), hx i hi]
set_option maxRecDepth 20000 in
set_option maxHeartbeats 8000000 in
theorem rworth_is (a b x y : Option Addr) (l c r d na ca nb cb : Nat) (gl gr : Nat → G4) (aa bb : Nat → Int) (u um : G4) (w : World) (hs : Gs w a l gl) (ht : Gs w b r gr) (hx : Ls w x na aa) (hy : Ls w y nb bb) (hl : l ≤ maxLen) (hr : r ≤ maxLen) (hna : na ≤ maxLen) (hnb : nb ≤ maxLen) :
    Calls Try.prog 38 #[.slice a l c, .slice b r d, uVal u um, .slice x na ca, .slice y nb cb] w fun e w' => e = .returned (worthV u um gl gr aa bb l r na nb) ∧ Below w.heap.size w w' := by
  obtain ⟨i3, hi3, hz3, hs3, hb3⟩ := info_parts Try.info3
  have H1 := hide hs
  have H2 := hide ht
  have H3 := hide hx
  have H4 := hide hy
  clear hs ht hx hy
  have K36 := hide (fun W h h' => good_is a b l r c d gl gr u um W h h' hl hr)
  have K67 := hide (fun W h h' hg => table_is a b l r c d gl gr u um W h h' hg)
  unfold maxLen at hl hr hna hnb
  unfold uVal at K36 K67 ⊢
  have HX := hide (bx8_new w u.1 u.2.1 u.2.2.1 u.2.2.2 um.1 um.2.1 um.2.2.1 um.2.2.2 25)
  have HB0 := hide (ba w (.cells #[.int .i64 u.1, .int .i64 u.2.1, .int .i64 u.2.2.1, .int .i64 u.2.2.2, .int .i64 um.1, .int .i64 um.2.1, .int .i64 um.2.2.1, .int .i64 um.2.2.2] 25))
  obtain ⟨V, hV⟩ : ∃ V, Hid (V = worthV u um gl gr aa bb l r na nb) := ⟨_, hide rfl⟩
  rw [← hV.out]
  go_enter Try.func38, Try.ntmps38
  go_wp2_with fail
  refine (K36.out _ (H1.out.below HB0.out) (H2.out.below HB0.out)).mono ?_
  rintro e W1 ⟨rfl, hb⟩
  have HB := hide (bt HB0.out hb)
  have HX1 := hide (HX.out.below hb)
  clear hb HX HB0
  cases hg : goodB gl gr l r u um with
  | false =>
    have HV := hide (hV.out.trans (worthV_bad hg))
    go_wp2_with fail
    go_ret3
    exact ⟨by rw [HV.out]; rfl, HB.out⟩
  | true =>
    have h32 : l ≤ 32 := (handsB_get (goodB_get hg).1.1).2
    have r32 : r ≤ 32 := (handsB_get (goodB_get hg).1.2).2
    by_cases hnl : na = l
    · subst hnl
      by_cases hnr : nb = r
      · subst hnr
        have HO : Hid ((W1.alloc (.cells #[] 3)).ownsRow W1.heap.size 3 1 (.slice (some ⟨W1.heap.size, 0, none⟩) 0 0) 0 []) := hide (World.ownsRow_lit W1 #[] 0 (Nat.le_refl _) (by unfold maxLen; omega) rfl)
        have HBa := hide (ba W1 (.cells #[] 3))
        go_wp2_with (at_builtin; refine append_ls rfl _ _ rfl i3 hi3 hz3 hs3 hb3 W1.heap.size _ 0 [] rfl HO.out x na ca aa rfl ?g1 ?g2 ?g3 ?_)
        case g1 => exact H3.out.below (bt HB.out HBa.out)
        case g2 => omega
        case g3 => simp
        intro v1 w2 hown1 hgrow1
        have HB2 := hide (HBa.out.grown hgrow1 (by simp) (fun q hq => (HO.out.lt q hq).1))
        have HO1 : Hid (w2.ownsRow W1.heap.size 3 1 v1 na (ils aa na)) := hide (by simpa using hown1)
        clear hown1 hgrow1 HO HBa
        go_wp2_with (at_builtin; refine append_ls rfl _ _ rfl i3 hi3 hz3 hs3 hb3 W1.heap.size _ na (ils aa na) rfl HO1.out y nb cb bb rfl ?g1 ?g2 ?g3 ?_)
        case g1 => exact H4.out.below (bt HB.out HB2.out)
        case g2 => omega
        case g3 => exact HB2.out.size
        intro v2 w3 hown2 hgrow2
        have HB3 := hide (HB2.out.grown hgrow2 HB2.out.size (fun q hq => (HO1.out.lt q hq).1))
        obtain ⟨a2, cap2, rfl, hcells⟩ := cells_of_owns hown2 (fun i hi => ils_cmb aa bb na nb i hi)
        have HCL := hide hcells
        have HBB := hide (bt HB.out HB3.out)
        have HX3 := hide (HX1.out.below HB3.out)
        clear hown2 hgrow2 HO1 HB2 hcells
        have HMP : Hid (prsB (cmb aa bb na) (na + nb) = (prsB aa na && prsB bb nb)) := hide prsB_cmb
        have HMS : Hid (sumP (cmb aa bb na) (na + nb) = sumP aa na + sumP bb nb) := hide sumP_cmb
        have hM64 : na + nb ≤ 64 := by omega
        generalize na + nb = M at *
        go_wp2_with fail
        go_loop [13, 43] (fun s i => ∃ k : Nat, k ≤ M ∧ i = .int .i64 k ∧ ∃ S : Int, s = .int .i64 S ∧ Hid (S = sumP (cmb aa bb na) k) ∧ Hid (prsB (cmb aa bb na) k = true)) (fun _ i => M - (intOf i).toNat)
        case atStart => exact ⟨0, Nat.zero_le _, rfl, 0, rfl, hide rfl, hide rfl⟩
        case round =>
          obtain ⟨k, hk, rfl, S, rfl, HS, HK⟩ := hrel
          by_cases hlt : k < M
          · obtain ⟨g, rfl, hc⟩ : ∃ g, a2 = some ⟨g, 0, none⟩ ∧ ∀ i, i < M → w3.cell? ⟨g, i, none⟩ = some (.int .i64 (cmb aa bb na i)) := by
              rcases HCL.out with h | h
              · omega
              · exact h
            have ck := hc k hlt
            clear hc
            have b1 := sumP_bd HK.out k (Nat.le_refl _)
            rw [← HS.out] at b1
            obtain ⟨q, hq⟩ : ∃ q, Hid (q = cmb aa bb na k) := ⟨_, hide rfl⟩
            rw [← hq.out] at ck
            by_cases e1 : q < 0
            · have HV := hide (hV.out.trans (worthV_prs hg (HMP.out.symm.trans (prsB_no hlt (by rw [← hq.out]; omega)))))
              go_wp2_with fail
              go_ret3
              exact ⟨by rw [HV.out]; rfl, HBB.out⟩
            · by_cases e2 : 1000000000 < q
              · have HV := hide (hV.out.trans (worthV_prs hg (HMP.out.symm.trans (prsB_no hlt (by rw [← hq.out]; omega)))))
                go_wp2_with fail
                go_ret3
                exact ⟨by rw [HV.out]; rfl, HBB.out⟩
              · have HK2 := hide (prsB_yes HK.out (by rw [← hq.out]; omega) (by rw [← hq.out]; omega))
                have HS2 : Hid (S + q = sumP (cmb aa bb na) (k + 1)) := hide (by show S + q = sumP (cmb aa bb na) k + cmb aa bb na k; rw [HS.out, hq.out])
                have hw1 : IntKind.i64.wrap (S + q) = S + q := IntWalk.i64_in _ (by omega)
                go_wp2_with fail
                go_round
                case rel => exact ⟨k + 1, by omega, by go_num, _, rfl, HS2, HK2⟩
                case measure => simp [intOf]; omega
          · obtain rfl : k = M := by omega
            have hp := HMP.out.symm.trans HK.out
            have hp2 := hp
            simp only [Bool.and_eq_true] at hp2
            have HPA := hide hp2.1
            have HPB := hide hp2.2
            have HSS : Hid (S = sumP aa na + sumP bb nb) := hide (HS.out.trans HMS.out)
            have HPP := hide hp
            clear hp hp2
            obtain ⟨⟨⟨q0, q1⟩, q2, q3⟩, ⟨r0, r1⟩, r2, r3⟩ := HX3.out
            go_wp2_with fail
            refine (K67.out _ (H1.out.below HBB.out) (H2.out.below HBB.out) hg).mono ?_
            rintro e W4 ⟨t, cap, rfl, hT, hb⟩
            have HT := hide hT
            have HB4 := hide (bt HBB.out hb)
            clear hb hT q0 q1 q2 q3 r0 r1 r2 r3
            go_wp2_with fail
            go_loopw [62] (fun i wr => ∃ (wq : World) (k : Nat), wq = wr ∧ k ≤ na ∧ i = .int .i64 k ∧ Hid (proofB (wth u um gl gr na nb) aa bb nb k = true) ∧ Below W4.heap.size W4 wr) (fun i _ => na - (intOf i).toNat)
            case atStart => exact ⟨_, 0, rfl, Nat.zero_le _, rfl, hide rfl, Below.refl _ _⟩
            case round =>
              obtain ⟨wr, k, rfl, hk, rfl, HK1, hB⟩ := hrel
              have HW := hide hB
              clear hB
              by_cases hlt2 : k < na
              · obtain ⟨g, rb, rfl, htr⟩ : ∃ (g : Nat) (rb : Nat → Nat), t = some ⟨g, 0, none⟩ ∧ ∀ i, i < na → W4.cell? ⟨g, i, none⟩ = some (.slice (some ⟨rb i, 0, none⟩) nb nb) ∧ ∀ j, j < nb → W4.cell? ⟨rb i, j, none⟩ = some (.int .i64 (prc u um (gl i) (gr j))) := by
                  rcases HT.out with h | h
                  · omega
                  · exact h
                have tk := kc HW.out (htr k hlt2).1
                have HTR := hide (htr k hlt2).2
                clear htr
                obtain ⟨Rk, hRk⟩ : ∃ R, Hid (R = rb k) := ⟨_, hide rfl⟩
                rw [← hRk.out] at tk HTR
                go_wp2_with fail
                go_loopw [69] (fun i wx => ∃ (wq : World) (j : Nat), wq = wx ∧ j ≤ nb ∧ i = .int .i64 j ∧ Hid (rowP (wth u um gl gr na nb) aa bb k j = true) ∧ Below W4.heap.size W4 wx) (fun i _ => nb - (intOf i).toNat)
                case atStart => exact ⟨_, 0, rfl, Nat.zero_le _, rfl, hide rfl, HW.out⟩
                case round =>
                  clear HW tk
                  obtain ⟨wx, j, rfl, hj, rfl, HJ, hB⟩ := hrel
                  have HW := hide hB
                  clear hB
                  by_cases hlj : j < nb
                  · obtain ⟨a1, off, rfl, hc⟩ : ∃ a1 off, x = some ⟨a1, off, none⟩ ∧ LsAt w a1 off na aa := by
                      rcases H3.out with h | h
                      · omega
                      · exact h
                    obtain ⟨b1, of2, rfl, hd⟩ : ∃ b1 off, y = some ⟨b1, off, none⟩ ∧ LsAt w b1 off nb bb := by
                      rcases H4.out with h | h
                      · omega
                      · exact h
                    have HBw := hide (bt HB4.out HW.out)
                    have ck := kc HBw.out (hc k hlt2).1
                    have cj := kc HBw.out (hd j hlj).1
                    have cp := kc HW.out (HTR.out j hlj)
                    clear hc hd
                    have b2 := prsB_get HPA.out k hlt2
                    have b3 := prsB_get HPB.out j hlj
                    have hpb := prc_in (m := um) (goodB_get hg).2.1 (allG_get (handsB_get (goodB_get hg).1.1).1 k hlt2) (allG_get (handsB_get (goodB_get hg).1.2).1 j hlj)
                    have HWT : Hid (wth u um gl gr na nb k j = if 0 ≤ prc u um (gl k) (gr j) then 1000000000 - prc u um (gl k) (gr j) else 0) := hide (by unfold wth; by_cases h : 0 ≤ prc u um (gl k) (gr j) <;> simp [h, hlt2, hlj])
                    obtain ⟨p, hp⟩ : ∃ p, Hid (p = prc u um (gl k) (gr j)) := ⟨_, hide rfl⟩
                    obtain ⟨xa, hxa⟩ : ∃ x, Hid (x = aa k) := ⟨_, hide rfl⟩
                    obtain ⟨yb, hyb⟩ : ∃ y, Hid (y = bb j) := ⟨_, hide rfl⟩
                    rw [← hp.out] at cp hpb HWT
                    rw [← hxa.out] at ck b2
                    rw [← hyb.out] at cj b3
                    have hw1 : IntKind.i64.wrap (xa + yb) = xa + yb := IntWalk.i64_in _ (by omega)
                    have hw2 : IntKind.i64.wrap (1000000000 - p) = 1000000000 - p := IntWalk.i64_in _ (by omega)
                    by_cases e1 : 0 ≤ p
                    · have d1 : decide (0 ≤ p) = true := decide_eq_true e1
                      by_cases e2 : xa + yb < 1000000000 - p
                      · have d2 : decide (xa + yb < 1000000000 - p) = true := decide_eq_true e2
                        have HV := hide (hV.out.trans (worthV_not hg HPP.out (proofB_no hlt2 hlj (by rw [HWT.out, if_pos e1, ← hxa.out, ← hyb.out]; omega))))
                        go_wp2_with fail
                        go_quiet (fail)
                        go_wp2_with fail
                        go_ret3
                        exact ⟨by rw [HV.out]; rfl, HBw.out.trans (bdn _ _ _)⟩
                      · have d2 : decide (xa + yb < 1000000000 - p) = false := decide_eq_false e2
                        have HJ2 : Hid (rowP (wth u um gl gr na nb) aa bb k (j + 1) = true) := hide (by unfold rowP; rw [HJ.out, HWT.out, if_pos e1, ← hxa.out, ← hyb.out, decide_eq_true (by omega)]; rfl)
                        go_wp2_with fail
                        go_quiet (fail)
                        go_wp2_with fail
                        go_roundw
                        case rel => exact ⟨_, j + 1, rfl, by omega, by go_num, HJ2, HW.out.trans (bdn _ _ _)⟩
                        case measure => simp [intOf]; omega
                    · have d1 : decide (0 ≤ p) = false := decide_eq_false e1
                      have HJ2 : Hid (rowP (wth u um gl gr na nb) aa bb k (j + 1) = true) := hide (by unfold rowP; rw [HJ.out, HWT.out, if_neg e1, ← hxa.out, ← hyb.out, decide_eq_true (by omega)]; rfl)
                      go_wp2_with fail
                      go_quiet (fail)
                      go_wp2_with fail
                      go_roundw
                      case rel => exact ⟨_, j + 1, rfl, by omega, by go_num, HJ2, HW.out.trans (bdn _ _ _)⟩
                      case measure => simp [intOf]; omega
                  · obtain rfl : j = nb := by omega
                    have HK2 : Hid (proofB (wth u um gl gr na j) aa bb j (k + 1) = true) := hide (by unfold proofB; rw [HK1.out, HJ.out]; rfl)
                    go_wp2_with fail
                    go_roundw
                    case rel => exact ⟨_, k + 1, rfl, by omega, by go_num, HK2, HW.out⟩
                    case measure => simp [intOf]; omega
              · obtain rfl : k = na := by omega
                have HV := hide (hV.out.trans (worthV_yes hg HPP.out HK1.out))
                rw [← HSS.out] at HV
                go_wp2_with fail
                go_ret3
                exact ⟨by rw [HV.out]; rfl, bt HB4.out HW.out⟩
      · have HV := hide (hV.out.trans (worthV_len hg (fun h => hnr h.2)))
        have hnr2 : ¬ (nb : Int) = (r : Int) := by omega
        go_wp2_with fail
        go_ret3
        exact ⟨by rw [HV.out]; rfl, HB.out⟩
    · have HV := hide (hV.out.trans (worthV_len hg (fun h => hnl h.1)))
      have hnl2 : ¬ (na : Int) = (l : Int) := by omega
      go_wp2_with fail
      go_ret3
      exact ⟨by rw [HV.out]; rfl, HB.out⟩
end Go.Proofs.Ytcakcdolijgjeaa
