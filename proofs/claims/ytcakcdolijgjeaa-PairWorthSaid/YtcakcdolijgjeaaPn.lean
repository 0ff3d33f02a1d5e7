/- Pairs, of the reference. -/
import Derived.Test.YtcakcdolijgjeaaPm
import Derived.Deep.RegionHeld3
set_option linter.unusedVariables false
namespace Go.Proofs.Ytcakcdolijgjeaa
open Go Go.RowKit Go.Ab
theorem good_nil (gs gr : Nat → G4) (l : Nat) (u um : G4) : goodB gs gr l 0 u um = goodB gs gs l l u um := by
  unfold goodB
  have : handsB gr 0 = true := rfl
  rw [this]
  cases handsB gs l <;> simp
/-- what the test of a glove of a heap reads -/
def Rd (w0 W : World) (b1 off k J bg og : Nat) (p : Int) (u um x y : G4) : Prop :=
  (W.cell? ⟨b1, off + J, none⟩ = some (.int .i64 p)) ∧ Bx8 W w0.heap.size u.1 u.2.1 u.2.2.1 u.2.2.2 um.1 um.2.1 um.2.2.1 um.2.2.2 ∧
  ((W.cell? ⟨bg, og + k * 4, none⟩ = some (.int .i64 x.1) ∧ W.cell? ⟨bg, og + k * 4 + 1, none⟩ = some (.int .i64 x.2.1)) ∧ (W.cell? ⟨bg, og + k * 4 + 2, none⟩ = some (.int .i64 x.2.2.1) ∧ W.cell? ⟨bg, og + k * 4 + 3, none⟩ = some (.int .i64 x.2.2.2))) ∧
  ((W.cell? ⟨bg, og + J * 4, none⟩ = some (.int .i64 y.1) ∧ W.cell? ⟨bg, og + J * 4 + 1, none⟩ = some (.int .i64 y.2.1)) ∧ (W.cell? ⟨bg, og + J * 4 + 2, none⟩ = some (.int .i64 y.2.2.1) ∧ W.cell? ⟨bg, og + J * 4 + 3, none⟩ = some (.int .i64 y.2.2.2))) ∧ Below w0.heap.size w0 W
theorem bdn (B : Nat) (w : World) (n : Nat) : Below B w (w.drewN n) := ⟨rfl, rfl, rfl, Nat.le_refl _, fun _ _ => rfl⟩
theorem Rd.below {w0 W W' : World} {b1 off k J bg og : Nat} {p : Int} {u um x y : G4} (h : Rd w0 W b1 off k J bg og p u um x y) (hb : Below W.heap.size W W') : Rd w0 W' b1 off k J bg og p u um x y :=
  ⟨kc hb h.1, h.2.1.below hb, ⟨⟨kc hb h.2.2.1.1.1, kc hb h.2.2.1.1.2⟩, kc hb h.2.2.1.2.1, kc hb h.2.2.1.2.2⟩, ⟨⟨kc hb h.2.2.2.1.1.1, kc hb h.2.2.2.1.1.2⟩, kc hb h.2.2.2.1.2.1, kc hb h.2.2.2.1.2.2⟩, bt h.2.2.2.2 hb⟩
theorem rd_get {w W : World} {b1 off k J bg og : Nat} {p : Int} {u um : G4} {gs : Nat → G4} (H : Hid (Rd w W b1 off k J bg og p u um (gs k) (gs J))) : (W.cell? ⟨b1, off + J, none⟩ = some (.int .i64 p)) ∧ (((W.cell? ⟨w.heap.size, 0, none⟩ = some (.int .i64 u.1) ∧ W.cell? ⟨w.heap.size, 1, none⟩ = some (.int .i64 u.2.1)) ∧ (W.cell? ⟨w.heap.size, 2, none⟩ = some (.int .i64 u.2.2.1) ∧ W.cell? ⟨w.heap.size, 3, none⟩ = some (.int .i64 u.2.2.2))) ∧ (W.cell? ⟨w.heap.size, 4, none⟩ = some (.int .i64 um.1) ∧ W.cell? ⟨w.heap.size, 5, none⟩ = some (.int .i64 um.2.1)) ∧ (W.cell? ⟨w.heap.size, 6, none⟩ = some (.int .i64 um.2.2.1) ∧ W.cell? ⟨w.heap.size, 7, none⟩ = some (.int .i64 um.2.2.2))) ∧
  ((W.cell? ⟨bg, og + k * 4, none⟩ = some (.int .i64 (gs k).1) ∧ W.cell? ⟨bg, og + k * 4 + 1, none⟩ = some (.int .i64 (gs k).2.1)) ∧ (W.cell? ⟨bg, og + k * 4 + 2, none⟩ = some (.int .i64 (gs k).2.2.1) ∧ W.cell? ⟨bg, og + k * 4 + 3, none⟩ = some (.int .i64 (gs k).2.2.2))) ∧
  ((W.cell? ⟨bg, og + J * 4, none⟩ = some (.int .i64 (gs J).1) ∧ W.cell? ⟨bg, og + J * 4 + 1, none⟩ = some (.int .i64 (gs J).2.1)) ∧ (W.cell? ⟨bg, og + J * 4 + 2, none⟩ = some (.int .i64 (gs J).2.2.1) ∧ W.cell? ⟨bg, og + J * 4 + 3, none⟩ = some (.int .i64 (gs J).2.2.2))) ∧ Hid (Rd w W b1 off k J bg og p u um (gs k) (gs J)) := ⟨H.out.1, H.out.2.1, H.out.2.2.1, H.out.2.2.2.1, H⟩
set_option maxRecDepth 20000 in
set_option maxHeartbeats 1000000 in
theorem rpairs_is (a b : Option Addr) (l c n d : Nat) (gs : Nat → G4) (mm : Nat → Int) (u um : G4) (w : World) (hs : Gs w a l gs) (hl : l ≤ maxLen) (hm : Ls w b n mm) (hn : n ≤ maxLen) :
    Calls Try.prog 51 #[.slice a l c, uVal u um, .slice b n d] w fun e w' => e = .returned (pairsV u um gs mm l n) ∧ Below w.heap.size w w' := by
  have H1 := hide hs
  have H2 := hide hm
  clear hs hm
  have HG := hide (fun W h => good_is a none l 0 c 0 gs gs u um W h (.inl rfl) hl (by simp [maxLen]))
  rw [good_nil] at HG
  unfold maxLen at hn hl
  unfold uVal at HG ⊢
  have H8 := hide (bx8_new w u.1 u.2.1 u.2.2.1 u.2.2.2 um.1 um.2.1 um.2.2.1 um.2.2.2 25)
  have HB0 := hide (ba w (.cells #[.int .i64 u.1, .int .i64 u.2.1, .int .i64 u.2.2.1, .int .i64 u.2.2.2, .int .i64 um.1, .int .i64 um.2.1, .int .i64 um.2.2.1, .int .i64 um.2.2.2] 25))
  obtain ⟨V, hV⟩ : ∃ V, Hid (V = pairsV u um gs mm l n) := ⟨_, hide rfl⟩
  rw [← hV.out]
  cases hg : goodB gs gs l l u um with
  | false =>
    have HV := hide (hV.out.trans (pairsV_bad hg))
    rw [hg] at HG
    go_enter Try.func51, Try.ntmps51
    go_wp2_with fail
    refine (HG.out _ (H1.out.below HB0.out)).mono ?_
    rintro e W1 ⟨rfl, hb⟩
    have HB := hide (bt HB0.out hb)
    clear hb
    go_wp2_with fail
    go_ret2
    exact ⟨by rw [HV.out]; rfl, HB.out⟩
  | true =>
    rw [hg] at HG
    have h32 : l ≤ 32 := (handsB_get (goodB_get hg).1.1).2
    by_cases hnl : n = l
    · subst hnl
      go_enter Try.func51, Try.ntmps51
      go_wp2_with fail
      refine (HG.out _ (H1.out.below HB0.out)).mono ?_
      rintro e W1 ⟨rfl, hb⟩
      have HB := hide (bt HB0.out hb)
      have HX := hide (H8.out.below hb)
      clear hb H8 HB0
      go_wp2_with fail
      go_loopw [8, 22] (fun s i wr => ∃ (wq : World) (k : Nat), wq = wr ∧ k ≤ n ∧ i = .int .i64 k ∧ s = .int .i64 (cntM mm k) ∧ Hid (mtB u um gs mm n k = true) ∧ Bx8 wr w.heap.size u.1 u.2.1 u.2.2.1 u.2.2.2 um.1 um.2.1 um.2.2.1 um.2.2.2 ∧ Below w.heap.size w wr) (fun _ i _ => n - (intOf i).toNat)
      case atStart => exact ⟨_, 0, rfl, Nat.zero_le _, rfl, rfl, hide rfl, HX.out, HB.out⟩
      case round =>
        clear HX HB
        obtain ⟨wr, k, rfl, hk, rfl, rfl, HK, hX, hB⟩ := hrel
        have HX := hide hX
        have HB := hide hB
        clear hX hB
        have hck := cntM_le mm k
        by_cases hlt : k < n
        · obtain ⟨b1, off, rfl, hc⟩ : ∃ b1 off, b = some ⟨b1, off, none⟩ ∧ LsAt w b1 off n mm := by
            rcases H2.out with h | h
            · omega
            · exact h
          obtain ⟨bg, og, rfl, hgs⟩ : ∃ bg og, a = some ⟨bg, og, none⟩ ∧ GsAt w bg og n gs := by
            rcases H1.out with h | h
            · omega
            · exact h
          have HC := hide hc
          have HGS := hide hgs
          have ck := kc HB.out (hc k hlt).1
          clear hc hgs
          obtain ⟨q, hq⟩ : ∃ q, Hid (q = mm k) := ⟨_, hide rfl⟩
          rw [← hq.out] at ck
          obtain ⟨C, hC⟩ : ∃ C, Hid (C = cntM mm k) := ⟨_, hide rfl⟩
          rw [← hC.out] at hck ⊢
          by_cases e1 : q = -1
          · have HO : Hid (okI u um gs mm n k = true) := hide (okI_none (by rw [← hq.out]; exact e1))
            have HN : Hid (cntM mm (k + 1) = C) := hide (by unfold cntM; rw [← hq.out, if_pos e1, hC.out, Nat.add_zero])
            go_wp2_with fail
            go_roundw
            case rel => exact ⟨_, k + 1, rfl, by omega, by go_num, by rw [HN.out], hide (mtB_yes HK.out HO.out), HX.out, HB.out⟩
            case measure => simp [intOf]; omega
          · have HN : Hid (cntM mm (k + 1) = C + 1) := hide (by unfold cntM; rw [← hq.out, if_neg e1, hC.out])
            by_cases e2 : q < 0
            · have HV := hide (hV.out.trans (pairsV_form hg hlt (okI_out (by rw [← hq.out]; exact e1) (by rw [← hq.out]; omega))))
              go_wp2_with fail
              go_quiet (fail)
              go_wp2_with fail
              go_ret2
              exact ⟨by rw [HV.out]; rfl, HB.out.trans (bdn _ _ _)⟩
            · have d2 : decide (q < 0) = false := decide_eq_false e2
              by_cases e3 : (n : Int) ≤ q
              · have HV := hide (hV.out.trans (pairsV_form hg hlt (okI_out (by rw [← hq.out]; exact e1) (by rw [← hq.out]; omega))))
                go_wp2_with fail
                go_quiet (fail)
                go_wp2_with fail
                go_ret2
                exact ⟨by rw [HV.out]; rfl, HB.out.trans (bdn _ _ _)⟩
              · obtain ⟨J, hJq⟩ : ∃ J : Nat, q.toNat = J := ⟨_, rfl⟩
                have hqJ : Hid (q = (J : Int)) := hide (by omega)
                have hJ : J < n := by omega
                have d3 : decide ((n : Int) ≤ q) = false := decide_eq_false e3
                have g0 : 0 ≤ q := by omega
                have g1 : q < (n : Int) := by omega
                have cJ := kc HB.out (HC.out J hJ).1
                obtain ⟨p, hpp⟩ : ∃ p, Hid (p = mm J) := ⟨_, hide rfl⟩
                rw [← hpp.out] at cJ
                by_cases hqk : q = (k : Int)
                · have HV := hide (hV.out.trans (pairsV_form hg hlt (okI_out (by rw [← hq.out]; exact e1) (by rw [← hq.out]; omega))))
                  have d4 : decide (q = (k : Int)) = true := decide_eq_true hqk
                  have b4 : (q == (k : Int)) = true := by simp [hqk]
                  clear hqk d4
                  go_wp2_with fail
                  go_quiet (fail)
                  go_wp2_with fail
                  go_ret2
                  exact ⟨by rw [HV.out]; rfl, HB.out.trans (bdn _ _ _)⟩
                · have HI := hide (okI_in (u := u) (um := um) (gs := gs) (mm := mm) (l := n) (hq.out.symm.trans hqJ.out) hJ (fun e => hqk (by rw [e, ← hqJ.out])))
                  have d4 : decide (q = (k : Int)) = false := decide_eq_false hqk
                  have b4 : (q == (k : Int)) = false := by simp [hqk]
                  clear hqk d4
                  by_cases hpk : p = (k : Int)
                  · have d5 : decide (p = (k : Int)) = true := decide_eq_true hpk
                    have b5 : (p == (k : Int)) = true := by simp [hpk]
                    have n5 : (p != (k : Int)) = false := by simp [hpk]
                    have HI2 : Hid (okI u um gs mm n k = decide (0 ≤ prc u um (gs k) (gs J))) := hide (by rw [HI.out, ← hpp.out, decide_eq_true hpk, Bool.and_true])
                    clear hpk d5
                    obtain ⟨⟨h1, h2⟩, h3, h4⟩ := goodB_get hg
                    have K48 := hide (fun W => price_is u um (gs k) (gs J) W h3 h4 (allG_get (handsB_get h1).1 k hlt) (allG_get (handsB_get h1).1 J hJ))
                    clear h1 h2 h3 h4
                    unfold uVal gVal at K48
                    have HR : Hid (Rd w wr b1 off k J bg og p u um (gs k) (gs J)) := hide ⟨cJ, HX.out, ⟨⟨kc HB.out (HGS.out k hlt).1.1, kc HB.out (HGS.out k hlt).1.2⟩, kc HB.out (HGS.out k hlt).2.1, kc HB.out (HGS.out k hlt).2.2⟩, ⟨⟨kc HB.out (HGS.out J hJ).1.1, kc HB.out (HGS.out J hJ).1.2⟩, kc HB.out (HGS.out J hJ).2.1, kc HB.out (HGS.out J hJ).2.2⟩, HB.out⟩
                    have HRd := hide (HR.out.below (Below.refl _ _).drew)
                    obtain ⟨P, hP⟩ : ∃ P, Hid (P = prc u um (gs k) (gs J)) := ⟨_, hide rfl⟩
                    rw [← hP.out] at K48 HI2
                    have f := rd_get HR
                    go_split_ands
                    go_wp2_with fail
                    go_region_held3 (fun W => (W.cell? ⟨b1, off + J, none⟩ = some (.int .i64 p)) ∧ (((W.cell? ⟨w.heap.size, 0, none⟩ = some (.int .i64 u.1) ∧ W.cell? ⟨w.heap.size, 1, none⟩ = some (.int .i64 u.2.1)) ∧ (W.cell? ⟨w.heap.size, 2, none⟩ = some (.int .i64 u.2.2.1) ∧ W.cell? ⟨w.heap.size, 3, none⟩ = some (.int .i64 u.2.2.2))) ∧ (W.cell? ⟨w.heap.size, 4, none⟩ = some (.int .i64 um.1) ∧ W.cell? ⟨w.heap.size, 5, none⟩ = some (.int .i64 um.2.1)) ∧ (W.cell? ⟨w.heap.size, 6, none⟩ = some (.int .i64 um.2.2.1) ∧ W.cell? ⟨w.heap.size, 7, none⟩ = some (.int .i64 um.2.2.2))) ∧
  ((W.cell? ⟨bg, og + k * 4, none⟩ = some (.int .i64 (gs k).1) ∧ W.cell? ⟨bg, og + k * 4 + 1, none⟩ = some (.int .i64 (gs k).2.1)) ∧ (W.cell? ⟨bg, og + k * 4 + 2, none⟩ = some (.int .i64 (gs k).2.2.1) ∧ W.cell? ⟨bg, og + k * 4 + 3, none⟩ = some (.int .i64 (gs k).2.2.2))) ∧
  ((W.cell? ⟨bg, og + J * 4, none⟩ = some (.int .i64 (gs J).1) ∧ W.cell? ⟨bg, og + J * 4 + 1, none⟩ = some (.int .i64 (gs J).2.1)) ∧ (W.cell? ⟨bg, og + J * 4 + 2, none⟩ = some (.int .i64 (gs J).2.2.1) ∧ W.cell? ⟨bg, og + J * 4 + 3, none⟩ = some (.int .i64 (gs J).2.2.2))) ∧ Hid (Rd w W b1 off k J bg og p u um (gs k) (gs J)))
                      ((go_split_ands; refine rd_get ?_; first | (with_reducible exact HR) | (with_reducible exact HRd) | (with_reducible exact hide (Rd.below (Hid.out ‹_›) hbw))))
                      ((first
                        | (go_at_call 48; (with_reducible refine (K48.out _).mono ?_); rintro e w' ⟨rfl, hbw⟩)))
                    go_split_ands
                    have HRx : Hid (Rd w w' b1 off k J bg og p u um (gs k) (gs J)) := ‹_›
                    clear hbw HR HRd
                    have HX2 := hide HRx.out.2.1
                    have HB2 := hide HRx.out.2.2.2.2
                    by_cases hP0 : P < 0
                    · have HV := hide (hV.out.trans (pairsV_form hg hlt (by rw [HI2.out]; exact decide_eq_false (by omega))))
                      go_wp2_with fail
                      go_ret2
                      exact ⟨by rw [HV.out]; rfl, HB2.out⟩
                    · have HO : Hid (okI u um gs mm n k = true) := hide (by rw [HI2.out]; exact decide_eq_true (by omega))
                      go_wp2_with fail
                      go_roundw
                      case rel => exact ⟨_, k + 1, rfl, by omega, by go_num, by rw [HN.out]; go_num, hide (mtB_yes HK.out HO.out), HX2.out, HB2.out⟩
                      case measure => simp [intOf]; omega
                  · have HV := hide (hV.out.trans (pairsV_form hg hlt (by rw [HI.out, ← hpp.out, decide_eq_false hpk, Bool.and_false])))
                    have d5 : decide (p = (k : Int)) = false := decide_eq_false hpk
                    have b5 : (p == (k : Int)) = false := by simp [hpk]
                    have n5 : (p != (k : Int)) = true := by simp [hpk]
                    clear hpk d5
                    go_wp2_with fail
                    go_quiet (fail)
                    go_wp2_with fail
                    go_ret2
                    exact ⟨by rw [HV.out]; rfl, HB.out.trans (bdn _ _ _)⟩
        · obtain rfl : k = n := by omega
          have HV := hide (hV.out.trans (pairsV_ok hg HK.out))
          obtain ⟨C, hC⟩ : ∃ C, Hid (C = cntM mm k) := ⟨_, hide rfl⟩
          rw [← hC.out] at hck HV ⊢
          go_wp2_with fail
          go_ret2
          exact ⟨by rw [HV.out]; rfl, HB.out⟩
    · have HV := hide (hV.out.trans (pairsV_len hg hnl))
      have hnl2 : ¬ (n : Int) = (l : Int) := by omega
      go_enter Try.func51, Try.ntmps51
      go_wp2_with fail
      refine (HG.out _ (H1.out.below HB0.out)).mono ?_
      rintro e W1 ⟨rfl, hb⟩
      have HB := hide (bt HB0.out hb)
      clear hb
      go_wp2_with fail
      go_ret2
      exact ⟨by rw [HV.out]; rfl, HB.out⟩
end Go.Proofs.Ytcakcdolijgjeaa
