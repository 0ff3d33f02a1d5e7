/- weighed and Weigh, of the reference. -/
import Derived.Test.YtcakcdolijgjeaaPu
set_option linter.unusedVariables false
namespace Go.Proofs.Ytcakcdolijgjeaa
open Go Go.RowKit Go.Ab
theorem Try.info4 : (Try.prog.info? 4).map (fun i => (i.zero, i.size, i.bytes)) = some (some (.bool false), 1, 1) := by kernel_rfl
theorem costM_bdk {u um : G4} {gl gr : Nat → G4} {l r : Nat} {mm : Nat → Int} (hg : goodB gl gr l r u um = true) : ∀ k, k ≤ l → prB (alw u um gl gr) r mm k = true → 0 ≤ costM u um gl gr mm k ∧ costM u um gl gr mm k ≤ (k : Int) * 4000000
  | 0, _, _ => ⟨Int.le_refl _, by unfold costM; omega⟩
  | k + 1, hk, hp => by
    have hp' := hp
    unfold prB at hp'
    simp only [Bool.and_eq_true] at hp'
    have ih := costM_bdk hg k (by omega) hp'.1
    by_cases e : mm k = -1
    · rw [costM_none e]; omega
    · obtain ⟨J, hJ, hJr, _, ha⟩ := pair_at hp (show k < k + 1 by omega) e
      rw [costM_in hJ]
      obtain ⟨⟨h1, h2⟩, h3, h4⟩ := goodB_get hg
      have hb := prc_in (m := um) h3 (allG_get (handsB_get h1).1 k (by omega)) (allG_get (handsB_get h2).1 J hJr)
      have ha : 0 ≤ prc u um (gl k) (gr J) := of_decide_eq_true ha
      omega
def wdV (u um : G4) (gl gr : Nat → G4) (mm : Nat → Int) (l r : Nat) : Value :=
  if prB (alw u um gl gr) r mm l = false then .tuple #[.int .i64 0, .int .i64 0, .bool false] else .tuple #[.int .i64 (cntM mm l : Nat), .int .i64 (costM u um gl gr mm l), .bool true]
set_option maxRecDepth 20000 in
set_option maxHeartbeats 4000000 in
theorem weighed_is (t b : Option Addr) (l r cap c : Nat) (gl gr : Nat → G4) (mm : Nat → Int) (u um : G4) (w : World) (ht : Tr w t l r (fun i j => prc u um (gl i) (gr j))) (hm : Ls w b l mm) (hg : goodB gl gr l r u um = true) :
    Calls Try.prog 66 #[.slice t l cap, .int .i64 r, .slice b l c] w fun e w' => e = .returned (wdV u um gl gr mm l r) ∧ Below w.heap.size w w' := by
  have HT0 := hide ht
  have H2 := hide hm
  have HG := hide hg
  have h32 : l ≤ 32 := (handsB_get (goodB_get hg).1.1).2
  have r32 : r ≤ 32 := (handsB_get (goodB_get hg).1.2).2
  clear ht hm hg
  obtain ⟨V, hV⟩ : ∃ V, Hid (V = wdV u um gl gr mm l r) := ⟨_, hide rfl⟩
  rw [← hV.out]
  have hmk : ∀ w, (Instr.makeSlice 102 (.int .i64 (r : Int)) (.int .i64 (r : Int))).run Try.prog w = .ok (.slice (some ⟨w.heap.size, 0, none⟩) r r) (w.alloc (.cells (madeCells #[.bool false] r) 4)) := fun w => run_make_row' 102 4 _ 1 Try.underlying102 Try.info4 rfl .i64 .i64 r (by omega) (by omega) w
  have HO0 : Hid ((w.alloc (.cells (madeCells #[.bool false] r) 4)).rowIs w.heap.size 4 r (tks mm 0)) := hide ((World.rowIs_made w (.bool false) r 4).congr (fun i _ => rfl))
  have HB1 := hide (ba w (.cells (madeCells #[.bool false] r) 4))
  go_enter Try.func66, Try.ntmps66
  go_wp2_with fail
  generalize w.alloc (.cells (madeCells #[.bool false] r) 4) = W0 at *
  generalize hOO : w.heap.size = O at *
  go_loopw [10, 11, 18] (fun s z i wr => ∃ (wq : World) (k : Nat), wq = wr ∧ k ≤ l ∧ i = .int .i64 k ∧ s = .int .i64 (cntM mm k : Nat) ∧ (∃ C : Int, z = .int .i64 C ∧ Hid (C = costM u um gl gr mm k)) ∧ Hid (prB (alw u um gl gr) r mm k = true) ∧ wr.rowIs O 4 r (tks mm k) ∧ Below O w wr) (fun _ _ i _ => l - (intOf i).toNat)
  case atStart => exact ⟨_, 0, rfl, Nat.zero_le _, rfl, rfl, ⟨0, rfl, hide rfl⟩, hide rfl, HO0.out, HB1.out⟩
  case round =>
    clear HO0 HB1
    obtain ⟨wr, k, rfl, hk, rfl, rfl, ⟨C, rfl, HC⟩, HK, hO, hB⟩ := hrel
    have HO := hide hO
    have HB := hide hB
    have HBw : Hid (Below w.heap.size w wr) := hide (by rw [hOO]; exact hB)
    clear hO hB
    have hck := cntM_le mm k
    obtain ⟨N, hN⟩ : ∃ N, Hid (N = cntM mm k) := ⟨_, hide rfl⟩
    rw [← hN.out] at hck ⊢
    by_cases hlt : k < l
    · obtain ⟨b1, off, rfl, hc⟩ : ∃ b1 off, b = some ⟨b1, off, none⟩ ∧ LsAt w b1 off l mm := by
        rcases H2.out with h | h
        · omega
        · exact h
      obtain ⟨g, rb, rfl, htr⟩ : ∃ (g : Nat) (rb : Nat → Nat), t = some ⟨g, 0, none⟩ ∧ ∀ i, i < l → w.cell? ⟨g, i, none⟩ = some (.slice (some ⟨rb i, 0, none⟩) r r) ∧ ∀ j, j < r → w.cell? ⟨rb i, j, none⟩ = some (.int .i64 (prc u um (gl i) (gr j))) := by
        rcases HT0.out with h | h
        · omega
        · exact h
      have ck := kc HBw.out (hc k hlt).1
      have tk0 := (htr k hlt).1
      have hgO : g < O := by rw [← hOO]; exact World.block_lt_of_cell? _ _ tk0
      have tk := kc HBw.out tk0
      have HTR := hide (htr k hlt).2
      clear hc htr tk0
      obtain ⟨Rk, hRk⟩ : ∃ R, Hid (R = rb k) := ⟨_, hide rfl⟩
      rw [← hRk.out] at tk HTR
      obtain ⟨q, hq⟩ : ∃ q, Hid (q = mm k) := ⟨_, hide rfl⟩
      rw [← hq.out] at ck
      have bd := costM_bdk HG.out k (by omega) HK.out
      rw [← HC.out] at bd
      by_cases e1 : q = -1
      · have HJ : Hid (okJ (alw u um gl gr) r mm k = true) := hide (okJ_none (by rw [← hq.out]; exact e1))
        have HE : Hid (∀ x, tkn mm (k + 1) x = tkn mm k x) := hide (fun x => tkn_none (by rw [← hq.out]; exact e1) x)
        have HN2 : Hid (cntM mm (k + 1) = N) := hide (by unfold cntM; rw [← hq.out, if_pos e1, hN.out, Nat.add_zero])
        have HC2 : Hid (C = costM u um gl gr mm (k + 1)) := hide (by rw [costM_none (by rw [← hq.out]; exact e1)]; exact HC.out)
        go_wp2_with fail
        go_roundw
        case rel => exact ⟨_, k + 1, rfl, by omega, by go_num, by rw [HN2.out], ⟨_, rfl, HC2⟩, hide (prB_yes HK.out HJ.out), World.rowIs.congr HO.out (fun i hi => by unfold tks; rw [HE.out]), HB.out⟩
        case measure => simp [intOf]; omega
      · by_cases e2 : q < 0
        · have HV : Hid (V = .tuple #[.int .i64 0, .int .i64 0, .bool false]) := hide (by rw [hV.out]; unfold wdV; rw [if_pos (prB_no hlt (okJ_out (by rw [← hq.out]; exact e1) (by rw [← hq.out]; omega)))])
          go_wp2_with fail
          go_ret3
          exact ⟨by rw [HV.out]; rfl, by first | exact HB.out | (rw [hOO]; exact HB.out)⟩
        · by_cases e3 : (r : Int) ≤ q
          · have HV : Hid (V = .tuple #[.int .i64 0, .int .i64 0, .bool false]) := hide (by rw [hV.out]; unfold wdV; rw [if_pos (prB_no hlt (okJ_out (by rw [← hq.out]; exact e1) (by rw [← hq.out]; omega)))])
            go_wp2_with fail
            go_ret3
            exact ⟨by rw [HV.out]; rfl, by first | exact HB.out | (rw [hOO]; exact HB.out)⟩
          · obtain ⟨J, rfl⟩ : ∃ J : Nat, q = (J : Int) := ⟨q.toNat, by omega⟩
            have hJ : J < r := by omega
            have cJ : wr.cell? ⟨O, J, none⟩ = some (.bool (tkn mm k J)) := World.rowIs.cell HO.out hJ
            have fJ : wr.frozen? ⟨O, J, none⟩ = false := World.rowIs.frozen HO.out J
            have hRO : Rk < O := by rw [← hOO]; exact World.block_lt_of_cell? _ _ (HTR.out J hJ)
            have tJ := kc HBw.out (HTR.out J hJ)
            have HI := hide (okJ_in (al := alw u um gl gr) (r := r) hq.out.symm hJ)
            have HE : Hid (∀ x, tkn mm (k + 1) x = (if x = J then true else tkn mm k x)) := hide (fun x => tkn_in hq.out.symm x)
            have hpb := prc_in (m := um) (goodB_get HG.out).2.1 (allG_get (handsB_get (goodB_get HG.out).1.1).1 k hlt) (allG_get (handsB_get (goodB_get HG.out).1.2).1 J hJ)
            have HA : Hid (alw u um gl gr k J = decide (0 ≤ prc u um (gl k) (gr J))) := hide rfl
            have HC1 := hide (costM_in (u := u) (um := um) (gl := gl) (gr := gr) hq.out.symm)
            rw [← HC.out] at HC1
            obtain ⟨P, hP⟩ : ∃ P, Hid (P = prc u um (gl k) (gr J)) := ⟨_, hide rfl⟩
            rw [← hP.out] at tJ hpb HA HC1
            cases ht : tkn mm k J with
            | true =>
              have HV : Hid (V = .tuple #[.int .i64 0, .int .i64 0, .bool false]) := hide (by rw [hV.out]; unfold wdV; rw [if_pos (prB_no hlt (by rw [HI.out, ht]; rfl))])
              rw [ht] at cJ
              go_wp2_with fail
              go_ret3
              exact ⟨by rw [HV.out]; rfl, by first | exact HB.out | (rw [hOO]; exact HB.out)⟩
            | false =>
              rw [ht] at cJ
              by_cases hP0 : P < 0
              · have HV : Hid (V = .tuple #[.int .i64 0, .int .i64 0, .bool false]) := hide (by rw [hV.out]; unfold wdV; rw [if_pos (prB_no hlt (by rw [HI.out, ht, HA.out, decide_eq_false (by omega)]; rfl))])
                go_wp2_with fail
                go_ret3
                exact ⟨by rw [HV.out]; rfl, by first | exact HB.out | (rw [hOO]; exact HB.out)⟩
              · have HJ : Hid (okJ (alw u um gl gr) r mm k = true) := hide (by rw [HI.out, ht, HA.out, decide_eq_true (by omega)]; rfl)
                have HN2 : Hid (cntM mm (k + 1) = N + 1) := hide (by unfold cntM; rw [← hq.out, if_neg e1, hN.out])
                have s1 : (wr.setCell ⟨O, J, none⟩ (.bool true)).cell? ⟨g, k, none⟩ = some (.slice (some ⟨Rk, 0, none⟩) r r) := by rw [World.cell?_setCell_other _ _ _ _ (fun e => Nat.ne_of_gt hgO (by injection e))]; exact tk
                have s2 : (wr.setCell ⟨O, J, none⟩ (.bool true)).cell? ⟨Rk, J, none⟩ = some (.int .i64 P) := by rw [World.cell?_setCell_other _ _ _ _ (fun e => Nat.ne_of_gt hRO (by injection e))]; exact tJ
                have hw1 : IntKind.i64.wrap (C + P) = C + P := IntWalk.i64_in _ (by omega)
                go_wp2_with fail
                go_roundw
                case rel => exact ⟨_, k + 1, rfl, by omega, by go_num, by rw [HN2.out]; go_num, ⟨_, rfl, hide HC1.out.symm⟩, hide (prB_yes HK.out HJ.out), World.rowIs.congr (World.rowIs.set HO.out J _) (fun i hi => by unfold tks; rw [HE.out]; by_cases e : i = J <;> simp [e]), HB.out.setCell (Nat.le_refl _) _⟩
                case measure => simp [intOf]; omega
    · obtain rfl : k = l := by omega
      have HV : Hid (V = .tuple #[.int .i64 (N : Nat), .int .i64 C, .bool true]) := hide (by rw [hV.out]; unfold wdV; rw [if_neg (by rw [HK.out]; decide), hN.out, HC.out])
      go_wp2_with fail
      go_ret3
      exact ⟨by rw [HV.out]; rfl, by first | exact HB.out | (rw [hOO]; exact HB.out)⟩
end Go.Proofs.Ytcakcdolijgjeaa
