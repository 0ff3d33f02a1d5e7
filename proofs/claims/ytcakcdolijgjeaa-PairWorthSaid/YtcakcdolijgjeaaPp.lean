/- Pairings: isPairing, openWith, Weigh, of the program. -/
import Derived.Test.YtcakcdolijgjeaaPn
import Derived.Test.YtcakcdolijgjeaaPo
set_option linter.unusedVariables false
namespace Go.Proofs.Ytcakcdolijgjeaa
open Go Go.RowKit Go.Ab
/-- the right gloves of the first k left ones -/
def tkn (mm : Nat → Int) : Nat → Nat → Bool
  | 0 => fun _ => false
  | k + 1 => fun x => tkn mm k x || (!decide (mm k = -1) && decide ((mm k).toNat = x))
def okJ (al : Nat → Nat → Bool) (r : Nat) (mm : Nat → Int) (k : Nat) : Bool :=
  decide (mm k = -1) || (decide (0 ≤ mm k ∧ mm k < (r : Int)) && (!tkn mm k (mm k).toNat && al k (mm k).toNat))
def prB (al : Nat → Nat → Bool) (r : Nat) (mm : Nat → Int) : Nat → Bool
  | 0 => true
  | k + 1 => prB al r mm k && okJ al r mm k
theorem prB_no {al : Nat → Nat → Bool} {r : Nat} {mm : Nat → Int} : ∀ {n i : Nat}, i < n → okJ al r mm i = false → prB al r mm n = false
  | n + 1, i, hi, h => by
    unfold prB
    by_cases e : i = n
    · rw [← e, h, Bool.and_false]
    · rw [prB_no (show i < n by omega) h, Bool.false_and]
theorem prB_yes {al : Nat → Nat → Bool} {r : Nat} {mm : Nat → Int} {k : Nat} (h : prB al r mm k = true) (hk : okJ al r mm k = true) : prB al r mm (k + 1) = true := by unfold prB; rw [h, hk]; rfl
theorem prB_get {al : Nat → Nat → Bool} {r : Nat} {mm : Nat → Int} : ∀ {n : Nat}, prB al r mm n = true → ∀ i, i < n → okJ al r mm i = true
  | n + 1, h, i, hi => by
    unfold prB at h
    simp only [Bool.and_eq_true] at h
    by_cases e : i = n
    · rw [e]; exact h.2
    · exact prB_get h.1 i (by omega)
theorem okJ_none {al : Nat → Nat → Bool} {r : Nat} {mm : Nat → Int} {k : Nat} (h : mm k = -1) : okJ al r mm k = true := by unfold okJ; rw [decide_eq_true h]; rfl
theorem okJ_out {al : Nat → Nat → Bool} {r : Nat} {mm : Nat → Int} {k : Nat} (h : ¬ mm k = -1) (hn : ¬ (0 ≤ mm k ∧ mm k < (r : Int))) : okJ al r mm k = false := by unfold okJ; rw [decide_eq_false h, decide_eq_false hn]; rfl
theorem okJ_in {al : Nat → Nat → Bool} {r : Nat} {mm : Nat → Int} {k J : Nat} (h : mm k = (J : Int)) (hJ : J < r) : okJ al r mm k = (!tkn mm k J && al k J) := by
  unfold okJ
  rw [decide_eq_false (show ¬ mm k = -1 by omega), decide_eq_true (show 0 ≤ mm k ∧ mm k < (r : Int) by omega), h]
  simp
theorem tkn_none {mm : Nat → Int} {k : Nat} (h : mm k = -1) (x : Nat) : tkn mm (k + 1) x = tkn mm k x := by
  show (tkn mm k x || (!decide (mm k = -1) && decide ((mm k).toNat = x))) = _
  rw [decide_eq_true h]; simp
theorem tkn_in {mm : Nat → Int} {k J : Nat} (h : mm k = (J : Int)) (x : Nat) : tkn mm (k + 1) x = (if x = J then true else tkn mm k x) := by
  show (tkn mm k x || (!decide (mm k = -1) && decide ((mm k).toNat = x))) = _
  rw [decide_eq_false (show ¬ mm k = -1 by omega), h]
  by_cases e : x = J
  · rw [if_pos e, e]; simp
  · rw [if_neg e]
    have : decide ((J : Int).toNat = x) = false := decide_eq_false (by simp; omega)
    rw [this]; simp
def tks (mm : Nat → Int) (k : Nat) (i : Nat) : Value := .bool (tkn mm k i)
theorem taken_new (w : World) (mm : Nat → Int) : (w.alloc (.cells #[.bool false, .bool false, .bool false, .bool false, .bool false, .bool false, .bool false, .bool false, .bool false, .bool false, .bool false, .bool false, .bool false, .bool false, .bool false, .bool false, .bool false, .bool false, .bool false, .bool false, .bool false, .bool false, .bool false, .bool false, .bool false, .bool false, .bool false, .bool false, .bool false, .bool false, .bool false, .bool false] 99)).rowIs w.heap.size 99 32 (tks mm 0) :=
  World.rowIs_alloc w #[.bool false, .bool false, .bool false, .bool false, .bool false, .bool false, .bool false, .bool false, .bool false, .bool false, .bool false, .bool false, .bool false, .bool false, .bool false, .bool false, .bool false, .bool false, .bool false, .bool false, .bool false, .bool false, .bool false, .bool false, .bool false, .bool false, .bool false, .bool false, .bool false, .bool false, .bool false, .bool false] 99 (tks mm 0) (fun i hi => by
    have e : (#[.bool false, .bool false, .bool false, .bool false, .bool false, .bool false, .bool false, .bool false, .bool false, .bool false, .bool false, .bool false, .bool false, .bool false, .bool false, .bool false, .bool false, .bool false, .bool false, .bool false, .bool false, .bool false, .bool false, .bool false, .bool false, .bool false, .bool false, .bool false, .bool false, .bool false, .bool false, .bool false] : Array Value) = Array.replicate 32 (.bool false) := rfl
    rw [e] at hi ⊢
    rw [Array.getElem?_replicate, if_pos (by simpa using hi)]
    rfl)
set_option maxRecDepth 20000 in
set_option maxHeartbeats 4000000 in
theorem isPairing_is (T l r n c : Nat) (b : Option Addr) (mm : Nat → Int) (f : Nat → Nat → Int) (w : World) (ht : Tb w T l r f) (hm : Ls w b n mm) (hn : n ≤ 32) (hr : r ≤ 32) :
    Calls Try.prog 102 #[.pointer (some ⟨T, 0, none⟩), .slice b n c] w fun e w' => e = .returned (.bool (prB (fun i j => decide (f i j > 0)) r mm n)) ∧ Below w.heap.size w w' := by
  have HT0 := hide ht
  have H2 := hide hm
  clear ht hm
  have HO0 := hide (taken_new w mm)
  have HT1 := hide (HT0.out.below (ba w (.cells #[.bool false, .bool false, .bool false, .bool false, .bool false, .bool false, .bool false, .bool false, .bool false, .bool false, .bool false, .bool false, .bool false, .bool false, .bool false, .bool false, .bool false, .bool false, .bool false, .bool false, .bool false, .bool false, .bool false, .bool false, .bool false, .bool false, .bool false, .bool false, .bool false, .bool false, .bool false, .bool false] 99)))
  have HB1 := hide (ba w (.cells #[.bool false, .bool false, .bool false, .bool false, .bool false, .bool false, .bool false, .bool false, .bool false, .bool false, .bool false, .bool false, .bool false, .bool false, .bool false, .bool false, .bool false, .bool false, .bool false, .bool false, .bool false, .bool false, .bool false, .bool false, .bool false, .bool false, .bool false, .bool false, .bool false, .bool false, .bool false, .bool false] 99))
  have hTO : Hid (T < w.heap.size) := hide (World.rowIs.lt HT0.out)
  clear HT0
  go_enter Try.func102, Try.ntmps102
  go_wp2_with fail
  generalize w.alloc (.cells #[.bool false, .bool false, .bool false, .bool false, .bool false, .bool false, .bool false, .bool false, .bool false, .bool false, .bool false, .bool false, .bool false, .bool false, .bool false, .bool false, .bool false, .bool false, .bool false, .bool false, .bool false, .bool false, .bool false, .bool false, .bool false, .bool false, .bool false, .bool false, .bool false, .bool false, .bool false, .bool false] 99) = W0 at *
  generalize hOO : w.heap.size = O at *
  go_loopw [10] (fun i wr => ∃ (wq : World) (k : Nat), wq = wr ∧ k ≤ n ∧ i = .int .i64 k ∧ Hid (prB (fun i j => decide (f i j > 0)) r mm k = true) ∧ wr.rowIs O 99 32 (tks mm k) ∧ Tb wr T l r f ∧ Below O w wr) (fun i _ => n - (intOf i).toNat)
  case atStart => exact ⟨_, 0, rfl, Nat.zero_le _, rfl, hide rfl, HO0.out, HT1.out, HB1.out⟩
  case round =>
    clear HO0 HT1 HB1
    obtain ⟨wr, k, rfl, hk, rfl, HK, hO, hT, hB⟩ := hrel
    have HO := hide hO
    have HT := hide hT
    have HB := hide hB
    have HBw : Hid (Below w.heap.size w wr) := hide (by rw [hOO]; exact hB)
    clear hO hT hB
    by_cases hlt : k < n
    · obtain ⟨b1, off, rfl, hc⟩ : ∃ b1 off, b = some ⟨b1, off, none⟩ ∧ LsAt w b1 off n mm := by
        rcases H2.out with h | h
        · omega
        · exact h
      have ck := kc HBw.out (hc k hlt).1
      clear hc
      obtain ⟨q, hq⟩ : ∃ q, Hid (q = mm k) := ⟨_, hide rfl⟩
      rw [← hq.out] at ck
      by_cases e1 : q = -1
      · have HJ : Hid (okJ (fun i j => decide (f i j > 0)) r mm k = true) := hide (okJ_none (by rw [← hq.out]; exact e1))
        have HE : Hid (∀ x, tkn mm (k + 1) x = tkn mm k x) := hide (fun x => tkn_none (by rw [← hq.out]; exact e1) x)
        go_wp2_with fail
        go_roundw
        case rel => exact ⟨_, k + 1, rfl, by omega, by go_num, hide (prB_yes HK.out HJ.out), World.rowIs.congr HO.out (fun i hi => by unfold tks; rw [HE.out]), HT.out, HB.out⟩
        case measure => simp [intOf]; omega
      · by_cases e2 : q < 0
        · have HR : Hid (prB (fun i j => decide (f i j > 0)) r mm n = false) := hide (prB_no hlt (okJ_out (by rw [← hq.out]; exact e1) (by rw [← hq.out]; omega)))
          go_wp2_with fail
          go_ret
          exact ⟨by rw [HR.out]; rfl, by first | exact HB.out | (rw [hOO]; exact HB.out)⟩
        · have cr := HT.out.rights
          by_cases e3 : (r : Int) ≤ q
          · have HR : Hid (prB (fun i j => decide (f i j > 0)) r mm n = false) := hide (prB_no hlt (okJ_out (by rw [← hq.out]; exact e1) (by rw [← hq.out]; omega)))
            go_wp2_with fail
            go_ret
            exact ⟨by rw [HR.out]; rfl, by first | exact HB.out | (rw [hOO]; exact HB.out)⟩
          · obtain ⟨J, rfl⟩ : ∃ J : Nat, q = (J : Int) := ⟨q.toNat, by omega⟩
            have hJ : J < r := by omega
            have hJ32 : (J : Int) < 32 := by omega
            have cJ : wr.cell? ⟨O, J, none⟩ = some (.bool (tkn mm k J)) := World.rowIs.cell HO.out (by omega)
            have fJ : wr.frozen? ⟨O, J, none⟩ = false := World.rowIs.frozen HO.out J
            have HI := hide (okJ_in (al := fun i j => decide (f i j > 0)) (r := r) hq.out.symm hJ)
            have HE : Hid (∀ x, tkn mm (k + 1) x = (if x = J then true else tkn mm k x)) := hide (fun x => tkn_in hq.out.symm x)
            cases ht : tkn mm k J with
            | true =>
              have HR : Hid (prB (fun i j => decide (f i j > 0)) r mm n = false) := hide (prB_no hlt (by rw [HI.out, ht]; rfl))
              rw [ht] at cJ
              go_wp2_with fail
              go_ret
              exact ⟨by rw [HR.out]; rfl, by first | exact HB.out | (rw [hOO]; exact HB.out)⟩
            | false =>
              rw [ht] at cJ
              go_wp2_with fail
              refine (allows_is T l r k J f _ HT.out (by omega) (by omega)).mono ?_
              rintro e W2 ⟨rfl, hb⟩
              have HT2 := hide (HT.out.below hb)
              have HB2 : Hid (Below O w W2) := hide (by have := bt HBw.out hb; rw [hOO] at this; exact this)
              have HO2 : Hid (W2.rowIs O 99 32 (tks mm k)) := hide (World.rowIs.of_block HO.out (hb.block O (World.rowIs.lt HO.out)))
              have cJ := kc hb cJ
              have fJ : W2.frozen? ⟨O, J, none⟩ = false := World.rowIs.frozen HO2.out J
              clear hb
              cases ha : decide (f k J > 0) with
              | false =>
                have HR : Hid (prB (fun i j => decide (f i j > 0)) r mm n = false) := hide (prB_no hlt (by rw [HI.out, ht]; simp only [ha]; rfl))
                go_wp2_with fail
                go_ret
                exact ⟨by rw [HR.out]; rfl, by first | exact HB2.out | (rw [hOO]; exact HB2.out)⟩
              | true =>
                have HJ : Hid (okJ (fun i j => decide (f i j > 0)) r mm k = true) := hide (by rw [HI.out, ht]; simp only [ha]; rfl)
                go_wp2_with fail
                go_roundw
                case rel => exact ⟨_, k + 1, rfl, by omega, by go_num, hide (prB_yes HK.out HJ.out), World.rowIs.congr (World.rowIs.set HO2.out J _) (fun i hi => by unfold tks; rw [HE.out]; by_cases e : i = J <;> simp [e]), World.rowIs.setOther HT2.out (Nat.ne_of_lt hTO.out) _, HB2.out.setCell (Nat.le_refl _) _⟩
                case measure => simp [intOf]; omega
    · obtain rfl : k = n := by omega
      go_wp2_with fail
      go_ret
      exact ⟨by rw [HK.out]; rfl, by first | exact HB.out | (rw [hOO]; exact HB.out)⟩
def alw (u um : G4) (gl gr : Nat → G4) (i j : Nat) : Bool := decide (0 ≤ prc u um (gl i) (gr j))
theorem prB_congr {al al' : Nat → Nat → Bool} {r : Nat} {mm : Nat → Int} : ∀ {n : Nat}, (∀ i j, i < n → j < r → al i j = al' i j) → prB al r mm n = prB al' r mm n
  | 0, _ => rfl
  | n + 1, h => by
    unfold prB
    rw [prB_congr (fun i j hi hj => h i j (by omega) hj)]
    have : okJ al r mm n = okJ al' r mm n := by
      by_cases e : mm n = -1
      · rw [okJ_none e, okJ_none e]
      · by_cases e2 : 0 ≤ mm n ∧ mm n < (r : Int)
        · obtain ⟨J, hJ⟩ : ∃ J : Nat, mm n = (J : Int) := ⟨(mm n).toNat, by omega⟩
          rw [okJ_in hJ (by omega), okJ_in hJ (by omega), h n J (by omega) (by omega)]
        · rw [okJ_out e e2, okJ_out e e2]
    rw [this]
theorem prB_wth {u um : G4} {gl gr : Nat → G4} {l r : Nat} {mm : Nat → Int} (hg : goodB gl gr l r u um = true) : prB (fun i j => decide (wth u um gl gr l r i j > 0)) r mm l = prB (alw u um gl gr) r mm l :=
  prB_congr fun i j hi hj => wth_pos hg hi hj
/-- the error of a call that takes a pairing -/
def opE (u um : G4) (gl gr : Nat → G4) (mm : Nat → Int) (l r n : Nat) : Int :=
  if goodB gl gr l r u um = false then 2 else if n ≠ l then 3 else if prB (alw u um gl gr) r mm l = false then 6 else 0
theorem opE_bad {u um : G4} {gl gr : Nat → G4} {mm : Nat → Int} {l r n : Nat} (h : goodB gl gr l r u um = false) : opE u um gl gr mm l r n = 2 := by unfold opE; rw [if_pos h]
theorem opE_len {u um : G4} {gl gr : Nat → G4} {mm : Nat → Int} {l r n : Nat} (h : goodB gl gr l r u um = true) (hn : n ≠ l) : opE u um gl gr mm l r n = 3 := by unfold opE; rw [if_neg (by rw [h]; decide), if_pos hn]
theorem opE_form {u um : G4} {gl gr : Nat → G4} {mm : Nat → Int} {l r : Nat} (h : goodB gl gr l r u um = true) (hp : prB (alw u um gl gr) r mm l = false) : opE u um gl gr mm l r l = 6 := by unfold opE; rw [if_neg (by rw [h]; decide), if_neg (fun h => h rfl), if_pos hp]
theorem opE_ok {u um : G4} {gl gr : Nat → G4} {mm : Nat → Int} {l r : Nat} (h : goodB gl gr l r u um = true) (hp : prB (alw u um gl gr) r mm l = true) : opE u um gl gr mm l r l = 0 := by unfold opE; rw [if_neg (by rw [h]; decide), if_neg (fun h => h rfl), if_neg (by rw [hp]; decide)]
theorem opE_get {u um : G4} {gl gr : Nat → G4} {mm : Nat → Int} {l r n : Nat} (h : opE u um gl gr mm l r n = 0) : goodB gl gr l r u um = true ∧ n = l ∧ prB (alw u um gl gr) r mm l = true := by
  unfold opE at h
  split at h
  · cases h
  · split at h
    · cases h
    · split at h
      · cases h
      · rename_i a b c
        exact ⟨by cases hh : goodB gl gr l r u um <;> simp_all, by omega, by cases hh : prB (alw u um gl gr) r mm l <;> simp_all⟩
set_option maxRecDepth 20000 in
set_option maxHeartbeats 4000000 in
theorem openWith_is (a b g : Option Addr) (l c r d n e : Nat) (gl gr : Nat → G4) (mm : Nat → Int) (u um : G4) (w : World) (hs : Gs w a l gl) (ht : Gs w b r gr) (hm : Ls w g n mm) (hl : l ≤ 34) (hr : r ≤ 34) (hn : n ≤ maxLen) :
    Calls Try.prog 64 #[.slice a l c, .slice b r d, uVal u um, .slice g n e] w fun e w' => ∃ v, e = .returned (.tuple #[v, .int .i64 (opE u um gl gr mm l r n)]) ∧ (opE u um gl gr mm l r n = 0 → ∃ T, v = .pointer (some ⟨T, 0, none⟩) ∧ Tb w' T l r (wth u um gl gr l r)) ∧ Below w.heap.size w w' := by
  unfold maxLen at hn
  have H1 := hide hs
  have H2 := hide ht
  have H3 := hide hm
  clear hs ht hm
  have HBAD := hide (fun W h h' hg => open_bad a b l r c d gl gr u um W h h' hl hr hg)
  have HGOOD := hide (fun W h h' hg => open_good a b l r c d gl gr u um W h h' hl hr hg)
  unfold uVal at HBAD HGOOD ⊢
  have HB0 := hide (ba w (.cells #[.int .i64 u.1, .int .i64 u.2.1, .int .i64 u.2.2.1, .int .i64 u.2.2.2, .int .i64 um.1, .int .i64 um.2.1, .int .i64 um.2.2.1, .int .i64 um.2.2.2] 32))
  obtain ⟨E, hE⟩ : ∃ E, Hid (E = opE u um gl gr mm l r n) := ⟨_, hide rfl⟩
  rw [← hE.out]
  cases hg : goodB gl gr l r u um with
  | false =>
    have HV := hide (hE.out.trans (opE_bad hg))
    go_enter Try.func64, Try.ntmps64
    go_wp2_with fail
    refine (HBAD.out _ (H1.out.below HB0.out) (H2.out.below HB0.out) hg).mono ?_
    rintro e W1 ⟨rfl, hb⟩
    have HB := hide (bt HB0.out hb)
    clear hb
    go_wp2_with fail
    go_ret2
    exact ⟨_, by rw [HV.out]; rfl, (fun h => by rw [HV.out] at h; cases h), HB.out⟩
  | true =>
    have h32 : l ≤ 32 := (handsB_get (goodB_get hg).1.1).2
    have r32 : r ≤ 32 := (handsB_get (goodB_get hg).1.2).2
    go_enter Try.func64, Try.ntmps64
    go_wp2_with fail
    refine (HGOOD.out _ (H1.out.below HB0.out) (H2.out.below HB0.out) hg).mono ?_
    rintro e W1 ⟨T, rfl, hT, hb⟩
    have HT := hide hT
    have HB := hide (bt HB0.out hb)
    clear hb hT
    have c0 := HT.out.lefts
    by_cases hnl : n = l
    · subst hnl
      go_wp2_with fail
      refine (isPairing_is T n r n _ g mm _ _ HT.out (H3.out.below HB.out) h32 r32).mono ?_
      rintro e W2 ⟨rfl, hb⟩
      have HT2 := hide (HT.out.below hb)
      have HB2 := hide (bt HB.out hb)
      clear hb c0
      rw [prB_wth hg]
      cases hp : prB (alw u um gl gr) r mm n with
      | false =>
        have HV := hide (hE.out.trans (opE_form hg hp))
        go_wp2_with fail
        go_ret2
        exact ⟨_, by rw [HV.out]; rfl, (fun h => by rw [HV.out] at h; cases h), HB2.out⟩
      | true =>
        have HV := hide (hE.out.trans (opE_ok hg hp))
        go_wp2_with fail
        go_ret2
        exact ⟨_, by rw [HV.out]; rfl, fun _ => ⟨T, rfl, HT2.out⟩, HB2.out⟩
    · have HV := hide (hE.out.trans (opE_len hg hnl))
      have hnl2 : ¬ (n : Int) = (l : Int) := by omega
      go_wp2_with fail
      go_ret2
      exact ⟨_, by rw [HV.out]; rfl, (fun h => by rw [HV.out] at h; cases h), HB.out⟩
end Go.Proofs.Ytcakcdolijgjeaa
