/- Numbers in memory; Pairs, of the program. -/
import Derived.Test.YtcakcdolijgjeaaPl
import Derived.SliceStrings
import Derived.Deep.SlicePairs
set_option linter.unusedVariables false
namespace Go.Proofs.Ytcakcdolijgjeaa
open Go Go.RowKit Go.Ab Go.ChangeShapes Go.WideShapes
def LsAt (w : World) (b off l : Nat) (f : Nat → Int) : Prop := ∀ i, i < l → w.cell? ⟨b, off + i, none⟩ = some (.int .i64 (f i)) ∧ In64 (f i)
def Ls (w : World) (a : Option Addr) (l : Nat) (f : Nat → Int) : Prop := l = 0 ∨ ∃ b off, a = some ⟨b, off, none⟩ ∧ LsAt w b off l f
theorem LsAt.below {w w' : World} {b off l : Nat} {f : Nat → Int} (h : LsAt w b off l f) (hb : Below w.heap.size w w') : LsAt w' b off l f := fun i hi => ⟨kc hb (h i hi).1, (h i hi).2⟩
theorem Ls.below {w w' : World} {a : Option Addr} {l : Nat} {f : Nat → Int} (h : Ls w a l f) (hb : Below w.heap.size w w') : Ls w' a l f := by
  rcases h with h | ⟨b, off, e, h⟩
  · exact .inl h
  · exact .inr ⟨b, off, e, h.below hb⟩
section
variable {H : Type} {enc : TypeId × Value → H} {P : Program} {w : World} {base : Nat} {held : Bool}
theorem open_ls {r : Reach} {b0 : Nat} {t e : TypeId} {v : Value} {d : DataW H} {ps : List MemPlace} (ht : P.underlying t = some (.slice e)) (he : P.underlying e = some (.int .i64)) (ce : P.cellsOf e = 1)
    (hval : Value.okWide P w r b0 t v) (hd : DataW.Trod enc P w base (fun _ => true) held t v d ps) :
    ∃ (a : Option Addr) (len cap : Nat) (ns : Nat → Int), v = .slice a len cap ∧ (Ls w a len ns ∧ len ≤ maxLen) ∧ len ≤ cap := by
  obtain ⟨a0, len0, cap0, rfl⟩ := okWide_slice ht hval
  obtain ⟨fuel, hf⟩ := hd
  rcases open_ints ht he ce hf with ⟨hcs, _⟩ | ⟨a, len, cap, zs, hcs, _, hl, hm, hmm, _, hc, hw⟩
  · simp [Value.cells] at hcs
    obtain ⟨rfl, rfl, rfl⟩ := hcs
    exact ⟨none, 0, 0, fun _ => 0, rfl, ⟨.inl rfl, by simp [maxLen]⟩, Nat.le_refl _⟩
  · simp [Value.cells] at hcs
    obtain ⟨rfl, rfl, rfl⟩ := hcs
    simp only [if_true] at hmm
    refine ⟨some a, len0, cap0, fun i => zs.getD i 0, rfl, ⟨?_, by omega⟩, hl⟩
    by_cases h0 : len0 = 0
    · exact .inl h0
    · obtain ⟨b, off, rfl, hcc⟩ := ints_at hc (by omega)
      refine .inr ⟨b, off, rfl, fun i hi => ⟨hcc i (by omega), in64_lit (hw _ ?_)⟩⟩
      simp only [List.getD_eq_getElem?_getD]
      rw [List.getElem?_eq_getElem (by omega)]
      exact List.getElem_mem _
end
/-- glove i of a heap of l has no mate, or one that it is the mate of -/
def okI (u um : G4) (gs : Nat → G4) (mm : Nat → Int) (l i : Nat) : Bool :=
  decide (mm i = -1) || (decide (0 ≤ mm i ∧ mm i < (l : Int) ∧ mm i ≠ (i : Int)) && (decide (0 ≤ prc u um (gs i) (gs (mm i).toNat)) && decide (mm (mm i).toNat = (i : Int))))
def mtB (u um : G4) (gs : Nat → G4) (mm : Nat → Int) (l : Nat) : Nat → Bool
  | 0 => true
  | k + 1 => mtB u um gs mm l k && okI u um gs mm l k
def cntM (mm : Nat → Int) : Nat → Nat
  | 0 => 0
  | k + 1 => cntM mm k + if mm k = -1 then 0 else 1
theorem cntM_le (mm : Nat → Int) : ∀ k, cntM mm k ≤ k
  | 0 => Nat.le_refl _
  | k + 1 => by have := cntM_le mm k; unfold cntM; split <;> omega
theorem mtB_no {u um : G4} {gs : Nat → G4} {mm : Nat → Int} {l : Nat} : ∀ {n i : Nat}, i < n → okI u um gs mm l i = false → mtB u um gs mm l n = false
  | n + 1, i, hi, h => by
    unfold mtB
    by_cases e : i = n
    · rw [← e, h, Bool.and_false]
    · rw [mtB_no (show i < n by omega) h, Bool.false_and]
theorem mtB_yes {u um : G4} {gs : Nat → G4} {mm : Nat → Int} {l k : Nat} (h : mtB u um gs mm l k = true) (hk : okI u um gs mm l k = true) : mtB u um gs mm l (k + 1) = true := by unfold mtB; rw [h, hk]; rfl
def pairsV (u um : G4) (gs : Nat → G4) (mm : Nat → Int) (l n : Nat) : Value :=
  if goodB gs gs l l u um = false then .tuple #[.int .i64 0, .int .i64 2]
  else if n ≠ l then .tuple #[.int .i64 0, .int .i64 3]
  else if mtB u um gs mm l l = false then .tuple #[.int .i64 0, .int .i64 6]
  else .tuple #[.int .i64 ((cntM mm l / 2 : Nat) : Int), .int .i64 0]
theorem pairsV_bad {u um : G4} {gs : Nat → G4} {mm : Nat → Int} {l n : Nat} (h : goodB gs gs l l u um = false) : pairsV u um gs mm l n = .tuple #[.int .i64 0, .int .i64 2] := by unfold pairsV; rw [if_pos h]
theorem pairsV_len {u um : G4} {gs : Nat → G4} {mm : Nat → Int} {l n : Nat} (h : goodB gs gs l l u um = true) (hn : n ≠ l) : pairsV u um gs mm l n = .tuple #[.int .i64 0, .int .i64 3] := by unfold pairsV; rw [if_neg (by rw [h]; decide), if_pos hn]
theorem pairsV_form {u um : G4} {gs : Nat → G4} {mm : Nat → Int} {l i : Nat} (h : goodB gs gs l l u um = true) (hi : i < l) (ho : okI u um gs mm l i = false) : pairsV u um gs mm l l = .tuple #[.int .i64 0, .int .i64 6] := by unfold pairsV; rw [if_neg (by rw [h]; decide), if_neg (fun h => h rfl), if_pos (mtB_no hi ho)]
theorem pairsV_ok {u um : G4} {gs : Nat → G4} {mm : Nat → Int} {l : Nat} (h : goodB gs gs l l u um = true) (hm : mtB u um gs mm l l = true) : pairsV u um gs mm l l = .tuple #[.int .i64 ((cntM mm l / 2 : Nat) : Int), .int .i64 0] := by unfold pairsV; rw [if_neg (by rw [h]; decide), if_neg (fun h => h rfl), if_neg (by rw [hm]; decide)]
theorem okI_none {u um : G4} {gs : Nat → G4} {mm : Nat → Int} {l i : Nat} (h : mm i = -1) : okI u um gs mm l i = true := by unfold okI; rw [decide_eq_true h]; rfl
theorem okI_out {u um : G4} {gs : Nat → G4} {mm : Nat → Int} {l i : Nat} (h : ¬ mm i = -1) (hn : ¬ (0 ≤ mm i ∧ mm i < (l : Int) ∧ mm i ≠ (i : Int))) : okI u um gs mm l i = false := by unfold okI; rw [decide_eq_false h, decide_eq_false hn]; rfl
theorem okI_in {u um : G4} {gs : Nat → G4} {mm : Nat → Int} {l i J : Nat} (h : mm i = (J : Int)) (hJ : J < l) (hne : i ≠ J) : okI u um gs mm l i = (decide (0 ≤ prc u um (gs i) (gs J)) && decide (mm J = (i : Int))) := by
  unfold okI
  rw [decide_eq_false (show ¬ mm i = -1 by omega), decide_eq_true (show 0 ≤ mm i ∧ mm i < (l : Int) ∧ mm i ≠ (i : Int) by omega), h]
  simp
set_option maxRecDepth 20000 in
set_option maxHeartbeats 4000000 in
theorem pairs_is (a b : Option Addr) (l c n d : Nat) (gs : Nat → G4) (mm : Nat → Int) (u um : G4) (w : World) (hs : Gs w a l gs) (hl : l ≤ 34) (hm : Ls w b n mm) (hn : n ≤ maxLen) :
    Calls Try.prog 53 #[.slice a l c, uVal u um, .slice b n d] w fun e w' => e = .returned (pairsV u um gs mm l n) ∧ Below w.heap.size w w' := by
  unfold maxLen at hn
  have H1 := hide hs
  have H2 := hide hm
  clear hs hm
  have HBAD := hide (fun W h hg => heaped_bad a l c gs u um W h hl hg)
  have HGOOD := hide (fun W h hg => heaped_good a l c gs u um W h hl hg)
  unfold uVal at HBAD HGOOD ⊢
  have H8 := hide (bx8_new w u.1 u.2.1 u.2.2.1 u.2.2.2 um.1 um.2.1 um.2.2.1 um.2.2.2 32)
  have HB0 := hide (ba w (.cells #[.int .i64 u.1, .int .i64 u.2.1, .int .i64 u.2.2.1, .int .i64 u.2.2.2, .int .i64 um.1, .int .i64 um.2.1, .int .i64 um.2.2.1, .int .i64 um.2.2.2] 32))
  obtain ⟨V, hV⟩ : ∃ V, Hid (V = pairsV u um gs mm l n) := ⟨_, hide rfl⟩
  rw [← hV.out]
  cases hg : goodB gs gs l l u um with
  | false =>
    have HV := hide (hV.out.trans (pairsV_bad hg))
    go_enter Try.func53, Try.ntmps53
    go_wp2_with fail
    refine (HBAD.out _ (H1.out.below HB0.out) hg).mono ?_
    rintro e W1 ⟨rfl, hb⟩
    have HB := hide (bt HB0.out hb)
    clear hb
    go_wp2_with fail
    go_ret2
    exact ⟨by rw [HV.out]; rfl, HB.out⟩
  | true =>
    have h32 : l ≤ 32 := (handsB_get (goodB_get hg).1.1).2
    by_cases hnl : n = l
    · subst hnl
      go_enter Try.func53, Try.ntmps53
      go_wp2_with fail
      refine (HGOOD.out _ (H1.out.below HB0.out) hg).mono ?_
      rintro e W1 ⟨T, rfl, hT, hb⟩
      have HT := hide hT
      have HB := hide (bt HB0.out hb)
      clear hb hT
      have c0 := HT.out.lefts
      go_wp2_with fail
      clear c0
      go_loopw [10, 30] (fun s i wr => ∃ (wq : World) (k : Nat), wq = wr ∧ k ≤ n ∧ i = .int .i64 k ∧ s = .int .i64 (cntM mm k) ∧ Hid (mtB u um gs mm n k = true) ∧ Tb wr T n n (wth u um gs gs n n) ∧ Below w.heap.size w wr) (fun _ i _ => n - (intOf i).toNat)
      case atStart => exact ⟨_, 0, rfl, Nat.zero_le _, rfl, rfl, hide rfl, HT.out, HB.out⟩
      case round =>
        clear HT HB
        obtain ⟨wr, k, rfl, hk, rfl, rfl, HK, hT, hB⟩ := hrel
        have HT := hide hT
        have HB := hide hB
        clear hT hB
        have hck := cntM_le mm k
        by_cases hlt : k < n
        · obtain ⟨b1, off, rfl, hc⟩ : ∃ b1 off, b = some ⟨b1, off, none⟩ ∧ LsAt w b1 off n mm := by
            rcases H2.out with h | h
            · omega
            · exact h
          have HC := hide hc
          have ck := kc HB.out (hc k hlt).1
          clear hc
          obtain ⟨q, hq⟩ : ∃ q, Hid (q = mm k) := ⟨_, hide rfl⟩
          rw [← hq.out] at ck
          obtain ⟨C, hC⟩ : ∃ C, Hid (C = cntM mm k) := ⟨_, hide rfl⟩
          rw [← hC.out] at hck ⊢
          by_cases e1 : q = -1
          · have HO : Hid (okI u um gs mm n k = true) := hide (okI_none (by rw [← hq.out]; exact e1))
            have HN : Hid (cntM mm (k + 1) = C) := hide (by unfold cntM; rw [← hq.out, if_pos e1, hC.out, Nat.add_zero])
            go_wp2_with fail
            go_roundw
            case rel => exact ⟨_, k + 1, rfl, by omega, by go_num, by rw [HN.out], hide (mtB_yes HK.out HO.out), HT.out, HB.out⟩
            case measure => simp [intOf]; omega
          · have HN : Hid (cntM mm (k + 1) = C + 1) := hide (by unfold cntM; rw [← hq.out, if_neg e1, hC.out])
            by_cases e2 : q < 0
            · have HV := hide (hV.out.trans (pairsV_form hg hlt (okI_out (by rw [← hq.out]; exact e1) (by rw [← hq.out]; omega))))
              go_wp2_with fail
              go_ret2
              exact ⟨by rw [HV.out]; rfl, HB.out⟩
            · by_cases e3 : (n : Int) ≤ q
              · have HV := hide (hV.out.trans (pairsV_form hg hlt (okI_out (by rw [← hq.out]; exact e1) (by rw [← hq.out]; omega))))
                go_wp2_with fail
                go_ret2
                exact ⟨by rw [HV.out]; rfl, HB.out⟩
              · obtain ⟨J, rfl⟩ : ∃ J : Nat, q = (J : Int) := ⟨q.toNat, by omega⟩
                have hJ : J < n := by omega
                have cJ := kc HB.out (HC.out J hJ).1
                go_wp2_with fail
                refine (joins_is T n n k J _ _ HT.out (by omega) (by omega)).mono ?_
                rintro e W2 ⟨rfl, hb⟩
                have HT2 := hide (HT.out.below hb)
                have HB2 := hide (bt HB.out hb)
                have cJ := kc hb cJ
                clear hb
                rw [wth_pos hg hlt hJ]
                by_cases hne : k = J
                · have HV := hide (hV.out.trans (pairsV_form hg hlt (okI_out (by rw [← hq.out]; exact e1) (by rw [← hq.out]; omega))))
                  rw [show decide (k ≠ J) = false by simp [hne], Bool.false_and]
                  clear hne
                  go_wp2_with fail
                  go_ret2
                  exact ⟨by rw [HV.out]; rfl, HB2.out⟩
                · have HI := hide (okI_in (u := u) (um := um) (gs := gs) (mm := mm) (l := n) hq.out.symm hJ hne)
                  rw [show decide (k ≠ J) = true by simp [hne], Bool.true_and]
                  cases hp : decide (0 ≤ prc u um (gs k) (gs J)) with
                  | false =>
                    have HV := hide (hV.out.trans (pairsV_form hg hlt (by rw [HI.out, hp]; rfl)))
                    go_wp2_with fail
                    go_ret2
                    exact ⟨by rw [HV.out]; rfl, HB2.out⟩
                  | true =>
                    obtain ⟨p, hpp⟩ : ∃ p, Hid (p = mm J) := ⟨_, hide rfl⟩
                    rw [← hpp.out] at cJ
                    by_cases hpk : p = (k : Int)
                    · have HO : Hid (okI u um gs mm n k = true) := hide (by rw [HI.out, hp, ← hpp.out, decide_eq_true hpk]; rfl)
                      go_wp2_with fail
                      go_roundw
                      case rel => exact ⟨_, k + 1, rfl, by omega, by go_num, by rw [HN.out]; go_num, hide (mtB_yes HK.out HO.out), HT2.out, HB2.out⟩
                      case measure => simp [intOf]; omega
                    · have HV := hide (hV.out.trans (pairsV_form hg hlt (by rw [HI.out, hp, ← hpp.out, decide_eq_false hpk]; rfl)))
                      go_wp2_with fail
                      go_ret2
                      exact ⟨by rw [HV.out]; rfl, HB2.out⟩
        · obtain rfl : k = n := by omega
          have HV := hide (hV.out.trans (pairsV_ok hg HK.out))
          obtain ⟨C, hC⟩ : ∃ C, Hid (C = cntM mm k) := ⟨_, hide rfl⟩
          rw [← hC.out] at hck HV ⊢
          go_wp2_with fail
          go_ret2
          trace_state
          exact ⟨by rw [HV.out]; rfl, HB.out⟩
    · have HV := hide (hV.out.trans (pairsV_len hg hnl))
      have hnl2 : ¬ (n : Int) = (l : Int) := by omega
      go_enter Try.func53, Try.ntmps53
      go_wp2_with fail
      refine (HGOOD.out _ (H1.out.below HB0.out) hg).mono ?_
      rintro e W1 ⟨T, rfl, hT, hb⟩
      have HT := hide hT
      have HB := hide (bt HB0.out hb)
      clear hb hT
      have c0 := HT.out.lefts
      go_wp2_with fail
      go_ret2
      exact ⟨by rw [HV.out]; rfl, HB.out⟩
end Go.Proofs.Ytcakcdolijgjeaa
