/- SkinOpened's law. -/
import Derived.Test.YtkajcbjacjfhnaaIu
set_option linter.unusedVariables false
namespace Go.Proofs.Ytkajcbjacjfhnaa
open Go.RowKit Go.Ab
/-- the skin, the opened, the eroded, the table -/
def Op (W : World) (bb off b1 o1 b3 o3 l n k t sb sc g : Nat) (rb rc : Nat → Nat) (f : Nat → Nat → UInt8) : Prop :=
  (ZsAt W bb off l (rowS f n) ∧ ZsAt W b1 o1 l (rowS (opn f n l k) n)) ∧ ZsAt W b3 o3 l (rowS (mor true f n l k) n) ∧ Tx W t sb sc n l rb rc (usB f g)
theorem op_step {W W' : World} {bb off b1 o1 b3 o3 l n k t sb sc g : Nat} {rb rc : Nat → Nat} {f : Nat → Nat → UInt8} (H : Op W bb off b1 o1 b3 o3 l n k t sb sc g rb rc f) (hb : Below W.heap.size W W') : Op W' bb off b1 o1 b3 o3 l n k t sb sc g rb rc f :=
  ⟨⟨H.1.1.below hb, H.1.2.below hb⟩, H.2.1.below hb, tx_step H.2.2 hb⟩
theorem sp_at {w : World} {v : Value} {n l : Nat} {f : Nat → Nat → UInt8} (h : Sp w v (n, l, f)) : ∃ b off c, v = .slice (some ⟨b, off, none⟩) l c ∧ ZsAt w b off l (rowS f n) := h
set_option maxRecDepth 100000 in
set_option maxHeartbeats 16000000 in
theorem opened_yes (bb off l c n g k : Nat) (f : Nat → Nat → UInt8) (w : World) (hz : ZsAt w bb off l (rowS f n)) (hd : Dim (n, l, f)) (hg : Dg (n, l, f)) (hk : k ≤ 48) (hgd : goodB l (rowS f n) g = true) :
    Calls Try.prog 9 #[.slice (some ⟨bb, off, none⟩) l c, .int .i64 g, .int .i64 k] w fun e w' => e = .returned (.bool true) ∧ Below w.heap.size w w' := by
  have HZ := hide hz
  have HD := hide hd
  have HDG := hide hg
  have HGD := hide hgd
  have HK := hide hk
  have HN : Hid ((1 ≤ n ∧ 1 ≤ l) ∧ n ≤ 48 ∧ l ≤ 48 ∧ k ≤ 48 ∧ 1 ≤ g ∧ g ≤ 9) := hide ⟨⟨hd.1.1, hd.2.1⟩, hd.1.2, hd.2.2, hk, by have := (goodB_get hgd).2.1; omega, by have := (goodB_get hgd).2.2; omega⟩
  have bk : (k : Int) ≤ 48 := by omega
  have bn : (n : Int) ≤ 48 := by have := HN.out; omega
  have bl : (l : Int) ≤ 48 := by have := HN.out; omega
  have bg : (g : Int) ≤ 9 := by have := HN.out; omega
  have hll : ((l : Int) != (l : Int)) = false := by simp
  clear hz hd hg hk hgd
  go_enter Try.func9, Try.ntmps9
  go_wp2_with fail
  refine (open_ok (.slice (some ⟨bb, off, none⟩) l c) n l k f _ ⟨bb, off, c, rfl, HZ.out⟩ HD.out HDG.out HK.out).mono ?_
  rintro e w1 ⟨v1, rfl, hs, hb⟩
  have HB1 := hide hb
  have HZ1 := hide (HZ.out.below hb)
  have HS1 := hide hs
  obtain ⟨b1, o1, c1, rfl, hz1⟩ := sp_at hs
  have T1 := hide hz1
  clear hb hs hz1
  go_wp2_with (go_at_call 27; refine (good_is _ l c g _ _ (.inr ⟨bb, off, rfl, HZ1.out⟩)).mono ?_; rintro e w' ⟨rfl, rfl⟩; rw [HGD.out])
  refine (open_ok (.slice (some ⟨b1, o1, none⟩) l c1) n l k (opn f n l k) _ HS1.out HD.out (dg_mor (dg_mor HDG.out)) HK.out).mono ?_
  rintro e w2 ⟨v2, rfl, hs, hb⟩
  have HB2 := hide (bt HB1.out hb)
  have HZ2 := hide (HZ1.out.below hb)
  have T2 := hide (T1.out.below hb)
  have HS2 : Hid (Sp w2 v2 (n, l, opn f n l k)) := hide (sp_congr (n := n) (l := l) hs (fun x y hx hy => opn_idem HDG.out hx hy))
  clear hb hs HS1 HZ1 T1 HB1
  go_wp2_with fail
  refine (sequal_sp (.slice (some ⟨b1, o1, none⟩) l c1) v2 (n, l, opn f n l k) _ HD.out ⟨b1, o1, c1, rfl, T2.out⟩ HS2.out).mono ?_
  rintro e w3 ⟨rfl, hb⟩
  have HB3 := hide (bt HB2.out hb)
  have HZ3 := hide (HZ2.out.below hb)
  have T3 := hide (T2.out.below hb)
  clear hb HS2 HZ2 T2 HB2
  go_wp2_with fail
  refine (erode_ok (.slice (some ⟨bb, off, none⟩) l c) n l k f _ ⟨bb, off, c, rfl, HZ3.out⟩ HD.out HDG.out HK.out).mono ?_
  rintro e w4 ⟨v3, rfl, hs, hb⟩
  have HB4 := hide (bt HB3.out hb)
  have HZ4 := hide (HZ3.out.below hb)
  have T4 := hide (T3.out.below hb)
  obtain ⟨b3, o3, c3, rfl, hz3⟩ := sp_at hs
  have E4 := hide hz3
  clear hb hs hz3 HZ3 T3 HB3
  go_wp2_with fail
  refine (newTable_is bb off c n l g f _ HZ4.out HD.out HGD.out).mono ?_
  rintro e w5 ⟨t, rfl, ⟨sb, sc, rb, rc, ht⟩, hb⟩
  have HT : Hid (Tx w5 t sb sc n l rb rc (usB f g)) := hide ht
  have HOp : Hid (Op w5 bb off b1 o1 b3 o3 l n k t sb sc g rb rc f) := hide ⟨⟨HZ4.out.below hb, T4.out.below hb⟩, E4.out.below hb, HT.out⟩
  have HB5 := hide (bt HB4.out hb)
  clear ht hb HZ4 T4 E4 HT HB4
  obtain ⟨P, eP⟩ : ∃ P : Int, Hid (P = 2 * (k : Int) + 1) := ⟨_, hide rfl⟩
  obtain ⟨M, eM⟩ : ∃ M : Int, Hid (M = P * P) := ⟨_, hide rfl⟩
  have hP : 2 * (k : Int) + 1 = P := eP.out.symm
  have hM : P * P = M := eM.out.symm
  have bP1 : 1 ≤ P := by rw [eP.out]; omega
  have bP2 : P ≤ 97 := by rw [eP.out]; omega
  have bM : 0 ≤ M ∧ M ≤ 97 * 97 := by
    rw [eM.out]
    exact ⟨Int.mul_nonneg (by omega) (by omega), Int.mul_le_mul bP2 bP2 (by omega) (by decide)⟩
  have hw1 : IntKind.i64.wrap (2 * (k : Int)) = 2 * (k : Int) := IntWalk.i64_in _ (by omega)
  have hw2 : IntKind.i64.wrap P = P := IntWalk.i64_in _ (by omega)
  have hw3 : IntKind.i64.wrap M = M := IntWalk.i64_in _ (by omega)
  have hw4 : IntKind.i64.wrap (48 + (g : Int)) = 48 + (g : Int) := IntWalk.i64_in _ (by omega)
  have hw5 : IntKind.u8.wrap (48 + (g : Int)) = 48 + (g : Int) := by simp [IntKind.wrap, IntKind.bits, IntKind.signed]; omega
  have HW := hide (And.intro (And.intro hw1 (And.intro hw2 hw3)) (And.intro hw4 hw5))
  have HPM := hide (And.intro hP hM)
  clear hw1 hw2 hw3 hw4 hw5 hP hM bM
  go_wp2_with fail
  go_loopw [102] (fun i wr => ∃ (wq : World) (q : Nat), wq = wr ∧ q ≤ l ∧ i = .int .i64 q ∧ Below w5.heap.size w5 wr) (fun i _ => l - (intOf i).toNat)
  case atStart => exact ⟨_, 0, rfl, Nat.zero_le _, rfl, Below.refl _ _⟩
  case round =>
    obtain ⟨wr, q, rfl, hq, rfl, hbel⟩ := hrel
    have HB := hide hbel
    have HOr := hide (op_step HOp.out hbel)
    clear hbel
    by_cases hlt : q < l
    · have d1 := (HOr.out.1.1 q hlt).1
      have d2 := (HOr.out.1.2 q hlt).1
      have d3 := (HOr.out.2.1 q hlt).1
      have z1 : (rowS f n q).size = n := rowS_size _ _ _
      have z2 : (rowS (opn f n l k) n q).size = n := rowS_size _ _ _
      have z3 : (rowS (mor true f n l k) n q).size = n := rowS_size _ _ _
      have hnn : ((n : Int) != (n : Int)) = false := by simp
      have hqi : (q : Int) < (l : Int) := by omega
      go_wp2_with fail
      go_quiet (fail)
      go_wp2_with fail
      have HBr : Hid (Below w5.heap.size w5 (wr.drewN nq)) := hide (HB.out.trans (bdn _ _ _))
      clear d1 d2 d3 z1 z2 z3
      go_loopw [134] (fun i wx => ∃ (wq : World) (j : Nat), wq = wx ∧ j ≤ n ∧ i = .int .i64 j ∧ Below w5.heap.size w5 wx) (fun i _ => n - (intOf i).toNat)
      case atStart => exact ⟨_, 0, rfl, Nat.zero_le _, rfl, HBr.out⟩
      case round =>
        clear HBr HB HOr
        obtain ⟨wx, j, rfl, hj, rfl, hbel⟩ := hrel
        have HB := hide hbel
        have HOx := hide (op_step HOp.out hbel)
        clear hbel
        by_cases hlj : j < n
        · obtain ⟨db, hdb⟩ : ∃ db : Bool, Hid (db = decide (48 + g ≤ (mor true f n l k j q).toNat)) := ⟨_, hide rfl⟩
          have HCn : Hid (db = decide (cntN f n l k g j q = M)) := hide (by
            rw [hdb.out, cnt_is HDG.out hlj hlt HN.out.2.2.2.2.1, eM.out, eP.out])
          have HLe : Hid ((opn f n l k j q).toNat ≤ (f j q).toNat) := hide (opn_le HDG.out hlj hlt)
          by_cases c1 : (k : Int) ≤ (j : Int)
          · by_cases c2 : (k : Int) ≤ (q : Int)
            · obtain ⟨X, eX⟩ : ∃ X : Nat, Hid (X = j - k) := ⟨_, hide rfl⟩
              obtain ⟨Y, eY⟩ : ∃ Y : Nat, Hid (Y = q - k) := ⟨_, hide rfl⟩
              obtain ⟨B, eB⟩ : ∃ B : Nat, Hid (B = 2 * k + 1) := ⟨_, hide rfl⟩
              have hX : (j : Int) - (k : Int) = (X : Int) := by have := eX.out; omega
              have hY : (q : Int) - (k : Int) = (Y : Int) := by have := eY.out; omega
              have hPB : P = (B : Int) := by have := eP.out; have := eB.out; omega
              have hP : 2 * (k : Int) + 1 = (B : Int) := by have := eB.out; omega
              by_cases c3 : j + k < n ∧ q + k < l
              · obtain ⟨R, eR⟩ : ∃ R : Int, Hid (R = rectN (usB f g) X Y B B) := ⟨_, hide rfl⟩
                have HRN : Hid (cntN f n l k g j q = R) := hide (by
                  unfold cntN
                  rw [if_pos ⟨by omega, by omega⟩, if_pos c3, eR.out, eX.out, eY.out, eB.out])
                have HC := hide (count_in t sb sc n l X Y B B rb rc _ wx HOx.out.2.2 (by have := eB.out; omega) (by have := eB.out; omega) (by have := eX.out; have := eB.out; omega) (by have := eY.out; have := eB.out; omega) HN.out.2.1 HN.out.2.2.1)
                rw [← eR.out] at HC
                clear c3
                go_wp2_with fail
                refine HC.out.mono ?_
                rintro e w6 ⟨rfl, hb⟩
                have HB6 := hide (bt HB.out hb)
                have HO6 := hide (op_step HOx.out hb)
                clear hb HC hP hPB hX hY c1 c2 HOx HB
                have HNx := HRN
                have e1 := (HO6.out.1.1 q hlt).1
                have e2 := (HO6.out.1.2 q hlt).1
                have e3 := (HO6.out.2.1 q hlt).1
                obtain ⟨s1, es1⟩ : ∃ s, Hid (s = rowS f n q) := ⟨_, hide rfl⟩
                obtain ⟨s2, es2⟩ : ∃ s, Hid (s = rowS (opn f n l k) n q) := ⟨_, hide rfl⟩
                obtain ⟨s3, es3⟩ : ∃ s, Hid (s = rowS (mor true f n l k) n q) := ⟨_, hide rfl⟩
                rw [← es1.out] at e1
                rw [← es2.out] at e2
                rw [← es3.out] at e3
                have l1 : j < s1.size := by rw [es1.out, rowS_size]; exact hlj
                have l2 : j < s2.size := by rw [es2.out, rowS_size]; exact hlj
                have l3 : j < s3.size := by rw [es3.out, rowS_size]; exact hlj
                have l1i : (j : Int) < (s1.size : Int) := by omega
                have l2i : (j : Int) < (s2.size : Int) := by omega
                have l3i : (j : Int) < (s3.size : Int) := by omega
                have G1 : Hid (s1[j] = f j q) := hide (by rw [get_in l1, es1.out, get_row f n _ q hlj])
                have G2 : Hid (s2[j] = opn f n l k j q) := hide (by rw [get_in l2, es2.out, get_row (opn f n l k) n _ q hlj])
                have G3 : Hid (s3[j] = mor true f n l k j q) := hide (by rw [get_in l3, es3.out, get_row (mor true f n l k) n _ q hlj])
                have g1 : decide (s1[j].toNat < s2[j].toNat) = false := by rw [G1.out, G2.out]; simp; exact HLe.out
                have g2 : decide ((s1[j].toNat : Int) < (s2[j].toNat : Int)) = false := by rw [G1.out, G2.out]; simp; exact HLe.out
                have hdb2 : Hid (db = decide (48 + g ≤ s3[j].toNat)) := hide (by rw [G3.out]; exact hdb.out)
                have HCn2 : Hid (db = decide (R = M)) := hide (by rw [← HNx.out]; exact HCn.out)
                obtain ⟨⟨hw1, hw2, hw3⟩, hw4, hw5⟩ := HW.out
                obtain ⟨hP, hM⟩ := HPM.out
                cases db
                · have k1 : decide (48 + (g : Int) ≤ (s3[j].toNat : Int)) = false := by
                    have := hdb2.out
                    rw [eq_comm, decide_eq_false_iff_not] at this
                    rw [decide_eq_false_iff_not]; omega
                  have k2 : ((R : Int) == M) = false := by
                    have := HCn2.out
                    rw [eq_comm, decide_eq_false_iff_not] at this
                    simpa using this
                  clear HCn HCn2 hdb hdb2
                  go_wp2_with fail
                  go_quiet (fail)
                  go_wp2_with fail
                  go_roundw
                  case rel => exact ⟨_, j + 1, rfl, by omega, by go_num, HB6.out.trans (bdn _ _ _)⟩
                  case measure => simp [intOf]; omega
                · have k1 : decide (48 + (g : Int) ≤ (s3[j].toNat : Int)) = true := by
                    have := hdb2.out
                    rw [eq_comm, decide_eq_true_eq] at this
                    rw [decide_eq_true_eq]; omega
                  have k2 : ((R : Int) == M) = true := by
                    have := HCn2.out
                    rw [eq_comm, decide_eq_true_eq] at this
                    simpa using this
                  clear HCn HCn2 hdb hdb2
                  go_wp2_with fail
                  go_quiet (fail)
                  go_wp2_with fail
                  go_roundw
                  case rel => exact ⟨_, j + 1, rfl, by omega, by go_num, HB6.out.trans (bdn _ _ _)⟩
                  case measure => simp [intOf]; omega
              · have HNx : Hid (cntN f n l k g j q = 0) := hide (by unfold cntN; rw [if_pos ⟨by omega, by omega⟩, if_neg c3])
                have HC := hide (count_out t sb sc n l rb rc _ X Y B B wx HOx.out.2.2 (rectB_yes (by omega) (by omega) (by have := eB.out; omega) (by have := eB.out; omega)) (liesB_no (by have := eX.out; have := eY.out; have := eB.out; omega)) (by have := eB.out; omega) (by have := eB.out; omega) HN.out.2.1 HN.out.2.2.1)
                clear c3
                go_wp2_with fail
                refine HC.out.mono ?_
                rintro e w6 ⟨rfl, hb⟩
                have HB6 := hide (bt HB.out hb)
                have HO6 := hide (op_step HOx.out hb)
                clear hb HC hP hPB hX hY c1 c2 HOx HB
                have e1 := (HO6.out.1.1 q hlt).1
                have e2 := (HO6.out.1.2 q hlt).1
                have e3 := (HO6.out.2.1 q hlt).1
                obtain ⟨s1, es1⟩ : ∃ s, Hid (s = rowS f n q) := ⟨_, hide rfl⟩
                obtain ⟨s2, es2⟩ : ∃ s, Hid (s = rowS (opn f n l k) n q) := ⟨_, hide rfl⟩
                obtain ⟨s3, es3⟩ : ∃ s, Hid (s = rowS (mor true f n l k) n q) := ⟨_, hide rfl⟩
                rw [← es1.out] at e1
                rw [← es2.out] at e2
                rw [← es3.out] at e3
                have l1 : j < s1.size := by rw [es1.out, rowS_size]; exact hlj
                have l2 : j < s2.size := by rw [es2.out, rowS_size]; exact hlj
                have l3 : j < s3.size := by rw [es3.out, rowS_size]; exact hlj
                have l1i : (j : Int) < (s1.size : Int) := by omega
                have l2i : (j : Int) < (s2.size : Int) := by omega
                have l3i : (j : Int) < (s3.size : Int) := by omega
                have G1 : Hid (s1[j] = f j q) := hide (by rw [get_in l1, es1.out, get_row f n _ q hlj])
                have G2 : Hid (s2[j] = opn f n l k j q) := hide (by rw [get_in l2, es2.out, get_row (opn f n l k) n _ q hlj])
                have G3 : Hid (s3[j] = mor true f n l k j q) := hide (by rw [get_in l3, es3.out, get_row (mor true f n l k) n _ q hlj])
                have g1 : decide (s1[j].toNat < s2[j].toNat) = false := by rw [G1.out, G2.out]; simp; exact HLe.out
                have g2 : decide ((s1[j].toNat : Int) < (s2[j].toNat : Int)) = false := by rw [G1.out, G2.out]; simp; exact HLe.out
                have hdb2 : Hid (db = decide (48 + g ≤ s3[j].toNat)) := hide (by rw [G3.out]; exact hdb.out)
                have HCn2 : Hid (db = decide (0 = M)) := hide (by rw [← HNx.out]; exact HCn.out)
                obtain ⟨⟨hw1, hw2, hw3⟩, hw4, hw5⟩ := HW.out
                obtain ⟨hP, hM⟩ := HPM.out
                cases db
                · have k1 : decide (48 + (g : Int) ≤ (s3[j].toNat : Int)) = false := by
                    have := hdb2.out
                    rw [eq_comm, decide_eq_false_iff_not] at this
                    rw [decide_eq_false_iff_not]; omega
                  have k2 : ((0 : Int) == M) = false := by
                    have := HCn2.out
                    rw [eq_comm, decide_eq_false_iff_not] at this
                    simpa using this
                  clear HCn HCn2 hdb hdb2
                  go_wp2_with fail
                  go_quiet (fail)
                  go_wp2_with fail
                  go_roundw
                  case rel => exact ⟨_, j + 1, rfl, by omega, by go_num, HB6.out.trans (bdn _ _ _)⟩
                  case measure => simp [intOf]; omega
                · have k1 : decide (48 + (g : Int) ≤ (s3[j].toNat : Int)) = true := by
                    have := hdb2.out
                    rw [eq_comm, decide_eq_true_eq] at this
                    rw [decide_eq_true_eq]; omega
                  have k2 : ((0 : Int) == M) = true := by
                    have := HCn2.out
                    rw [eq_comm, decide_eq_true_eq] at this
                    simpa using this
                  clear HCn HCn2 hdb hdb2
                  go_wp2_with fail
                  go_quiet (fail)
                  go_wp2_with fail
                  go_roundw
                  case rel => exact ⟨_, j + 1, rfl, by omega, by go_num, HB6.out.trans (bdn _ _ _)⟩
                  case measure => simp [intOf]; omega
            · have HNx : Hid (cntN f n l k g j q = -1) := hide (by unfold cntN; rw [if_neg (by omega)])
              have HB6 := HB
              have HO6 := HOx
              have e1 := (HO6.out.1.1 q hlt).1
              have e2 := (HO6.out.1.2 q hlt).1
              have e3 := (HO6.out.2.1 q hlt).1
              obtain ⟨s1, es1⟩ : ∃ s, Hid (s = rowS f n q) := ⟨_, hide rfl⟩
              obtain ⟨s2, es2⟩ : ∃ s, Hid (s = rowS (opn f n l k) n q) := ⟨_, hide rfl⟩
              obtain ⟨s3, es3⟩ : ∃ s, Hid (s = rowS (mor true f n l k) n q) := ⟨_, hide rfl⟩
              rw [← es1.out] at e1
              rw [← es2.out] at e2
              rw [← es3.out] at e3
              have l1 : j < s1.size := by rw [es1.out, rowS_size]; exact hlj
              have l2 : j < s2.size := by rw [es2.out, rowS_size]; exact hlj
              have l3 : j < s3.size := by rw [es3.out, rowS_size]; exact hlj
              have l1i : (j : Int) < (s1.size : Int) := by omega
              have l2i : (j : Int) < (s2.size : Int) := by omega
              have l3i : (j : Int) < (s3.size : Int) := by omega
              have G1 : Hid (s1[j] = f j q) := hide (by rw [get_in l1, es1.out, get_row f n _ q hlj])
              have G2 : Hid (s2[j] = opn f n l k j q) := hide (by rw [get_in l2, es2.out, get_row (opn f n l k) n _ q hlj])
              have G3 : Hid (s3[j] = mor true f n l k j q) := hide (by rw [get_in l3, es3.out, get_row (mor true f n l k) n _ q hlj])
              have g1 : decide (s1[j].toNat < s2[j].toNat) = false := by rw [G1.out, G2.out]; simp; exact HLe.out
              have g2 : decide ((s1[j].toNat : Int) < (s2[j].toNat : Int)) = false := by rw [G1.out, G2.out]; simp; exact HLe.out
              have hdb2 : Hid (db = decide (48 + g ≤ s3[j].toNat)) := hide (by rw [G3.out]; exact hdb.out)
              have HCn2 : Hid (db = decide (-1 = M)) := hide (by rw [← HNx.out]; exact HCn.out)
              obtain ⟨⟨hw1, hw2, hw3⟩, hw4, hw5⟩ := HW.out
              obtain ⟨hP, hM⟩ := HPM.out
              cases db
              · have k1 : decide (48 + (g : Int) ≤ (s3[j].toNat : Int)) = false := by
                  have := hdb2.out
                  rw [eq_comm, decide_eq_false_iff_not] at this
                  rw [decide_eq_false_iff_not]; omega
                have k2 : ((-1 : Int) == M) = false := by
                  have := HCn2.out
                  rw [eq_comm, decide_eq_false_iff_not] at this
                  simpa using this
                clear HCn HCn2 hdb hdb2
                go_wp2_with fail
                go_quiet (fail)
                go_wp2_with fail
                go_roundw
                case rel => exact ⟨_, j + 1, rfl, by omega, by go_num, HB6.out.trans (bdn _ _ _)⟩
                case measure => simp [intOf]; omega
              · have k1 : decide (48 + (g : Int) ≤ (s3[j].toNat : Int)) = true := by
                  have := hdb2.out
                  rw [eq_comm, decide_eq_true_eq] at this
                  rw [decide_eq_true_eq]; omega
                have k2 : ((-1 : Int) == M) = true := by
                  have := HCn2.out
                  rw [eq_comm, decide_eq_true_eq] at this
                  simpa using this
                clear HCn HCn2 hdb hdb2
                go_wp2_with fail
                go_quiet (fail)
                go_wp2_with fail
                go_roundw
                case rel => exact ⟨_, j + 1, rfl, by omega, by go_num, HB6.out.trans (bdn _ _ _)⟩
                case measure => simp [intOf]; omega
          · have HNx : Hid (cntN f n l k g j q = -1) := hide (by unfold cntN; rw [if_neg (by omega)])
            have HB6 := HB
            have HO6 := HOx
            have e1 := (HO6.out.1.1 q hlt).1
            have e2 := (HO6.out.1.2 q hlt).1
            have e3 := (HO6.out.2.1 q hlt).1
            obtain ⟨s1, es1⟩ : ∃ s, Hid (s = rowS f n q) := ⟨_, hide rfl⟩
            obtain ⟨s2, es2⟩ : ∃ s, Hid (s = rowS (opn f n l k) n q) := ⟨_, hide rfl⟩
            obtain ⟨s3, es3⟩ : ∃ s, Hid (s = rowS (mor true f n l k) n q) := ⟨_, hide rfl⟩
            rw [← es1.out] at e1
            rw [← es2.out] at e2
            rw [← es3.out] at e3
            have l1 : j < s1.size := by rw [es1.out, rowS_size]; exact hlj
            have l2 : j < s2.size := by rw [es2.out, rowS_size]; exact hlj
            have l3 : j < s3.size := by rw [es3.out, rowS_size]; exact hlj
            have l1i : (j : Int) < (s1.size : Int) := by omega
            have l2i : (j : Int) < (s2.size : Int) := by omega
            have l3i : (j : Int) < (s3.size : Int) := by omega
            have G1 : Hid (s1[j] = f j q) := hide (by rw [get_in l1, es1.out, get_row f n _ q hlj])
            have G2 : Hid (s2[j] = opn f n l k j q) := hide (by rw [get_in l2, es2.out, get_row (opn f n l k) n _ q hlj])
            have G3 : Hid (s3[j] = mor true f n l k j q) := hide (by rw [get_in l3, es3.out, get_row (mor true f n l k) n _ q hlj])
            have g1 : decide (s1[j].toNat < s2[j].toNat) = false := by rw [G1.out, G2.out]; simp; exact HLe.out
            have g2 : decide ((s1[j].toNat : Int) < (s2[j].toNat : Int)) = false := by rw [G1.out, G2.out]; simp; exact HLe.out
            have hdb2 : Hid (db = decide (48 + g ≤ s3[j].toNat)) := hide (by rw [G3.out]; exact hdb.out)
            have HCn2 : Hid (db = decide (-1 = M)) := hide (by rw [← HNx.out]; exact HCn.out)
            obtain ⟨⟨hw1, hw2, hw3⟩, hw4, hw5⟩ := HW.out
            obtain ⟨hP, hM⟩ := HPM.out
            cases db
            · have k1 : decide (48 + (g : Int) ≤ (s3[j].toNat : Int)) = false := by
                have := hdb2.out
                rw [eq_comm, decide_eq_false_iff_not] at this
                rw [decide_eq_false_iff_not]; omega
              have k2 : ((-1 : Int) == M) = false := by
                have := HCn2.out
                rw [eq_comm, decide_eq_false_iff_not] at this
                simpa using this
              clear HCn HCn2 hdb hdb2
              go_wp2_with fail
              go_quiet (fail)
              go_wp2_with fail
              go_roundw
              case rel => exact ⟨_, j + 1, rfl, by omega, by go_num, HB6.out.trans (bdn _ _ _)⟩
              case measure => simp [intOf]; omega
            · have k1 : decide (48 + (g : Int) ≤ (s3[j].toNat : Int)) = true := by
                have := hdb2.out
                rw [eq_comm, decide_eq_true_eq] at this
                rw [decide_eq_true_eq]; omega
              have k2 : ((-1 : Int) == M) = true := by
                have := HCn2.out
                rw [eq_comm, decide_eq_true_eq] at this
                simpa using this
              clear HCn HCn2 hdb hdb2
              go_wp2_with fail
              go_quiet (fail)
              go_wp2_with fail
              go_roundw
              case rel => exact ⟨_, j + 1, rfl, by omega, by go_num, HB6.out.trans (bdn _ _ _)⟩
              case measure => simp [intOf]; omega
        · obtain rfl : j = n := by omega
          go_wp2_with fail
          go_roundw
          case rel => exact ⟨_, q + 1, rfl, by omega, by go_num, HB.out⟩
          case measure => simp [intOf]; omega
    · obtain rfl : q = l := by omega
      go_wp2_with fail
      refine (awake_any _).mono ?_
      rintro e w2 ⟨rfl, hb⟩
      have HB2 := hide (bt HB5.out (bt HB.out hb)); clear hb
      go_wp2_with fail
      go_ret
      exact ⟨rfl, HB2.out⟩
end Go.Proofs.Ytkajcbjacjfhnaa
