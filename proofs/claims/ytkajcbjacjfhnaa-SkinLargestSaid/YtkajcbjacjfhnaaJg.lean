/- The reference's Largest. -/
import Derived.Test.YtkajcbjacjfhnaaJf
set_option linter.unusedVariables false
namespace Go.Proofs.Ytkajcbjacjfhnaa
open Go.RowKit Go.Ab
/-- what the reference's loops keep -/
def Lg (w : World) (q2 sb n l : Nat) (u : Nat → Nat → Bool) (P : Rk → Prop) (W : World) : Prop := ∃ b, Top P b ∧ ((b.w ≤ 48 ∧ b.h ≤ 48) ∧ b.x ≤ 48 ∧ b.y ≤ 48) ∧ Blk W q2 (rkV b) 39 ∧ Blk W w.heap.size #[.int .i64 0, .int .i64 0, .int .i64 0, .int .i64 0] 39 ∧ Sx W sb u n l ∧ Below w.heap.size w W
theorem lg_step {w W W' : World} {q2 sb n l : Nat} {u : Nat → Nat → Bool} {P : Rk → Prop} (H : Lg w q2 sb n l u P W) (hb : Below W.heap.size W W') : Lg w q2 sb n l u P W' := by
  obtain ⟨b, h1, h2, h3, h4, h5, h6⟩ := H
  exact ⟨b, h1, h2, h3.below hb, h4.below hb, sx_step h5 hb, bt h6 hb⟩
theorem lg_mono {w W : World} {q2 sb n l : Nat} {u : Nat → Nat → Bool} {P P' : Rk → Prop} (H : Lg w q2 sb n l u P W) (h : ∀ b, Top P b → Top P' b) : Lg w q2 sb n l u P' W := by
  obtain ⟨b, h1, r⟩ := H
  exact ⟨b, h b h1, r⟩
theorem lg_set {w W : World} {q2 sb n l : Nat} {u : Nat → Nat → Bool} {P : Rk → Prop} {b r : Rk} (h3 : Blk W q2 (rkV b) 39) (h4 : Blk W w.heap.size #[.int .i64 0, .int .i64 0, .int .i64 0, .int .i64 0] 39) (h5 : Sx W sb u n l) (h6 : Below w.heap.size w W) (hq : w.heap.size < q2) (hs : sb ≠ q2) (ht : Top P r) (hr : (r.w ≤ 48 ∧ r.h ≤ 48) ∧ r.x ≤ 48 ∧ r.y ≤ 48) :
    Lg w q2 sb n l u P ((((W.setCell ⟨q2, 0, none⟩ (.int .i64 r.x)).setCell ⟨q2, 1, none⟩ (.int .i64 r.y)).setCell ⟨q2, 2, none⟩ (.int .i64 r.w)).setCell ⟨q2, 3, none⟩ (.int .i64 r.h)) :=
  have hg := gb_set4 W q2 (.int .i64 r.x) (.int .i64 r.y) (.int .i64 r.w) (.int .i64 r.h)
  ⟨r, ht, hr, h3.set4 _ _ _ _, h4.other hg (by omega), fun y x hy hx => gb_cell hg (h5 y x hy hx) hs, h6.trans (gb_low hg (by omega) h6.size)⟩
set_option maxRecDepth 20000 in
set_option maxHeartbeats 16000000 in
theorem rlargest_is (bb off l c n g : Nat) (sq : Bool) (f : Nat → Nat → UInt8) (w : World) (hz : ZsAt w bb off l (rowS f n)) (hd : Dim (n, l, f)) (hg : Dg (n, l, f)) (hgd : goodB l (rowS f n) g = true) :
    Calls Try.prog 53 #[.slice (some ⟨bb, off, none⟩) l c, .int .i64 g, .bool sq] w (Gr sq (usB f g) n l w) := by
  have hb0 : Below w.heap.size w (w.alloc (.cells #[.int .i64 0, .int .i64 0, .int .i64 0, .int .i64 0] 39)) := (Below.refl _ _).alloc (Nat.le_refl _) _
  have HB0 := hide hb0
  have Z0 := hide (hz.below hb0)
  have K0 := hide (Blk.new w #[.int .i64 0, .int .i64 0, .int .i64 0, .int .i64 0] 39)
  have HN : Hid ((1 ≤ n ∧ 1 ≤ l) ∧ n ≤ 48 ∧ l ≤ 48) := hide ⟨⟨hd.1.1, hd.2.1⟩, hd.1.2, hd.2.2⟩
  have H9 : Hid (g ≤ 9) := hide (by have := (goodB_get hgd).2.2; omega)
  have HGD := hide hgd
  have HD := hide hd
  have HG := hide hg
  have c0 := (Z0.out 0 hd.2.1).1
  rw [Nat.add_zero] at c0
  have hsz : (rowS f n 0).size = n := rowS_size f n 0
  have h1n : 0 < l := hd.2.1
  have h1i : (0 : Int) < (l : Int) := by omega
  have bn : (n : Int) ≤ 48 := by have := HN.out; omega
  have bl : (l : Int) ≤ 48 := by have := HN.out; omega
  clear hz hd hg hgd hb0
  go_enter Try.func53, Try.ntmps53
  go_wp2_with (go_at_call 27; refine (good_is _ l c g _ _ (.inr ⟨bb, off, rfl, Z0.out⟩)).mono ?_; rintro e w' ⟨rfl, rfl⟩; rw [HGD.out])
  refine (sums_is bb off c n l g f _ Z0.out HD.out HG.out H9.out).mono ?_
  rintro e w1 ⟨sv, rfl, ⟨sb, sc, rfl, hsx⟩, hb⟩
  have hbA : Below w1.heap.size w1 (w1.alloc (.cells #[.int .i64 0, .int .i64 0, .int .i64 0, .int .i64 0] 39)) := (Below.refl _ _).alloc (Nat.le_refl _) _
  have HSb : Hid (sb < w1.heap.size ∧ w.heap.size < w1.heap.size) := hide ⟨World.block_lt_of_cell? _ _ (hsx 0 0 (Nat.zero_le _) (Nat.zero_le _)), by have := hb.size; simp at this; omega⟩
  have L0 : Hid (Lg w w1.heap.size sb n l (usB f g) (PrR sq (usB f g) n l 0 0 1 1) (w1.alloc (.cells #[.int .i64 0, .int .i64 0, .int .i64 0, .int .i64 0] 39))) := hide
    ⟨Rk.nil, prR_none, ⟨⟨by simp [Rk.nil], by simp [Rk.nil]⟩, by simp [Rk.nil], by simp [Rk.nil]⟩, Blk.new w1 _ 39, (K0.out.below hb).below hbA, sx_step hsx hbA, bt (bt HB0.out hb) hbA⟩
  obtain ⟨q2, eq2⟩ : ∃ q, Hid (q = w1.heap.size) := ⟨_, hide rfl⟩
  rw [← eq2.out] at L0 HSb
  clear hsx hb hbA Z0 K0 HB0 c0
  go_wp2_with fail
  rw [← eq2.out]
  go_loopw [34] (fun i wr => ∃ (wq : World) (y : Nat), wq = wr ∧ y ≤ l ∧ i = .int .i64 y ∧ Lg w q2 sb n l (usB f g) (PrR sq (usB f g) n l 0 y 1 1) wr) (fun i _ => l - (intOf i).toNat)
  case atStart => exact ⟨_, 0, rfl, Nat.zero_le _, rfl, L0.out⟩
  case round =>
    clear L0
    obtain ⟨wr, y, rfl, hy, rfl, hL⟩ := hrel
    have HL := hide hL
    clear hL
    by_cases hlt : y < l
    · go_wp2_with fail
      go_loopw [38] (fun i wx => ∃ (wq : World) (x : Nat), wq = wx ∧ x ≤ n ∧ i = .int .i64 x ∧ Lg w q2 sb n l (usB f g) (PrR sq (usB f g) n l x y 1 1) wx) (fun i _ => n - (intOf i).toNat)
      case atStart => exact ⟨_, 0, rfl, Nat.zero_le _, rfl, HL.out⟩
      case round =>
        clear HL
        obtain ⟨wx, x, rfl, hx, rfl, hL⟩ := hrel
        have HL := hide hL
        clear hL
        by_cases hlx : x < n
        · go_wp2_with fail
          go_loopw [14] (fun i wa => ∃ (wq : World) (W : Nat), wq = wa ∧ (1 ≤ W ∧ W ≤ n + 1) ∧ i = .int .i64 W ∧ Lg w q2 sb n l (usB f g) (PrR sq (usB f g) n l x y W 1) wa) (fun i _ => (n + 1 - intOf i).toNat)
          case atStart => exact ⟨_, 1, rfl, ⟨Nat.le_refl _, by omega⟩, rfl, HL.out⟩
          case round =>
            clear HL
            obtain ⟨wa, W, rfl, ⟨hW1, hW2⟩, rfl, hL⟩ := hrel
            have HL := hide hL
            clear hL
            by_cases hlw : (x : Int) + (W : Int) ≤ (n : Int)
            · go_wp2_with fail
              go_loopw [15] (fun i wb => ∃ (wq : World) (H : Nat), wq = wb ∧ (1 ≤ H ∧ H ≤ l + 1) ∧ i = .int .i64 H ∧ Lg w q2 sb n l (usB f g) (PrR sq (usB f g) n l x y W H) wb) (fun i _ => (l + 1 - intOf i).toNat)
              case atStart => exact ⟨_, 1, rfl, ⟨Nat.le_refl _, by omega⟩, rfl, HL.out⟩
              case round =>
                clear HL
                obtain ⟨wb, H, rfl, ⟨hH1, hH2⟩, rfl, hL⟩ := hrel
                have HL := hide hL
                by_cases hlh : (y : Int) + (H : Int) ≤ (l : Int)
                · have hbR : Below wb.heap.size wb (wb.alloc (.cells #[.int .i64 x, .int .i64 y, .int .i64 W, .int .i64 H] 39)) := (Below.refl _ _).alloc (Nat.le_refl _) _
                  have HLr := hide (lg_step HL.out hbR)
                  have HR4 := hide (rx_new wb x y W H)
                  clear hL HL hbR
                  have bx : (x : Int) ≤ 48 := by omega
                  have by' : (y : Int) ≤ 48 := by omega
                  have bW : (W : Int) ≤ 48 := by omega
                  have bH : (H : Int) ≤ 48 := by omega
                  by_cases hsq : sq = true ∧ W ≠ H
                  · obtain ⟨rfl, hne⟩ := hsq
                    have hne2 : ((W : Int) != (H : Int)) = true := by simp; omega
                    have HT := hide (lg_mono HLr.out fun b ht => prR_skip ht (by
                      rintro ⟨_, hs⟩
                      exact hne (hs rfl)))
                    clear hne
                    go_wp2_with fail
                    go_roundw
                    case rel => exact ⟨_, H + 1, rfl, ⟨by omega, by omega⟩, by go_num, HT.out⟩
                    case measure => simp [intOf]; omega
                  · have hsq2 : Hid (sq = true → W = H) := hide fun h => by
                      by_cases e : W = H
                      · exact e
                      · exact absurd ⟨h, e⟩ hsq
                    clear hsq
                    obtain ⟨⟨q0, q1⟩, q3, q4⟩ := HR4.out
                    have HC := hide (full_in sb sc n l x y W H (usB f g) _ HLr.out.choose_spec.2.2.2.2.1 (by omega) (by omega) HN.out.2.1 HN.out.2.2)
                    have HFi : Hid (FullS sq (usB f g) n l ⟨x, y, W, H⟩ ↔ fullB (usB f g) x y W H = true) := hide (by
                      have := full_iff (u := usB f g) (n := n) (l := l) (r := ⟨x, y, W, H⟩) hW1 hH1 (by show x + W ≤ n; omega) (by show y + H ≤ l; omega)
                      unfold FullS
                      rw [this]
                      exact ⟨fun h => h.1, fun h => ⟨h, hsq2.out⟩⟩)
                    obtain ⟨fb, hfb⟩ : ∃ fb, Hid (fb = fullB (usB f g) x y W H) := ⟨_, hide rfl⟩
                    rw [← hfb.out] at HC HFi
                    have hsqw : (sq && ((W : Int) != (H : Int))) = false := by
                      cases sq with
                      | false => rfl
                      | true => have := hsq2.out rfl; simp; omega
                    have CALL := HC
                    cases sq
                    all_goals
                      go_wp2_with fail
                      refine CALL.out.mono ?_
                      rintro e w2 ⟨rfl, hb⟩
                      have HL2 := hide (lg_step HLr.out hb)
                      have HR2 := hide (rx_step HR4.out hb)
                      clear hb CALL HC HLr HR4 q0 q1 q3 q4
                      obtain ⟨⟨q0, q1⟩, q3, q4⟩ := HR2.out
                      cases fb
                      · have HT := hide (lg_mono HL2.out fun b ht => prR_skip ht (by rw [HFi.out]; simp))
                        go_wp2_with fail
                        go_roundw
                        case rel => exact ⟨_, H + 1, rfl, ⟨by omega, by omega⟩, by go_num, HT.out⟩
                        case measure => simp [intOf]; omega
                      · obtain ⟨b, ht, hbd, hq, hrs, hsx, hbl⟩ := HL2.out
                        have HTp := hide ht
                        have HBd := hide hbd
                        have HQ := hide hq
                        have HRs := hide hrs
                        have HSx := hide hsx
                        have HBl := hide hbl
                        have HSb2 : Hid (w.heap.size < q2 ∧ sb ≠ q2) := hide ⟨HSb.out.2, by have := HSb.out.1; omega⟩
                        obtain ⟨A, eA⟩ : ∃ A : Nat, Hid (A = W * H) := ⟨_, hide rfl⟩
                        obtain ⟨P, eP⟩ : ∃ A : Nat, Hid (A = b.w * b.h) := ⟨_, hide rfl⟩
                        have iA : (W : Int) * (H : Int) = (A : Int) := by rw [eA.out, Int.natCast_mul]
                        have iP : (b.w : Int) * (b.h : Int) = (P : Int) := by rw [eP.out, Int.natCast_mul]
                        have bA : A ≤ 48 * 48 := by rw [eA.out]; exact Nat.mul_le_mul (by omega) (by omega)
                        have bP : P ≤ 48 * 48 := by rw [eP.out]; exact Nat.mul_le_mul hbd.1.1 hbd.1.2
                        have bA2 : (A : Int) ≤ 2304 := by omega
                        have bP2 : (P : Int) ≤ 2304 := by omega
                        have bbw : (b.w : Int) ≤ 48 := by have := hbd.1.1; omega
                        have bbh : (b.h : Int) ≤ 48 := by have := hbd.1.2; omega
                        have k0 := hq.cell 0 (v := .int .i64 b.x) rfl
                        have k1 := hq.cell 1 (v := .int .i64 b.y) rfl
                        have k2 := hq.cell 2 (v := .int .i64 b.w) rfl
                        have k3 := hq.cell 3 (v := .int .i64 b.h) rfl
                        have f0 := hq.free 0
                        have f1 := hq.free 1
                        have f2 := hq.free 2
                        have f3 := hq.free 3
                        clear ht hbd hq hrs hsx hbl bA bP HL2
                        rcases Nat.lt_trichotomy P A with h | h | h
                        · have e1 : ((A : Int) == (P : Int)) = false := by simp; omega
                          have e2 : decide (P < A) = true := by simp; omega
                          have HT := hide (prR_take HTp.out (HFi.out.2 rfl) (by unfold takes; show _ ∨ _; rw [← eA.out, ← eP.out]; simp only; omega))
                          have HLs := hide (lg_set (r := ⟨x, y, W, H⟩) HQ.out HRs.out HSx.out HBl.out HSb2.out.1 HSb2.out.2 HT.out ⟨⟨by show W ≤ 48; omega, by show H ≤ 48; omega⟩, by show x ≤ 48; omega, by show y ≤ 48; omega⟩)
                          go_wp2_with fail
                          go_roundw
                          case rel => exact ⟨_, H + 1, rfl, ⟨by omega, by omega⟩, by go_num, HLs.out⟩
                          case measure => simp [intOf]; omega
                        · have e1 : ((A : Int) == (P : Int)) = true := by simp; omega
                          have e2 : decide (P < A) = false := by simp; omega
                          have HPA := hide h
                          clear h
                          by_cases hyy : y = b.y
                          · have e3 : ((y : Int) == (b.y : Int)) = true := by simp; omega
                            have HYY := hide hyy
                            clear hyy
                            by_cases hxx : x = b.x
                            · have e4 : ((x : Int) == (b.x : Int)) = true := by simp; omega
                              have HXX := hide hxx
                              clear hxx
                              by_cases hww : b.w < W
                              · have e5 : decide (b.w < W) = true := by simp; omega
                                have HT := hide (prR_take HTp.out (HFi.out.2 rfl) (by unfold takes; show _ ∨ _; rw [← eA.out, ← eP.out]; simp only; have := HPA.out; have := HYY.out; have := HXX.out; omega))
                                have HLs := hide (lg_set (r := ⟨x, y, W, H⟩) HQ.out HRs.out HSx.out HBl.out HSb2.out.1 HSb2.out.2 HT.out ⟨⟨by show W ≤ 48; omega, by show H ≤ 48; omega⟩, by show x ≤ 48; omega, by show y ≤ 48; omega⟩)
                                go_wp2_with fail
                                go_roundw
                                case rel => exact ⟨_, H + 1, rfl, ⟨by omega, by omega⟩, by go_num, HLs.out⟩
                                case measure => simp [intOf]; omega
                              · have e5 : decide (b.w < W) = false := by simp; omega
                                have HT := hide (prR_keep HTp.out (HFi.out.2 rfl) (by unfold takes; show ¬ _; rw [← eA.out, ← eP.out]; simp only; have := HPA.out; have := HYY.out; have := HXX.out; omega))
                                go_wp2_with fail
                                go_roundw
                                case rel => exact ⟨_, H + 1, rfl, ⟨by omega, by omega⟩, by go_num, ⟨b, HT.out, HBd.out, HQ.out, HRs.out, HSx.out, HBl.out⟩⟩
                                case measure => simp [intOf]; omega
                            · have e4 : ((x : Int) == (b.x : Int)) = false := by simp; omega
                              have HT := hide (prR_keep HTp.out (HFi.out.2 rfl) (by unfold takes; show ¬ _; rw [← eA.out, ← eP.out]; simp only; have := HPA.out; have := HYY.out; omega))
                              go_wp2_with fail
                              go_roundw
                              case rel => exact ⟨_, H + 1, rfl, ⟨by omega, by omega⟩, by go_num, ⟨b, HT.out, HBd.out, HQ.out, HRs.out, HSx.out, HBl.out⟩⟩
                              case measure => simp [intOf]; omega
                          · have e3 : ((y : Int) == (b.y : Int)) = false := by simp; omega
                            have HT := hide (prR_keep HTp.out (HFi.out.2 rfl) (by unfold takes; show ¬ _; rw [← eA.out, ← eP.out]; simp only; have := HPA.out; omega))
                            go_wp2_with fail
                            go_roundw
                            case rel => exact ⟨_, H + 1, rfl, ⟨by omega, by omega⟩, by go_num, ⟨b, HT.out, HBd.out, HQ.out, HRs.out, HSx.out, HBl.out⟩⟩
                            case measure => simp [intOf]; omega
                        · have e1 : ((A : Int) == (P : Int)) = false := by simp; omega
                          have e2 : decide (P < A) = false := by simp; omega
                          have HT := hide (prR_keep HTp.out (HFi.out.2 rfl) (by unfold takes; show ¬ _; rw [← eA.out, ← eP.out]; simp only; omega))
                          go_wp2_with fail
                          go_roundw
                          case rel => exact ⟨_, H + 1, rfl, ⟨by omega, by omega⟩, by go_num, ⟨b, HT.out, HBd.out, HQ.out, HRs.out, HSx.out, HBl.out⟩⟩
                          case measure => simp [intOf]; omega
                · have hend : l < y + H := by omega
                  have HT := hide (lg_mono HL.out fun b ht => prR_w hend ht)
                  clear hL
                  go_wp2_with fail
                  go_roundw
                  case rel => exact ⟨_, W + 1, rfl, ⟨by omega, by omega⟩, by go_num, HT.out⟩
                  case measure => simp [intOf]; omega
            · have hend : n < x + W := by omega
              have HT := hide (lg_mono HL.out fun b ht => prR_x hend ht)
              go_wp2_with fail
              go_roundw
              case rel => exact ⟨_, x + 1, rfl, by omega, by go_num, HT.out⟩
              case measure => simp [intOf]; omega
        · obtain rfl : x = n := by omega
          have HT := hide (lg_mono HL.out fun b ht => prR_y ht)
          go_wp2_with fail
          go_roundw
          case rel => exact ⟨_, y + 1, rfl, by omega, by go_num, HT.out⟩
          case measure => simp [intOf]; omega
    · obtain rfl : y = l := by omega
      obtain ⟨b, ht, hbd, hq, hr, _, hb⟩ := HL.out
      have HT := hide (prR_all ht)
      have HB := hide hb
      have k0 := hq.cell 0 (v := .int .i64 b.x) rfl
      have k1 := hq.cell 1 (v := .int .i64 b.y) rfl
      have k2 := hq.cell 2 (v := .int .i64 b.w) rfl
      have k3 := hq.cell 3 (v := .int .i64 b.h) rfl
      have r0 := hr.cell 0 (v := .int .i64 0) rfl
      have r1 := hr.cell 1 (v := .int .i64 0) rfl
      have r2 := hr.cell 2 (v := .int .i64 0) rfl
      have r3 := hr.cell 3 (v := .int .i64 0) rfl
      have f0 := hr.free 0
      have f1 := hr.free 1
      have f2 := hr.free 2
      have f3 := hr.free 3
      clear ht hq hr hb hbd
      by_cases h0 : b.w = 0
      · have hw0 : ((b.w : Int) == 0) = true := by simp; omega
        have H0 := hide h0
        clear h0
        go_wp2_with fail
        refine bodyPost_ret (v := .tuple (grV b)) (by rw [grV_zero H0.out]; simp [results, Try.results53, go_sem, r0, r1, r2, r3, World.cell?_setCell_same]) rfl ⟨b, rfl, HT.out, ?_⟩
        exact HB.out.trans (gb_low (gb_set4 _ _ _ _ _ _) (Nat.le_refl _) HB.out.size)
      · have hw0 : ((b.w : Int) == 0) = false := by simp; omega
        have H0 := hide h0
        clear h0
        go_wp2_with fail
        refine bodyPost_ret (v := .tuple (grV b)) (by rw [grV_pos H0.out]; simp [results, Try.results53, go_sem, r0, r1, r2, r3, World.cell?_setCell_same]; rfl) rfl ⟨b, rfl, HT.out, ?_⟩
        exact HB.out.trans (gb_low (gb_set4 _ _ _ _ _ _) (Nat.le_refl _) HB.out.size)
end Go.Proofs.Ytkajcbjacjfhnaa
