import Derived.Test.YtpgnbjlpkpmpcaaZu
import Derived.Test.YtpgnbjlpkpmpcaaZm
set_option linter.unusedVariables false
namespace Go.Proofs.Ytpgnbjlpkpmpcaa.R
open Go.RowKit Go.Proofs.Ytpgnbjlpkpmpcaa.N
def Sx (w0 w : World) (s5 s6 s7 : Nat) (vp vl vr : Value) (p l r : Rat) : Prop := ∃ h, St w0 w s5 s6 s7 vp vl vr p l r h
theorem sx_step {w0 w w' : World} {s5 s6 s7 : Nat} {vp vl vr : Value} {p l r : Rat} (a : Hid (Sx w0 w s5 s6 s7 vp vl vr p l r)) (hb : Below w.heap.size w w') : Hid (Sx w0 w' s5 s6 s7 vp vl vr p l r) := by
  obtain ⟨h, a⟩ := a.out
  exact hide ⟨h, (st_step (hide a) hb).out⟩
theorem sx_drew {w0 w : World} {s5 s6 s7 : Nat} {vp vl vr : Value} {p l r : Rat} (a : Hid (Sx w0 w s5 s6 s7 vp vl vr p l r)) : Hid (Sx w0 w.drew s5 s6 s7 vp vl vr p l r) := by
  obtain ⟨h, a⟩ := a.out
  exact hide ⟨h, (st_drew (hide a)).out⟩
theorem sx_low {w0 w : World} {s5 s6 s7 : Nat} {vp vl vr : Value} {p l r : Rat} (a : Hid (Sx w0 w s5 s6 s7 vp vl vr p l r)) : RQ w vl l := by
  obtain ⟨h, a⟩ := a.out
  exact a.2.2.1.1
theorem sx_var {w0 w : World} {s5 s6 s7 : Nat} {vp vl vr : Value} {p l r : Rat} (a : Hid (Sx w0 w s5 s6 s7 vp vl vr p l r)) : ((∃ u, w.cell? ⟨s7, 0, none⟩ = some u) ∧ (∃ u, w.cell? ⟨s7, 1, none⟩ = some u) ∧ (∃ u, w.cell? ⟨s7, 2, none⟩ = some u)) ∧ FZ w s7 := by
  obtain ⟨h, a⟩ := a.out
  obtain ⟨_, _, _, _, ⟨⟨vh, _, b, x, l1, c1, y, l2, c2, rfl, h0, h1, h2⟩, f⟩, _⟩ := a
  exact ⟨⟨⟨_, h0⟩, ⟨_, h1⟩, ⟨_, h2⟩⟩, f⟩
theorem sx_put {w0 w : World} {s5 s6 s7 : Nat} {vp vl vr : Value} {p l r h' : Rat} (a : Hid (Sx w0 w s5 s6 s7 vp vl vr p l r)) {b : Bool} {x y : Option Addr} {l1 c1 l2 c2 : Nat} (n : RQ w (.agg #[.bool b, .slice x l1 c1, .slice y l2 c2]) h') :
    Hid (St w0 (((w.setCell ⟨s7, 0, none⟩ (.bool b)).setCell ⟨s7, 1, none⟩ (.slice x l1 c1)).setCell ⟨s7, 2, none⟩ (.slice y l2 c2)) s5 s6 s7 vp vl vr p l r h') := by
  obtain ⟨h, a⟩ := a.out
  exact st_put (hide a) n
theorem sx_of {w0 w : World} {s5 s6 s7 : Nat} {vp vl vr : Value} {p l r h : Rat} (a : Hid (St w0 w s5 s6 s7 vp vl vr p l r h)) : Hid (Sx w0 w s5 s6 s7 vp vl vr p l r) := hide ⟨h, a.out⟩
theorem cell_put' {w : World} {s t i : Nat} {v : Value} (h : w.cell? ⟨t, i, none⟩ = some v) (hs : s ≠ t) {b : Bool} {x y : Option Addr} {l1 c1 l2 c2 : Nat} : (((w.setCell ⟨s, 0, none⟩ (.bool b)).setCell ⟨s, 1, none⟩ (.slice x l1 c1)).setCell ⟨s, 2, none⟩ (.slice y l2 c2)).cell? ⟨t, i, none⟩ = some v := cell_put h hs b x y l1 c1 l2 c2
theorem st_low {w0 w : World} {s5 s6 s7 : Nat} {vp vl vr : Value} {p l r h : Rat} (a : Hid (St w0 w s5 s6 s7 vp vl vr p l r h)) : RQ w vl l := a.out.2.2.1.1
set_option maxRecDepth 20000 in
set_option maxHeartbeats 4000000 in
theorem rounded_q (p : Rat) (m : Int) (vp : Value) (w : World) (hp : RQ w vp p) (HM : Hid (0 ≤ m ∧ m ≤ 4)) (HP : Hid (Mid p)) (z : Rat) (hz : Hid (z = ((M.rq p m : Int) : Rat))) : Calls Try.prog 89 #[vp, .int .i64 m] w (RetQ w z) := by
  have HQ := hide hp
  obtain ⟨ao, la, ca, bo, lb, cb, rfl, _⟩ := hp
  have HMF := hide (mid_facts HP.out)
  have BP : Hid (Bq 2 p) := hide (mid_bq HP.out)
  obtain ⟨f, hf⟩ : ∃ f, Hid (f = fl p) := ⟨_, rfl⟩
  obtain ⟨rm, hrm⟩ : ∃ f, Hid (f = rem p) := ⟨_, rfl⟩
  obtain ⟨l, hl⟩ : ∃ l, Hid (l = ((fl p : Int) : Rat)) := ⟨_, rfl⟩
  obtain ⟨r, hr⟩ : ∃ r, Hid (r = p - l) := ⟨_, rfl⟩
  obtain ⟨h, hh⟩ : ∃ h, Hid (h = ((hi p : Int) : Rat)) := ⟨_, rfl⟩
  obtain ⟨t, ht⟩ : ∃ t, Hid (t = Int.sign r.num) := ⟨_, rfl⟩
  have hdp : Hid (0 < (p.den : Int)) := hide (by have := p.den_pos; omega)
  have HR0 : Hid (r = Rat.divInt (rem p) p.den) := hide (by rw [hr.out, hl.out]; exact rest_is p)
  have HT : Hid (t = Int.sign (rem p)) := hide (by rw [ht.out, HR0.out, sgn_divInt hdp.out])
  have BL : Hid (Bq 2 l) := hide (by rw [hl.out]; exact bq_mid_int (by have := HMF.out.1; omega))
  have BR : Hid (Bq 2 r) := hide (by
    rw [HR0.out]
    have h1 := HMF.out.2.1
    have h2 := HP.out.2
    exact bq_div hdp.out (by rw [b2]; omega) (by rw [b2]; omega))
  generalize decide (p.num < 0) = s at *
  go_enter Try.func89, Try.ntmps89
  go_wp2_with fail
  refine (down_q 2 p _ _ (HQ.out.below (ba (ba (Below.refl _ _) _) _)) BP.out half2 l hl).mono ?_
  rintro e w1 ⟨vl, rfl, hvl, hb1⟩
  have hr3 := r3_step (one_r3 w s ao bo la ca lb cb) hb1
  have hq0 : Hid (QA w1 w.heap.size (.agg #[.bool s, .slice ao la ca, .slice bo lb cb]) p) := qa_step (hide ⟨HQ.out.below (ba (ba (Below.refl _ _) _) _), c3_step (c3_new w s ao bo la ca lb cb) (ba (Below.refl _ _) _)⟩) hb1
  have hz1 : Hid (w.heap.size + 1 < w1.heap.size) := hide (by obtain ⟨⟨⟨u0, k0, _⟩, _⟩, _⟩ := hr3.out; exact cell_lt k0)
  have HL := hide hvl
  obtain ⟨l1, l2, l3, l4, l5, l6, rfl, _⟩ := hvl
  generalize decide (l.num < 0) = sl at *
  clear hb1
  obtain ⟨c0, c1, c2⟩ := c3_get hq0.out.2
  have hz1' : w.heap.size < w1.heap.size := by have := hz1.out; omega
  go_wp2_with fail
  refine (less_is p l r _ _ _ (hq0.out.1.below (ba (Below.refl _ _) _)) (HL.out.below (ba (Below.refl _ _) _)) BP BL hr).mono ?_
  rintro e w2 ⟨vr, rfl, hvr, hb2⟩
  have hb2' := bt (ba (Below.refl w1.heap.size w1) (.cells #[.bool sl, .slice l1 l2 l3, .slice l4 l5 l6] 43)) hb2
  have hr3 := r3_step hr3 hb2'
  have hq0 := qa_step hq0 hb2'
  have hq5 : Hid (QA w2 w1.heap.size (.agg #[.bool sl, .slice l1 l2 l3, .slice l4 l5 l6]) l) := qa_step (hide ⟨HL.out.below (ba (Below.refl _ _) _), c3_new w1 sl l1 l4 l2 l3 l5 l6⟩) hb2
  have hz2 : Hid (w1.heap.size < w2.heap.size) := hide (c3_lt hq5.out.2)
  have HR := hide hvr
  obtain ⟨r1, r2, r3, r4, r5, r6, rfl, _⟩ := hvr
  generalize decide (r.num < 0) = sr at *
  clear hb2 hb2' c0 c1 c2 hz1'
  obtain ⟨d0, d1, d2⟩ := c3_get hq5.out.2
  have hz2' : w1.heap.size < w2.heap.size := hz2.out
  go_wp2_with fail
  refine (sign_q r _ _ (HR.out.below (ba (ba (Below.refl _ _) _) _)) t ht).mono ?_
  rintro e w3 ⟨rfl, hb3⟩
  have hb3' := bt (ba (ba (Below.refl w2.heap.size w2) (.cells #[.bool sr, .slice r1 r2 r3, .slice r4 r5 r6] 43)) (.cells #[.bool sl, .slice l1 l2 l3, .slice l4 l5 l6] 43)) hb3
  have hst : Hid (St w w3 w1.heap.size w2.heap.size (w2.heap.size + 1) (.agg #[.bool s, .slice ao la ca, .slice bo lb cb]) (.agg #[.bool sl, .slice l1 l2 l3, .slice l4 l5 l6]) (.agg #[.bool sr, .slice r1 r2 r3, .slice r4 r5 r6]) p l r l) :=
    hide ⟨(r3_step hr3 hb3').out, (qa_step hq0 hb3').out, (qa_step hq5 hb3').out,
      (qa_step (hide ⟨HR.out.below (ba (ba (Below.refl _ _) _) _), c3_step (c3_new w2 sr r1 r4 r2 r3 r5 r6) (ba (Below.refl _ _) _)⟩) hb3).out,
      ⟨⟨_, (qa_step (hide ⟨hq5.out.1.below (ba (ba (Below.refl _ _) _) _), by simpa using c3_new (w2.alloc (.cells #[.bool sr, .slice r1 r2 r3, .slice r4 r5 r6] 43)) sl l1 l4 l2 l3 l5 l6⟩) hb3).out⟩, fz_step (by simpa using fz_new (w2.alloc (.cells #[.bool sr, .slice r1 r2 r3, .slice r4 r5 r6] 43)) sl l1 l4 l2 l3 l5 l6) (by simpa using c3_new (w2.alloc (.cells #[.bool sr, .slice r1 r2 r3, .slice r4 r5 r6] 43)) sl l1 l4 l2 l3 l5 l6) hb3⟩,
      ⟨hz1.out, hz2.out, by omega⟩⟩
  clear hb3 hb3' hr3 hq0 hq5 d0 d1 d2
  have hne : w2.heap.size + 1 ≠ w1.heap.size := by omega
  have HNE := hide hne
  clear hne hz2'
  go_upto_if 18 with fail
  go_cut [] (fun wx => Hid (St w wx w1.heap.size w2.heap.size (w2.heap.size + 1) (.agg #[.bool s, .slice ao la ca, .slice bo lb cb]) (.agg #[.bool sl, .slice l1 l2 l3, .slice l4 l5 l6]) (.agg #[.bool sr, .slice r1 r2 r3, .slice r4 r5 r6]) p l r h))
  case first =>
    by_cases hpos : 0 < rem p
    · obtain rfl : t = 1 := by rw [HT.out, Int.sign_eq_one_of_pos hpos]
      have HPL : Hid (h = l + ((1 : Int) : Rat)) := hide (by rw [hh.out, hl.out]; unfold hi; rw [if_pos hpos, Rat.intCast_add])
      have BO : Hid (Bq 2 ((1 : Int) : Rat)) := hide (bq_mid_int (by decide))
      clear hpos
      have hsx := sx_of hst
      obtain ⟨d0, d1, d2⟩ := c3_get hst.out.2.2.1.2
      go_wp2_with fail
      go_region_held3 (fun w' => w'.cell? ⟨w1.heap.size, 0, none⟩ = some (.bool sl) ∧ w'.cell? ⟨w1.heap.size, 1, none⟩ = some (.slice l1 l2 l3) ∧ w'.cell? ⟨w1.heap.size, 2, none⟩ = some (.slice l4 l5 l6) ∧ Hid (Sx w w' w1.heap.size w2.heap.size (w2.heap.size + 1) (.agg #[.bool s, .slice ao la ca, .slice bo lb cb]) (.agg #[.bool sl, .slice l1 l2 l3, .slice l4 l5 l6]) (.agg #[.bool sr, .slice r1 r2 r3, .slice r4 r5 r6]) p l r))
        ((go_split_ands; (first | dsimp only | skip); refine ⟨?_, ?_, ?_, ?_⟩ <;> first | with_reducible assumption | (simp only [World.cell?_drew]; with_reducible assumption) | (with_reducible exact kc hbw ‹_›) | (with_reducible exact sx_drew ‹_›) | (with_reducible exact sx_step ‹_› hbw) | (with_reducible exact cell_put' ‹_› HNE.out) | (with_reducible exact sx_of (sx_put ‹_› hnew)) | (go_simp; done)))
        (first | (go_at_call 77; refine (int_q 1 _ (by decide) (by decide)).mono ?_; rintro e w' ⟨v1, rfl, hv1, hbw⟩) | (go_at_call 51; go_split_ands; refine (plus_is l ((1 : Int) : Rat) h _ _ _ (sx_low ‹_›) hv1 BL BO HPL).mono ?_; rintro e w' ⟨vn, rfl, hvn, hbw⟩; have hsx5 := sx_step ‹_› hbw; have hvar := sx_var hsx5; obtain ⟨⟨⟨u0, g0⟩, ⟨u1, g1⟩, ⟨u2, g2⟩⟩, ⟨g3, g4, g5⟩⟩ := hvar; have hnew := hvn; obtain ⟨p1, p2, p3, p4, p5, p6, rfl, _, _⟩ := hvn))
      go_wp2_with fail
      go_meet
      exact sx_put hsx5 hnew
    · have h0 : rem p = 0 := by have := HMF.out.2.1; omega
      obtain rfl : t = 0 := by rw [HT.out, h0]; rfl
      have HPL : l = h := by rw [hh.out, hl.out]; unfold hi; rw [if_neg hpos]
      clear hpos h0
      go_wp2_with fail
      go_meet
      exact HPL ▸ hst
  case rest =>
    clear hst
    have hst := hcut; clear hcut
    obtain ⟨g, hg⟩ : ∃ g, Hid (g = Int.sign (2 * rem p - (p.den : Int))) := ⟨_, rfl⟩
    obtain ⟨hf2, hhf⟩ : ∃ q, Hid (q = ((1 : Int) : Rat) / ((2 : Int) : Rat)) := ⟨_, rfl⟩
    have BO : Hid (Bq 2 ((1 : Int) : Rat)) := hide (bq_mid_int (by decide))
    have BT : Hid (Bq 2 ((2 : Int) : Rat)) := hide (bq_mid_int (by decide))
    have BH : Hid (Bq 2 hf2) := hide (by rw [hhf.out, of_divInt]; exact bq_div (by decide) (by decide) (by decide))
    have HT2 : Hid (((2 : Int) : Rat) ≠ 0) := hide (by decide)
    have HG : Hid (g = Int.sign (r - hf2).num) := hide (by rw [hg.out, hhf.out, HR0.out, half_rest hdp.out, sgn_divInt (by have := hdp.out; omega)])
    obtain ⟨d0, d1, d2⟩ := c3_get hst.out.2.2.2.1.2
    go_wp2_with fail
    go_region_held3 (fun w' => w'.cell? ⟨w2.heap.size, 0, none⟩ = some (.bool sr) ∧ w'.cell? ⟨w2.heap.size, 1, none⟩ = some (.slice r1 r2 r3) ∧ w'.cell? ⟨w2.heap.size, 2, none⟩ = some (.slice r4 r5 r6) ∧ Hid (St w w' w1.heap.size w2.heap.size (w2.heap.size + 1) (.agg #[.bool s, .slice ao la ca, .slice bo lb cb]) (.agg #[.bool sl, .slice l1 l2 l3, .slice l4 l5 l6]) (.agg #[.bool sr, .slice r1 r2 r3, .slice r4 r5 r6]) p l r h))
      ((go_split_ands; (first | dsimp only | skip); refine ⟨?_, ?_, ?_, ?_⟩ <;> first | with_reducible assumption | (simp only [World.cell?_drew]; with_reducible assumption) | (with_reducible exact kc hbw ‹_›) | (with_reducible exact st_drew ‹_›) | (with_reducible exact st_step ‹_› hbw) | (go_simp; done)))
      (first | (go_at_call 77; have hx := hv1; refine (int_q 2 _ (by decide) (by decide)).mono ?_; rintro e w' ⟨v2, rfl, hv2, hbw⟩; have hv1 := hv1.below hbw) | (go_at_call 77; refine (int_q 1 _ (by decide) (by decide)).mono ?_; rintro e w' ⟨v1, rfl, hv1, hbw⟩) | (go_at_call 49; refine (quot_is ((1 : Int) : Rat) ((2 : Int) : Rat) hf2 _ _ _ hv1 hv2 BO BT HT2 hhf).mono ?_; rintro e w' ⟨vh, rfl, hvh, hbw⟩) | (go_at_call 50; go_split_ands; refine (order_is r hf2 _ _ _ (Hid.out (p := St _ _ _ _ _ _ _ _ _ _ _ _) ‹_›).2.2.2.1.1 hvh BR BH g HG).mono ?_; rintro e w' ⟨rfl, hbw⟩; have hst6 := st_step ‹_› hbw))
    clear d0 d1 d2 hst
    have hmm : m = 0 ∨ m = 1 ∨ m = 2 ∨ m = 3 ∨ m = 4 := by have := HM.out; omega
    clear HM
    rcases hmm with rfl | rfl | rfl | rfl | rfl
    · clear hg HG
      have HZ : Hid (z = l) := hide (by rw [hz.out, hl.out, pick_low (by simp [M.upB])])
      obtain ⟨y1, _, ⟨y5, x5⟩, _, _, zz1, zz2, _⟩ := hst6.out
      have hr3 := hide y1
      have HQ5 := hide y5
      obtain ⟨e0, e1, e2⟩ := c3_get x5
      obtain ⟨⟨⟨u0, k0, _⟩, ⟨u1, k1, _⟩, ⟨u2, k2, _⟩⟩, ⟨k3, k4, k5⟩, _⟩ := y1
      clear y5 x5
      go_wp2_with fail
      refine bodyPost_ret (v := .agg #[.bool sl, .slice l1 l2 l3, .slice l4 l5 l6]) (by simp [results, Try.results89, go_sem, k0, k1, k2]) rfl ⟨_, rfl, rq_stored (by rw [HZ.out]; exact HQ5.out) hr3, ?_⟩
      exact bs (bs (bs (r3_b hr3) (by simp only []; omega) _) (by simp only []; omega) _) (by simp only []; omega) _
    · clear hg HG
      have HZ : Hid (z = h) := hide (by rw [hz.out, hh.out, pick_high (by simp [M.upB])])
      obtain ⟨y1, _, _, _, ⟨⟨vh7, y7, x7⟩, _⟩, zz1, zz2, zz3⟩ := hst6.out
      have hr3 := hide y1
      have HQ7 := hide y7
      obtain ⟨h1, h2, h3, h4, h5, h6, rfl, _, _⟩ := y7
      generalize decide (h.num < 0) = sh at *
      obtain ⟨e0, e1, e2⟩ := c3_get x7
      obtain ⟨⟨⟨u0, k0, _⟩, ⟨u1, k1, _⟩, ⟨u2, k2, _⟩⟩, ⟨k3, k4, k5⟩, _⟩ := y1
      clear x7
      go_wp2_with fail
      refine bodyPost_ret (v := .agg #[.bool sh, .slice h1 h2 h3, .slice h4 h5 h6]) (by simp [results, Try.results89, go_sem, k0, k1, k2]) rfl ⟨_, rfl, rq_stored (by rw [HZ.out]; exact HQ7.out) hr3, ?_⟩
      exact bs (bs (bs (r3_b hr3) (by simp only []; omega) _) (by simp only []; omega) _) (by simp only []; omega) _
    · clear hg HG
      obtain ⟨sp, hsp⟩ : ∃ q, Hid (q = Int.sign p.num) := ⟨_, rfl⟩
      obtain ⟨_, ⟨y0, x0⟩, _⟩ := hst6.out
      obtain ⟨d0, d1, d2⟩ := c3_get x0
      have HQ0 := hide y0
      clear y0 x0
      go_wp2_with fail
      refine (sign_q p _ _ HQ0.out sp hsp).mono ?_
      rintro e w7 ⟨rfl, hb7⟩
      have hst7 := st_step hst6 hb7
      clear hb7 d0 d1 d2 hst6
      by_cases hneg : p.num < 0
      · obtain rfl : sp = -1 := by rw [hsp.out, Int.sign_eq_neg_one_of_neg hneg]
        have hfn := HMF.out.2.2.1 hneg
        have HP2 : Hid (M.upB p.den (fl p) (rem p) 2 = decide (0 < rem p)) := hide (by simp [M.upB, hfn])
        clear hneg hfn
        have HZ : Hid (z = h) := hide (by rw [hz.out, hh.out, pick_high (HP2.out)])
        obtain ⟨y1, _, _, _, ⟨⟨vh7, y7, x7⟩, _⟩, zz1, zz2, zz3⟩ := hst7.out
        have hr3 := hide y1
        have HQ7 := hide y7
        obtain ⟨h1, h2, h3, h4, h5, h6, rfl, _, _⟩ := y7
        generalize decide (h.num < 0) = sh at *
        obtain ⟨e0, e1, e2⟩ := c3_get x7
        obtain ⟨⟨⟨u0, k0, _⟩, ⟨u1, k1, _⟩, ⟨u2, k2, _⟩⟩, ⟨k3, k4, k5⟩, _⟩ := y1
        clear x7
        go_wp2_with fail
        refine bodyPost_ret (v := .agg #[.bool sh, .slice h1 h2 h3, .slice h4 h5 h6]) (by simp [results, Try.results89, go_sem, k0, k1, k2]) rfl ⟨_, rfl, rq_stored (by rw [HZ.out]; exact HQ7.out) hr3, ?_⟩
        exact bs (bs (bs (r3_b hr3) (by simp only []; omega) _) (by simp only []; omega) _) (by simp only []; omega) _
      · have hsp0 : 0 ≤ sp := by rw [hsp.out]; exact Int.sign_nonneg_iff.2 (by omega)
        have HP2 : Hid (M.upB p.den (fl p) (rem p) 2 = false) := hide (by
          have : ¬ fl p < 0 := fun c => hneg (HMF.out.2.2.2 c)
          simp [M.upB, this])
        clear hneg
        have HZ : Hid (z = l) := hide (by rw [hz.out, hl.out, pick_low (HP2.out)])
        obtain ⟨y1, _, ⟨y5, x5⟩, _, _, zz1, zz2, _⟩ := hst7.out
        have hr3 := hide y1
        have HQ5 := hide y5
        obtain ⟨e0, e1, e2⟩ := c3_get x5
        obtain ⟨⟨⟨u0, k0, _⟩, ⟨u1, k1, _⟩, ⟨u2, k2, _⟩⟩, ⟨k3, k4, k5⟩, _⟩ := y1
        clear y5 x5
        go_wp2_with fail
        refine bodyPost_ret (v := .agg #[.bool sl, .slice l1 l2 l3, .slice l4 l5 l6]) (by simp [results, Try.results89, go_sem, k0, k1, k2]) rfl ⟨_, rfl, rq_stored (by rw [HZ.out]; exact HQ5.out) hr3, ?_⟩
        exact bs (bs (bs (r3_b hr3) (by simp only []; omega) _) (by simp only []; omega) _) (by simp only []; omega) _
    · by_cases hlt : 2 * rem p < (p.den : Int)
      · obtain rfl : g = -1 := by rw [hg.out, Int.sign_eq_neg_one_of_neg (by omega)]
        have HP2 : Hid (M.upB p.den (fl p) (rem p) 3 = false) := hide (by simp [M.upB]; omega)
        clear hlt
        have HZ : Hid (z = l) := hide (by rw [hz.out, hl.out, pick_low (HP2.out)])
        obtain ⟨y1, _, ⟨y5, x5⟩, _, _, zz1, zz2, _⟩ := hst6.out
        have hr3 := hide y1
        have HQ5 := hide y5
        obtain ⟨e0, e1, e2⟩ := c3_get x5
        obtain ⟨⟨⟨u0, k0, _⟩, ⟨u1, k1, _⟩, ⟨u2, k2, _⟩⟩, ⟨k3, k4, k5⟩, _⟩ := y1
        clear y5 x5
        go_wp2_with fail
        refine bodyPost_ret (v := .agg #[.bool sl, .slice l1 l2 l3, .slice l4 l5 l6]) (by simp [results, Try.results89, go_sem, k0, k1, k2]) rfl ⟨_, rfl, rq_stored (by rw [HZ.out]; exact HQ5.out) hr3, ?_⟩
        exact bs (bs (bs (r3_b hr3) (by simp only []; omega) _) (by simp only []; omega) _) (by simp only []; omega) _
      · have hg0 : 0 ≤ g := by rw [hg.out]; exact Int.sign_nonneg_iff.2 (by omega)
        have HP2 : Hid (M.upB p.den (fl p) (rem p) 3 = decide (0 < rem p)) := hide (by
          have h1 : 0 < rem p := by have := hdp.out; omega
          have h2 : (p.den : Int) ≤ 2 * rem p := by omega
          simp [M.upB, h1, h2])
        clear hlt
        have HZ : Hid (z = h) := hide (by rw [hz.out, hh.out, pick_high (HP2.out)])
        obtain ⟨y1, _, _, _, ⟨⟨vh7, y7, x7⟩, _⟩, zz1, zz2, zz3⟩ := hst6.out
        have hr3 := hide y1
        have HQ7 := hide y7
        obtain ⟨h1, h2, h3, h4, h5, h6, rfl, _, _⟩ := y7
        generalize decide (h.num < 0) = sh at *
        obtain ⟨e0, e1, e2⟩ := c3_get x7
        obtain ⟨⟨⟨u0, k0, _⟩, ⟨u1, k1, _⟩, ⟨u2, k2, _⟩⟩, ⟨k3, k4, k5⟩, _⟩ := y1
        clear x7
        go_wp2_with fail
        refine bodyPost_ret (v := .agg #[.bool sh, .slice h1 h2 h3, .slice h4 h5 h6]) (by simp [results, Try.results89, go_sem, k0, k1, k2]) rfl ⟨_, rfl, rq_stored (by rw [HZ.out]; exact HQ7.out) hr3, ?_⟩
        exact bs (bs (bs (r3_b hr3) (by simp only []; omega) _) (by simp only []; omega) _) (by simp only []; omega) _
    · obtain ⟨q2, hq2⟩ : ∃ q, Hid (q = l / ((2 : Int) : Rat)) := ⟨_, rfl⟩
      obtain ⟨d2', hd2⟩ : ∃ q, Hid (q = ((q2.num / (q2.den : Int) : Int) : Rat)) := ⟨_, rfl⟩
      obtain ⟨m2, hm2⟩ : ∃ q, Hid (q = d2' * ((2 : Int) : Rat)) := ⟨_, rfl⟩
      obtain ⟨e2', he2⟩ : ∃ q, Hid (q = m2 - l) := ⟨_, rfl⟩
      obtain ⟨g2, hg2⟩ : ∃ q, Hid (q = Int.sign e2'.num) := ⟨_, rfl⟩
      have HD2 : Hid (d2' = ((fl p / 2 : Int) : Rat)) := hide (by rw [hd2.out, hq2.out, hl.out, half_fl])
      have HM2 : Hid (m2 = ((fl p / 2 * 2 : Int) : Rat)) := hide (by rw [hm2.out, HD2.out, ← Rat.intCast_mul])
      have HE2 : Hid (e2' = ((fl p / 2 * 2 - fl p : Int) : Rat)) := hide (by rw [he2.out, HM2.out, hl.out, ← Rat.intCast_sub])
      have HG2 : Hid (g2 = Int.sign (fl p / 2 * 2 - fl p)) := hide (by rw [hg2.out, HE2.out, Rat.num_intCast])
      have hfb := HMF.out.1
      have BQ2 : Hid (Bq 2 q2) := hide (by rw [hq2.out, hl.out, of_divInt]; exact bq_div (by decide) (by rw [b2]; omega) (by decide))
      have BD2 : Hid (Bq 2 d2') := hide (by rw [HD2.out]; exact bq_mid_int (by omega))
      have BM2 : Hid (Bq 2 m2) := hide (by rw [HM2.out]; exact bq_mid_int (by omega))
      clear hfb
      obtain ⟨_, _, ⟨_, x5⟩, _⟩ := hst6.out
      obtain ⟨d0, d1, d2⟩ := c3_get x5
      clear x5
      go_wp2_with fail
      go_region_held3 (fun w' => w'.cell? ⟨w1.heap.size, 0, none⟩ = some (.bool sl) ∧ w'.cell? ⟨w1.heap.size, 1, none⟩ = some (.slice l1 l2 l3) ∧ w'.cell? ⟨w1.heap.size, 2, none⟩ = some (.slice l4 l5 l6) ∧ Hid (St w w' w1.heap.size w2.heap.size (w2.heap.size + 1) (.agg #[.bool s, .slice ao la ca, .slice bo lb cb]) (.agg #[.bool sl, .slice l1 l2 l3, .slice l4 l5 l6]) (.agg #[.bool sr, .slice r1 r2 r3, .slice r4 r5 r6]) p l r h))
        ((go_split_ands; (first | dsimp only | skip); refine ⟨?_, ?_, ?_, ?_⟩ <;> first | with_reducible assumption | (simp only [World.cell?_drew]; with_reducible assumption) | (with_reducible exact kc hbw ‹_›) | (with_reducible exact st_drew ‹_›) | (with_reducible exact st_step ‹_› hbw) | (go_simp; done)))
        (first | (go_at_call 77; have hx := hva; refine (int_q 2 _ (by decide) (by decide)).mono ?_; rintro e w' ⟨vb, rfl, hvb, hbw⟩; have hvd := hvd.below hbw) | (go_at_call 77; refine (int_q 2 _ (by decide) (by decide)).mono ?_; rintro e w' ⟨va, rfl, hva, hbw⟩) | (go_at_call 49; go_split_ands; refine (quot_is l ((2 : Int) : Rat) q2 _ _ _ (st_low ‹_›) hva BL BT HT2 hq2).mono ?_; rintro e w' ⟨vq, rfl, hvq, hbw⟩; have hva := hva.below hbw) | (go_at_call 99; refine (down_q 2 q2 _ _ hvq BQ2.out half2 d2' hd2).mono ?_; rintro e w' ⟨vd, rfl, hvd, hbw⟩; have hva := hva.below hbw) | (go_at_call 85; refine (prod_is d2' ((2 : Int) : Rat) m2 _ _ _ hvd hvb BD2 BT hm2).mono ?_; rintro e w' ⟨vm, rfl, hvm, hbw⟩) | (go_at_call 44; go_split_ands; refine (less_is m2 l e2' _ _ _ hvm (st_low ‹_›) BM2 BL he2).mono ?_; rintro e w' ⟨ve, rfl, hve, hbw⟩) | (go_at_call 46; go_split_ands; refine (sign_q e2' _ _ hve g2 hg2).mono ?_; rintro e w' ⟨rfl, hbw⟩; have hst7 := st_step ‹_› hbw))
      clear d0 d1 d2 hst6
      have HEV : Hid (g2 = 0 ↔ fl p % 2 = 0) := hide (by rw [HG2.out, Int.sign_eq_zero_iff_zero]; omega)
      rcases Int.lt_trichotomy (2 * rem p) (p.den : Int) with hlt | hlt | hlt
      · obtain rfl : g = -1 := by rw [hg.out, Int.sign_eq_neg_one_of_neg (by omega)]
        have HP2 : Hid (M.upB p.den (fl p) (rem p) 4 = false) := hide (by simp [M.upB]; omega)
        clear hlt
        have HZ : Hid (z = l) := hide (by rw [hz.out, hl.out, pick_low (HP2.out)])
        obtain ⟨y1, _, ⟨y5, x5⟩, _, _, zz1, zz2, _⟩ := hst7.out
        have hr3 := hide y1
        have HQ5 := hide y5
        obtain ⟨e0, e1, e2⟩ := c3_get x5
        obtain ⟨⟨⟨u0, k0, _⟩, ⟨u1, k1, _⟩, ⟨u2, k2, _⟩⟩, ⟨k3, k4, k5⟩, _⟩ := y1
        clear y5 x5
        go_wp2_with fail
        refine bodyPost_ret (v := .agg #[.bool sl, .slice l1 l2 l3, .slice l4 l5 l6]) (by simp [results, Try.results89, go_sem, k0, k1, k2]) rfl ⟨_, rfl, rq_stored (by rw [HZ.out]; exact HQ5.out) hr3, ?_⟩
        exact bs (bs (bs (r3_b hr3) (by simp only []; omega) _) (by simp only []; omega) _) (by simp only []; omega) _
      · obtain rfl : g = 0 := by rw [hg.out, hlt, Int.sub_self]; rfl
        by_cases hev : g2 = 0
        · have HP2 : Hid (M.upB p.den (fl p) (rem p) 4 = false) := hide (by have := HEV.out.1 hev; simp [M.upB]; omega)
          subst hev
          clear hlt
          have HZ : Hid (z = l) := hide (by rw [hz.out, hl.out, pick_low (HP2.out)])
          obtain ⟨y1, _, ⟨y5, x5⟩, _, _, zz1, zz2, _⟩ := hst7.out
          have hr3 := hide y1
          have HQ5 := hide y5
          obtain ⟨e0, e1, e2⟩ := c3_get x5
          obtain ⟨⟨⟨u0, k0, _⟩, ⟨u1, k1, _⟩, ⟨u2, k2, _⟩⟩, ⟨k3, k4, k5⟩, _⟩ := y1
          clear y5 x5
          go_wp2_with fail
          refine bodyPost_ret (v := .agg #[.bool sl, .slice l1 l2 l3, .slice l4 l5 l6]) (by simp [results, Try.results89, go_sem, k0, k1, k2]) rfl ⟨_, rfl, rq_stored (by rw [HZ.out]; exact HQ5.out) hr3, ?_⟩
          exact bs (bs (bs (r3_b hr3) (by simp only []; omega) _) (by simp only []; omega) _) (by simp only []; omega) _
        · have HP2 : Hid (M.upB p.den (fl p) (rem p) 4 = decide (0 < rem p)) := hide (by
            have h1 : 0 < rem p := by have := hdp.out; omega
            have h2 : ¬ fl p % 2 = 0 := fun c => hev (HEV.out.2 c)
            simp [M.upB, h1, h2, hlt])
          have hb2 : (g2 == 0) = false := by simpa using hev
          clear hlt hev
          have HZ : Hid (z = h) := hide (by rw [hz.out, hh.out, pick_high (HP2.out)])
          obtain ⟨y1, _, _, _, ⟨⟨vh7, y7, x7⟩, _⟩, zz1, zz2, zz3⟩ := hst7.out
          have hr3 := hide y1
          have HQ7 := hide y7
          obtain ⟨h1, h2, h3, h4, h5, h6, rfl, _, _⟩ := y7
          generalize decide (h.num < 0) = sh at *
          obtain ⟨e0, e1, e2⟩ := c3_get x7
          obtain ⟨⟨⟨u0, k0, _⟩, ⟨u1, k1, _⟩, ⟨u2, k2, _⟩⟩, ⟨k3, k4, k5⟩, _⟩ := y1
          clear x7
          go_wp2_with fail
          refine bodyPost_ret (v := .agg #[.bool sh, .slice h1 h2 h3, .slice h4 h5 h6]) (by simp [results, Try.results89, go_sem, k0, k1, k2]) rfl ⟨_, rfl, rq_stored (by rw [HZ.out]; exact HQ7.out) hr3, ?_⟩
          exact bs (bs (bs (r3_b hr3) (by simp only []; omega) _) (by simp only []; omega) _) (by simp only []; omega) _
      · obtain rfl : g = 1 := by rw [hg.out, Int.sign_eq_one_of_pos (by omega)]
        have HP2 : Hid (M.upB p.den (fl p) (rem p) 4 = decide (0 < rem p)) := hide (by
          have h1 : 0 < rem p := by have := hdp.out; omega
          simp [M.upB, h1, hlt])
        clear hlt
        have HZ : Hid (z = h) := hide (by rw [hz.out, hh.out, pick_high (HP2.out)])
        obtain ⟨y1, _, _, _, ⟨⟨vh7, y7, x7⟩, _⟩, zz1, zz2, zz3⟩ := hst7.out
        have hr3 := hide y1
        have HQ7 := hide y7
        obtain ⟨h1, h2, h3, h4, h5, h6, rfl, _, _⟩ := y7
        generalize decide (h.num < 0) = sh at *
        obtain ⟨e0, e1, e2⟩ := c3_get x7
        obtain ⟨⟨⟨u0, k0, _⟩, ⟨u1, k1, _⟩, ⟨u2, k2, _⟩⟩, ⟨k3, k4, k5⟩, _⟩ := y1
        clear x7
        go_wp2_with fail
        refine bodyPost_ret (v := .agg #[.bool sh, .slice h1 h2 h3, .slice h4 h5 h6]) (by simp [results, Try.results89, go_sem, k0, k1, k2]) rfl ⟨_, rfl, rq_stored (by rw [HZ.out]; exact HQ7.out) hr3, ?_⟩
        exact bs (bs (bs (r3_b hr3) (by simp only []; omega) _) (by simp only []; omega) _) (by simp only []; omega) _
end Go.Proofs.Ytpgnbjlpkpmpcaa.R
