import Derived.Test.YtpgnbjlpkpmpcaaZb
namespace Go.Proofs.Ytpgnbjlpkpmpcaa.R
open Go.RowKit Go.Proofs.Ytpgnbjlpkpmpcaa.N
theorem rq_zero_len {w : World} {ao : Option Addr} {la ca : Nat} {q : Rat} (h : RN w (.slice ao la ca) q.num.natAbs) : q = 0 ↔ la = 0 := by
  obtain ⟨ao', la', ca', e, hz⟩ := h.shape
  simp only [Value.slice.injEq] at e
  obtain ⟨_, rfl, _⟩ := e
  rw [← hz, ← Rat.num_eq_zero]; omega
/-- one box and the result's variable -/
theorem one_r3 (w : World) (s : Bool) (a b : Option Addr) (la ca lb cb : Nat) : Hid (R3 w (w.heap.size + 1) ((w.alloc (.cells #[.bool s, .slice a la ca, .slice b lb cb] 43)).alloc (.cells #[.bool false, .slice none 0 0, .slice none 0 0] 43))) :=
  hide ⟨⟨⟨.bool false, by simp [go_sem], fun x h => by simp at h⟩, ⟨.slice none 0 0, by simp [go_sem], fun x h => by simp at h⟩, ⟨.slice none 0 0, by simp [go_sem], fun x h => by simp at h⟩⟩, ⟨by simp [go_sem], by simp [go_sem], by simp [go_sem]⟩, by omega, ba (ba (Below.refl _ _) _) _⟩
set_option maxRecDepth 20000 in
set_option maxHeartbeats 1000000 in
theorem minus_q (p : Rat) (vp : Value) (w : World) (hp : RQ w vp p) : Calls Try.prog 47 #[vp] w (RetQ w (-p)) := by
  obtain ⟨ao, la, ca, bo, lb, cb, rfl, a1, a2⟩ := hp
  have hz := rq_zero_len a1
  have H1 := hide a1; clear a1
  have H2 := hide a2; clear a2
  by_cases h0 : p = 0
  · obtain rfl : la = 0 := hz.1 h0
    obtain ⟨s, hs⟩ : ∃ s, Hid (s = decide (p.num < 0)) := ⟨_, rfl⟩
    rw [← hs.out]
    have H0 := hide h0
    have H1' : Hid (RN w (.slice ao 0 ca) (-p).num.natAbs) := by rw [Rat.neg_num, Int.natAbs_neg]; exact H1
    have H2' : Hid (RN w (.slice bo lb cb) (-p).den) := by rw [Rat.neg_den]; exact H2
    clear hz h0
    go_enter Try.func47, Try.ntmps47
    go_wp2_with fail
    refine bodyPost_ret (v := .agg #[.bool s, .slice ao 0 ca, .slice bo lb cb]) (by simp [results, Try.results47, go_sem]) rfl ⟨_, rfl, ⟨ao, 0, ca, bo, lb, cb, by rw [hs.out, H0.out]; rfl, ?_, ?_⟩, ba (ba (Below.refl _ _) _) _⟩
    · exact H1'.out.below (ba (ba (Below.refl _ _) _) _)
    · exact H2'.out.below (ba (ba (Below.refl _ _) _) _)
  · have hl : ((la : Int) == 0) = false := by rw [beq_eq_false_iff_ne]; have : la ≠ 0 := fun c => h0 (hz.2 c); omega
    have hn : p.num ≠ 0 := fun c => h0 (Rat.num_eq_zero.1 c)
    obtain ⟨s, hs⟩ : ∃ s, Hid (s = decide (p.num < 0)) := ⟨_, rfl⟩
    rw [← hs.out]
    have HS : Hid (decide ((-p).num < 0) = !s) := hide (by rw [hs.out, Rat.neg_num]; by_cases c : p.num < 0 <;> simp [c] <;> omega)
    clear hz h0 hn
    go_enter Try.func47, Try.ntmps47
    go_wp2_with fail
    refine bodyPost_ret (v := .agg #[.bool (!s), .slice ao la ca, .slice bo lb cb]) (by simp [results, Try.results47, go_sem]) rfl ⟨_, rfl, ⟨ao, la, ca, bo, lb, cb, by rw [HS.out], ?_, ?_⟩, ba (ba (Below.refl _ _) _) _⟩
    · rw [Rat.neg_num, Int.natAbs_neg]; exact H1.out.below (ba (ba (Below.refl _ _) _) _)
    · rw [Rat.neg_den]; exact H2.out.below (ba (ba (Below.refl _ _) _) _)
set_option maxHeartbeats 1000000 in
theorem sign_q (p : Rat) (vp : Value) (w : World) (hp : RQ w vp p) (s : Int) (hs : Hid (s = Int.sign p.num)) : Calls Try.prog 46 #[vp] w fun e w' => e = .returned (.int .i64 s) ∧ Below w.heap.size w w' := by
  obtain ⟨ao, la, ca, bo, lb, cb, rfl, a1, a2⟩ := hp
  have hz := rq_zero_len a1
  clear a1 a2
  by_cases h0 : p = 0
  · obtain rfl : la = 0 := hz.1 h0
    obtain rfl : s = 0 := by rw [hs.out, h0]; rfl
    generalize decide (p.num < 0) = sg
    go_enter Try.func46, Try.ntmps46
    go_wp2_with fail
    go_ret
    exact ⟨rfl, ba (Below.refl _ _) _⟩
  · have hl : ((la : Int) == 0) = false := by rw [beq_eq_false_iff_ne]; have : la ≠ 0 := fun c => h0 (hz.2 c); omega
    have hn : p.num ≠ 0 := fun c => h0 (Rat.num_eq_zero.1 c)
    by_cases hneg : p.num < 0
    · obtain rfl : s = -1 := by rw [hs.out, Int.sign_eq_neg_one_of_neg hneg]
      rw [show decide (p.num < 0) = true by simpa using hneg]
      clear hz h0 hn hneg
      go_enter Try.func46, Try.ntmps46
      go_wp2_with fail
      go_ret
      exact ⟨rfl, ba (Below.refl _ _) _⟩
    · obtain rfl : s = 1 := by rw [hs.out, Int.sign_eq_one_of_pos (by omega)]
      rw [show decide (p.num < 0) = false by simpa using hneg]
      clear hz h0 hn hneg
      go_enter Try.func46, Try.ntmps46
      go_wp2_with fail
      go_ret
      exact ⟨rfl, ba (Below.refl _ _) _⟩
theorem bq_neg {k : Nat} {q : Rat} (h : Bq k q) : Bq k (-q) := by
  unfold Bq at *; rw [Rat.neg_num, Int.natAbs_neg, Rat.neg_den]; exact h
set_option maxRecDepth 20000 in
set_option maxHeartbeats 1000000 in
theorem less_q (k : Nat) (p q : Rat) (vp vq : Value) (w : World) (hp : RQ w vp p) (hq : RQ w vq q) (bp : Bq k p) (bq : Bq k q) (hk : Half k) : Calls Try.prog 44 #[vp, vq] w (RetQ w (p - q)) := by
  have HP := hide hp
  have HQ := hide hq
  have HB := hide (And.intro (And.intro bp bq) hk)
  obtain ⟨ao, la, ca, bo, lb, cb, rfl, _⟩ := hp
  obtain ⟨co, lc, cc, d0, ld, cd, rfl, _⟩ := hq
  clear bp bq hk
  rw [Rat.sub_eq_add_neg]
  generalize decide (p.num < 0) = s1 at *
  generalize decide (q.num < 0) = s2 at *
  go_enter Try.func44, Try.ntmps44
  go_wp2_with fail
  obtain ⟨W, hW⟩ : ∃ W, W = boxed w s1 s2 ao bo co d0 la ca lb cb lc cc ld cd := ⟨_, rfl⟩
  obtain ⟨c1, c2, c3, c4, c5, c6⟩ := boxed_cells w s1 s2 ao bo co d0 la ca lb cb lc cc ld cd W hW
  have hR := boxed_r3 w s1 s2 ao bo co d0 la ca lb cb lc cc ld cd
  rw [← hW] at hR
  unfold boxed at hW
  rw [← hW]
  clear hW
  go_region_held3 (fun w' => w'.cell? ⟨w.heap.size, 0, none⟩ = some (.bool s1) ∧ w'.cell? ⟨w.heap.size, 1, none⟩ = some (.slice ao la ca) ∧ w'.cell? ⟨w.heap.size, 2, none⟩ = some (.slice bo lb cb) ∧ w'.cell? ⟨w.heap.size + 1, 0, none⟩ = some (.bool s2) ∧ w'.cell? ⟨w.heap.size + 1, 1, none⟩ = some (.slice co lc cc) ∧ w'.cell? ⟨w.heap.size + 1, 2, none⟩ = some (.slice d0 ld cd) ∧ Hid (R3 w (w.heap.size + 1 + 1) w'))
    ((go_split_ands; (first | dsimp only | skip); refine ⟨?_, ?_, ?_, ?_, ?_, ?_, ?_⟩ <;> first | with_reducible assumption | (simp only [World.cell?_drew]; with_reducible assumption) | (with_reducible exact kc hbw ‹_›) | (with_reducible exact r3_drew ‹_›) | (with_reducible exact r3_step ‹_› hbw) | (with_reducible exact r3_set ‹_› _ _ _ _ _ _ _) | (go_simp; done)))
    (first | (go_at_call 47; go_split_ands; refine (minus_q q _ _ (HQ.out.below (r3_b ‹_›))).mono ?_; rintro e w' ⟨x, rfl, hx, hbw⟩) | (go_at_call 51; go_split_ands; refine (plus_q k p (-q) _ _ _ (HP.out.below (r3_b ‹_›)) hx HB.out.1.1 (bq_neg HB.out.1.2) HB.out.2).mono ?_; rintro e w' ⟨z, rfl, hzz, hbw⟩; have hr3 := r3_step ‹_› hbw; obtain ⟨⟨⟨u0, g0, _⟩, ⟨u1, g1, _⟩, ⟨u2, g2, _⟩⟩, ⟨g3, g4, g5⟩, _⟩ := hr3.out; obtain ⟨p1, p2, p3, p4, p5, p6, rfl, hz1, hz2⟩ := hzz))
  go_wp2_with fail
  refine bodyPost_ret (v := .agg #[.bool (decide ((p + -q).num < 0)), .slice p1 p2 p3, .slice p4 p5 p6]) (by simp [results, Try.results44, go_sem, g0, g1, g2]) rfl ⟨_, rfl, rq_stored ⟨p1, p2, p3, p4, p5, p6, rfl, hz1, hz2⟩ hr3, ?_⟩
  exact bs (bs (bs (r3_b hr3) (by simp only []; omega) _) (by simp only []; omega) _) (by simp only []; omega) _
set_option maxRecDepth 20000 in
set_option maxHeartbeats 1000000 in
theorem order_q (k : Nat) (p q : Rat) (vp vq : Value) (w : World) (hp : RQ w vp p) (hq : RQ w vq q) (bp : Bq k p) (bq : Bq k q) (hk : Half k) (s : Int) (hs : Hid (s = Int.sign (p - q).num)) : Calls Try.prog 50 #[vp, vq] w fun e w' => e = .returned (.int .i64 s) ∧ Below w.heap.size w w' := by
  have HP := hide hp
  have HQ := hide hq
  have HB := hide (And.intro (And.intro bp bq) hk)
  obtain ⟨ao, la, ca, bo, lb, cb, rfl, _⟩ := hp
  obtain ⟨co, lc, cc, d0, ld, cd, rfl, _⟩ := hq
  clear bp bq hk
  generalize decide (p.num < 0) = s1 at *
  generalize decide (q.num < 0) = s2 at *
  go_enter Try.func50, Try.ntmps50
  go_wp2_with fail
  refine (less_q k p q _ _ _ (HP.out.below (ba (ba (Below.refl _ _) _) _)) (HQ.out.below (ba (ba (Below.refl _ _) _) _)) HB.out.1.1 HB.out.1.2 HB.out.2).mono ?_
  rintro e w1 ⟨z, rfl, hz, hb1⟩
  have HZ := hide hz; clear hz
  have HB1 := hide (bt (ba (ba (Below.refl _ _) _) _) hb1); clear hb1
  go_wp2_with fail
  refine (sign_q (p - q) _ _ HZ.out s hs).mono ?_
  rintro e w2 ⟨rfl, hb2⟩
  have HB2 := hide (bt HB1.out hb2); clear hb2
  go_wp2_with fail
  go_ret
  exact ⟨rfl, HB2.out⟩
end Go.Proofs.Ytpgnbjlpkpmpcaa.R
