import Derived.Test.YtpgnbjlpkpmpcaaY
import Derived.Deep.RegionHeld3
namespace Go.Proofs.Ytpgnbjlpkpmpcaa.R
open Go.RowKit Go.Proofs.Ytpgnbjlpkpmpcaa.N
/-- a cell that holds no digit -/
def NoDig (w : World) (a : Addr) : Prop := ∃ v, w.cell? a = some v ∧ ∀ x, v ≠ .int .u32 x
/-- a result's variable, whatever it holds, and all that was there before -/
def R3 (w0 : World) (s : Nat) (w : World) : Prop := (NoDig w ⟨s, 0, none⟩ ∧ NoDig w ⟨s, 1, none⟩ ∧ NoDig w ⟨s, 2, none⟩) ∧ (w.frozen? ⟨s, 0, none⟩ = false ∧ w.frozen? ⟨s, 1, none⟩ = false ∧ w.frozen? ⟨s, 2, none⟩ = false) ∧ w0.heap.size ≤ s ∧ Below w0.heap.size w0 w
theorem NoDig.step {w w' : World} {a : Addr} (h : NoDig w a) (hb : Below w.heap.size w w') : NoDig w' a := by
  obtain ⟨v, h1, h2⟩ := h
  exact ⟨v, kc hb h1, h2⟩
theorem r3_step {w0 w w' : World} {s : Nat} (h : Hid (R3 w0 s w)) (hb : Below w.heap.size w w') : Hid (R3 w0 s w') := by
  obtain ⟨⟨d0, d1, d2⟩, ⟨f0, f1, f2⟩, hs, b⟩ := h.out
  obtain ⟨v0, k0, _⟩ := d0
  obtain ⟨v1, k1, _⟩ := d1
  obtain ⟨v2, k2, _⟩ := d2
  obtain ⟨⟨d0, d1, d2⟩, _⟩ := h.out
  exact hide ⟨⟨d0.step hb, d1.step hb, d2.step hb⟩, ⟨kf hb k0 f0, kf hb k1 f1, kf hb k2 f2⟩, hs, bt b hb⟩
theorem r3_drew {w0 w : World} {s : Nat} (h : Hid (R3 w0 s w)) : Hid (R3 w0 s w.drew) := by
  obtain ⟨a, b, c, d⟩ := h.out
  exact hide ⟨a, b, c, d.drew⟩
theorem r3_b {w0 w : World} {s : Nat} (h : Hid (R3 w0 s w)) : Below w0.heap.size w0 w := h.out.2.2.2
theorem frozen_set (w : World) (a b : Addr) (u : Value) : (w.setCell a u).frozen? b = w.frozen? b := by simp [go_sem]
theorem NoDig.set {w : World} {a b : Addr} {u : Value} (h : NoDig w b) (hu : ∀ x, u ≠ .int .u32 x) : NoDig (w.setCell a u) b := by
  obtain ⟨v, h1, h2⟩ := h
  by_cases e : a = b
  · subst e; exact ⟨u, World.cell?_setCell_same w a u h1, hu⟩
  · exact ⟨v, by rw [World.cell?_setCell_other (h := e)]; exact h1, h2⟩
theorem r3_set {w0 w : World} {s : Nat} (h : Hid (R3 w0 s w)) (b : Bool) (x y : Option Addr) (l1 c1 l2 c2 : Nat) : Hid (R3 w0 s (((w.setCell ⟨s, 0, none⟩ (.bool b)).setCell ⟨s, 1, none⟩ (.slice x l1 c1)).setCell ⟨s, 2, none⟩ (.slice y l2 c2))) := by
  obtain ⟨⟨d0, d1, d2⟩, ⟨f0, f1, f2⟩, hs, hb⟩ := h.out
  have e0 : ∀ z, Value.bool b ≠ .int .u32 z := fun z h => by simp at h
  have e1 : ∀ z, Value.slice x l1 c1 ≠ .int .u32 z := fun z h => by simp at h
  have e2 : ∀ z, Value.slice y l2 c2 ≠ .int .u32 z := fun z h => by simp at h
  refine hide ⟨⟨((d0.set e0).set e1).set e2, ((d1.set e0).set e1).set e2, ((d2.set e0).set e1).set e2⟩, ?_, hs, bs (bs (bs hb hs _) hs _) hs _⟩
  simp only [frozen_set]; exact ⟨f0, f1, f2⟩
theorem rn_r3 {w0 : World} {s : Nat} {w : World} {v : Value} {n : Nat} (h : RN w v n) (hs : Hid (R3 w0 s w)) (u1 u2 u3 : Value) : RN (((w.setCell ⟨s, 0, none⟩ u1).setCell ⟨s, 1, none⟩ u2).setCell ⟨s, 2, none⟩ u3) v n := by
  obtain ⟨⟨d0, d1, d2⟩, _⟩ := hs.out
  obtain ⟨l, ao, cap, rfl, h2, h3, h4, h5⟩ := h
  refine ⟨l, ao, cap, rfl, h2, h3, ?_, h5⟩
  rcases h4 with h4 | ⟨b, off, rfl, h4⟩
  · exact .inl h4
  · refine .inr ⟨b, off, rfl, fun i hi => ?_⟩
    have c := h4 i hi
    obtain ⟨v0, k0, m0⟩ := d0
    obtain ⟨v1, k1, m1⟩ := d1
    obtain ⟨v2, k2, m2⟩ := d2
    have n0 : (⟨s, 0, none⟩ : Addr) ≠ ⟨b, off + i, none⟩ := by intro e; rw [← e, k0] at c; exact m0 _ (by simpa using c)
    have n1 : (⟨s, 1, none⟩ : Addr) ≠ ⟨b, off + i, none⟩ := by intro e; rw [← e, k1] at c; exact m1 _ (by simpa using c)
    have n2 : (⟨s, 2, none⟩ : Addr) ≠ ⟨b, off + i, none⟩ := by intro e; rw [← e, k2] at c; exact m2 _ (by simpa using c)
    rw [World.cell?_setCell_other (h := n2), World.cell?_setCell_other (h := n1), World.cell?_setCell_other (h := n0)]; exact c
theorem rq_stored {w0 w : World} {s : Nat} {b : Bool} {x y : Option Addr} {l1 c1 l2 c2 : Nat} {q : Rat} (h : RQ w (.agg #[.bool b, .slice x l1 c1, .slice y l2 c2]) q) (hs : Hid (R3 w0 s w)) :
    RQ (((w.setCell ⟨s, 0, none⟩ (.bool b)).setCell ⟨s, 1, none⟩ (.slice x l1 c1)).setCell ⟨s, 2, none⟩ (.slice y l2 c2)) (.agg #[.bool b, .slice x l1 c1, .slice y l2 c2]) q := by
  obtain ⟨ao, la, ca, bo, lb, cb, h1, h2, h3⟩ := h
  simp only [Value.agg.injEq, Array.mk.injEq, List.cons.injEq, Value.bool.injEq, Value.slice.injEq, and_true] at h1
  obtain ⟨rfl, ⟨rfl, rfl, rfl⟩, rfl, rfl, rfl⟩ := h1
  exact ⟨_, _, _, _, _, _, rfl, rn_r3 h2 hs _ _ _, rn_r3 h3 hs _ _ _⟩
/-- the two boxes and the result's variable of a function of two rational numbers -/
def boxed (w : World) (s1 s2 : Bool) (a b c d : Option Addr) (la ca lb cb lc cc ld cd : Nat) : World :=
  ((w.alloc (.cells #[.bool s1, .slice a la ca, .slice b lb cb] 43)).alloc (.cells #[.bool s2, .slice c lc cc, .slice d ld cd] 43)).alloc (.cells #[.bool false, .slice none 0 0, .slice none 0 0] 43)
theorem boxed_r3 (w : World) (s1 s2 : Bool) (a b c d : Option Addr) (la ca lb cb lc cc ld cd : Nat) : Hid (R3 w (w.heap.size + 1 + 1) (boxed w s1 s2 a b c d la ca lb cb lc cc ld cd)) := by
  unfold boxed
  refine hide ⟨⟨⟨.bool false, by simp [go_sem], fun x h => by simp at h⟩, ⟨.slice none 0 0, by simp [go_sem], fun x h => by simp at h⟩, ⟨.slice none 0 0, by simp [go_sem], fun x h => by simp at h⟩⟩, ⟨by simp [go_sem], by simp [go_sem], by simp [go_sem]⟩, by omega, ba (ba (ba (Below.refl _ _) _) _) _⟩
theorem boxed_cells (w : World) (s1 s2 : Bool) (a b c d : Option Addr) (la ca lb cb lc cc ld cd : Nat) (W : World) (hW : W = boxed w s1 s2 a b c d la ca lb cb lc cc ld cd) :
    W.cell? ⟨w.heap.size, 0, none⟩ = some (.bool s1) ∧ W.cell? ⟨w.heap.size, 1, none⟩ = some (.slice a la ca) ∧ W.cell? ⟨w.heap.size, 2, none⟩ = some (.slice b lb cb) ∧
    W.cell? ⟨w.heap.size + 1, 0, none⟩ = some (.bool s2) ∧ W.cell? ⟨w.heap.size + 1, 1, none⟩ = some (.slice c lc cc) ∧ W.cell? ⟨w.heap.size + 1, 2, none⟩ = some (.slice d ld cd) := by
  subst hW; unfold boxed
  exact ⟨by simp [go_sem], by simp [go_sem], by simp [go_sem], by simp [go_sem], by simp [go_sem], by simp [go_sem]⟩
/-- the bounds under which the reference is followed -/
def Bq (k : Nat) (q : Rat) : Prop := q.num.natAbs < B ^ k ∧ q.den < B ^ k
theorem pow_lt_mul {a b k : Nat} (h1 : a < B ^ k) (h2 : b < B ^ k) : a * b < B ^ (2 * k) := by
  rw [Nat.two_mul, Nat.pow_add]; exact Nat.mul_lt_mul'' h1 h2
theorem sh_of {n k : Nat} (h : n < B ^ k) (hk : k ≤ K - 1) : Sh n := Nat.lt_of_lt_of_le h (Nat.pow_le_pow_right (by decide) hk)
theorem sm_of {n k : Nat} (h : n < B ^ k) (hk : k ≤ K - 1) : Sm n := sh_sm (sh_of h hk)
def Half (k : Nat) : Prop := 2 * k + 1 ≤ K - 1
theorem mk_mul (p q : Rat) : mk (decide (p.num < 0) != decide (q.num < 0)) (p.num.natAbs * q.num.natAbs) (p.den * q.den) = p * q := by
  unfold mk
  conv => rhs; rw [← M.divInt_num_den p, ← M.divInt_num_den q, Rat.divInt_mul_divInt]
  congr 1
  rw [Int.natCast_mul]
  generalize p.num = a
  generalize q.num = b
  by_cases ha : a < 0 <;> by_cases hb : b < 0
  · simp [ha, hb]; rw [Int.ofNat_natAbs_of_nonpos (by omega), Int.ofNat_natAbs_of_nonpos (by omega), Int.neg_mul_neg]
  · simp [ha, hb]; rw [Int.ofNat_natAbs_of_nonpos (by omega), Int.natAbs_of_nonneg (by omega), Int.neg_mul, Int.neg_neg]
  · simp [ha, hb]; rw [Int.natAbs_of_nonneg (by omega), Int.ofNat_natAbs_of_nonpos (by omega), Int.mul_neg, Int.neg_neg]
  · simp [ha, hb]; rw [Int.natAbs_of_nonneg (by omega), Int.natAbs_of_nonneg (by omega)]
theorem made_is (neg : Bool) (a b : Nat) (va vb : Value) (w : World) (q : Rat) (ha : RN w va a) (hb : RN w vb b) (sa : Hid (Sh a)) (sb : Hid (Sh b)) (hb0 : ¬ b = 0) (hq : Hid (q = mk neg a b)) : Calls Try.prog 92 #[.bool neg, va, vb] w (RetQ w q) := by
  rw [hq.out]; exact made_any neg a b va vb w ha hb sa sb hb0
theorem neg_same (s1 s2 : Bool) : (!s1 == s2) = (s1 != s2) := by cases s1 <;> cases s2 <;> rfl
set_option maxRecDepth 20000 in
set_option maxHeartbeats 2000000 in
theorem times_q (k : Nat) (p q : Rat) (vp vq : Value) (w : World) (hp : RQ w vp p) (hq : RQ w vq q) (bp : Bq k p) (bq : Bq k q) (hk : Half k) : Calls Try.prog 85 #[vp, vq] w (RetQ w (p * q)) := by
  obtain ⟨ao, la, ca, bo, lb, cb, rfl, a1, a2⟩ := hp
  obtain ⟨co, lc, cc, d0, ld, cd, rfl, a3, a4⟩ := hq
  have H1 := hide a1; clear a1
  have H2 := hide a2; clear a2
  have H3 := hide a3; clear a3
  have H4 := hide a4; clear a4
  unfold Half at hk
  have m1 := pow_lt_mul bp.1 bq.1
  have m2 := pow_lt_mul bp.2 bq.2
  have S1 := hide (sm_of bp.1 (by omega))
  have S2 := hide (sm_of bp.2 (by omega))
  have S3 := hide (sm_of bq.1 (by omega))
  have S4 := hide (sm_of bq.2 (by omega))
  have S5 := hide (sh_of m1 (by omega))
  have S6 := hide (sh_of m2 (by omega))
  clear m1 m2 bp bq hk
  have HE := hide (mk_mul p q)
  have HD : Hid (¬ p.den * q.den = 0) := hide (by have := p.den_pos; have := q.den_pos; exact Nat.mul_ne_zero (by omega) (by omega))
  generalize p.num.natAbs = n1 at *
  generalize q.num.natAbs = n3 at *
  generalize p.den = n2 at *
  generalize q.den = n4 at *
  generalize decide (p.num < 0) = s1 at *
  generalize decide (q.num < 0) = s2 at *
  obtain ⟨r, hr⟩ : ∃ r, Hid (r = p * q) := ⟨_, rfl⟩
  rw [← hr.out] at HE ⊢
  have HR : Hid (∀ neg : Bool, neg = (s1 != s2) → Hid (r = mk neg (n1 * n3) (n2 * n4))) := hide (fun neg h => by rw [h, HE.out]; exact rfl)
  clear HE hr
  go_enter Try.func85, Try.ntmps85
  go_wp2_with fail
  obtain ⟨W, hW⟩ : ∃ W, W = boxed w s1 s2 ao bo co d0 la ca lb cb lc cc ld cd := ⟨_, rfl⟩
  obtain ⟨c1, c2, c3, c4, c5, c6⟩ := boxed_cells w s1 s2 ao bo co d0 la ca lb cb lc cc ld cd W hW
  have hR := boxed_r3 w s1 s2 ao bo co d0 la ca lb cb lc cc ld cd
  rw [← hW] at hR
  unfold boxed at hW
  rw [← hW]
  clear hW
  go_region_held3 (fun w' => w'.cell? ⟨w.heap.size, 0, none⟩ = some (.bool s1) ∧ w'.cell? ⟨w.heap.size, 1, none⟩ = some (.slice ao la ca) ∧ w'.cell? ⟨w.heap.size, 2, none⟩ = some (.slice bo lb cb) ∧ w'.cell? ⟨w.heap.size + 1, 0, none⟩ = some (.bool s2) ∧ w'.cell? ⟨w.heap.size + 1, 1, none⟩ = some (.slice co lc cc) ∧ w'.cell? ⟨w.heap.size + 1, 2, none⟩ = some (.slice d0 ld cd) ∧ Hid (R3 w (w.heap.size + 1 + 1) w'))
    ((go_split_ands; (first | dsimp only | skip); refine ⟨?_, ?_, ?_, ?_, ?_, ?_, ?_⟩ <;> first | with_reducible assumption | (simp only [World.cell?_drew]; with_reducible assumption) | (with_reducible exact kc hbw ‹_›) | (with_reducible exact r3_drew ‹_›) | (with_reducible exact r3_step ‹_› hbw) | (with_reducible exact r3_set ‹_› _ _ _ _ _ _ _) | (go_simp; done)))
    (first | (go_at_call_of 93 ao; go_split_ands; refine (times_any n1 n3 _ _ _ (H1.out.below (r3_b ‹_›)) (H3.out.below (r3_b ‹_›)) S1.out S3.out).mono ?_; rintro e w' ⟨x, rfl, hx, hbw⟩) | (go_at_call_of 93 bo; go_split_ands; refine (times_any n2 n4 _ _ _ (H2.out.below (r3_b ‹_›)) (H4.out.below (r3_b ‹_›)) S2.out S4.out).mono ?_; rintro e w' ⟨y, rfl, hy, hbw⟩) | (go_at_call 92; go_split_ands; refine (made_is _ (n1 * n3) (n2 * n4) _ _ _ r (hx.below hbw) hy S5 S6 HD.out (HR.out _ (neg_same _ _))).mono ?_; rintro e w' ⟨z, rfl, hz, hbw⟩; have hr3 := r3_step ‹_› hbw; obtain ⟨⟨⟨u0, g0, _⟩, ⟨u1, g1, _⟩, ⟨u2, g2, _⟩⟩, ⟨g3, g4, g5⟩, _⟩ := hr3.out; obtain ⟨p1, p2, p3, p4, p5, p6, rfl, hz1, hz2⟩ := hz))
  go_wp2_with fail
  refine bodyPost_ret (v := .agg #[.bool (decide (r.num < 0)), .slice p1 p2 p3, .slice p4 p5 p6]) (by simp [results, Try.results85, go_sem, g0, g1, g2]) rfl ⟨_, rfl, rq_stored ⟨p1, p2, p3, p4, p5, p6, rfl, hz1, hz2⟩ hr3, ?_⟩
  exact bs (bs (bs (r3_b hr3) (by simp only []; omega) _) (by simp only []; omega) _) (by simp only []; omega) _
end Go.Proofs.Ytpgnbjlpkpmpcaa.R
