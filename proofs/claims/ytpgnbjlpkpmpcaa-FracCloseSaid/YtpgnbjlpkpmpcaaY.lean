import Derived.Test.YtpgnbjlpkpmpcaaX
import Derived.Test.YtpgnbjlpkpmpcaaM2
namespace Go.Proofs.Ytpgnbjlpkpmpcaa.R
open Go.RowKit Go.Proofs.Ytpgnbjlpkpmpcaa.N
theorem RN.shape {w : World} {v : Value} {n : Nat} (h : RN w v n) : ∃ ao la ca, v = .slice ao la ca ∧ (n = 0 ↔ la = 0) := by
  obtain ⟨l, ao, ca, h1, h2, h3, _⟩ := h
  refine ⟨ao, l.length, ca, h1, ?_⟩
  constructor
  · intro c; rw [val_zero h2 (by rw [h3, c])]; rfl
  · intro c; rw [← h3, List.length_eq_zero_iff.1 c]; rfl
/-- a rational number as the reference holds it -/
def RQ (w : World) (v : Value) (q : Rat) : Prop := ∃ ao la ca bo lb cb, v = .agg #[.bool (decide (q.num < 0)), .slice ao la ca, .slice bo lb cb] ∧ RN w (.slice ao la ca) q.num.natAbs ∧ RN w (.slice bo lb cb) q.den
theorem RQ.below {w w' : World} {v : Value} {q : Rat} (h : RQ w v q) (hb : Below w.heap.size w w') : RQ w' v q := by
  obtain ⟨ao, la, ca, bo, lb, cb, h1, h2, h3⟩ := h
  exact ⟨ao, la, ca, bo, lb, cb, h1, h2.below hb, h3.below hb⟩
def RetQ (w : World) (q : Rat) (e : Ending) (w' : World) : Prop := ∃ v, e = .returned v ∧ RQ w' v q ∧ Below w.heap.size w w'
/-- the rational number of a sign, a numerator and a denominator -/
def mk (neg : Bool) (a b : Nat) : Rat := Rat.divInt (if neg then -(a : Int) else a) b
theorem mk_zero (neg : Bool) (b : Nat) : mk neg 0 b = 0 := by unfold mk; cases neg <;> simp
theorem mk_num (neg : Bool) {a b : Nat} (hb : b ≠ 0) : (mk neg a b).num = (if neg then -((a / Nat.gcd a b : Nat) : Int) else ((a / Nat.gcd a b : Nat) : Int)) := by
  unfold mk
  rw [M.num_parts (by omega)]
  cases neg
  · have e1 : ((if false = true then -(a : Int) else (a : Int)).natAbs) = a := by simp
    rw [e1]; simp; omega
  · have e1 : ((if true = true then -(a : Int) else (a : Int)).natAbs) = a := by simp
    rw [e1]; simp
    by_cases ha : a = 0
    · subst ha; simp
    · intro c; exfalso; omega
theorem mk_den (neg : Bool) {a b : Nat} (hb : b ≠ 0) : (mk neg a b).den = b / Nat.gcd a b := by
  unfold mk
  rw [M.den_parts (by omega)]
  cases neg <;> simp
theorem div_gcd_pos {a b : Nat} (ha : a ≠ 0) : a / Nat.gcd a b ≠ 0 := by
  have h := Nat.gcd_le_left b (Nat.pos_of_ne_zero ha)
  have h2 := Nat.gcd_pos_of_pos_left b (Nat.pos_of_ne_zero ha)
  have := Nat.div_pos h h2; omega
theorem mk_parts (neg : Bool) {a b : Nat} (ha : a ≠ 0) (hb : b ≠ 0) : decide ((mk neg a b).num < 0) = neg ∧ (mk neg a b).num.natAbs = a / Nat.gcd a b ∧ (mk neg a b).den = b / Nat.gcd a b := by
  have h1 := mk_num neg (a := a) hb
  have h2 := div_gcd_pos (b := b) ha
  refine ⟨?_, ?_, mk_den neg hb⟩
  · rw [h1]; generalize a / Nat.gcd a b = z at *; cases neg
    · simp
    · simp; omega
  · rw [h1]; generalize a / Nat.gcd a b = z at *; cases neg <;> simp
theorem kc {w w' : World} (h : Below w.heap.size w w') {a : Addr} {v : Value} (c : w.cell? a = some v) : w'.cell? a = some v := (h.cell (cell_lt c)).trans c
theorem kf {w w' : World} (h : Below w.heap.size w w') {a : Addr} {v : Value} (c : w.cell? a = some v) (f : w.frozen? a = false) : w'.frozen? a = false := (h.frozen (cell_lt c)).trans f
/-- a result's variable of the reference's kind, as it was made -/
def S3 (s : Nat) (w : World) : Prop := (w.cell? ⟨s, 0, none⟩ = some (.bool false) ∧ w.cell? ⟨s, 1, none⟩ = some (.slice none 0 0) ∧ w.cell? ⟨s, 2, none⟩ = some (.slice none 0 0)) ∧ (w.frozen? ⟨s, 0, none⟩ = false ∧ w.frozen? ⟨s, 1, none⟩ = false ∧ w.frozen? ⟨s, 2, none⟩ = false)
theorem s3_step {s : Nat} {w w' : World} (h : Hid (S3 s w)) (hb : Below w.heap.size w w') : Hid (S3 s w') := by
  obtain ⟨⟨c0, c1, c2⟩, f0, f1, f2⟩ := h.out
  exact hide ⟨⟨kc hb c0, kc hb c1, kc hb c2⟩, kf hb c0 f0, kf hb c1 f1, kf hb c2 f2⟩
theorem s3_new (w : World) : Hid (S3 w.heap.size (w.alloc (.cells #[.bool false, .slice none 0 0, .slice none 0 0] 43))) :=
  hide ⟨⟨by simp [go_sem], by simp [go_sem], by simp [go_sem]⟩, by simp [go_sem], by simp [go_sem], by simp [go_sem]⟩
theorem s3_end {s : Nat} {w0 w : World} (h : Below w0.heap.size w0 w) (hs : w0.heap.size ≤ s) (u v x : Value) : Below w0.heap.size w0 (((w.setCell ⟨s, 0, none⟩ u).setCell ⟨s, 1, none⟩ v).setCell ⟨s, 2, none⟩ x) := bs (bs (bs h hs u) hs v) hs x
theorem rn_s3 {s : Nat} {w : World} {v : Value} {n : Nat} (h : RN w v n) (hs : S3 s w) (u1 u2 u3 : Value) : RN (((w.setCell ⟨s, 0, none⟩ u1).setCell ⟨s, 1, none⟩ u2).setCell ⟨s, 2, none⟩ u3) v n := by
  obtain ⟨⟨c0, c1, c2⟩, _⟩ := hs
  obtain ⟨l, ao, cap, rfl, h2, h3, h4, h5⟩ := h
  refine ⟨l, ao, cap, rfl, h2, h3, ?_, h5⟩
  rcases h4 with h4 | ⟨b, off, rfl, h4⟩
  · exact .inl h4
  · refine .inr ⟨b, off, rfl, fun i hi => ?_⟩
    have c := h4 i hi
    have n0 : (⟨s, 0, none⟩ : Addr) ≠ ⟨b, off + i, none⟩ := by intro e; rw [← e, c0] at c; simp at c
    have n1 : (⟨s, 1, none⟩ : Addr) ≠ ⟨b, off + i, none⟩ := by intro e; rw [← e, c1] at c; simp at c
    have n2 : (⟨s, 2, none⟩ : Addr) ≠ ⟨b, off + i, none⟩ := by intro e; rw [← e, c2] at c; simp at c
    rw [World.cell?_setCell_other (h := n2), World.cell?_setCell_other (h := n1), World.cell?_setCell_other (h := n0)]; exact c
theorem k_pos : K ≠ 0 := by decide
theorem b_one : 1 < B := by decide
theorem sm_one : Sm 1 := by unfold Sm; exact Nat.one_lt_pow k_pos b_one
set_option maxRecDepth 20000 in
set_option maxHeartbeats 1000000 in
theorem made_any (neg : Bool) (a b : Nat) (va vb : Value) (w : World) (ha : RN w va a) (hb : RN w vb b) (sa : Hid (Sh a)) (sb : Hid (Sh b)) (hb0 : ¬ b = 0) : Calls Try.prog 92 #[.bool neg, va, vb] w (RetQ w (mk neg a b)) := by
  obtain ⟨ao, la, ca, rfl, hz⟩ := ha.shape
  have HA := hide ha; clear ha
  have HB := hide hb; clear hb
  by_cases h0 : a = 0
  · subst h0
    obtain rfl : la = 0 := by simpa using hz
    clear hz
    go_enter Try.func92, Try.ntmps92
    go_wp2_with fail
    refine bodyPost_ret (v := .agg #[.bool false, .slice none 0 0, .slice (some ⟨w.heap.size + 1, 0, none⟩) 1 1]) (by simp [results, Try.results92, go_sem]) rfl ⟨_, rfl, ⟨none, 0, 0, _, 1, 1, by rw [mk_zero]; rfl, ?_, ?_⟩, ?_⟩
    · rw [mk_zero]; exact ⟨[], none, 0, rfl, can_nil, rfl, .inl rfl, by simp⟩
    · rw [mk_zero]; exact rn_one (by simp [go_sem]) (by decide)
    · exact ba (ba (Below.refl _ _) _) _
  · have hl : ((la : Int) == 0) = false := by rw [beq_eq_false_iff_ne]; omega
    have HZ := hide h0
    have HB0 := hide hb0
    obtain ⟨g, hg⟩ : ∃ g, Hid (g = Nat.gcd a b) := ⟨_, rfl⟩
    have HG0 : Hid (¬ g = 0) := hide (by rw [hg.out]; have := Nat.gcd_pos_of_pos_right a (Nat.pos_of_ne_zero hb0); omega)
    have HGS : Hid (Sh g) := hide (by rw [hg.out]; exact Nat.lt_of_le_of_lt (Nat.gcd_le_right a (Nat.pos_of_ne_zero hb0)) sb.out)
    have HP := hide (mk_parts neg h0 hb0)
    rw [← hg.out] at HP
    clear hz h0 hb0
    go_enter Try.func92, Try.ntmps92
    go_wp2_with fail
    refine (divisor_any a b _ _ _ (HA.out.below (ba (Below.refl _ _) _)) (HB.out.below (ba (Below.refl _ _) _)) sa sb).mono ?_
    rintro e w1 ⟨vg, rfl, hvg, hb1⟩
    have HVG : Hid (RN w1 vg g) := by rw [hg.out]; exact hide hvg
    have HB1 := hide (bt (ba (Below.refl w.heap.size w) _) hb1)
    have s1 := s3_step (s3_new w) hb1
    clear hvg hb1
    go_wp2_with fail
    refine (divided_any a g _ _ _ (HA.out.below HB1.out) HVG.out (hide (sh_sm sa.out)) HGS HG0.out).mono ?_
    rintro e w2 ⟨n1, r1, rfl, hn1, _, hb2⟩
    obtain ⟨no, nl, nc, rfl, _⟩ := hn1.shape
    have HN1 := hide hn1; clear hn1
    have HB2 := hide (bt HB1.out hb2)
    have HVG2 := hide (HVG.out.below hb2)
    have s2 := s3_step s1 hb2
    clear hb2
    go_wp2_with fail
    refine (divided_any b g _ _ _ (HB.out.below HB2.out) HVG2.out (hide (sh_sm sb.out)) HGS HG0.out).mono ?_
    rintro e w3 ⟨d1, r2, rfl, hd1, _, hb3⟩
    obtain ⟨d0, dl, dc, rfl, _⟩ := hd1.shape
    have HD1 := hide hd1; clear hd1
    have HB3 := hide (bt HB2.out hb3)
    have HN3 := hide (HN1.out.below hb3)
    have s3 := s3_step s2 hb3
    clear hb3
    obtain ⟨⟨c0, c1, c2⟩, f0, f1, f2⟩ := s3.out
    go_wp2_with fail
    refine bodyPost_ret (v := .agg #[.bool neg, .slice no nl nc, .slice d0 dl dc]) (by simp [results, Try.results92, go_sem, *]) rfl ⟨_, rfl, ⟨no, nl, nc, d0, dl, dc, by rw [HP.out.1], ?_, ?_⟩, s3_end HB3.out (Nat.le_refl _) _ _ _⟩
    · rw [HP.out.2.1]; exact rn_s3 HN3.out s3.out _ _ _
    · rw [HP.out.2.2]; exact rn_s3 HD1.out s3.out _ _ _
end Go.Proofs.Ytpgnbjlpkpmpcaa.R
