import Derived.Test.YtpgnbjlpkpmpcaaKa
set_option linter.unusedVariables false
namespace Go.Proofs.Ytpgnbjlpkpmpcaa.R
open Go.RowKit Go.Proofs.Ytpgnbjlpkpmpcaa.N
/-- with the floor's variable -/
def P3 (w0 w : World) (s5 : Nat) (va vb vl : Value) (a b l : Rat) : Prop := P2 w0 w va vb a b ∧ QA w s5 vl l ∧ w0.heap.size + 1 + 1 < s5
theorem p3_step {w0 w w' : World} {s5 : Nat} {va vb vl : Value} {a b l : Rat} (h : Hid (P3 w0 w s5 va vb vl a b l)) (hb : Below w.heap.size w w') : Hid (P3 w0 w' s5 va vb vl a b l) :=
  hide ⟨(p2_step (hide h.out.1) hb).out, (qa_step (hide h.out.2.1) hb).out, h.out.2.2⟩
theorem p3_drew {w0 w : World} {s5 : Nat} {va vb vl : Value} {a b l : Rat} (h : Hid (P3 w0 w s5 va vb vl a b l)) : Hid (P3 w0 w.drew s5 va vb vl a b l) :=
  hide ⟨(p2_drew (hide h.out.1)).out, h.out.2.1, h.out.2.2⟩
theorem p3_alloc {w0 w : World} {s5 : Nat} {va vb vl : Value} {a b l : Rat} (h : Hid (P3 w0 w s5 va vb vl a b l)) (o : Obj) : Hid (P3 w0 (w.alloc o) s5 va vb vl a b l) := p3_step h (ba (Below.refl _ _) o)
theorem p3_l {w0 w : World} {s5 : Nat} {va vb : Value} {b1 : Bool} {x y : Option Addr} {l1 c1 l2 c2 : Nat} {a b l : Rat} (h : Hid (P3 w0 w s5 va vb (.agg #[.bool b1, .slice x l1 c1, .slice y l2 c2]) a b l)) : (w.cell? ⟨s5, 0, none⟩ = some (.bool b1) ∧ w.cell? ⟨s5, 1, none⟩ = some (.slice x l1 c1) ∧ w.cell? ⟨s5, 2, none⟩ = some (.slice y l2 c2)) ∧ Hid (P3 w0 w s5 va vb (.agg #[.bool b1, .slice x l1 c1, .slice y l2 c2]) a b l) := ⟨c3_get h.out.2.1.2, h⟩
theorem p3_2 {w0 w : World} {s5 : Nat} {va vb vl : Value} {a b l : Rat} (h : Hid (P3 w0 w s5 va vb vl a b l)) : Hid (P2 w0 w va vb a b) := hide h.out.1
theorem p3_rl {w0 w : World} {s5 : Nat} {va vb vl : Value} {a b l : Rat} (h : Hid (P3 w0 w s5 va vb vl a b l)) : RQ w vl l := h.out.2.1.1
/-- a new variable, empty yet -/
def T3 (w : World) (f : Nat) : Prop := C3 w f (.agg #[.bool false, .slice none 0 0, .slice none 0 0]) ∧ FZ w f
theorem t3_top {W w' : World} {f : Nat} (hb : Below (W.alloc (.cells #[.bool false, .slice none 0 0, .slice none 0 0] 43)).heap.size (W.alloc (.cells #[.bool false, .slice none 0 0, .slice none 0 0] 43)) w') (hf : f = W.heap.size) : Hid (T3 w' f) := by
  subst hf
  have c := c3_new W false none none 0 0 0 0
  exact hide ⟨c3_step c hb, fz_step (fz_new _ _ _ _ _ _ _ _) c hb⟩
theorem t3_top_d {W w' : World} {f : Nat} (hb : Below (W.alloc (.cells #[.bool false, .slice none 0 0, .slice none 0 0] 43)).drew.heap.size (W.alloc (.cells #[.bool false, .slice none 0 0, .slice none 0 0] 43)).drew w') (hf : f = W.heap.size) : Hid (T3 w' f) := by
  subst hf
  have c := c3_new W false none none 0 0 0 0
  have c' : C3 (W.alloc (.cells #[.bool false, .slice none 0 0, .slice none 0 0] 43)).drew W.heap.size (.agg #[.bool false, .slice none 0 0, .slice none 0 0]) := c
  have f' : FZ (W.alloc (.cells #[.bool false, .slice none 0 0, .slice none 0 0] 43)).drew W.heap.size := fz_new _ _ _ _ _ _ _ _
  exact hide ⟨c3_step c' hb, fz_step f' c' hb⟩
theorem t3_step {w w' : World} {f : Nat} (h : Hid (T3 w f)) (hb : Below w.heap.size w w') : Hid (T3 w' f) := hide ⟨c3_step h.out.1 hb, fz_step h.out.2 h.out.1 hb⟩
theorem t3_get {w : World} {f : Nat} (h : Hid (T3 w f)) : (w.cell? ⟨f, 0, none⟩ = some (.bool false) ∧ w.cell? ⟨f, 1, none⟩ = some (.slice none 0 0) ∧ w.cell? ⟨f, 2, none⟩ = some (.slice none 0 0)) ∧ (w.frozen? ⟨f, 0, none⟩ = false ∧ w.frozen? ⟨f, 1, none⟩ = false ∧ w.frozen? ⟨f, 2, none⟩ = false) := ⟨c3_get h.out.1, h.out.2⟩
theorem qa_far {w : World} {s f : Nat} {v u : Value} {q : Rat} (h : QA w s v q) (hs : C3 w f u) (hne : f ≠ s) (b : Bool) (x y : Option Addr) (l1 c1 l2 c2 : Nat) : QA (put3 w f b x y l1 c1 l2 c2) s v q := ⟨rq_put h.1 hs _ _ _ _ _ _ _, c3_put h.2 hne _ _ _ _ _ _ _⟩
theorem p3_put {w0 w : World} {s5 : Nat} {va vb vl : Value} {a b l : Rat} {f : Nat} (h : Hid (P3 w0 w s5 va vb vl a b l)) (ht : Hid (T3 w f)) (hf : s5 < f) (b1 : Bool) (x y : Option Addr) (l1 c1 l2 c2 : Nat) : Hid (P3 w0 (((w.setCell ⟨f, 0, none⟩ (.bool b1)).setCell ⟨f, 1, none⟩ (.slice x l1 c1)).setCell ⟨f, 2, none⟩ (.slice y l2 c2)) s5 va vb vl a b l) := by
  obtain ⟨⟨r, qa, qb⟩, ql, z⟩ := h.out
  exact hide ⟨⟨r3_put r (by omega) _ _ _ _ _ _ _, qa_far qa ht.out.1 (by omega) _ _ _ _ _ _ _, qa_far qb ht.out.1 (by omega) _ _ _ _ _ _ _⟩, qa_far ql ht.out.1 (by omega) _ _ _ _ _ _ _, z⟩
theorem qa_put {w : World} {f : Nat} {q : Rat} {b : Bool} {x y : Option Addr} {l1 c1 l2 c2 : Nat} (hr : RQ w (.agg #[.bool b, .slice x l1 c1, .slice y l2 c2]) q) (ht : Hid (T3 w f)) : Hid (QA (((w.setCell ⟨f, 0, none⟩ (.bool b)).setCell ⟨f, 1, none⟩ (.slice x l1 c1)).setCell ⟨f, 2, none⟩ (.slice y l2 c2)) f (.agg #[.bool b, .slice x l1 c1, .slice y l2 c2]) q) :=
  hide ⟨rq_put hr ht.out.1 _ _ _ _ _ _ _, c3_put_same ht.out.1 _ _ _ _ _ _ _⟩
theorem qa_form {w : World} {f : Nat} {v : Value} {q : Rat} (h : Hid (QA w f v q)) : ∃ b x l1 c1 y l2 c2, v = .agg #[.bool b, .slice x l1 c1, .slice y l2 c2] := by
  obtain ⟨_, b, x, l1, c1, y, l2, c2, e, _⟩ := h.out
  exact ⟨b, x, l1, c1, y, l2, c2, e⟩
/-- what the cut behind 'next' says -/
def NextP (w0 : World) (s5 : Nat) (va vb vl : Value) (a b l nx : Rat) (v : Value) (wx : World) : Prop := ∃ (f : Nat) (vn : Value), v = .pointer (some ⟨f, 0, none⟩) ∧ Hid (P3 w0 wx s5 va vb vl a b l) ∧ Hid (QA wx f vn nx)
/-- with the variable that holds 1 -/
def P4 (w0 w : World) (s5 s7 : Nat) (va vb vl vo : Value) (a b l o : Rat) : Prop := P3 w0 w s5 va vb vl a b l ∧ QA w s7 vo o ∧ w0.heap.size + 1 + 1 < s7
theorem p4_step {w0 w w' : World} {s5 s7 : Nat} {va vb vl vo : Value} {a b l o : Rat} (h : Hid (P4 w0 w s5 s7 va vb vl vo a b l o)) (hb : Below w.heap.size w w') : Hid (P4 w0 w' s5 s7 va vb vl vo a b l o) :=
  hide ⟨(p3_step (hide h.out.1) hb).out, (qa_step (hide h.out.2.1) hb).out, h.out.2.2⟩
theorem p4_drew {w0 w : World} {s5 s7 : Nat} {va vb vl vo : Value} {a b l o : Rat} (h : Hid (P4 w0 w s5 s7 va vb vl vo a b l o)) : Hid (P4 w0 w.drew s5 s7 va vb vl vo a b l o) :=
  hide ⟨(p3_drew (hide h.out.1)).out, h.out.2.1, h.out.2.2⟩
theorem p4_ra {w0 w : World} {s5 s7 : Nat} {va vb vl vo : Value} {a b l o : Rat} (h : Hid (P4 w0 w s5 s7 va vb vl vo a b l o)) : RQ w va a := h.out.1.1.2.1.1
theorem p4_rb {w0 w : World} {s5 s7 : Nat} {va vb vl vo : Value} {a b l o : Rat} (h : Hid (P4 w0 w s5 s7 va vb vl vo a b l o)) : RQ w vb b := h.out.1.1.2.2.1
theorem p4_rl {w0 w : World} {s5 s7 : Nat} {va vb vl vo : Value} {a b l o : Rat} (h : Hid (P4 w0 w s5 s7 va vb vl vo a b l o)) : RQ w vl l := h.out.1.2.1.1
theorem p4_ro {w0 w : World} {s5 s7 : Nat} {va vb vl vo : Value} {a b l o : Rat} (h : Hid (P4 w0 w s5 s7 va vb vl vo a b l o)) : RQ w vo o := h.out.2.1.1
theorem p4_r {w0 w : World} {s5 s7 : Nat} {va vb vl vo : Value} {a b l o : Rat} (h : Hid (P4 w0 w s5 s7 va vb vl vo a b l o)) : Hid (R3 w0 (w0.heap.size + 1 + 1) w) := hide h.out.1.1.1
theorem p4_all {w0 w : World} {s5 s7 : Nat} {b1 b2 b3 b4 : Bool} {x1 y1 x2 y2 x3 y3 x4 y4 : Option Addr} {l1 c1 m1 e1 l2 c2 m2 e2 l3 c3 m3 e3 l4 c4 m4 e4 : Nat} {a b l o : Rat}
    (h : Hid (P4 w0 w s5 s7 (.agg #[.bool b1, .slice x1 l1 c1, .slice y1 m1 e1]) (.agg #[.bool b2, .slice x2 l2 c2, .slice y2 m2 e2]) (.agg #[.bool b3, .slice x3 l3 c3, .slice y3 m3 e3]) (.agg #[.bool b4, .slice x4 l4 c4, .slice y4 m4 e4]) a b l o)) :
    (((w.cell? ⟨w0.heap.size, 0, none⟩ = some (.bool b1) ∧ w.cell? ⟨w0.heap.size, 1, none⟩ = some (.slice x1 l1 c1) ∧ w.cell? ⟨w0.heap.size, 2, none⟩ = some (.slice y1 m1 e1)) ∧ (w.cell? ⟨w0.heap.size + 1, 0, none⟩ = some (.bool b2) ∧ w.cell? ⟨w0.heap.size + 1, 1, none⟩ = some (.slice x2 l2 c2) ∧ w.cell? ⟨w0.heap.size + 1, 2, none⟩ = some (.slice y2 m2 e2))) ∧
     ((w.cell? ⟨s5, 0, none⟩ = some (.bool b3) ∧ w.cell? ⟨s5, 1, none⟩ = some (.slice x3 l3 c3) ∧ w.cell? ⟨s5, 2, none⟩ = some (.slice y3 m3 e3)) ∧ (w.cell? ⟨s7, 0, none⟩ = some (.bool b4) ∧ w.cell? ⟨s7, 1, none⟩ = some (.slice x4 l4 c4) ∧ w.cell? ⟨s7, 2, none⟩ = some (.slice y4 m4 e4)))) ∧
    Hid (P4 w0 w s5 s7 (.agg #[.bool b1, .slice x1 l1 c1, .slice y1 m1 e1]) (.agg #[.bool b2, .slice x2 l2 c2, .slice y2 m2 e2]) (.agg #[.bool b3, .slice x3 l3 c3, .slice y3 m3 e3]) (.agg #[.bool b4, .slice x4 l4 c4, .slice y4 m4 e4]) a b l o) :=
  ⟨⟨⟨c3_get h.out.1.1.2.1.2, c3_get h.out.1.1.2.2.2⟩, ⟨c3_get h.out.1.2.1.2, c3_get h.out.2.1.2⟩⟩, h⟩
theorem rq_r3 {w0 w : World} {s : Nat} {v : Value} {q : Rat} (h : RQ w v q) (hr : Hid (R3 w0 s w)) (u1 u2 u3 : Value) : RQ (((w.setCell ⟨s, 0, none⟩ u1).setCell ⟨s, 1, none⟩ u2).setCell ⟨s, 2, none⟩ u3) v q := by
  obtain ⟨ao, la, ca, bo, lb, cb, rfl, h2, h3⟩ := h
  exact ⟨_, _, _, _, _, _, rfl, rn_r3 h2 hr _ _ _, rn_r3 h3 hr _ _ _⟩
theorem qa_r3 {w0 w : World} {s t : Nat} {v : Value} {q : Rat} (h : QA w t v q) (hr : Hid (R3 w0 s w)) (hne : s ≠ t) (b : Bool) (x y : Option Addr) (l1 c1 l2 c2 : Nat) : QA (put3 w s b x y l1 c1 l2 c2) t v q :=
  ⟨rq_r3 h.1 hr _ _ _, c3_put h.2 hne _ _ _ _ _ _ _⟩
theorem p4_end {w0 w : World} {s5 s7 : Nat} {va vb vl vo : Value} {a b l o : Rat} (h : Hid (P4 w0 w s5 s7 va vb vl vo a b l o)) (b1 : Bool) (x y : Option Addr) (l1 c1 l2 c2 : Nat) :
    Hid (P4 w0 (((w.setCell ⟨w0.heap.size + 1 + 1, 0, none⟩ (.bool b1)).setCell ⟨w0.heap.size + 1 + 1, 1, none⟩ (.slice x l1 c1)).setCell ⟨w0.heap.size + 1 + 1, 2, none⟩ (.slice y l2 c2)) s5 s7 va vb vl vo a b l o) := by
  have hr := p4_r h
  obtain ⟨⟨⟨r, qa, qb⟩, ql, z⟩, qo, z7⟩ := h.out
  exact hide ⟨⟨⟨(r3_set hr b1 x y l1 c1 l2 c2).out, qa_r3 qa hr (by omega) _ _ _ _ _ _ _, qa_r3 qb hr (by omega) _ _ _ _ _ _ _⟩, qa_r3 ql hr (by omega) _ _ _ _ _ _ _, z⟩, qa_r3 qo hr (by omega) _ _ _ _ _ _ _, z7⟩
set_option maxRecDepth 100000 in
set_option maxHeartbeats 8000000 in
theorem simple_pos (K0 : Nat) : ∀ (n d m q : Int) (vp vq : Value) (w : World), d + q ≤ K0 → Sizes n d m q → RQ w vp (Rat.divInt n d) → RQ w vq (Rat.divInt m q) → Calls Try.prog 106 #[vp, vq] w (SqRet w n d m q) := by
  induction K0 with
  | zero => intro n d m q vp vq w hN hS _ _; obtain ⟨⟨_, h1⟩, ⟨_, h2⟩, _⟩ := hS; omega
  | succ K0 ih =>
    intro n d m q vp vq w hN hS hp hq
    have IH := hide ih
    clear ih
    have HSZ0 := hide hS
    obtain ⟨⟨⟨n1, n2⟩, ⟨d1, d2⟩⟩, ⟨⟨m1, m2⟩, ⟨q1, q2⟩⟩, hle⟩ := hS
    obtain ⟨a, ha⟩ : ∃ a, Hid (a = Rat.divInt n d) := ⟨_, rfl⟩
    obtain ⟨b, hb⟩ : ∃ b, Hid (b = Rat.divInt m q) := ⟨_, rfl⟩
    rw [← ha.out] at hp
    rw [← hb.out] at hq
    have hba : Hid (Bq 2 a) := hide (by rw [ha.out]; exact pos_bq n1 n2 d1 d2)
    have hbb : Hid (Bq 2 b) := hide (by rw [hb.out]; exact pos_bq m1 m2 q1 q2)
    have hsa : Hid ((1 : Int) = Int.sign a.num) := hide (by rw [ha.out, sgn_divInt (by omega)]; exact (Int.sign_eq_one_of_pos (by omega)).symm)
    have hsb : Hid ((1 : Int) = Int.sign b.num) := hide (by rw [hb.out, sgn_divInt (by omega)]; exact (Int.sign_eq_one_of_pos (by omega)).symm)
    obtain ⟨L, hL⟩ : ∃ L, L = n / d := ⟨_, rfl⟩
    have hdm : n = d * L + n % d := by rw [hL]; exact (Int.mul_ediv_add_emod n d).symm
    have hm0 := Int.emod_nonneg n (show d ≠ 0 by omega)
    have hm1 := Int.emod_lt_of_pos n (show 0 < d by omega)
    have hL0 : 0 ≤ L := by rw [hL]; exact Int.ediv_nonneg (by omega) (by omega)
    have hLn : L ≤ n := by rw [hL]; exact Int.ediv_le_self d (by omega)
    obtain ⟨l, hl⟩ : ∃ l, Hid (l = (L : Rat)) := ⟨_, rfl⟩
    have hbl : Hid (Bq 2 l) := hide (by rw [hl.out]; exact bq_int ⟨by omega, by omega⟩)
    have HFL : Hid (l = ((a.num / (a.den : Int) : Int) : Rat)) := hide (by rw [hl.out, ha.out, floor_divInt (by omega), hL])
    have hLd : L * d = d * L := Int.mul_comm L d
    obtain ⟨sg, hsg⟩ : ∃ s, Hid (s = Int.sign (L * d - n)) := ⟨_, rfl⟩
    have HSG : Hid (sg = Int.sign (l - a).num) := hide (by rw [hl.out, ha.out, sub_div (by omega), sgn_divInt (by omega)]; exact hsg.out)
    obtain ⟨p1, p2, p3, p4, p5, p6, rfl, hp2, hp3⟩ := hp
    have hp : RQ w (.agg #[.bool (decide (a.num < 0)), .slice p1 p2 p3, .slice p4 p5 p6]) a := ⟨_, _, _, _, _, _, rfl, hp2, hp3⟩
    obtain ⟨t1, t2, t3, t4, t5, t6, rfl, hq2, hq3⟩ := hq
    have hq : RQ w (.agg #[.bool (decide (b.num < 0)), .slice t1 t2 t3, .slice t4 t5 t6]) b := ⟨_, _, _, _, _, _, rfl, hq2, hq3⟩
    obtain ⟨s1, hs1⟩ : ∃ s, Hid (s = decide (a.num < 0)) := ⟨_, rfl⟩
    obtain ⟨s2, hs2⟩ : ∃ s, Hid (s = decide (b.num < 0)) := ⟨_, rfl⟩
    rw [← hs1.out] at hp ⊢
    rw [← hs2.out] at hq ⊢
    have HP := p2_new w s1 s2 p1 p4 t1 t4 p2 p3 p5 p6 t2 t3 t5 t6 a b hp hq
    unfold boxed at HP
    clear hp2 hp3 hq2 hq3 hp hq hs1 hs2
    have HLD := hide hL
    clear hL
    have HARI := hide (And.intro hdm (And.intro hm0 hm1))
    clear hdm hm0 hm1 hLd
    go_enter Try.func106, Try.ntmps106
    go_wp2_with fail
    (with_reducible refine (sign_q a _ _ (p2_a HP).1 1 hsa).mono ?_)
    rintro en w1 ⟨rfl, hbw⟩
    have HP1 := p2_step HP hbw
    clear hbw HP
    obtain ⟨_, e3, e4, e5⟩ := p2_b HP1
    go_wp2_with fail
    (with_reducible refine (sign_q b _ _ (p2_b HP1).1 1 hsb).mono ?_)
    rintro en w2 ⟨rfl, hbw⟩
    have HP2 := p2_step HP1 hbw
    clear hbw HP1 e3 e4 e5
    obtain ⟨_, e0, e1, e2⟩ := p2_a HP2
    go_wp2_with fail
    (with_reducible refine (down_b a _ _ (p2_a HP2).1 hba l HFL).mono ?_)
    rintro en w3 ⟨vl, rfl, hvl, hbw⟩
    have HP3 := p2_step HP2 hbw
    clear hbw HP2 e0 e1 e2
    obtain ⟨x1, x2, x3, x4, x5, x6, rfl, hv2, hv3⟩ := hvl
    have hv : RQ w3 (.agg #[.bool (decide (l.num < 0)), .slice x1 x2 x3, .slice x4 x5 x6]) l := ⟨_, _, _, _, _, _, rfl, hv2, hv3⟩
    obtain ⟨s3, hs3⟩ : ∃ s, Hid (s = decide (l.num < 0)) := ⟨_, rfl⟩
    rw [← hs3.out] at hv ⊢
    have HQL := qa_new hv
    have hz5 : w.heap.size + 1 + 1 < w3.heap.size := by have := HP3.out.1.2.2; have h2 := c3_lt HP3.out.2.2.2; have h3 := HP3.out.1.1.1; obtain ⟨u, hu, _⟩ := h3; exact cell_lt hu
    have HP4 : Hid (P3 w (w3.alloc (.cells #[.bool s3, .slice x1 x2 x3, .slice x4 x5 x6] 43)) w3.heap.size (.agg #[.bool s1, .slice p1 p2 p3, .slice p4 p5 p6]) (.agg #[.bool s2, .slice t1 t2 t3, .slice t4 t5 t6]) (.agg #[.bool s3, .slice x1 x2 x3, .slice x4 x5 x6]) a b l) :=
      hide ⟨(p2_step HP3 (ba (Below.refl _ _) _)).out, HQL.out, hz5⟩
    clear hv hv2 hv3 HQL HP3
    obtain ⟨⟨f0, f1, f2⟩, _⟩ := p3_l HP4
    obtain ⟨_, e0, e1, e2⟩ := p2_a (p3_2 HP4)
    go_wp2_with fail
    clear f0 f1 f2 e0 e1 e2
    obtain ⟨s5, hs5⟩ : ∃ s5, s5 = w3.heap.size := ⟨_, rfl⟩
    rw [← hs5] at HP4 hz5 ⊢
    have hsz : Hid ((w3.alloc (.cells #[.bool s3, .slice x1 x2 x3, .slice x4 x5 x6] 43)).heap.size = s5 + 1) := hide (by rw [hs5]; simp)
    obtain ⟨W, hW⟩ : ∃ W, W = w3.alloc (.cells #[.bool s3, .slice x1 x2 x3, .slice x4 x5 x6] 43) := ⟨_, rfl⟩
    rw [← hW] at HP4 hsz ⊢
    clear hW hs5
    (with_reducible refine (order_is l a _ _ _ (p3_rl HP4) (p2_a (p3_2 HP4)).1 hbl hba sg HSG).mono ?_)
    rintro en w4 ⟨rfl, hbw⟩
    have HP5 := p3_step HP4 hbw
    have hN5 : s5 + 1 ≤ w4.heap.size := by rw [← hsz.out]; exact hbw.size
    clear hbw HP4 hsz
    obtain ⟨⟨f0, f1, f2⟩, _⟩ := p3_l HP5
    by_cases hz : n % d = 0
    · have HSP : Hid (M.Sp n d m q L 1) := hide (by
        obtain ⟨hdm, hm0, hm1⟩ := HARI.out
        have hLd : L * d = d * L := Int.mul_comm L d
        have hL1 : 1 ≤ L := by
          rcases Int.lt_or_le L 1 with c | c
          · have : L = 0 := by omega
            rw [this] at hdm; omega
          · exact c
        have k1 : L * q ≤ m := by
          have e : d * (L * q) = n * q := by rw [← Int.mul_assoc]; congr 1; omega
          have : d * (L * q) ≤ d * m := by rw [e, Int.mul_comm d m]; exact hle
          exact Int.le_of_mul_le_mul_left this (by omega)
        have h := M.sp_base (n := n) (d := d) (m := m) (q := q) (L := L - 1) n1 d1 (by rw [show L - 1 + 1 = L by omega]; omega) (by rw [Int.sub_mul, Int.one_mul]; omega) (by rw [show L - 1 + 1 = L by omega]; exact k1) (by omega)
        rw [show L - 1 + 1 = L by omega] at h
        exact h)
      have hsg0 : sg = 0 := by
        obtain ⟨hdm, hm0, hm1⟩ := HARI.out
        have hLd : L * d = d * L := Int.mul_comm L d
        rw [hsg.out, show L * d - n = 0 by omega]; rfl
      subst hsg0
      obtain ⟨⟨⟨u0, g0, _⟩, ⟨u1, g1, _⟩, ⟨u2, g2, _⟩⟩, ⟨k0, k1, k2⟩, _, hbel⟩ := HP5.out.1.1
      clear hz
      go_wp2_with fail
      refine bodyPost_ret (v := .agg #[.bool s3, .slice x1 x2 x3, .slice x4 x5 x6]) (by simp [results, Try.results106, go_sem, *]) rfl ⟨L, 1, _, rfl, ?_, HSP.out, ?_⟩
      · rw [← intq, ← hl.out]; exact rq_stored (p3_rl HP5) (p2_r (p3_2 HP5))
      · exact bs (bs (bs hbel (by simp only []; omega) _) (by simp only []; omega) _) (by simp only []; omega) _
    · have hzb : (sg == 0) = false := by
        obtain ⟨hdm, hm0, hm1⟩ := HARI.out
        have hLd : L * d = d * L := Int.mul_comm L d
        rw [hsg.out, Int.sign_eq_neg_one_of_neg (by omega)]; decide
      have hzb2 : (sg != 0) = true := by
        rw [bne_iff_ne]; rw [beq_eq_false_iff_ne] at hzb; exact hzb
      clear hzb
      have h1i : In64 1 := ⟨by decide, by decide⟩
      obtain ⟨o, ho⟩ : ∃ q : Rat, Hid (q = ((1 : Int) : Rat)) := ⟨_, rfl⟩
      have hbo : Hid (Bq 2 o) := hide (by rw [ho.out]; exact bq_int h1i)
      obtain ⟨nx, hnx⟩ : ∃ q : Rat, Hid (q = l + o) := ⟨_, rfl⟩
      have HNX : Hid (nx = ((L + 1 : Int) : Rat)) := hide (by rw [hnx.out, hl.out, ho.out]; grind)
      have hbn : Hid (Bq 2 nx) := hide (by rw [HNX.out]; exact bq_int ⟨by omega, by omega⟩)
      have hzb : (sg == 0) = false := by rw [beq_eq_false_iff_ne]; rw [bne_iff_ne] at hzb2; exact hzb2
      go_upto_region 8 with fail
      go_cut [6] (fun v wx => NextP w s5 (.agg #[.bool s1, .slice p1 p2 p3, .slice p4 p5 p6]) (.agg #[.bool s2, .slice t1 t2 t3, .slice t4 t5 t6]) (.agg #[.bool s3, .slice x1 x2 x3, .slice x4 x5 x6]) a b l nx v wx)
      case first =>
        go_region_held3 (fun W => (W.cell? ⟨s5, 0, none⟩ = some (.bool s3) ∧ W.cell? ⟨s5, 1, none⟩ = some (.slice x1 x2 x3) ∧ W.cell? ⟨s5, 2, none⟩ = some (.slice x4 x5 x6)) ∧ Hid (P3 w W s5 (.agg #[.bool s1, .slice p1 p2 p3, .slice p4 p5 p6]) (.agg #[.bool s2, .slice t1 t2 t3, .slice t4 t5 t6]) (.agg #[.bool s3, .slice x1 x2 x3, .slice x4 x5 x6]) a b l))
          ((go_split_ands; refine p3_l ?_; first | (with_reducible exact p3_drew HP5) | (with_reducible exact p3_drew (p3_alloc HP5 _)) | (with_reducible exact p3_step ‹_› hbw) | (with_reducible exact p3_alloc HKp _) | (with_reducible exact p3_alloc HKi _) | (with_reducible exact p3_put ‹_› HT (by omega) _ _ _ _ _ _ _)))
          (first
            | (go_at_call 77; go_split_ands; (with_reducible refine (int_b 1 _ h1i o ho).mono ?_); rintro en w' ⟨vo, rfl, hvo, hbw⟩; have HO := hide hvo; have hNi : s5 < w'.heap.size := (by have := hbw.size; simp at this; omega); have HKi := p3_step ‹_› hbw; (first | (have HT1 := t3_top_d (f := w4.heap.size) hbw rfl) | skip))
            | (go_at_call 51; go_split_ands; (first | (with_reducible refine (plus_is l o nx _ _ _ (p3_rl HKi) HO.out hbl hbo hnx).mono ?_) | (with_reducible refine (plus_is l o nx _ _ _ (p3_rl (p3_alloc HKi _)) (RQ.below HO.out (ba (Below.refl _ _) _)) hbl hbo hnx).mono ?_)); rintro en w' ⟨vn, rfl, hvn, hbw⟩; obtain ⟨y1, y2, y3, y4, y5, y6, rfl, hw2, hw3⟩ := hvn; have hV : RQ w' (.agg #[.bool (decide (nx.num < 0)), .slice y1 y2 y3, .slice y4 y5 y6]) nx := ⟨_, _, _, _, _, _, rfl, hw2, hw3⟩; have HV := hide hV; clear hV hw2 hw3; have HKp := p3_step ‹_› hbw; (first | (have HT := t3_step HT1 hbw) | (have HT := t3_top hbw rfl) | skip); (first | (have HTg := t3_get HT; obtain ⟨⟨k0, k1, k2⟩, ⟨r0, r1, r2⟩⟩ := HTg) | skip)))
        all_goals go_split_ands
        all_goals go_wp2_with fail
        all_goals go_meet
        all_goals exact ⟨_, _, rfl, ‹_›, by first | exact qa_put HV.out HT | exact qa_new HV.out⟩
      case rest =>
        obtain ⟨s6, vn, rfl, HP6, HN6⟩ := hcut
        obtain ⟨y0, y1, y2, y3, y4, y5, y6, rfl⟩ := qa_form HN6
        obtain ⟨sg2, hsg2⟩ : ∃ s, Hid (s = Int.sign ((L + 1) * q - m)) := ⟨_, rfl⟩
        have HSG2 : Hid (sg2 = Int.sign (nx - b).num) := hide (by rw [HNX.out, hb.out, sub_div (by omega), sgn_divInt (by omega)]; exact hsg2.out)
        obtain ⟨h0, h1, h2⟩ := qa_get HN6
        obtain ⟨_, e0, e1, e2⟩ := p2_b (p3_2 HP6)
        go_wp2_with fail
        (with_reducible refine (order_is nx b _ _ _ (qa_rq HN6) (p2_b (p3_2 HP6)).1 hbn hbb sg2 HSG2).mono ?_)
        rintro en w6 ⟨rfl, hbw⟩
        have HP7 := p3_step HP6 hbw
        have HN7 := qa_step HN6 hbw
        clear hbw HP6 HN6 h0 h1 h2 e0 e1 e2
        by_cases hc : (L + 1) * q ≤ m
        · have HSP : Hid (M.Sp n d m q (L + 1) 1) := hide (by
            obtain ⟨hdm, hm0, hm1⟩ := HARI.out
            have hLd : L * d = d * L := Int.mul_comm L d
            exact M.sp_base n1 d1 (by rw [Int.add_mul, Int.one_mul]; omega) (by omega) hc hL0)
          have hle0 : sg2 ≤ 0 := by
            rcases Int.lt_or_le 0 sg2 with c | c
            · rw [hsg2.out] at c
              have := (M.sign_iff _).2.1 c
              omega
            · exact c
          obtain ⟨h0, h1, h2⟩ := qa_get HN7
          obtain ⟨⟨⟨u0, g0, _⟩, ⟨u1, g1, _⟩, ⟨u2, g2, _⟩⟩, ⟨k0, k1, k2⟩, _, hbel⟩ := HP7.out.1.1
          clear hc hz
          go_wp2_with fail
          refine bodyPost_ret (v := .agg #[.bool y0, .slice y1 y2 y3, .slice y4 y5 y6]) (by simp [results, Try.results106, go_sem, *]) rfl ⟨L + 1, 1, _, rfl, ?_, HSP.out, ?_⟩
          · rw [← intq, ← HNX.out]; exact rq_stored (qa_rq HN7) (p2_r (p3_2 HP7))
          · exact bs (bs (bs hbel (by simp only []; omega) _) (by simp only []; omega) _) (by simp only []; omega) _
        · have hgt : 0 < sg2 := by rw [hsg2.out]; exact (M.sign_iff _).2.2 (by omega)
          have hm3 : m < (L + 1) * q := by omega
          obtain ⟨u, hu⟩ : ∃ u, u = m - L * q := ⟨_, rfl⟩
          obtain ⟨v, hv⟩ : ∃ v, v = n - L * d := ⟨_, rfl⟩
          have HBIG : Hid ((1 ≤ u ∧ u < q) ∧ (1 ≤ v ∧ v < d) ∧ L * d < n) := hide (by
            obtain ⟨hdm, hm0, hm1⟩ := HARI.out
            have hLd : L * d = d * L := Int.mul_comm L d
            have e1 : (L + 1) * q = L * q + q := by rw [Int.add_mul, Int.one_mul]
            have hLq : L * q < m := by
              have k1 : L * d * q < n * q := M.lt_mul (by omega) (by omega)
              have e3 : L * d * q = L * q * d := by grind
              exact M.lt_of_mul (k := d) (by omega) (by omega)
            exact ⟨⟨by omega, by omega⟩, ⟨by omega, by omega⟩, by omega⟩)
          have HSZ : Hid (Sizes q u d v) := hide (by
            obtain ⟨⟨u1, u2⟩, ⟨v1, v2⟩, _⟩ := HBIG.out
            have e4 : q * v = n * q - L * q * d := by rw [hv]; grind
            have e5 : d * u = m * d - L * q * d := by rw [hu]; grind
            exact ⟨⟨⟨q1, q2⟩, ⟨by omega, by omega⟩⟩, ⟨⟨d1, d2⟩, ⟨by omega, by omega⟩⟩, by omega⟩)
          have HMS : Hid (u + v ≤ (K0 : Int)) := hide (by
            obtain ⟨⟨u1, u2⟩, ⟨v1, v2⟩, _⟩ := HBIG.out
            omega)
          obtain ⟨rb, hrb⟩ : ∃ r, Hid (r = b - l) := ⟨_, rfl⟩
          have HRB : Hid (rb = Rat.divInt u q) := hide (by rw [hrb.out, hb.out, hl.out, div_sub (by omega), hu])
          obtain ⟨ra, hra⟩ : ∃ r, Hid (r = a - l) := ⟨_, rfl⟩
          have HRA : Hid (ra = Rat.divInt v d) := hide (by rw [hra.out, ha.out, hl.out, div_sub (by omega), hv])
          have hbrb : Hid (Bq 2 rb) := hide (by rw [HRB.out]; have := HBIG.out; exact pos_bq (by omega) (by omega) q1 q2)
          have hbra : Hid (Bq 2 ra) := hide (by rw [HRA.out]; have := HBIG.out; exact pos_bq (by omega) (by omega) d1 d2)
          have hrb0 : Hid (rb ≠ 0) := hide (by
            intro e
            have h1 := (M.divInt_num_sign (u := u) (D := q) (by omega)).2.2 (by have := HBIG.out; omega)
            rw [← HRB.out, e] at h1; exact absurd h1 (by decide))
          have hra0 : Hid (ra ≠ 0) := hide (by
            intro e
            have h1 := (M.divInt_num_sign (u := v) (D := d) (by omega)).2.2 (by have := HBIG.out; omega)
            rw [← HRA.out, e] at h1; exact absurd h1 (by decide))
          obtain ⟨ib, hib⟩ : ∃ r, Hid (r = o / rb) := ⟨_, rfl⟩
          have HIB : Hid (ib = Rat.divInt q u) := hide (by rw [hib.out, HRB.out]; exact inv_div o ho.out)
          obtain ⟨ia, hia⟩ : ∃ r, Hid (r = o / ra) := ⟨_, rfl⟩
          have HIA : Hid (ia = Rat.divInt d v) := hide (by rw [hia.out, HRA.out]; exact inv_div o ho.out)
          have HST : Hid (∀ x y, M.Sp q u d v x y → M.Sp n d m q (y + L * x) x ∧ Bq 2 (Rat.divInt x y) ∧ Bq 2 (Rat.divInt y x) ∧ Rat.divInt x y ≠ 0 ∧ x ≠ 0) := hide (fun x y h => by
            have h' : M.Sp q (m - L * q) d (n - L * d) x y := by rw [← hu, ← hv]; exact h
            have hs := M.sp_step n1 d1 q1 hL0 HBIG.out.2.2 h'
            have hb := M.sp_bd (by have := HBIG.out; omega) HSZ.out.2.2 h
            have x1 := h.1.1.1
            have y1 := h.1.1.2
            have hu2 : u ≤ 1000000000 := by have := HBIG.out; omega
            refine ⟨hs, pos_bq x1 (by omega) y1 (by omega), pos_bq y1 (by omega) x1 (by omega), ?_, by omega⟩
            intro e
            have h1 := (M.divInt_num_sign (u := x) (D := y) (by omega)).2.2 (by omega)
            rw [e] at h1; exact absurd h1 (by decide))
          clear hu hv hm3 hc hz hzb hzb2
          go_wp2_with fail
          (with_reducible refine (int_b 1 _ h1i o ho).mono ?_)
          rintro en w7 ⟨vo, rfl, hvo, hbw⟩
          have HP8 := p3_step HP7 hbw
          obtain ⟨z1, z2, z3, z4, z5, z6, rfl, hw2, hw3⟩ := hvo
          have hV : RQ w7 (.agg #[.bool (decide (o.num < 0)), .slice z1 z2 z3, .slice z4 z5 z6]) o := ⟨_, _, _, _, _, _, rfl, hw2, hw3⟩
          obtain ⟨z0, hz0⟩ : ∃ s, Hid (s = decide (o.num < 0)) := ⟨_, rfl⟩
          rw [← hz0.out] at hV ⊢
          have HO9 := qa_new hV
          have hz7 : w.heap.size + 1 + 1 < w7.heap.size := by obtain ⟨u, hu, _⟩ := HP8.out.1.1.1.1; exact cell_lt hu
          have HP9 : Hid (P4 w (w7.alloc (.cells #[.bool z0, .slice z1 z2 z3, .slice z4 z5 z6] 43)) s5 w7.heap.size (.agg #[.bool s1, .slice p1 p2 p3, .slice p4 p5 p6]) (.agg #[.bool s2, .slice t1 t2 t3, .slice t4 t5 t6]) (.agg #[.bool s3, .slice x1 x2 x3, .slice x4 x5 x6]) (.agg #[.bool z0, .slice z1 z2 z3, .slice z4 z5 z6]) a b l o) :=
            hide ⟨(p3_alloc HP8 _).out, HO9.out, hz7⟩
          clear hbw hV hw2 hw3 HO9 HP8 HP7 HN7
          go_wp2_with fail
          obtain ⟨s7, hs7⟩ : ∃ s7, s7 = w7.heap.size := ⟨_, rfl⟩
          rw [← hs7] at HP9 hz7 ⊢
          clear hs7
          have HP10 := p4_drew HP9
          go_region_held3 (fun W => (((W.cell? ⟨w.heap.size, 0, none⟩ = some (.bool s1) ∧ W.cell? ⟨w.heap.size, 1, none⟩ = some (.slice p1 p2 p3) ∧ W.cell? ⟨w.heap.size, 2, none⟩ = some (.slice p4 p5 p6)) ∧ (W.cell? ⟨w.heap.size + 1, 0, none⟩ = some (.bool s2) ∧ W.cell? ⟨w.heap.size + 1, 1, none⟩ = some (.slice t1 t2 t3) ∧ W.cell? ⟨w.heap.size + 1, 2, none⟩ = some (.slice t4 t5 t6))) ∧ ((W.cell? ⟨s5, 0, none⟩ = some (.bool s3) ∧ W.cell? ⟨s5, 1, none⟩ = some (.slice x1 x2 x3) ∧ W.cell? ⟨s5, 2, none⟩ = some (.slice x4 x5 x6)) ∧ (W.cell? ⟨s7, 0, none⟩ = some (.bool z0) ∧ W.cell? ⟨s7, 1, none⟩ = some (.slice z1 z2 z3) ∧ W.cell? ⟨s7, 2, none⟩ = some (.slice z4 z5 z6)))) ∧ Hid (P4 w W s5 s7 (.agg #[.bool s1, .slice p1 p2 p3, .slice p4 p5 p6]) (.agg #[.bool s2, .slice t1 t2 t3, .slice t4 t5 t6]) (.agg #[.bool s3, .slice x1 x2 x3, .slice x4 x5 x6]) (.agg #[.bool z0, .slice z1 z2 z3, .slice z4 z5 z6]) a b l o))
            ((go_split_ands; refine p4_all ?_; first | (with_reducible exact HP10) | (with_reducible exact p4_step ‹_› hbw) | (with_reducible exact p4_end ‹_› _ _ _ _ _ _ _)))
            (first
              | (go_at_call 44; (with_reducible refine (less_is b l rb _ _ _ (p4_rb HP10) (p4_rl HP10) hbb hbl hrb).mono ?_); rintro en w' ⟨v1, rfl, hv1, hbw⟩; have X1 := hide hv1; have HQ1 := p4_step HP10 hbw)
              | (go_at_call 49; (with_reducible refine (quot_is o rb ib _ _ _ (p4_ro HQ1) X1.out hbo hbrb hrb0 hib).mono ?_); rintro en w' ⟨v2, rfl, hv2, hbw⟩; have X2 := hide hv2; have HQ2 := p4_step HQ1 hbw)
              | (go_at_call 44; (with_reducible refine (less_is a l ra _ _ _ (p4_ra HQ2) (p4_rl HQ2) hba hbl hra).mono ?_); rintro en w' ⟨v3, rfl, hv3, hbw⟩; have X3 := hide hv3; have X2' := hide (RQ.below X2.out hbw); have HQ3 := p4_step HQ2 hbw)
              | (go_at_call 49; (with_reducible refine (quot_is o ra ia _ _ _ (p4_ro HQ3) X3.out hbo hbra hra0 hia).mono ?_); rintro en w' ⟨v4, rfl, hv4, hbw⟩; rw [HIA.out] at hv4; have X4 := hide hv4; have X2d := RQ.below X2'.out hbw; rw [HIB.out] at X2d; have X2'' := hide X2d; clear X2d; have HQ4 := p4_step HQ3 hbw)
              | (go_at_call 106; (with_reducible refine (IH.out q u d v _ _ _ HMS.out HSZ.out X2''.out X4.out).mono ?_); rintro en w' ⟨x, y, v5, rfl, hv5, hsp, hbw⟩; have HST2 := hide (HST.out x y hsp); have X5 := hide hv5; obtain ⟨xr, hxr⟩ : ∃ r, Hid (r = Rat.divInt x y) := ⟨_, rfl⟩; rw [← hxr.out] at X5; have hbx : Hid (Bq 2 xr) := hide (by rw [hxr.out]; exact HST2.out.2.1); have hx0 : Hid (xr ≠ 0) := hide (by rw [hxr.out]; exact HST2.out.2.2.2.1); obtain ⟨ix, hix⟩ : ∃ r, Hid (r = o / xr) := ⟨_, rfl⟩; have HIX : Hid (ix = Rat.divInt y x) := hide (by rw [hix.out, hxr.out]; exact inv_div o ho.out); have hbix : Hid (Bq 2 ix) := hide (by rw [HIX.out]; exact HST2.out.2.2.1); obtain ⟨fi, hfi⟩ : ∃ r, Hid (r = l + ix) := ⟨_, rfl⟩; have HFI : Hid (fi = Rat.divInt (y + L * x) x) := hide (by rw [hfi.out, hl.out, HIX.out]; exact add_div HST2.out.2.2.2.2); have HQ5 := p4_step HQ4 hbw)
              | (go_at_call 49; (with_reducible refine (quot_is o xr ix _ _ _ (p4_ro HQ5) X5.out hbo hbx hx0 hix).mono ?_); rintro en w' ⟨v6, rfl, hv6, hbw⟩; have X6 := hide hv6; have HQ6 := p4_step HQ5 hbw)
              | (go_at_call 51; (with_reducible refine (plus_is l ix fi _ _ _ (p4_rl HQ6) X6.out hbl hbix hfi).mono ?_); rintro en w' ⟨v7, rfl, hv7, hbw⟩; obtain ⟨r1, r2, r3, r4, r5, r6, rfl, hw2, hw3⟩ := hv7; have hV : RQ w' (.agg #[.bool (decide (fi.num < 0)), .slice r1 r2 r3, .slice r4 r5 r6]) fi := ⟨_, _, _, _, _, _, rfl, hw2, hw3⟩; have X7 := hide hV; clear hV hw2 hw3; have HQ7 := p4_step HQ6 hbw; obtain ⟨⟨⟨c0, g0, _⟩, ⟨c1, g1, _⟩, ⟨c2, g2, _⟩⟩, ⟨k0, k1, k2⟩, _, hbel⟩ := (p4_r HQ7).out))
          go_wp2_with fail
          refine bodyPost_ret (v := .agg #[.bool (decide (fi.num < 0)), .slice r1 r2 r3, .slice r4 r5 r6]) (by simp [results, Try.results106, go_sem, *]) rfl ⟨y + L * x, x, _, rfl, ?_, HST2.out.1, ?_⟩
          · rw [← HFI.out]; exact rq_stored X7.out (p4_r HQ7)
          · exact bs (bs (bs hbel (by simp only []; omega) _) (by simp only []; omega) _) (by simp only []; omega) _
end Go.Proofs.Ytpgnbjlpkpmpcaa.R
