import Derived.Test.YtpgnbjlpkpmpcaaCa
import Derived.Test.YtpgnbjlpkpmpcaaZy
set_option linter.unusedVariables false
namespace Go.Proofs.Ytpgnbjlpkpmpcaa.R
open Go.RowKit Go.Proofs.Ytpgnbjlpkpmpcaa.N
/-- the two boxes of the law and the variable of g -/
def LF (w0 w : World) (n d u v : Int) (s7 : Nat) (x y : Int) : Prop := L2 w0 w n d u v ∧ Fx w s7 x y
theorem lf_step {w0 w w' : World} {n d u v : Int} {s7 : Nat} {x y : Int} (h : Hid (LF w0 w n d u v s7 x y)) (hb : Below w.heap.size w w') : Hid (LF w0 w' n d u v s7 x y) := hide ⟨(l2_step (hide h.out.1) hb).out, (fx_step (hide h.out.2) hb).out⟩
theorem lf_alloc {w0 w : World} {n d u v : Int} {s7 : Nat} {x y : Int} (h : Hid (LF w0 w n d u v s7 x y)) (o : Obj) : Hid (LF w0 (w.alloc o) n d u v s7 x y) := lf_step h (ba (Below.refl _ _) o)
theorem lf_drew {w0 w : World} {n d u v : Int} {s7 : Nat} {x y : Int} (h : Hid (LF w0 w n d u v s7 x y)) : Hid (LF w0 w.drew n d u v s7 x y) := hide ⟨(l2_drew (hide h.out.1)).out, h.out.2⟩
theorem lf_top1 {w0 w : World} {n d u v : Int} {s7 : Nat} {x y : Int} (h : Hid (LF w0 w n d u v s7 x y)) : w0.heap.size + 1 < w.heap.size := h.out.1.2.1.2
theorem lf_top2 {w0 w : World} {n d u v : Int} {s7 : Nat} {x y : Int} (h : Hid (LF w0 w n d u v s7 x y)) : s7 < w.heap.size := h.out.2.2.2
theorem lf_below {w0 w : World} {n d u v : Int} {s7 : Nat} {x y : Int} (h : Hid (LF w0 w n d u v s7 x y)) : Below w0.heap.size w0 w := h.out.1.2.2
theorem lf_put {w0 w : World} {n d u v : Int} {s7 : Nat} {x y : Int} (h : Hid (LF w0 w n d u v s7 x y)) {f : Nat} (h1 : w0.heap.size + 1 < f) (h2 : s7 < f) (b : Bool) (p q : Option Addr) (l1 c1 l2 c2 : Nat) : Hid (LF w0 (((w.setCell ⟨f, 0, none⟩ (.bool b)).setCell ⟨f, 1, none⟩ (.slice p l1 c1)).setCell ⟨f, 2, none⟩ (.slice q l2 c2)) n d u v s7 x y) := by
  obtain ⟨⟨⟨r1, r2, r3, r4⟩, ⟨z1, z2⟩, bb⟩, g1, g2, g3⟩ := h.out
  have hs : ∀ (W : World) (a : Addr) (t : Value), (W.setCell a t).heap.size = W.heap.size := fun W a t => by simp [go_sem]
  refine hide ⟨⟨⟨cell_put' r1 (by omega), cell_put' r2 (by omega), cell_put' r3 (by omega), cell_put' r4 (by omega)⟩, ⟨by rw [hs, hs, hs]; exact z1, by rw [hs, hs, hs]; exact z2⟩, bs (bs (bs bb (by simp only []; omega) _) (by simp only []; omega) _) (by simp only []; omega) _⟩, cell_put' g1 (by omega), cell_put' g2 (by omega), by rw [hs, hs, hs]; exact g3⟩
theorem lf_fg {w0 w : World} {n d u v : Int} {s7 : Nat} {x y : Int} (h : Hid (LF w0 w n d u v s7 x y)) : ((w.cell? ⟨w0.heap.size, 0, none⟩ = some (.int .i64 n) ∧ w.cell? ⟨w0.heap.size, 1, none⟩ = some (.int .i64 d)) ∧ (w.cell? ⟨s7, 0, none⟩ = some (.int .i64 x) ∧ w.cell? ⟨s7, 1, none⟩ = some (.int .i64 y))) ∧ Hid (LF w0 w n d u v s7 x y) :=
  ⟨⟨⟨h.out.1.1.1, h.out.1.1.2.1⟩, ⟨h.out.2.1, h.out.2.2.1⟩⟩, h⟩
/-- a new variable of three cells, empty yet -/
def Tn (w : World) (f : Nat) : Prop := C3 w f (.agg #[.bool false, .slice none 0 0, .slice none 0 0]) ∧ FZ w f
theorem tn_top {W w' : World} {f : Nat} (hb : Below (W.alloc (.cells #[.bool false, .slice none 0 0, .slice none 0 0] 43)).heap.size (W.alloc (.cells #[.bool false, .slice none 0 0, .slice none 0 0] 43)) w') (hf : f = W.heap.size) : Hid (Tn w' f) := by
  subst hf
  have c := c3_new W false none none 0 0 0 0
  exact hide ⟨c3_step c hb, fz_step (fz_new _ _ _ _ _ _ _ _) c hb⟩
theorem tn_top_d {W w' : World} {f : Nat} (hb : Below (W.alloc (.cells #[.bool false, .slice none 0 0, .slice none 0 0] 43)).drew.heap.size (W.alloc (.cells #[.bool false, .slice none 0 0, .slice none 0 0] 43)).drew w') (hf : f = W.heap.size) : Hid (Tn w' f) := by
  subst hf
  have c := c3_new W false none none 0 0 0 0
  have c' : C3 (W.alloc (.cells #[.bool false, .slice none 0 0, .slice none 0 0] 43)).drew W.heap.size (.agg #[.bool false, .slice none 0 0, .slice none 0 0]) := c
  have f' : FZ (W.alloc (.cells #[.bool false, .slice none 0 0, .slice none 0 0] 43)).drew W.heap.size := fz_new _ _ _ _ _ _ _ _
  exact hide ⟨c3_step c' hb, fz_step f' c' hb⟩
theorem tn_step {w w' : World} {f : Nat} (h : Hid (Tn w f)) (hb : Below w.heap.size w w') : Hid (Tn w' f) := hide ⟨c3_step h.out.1 hb, fz_step h.out.2 h.out.1 hb⟩
theorem tn_get {w : World} {f : Nat} (h : Hid (Tn w f)) : (w.cell? ⟨f, 0, none⟩ = some (.bool false) ∧ w.cell? ⟨f, 1, none⟩ = some (.slice none 0 0) ∧ w.cell? ⟨f, 2, none⟩ = some (.slice none 0 0)) ∧ (w.frozen? ⟨f, 0, none⟩ = false ∧ w.frozen? ⟨f, 1, none⟩ = false ∧ w.frozen? ⟨f, 2, none⟩ = false) := ⟨c3_get h.out.1, h.out.2⟩
/-- a rational number in a variable that may be written -/
def Qf (w : World) (f : Nat) (v : Value) (q : Rat) : Prop := QA w f v q ∧ FZ w f
theorem qf_put {w : World} {f : Nat} {q : Rat} {b : Bool} {x y : Option Addr} {l1 c1 l2 c2 : Nat} (hr : RQ w (.agg #[.bool b, .slice x l1 c1, .slice y l2 c2]) q) (ht : Hid (Tn w f)) : Hid (Qf (((w.setCell ⟨f, 0, none⟩ (.bool b)).setCell ⟨f, 1, none⟩ (.slice x l1 c1)).setCell ⟨f, 2, none⟩ (.slice y l2 c2)) f (.agg #[.bool b, .slice x l1 c1, .slice y l2 c2]) q) :=
  hide ⟨⟨rq_put hr ht.out.1 _ _ _ _ _ _ _, c3_put_same ht.out.1 _ _ _ _ _ _ _⟩, fz_put ht.out.2 _ _ _ _ _ _ _⟩
theorem qf_new {w : World} {q : Rat} {b : Bool} {x y : Option Addr} {l1 c1 l2 c2 : Nat} (hr : RQ w (.agg #[.bool b, .slice x l1 c1, .slice y l2 c2]) q) : Hid (Qf (w.alloc (.cells #[.bool b, .slice x l1 c1, .slice y l2 c2] 43)) w.heap.size (.agg #[.bool b, .slice x l1 c1, .slice y l2 c2]) q) :=
  hide ⟨⟨hr.below (ba (Below.refl _ _) _), c3_new _ _ _ _ _ _ _ _⟩, fz_new _ _ _ _ _ _ _ _⟩
theorem qf_step {w w' : World} {f : Nat} {v : Value} {q : Rat} (h : Hid (Qf w f v q)) (hb : Below w.heap.size w w') : Hid (Qf w' f v q) := hide ⟨(qa_step (hide h.out.1) hb).out, fz_step h.out.2 h.out.1.2 hb⟩
theorem qf_drew {w : World} {f : Nat} {v : Value} {q : Rat} (h : Hid (Qf w f v q)) : Hid (Qf w.drew f v q) := h
theorem qf_rq {w : World} {f : Nat} {v : Value} {q : Rat} (h : Hid (Qf w f v q)) : RQ w v q := h.out.1.1
theorem qf_set {w : World} {f : Nat} {v : Value} {q q' : Rat} {b : Bool} {x y : Option Addr} {l1 c1 l2 c2 : Nat} (h : Hid (Qf w f v q)) (hr : RQ w (.agg #[.bool b, .slice x l1 c1, .slice y l2 c2]) q') : Hid (Qf (((w.setCell ⟨f, 0, none⟩ (.bool b)).setCell ⟨f, 1, none⟩ (.slice x l1 c1)).setCell ⟨f, 2, none⟩ (.slice y l2 c2)) f (.agg #[.bool b, .slice x l1 c1, .slice y l2 c2]) q') :=
  hide ⟨⟨rq_put hr h.out.1.2 _ _ _ _ _ _ _, c3_put_same h.out.1.2 _ _ _ _ _ _ _⟩, fz_put h.out.2 _ _ _ _ _ _ _⟩
theorem qf_form {w : World} {f : Nat} {v : Value} {q : Rat} (h : Hid (Qf w f v q)) : ∃ b x l1 c1 y l2 c2, v = .agg #[.bool b, .slice x l1 c1, .slice y l2 c2] := by
  obtain ⟨⟨_, b, x, l1, c1, y, l2, c2, e, _⟩, _⟩ := h.out
  exact ⟨b, x, l1, c1, y, l2, c2, e⟩
theorem qf_get {w : World} {f : Nat} {b : Bool} {x y : Option Addr} {l1 c1 l2 c2 : Nat} {q : Rat} (h : Hid (Qf w f (.agg #[.bool b, .slice x l1 c1, .slice y l2 c2]) q)) : (w.cell? ⟨f, 0, none⟩ = some (.bool b) ∧ w.cell? ⟨f, 1, none⟩ = some (.slice x l1 c1) ∧ w.cell? ⟨f, 2, none⟩ = some (.slice y l2 c2)) ∧ (w.frozen? ⟨f, 0, none⟩ = false ∧ w.frozen? ⟨f, 1, none⟩ = false ∧ w.frozen? ⟨f, 2, none⟩ = false) := ⟨c3_get h.out.1.2, h.out.2⟩
/-- all the variables of the law -/
def Sc (w0 w : World) (n d u v : Int) (s7 : Nat) (x y : Int) (b : Nat) (va : Value) (o : Rat) : Prop := LF w0 w n d u v s7 x y ∧ Qf w b va o ∧ (w0.heap.size + 1 < b ∧ s7 < b)
theorem sc_step {w0 w w' : World} {n d u v : Int} {s7 : Nat} {x y : Int} {b : Nat} {va : Value} {o : Rat} (h : Hid (Sc w0 w n d u v s7 x y b va o)) (hb : Below w.heap.size w w') : Hid (Sc w0 w' n d u v s7 x y b va o) := hide ⟨(lf_step (hide h.out.1) hb).out, (qf_step (hide h.out.2.1) hb).out, h.out.2.2⟩
theorem sc_drew {w0 w : World} {n d u v : Int} {s7 : Nat} {x y : Int} {b : Nat} {va : Value} {o : Rat} (h : Hid (Sc w0 w n d u v s7 x y b va o)) : Hid (Sc w0 w.drew n d u v s7 x y b va o) := hide ⟨(lf_drew (hide h.out.1)).out, h.out.2.1, h.out.2.2⟩
theorem sc_rq {w0 w : World} {n d u v : Int} {s7 : Nat} {x y : Int} {b : Nat} {va : Value} {o : Rat} (h : Hid (Sc w0 w n d u v s7 x y b va o)) : RQ w va o := h.out.2.1.1.1
theorem sc_b {w0 w : World} {n d u v : Int} {s7 : Nat} {x y : Int} {b : Nat} {va : Value} {o : Rat} (h : Hid (Sc w0 w n d u v s7 x y b va o)) : Below w0.heap.size w0 w := h.out.1.1.2.2
theorem sc_all {w0 w : World} {n d u v : Int} {s7 : Nat} {x y : Int} {b : Nat} {b1 : Bool} {p q : Option Addr} {l1 c1 l2 c2 : Nat} {o : Rat} (h : Hid (Sc w0 w n d u v s7 x y b (.agg #[.bool b1, .slice p l1 c1, .slice q l2 c2]) o)) :
    (((w.cell? ⟨w0.heap.size + 1, 0, none⟩ = some (.int .i64 u) ∧ w.cell? ⟨w0.heap.size + 1, 1, none⟩ = some (.int .i64 v)) ∧ (w.cell? ⟨s7, 0, none⟩ = some (.int .i64 x) ∧ w.cell? ⟨s7, 1, none⟩ = some (.int .i64 y))) ∧ (w.cell? ⟨b, 0, none⟩ = some (.bool b1) ∧ w.cell? ⟨b, 1, none⟩ = some (.slice p l1 c1) ∧ w.cell? ⟨b, 2, none⟩ = some (.slice q l2 c2))) ∧ Hid (Sc w0 w n d u v s7 x y b (.agg #[.bool b1, .slice p l1 c1, .slice q l2 c2]) o) :=
  ⟨⟨⟨⟨h.out.1.1.1.2.2.1, h.out.1.1.1.2.2.2⟩, ⟨h.out.1.2.1, h.out.1.2.2.1⟩⟩, c3_get h.out.2.1.1.2⟩, h⟩
def Off (w0 w : World) (n d u v : Int) (s7 : Nat) (x y : Int) (o : Rat) (s9 : Value) : Prop := ∃ b va, s9 = .pointer (some ⟨b, 0, none⟩) ∧ Hid (Sc w0 w n d u v s7 x y b va o)
def Off2 (w0 w : World) (n d u v : Int) (s7 : Nat) (x y : Int) (b : Nat) (o : Rat) : Prop := ∃ va, Hid (Sc w0 w n d u v s7 x y b va o)
theorem sc_form {w0 w : World} {n d u v : Int} {s7 : Nat} {x y : Int} {b : Nat} {va : Value} {o : Rat} (h : Hid (Sc w0 w n d u v s7 x y b va o)) : ∃ b x l1 c1 y l2 c2, va = .agg #[.bool b, .slice x l1 c1, .slice y l2 c2] := qf_form (hide h.out.2.1)
theorem sc_get {w0 w : World} {n d u v : Int} {s7 : Nat} {x y : Int} {b : Nat} {b1 : Bool} {p q : Option Addr} {l1 c1 l2 c2 : Nat} {o : Rat} (h : Hid (Sc w0 w n d u v s7 x y b (.agg #[.bool b1, .slice p l1 c1, .slice q l2 c2]) o)) : (w.cell? ⟨b, 0, none⟩ = some (.bool b1) ∧ w.cell? ⟨b, 1, none⟩ = some (.slice p l1 c1) ∧ w.cell? ⟨b, 2, none⟩ = some (.slice q l2 c2)) ∧ (w.frozen? ⟨b, 0, none⟩ = false ∧ w.frozen? ⟨b, 1, none⟩ = false ∧ w.frozen? ⟨b, 2, none⟩ = false) := qf_get (hide h.out.2.1)
theorem sc_set {w0 w : World} {n d u v : Int} {s7 : Nat} {x y : Int} {b : Nat} {va : Value} {o o' : Rat} {b1 : Bool} {p q : Option Addr} {l1 c1 l2 c2 : Nat} (h : Hid (Sc w0 w n d u v s7 x y b va o)) (hr : RQ w (.agg #[.bool b1, .slice p l1 c1, .slice q l2 c2]) o') : Hid (Sc w0 (((w.setCell ⟨b, 0, none⟩ (.bool b1)).setCell ⟨b, 1, none⟩ (.slice p l1 c1)).setCell ⟨b, 2, none⟩ (.slice q l2 c2)) n d u v s7 x y b (.agg #[.bool b1, .slice p l1 c1, .slice q l2 c2]) o') :=
  hide ⟨(lf_put (hide h.out.1) h.out.2.2.1 h.out.2.2.2 _ _ _ _ _ _ _).out, (qf_set (hide h.out.2.1) hr).out, h.out.2.2⟩
theorem minus_b (p r : Rat) (vp : Value) (w : World) (hp : RQ w vp p) (hr : Hid (r = -p)) : Calls Try.prog 47 #[vp] w (RetQ w r) := by
  rw [hr.out]; exact minus_q p vp w hp
set_option maxRecDepth 20000 in
set_option maxHeartbeats 4000000 in
theorem law_close_yes (n d u v m x y : Int) (w : World) (h1 : M.okB n d = true) (h2 : M.okB u v = true) (hu : 0 < u) (hm : modeB m = true) (HT : Hid (RT n d u v m x y 0)) (i1 : In64 n) (i2 : In64 d) (i3 : In64 u) (i4 : In64 v) : Calls Try.prog 8 #[.agg #[.int .i64 n, .int .i64 d], .agg #[.int .i64 u, .int .i64 v], .int .i64 m] w fun e w' => e = .returned (.bool true) ∧ Below w.heap.size w w' := by
  have G : Hid (Ins n d u v) := hide ⟨⟨i1, i2⟩, ⟨i3, i4⟩⟩
  clear i1 i2 i3 i4
  have hv1 := hide h1
  have hv2 := hide h2
  obtain ⟨a1, a2, a3, a4⟩ := okB_in h1
  obtain ⟨b1, b2', b3, b4⟩ := okB_in h2
  obtain ⟨p1, p2⟩ := prod_bd a1 a2 (by omega : -1000000000 ≤ v) b4
  obtain ⟨p3, p4⟩ := prod_bd (by omega : -1000000000 ≤ d) a4 (by omega : -1000000000 ≤ u) b2'
  have hD1 : 0 < d * u := Int.mul_pos (by omega) hu
  obtain ⟨s, hs⟩ : ∃ s, Hid (s = Rat.divInt n d) := ⟨_, rfl⟩
  obtain ⟨t, ht⟩ : ∃ t, Hid (t = Rat.divInt u v) := ⟨_, rfl⟩
  obtain ⟨p, hp⟩ : ∃ p, Hid (p = s / t) := ⟨_, rfl⟩
  have HPD : Hid (p = Rat.divInt (n * v) (d * u)) := hide (by rw [hp.out, hs.out, ht.out]; exact M.div_is.symm)
  have HP : Hid (Mid p) := hide (by rw [HPD.out]; exact mid_div hD1 (by omega) (by omega))
  obtain ⟨k, hk⟩ : ∃ k, Hid (k = M.rq p m) := ⟨_, rfl⟩
  have HK : Hid (k = M.rnd (n * v) (d * u) m) := hide (by rw [hk.out, HPD.out]; exact (M.rnd_is m hD1).symm)
  have HKB : Hid (-4611686018427387904 ≤ k ∧ k ≤ 4611686018427387904) := hide (by rw [hk.out]; exact rq_bd HP.out)
  obtain ⟨r, hr⟩ : ∃ r, Hid (r = (k : Rat) * t) := ⟨_, rfl⟩
  have hok : okR n d u v m = true := by unfold okR; rw [h1, h2, hm]; simpa using hu
  have HA : Hid (M.okB x y = true ∧ Rat.divInt x y = r) := hide (by
    obtain ⟨e1, e2, e3⟩ := tri_yes HT hok
    have hdv : Rat.divInt (k * u) v = r := by rw [hr.out, ht.out]; exact unit_times k u v
    rw [← HK.out] at e1 e2 e3
    obtain ⟨k1, k2, k3⟩ := M.new_is (n := k * u) (d := v) (by omega) hdv
    have h0 : M.aE r = 0 := by rw [← k3]; exact e3.out.symm
    rw [e1.out, e2.out, k1, k2]
    exact M.ans_fits h0)
  have hv3 : Hid (M.okB x y = true) := hide HA.out.1
  obtain ⟨c1, c2, c3, c4⟩ := okB_in HA.out.1
  have ht0 : 0 < t := by rw [ht.out, rat_zero, div_lt (by omega) (by omega)]; omega
  obtain ⟨o, ho⟩ : ∃ o, Hid (o = r - s) := ⟨_, rfl⟩
  obtain ⟨o', ho'⟩ : ∃ o', Hid (o' = if o.num < 0 then -o else o) := ⟨_, rfl⟩
  obtain ⟨oo, hoo⟩ : ∃ q, Hid (q = o' + o') := ⟨_, rfl⟩
  obtain ⟨sg, hsg⟩ : ∃ q, Hid (q = Int.sign o.num) := ⟨_, rfl⟩
  obtain ⟨hf, hhf⟩ : ∃ q, Hid (q = Int.sign (oo - t).num) := ⟨_, rfl⟩
  obtain ⟨lt, hlt⟩ : ∃ q, Hid (q = Int.sign (o' - t).num) := ⟨_, rfl⟩
  have HC := close s t p m hp.out ht0 hm o (by rw [ho.out, hr.out, hk.out])
  rw [← ho'.out, ← hoo.out] at HC
  have hlt1 : lt = -1 := by rw [hlt.out]; exact Int.sign_eq_neg_one_of_neg HC.1
  have HH : Hid (3 ≤ m → hf ≤ 0) := hide (fun h3 => by
    rw [hhf.out]
    have h4 := HC.2 h3
    by_cases c : (oo - t).num = 0
    · rw [c]; decide
    · rw [Int.sign_eq_neg_one_of_neg (by omega)]; decide)
  obtain ⟨A, hA⟩ : ∃ A, A = x * d + -n * y := ⟨_, rfl⟩
  obtain ⟨D, hD⟩ : ∃ D, D = y * d := ⟨_, rfl⟩
  have hoD : o = Rat.divInt A D := by rw [ho.out, ← HA.out.2, hs.out, hA, hD, M.sub_is (by omega) (by omega)]
  obtain ⟨q1, q2⟩ := prod_bd c1 c2 (by omega : -1000000000 ≤ d) a4
  obtain ⟨q3, q4⟩ := prod_bd (a := -n) (by omega) (by omega) (by omega : -1000000000 ≤ y) c4
  obtain ⟨q5, q6⟩ := prod_bd (by omega : -1000000000 ≤ y) c4 (by omega : -1000000000 ≤ d) a4
  have hD0 : 0 < D := by rw [hD]; exact Int.mul_pos (by omega) (by omega)
  have hAb : -2000000000000000000 ≤ A ∧ A ≤ 2000000000000000000 := by omega
  have BO : Hid (Bq 2 o) := hide (by rw [hoD]; exact bq_div hD0 (by rw [b2]; omega) (by rw [b2]; omega))
  have BO' : Hid (Bq 2 o') := hide (by rw [ho'.out]; split; exact bq_neg BO.out; exact BO.out)
  have BOO : Hid (Bq 2 oo) := hide (by
    have e : oo = Rat.divInt (2 * A) D ∨ oo = Rat.divInt (-(2 * A)) D := by
      rw [hoo.out, ho'.out]
      have h2 : Rat.divInt (2 * A) D = o + o := by
        have := M.mul_is (n := 2) (d := 1) (m := A) (q := D)
        rw [Int.one_mul, ← cast_div, ← hoD] at this
        rw [this]; have : ((2 : Int) : Rat) = 2 := rfl; rw [this]; grind
      split
      · right; rw [← Rat.neg_divInt, h2]; grind
      · left; rw [h2]
    rcases e with e | e
    · rw [e]; exact bq_div hD0 (by rw [b2]; omega) (by rw [b2]; omega)
    · rw [e]; exact bq_div hD0 (by rw [b2]; omega) (by rw [b2]; omega))
  have BS : Hid (Bq 2 s) := by rw [hs.out]; exact hide (bq_frac h1)
  have BT : Hid (Bq 2 t) := by rw [ht.out]; exact hide (bq_frac h2)
  have BR : Hid (Bq 2 r) := hide (by rw [← HA.out.2]; exact bq_frac HA.out.1)
  have HRX : Hid (r = Rat.divInt x y) := hide HA.out.2.symm
  have HT0 : Hid (t ≠ 0) := hide (fun c => by rw [c] at ht0; exact absurd ht0 (by decide))
  obtain ⟨kq, hkq⟩ : ∃ q, Hid (q = r / t) := ⟨_, rfl⟩
  have HKQ : Hid (kq = (k : Rat)) := hide (by rw [hkq.out, hr.out]; exact Rat.mul_div_cancel HT0.out)
  clear h1 h2 hu hm a1 a2 a3 a4 b1 b2' b3 b4 p1 p2 p3 p4 hD1 hok c1 c2 c3 c4 ht0 HC hA hD hoD q1 q2 q3 q4 q5 q6 hD0 hAb HPD HA
  subst hlt1
  have HL := l2_start (w := w) (n := n) (d := d) (m := u) (q := v)
  go_enter Try.func8, Try.ntmps8
  go_wp2_with fail
  refine (roundto_is n d u v m x y 0 _ G HT).mono ?_
  rintro e w1 ⟨rfl, hb⟩
  have HL1 := l2_step HL (ba hb (Obj.cells #[.int .i64 x, .int .i64 y] 23))
  have HL1' := l2_step HL hb
  have HX1 := fx_new w1 x y
  clear hb HL
  obtain ⟨⟨r1, r2, r3, r4⟩, ⟨_, _⟩, _⟩ := HL1'.out
  go_wp2_with fail
  refine (rvalid_is n d true _ hv1).mono ?_
  rintro e w2 ⟨rfl, hb⟩
  have HL2 := l2_step HL1 hb
  have HX2 := fx_step HX1 hb
  clear hb HL1 HL1' HX1 r1 r2 r3 r4
  obtain ⟨⟨r1, r2, r3, r4⟩, ⟨_, _⟩, _⟩ := HL2.out
  obtain ⟨g1, g2, _⟩ := HX2.out
  go_wp2_with fail
  refine (rvalid_is u v true _ hv2).mono ?_
  rintro e w3 ⟨rfl, hb⟩
  have HL3 := l2_step HL2 hb
  have HX3 := fx_step HX2 hb
  clear hb HL2 HX2 r1 r2 r3 r4 g1 g2
  obtain ⟨⟨r1, r2, r3, r4⟩, ⟨_, _⟩, _⟩ := HL3.out
  obtain ⟨g1, g2, _⟩ := HX3.out
  go_wp2_with fail
  refine (rvalid_is x y true _ hv3).mono ?_
  rintro e w4 ⟨rfl, hb⟩
  have HL4 := l2_step HL3 hb
  have HX4 := fx_step HX3 hb
  clear hb HL3 HX3 r1 r2 r3 r4 g1 g2
  obtain ⟨⟨r1, r2, r3, r4⟩, ⟨_, _⟩, _⟩ := HL4.out
  obtain ⟨g1, g2, _⟩ := HX4.out
  have HLF : Hid (LF w w4 n d u v w1.heap.size x y) := hide ⟨HL4.out, HX4.out⟩
  go_wp2_with fail
  clear g1 g2 r1 r2 r3 r4 HX4 HL4
  have ht1 := lf_top1 HLF
  have ht2 := lf_top2 HLF
  go_upto_region 6 with fail
  go_cut [9] (fun s9 wx => Off w wx n d u v w1.heap.size x y o s9)
  case first =>
    go_region_held3 (fun w' => ((w'.cell? ⟨w.heap.size, 0, none⟩ = some (.int .i64 n) ∧ w'.cell? ⟨w.heap.size, 1, none⟩ = some (.int .i64 d)) ∧ (w'.cell? ⟨w1.heap.size, 0, none⟩ = some (.int .i64 x) ∧ w'.cell? ⟨w1.heap.size, 1, none⟩ = some (.int .i64 y))) ∧ Hid (LF w w' n d u v w1.heap.size x y))
      ((go_split_ands; refine lf_fg ?_; first | (with_reducible exact lf_drew HLF) | (with_reducible exact lf_drew (lf_alloc HLF _)) | (with_reducible exact lf_step ‹_› hbw) | (with_reducible exact lf_alloc HK3 _) | (with_reducible exact lf_alloc HK2 _) | (with_reducible exact lf_alloc HK1 _) | (with_reducible exact lf_put ‹_› (by omega) (by omega) _ _ _ _ _ _ _)))
      (first
        | (go_at_call 45; go_split_ands; (with_reducible refine (ofr_q x y _ hv3.out r HRX).mono ?_); rintro en w' ⟨vr, rfl, hvr, hbw⟩; have X1 := hide hvr; have hN1 : w4.heap.size ≤ w'.heap.size := (by have := hbw.size; (try simp at this); omega); have HK1 := lf_step ‹_› hbw; (first | (have HT1 := tn_top_d (f := w4.heap.size) hbw rfl) | skip))
        | (go_at_call 45; go_split_ands; (with_reducible refine (ofr_q n d _ hv1.out s hs).mono ?_); rintro en w' ⟨vs, rfl, hvs, hbw⟩; have X2 := hide hvs; (first | (have X1' := hide (RQ.below X1.out hbw)) | (have X1' := hide (RQ.below (RQ.below X1.out (ba (Below.refl _ _) _)) hbw))); have hN2 : w4.heap.size ≤ w'.heap.size := (by have := hbw.size; (try simp at this); omega); have HK2 := lf_step ‹_› hbw; (first | (have HT2 := tn_step HT1 hbw) | (have HT2 := tn_top hbw rfl) | skip))
        | (go_at_call 44; go_split_ands; (first | (with_reducible refine (less_is r s o _ _ _ X1'.out X2.out BR BS ho).mono ?_) | (with_reducible refine (less_is r s o _ _ _ (RQ.below X1'.out (ba (Below.refl _ _) _)) (RQ.below X2.out (ba (Below.refl _ _) _)) BR BS ho).mono ?_)); rintro en w' ⟨vo, rfl, hvo, hbw⟩; obtain ⟨y1, y2, y3, y4, y5, y6, rfl, hw2, hw3⟩ := hvo; have hV : RQ w' (.agg #[.bool (decide (o.num < 0)), .slice y1 y2 y3, .slice y4 y5 y6]) o := ⟨_, _, _, _, _, _, rfl, hw2, hw3⟩; have HV := hide hV; clear hV hw2 hw3; have hN3 : w4.heap.size ≤ w'.heap.size := (by have := hbw.size; (try simp at this); omega); have HK3 := lf_step ‹_› hbw; (first | (have HT3 := tn_step HT2 hbw) | (have HT3 := tn_top hbw rfl) | skip); (first | (have HTg := tn_get HT3; obtain ⟨⟨k0, k1, k2⟩, ⟨t0, t1, t2⟩⟩ := HTg) | skip)))
    all_goals go_split_ands
    all_goals go_wp2_with fail
    all_goals go_meet
    all_goals exact ⟨_, _, rfl, hide ⟨Hid.out ‹Hid (LF w _ n d u v w1.heap.size x y)›, Hid.out (by first | exact qf_put HV.out HT3 | exact qf_new HV.out), by constructor <;> omega⟩⟩
  case rest =>
    obtain ⟨b, va, rfl, HS⟩ := hcut
    obtain ⟨b1, z1, z2, z3, z4, z5, z6, rfl⟩ := sc_form HS
    obtain ⟨⟨_, ⟨e0, e1, e2⟩⟩, _⟩ := sc_all HS
    go_wp2_with fail
    (with_reducible refine (sign_q o _ _ (sc_rq HS) sg hsg).mono ?_)
    rintro en w6 ⟨rfl, hbw⟩
    have HS1 := sc_step HS hbw
    clear hbw HS e0 e1 e2
    go_upto_if 43 with fail
    go_cut [44] (fun vv wx => Off2 w wx n d u v w1.heap.size x y b o')
    case first =>
      obtain ⟨⟨_, ⟨e0, e1, e2⟩⟩, _⟩ := sc_all HS1
      by_cases hneg : sg < 0
      · have HM : Hid (o' = -o) := hide (by
          rw [ho'.out, if_pos]
          rw [hsg.out] at hneg
          exact (M.sign_iff _).1.1 hneg)
        go_wp2_with fail
        (with_reducible refine (minus_b o o' _ _ (sc_rq HS1) HM).mono ?_)
        rintro en w7 ⟨vm, rfl, hvm, hbw⟩
        have HS2 := sc_step HS1 hbw
        obtain ⟨y1, y2, y3, y4, y5, y6, rfl, hw2, hw3⟩ := hvm
        have hV : RQ w7 (.agg #[.bool (decide (o'.num < 0)), .slice y1 y2 y3, .slice y4 y5 y6]) o' := ⟨_, _, _, _, _, _, rfl, hw2, hw3⟩
        have HV := hide hV
        clear hV hw2 hw3 hbw HS1 e0 e1 e2
        obtain ⟨⟨e0, e1, e2⟩, ⟨f0, f1, f2⟩⟩ := sc_get HS2
        have HS3 := sc_set HS2 HV.out
        go_wp2_with fail
        go_meet
        exact ⟨_, HS3⟩
      · have HM : Hid (o = o') := hide (by
          rw [ho'.out, if_neg]
          intro c
          apply hneg
          rw [hsg.out]
          exact (M.sign_iff _).1.2 c)
        go_wp2_with fail
        go_meet
        exact ⟨_, by rw [← HM.out]; exact HS1⟩
    case rest =>
      obtain ⟨vb, HS2⟩ := hcut
      obtain ⟨a1, a2, a3, a4, a5, a6, a7, rfl⟩ := sc_form HS2
      go_upto_region 9 with fail
      go_cut [10, 11] (fun v10 v11 wx => v11 = .bool true ∧ Off2 w wx n d u v w1.heap.size x y b o')
      case first =>
        have HD2 := sc_drew HS2
        go_region_held3 (fun W => (((W.cell? ⟨w.heap.size + 1, 0, none⟩ = some (.int .i64 u) ∧ W.cell? ⟨w.heap.size + 1, 1, none⟩ = some (.int .i64 v)) ∧ (W.cell? ⟨w1.heap.size, 0, none⟩ = some (.int .i64 x) ∧ W.cell? ⟨w1.heap.size, 1, none⟩ = some (.int .i64 y))) ∧ (W.cell? ⟨b, 0, none⟩ = some (.bool a1) ∧ W.cell? ⟨b, 1, none⟩ = some (.slice a2 a3 a4) ∧ W.cell? ⟨b, 2, none⟩ = some (.slice a5 a6 a7))) ∧ Hid (Sc w W n d u v w1.heap.size x y b (.agg #[.bool a1, .slice a2 a3 a4, .slice a5 a6 a7]) o'))
          ((go_split_ands; refine sc_all ?_; first | (with_reducible exact HD2) | (with_reducible exact sc_step ‹_› hbw)))
          (first
            | (go_at_call 45; (with_reducible refine (ofr_q x y _ hv3.out r HRX).mono ?_); rintro en w' ⟨v1, rfl, h1, hbw⟩; have X1 := hide h1; have HA1 := sc_step HD2 hbw)
            | (go_at_call 45; (with_reducible refine (ofr_q u v _ hv2.out t ht).mono ?_); rintro en w' ⟨v2, rfl, h2, hbw⟩; have X2 := hide h2; have X1' := hide (RQ.below X1.out hbw); have HA2 := sc_step HA1 hbw)
            | (go_at_call 49; (with_reducible refine (quot_is r t kq _ _ _ X1'.out X2.out BR BT HT0 hkq).mono ?_); rintro en w' ⟨v3, rfl, h3, hbw⟩; rw [HKQ.out] at h3; have X3 := hide h3; have HA3 := sc_step HA2 hbw)
            | (go_at_call 48; (with_reducible refine (whole_q k _ _ X3.out HKB.out.1 HKB.out.2).mono ?_); rintro en w' ⟨rfl, hbw⟩; have HA4 := sc_step HA3 hbw))
        go_wp2_with fail
        go_meet
        exact ⟨rfl, _, HA4⟩
      case rest =>
        obtain ⟨rfl, vc, HS4⟩ := hcut
        obtain ⟨a1, a2, a3, a4, a5, a6, a7, rfl⟩ := sc_form HS4
        go_upto_region 10 with fail
        go_cut [12] (fun v12 wx => v12 = .int .i64 hf ∧ Off2 w wx n d u v w1.heap.size x y b o')
        case first =>
          have HD4 := sc_drew HS4
          go_region_held3 (fun W => (((W.cell? ⟨w.heap.size + 1, 0, none⟩ = some (.int .i64 u) ∧ W.cell? ⟨w.heap.size + 1, 1, none⟩ = some (.int .i64 v)) ∧ (W.cell? ⟨w1.heap.size, 0, none⟩ = some (.int .i64 x) ∧ W.cell? ⟨w1.heap.size, 1, none⟩ = some (.int .i64 y))) ∧ (W.cell? ⟨b, 0, none⟩ = some (.bool a1) ∧ W.cell? ⟨b, 1, none⟩ = some (.slice a2 a3 a4) ∧ W.cell? ⟨b, 2, none⟩ = some (.slice a5 a6 a7))) ∧ Hid (Sc w W n d u v w1.heap.size x y b (.agg #[.bool a1, .slice a2 a3 a4, .slice a5 a6 a7]) o'))
            ((go_split_ands; refine sc_all ?_; first | (with_reducible exact HD4) | (with_reducible exact sc_step ‹_› hbw)))
            (first
              | (go_at_call 51; (with_reducible refine (plus_is o' o' oo _ _ _ (sc_rq HD4) (sc_rq HD4) BO' BO' hoo).mono ?_); rintro en w' ⟨v1, rfl, h1, hbw⟩; have Y1 := hide h1; have HB1 := sc_step HD4 hbw)
              | (go_at_call 45; (with_reducible refine (ofr_q u v _ hv2.out t ht).mono ?_); rintro en w' ⟨v2, rfl, h2, hbw⟩; have Y2 := hide h2; have Y1' := hide (RQ.below Y1.out hbw); have HB2 := sc_step HB1 hbw)
              | (go_at_call 50; (with_reducible refine (order_is oo t _ _ _ Y1'.out Y2.out BOO BT hf hhf).mono ?_); rintro en w' ⟨rfl, hbw⟩; have HB3 := sc_step HB2 hbw))
          go_wp2_with fail
          go_meet
          exact ⟨rfl, _, HB3⟩
        case rest =>
          obtain ⟨rfl, vd, HS6⟩ := hcut
          obtain ⟨a1, a2, a3, a4, a5, a6, a7, rfl⟩ := sc_form HS6
          have HD6 := sc_drew HS6
          obtain ⟨⟨⟨⟨e0, e1⟩, _⟩, ⟨e2, e3, e4⟩⟩, _⟩ := sc_all HS6
          by_cases hm3 : m < 3
          · have hd3 : decide (m < 3) = true := by simpa using hm3
            go_wp2_with fail
            first
            | (go_region_held (fun W => (((W.cell? ⟨w.heap.size + 1, 0, none⟩ = some (.int .i64 u) ∧ W.cell? ⟨w.heap.size + 1, 1, none⟩ = some (.int .i64 v)) ∧ (W.cell? ⟨w1.heap.size, 0, none⟩ = some (.int .i64 x) ∧ W.cell? ⟨w1.heap.size, 1, none⟩ = some (.int .i64 y))) ∧ (W.cell? ⟨b, 0, none⟩ = some (.bool a1) ∧ W.cell? ⟨b, 1, none⟩ = some (.slice a2 a3 a4) ∧ W.cell? ⟨b, 2, none⟩ = some (.slice a5 a6 a7))) ∧ Hid (Sc w W n d u v w1.heap.size x y b (.agg #[.bool a1, .slice a2 a3 a4, .slice a5 a6 a7]) o'))
                ((go_split_ands; refine sc_all ?_; first | (with_reducible exact HD6) | (with_reducible exact sc_step ‹_› hbw)))
                (first
                  | (go_at_call 45; (with_reducible refine (ofr_q u v _ hv2.out t ht).mono ?_); rintro en w' ⟨v2, rfl, h2, hbw⟩; have Z2 := hide h2; have HC1 := sc_step HD6 hbw)
                  | (go_at_call 50; (with_reducible refine (order_is o' t _ _ _ (sc_rq HC1) Z2.out BO' BT (-1) hlt).mono ?_); rintro en w' ⟨rfl, hbw⟩; have HC2 := sc_step HC1 hbw)
                  | (go_at_call 22; (with_reducible refine (awake_any _).mono ?_); rintro en w' ⟨rfl, hbw⟩; have HC3 := sc_step HC2 hbw)))
            | fail
            all_goals go_wp2_with fail
            all_goals go_ret
            all_goals exact ⟨rfl, sc_b HC3⟩
          · have hm4 : 3 ≤ m := by omega
            have hh : decide (hf ≤ 0) = true := by simpa using HH.out hm4
            have hd3 : decide (m < 3) = false := by simpa using hm3
            clear hm3
            go_wp2_with fail
            go_region_held3 (fun W => (((W.cell? ⟨w.heap.size + 1, 0, none⟩ = some (.int .i64 u) ∧ W.cell? ⟨w.heap.size + 1, 1, none⟩ = some (.int .i64 v)) ∧ (W.cell? ⟨w1.heap.size, 0, none⟩ = some (.int .i64 x) ∧ W.cell? ⟨w1.heap.size, 1, none⟩ = some (.int .i64 y))) ∧ (W.cell? ⟨b, 0, none⟩ = some (.bool a1) ∧ W.cell? ⟨b, 1, none⟩ = some (.slice a2 a3 a4) ∧ W.cell? ⟨b, 2, none⟩ = some (.slice a5 a6 a7))) ∧ Hid (Sc w W n d u v w1.heap.size x y b (.agg #[.bool a1, .slice a2 a3 a4, .slice a5 a6 a7]) o'))
              ((go_split_ands; refine sc_all ?_; first | (with_reducible exact HD6) | (with_reducible exact sc_step ‹_› hbw)))
              (first
                | (go_at_call 45; (with_reducible refine (ofr_q u v _ hv2.out t ht).mono ?_); rintro en w' ⟨v2, rfl, h2, hbw⟩; have Z2 := hide h2; have HC1 := sc_step HD6 hbw)
                | (go_at_call 50; (with_reducible refine (order_is o' t _ _ _ (sc_rq HC1) Z2.out BO' BT (-1) hlt).mono ?_); rintro en w' ⟨rfl, hbw⟩; have HC2 := sc_step HC1 hbw)
                | (go_at_call 22; (with_reducible refine (awake_any _).mono ?_); rintro en w' ⟨rfl, hbw⟩; have HC3 := sc_step HC2 hbw))
            all_goals go_wp2_with fail
            all_goals go_ret
            all_goals exact ⟨rfl, sc_b HC3⟩
set_option maxRecDepth 20000 in
set_option maxHeartbeats 2000000 in
theorem law_close_err (n d u v m x y z : Int) (w : World) (G : Hid (Ins n d u v)) (HT : Hid (RT n d u v m x y z)) (hz : z ≠ 0) : Calls Try.prog 8 #[.agg #[.int .i64 n, .int .i64 d], .agg #[.int .i64 u, .int .i64 v], .int .i64 m] w fun e w' => e = .returned (.bool true) ∧ Below w.heap.size w w' := by
  have hzb : (z == 0) = false := by simpa using hz
  have hzb2 : (z != 0) = true := by simpa using hz
  clear hz
  have HL := l2_start (w := w) (n := n) (d := d) (m := u) (q := v)
  go_enter Try.func8, Try.ntmps8
  go_wp2_with fail
  refine (roundto_is n d u v m x y z _ G HT).mono ?_
  rintro e w1 ⟨rfl, hb⟩
  have HL1 := l2_step HL (ba hb (Obj.cells #[.int .i64 x, .int .i64 y] 23))
  clear hb HL
  go_wp2_with fail
  refine (awake_any _).mono ?_
  rintro e w2 ⟨rfl, hb⟩
  have HL2 := l2_step HL1 hb
  clear hb HL1
  go_wp2_with fail
  go_ret
  exact ⟨rfl, HL2.out.2.2⟩
theorem law_close (n d u v m : Int) (w : World) (i1 : In64 n) (i2 : In64 d) (i3 : In64 u) (i4 : In64 v) (i5 : In64 m) : Calls Try.prog 8 #[.agg #[.int .i64 n, .int .i64 d], .agg #[.int .i64 u, .int .i64 v], .int .i64 m] w fun e w' => e = .returned (.bool true) ∧ Below w.heap.size w w' := by
  obtain ⟨x, y, z, HT⟩ := rt_ex n d u v m
  by_cases hz : z = 0
  · subst hz
    have hok : okR n d u v m = true := by
      cases c : okR n d u v m
      · have h := HT.out
        unfold RT Tri at h
        rw [c] at h
        simp at h
      · rfl
    unfold okR at hok
    simp only [Bool.and_eq_true, decide_eq_true_eq] at hok
    obtain ⟨⟨h1, h2⟩, hu, hm⟩ := hok
    exact law_close_yes n d u v m x y w h1 h2 hu hm HT i1 i2 i3 i4
  · exact law_close_err n d u v m x y z w (hide ⟨⟨i1, i2⟩, ⟨i3, i4⟩⟩) HT hz
end Go.Proofs.Ytpgnbjlpkpmpcaa.R
