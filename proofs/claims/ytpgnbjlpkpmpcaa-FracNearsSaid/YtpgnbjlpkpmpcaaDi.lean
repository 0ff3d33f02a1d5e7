import Derived.Test.YtpgnbjlpkpmpcaaDg
import Derived.Test.YtpgnbjlpkpmpcaaDh
import Derived.Test.YtpgnbjlpkpmpcaaZm
set_option linter.unusedVariables false
namespace Go.Proofs.Ytpgnbjlpkpmpcaa.R
open Go.RowKit Go.Proofs.Ytpgnbjlpkpmpcaa.N
theorem nr_unique {n m d x y x' y' : Int} (hm : 0 < m) (h : Nr n m d x y) (h' : Nr n m d x' y') : x = x' ∧ y = y' := by
  obtain ⟨a, b, c, e, ⟨h1, h2⟩, h3⟩ := h
  obtain ⟨a', b', c', e', ⟨h1', h2'⟩, h3'⟩ := h'
  obtain ⟨rfl, rfl⟩ := lo_unique hm h1 h1'
  obtain ⟨rfl, rfl⟩ := hi_unique hm h2 h2'
  by_cases k : 0 < n * (2 * (b * e)) - (a * e + c * b) * m
  · rw [if_pos k] at h3 h3'; omega
  · rw [if_neg k] at h3 h3'; omega
theorem near_sign {n m a b c e : Int} (hm : 0 < m) (hb : 0 < b) (he : 0 < e) :
    Int.sign ((Rat.divInt c e - Rat.divInt n m) - (Rat.divInt n m - Rat.divInt a b)).num = Int.sign ((a * e + c * b) * m - n * (2 * (b * e))) := by
  rw [← M.sub_is he hm, ← M.sub_is hm hb, ← M.sub_is (Int.mul_pos he hm) (Int.mul_pos hm hb), sgn_divInt (Int.mul_pos (Int.mul_pos he hm) (Int.mul_pos hm hb))]
  have : (c * m + -n * e) * (m * b) + -(n * b + -a * m) * (e * m) = m * ((a * e + c * b) * m - n * (2 * (b * e))) := by grind
  rw [this, Int.sign_mul, Int.sign_eq_one_of_pos hm, Int.one_mul]
/-- the boxes of Near: the argument and the result's variable -/
def NK (w0 w : World) (n m : Int) (s6 s7 : Nat) (a b c e : Int) : Prop := (K1 w0 w n m ∧ (w0.heap.size < w.heap.size ∧ w0.heap.size + 1 < w.heap.size)) ∧ Fy w s6 a b ∧ Fy w s7 c e
theorem nk_step {w0 w w' : World} {n m : Int} {s6 s7 : Nat} {a b c e : Int} (h : Hid (NK w0 w n m s6 s7 a b c e)) (hb : Below w.heap.size w w') : Hid (NK w0 w' n m s6 s7 a b c e) :=
  hide ⟨⟨(k1_step (hide h.out.1.1) hb).out, ⟨Nat.lt_of_lt_of_le h.out.1.2.1 hb.size, Nat.lt_of_lt_of_le h.out.1.2.2 hb.size⟩⟩, (fy_step (hide h.out.2.1) hb).out, (fy_step (hide h.out.2.2) hb).out⟩
theorem nk_drew {w0 w : World} {n m : Int} {s6 s7 : Nat} {a b c e : Int} (h : Hid (NK w0 w n m s6 s7 a b c e)) : Hid (NK w0 w.drew n m s6 s7 a b c e) :=
  hide ⟨⟨(k1_drew (hide h.out.1.1)).out, h.out.1.2⟩, h.out.2.1, h.out.2.2⟩
theorem bq_sub {n m c e : Int} (h1 : M.okB n m = true) (h2 : M.okB c e = true) : Bq 2 (Rat.divInt c e - Rat.divInt n m) := by
  obtain ⟨a1, a2, a3, a4⟩ := okB_in h1
  obtain ⟨v1, v2, v3, v4⟩ := okB_in h2
  obtain ⟨x1, x2⟩ := prod_bd v1 v2 (by omega : -1000000000 ≤ m) a4
  obtain ⟨x3, x4⟩ := prod_bd (a := -n) (by omega) (by omega) (by omega : -1000000000 ≤ e) v4
  obtain ⟨x5, x6⟩ := prod_bd (by omega : -1000000000 ≤ e) v4 (by omega : -1000000000 ≤ m) a4
  have x7 : 0 < e * m := Int.mul_pos (by omega) (by omega)
  rw [← M.sub_is (by omega) (by omega)]
  exact bq_div x7 (by rw [b2]; omega) (by rw [b2]; omega)
set_option maxRecDepth 100000 in
set_option maxHeartbeats 2000000 in
theorem rnear_no (n m d : Int) (w : World) (h : (M.okB n m && denB d) = false) :
    Calls Try.prog 61 #[.agg #[.int .i64 n, .int .i64 m], .int .i64 d] w fun e w' => e = .returned (.tuple #[.agg #[.int .i64 0, .int .i64 0], .int .i64 2]) ∧ Below w.heap.size w w' := by
  have hk0 := k1_new' w n m
  have HH := hide h
  clear h
  go_enter Try.func61, Try.ntmps61
  go_wp2_with fail
  refine (around_no n m d _ HH.out).mono ?_
  rintro en w1 ⟨rfl, hb⟩
  have hk := k1_step (k1_step hk0 hb) (ba (ba (Below.refl _ _) (.cells #[.int .i64 0, .int .i64 0] 23)) (.cells #[.int .i64 0, .int .i64 0] 23))
  have hk' := k1_step hk0 hb
  clear hb hk0
  obtain ⟨⟨c1, c2⟩, ⟨q0, q1, f0, f1⟩, _⟩ := hk'.out
  have z1 := cell_lt c1
  have z2 := cell_lt q0
  go_wp2_with fail
  refine bodyPost_ret (v := .tuple #[.agg #[.int .i64 0, .int .i64 0], .int .i64 2]) (by simp [results, Try.results61, go_sem, *]) rfl ⟨rfl, ?_⟩
  exact ba (ba (k1_end hk' _ _) _) _
set_option maxRecDepth 100000 in
set_option maxHeartbeats 4000000 in
theorem rnear_yes (n m d : Int) (w : World) (h1 : M.okB n m = true) (h2 : denB d = true) :
    Calls Try.prog 61 #[.agg #[.int .i64 n, .int .i64 m], .int .i64 d] w (NrRet w n m d) := by
  have hk0 := k1_new' w n m
  have H1 := hide h1
  have H2 := hide h2
  obtain ⟨a1, a2, a3, a4⟩ := okB_in h1
  have HM0 : Hid (0 < m) := hide (by omega)
  clear h1 h2 a1 a2 a3 a4
  go_enter Try.func61, Try.ntmps61
  go_wp2_with fail
  refine (around_yes n m d _ H1.out H2.out).mono ?_
  rintro en w1 ⟨a, b, c, e', rfl, hlh, hb⟩
  have HLH := hide hlh
  have hok1 := lo_ok H1.out H2.out hlh.1
  have hok2 := hi_ok H1.out H2.out hlh.2
  have hv1 := hide hok1
  have hv2 := hide hok2
  have hk' := k1_step hk0 hb
  have hk := k1_step hk' (ba (ba (Below.refl _ _) (.cells #[.int .i64 a, .int .i64 b] 23)) (.cells #[.int .i64 c, .int .i64 e'] 23))
  have hA := fy_step (fy_new w1 a b 23) (ba (Below.refl _ _) (.cells #[.int .i64 c, .int .i64 e'] 23))
  have hC := fy_new (w1.alloc (.cells #[.int .i64 a, .int .i64 b] 23)) c e' 23
  have hs9 : (w1.alloc (.cells #[.int .i64 a, .int .i64 b] 23)).heap.size = w1.heap.size + 1 := by simp
  rw [hs9] at hC
  clear hs9
  obtain ⟨h, hh⟩ : ∃ q, Hid (q = Rat.divInt c e') := ⟨_, rfl⟩
  obtain ⟨f, hf⟩ : ∃ q, Hid (q = Rat.divInt n m) := ⟨_, rfl⟩
  obtain ⟨l, hl⟩ : ∃ q, Hid (q = Rat.divInt a b) := ⟨_, rfl⟩
  obtain ⟨d1, hd1⟩ : ∃ q, Hid (q = h - f) := ⟨_, rfl⟩
  obtain ⟨d2, hd2⟩ : ∃ q, Hid (q = f - l) := ⟨_, rfl⟩
  obtain ⟨sg, hsg⟩ : ∃ q, Hid (q = Int.sign (d1 - d2).num) := ⟨_, rfl⟩
  have B1 : Hid (Bq 2 h) := by rw [hh.out]; exact hide (bq_frac hok2)
  have B2 : Hid (Bq 2 f) := by rw [hf.out]; exact hide (bq_frac H1.out)
  have B3 : Hid (Bq 2 l) := by rw [hl.out]; exact hide (bq_frac hok1)
  have B4 : Hid (Bq 2 d1) := by rw [hd1.out, hh.out, hf.out]; exact hide (bq_sub H1.out hok2)
  have B5 : Hid (Bq 2 d2) := by rw [hd2.out, hl.out, hf.out]; exact hide (bq_sub hok1 H1.out)
  have HSG : Hid (sg < 0 ↔ 0 < n * (2 * (b * e')) - (a * e' + c * b) * m) := hide (by
    obtain ⟨u1, u2, u3, u4⟩ := okB_in hok1
    obtain ⟨v1, v2, v3, v4⟩ := okB_in hok2
    rw [hsg.out, hd1.out, hd2.out, hh.out, hf.out, hl.out, near_sign HM0.out (by omega) (by omega), (M.sign_iff _).1]
    omega)
  have z0 : Hid (w.heap.size < w1.heap.size ∧ w.heap.size + 1 < w1.heap.size) := hide ⟨cell_lt hk'.out.1.1, cell_lt hk'.out.2.1.1⟩
  clear hb hk0 hlh hok1 hok2
  obtain ⟨⟨c1, c2⟩, ⟨q0, q1, f0, f1⟩, _⟩ := hk'.out
  obtain ⟨z1, z2⟩ := z0.out
  have hnk : Hid (NK w ((w1.alloc (.cells #[.int .i64 a, .int .i64 b] 23)).alloc (.cells #[.int .i64 c, .int .i64 e'] 23)) n m w1.heap.size (w1.heap.size + 1) a b c e') :=
    hide ⟨⟨hk.out, by simp; omega⟩, hA.out, hC.out⟩
  go_wp2_with fail
  clear c1 c2 q0 q1 f0 f1 z1 z2
  generalize hW : (w1.alloc (.cells #[.int .i64 a, .int .i64 b] 23)).alloc (.cells #[.int .i64 c, .int .i64 e'] 23) = W at *
  clear hW hA hC hk hk'
  obtain ⟨⟨⟨⟨c1, c2⟩, _, _⟩, _⟩, ⟨g1, g2, _⟩, ⟨g3, g4, _⟩⟩ := hnk.out
  go_region_held3 (fun w' => ((w'.cell? ⟨w.heap.size, 0, none⟩ = some (.int .i64 n) ∧ w'.cell? ⟨w.heap.size, 1, none⟩ = some (.int .i64 m)) ∧ (w'.cell? ⟨w1.heap.size, 0, none⟩ = some (.int .i64 a) ∧ w'.cell? ⟨w1.heap.size, 1, none⟩ = some (.int .i64 b)) ∧ (w'.cell? ⟨w1.heap.size + 1, 0, none⟩ = some (.int .i64 c) ∧ w'.cell? ⟨w1.heap.size + 1, 1, none⟩ = some (.int .i64 e'))) ∧ Hid (NK w w' n m w1.heap.size (w1.heap.size + 1) a b c e'))
    ((go_split_ands; (first | dsimp only | skip); refine ⟨⟨⟨?_, ?_⟩, ⟨?_, ?_⟩, ⟨?_, ?_⟩⟩, ?_⟩ <;> first | with_reducible assumption | (simp only [World.cell?_drew]; with_reducible assumption) | (with_reducible exact kc hbw ‹_›) | (with_reducible exact nk_drew ‹_›) | (with_reducible exact nk_step ‹_› hbw) | (go_simp; done)))
    (first | (go_at_call_of 45 c; go_split_ands; refine (ofr_q c e' _ hv2.out h hh).mono ?_; rintro en w' ⟨vh, rfl, hvh, hbw⟩) | (go_at_call_of 45 n; go_split_ands; have hx := hvd1; refine (ofr_q n m _ H1.out f hf).mono ?_; rintro en w' ⟨vf2, rfl, hvf2, hbw⟩; have hvd1 := hvd1.below hbw) | (go_at_call_of 45 n; go_split_ands; refine (ofr_q n m _ H1.out f hf).mono ?_; rintro en w' ⟨vf, rfl, hvf, hbw⟩; have hvh := hvh.below hbw) | (go_at_call_of 45 a; go_split_ands; refine (ofr_q a b _ hv1.out l hl).mono ?_; rintro en w' ⟨vl, rfl, hvl, hbw⟩; have hvd1 := hvd1.below hbw; have hvf2 := hvf2.below hbw) | (go_at_call 44; go_split_ands; have hx := hvd1; refine (less_is f l d2 _ _ _ hvf2 hvl B2 B3 hd2).mono ?_; rintro en w' ⟨vd2, rfl, hvd2, hbw⟩; have hvd1 := hvd1.below hbw) | (go_at_call 44; go_split_ands; refine (less_is h f d1 _ _ _ hvh hvf B1 B2 hd1).mono ?_; rintro en w' ⟨vd1, rfl, hvd1, hbw⟩) | (go_at_call 50; go_split_ands; refine (order_is d1 d2 _ _ _ hvd1 hvd2 B4 B5 sg hsg).mono ?_; rintro en w' ⟨rfl, hbw⟩; have hk9 := nk_step ‹_› hbw))
  go_split_ands
  clear hnk c1 c2 g1 g2 g3 g4
  by_cases hsp : sg < 0
  · have HPK := hide (HSG.out.1 hsp)
    obtain ⟨⟨⟨_, ⟨q0, q1, f0, f1⟩, _⟩, _⟩, _, _⟩ := hk9.out
    have HKK := hide hk9.out.1.1
    go_wp2_with fail
    refine bodyPost_ret (v := .tuple #[.agg #[.int .i64 c, .int .i64 e'], .int .i64 0]) (by simp [results, Try.results61, go_sem, q0, q1]) rfl ⟨c, e', rfl, ⟨a, b, c, e', HLH.out, by rw [if_pos HPK.out]; exact ⟨rfl, rfl⟩⟩, ?_⟩
    exact k1_end HKK _ _
  · have HPK : Hid (n * (2 * (b * e')) - (a * e' + c * b) * m ≤ 0) := hide (by have : ¬ 0 < n * (2 * (b * e')) - (a * e' + c * b) * m := fun k => hsp (HSG.out.2 k); omega)
    obtain ⟨⟨⟨_, ⟨q0, q1, f0, f1⟩, _⟩, _⟩, _, _⟩ := hk9.out
    have HKK := hide hk9.out.1.1
    go_wp2_with fail
    refine bodyPost_ret (v := .tuple #[.agg #[.int .i64 a, .int .i64 b], .int .i64 0]) (by simp [results, Try.results61, go_sem, q0, q1]) rfl ⟨a, b, rfl, ⟨a, b, c, e', HLH.out, by rw [if_neg (by have := HPK.out; omega)]; exact ⟨rfl, rfl⟩⟩, ?_⟩
    exact k1_end HKK _ _
end Go.Proofs.Ytpgnbjlpkpmpcaa.R
