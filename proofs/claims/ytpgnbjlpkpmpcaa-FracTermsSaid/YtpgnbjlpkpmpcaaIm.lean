import Derived.Test.YtpgnbjlpkpmpcaaIl
set_option linter.unusedVariables false
set_option exponentiation.threshold 5000
namespace Go.Proofs.Ytpgnbjlpkpmpcaa.M
theorem low_parts {n d : Int} (hd : 1 ≤ d) (hg : Int.gcd n d = 1) : (Rat.divInt n d).num = n ∧ ((Rat.divInt n d).den : Int) = d := by
  have e : Int.gcd d n = 1 := by rw [Int.gcd_comm]; exact hg
  constructor
  · rw [Rat.num_divInt, e, Int.sign_eq_one_of_pos (by omega)]; simp
  · rw [Rat.den_divInt, e, if_neg (by omega)]; simp; omega
theorem inv_parts {ns : Nat → Int} {last : Nat} (h : Terms ns last) (j : Nat) (hj : j < last) : (1 / cQ ns last j).num = (cN ns last j).2 ∧ ((1 / cQ ns last j).den : Int) = (cN ns last j).1 := by
  obtain ⟨a, b, c⟩ := cN_pos h j hj
  have e1 : (1 : Rat) = Rat.divInt 1 1 := by decide
  rw [← cQ_is h j (by omega), e1, ← div_is, Int.one_mul, Int.one_mul]
  exact low_parts (by omega) (by rw [Int.gcd_comm]; exact cN_gcd ns last j)
end Go.Proofs.Ytpgnbjlpkpmpcaa.M
namespace Go.Proofs.Ytpgnbjlpkpmpcaa.R
open Go.RowKit Go.Proofs.Ytpgnbjlpkpmpcaa.N
theorem two64 (j : Nat) (hj : j ≤ 63) : 2 ^ (64 * (j + 1)) ≤ B ^ 128 := by
  rw [B_two, ← Nat.pow_mul]
  exact Nat.pow_le_pow_right (by decide) (by omega)
theorem cq_bq {ns : Nat → Int} {last : Nat} (h : M.Terms ns last) (hl : last ≤ 63) (hi : ∀ i, i < last + 1 → In64 (ns i)) (j : Nat) (hj : j ≤ last) : Bq 128 (M.cQ ns last j) := by
  obtain ⟨e1, e2⟩ := M.cQ_parts h j hj
  obtain ⟨b1, b2⟩ := M.cN_big (ns := ns) (last := last) (fun i hle => by have := hi i (by omega); unfold In64 at this; omega) j hj
  have := two64 j (by omega)
  exact ⟨by rw [e1]; omega, by omega⟩
theorem inv_bq {ns : Nat → Int} {last : Nat} (h : M.Terms ns last) (hl : last ≤ 63) (hi : ∀ i, i < last + 1 → In64 (ns i)) (j : Nat) (hj : j < last) : Bq 128 (1 / M.cQ ns last j) := by
  obtain ⟨e1, e2⟩ := M.inv_parts h j hj
  obtain ⟨b1, b2⟩ := M.cN_big (ns := ns) (last := last) (fun i hle => by have := hi i (by omega); unfold In64 at this; omega) j (by omega)
  have := two64 j (by omega)
  exact ⟨by rw [e1]; omega, by omega⟩
theorem int_bq {n : Int} (h : In64 n) : Bq 128 (n : Rat) := by
  have h1 : (9223372036854775808 : Nat) < B ^ 128 := Nat.lt_of_lt_of_le (by decide : 9223372036854775808 < 2 ^ (64 * (0 + 1))) (two64 0 (by decide))
  unfold In64 at h
  exact ⟨by show n.natAbs < _; omega, by show 1 < _; omega⟩
theorem half128 : Half 128 := by unfold Half K; omega
theorem over_g (p q r : Rat) (vp vq : Value) (w : World) (hp : RQ w vp p) (hq : RQ w vq q) (bp : Hid (Bq 128 p)) (bq : Hid (Bq 128 q)) (h0 : Hid (q ≠ 0)) (hr : Hid (r = p / q)) : Calls Try.prog 49 #[vp, vq] w (RetQ w r) := by
  rw [hr.out]; exact over_q 128 p q vp vq w hp hq bp.out bq.out half128 h0.out
theorem plus_g (p q r : Rat) (vp vq : Value) (w : World) (hp : RQ w vp p) (hq : RQ w vq q) (bp : Hid (Bq 128 p)) (bq : Hid (Bq 128 q)) (hr : Hid (r = p + q)) : Calls Try.prog 51 #[vp, vq] w (RetQ w r) := by
  rw [hr.out]; exact plus_q 128 p q vp vq w hp hq bp.out bq.out half128
/-- as Qv, the value written out -/
def Qw (w0 w : World) (s : Nat) (v : Value) (q : Rat) : Prop := (R2 w0 w0.heap.size w ∧ w0.heap.size < s) ∧ QA w s v q ∧ FZ w s
theorem qw_step {w0 w w' : World} {s : Nat} {v : Value} {q : Rat} (h : Hid (Qw w0 w s v q)) (hb : Below w.heap.size w w') : Hid (Qw w0 w' s v q) := by
  obtain ⟨⟨r, z⟩, hq, hf⟩ := h.out
  exact hide ⟨⟨(r2_step (hide r) hb).out, z⟩, (qa_step (hide hq) hb).out, fz_step hf hq.2 hb⟩
theorem qw_drew {w0 w : World} {s : Nat} {v : Value} {q : Rat} (h : Hid (Qw w0 w s v q)) : Hid (Qw w0 w.drew s v q) := by
  obtain ⟨⟨⟨⟨⟨u0, q0⟩, ⟨u1, q1⟩⟩, ⟨g2, g3⟩, hs, b⟩, z⟩, hq, hf⟩ := h.out
  exact hide ⟨⟨⟨⟨⟨u0, q0⟩, ⟨u1, q1⟩⟩, ⟨g2, g3⟩, hs, b.drew⟩, z⟩, hq, hf⟩
theorem qw_of {w0 w : World} {s : Nat} {q : Rat} (h : Hid (Qv w0 w s q)) : ∃ b x l1 c1 y l2 c2, Hid (Qw w0 w s (.agg #[.bool b, .slice x l1 c1, .slice y l2 c2]) q) := by
  obtain ⟨z, ⟨v, hq, b, x, l1, c1, y, l2, c2, rfl, h0, h1, h2⟩, hf⟩ := h.out
  exact ⟨b, x, l1, c1, y, l2, c2, hide ⟨z, ⟨hq, b, x, l1, c1, y, l2, c2, rfl, h0, h1, h2⟩, hf⟩⟩
theorem qw_rq {w0 w : World} {s : Nat} {v : Value} {q : Rat} (h : Hid (Qw w0 w s v q)) : RQ w v q := h.out.2.1.1
theorem qw_qv {w0 w : World} {s : Nat} {v : Value} {q : Rat} (h : Hid (Qw w0 w s v q)) : Hid (Qv w0 w s q) := hide ⟨h.out.1, ⟨v, h.out.2.1⟩, h.out.2.2⟩
theorem qw_get {w0 w : World} {s : Nat} {b : Bool} {x y : Option Addr} {l1 c1 l2 c2 : Nat} {q : Rat} (h : Hid (Qw w0 w s (.agg #[.bool b, .slice x l1 c1, .slice y l2 c2]) q)) : (w.cell? ⟨s, 0, none⟩ = some (.bool b) ∧ w.cell? ⟨s, 1, none⟩ = some (.slice x l1 c1) ∧ w.cell? ⟨s, 2, none⟩ = some (.slice y l2 c2)) ∧
    (w.frozen? ⟨s, 0, none⟩ = false ∧ w.frozen? ⟨s, 1, none⟩ = false ∧ w.frozen? ⟨s, 2, none⟩ = false) := ⟨c3_get h.out.2.1.2, h.out.2.2⟩
set_option maxRecDepth 20000 in
set_option maxHeartbeats 8000000 in
theorem rfromT_many (b off n cap : Nat) (ns : Nat → Int) (w : World) (hl : n ≤ 62) (hc : n + 1 + 1 ≤ cap) (HC : Hid (∀ i, i < n + 1 + 1 → w.cell? ⟨b, off + i, none⟩ = some (.int .i64 (ns i)))) (HI : Hid (∀ i, i < n + 1 + 1 → In64 (ns i))) (HT : Hid (M.Terms ns (n + 1)))
    (x y z : Int) (hx : Hid (x = M.aN (M.cQ ns (n + 1) (n + 1)))) (hy : Hid (y = M.aD (M.cQ ns (n + 1) (n + 1)))) (hz : Hid (z = M.aE (M.cQ ns (n + 1) (n + 1)))) :
    Calls Try.prog 56 #[.slice (some ⟨b, off, none⟩) (n + 1 + 1) cap] w (FtRet w x y z) := by
  have hr := r2_begin w
  have h64 : ((n : Int) + 1 + 1) ≤ 64 := by omega
  have hc1 : 1 < cap := by omega
  have hc2 : ((n + 1 + 1 : Nat) : Int) ≤ (cap : Int) := by omega
  have e2 : ((n : Int) + 1 + 1 == 0) = false := by rw [beq_eq_false_iff_ne]; omega
  have e3 : (1 : Int) < (n : Int) + 1 + 1 := by omega
  have c0 := HC.out (n + 1) (by omega)
  have z0 := cell_lt c0
  have T0 := HT.out.2 (by omega)
  have t1 : (ns (n + 1) == 1) = false := by rw [beq_eq_false_iff_ne]; omega
  have HB : Hid (∀ j, j ≤ n + 1 → Bq 128 (M.cQ ns (n + 1) j)) := hide fun j hj => cq_bq HT.out (by omega) HI.out j hj
  have HBI : Hid (∀ j, j < n + 1 → Bq 128 (1 / M.cQ ns (n + 1) j)) := hide fun j hj => inv_bq HT.out (by omega) HI.out j hj
  have hn := HI.out (n + 1) (by omega)
  go_enter Try.func56, Try.ntmps56
  go_wp2_with fail
  go_loop [33] (fun i => ∃ k : Nat, k ≤ n + 1 ∧ i = .int .i64 k) (fun i => n + 1 - (intOf i).toNat)
  case atStart => exact ⟨0, by omega, rfl⟩
  case round =>
    obtain ⟨k, hk, rfl⟩ := hrel
    by_cases hlt : k < n + 1
    · have c1 := kc (ba (Below.refl _ _) (.cells #[.int .i64 0, .int .i64 0] 23)) (HC.out (k + 1) (by omega))
      rw [show off + (k + 1) = off + 1 + k by omega] at c1
      have h1 := HT.out.1 (k + 1) (by omega) (by omega)
      go_wp2_with fail
      go_round
      case rel => exact ⟨k + 1, by omega, by go_num⟩
      case measure => simp [intOf]; omega
    · obtain ⟨qa, hqa⟩ : ∃ q, Hid (q = (ns (n + 1) : Rat)) := ⟨_, rfl⟩
      go_wp2_with fail
      (with_reducible refine (int_b (ns (n + 1)) _ hn qa hqa).mono ?_)
      rintro en w1 ⟨v, rfl, hv, hb⟩
      have hr1 := r2_step hr hb
      obtain ⟨ao, la, ca, bo, lb, cb, rfl, hv2, hv3⟩ := hv
      have hv : RQ w1 (.agg #[.bool (decide (qa.num < 0)), .slice ao la ca, .slice bo lb cb]) qa := ⟨ao, la, ca, bo, lb, cb, rfl, hv2, hv3⟩
      have hqv := qv_new hr1 hv
      clear hb hr hv hv2 hv3
      obtain ⟨bs', hbs⟩ : ∃ b : Bool, Hid (b = decide (qa.num < 0)) := ⟨_, rfl⟩
      rw [← hbs.out] at hqv ⊢
      have hqv0 : Hid (Qv w (w1.alloc (.cells #[.bool bs', .slice ao la ca, .slice bo lb cb] 43)) w1.heap.size (M.cQ ns (n + 1) 0)) := hide (by
        have h := hqv.out
        rw [hqa.out] at h
        exact h)
      clear hqv c0 z0 T0 t1 hlt hk
      go_wp2_with fail
      obtain ⟨s6, hs6⟩ : ∃ s6, s6 = w1.heap.size := ⟨_, rfl⟩
      rw [← hs6] at hqv0 ⊢
      clear hs6
      go_loopw [7] (fun i wr => ∃ (j : Nat) (k : Int), j ≤ n + 1 ∧ i = .int .i64 k ∧ k = (n : Int) - j ∧ Qv w wr s6 (M.cQ ns (n + 1) j)) (fun i _ => (intOf i + 1).toNat)
      case atStart => exact ⟨0, _, by omega, rfl, by omega, hqv0.out⟩
      case round =>
        obtain ⟨j, k, hj, rfl, hk, hS⟩ := hrel
        have HS := hide hS
        clear hS
        by_cases hlt : j < n + 1
        · obtain ⟨m, rfl⟩ : ∃ m : Nat, k = m := ⟨n - j, by omega⟩
          have hm : m = n + 1 - (j + 1) := by omega
          have hi1 := HI.out m (by omega)
          have HQS : Hid (M.cQ ns (n + 1) (j + 1) = (ns m : Rat) + 1 / M.cQ ns (n + 1) j) := hide (by rw [M.cQ_succ, hm])
          have HNE : Hid (M.cQ ns (n + 1) j ≠ 0) := hide (M.cQ_ne HT.out j hlt)
          have hb1 := hide (HB.out j hj)
          have hb2 := hide (HBI.out j hlt)
          obtain ⟨q, hq⟩ : ∃ q, Hid (q = M.cQ ns (n + 1) j) := ⟨_, rfl⟩
          rw [← hq.out] at HQS HNE hb1 hb2 HS
          obtain ⟨qm, hqm⟩ : ∃ q, Hid (q = (ns m : Rat)) := ⟨_, rfl⟩
          have hbm : Hid (Bq 128 qm) := hide (by rw [hqm.out]; exact int_bq hi1)
          obtain ⟨o, ho⟩ : ∃ q : Rat, Hid (q = ((1 : Int) : Rat)) := ⟨_, rfl⟩
          have hbo : Hid (Bq 128 o) := hide (by rw [ho.out]; exact int_bq ⟨by decide, by decide⟩)
          obtain ⟨qi, hqi⟩ : ∃ qi, Hid (qi = o / q) := ⟨_, rfl⟩
          have hbi : Hid (Bq 128 qi) := hide (by rw [hqi.out, ho.out]; exact hb2.out)
          obtain ⟨q', hq'⟩ : ∃ q', Hid (q' = qm + qi) := ⟨_, rfl⟩
          have HE : Hid (q' = M.cQ ns (n + 1) (j + 1)) := hide (by rw [HQS.out, hq'.out, hqm.out, hqi.out, ho.out]; rfl)
          obtain ⟨b3, x3, l3, c3, y3, l4, c4, HW⟩ := qw_of HS
          have cm : wr.cell? ⟨b, off + m, none⟩ = some (.int .i64 (ns m)) := kc HS.out.1.1.2.2.2 (HC.out m (by omega))
          have hS0 := qw_drew HW
          have cd : wr.drew.cell? ⟨b, off + m, none⟩ = some (.int .i64 (ns m)) := cm
          obtain ⟨⟨p0, p1, p2⟩, ⟨f0, f1, f2⟩⟩ := qw_get HW
          have hm0 : (0 : Int) ≤ (m : Int) := by omega
          have hm1 : (m : Int) < (n : Int) + 1 + 1 := by omega
          have hm2 : m < n + 1 + 1 := by omega
          have h1i : In64 1 := ⟨by decide, by decide⟩
          have HK := hide hk
          clear hm hk
          go_wp2_with fail
          go_region_with (first
            | (go_at_call 77; (with_reducible refine (int_b (ns m) _ hi1 qm hqm).mono ?_); rintro en w2 ⟨va, rfl, hva, hb⟩; have HA := hide hva; have hS1 := qw_step hS0 hb; have cd1 := kc hb cd; obtain ⟨⟨p0', p1', p2'⟩, ⟨f0', f1', f2'⟩⟩ := qw_get hS1)
            | (go_at_call 77; (with_reducible refine (int_b 1 _ h1i o ho).mono ?_); rintro en w3 ⟨vo, rfl, hvo, hb⟩; have HO := hide hvo; have HA2 := hide (RQ.below HA.out hb); have hS2 := qw_step hS1 hb; obtain ⟨⟨p0'', p1'', p2''⟩, ⟨f0'', f1'', f2''⟩⟩ := qw_get hS2)
            | (go_at_call 49; (with_reducible refine (over_g o q qi _ _ _ HO.out (qw_rq hS2) hbo hb1 HNE hqi).mono ?_); rintro en w4 ⟨vi, rfl, hvi, hb⟩; have HV := hide hvi; have HA3 := hide (RQ.below HA2.out hb); have hS3 := qw_step hS2 hb)
            | (go_at_call 51; (with_reducible refine (plus_g qm qi q' _ _ _ HA3.out HV.out hbm hbi hq').mono ?_); rintro en w5 ⟨vr, rfl, hvr, hb⟩; obtain ⟨ao2, la2, ca2, bo2, lb2, cb2, rfl, hv2, hv3⟩ := hvr; have hR : RQ w5 (.agg #[.bool (decide (q'.num < 0)), .slice ao2 la2 ca2, .slice bo2 lb2 cb2]) q' := ⟨ao2, la2, ca2, bo2, lb2, cb2, rfl, hv2, hv3⟩; have HR := hide hR; clear hR hv2 hv3; have hS4 := qw_step hS3 hb; obtain ⟨⟨k0, k1, k2⟩, ⟨t0, t1, t2⟩⟩ := qw_get hS4; have hS5 := qv_put (qw_qv hS4) HR.out))
          all_goals go_wp2_with fail
          all_goals go_roundw
          all_goals first
            | (case rel => exact ⟨j + 1, _, by omega, rfl, by have := HK.out; omega, by rw [← HE.out]; exact hS5.out⟩)
            | (case measure => simp [intOf])
        · obtain rfl : j = n + 1 := by omega
          obtain rfl : k = -1 := by omega
          obtain ⟨q, hq⟩ : ∃ q, Hid (q = M.cQ ns (n + 1) (n + 1)) := ⟨_, rfl⟩
          rw [← hq.out] at hx hy hz HS
          obtain ⟨b3, x3, l3, c3, y3, l4, c4, HW⟩ := qw_of HS
          obtain ⟨⟨p0, p1, p2⟩, ⟨f0, f1, f2⟩⟩ := qw_get HW
          go_wp2_with fail
          (with_reducible refine (answer_q q _ _ (qw_rq HW) x y z hx hy hz).mono ?_)
          rintro en w3 ⟨rfl, hb⟩
          have HS2 := qv_step HS hb
          clear hb p0 p1 p2 f0 f1 f2
          obtain ⟨⟨⟨⟨u0, g0⟩, ⟨u1, g1⟩⟩, ⟨g2, g3⟩, _, _⟩, _⟩ := HS2.out.1
          go_wp2_with fail
          refine bodyPost_ret (v := .tuple #[.agg #[.int .i64 x, .int .i64 y], .int .i64 z]) (by simp [results, Try.results56, go_sem, *]) rfl ⟨rfl, ?_⟩
          exact bs (bs HS2.out.1.1.2.2.2 (Nat.le_refl _) _) (Nat.le_refl _) _
end Go.Proofs.Ytpgnbjlpkpmpcaa.R
