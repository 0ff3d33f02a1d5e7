import Derived.Test.YtpgnbjlpkpmpcaaZv
import Derived.Test.YtpgnbjlpkpmpcaaZw
set_option linter.unusedVariables false
namespace Go.Proofs.Ytpgnbjlpkpmpcaa.R
open Go.RowKit Go.Proofs.Ytpgnbjlpkpmpcaa.N
theorem mid_div {n d : Int} (hd : 0 < d) (h1 : n.natAbs ≤ 1000000000000000000) (h2 : d.natAbs ≤ 1000000000000000000) : Mid (Rat.divInt n d) := by
  obtain ⟨k, hk, e1, e2⟩ := M.parts (n := n) hd
  have k1 : (Rat.divInt n d).num.natAbs ≤ n.natAbs := by
    conv => rhs; rw [e1]
    rw [Int.natAbs_mul]; exact Nat.le_mul_of_pos_left _ (by omega)
  have k2 : (Rat.divInt n d).den ≤ d.natAbs := by
    conv => rhs; rw [e2]
    rw [Int.natAbs_mul]; simp only [Int.natAbs_natCast]; exact Nat.le_mul_of_pos_left _ (by omega)
  exact ⟨by omega, by omega⟩
theorem mid_ok {n d : Int} (h : M.okB n d = true) : Mid (Rat.divInt n d) := by
  have := okB_in h
  exact mid_div (by omega) (by omega) (by omega)
theorem rq_bd {p : Rat} {m : Int} (h : Mid p) : -4611686018427387904 ≤ M.rq p m ∧ M.rq p m ≤ 4611686018427387904 := by
  have := (mid_facts h).1
  have e : M.rq p m = fl p ∨ M.rq p m = fl p + 1 := by unfold M.rq M.rnd fl; split <;> simp
  omega
set_option maxRecDepth 20000 in
set_option maxHeartbeats 2000000 in
theorem rround_no (n d m : Int) (w : World) (h : (M.okB n d && modeB m) = false) : Calls Try.prog 41 #[.agg #[.int .i64 n, .int .i64 d], .int .i64 m] w fun e w' => e = .returned (.tuple #[.int .i64 0, .int .i64 2]) ∧ Below w.heap.size w w' := by
  cases c : M.okB n d
  · have hv := hide c
    clear h c
    go_enter Try.func41, Try.ntmps41
    go_wp2_with fail
    refine (rvalid_is n d _ _ hv).mono ?_
    rintro e w1 ⟨rfl, hb1⟩
    have HB1 := hide (bt (ba (Below.refl w.heap.size w) _) hb1); clear hb1
    go_wp2_with fail
    go_ret2
    exact ⟨rfl, HB1.out⟩
  · have hv := hide c
    have hm : modeB m = false := by rw [c] at h; simpa using h
    clear h c
    by_cases h0 : m < 0
    · clear hm
      go_enter Try.func41, Try.ntmps41
      go_wp2_with fail
      refine (rvalid_is n d _ _ hv).mono ?_
      rintro e w1 ⟨rfl, hb1⟩
      have HB1 := hide (bt (ba (Below.refl w.heap.size w) _) hb1); clear hb1
      go_wp2_with fail
      go_ret2
      exact ⟨rfl, HB1.out⟩
    · have h4 : 4 < m := by
        have : ¬ (0 ≤ m ∧ m ≤ 4) := by unfold modeB at hm; simpa using hm
        omega
      clear hm
      go_enter Try.func41, Try.ntmps41
      go_wp2_with fail
      refine (rvalid_is n d _ _ hv).mono ?_
      rintro e w1 ⟨rfl, hb1⟩
      have HB1 := hide (bt (ba (Below.refl w.heap.size w) _) hb1); clear hb1
      go_wp2_with fail
      go_ret2
      exact ⟨rfl, HB1.out⟩
set_option maxRecDepth 20000 in
set_option maxHeartbeats 2000000 in
theorem rround_yes (n d m z : Int) (w : World) (h1 : M.okB n d = true) (h2 : modeB m = true) (hz : Hid (z = M.rnd n d m)) : Calls Try.prog 41 #[.agg #[.int .i64 n, .int .i64 d], .int .i64 m] w fun e w' => e = .returned (.tuple #[.int .i64 z, .int .i64 0]) ∧ Below w.heap.size w w' := by
  have hv := hide h1
  obtain ⟨m1, m2⟩ := mode_in h2
  have HM : Hid (0 ≤ m ∧ m ≤ 4) := hide ⟨m1, m2⟩
  obtain ⟨p, hp⟩ : ∃ p, Hid (p = Rat.divInt n d) := ⟨_, rfl⟩
  have HP : Hid (Mid p) := hide (by rw [hp.out]; exact mid_ok h1)
  have HZ : Hid (z = M.rq p m) := hide (by rw [hz.out, hp.out]; exact M.rnd_is m (M.okB_pos h1))
  obtain ⟨zq, hzq⟩ : ∃ q, Hid (q = ((M.rq p m : Int) : Rat)) := ⟨_, rfl⟩
  have HZQ : Hid (zq = ((z : Int) : Rat)) := hide (by rw [hzq.out, HZ.out])
  have HZB := hide (rq_bd (m := m) HP.out)
  rw [← HZ.out] at HZB
  clear h1 h2 hz HZ
  go_enter Try.func41, Try.ntmps41
  go_wp2_with fail
  refine (rvalid_is n d _ _ hv).mono ?_
  rintro e w1 ⟨rfl, hb1⟩
  have HB1 := hide (bt (ba (Below.refl w.heap.size w) (.cells #[.int .i64 n, .int .i64 d] 23)) hb1)
  have c1 : w1.cell? ⟨w.heap.size, 0, none⟩ = some (.int .i64 n) := kc hb1 (by simp [go_sem])
  have c2 : w1.cell? ⟨w.heap.size, 1, none⟩ = some (.int .i64 d) := kc hb1 (by simp [go_sem])
  clear hb1
  go_wp2_with fail
  refine (ofr_q n d _ hv.out p hp).mono ?_
  rintro e w2 ⟨v2, rfl, hv2, hb2⟩
  have HV2 := hide hv2
  have HB2 := hide (bt HB1.out hb2); clear hb2 hv2
  go_wp2_with fail
  refine (rounded_q p m _ _ HV2.out HM HP zq hzq).mono ?_
  rintro e w3 ⟨v3, rfl, hv3, hb3⟩
  have HV3 := hide hv3
  have HB3 := hide (bt HB2.out hb3); clear hb3 hv3
  go_wp2_with fail
  refine (whole_q z _ _ (HZQ.out ▸ HV3.out) HZB.out.1 HZB.out.2).mono ?_
  rintro e w4 ⟨rfl, hb4⟩
  have HB4 := hide (bt HB3.out hb4); clear hb4
  go_wp2_with fail
  go_ret2
  exact ⟨rfl, HB4.out⟩
end Go.Proofs.Ytpgnbjlpkpmpcaa.R
