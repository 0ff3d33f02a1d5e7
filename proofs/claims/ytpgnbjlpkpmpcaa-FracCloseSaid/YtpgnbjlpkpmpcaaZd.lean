import Derived.Test.YtpgnbjlpkpmpcaaZc
import Derived.Test.YtpgnbjlpkpmpcaaC
namespace Go.Proofs.Ytpgnbjlpkpmpcaa.R
open Go.RowKit Go.Proofs.Ytpgnbjlpkpmpcaa.N
theorem natural_i (z : Int) (m : Nat) (w : World) (hz : Hid (z = m)) (hm : Hid (m < B * B)) : Calls Try.prog 112 #[.int .u64 z] w (RetN w m) := by
  rw [hz.out]; exact natural_is m w hm
theorem b2_le : 2 ≤ K - 1 := by decide
theorem sh_two {n : Nat} (h : n < B * B) : Sh n := sh_of (k := 2) (by rw [Nat.pow_two]; exact h) b2_le
theorem mk_int (n : Int) : mk (decide (n < 0)) n.natAbs 1 = (n : Rat) := by
  unfold mk
  rw [← sgn_split n]
  rw [show ((1 : Nat) : Int) = 1 from rfl, Rat.divInt_eq_div]; grind
set_option maxRecDepth 20000 in
set_option maxHeartbeats 1000000 in
theorem int_q (n : Int) (w : World) (h1 : -9223372036854775808 ≤ n) (h2 : n ≤ 9223372036854775807) : Calls Try.prog 77 #[.int .i64 n] w (RetQ w (n : Rat)) := by
  have HB : Hid (n.natAbs < B * B) := hide (by unfold B; omega)
  have HS1 : Hid (Sh n.natAbs) := hide (sh_two HB.out)
  have HS2 : Hid (Sh 1) := hide (sh_two (by decide))
  obtain ⟨r, hr⟩ : ∃ r, Hid (r = (n : Rat)) := ⟨_, rfl⟩
  rw [← hr.out]
  have HE : Hid (r = mk (decide (n < 0)) n.natAbs 1) := by rw [hr.out]; exact hide (mk_int n).symm
  obtain ⟨m, hm⟩ : ∃ m, m = n.natAbs := ⟨_, rfl⟩
  rw [← hm] at HB HS1 HE
  by_cases hn : n < 0
  · have HZ : Hid (-(n + 1) + 1 = (m : Int)) := hide (by omega)
    have HE' : Hid (r = mk true m 1) := by have := HE.out; rw [show decide (n < 0) = true by simpa using hn] at this; exact hide this
    clear HE hr hm
    go_enter Try.func77, Try.ntmps77
    go_wp2_with fail
    refine (natural_i _ m _ HZ HB).mono ?_
    rintro e w1 ⟨v1, rfl, hv1, hb1⟩
    have s1 := s3_step (s3_new w) hb1
    have HV := hide hv1
    have HB1 := hide (bt (ba (Below.refl w.heap.size w) _) hb1)
    clear hv1 hb1
    go_wp2_with fail
    refine (made_is true m 1 _ _ _ r (HV.out.below (ba (Below.refl _ _) _)) (rn_one (by simp [go_sem]) (by decide)) HS1 HS2 (by decide) HE').mono ?_
    rintro e w2 ⟨v2, rfl, hv2, hb2⟩
    have s2 := s3_step (s3_step s1 (ba (Below.refl _ _) _)) hb2
    have HB2 := hide (bt (ba HB1.out _) hb2)
    obtain ⟨p1, p2, p3, p4, p5, p6, rfl, hz1, hz2⟩ := hv2
    have HZ1 := hide (And.intro hz1 hz2)
    clear hb2 hz1 hz2
    obtain ⟨⟨c0, c1, c2⟩, f0, f1, f2⟩ := s2.out
    go_wp2_with fail
    refine bodyPost_ret (v := .agg #[.bool (decide (r.num < 0)), .slice p1 p2 p3, .slice p4 p5 p6]) (by simp [results, Try.results77, go_sem, c0, c1, c2]) rfl ⟨_, rfl, ⟨p1, p2, p3, p4, p5, p6, rfl, rn_s3 HZ1.out.1 s2.out _ _ _, rn_s3 HZ1.out.2 s2.out _ _ _⟩, s3_end HB2.out (Nat.le_refl _) _ _ _⟩
  · have HZ : Hid (n = (m : Int)) := hide (by omega)
    have HE' : Hid (r = mk false m 1) := by have := HE.out; rw [show decide (n < 0) = false by simpa using hn] at this; exact hide this
    clear HE hr hm
    go_enter Try.func77, Try.ntmps77
    go_wp2_with fail
    refine (natural_i _ m _ HZ HB).mono ?_
    rintro e w1 ⟨v1, rfl, hv1, hb1⟩
    have s1 := s3_step (s3_new w) hb1
    have HV := hide hv1
    have HB1 := hide (bt (ba (Below.refl w.heap.size w) _) hb1)
    clear hv1 hb1
    go_wp2_with fail
    refine (made_is false m 1 _ _ _ r (HV.out.below (ba (Below.refl _ _) _)) (rn_one (by simp [go_sem]) (by decide)) HS1 HS2 (by decide) HE').mono ?_
    rintro e w2 ⟨v2, rfl, hv2, hb2⟩
    have s2 := s3_step (s3_step s1 (ba (Below.refl _ _) _)) hb2
    have HB2 := hide (bt (ba HB1.out _) hb2)
    obtain ⟨p1, p2, p3, p4, p5, p6, rfl, hz1, hz2⟩ := hv2
    have HZ1 := hide (And.intro hz1 hz2)
    clear hb2 hz1 hz2
    obtain ⟨⟨c0, c1, c2⟩, f0, f1, f2⟩ := s2.out
    go_wp2_with fail
    refine bodyPost_ret (v := .agg #[.bool (decide (r.num < 0)), .slice p1 p2 p3, .slice p4 p5 p6]) (by simp [results, Try.results77, go_sem, c0, c1, c2]) rfl ⟨_, rfl, ⟨p1, p2, p3, p4, p5, p6, rfl, rn_s3 HZ1.out.1 s2.out _ _ _, rn_s3 HZ1.out.2 s2.out _ _ _⟩, s3_end HB2.out (Nat.le_refl _) _ _ _⟩
set_option maxHeartbeats 1000000 in
theorem small_yes (v : Value) (n : Nat) (w : World) (h : RN w v n) (hn : Hid (n ≤ 4611686018427387904)) : Calls Try.prog 91 #[v] w fun e w' => e = .returned (.tuple #[.int .i64 n, .bool true]) ∧ w = w' := by
  have HB : Hid (n < B * B) := hide (by have := hn.out; unfold B; omega)
  have HR := hide h
  obtain ⟨l, ao, ca, rfl, hl, hv, hd, _⟩ := h
  have l1 : (l.length : Int) ≤ 2 := by have := len2 hl (by rw [hv]; exact HB.out); omega
  have hni : (n : Int) ≤ 4611686018427387904 := by have := hn.out; omega
  clear hl hv hd
  go_enter Try.func91, Try.ntmps91
  go_wp2_with fail
  refine (short_is _ n _ HR.out HB).mono ?_
  rintro e w' ⟨rfl, rfl⟩
  go_wp2_with fail
  go_ret2
  exact ⟨rfl, rfl⟩
set_option maxHeartbeats 1000000 in
theorem small_no (v : Value) (n : Nat) (w : World) (h : RN w v n) (hn : Hid (4611686018427387904 < n)) : Calls Try.prog 91 #[v] w fun e w' => e = .returned (.tuple #[.int .i64 0, .bool false]) ∧ w = w' := by
  have HR := hide h
  obtain ⟨l, ao, ca, rfl, hl, hv, hd, _⟩ := h
  by_cases l1 : (l.length : Int) ≤ 2
  · have HB : Hid (n < B * B) := hide (by rw [← hv]; exact two_lt hl.1 (by omega))
    have hni : ¬ (n : Int) ≤ 4611686018427387904 := by have := hn.out; omega
    clear hl hv hd
    go_enter Try.func91, Try.ntmps91
    go_wp2_with fail
    refine (short_is _ n _ HR.out HB).mono ?_
    rintro e w' ⟨rfl, rfl⟩
    go_wp2_with fail
    go_ret2
    exact ⟨rfl, rfl⟩
  · clear hl hv hd
    go_enter Try.func91, Try.ntmps91
    go_wp2_with fail
    go_ret2
    exact ⟨rfl, rfl⟩
end Go.Proofs.Ytpgnbjlpkpmpcaa.R
