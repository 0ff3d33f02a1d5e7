import Derived.Test.YtpgnbjlpkpmpcaaDf
import Derived.Test.YtpgnbjlpkpmpcaaDd
import Derived.Test.YtpgnbjlpkpmpcaaZt
import Derived.Test.YtpgnbjlpkpmpcaaZu
set_option linter.unusedVariables false
namespace Go.Proofs.Ytpgnbjlpkpmpcaa.M
theorem nb_shift {n m d a b c e p L : Int} (hp : p = n - L * m) (h : Nb p m d a b c e) : Nb n m d (a + L * b) b (c + L * e) e := by
  obtain ⟨h0, s, dt, l1, l2⟩ := h
  have e1 : (c + L * e) * b - (a + L * b) * e = c * b - a * e := by grind
  have e2 : (a + L * b) * m = a * m + L * m * b := by grind
  have e3 : (c + L * e) * m = c * m + L * m * e := by grind
  have e4 : p * b = n * b - L * m * b := by rw [hp, Int.sub_mul]
  have e5 : p * e = n * e - L * m * e := by rw [hp, Int.sub_mul]
  exact ⟨h0, s, by rw [e1]; exact dt, by rw [e2]; omega, by rw [e3]; omega⟩
theorem gcd_shift {n m p L : Int} (hp : p = n - L * m) (hg : Nat.gcd n.natAbs m.natAbs = 1) : Nat.gcd p.natAbs m.natAbs = 1 := by
  have h1 : ((Nat.gcd p.natAbs m.natAbs : Nat) : Int) ∣ p := Int.dvd_natAbs.1 (Int.natCast_dvd_natCast.2 (Nat.gcd_dvd_left _ _))
  have h2 : ((Nat.gcd p.natAbs m.natAbs : Nat) : Int) ∣ m := Int.dvd_natAbs.1 (Int.natCast_dvd_natCast.2 (Nat.gcd_dvd_right _ _))
  have h3 : ((Nat.gcd p.natAbs m.natAbs : Nat) : Int) ∣ n := by
    have : n = p + L * m := by omega
    rw [this]; exact Int.dvd_add h1 (Int.dvd_mul_of_dvd_right h2)
  have h4 : Nat.gcd p.natAbs m.natAbs ∣ n.natAbs := Int.natCast_dvd_natCast.1 (Int.dvd_natAbs.2 h3)
  have h5 := Nat.dvd_gcd h4 (Nat.gcd_dvd_right p.natAbs m.natAbs)
  rw [hg] at h5
  exact Nat.dvd_one.1 h5
end Go.Proofs.Ytpgnbjlpkpmpcaa.M
namespace Go.Proofs.Ytpgnbjlpkpmpcaa.R
open Go.RowKit Go.Proofs.Ytpgnbjlpkpmpcaa.N
theorem lo_unique {n m d a b a' b' : Int} (hm : 0 < m) (h : Lo n m d a b) (h' : Lo n m d a' b') : a = a' ∧ b = b' := by
  rcases h with ⟨k, k1, k2⟩ | ⟨k, c, e, hn⟩
  · rcases h' with ⟨k', k1', k2'⟩ | ⟨k', c', e', hn'⟩
    · rw [k1, k2, k1', k2']; exact ⟨rfl, rfl⟩
    · omega
  · rcases h' with ⟨k', k1', k2'⟩ | ⟨k', c', e', hn'⟩
    · omega
    · exact (M.nb_unique hm hn hn').1
theorem hi_unique {n m d a b a' b' : Int} (hm : 0 < m) (h : Hi n m d a b) (h' : Hi n m d a' b') : a = a' ∧ b = b' := by
  rcases h with ⟨k, k1, k2⟩ | ⟨k, c, e, hn⟩
  · rcases h' with ⟨k', k1', k2'⟩ | ⟨k', c', e', hn'⟩
    · rw [k1, k2, k1', k2']; exact ⟨rfl, rfl⟩
    · omega
  · rcases h' with ⟨k', k1', k2'⟩ | ⟨k', c', e', hn'⟩
    · omega
    · exact (M.nb_unique hm hn hn').2
theorem ns_start' (w : World) (n m : Int) : Hid (NS w (((w.alloc (.cells #[.int .i64 n, .int .i64 m] 23)).alloc (.cells #[.int .i64 0, .int .i64 0] 23)).alloc (.cells #[.int .i64 0, .int .i64 0] 23)) n m 0 0 0 0) :=
  hide ⟨⟨⟨by simp [go_sem], by simp [go_sem]⟩, ⟨by simp [go_sem], by simp [go_sem]⟩, ⟨by simp [go_sem], by simp [go_sem]⟩⟩, ⟨⟨by simp [go_sem], by simp [go_sem]⟩, ⟨by simp [go_sem], by simp [go_sem]⟩⟩, ba (ba (ba (Below.refl _ _) _) _) _⟩
def ArRet (w : World) (n m d : Int) (en : Ending) (w' : World) : Prop := ∃ a b c e : Int, en = .returned (.tuple #[.agg #[.int .i64 a, .int .i64 b], .agg #[.int .i64 c, .int .i64 e], .int .i64 0]) ∧ (Lo n m d a b ∧ Hi n m d c e) ∧ Below w.heap.size w w'
set_option maxRecDepth 100000 in
set_option maxHeartbeats 2000000 in
theorem around_no (n m d : Int) (w : World) (h : (M.okB n m && denB d) = false) :
    Calls Try.prog 60 #[.agg #[.int .i64 n, .int .i64 m], .int .i64 d] w fun e w' => e = .returned (.tuple #[.agg #[.int .i64 0, .int .i64 0], .agg #[.int .i64 0, .int .i64 0], .int .i64 2]) ∧ Below w.heap.size w w' := by
  have HN := ns_start' w n m
  cases c : M.okB n m
  · have hv := hide c
    clear c h
    go_enter Try.func60, Try.ntmps60
    go_wp2_with fail
    refine (rvalid_is n m false _ hv).mono ?_
    rintro en w1 ⟨rfl, hb⟩
    have HN1 := ns_step HN hb; clear hb HN
    obtain ⟨⟨⟨c1, c2⟩, ⟨c3, c4⟩, ⟨c5, c6⟩⟩, ⟨⟨z1, z2⟩, ⟨z3, z4⟩⟩, _⟩ := HN1.out
    go_wp2_with fail
    refine bodyPost_ret (v := .tuple #[.agg #[.int .i64 0, .int .i64 0], .agg #[.int .i64 0, .int .i64 0], .int .i64 2]) (by simp [results, Try.results60, go_sem, *]) rfl ⟨rfl, ?_⟩
    exact (ns_hi (ns_lo HN1 0 0) 0 0).out.2.2
  · have hv := hide c
    have hd : ¬ (1 ≤ d ∧ d ≤ 1000000000) := by rw [c] at h; unfold denB at h; simpa using h
    clear c h
    by_cases h1 : d < 1
    · clear hd
      go_enter Try.func60, Try.ntmps60
      go_wp2_with fail
      refine (rvalid_is n m true _ hv).mono ?_
      rintro en w1 ⟨rfl, hb⟩
      have HN1 := ns_step HN hb; clear hb HN
      obtain ⟨⟨⟨c1, c2⟩, ⟨c3, c4⟩, ⟨c5, c6⟩⟩, ⟨⟨z1, z2⟩, ⟨z3, z4⟩⟩, _⟩ := HN1.out
      go_wp2_with fail
      refine bodyPost_ret (v := .tuple #[.agg #[.int .i64 0, .int .i64 0], .agg #[.int .i64 0, .int .i64 0], .int .i64 2]) (by simp [results, Try.results60, go_sem, *]) rfl ⟨rfl, ?_⟩
      exact (ns_hi (ns_lo HN1 0 0) 0 0).out.2.2
    · have h2 : 1000000000 < d := by omega
      clear hd
      go_enter Try.func60, Try.ntmps60
      go_wp2_with fail
      refine (rvalid_is n m true _ hv).mono ?_
      rintro en w1 ⟨rfl, hb⟩
      have HN1 := ns_step HN hb; clear hb HN
      obtain ⟨⟨⟨c1, c2⟩, ⟨c3, c4⟩, ⟨c5, c6⟩⟩, ⟨⟨z1, z2⟩, ⟨z3, z4⟩⟩, _⟩ := HN1.out
      go_wp2_with fail
      refine bodyPost_ret (v := .tuple #[.agg #[.int .i64 0, .int .i64 0], .agg #[.int .i64 0, .int .i64 0], .int .i64 2]) (by simp [results, Try.results60, go_sem, *]) rfl ⟨rfl, ?_⟩
      exact (ns_hi (ns_lo HN1 0 0) 0 0).out.2.2
set_option maxRecDepth 100000 in
set_option maxHeartbeats 4000000 in
theorem around_yes (n m d : Int) (w : World) (h1 : M.okB n m = true) (h2 : denB d = true) :
    Calls Try.prog 60 #[.agg #[.int .i64 n, .int .i64 m], .int .i64 d] w (ArRet w n m d) := by
  have HN := ns_start' w n m
  have hv := hide h1
  obtain ⟨a1, a2, a3, a4⟩ := okB_in h1
  obtain ⟨d1, d2⟩ := den_in h2
  have HGC : Hid (Nat.gcd n.natAbs m.natAbs = 1) := hide ((M.okB_iff n m).1 h1).2.2.2.2
  have HA := hide (And.intro (And.intro a1 a2) (And.intro a3 a4))
  by_cases hle : m ≤ d
  · have hmd := hide hle
    clear h1 h2
    go_enter Try.func60, Try.ntmps60
    go_wp2_with fail
    refine (rvalid_is n m true _ hv).mono ?_
    rintro en w1 ⟨rfl, hb⟩
    have HN1 := ns_step HN hb; clear hb HN
    obtain ⟨⟨⟨c1, c2⟩, ⟨c3, c4⟩, ⟨c5, c6⟩⟩, ⟨⟨z1, z2⟩, ⟨z3, z4⟩⟩, _⟩ := HN1.out
    go_wp2_with fail
    go_region
    go_wp2_with fail
    refine bodyPost_ret (v := .tuple #[.agg #[.int .i64 n, .int .i64 m], .agg #[.int .i64 n, .int .i64 m], .int .i64 0]) (by simp [results, Try.results60, go_sem, *]) rfl ⟨n, m, n, m, rfl, ⟨.inl ⟨hmd.out, rfl, rfl⟩, .inl ⟨hmd.out, rfl, rfl⟩⟩, ?_⟩
    exact (ns_hi (ns_lo HN1 n m) n m).out.2.2.drew
  · have hmd : Hid (d < m) := hide (by omega)
    obtain ⟨s, hs⟩ : ∃ s, Hid (s = Rat.divInt n m) := ⟨_, rfl⟩
    obtain ⟨L, hL⟩ : ∃ L, Hid (L = n / m) := ⟨_, rfl⟩
    obtain ⟨zq, hzq⟩ : ∃ z, Hid (z = ((s.num / (s.den : Int) : Int) : Rat)) := ⟨_, rfl⟩
    have HZQ : Hid (zq = ((L : Int) : Rat)) := hide (by rw [hzq.out, hs.out, floor_divInt (by omega), hL.out])
    have BS' : Hid (Bq 2 s) := by rw [hs.out]; exact hide (bq_frac h1)
    obtain ⟨p, hp⟩ : ∃ p, p = n - L * m := ⟨_, rfl⟩
    have e1 := Int.mul_ediv_add_emod n m
    have e2 := Int.emod_nonneg n (b := m) (by omega)
    have e3 := Int.emod_lt_of_pos n (b := m) (by omega)
    rw [Int.mul_comm, ← hL.out] at e1
    have hit := M.no_hit (a := L) (d := d) HGC.out hmd.out (show (1 : Int) ≤ 1 by omega) (by omega)
    have hp0 : 0 < p := by omega
    have hpm : p < m := by omega
    have HPG := hide (M.gcd_shift hp HGC.out)
    have HPP := hide (And.intro hp0 hpm)
    have HP := hide hp
    have hLb : -1000000000 ≤ L ∧ L ≤ 1000000000 := by
      have := (M.pr_bd hmd.out (M.pr_start HGC.out hmd.out d1) ⟨a1, a2⟩).1
      rw [← hL.out] at this; exact this
    have l1 : -2000000000 ≤ L * m ∧ L * m ≤ 2000000000 := by omega
    have l2 : -2000000000 ≤ n - L * m ∧ n - L * m ≤ 2000000000 := by omega
    obtain ⟨l1, l1'⟩ := l1
    obtain ⟨l2, l2'⟩ := l2
    obtain ⟨lb1, lb2⟩ := hLb
    clear h1 h2 e1 e2 e3 hit hp0 hpm hp
    go_enter Try.func60, Try.ntmps60
    go_wp2_with fail
    refine (rvalid_is n m true _ hv).mono ?_
    rintro en w1 ⟨rfl, hb⟩
    have HN1 := ns_step HN hb; clear hb HN
    obtain ⟨⟨⟨c1, c2⟩, ⟨c3, c4⟩, ⟨c5, c6⟩⟩, ⟨⟨z1, z2⟩, ⟨z3, z4⟩⟩, _⟩ := HN1.out
    go_wp2_with fail
    refine (ofr_q n m _ hv.out s hs).mono ?_
    rintro en w2 ⟨v2, rfl, hv2, hb⟩
    have HN2 := ns_step HN1 hb
    have HV2 := hide hv2
    clear hb HN1 hv2 c1 c2 c3 c4 c5 c6 z1 z2 z3 z4
    go_wp2_with fail
    refine (down_q 2 s _ _ HV2.out BS'.out half2 zq hzq).mono ?_
    rintro en w3 ⟨v3, rfl, hv3, hb⟩
    have HN3 := ns_step HN2 hb
    have HV3 := hide hv3
    clear hb HN2 hv3
    go_wp2_with fail
    refine (whole_q L _ _ (HZQ.out ▸ HV3.out) (by omega) (by omega)).mono ?_
    rintro en w4 ⟨rfl, hb⟩
    have HN4 := ns_step HN3 hb
    clear hb HN3
    obtain ⟨⟨⟨c1, c2⟩, ⟨c3, c4⟩, ⟨c5, c6⟩⟩, ⟨⟨z1, z2⟩, ⟨z3, z4⟩⟩, _⟩ := HN4.out
    go_wp2_with fail
    rw [← HP.out]
    refine (between_any p m d _ HPG.out hmd.out (by omega) d1 HPP.out.1 HPP.out.2).mono ?_
    rintro en w5 ⟨a, b, c, e', rfl, hnb, hb⟩
    have hsh := M.nb_shift HP.out hnb
    have hb1 := M.nb_bd hmd.out hsh.1 hsh.2.2.1 hsh.2.2.2.1 hsh.2.2.2.2 HA.out.1
    have hb2 := M.nb_bd hmd.out hnb.1 hnb.2.2.1 hnb.2.2.2.1 hnb.2.2.2.2 ⟨by have := HPP.out.1; omega, by have := HPP.out.2; omega⟩
    have HSH := hide hsh
    have HN5 := ns_step (ns_step HN4 hb) (ba (ba (Below.refl _ _) (.cells #[.int .i64 a, .int .i64 b] 23)) (.cells #[.int .i64 c, .int .i64 e'] 23))
    have HN5' := ns_step HN4 hb
    obtain ⟨⟨⟨b1, b2⟩, ⟨e1, e2⟩⟩, _⟩ := hnb
    obtain ⟨⟨x1, x2⟩, ⟨x3, x4⟩, _⟩ := hb1
    obtain ⟨⟨y1, y2⟩, ⟨y3, y4⟩, _⟩ := hb2
    clear hb HN4 c1 c2 c3 c4 c5 c6 z1 z2 z3 z4 hsh
    obtain ⟨⟨⟨c1, c2⟩, ⟨c3, c4⟩, ⟨c5, c6⟩⟩, ⟨⟨z1, z2⟩, ⟨z3, z4⟩⟩, _⟩ := HN5'.out
    have k1 := cell_lt c1
    have k2 := cell_lt c3
    have k3 := cell_lt c5
    have w1' : IntKind.i64.wrap (L * b) = L * b := IntWalk.i64_in _ (by omega)
    have w2' : IntKind.i64.wrap (a + L * b) = a + L * b := IntWalk.i64_in _ (by omega)
    have w3' : IntKind.i64.wrap (L * e') = L * e' := IntWalk.i64_in _ (by omega)
    have w4' : IntKind.i64.wrap (c + L * e') = c + L * e' := IntWalk.i64_in _ (by omega)
    go_wp2_with fail
    go_region
    go_wp2_with fail
    refine bodyPost_ret (v := .tuple #[.agg #[.int .i64 (a + L * b), .int .i64 b], .agg #[.int .i64 (c + L * e'), .int .i64 e'], .int .i64 0]) (by simp [results, Try.results60, go_sem, *]) rfl ⟨a + L * b, b, c + L * e', e', rfl, ⟨.inr ⟨hmd.out, _, _, HSH.out⟩, .inr ⟨hmd.out, _, _, HSH.out⟩⟩, ?_⟩
    exact (ba (ba (ns_hi (ns_lo HN5' (a + L * b) b) (c + L * e') e').out.2.2 _) _).drew
end Go.Proofs.Ytpgnbjlpkpmpcaa.R
