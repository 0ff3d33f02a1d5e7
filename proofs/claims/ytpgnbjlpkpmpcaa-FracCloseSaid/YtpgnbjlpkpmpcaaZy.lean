import Derived.Test.YtpgnbjlpkpmpcaaZx
import Derived.Test.YtpgnbjlpkpmpcaaZj
set_option linter.unusedVariables false
namespace Go.Proofs.Ytpgnbjlpkpmpcaa.R
open Go.RowKit Go.Proofs.Ytpgnbjlpkpmpcaa.N
set_option maxRecDepth 20000 in
set_option maxHeartbeats 4000000 in
theorem rroundto_no (n d u v m : Int) (w : World) (h : okR n d u v m = false) : Calls Try.prog 43 #[.agg #[.int .i64 n, .int .i64 d], .agg #[.int .i64 u, .int .i64 v], .int .i64 m] w fun e w' => e = .returned (.tuple #[.agg #[.int .i64 0, .int .i64 0], .int .i64 2]) ∧ Below w.heap.size w w' := by
  cases c1 : M.okB n d
  · have hv1 := hide c1
    clear h c1
    go_enter Try.func43, Try.ntmps43
    go_wp2_with fail
    refine (rvalid_is n d _ _ hv1).mono ?_
    rintro e w1 ⟨rfl, hb1⟩
    have hk := k2_step (k2_new w n d u v) hb1; clear hb1
    obtain ⟨_, ⟨q0, q1, f0, f1⟩, _⟩ := hk.out
    go_wp2_with fail
    refine bodyPost_ret (v := .tuple #[.agg #[.int .i64 0, .int .i64 0], .int .i64 2]) (by simp [results, Try.results43, go_sem, *]) rfl ⟨rfl, ?_⟩
    exact k2_end hk _ _
  · have hv1 := hide c1
    cases c2 : M.okB u v
    · have hv2 := hide c2
      clear h c1 c2
      go_enter Try.func43, Try.ntmps43
      go_wp2_with fail
      refine (rvalid_is n d _ _ hv1).mono ?_
      rintro e w1 ⟨rfl, hb1⟩
      have hk := k2_step (k2_new w n d u v) hb1; clear hb1
      obtain ⟨⟨c1, c2, c3, c4⟩, _, _⟩ := hk.out
      go_wp2_with fail
      refine (rvalid_is u v _ _ hv2).mono ?_
      rintro e w2 ⟨rfl, hb2⟩
      have hk := k2_step hk hb2; clear hb2 c1 c2 c3 c4
      obtain ⟨⟨c1, c2, c3, c4⟩, ⟨q0, q1, f0, f1⟩, _⟩ := hk.out
      go_wp2_with fail
      refine bodyPost_ret (v := .tuple #[.agg #[.int .i64 0, .int .i64 0], .int .i64 2]) (by simp [results, Try.results43, go_sem, *]) rfl ⟨rfl, ?_⟩
      exact k2_end hk _ _
    · have hv2 := hide c2
      by_cases hu : u ≤ 0
      · clear h c1 c2
        go_enter Try.func43, Try.ntmps43
        go_wp2_with fail
        refine (rvalid_is n d _ _ hv1).mono ?_
        rintro e w1 ⟨rfl, hb1⟩
        have hk := k2_step (k2_new w n d u v) hb1; clear hb1
        obtain ⟨⟨c1, c2, c3, c4⟩, _, _⟩ := hk.out
        go_wp2_with fail
        refine (rvalid_is u v _ _ hv2).mono ?_
        rintro e w2 ⟨rfl, hb2⟩
        have hk := k2_step hk hb2; clear hb2 c1 c2 c3 c4
        obtain ⟨⟨c1, c2, c3, c4⟩, ⟨q0, q1, f0, f1⟩, _⟩ := hk.out
        go_wp2_with fail
        refine bodyPost_ret (v := .tuple #[.agg #[.int .i64 0, .int .i64 0], .int .i64 2]) (by simp [results, Try.results43, go_sem, *]) rfl ⟨rfl, ?_⟩
        exact k2_end hk _ _
      · have hm : modeB m = false := by unfold okR at h; rw [c1, c2] at h; simpa [show 0 < u by omega] using h
        have hu1 : 1 ≤ u := by omega
        clear h c1 c2 hu
        by_cases h0 : m < 0
        · clear hm
          go_enter Try.func43, Try.ntmps43
          go_wp2_with fail
          refine (rvalid_is n d _ _ hv1).mono ?_
          rintro e w1 ⟨rfl, hb1⟩
          have hk := k2_step (k2_new w n d u v) hb1; clear hb1
          obtain ⟨⟨c1, c2, c3, c4⟩, _, _⟩ := hk.out
          go_wp2_with fail
          refine (rvalid_is u v _ _ hv2).mono ?_
          rintro e w2 ⟨rfl, hb2⟩
          have hk := k2_step hk hb2; clear hb2 c1 c2 c3 c4
          obtain ⟨⟨c1, c2, c3, c4⟩, ⟨q0, q1, f0, f1⟩, _⟩ := hk.out
          go_wp2_with fail
          refine bodyPost_ret (v := .tuple #[.agg #[.int .i64 0, .int .i64 0], .int .i64 2]) (by simp [results, Try.results43, go_sem, *]) rfl ⟨rfl, ?_⟩
          exact k2_end hk _ _
        · have h4 : 4 < m := by
            have : ¬ (0 ≤ m ∧ m ≤ 4) := by unfold modeB at hm; simpa using hm
            omega
          clear hm
          go_enter Try.func43, Try.ntmps43
          go_wp2_with fail
          refine (rvalid_is n d _ _ hv1).mono ?_
          rintro e w1 ⟨rfl, hb1⟩
          have hk := k2_step (k2_new w n d u v) hb1; clear hb1
          obtain ⟨⟨c1, c2, c3, c4⟩, _, _⟩ := hk.out
          go_wp2_with fail
          refine (rvalid_is u v _ _ hv2).mono ?_
          rintro e w2 ⟨rfl, hb2⟩
          have hk := k2_step hk hb2; clear hb2 c1 c2 c3 c4
          obtain ⟨⟨c1, c2, c3, c4⟩, ⟨q0, q1, f0, f1⟩, _⟩ := hk.out
          go_wp2_with fail
          refine bodyPost_ret (v := .tuple #[.agg #[.int .i64 0, .int .i64 0], .int .i64 2]) (by simp [results, Try.results43, go_sem, *]) rfl ⟨rfl, ?_⟩
          exact k2_end hk _ _
theorem unit_times (z u v : Int) : Rat.divInt (z * u) v = (z : Rat) * Rat.divInt u v := by
  have := M.mul_is (n := z) (d := 1) (m := u) (q := v)
  rw [Int.one_mul, ← cast_div] at this
  exact this
set_option maxRecDepth 20000 in
set_option maxHeartbeats 4000000 in
theorem rroundto_yes (n d u v m z x y e0 : Int) (w : World) (h1 : M.okB n d = true) (h2 : M.okB u v = true) (hu : 0 < u) (hm : modeB m = true) (hz : Hid (z = M.rnd (n * v) (d * u) m))
    (hx : Hid (x = M.nN (z * u) v)) (hy : Hid (y = M.nD (z * u) v)) (he : Hid (e0 = M.nE (z * u) v)) : Calls Try.prog 43 #[.agg #[.int .i64 n, .int .i64 d], .agg #[.int .i64 u, .int .i64 v], .int .i64 m] w fun e w' => e = .returned (.tuple #[.agg #[.int .i64 x, .int .i64 y], .int .i64 e0]) ∧ Below w.heap.size w w' := by
  have hv1 := hide h1
  have hv2 := hide h2
  obtain ⟨m1, m2⟩ := mode_in hm
  have HM : Hid (0 ≤ m ∧ m ≤ 4) := hide ⟨m1, m2⟩
  obtain ⟨a1, a2, a3, a4⟩ := okB_in h1
  obtain ⟨b1, b2, b3, b4⟩ := okB_in h2
  obtain ⟨p1, p2⟩ := prod_bd a1 a2 (by omega : -1000000000 ≤ v) b4
  obtain ⟨p3, p4⟩ := prod_bd (by omega : -1000000000 ≤ d) a4 (by omega : -1000000000 ≤ u) b2
  have hD1 : 0 < d * u := Int.mul_pos (by omega) hu
  obtain ⟨s, hs⟩ : ∃ s, Hid (s = Rat.divInt n d) := ⟨_, rfl⟩
  obtain ⟨t, ht⟩ : ∃ t, Hid (t = Rat.divInt u v) := ⟨_, rfl⟩
  obtain ⟨p, hp⟩ : ∃ p, Hid (p = s / t) := ⟨_, rfl⟩
  have HPD : Hid (p = Rat.divInt (n * v) (d * u)) := hide (by rw [hp.out, hs.out, ht.out]; exact M.div_is.symm)
  have HP : Hid (Mid p) := hide (by rw [HPD.out]; exact mid_div hD1 (by omega) (by omega))
  have HZ : Hid (z = M.rq p m) := hide (by rw [hz.out, HPD.out]; exact M.rnd_is m hD1)
  obtain ⟨zq, hzq⟩ : ∃ q, Hid (q = ((M.rq p m : Int) : Rat)) := ⟨_, rfl⟩
  obtain ⟨r, hr⟩ : ∃ q, Hid (q = zq * t) := ⟨_, rfl⟩
  have HR : Hid (Rat.divInt (z * u) v = r) := hide (by rw [hr.out, hzq.out, ht.out, ← HZ.out]; exact unit_times z u v)
  have HA : Hid (x = M.aN r ∧ y = M.aD r ∧ e0 = M.aE r) := hide (by
    obtain ⟨k1, k2, k3⟩ := M.new_is (n := z * u) (d := v) (by omega) HR.out
    rw [hx.out, hy.out, he.out]; exact ⟨k1, k2, k3⟩)
  have HAx : Hid (x = M.aN r) := hide HA.out.1
  have HAy : Hid (y = M.aD r) := hide HA.out.2.1
  have HAe : Hid (e0 = M.aE r) := hide HA.out.2.2
  have BS : Hid (Bq 2 s) := by rw [hs.out]; exact hide (bq_frac h1)
  have BT : Hid (Bq 2 t) := by rw [ht.out]; exact hide (bq_frac h2)
  have BZ : Hid (Bq 2 zq) := hide (by rw [hzq.out]; exact bq_mid_int (rq_bd HP.out))
  have HT0 : Hid (t ≠ 0) := by rw [ht.out]; exact hide (M.divInt_ne h2 (by omega))
  have hu1 : 1 ≤ u := by omega
  clear h1 h2 hu hm hz hx hy he HA a1 a2 a3 a4 b1 b3 b4 p1 p2 p3 p4 hD1
  go_enter Try.func43, Try.ntmps43
  go_wp2_with fail
  refine (rvalid_is n d _ _ hv1).mono ?_
  rintro e w1 ⟨rfl, hb1⟩
  have hk := k2_step (k2_new w n d u v) hb1; clear hb1
  obtain ⟨⟨c1, c2, c3, c4⟩, _, _⟩ := hk.out
  go_wp2_with fail
  refine (rvalid_is u v _ _ hv2).mono ?_
  rintro e w2 ⟨rfl, hb2⟩
  have hk := k2_step hk hb2; clear hb2 c1 c2 c3 c4
  have hkr : Hid (KR w (w.heap.size + 1 + 1) w2) := kr_k2 hk
  obtain ⟨⟨e1, e2, e3, e4⟩, _, _⟩ := hk.out
  clear hk
  go_wp2_with fail
  go_region_held3 (fun w' => w'.cell? ⟨w.heap.size, 0, none⟩ = some (.int .i64 n) ∧ w'.cell? ⟨w.heap.size, 1, none⟩ = some (.int .i64 d) ∧ w'.cell? ⟨w.heap.size + 1, 0, none⟩ = some (.int .i64 u) ∧ w'.cell? ⟨w.heap.size + 1, 1, none⟩ = some (.int .i64 v) ∧ Hid (KR w (w.heap.size + 1 + 1) w'))
    ((go_split_ands; (first | dsimp only | skip); refine ⟨?_, ?_, ?_, ?_, ?_⟩ <;> first | with_reducible assumption | (simp only [World.cell?_drew]; with_reducible assumption) | (with_reducible exact kc hbw ‹_›) | (with_reducible exact kr_drew ‹_›) | (with_reducible exact kr_step ‹_› hbw) | (with_reducible exact kr_set ‹_› _ _) | (go_simp; done)))
    (first | (go_at_call_of 45 n; refine (ofr_q n d _ hv1.out s hs).mono ?_; rintro e w' ⟨vs, rfl, hvs, hbw⟩) | (go_at_call_of 45 u; have hx := hvt; refine (ofr_q u v _ hv2.out t ht).mono ?_; rintro e w' ⟨vt2, rfl, hvt2, hbw⟩; have hvz := hvz.below hbw) | (go_at_call_of 45 u; refine (ofr_q u v _ hv2.out t ht).mono ?_; rintro e w' ⟨vt, rfl, hvt, hbw⟩; have hvs := hvs.below hbw) | (go_at_call 49; refine (quot_is s t p _ _ _ hvs hvt BS BT HT0 hp).mono ?_; rintro e w' ⟨vp, rfl, hvp, hbw⟩) | (go_at_call 89; refine (rounded_q p m _ _ hvp HM HP zq hzq).mono ?_; rintro e w' ⟨vz, rfl, hvz, hbw⟩) | (go_at_call 85; refine (prod_is zq t r _ _ _ hvz hvt2 BZ BT hr).mono ?_; rintro e w' ⟨vr, rfl, hvr, hbw⟩) | (go_at_call 76; go_split_ands; refine (answer_q r _ _ hvr x y e0 HAx HAy HAe).mono ?_; rintro e w' ⟨rfl, hbw⟩; have hkr := kr_step ‹_› hbw; obtain ⟨⟨⟨u0, g0⟩, ⟨u1, g1⟩⟩, ⟨g2, g3⟩, _⟩ := hkr.out))
  go_wp2_with fail
  refine bodyPost_ret (v := .tuple #[.agg #[.int .i64 x, .int .i64 y], .int .i64 e0]) (by simp [results, Try.results43, go_sem, g0, g1]) rfl ⟨rfl, ?_⟩
  exact bs (bs (kr_b hkr) (by simp only []; omega) _) (by simp only []; omega) _
/-- what RoundTo answers -/
def RT (n d u v m x y e0 : Int) : Prop := Tri (okR n d u v m) (M.nN (M.rnd (n * v) (d * u) m * u) v) (M.nD (M.rnd (n * v) (d * u) m * u) v) (M.nE (M.rnd (n * v) (d * u) m * u) v) x y e0
theorem okr_parts {n d u v m : Int} (h : okR n d u v m = true) : M.okB n d = true ∧ M.okB u v = true ∧ 0 < u ∧ modeB m = true := by
  unfold okR at h; simp only [Bool.and_eq_true, decide_eq_true_eq] at h; exact ⟨h.1.1, h.1.2, h.2.1, h.2.2⟩
theorem rt_ex (n d u v m : Int) : ∃ x y e0, Hid (RT n d u v m x y e0) := tri_ex _ _ _ _
theorem roundto_is (n d u v m x y e0 : Int) (w : World) (i : Hid (Ins n d u v)) (h : Hid (RT n d u v m x y e0)) :
    Calls Try.prog 42 #[.agg #[.int .i64 n, .int .i64 d], .agg #[.int .i64 u, .int .i64 v], .int .i64 m] w fun e w' => e = .returned (.tuple #[.agg #[.int .i64 x, .int .i64 y], .int .i64 e0]) ∧ Below w.heap.size w w' := by
  cases c : okR n d u v m
  · obtain ⟨rfl, rfl, rfl⟩ := tri_no h c
    exact roundto_no n d u v m w i.out.1.1 i.out.1.2 i.out.2.1 i.out.2.2 c
  · obtain ⟨e1, e2, e3⟩ := tri_yes h c
    obtain ⟨c1, c2, c3, c4⟩ := okr_parts c
    exact roundto_yes n d u v m _ x y e0 w c1 c2 c3 c4 (hide rfl) e1 e2 e3
theorem rroundto_is (n d u v m x y e0 : Int) (w : World) (h : Hid (RT n d u v m x y e0)) :
    Calls Try.prog 43 #[.agg #[.int .i64 n, .int .i64 d], .agg #[.int .i64 u, .int .i64 v], .int .i64 m] w fun e w' => e = .returned (.tuple #[.agg #[.int .i64 x, .int .i64 y], .int .i64 e0]) ∧ Below w.heap.size w w' := by
  cases c : okR n d u v m
  · obtain ⟨rfl, rfl, rfl⟩ := tri_no h c
    exact rroundto_no n d u v m w c
  · obtain ⟨e1, e2, e3⟩ := tri_yes h c
    obtain ⟨c1, c2, c3, c4⟩ := okr_parts c
    exact rroundto_yes n d u v m _ x y e0 w c1 c2 c3 c4 (hide rfl) e1 e2 e3
/-- what Round answers -/
def RO (n d m x z : Int) : Prop := if (M.okB n d && modeB m) = true then x = M.rnd n d m ∧ z = 0 else x = 0 ∧ z = 2
theorem ro_ex (n d m : Int) : ∃ x z, Hid (RO n d m x z) := by
  cases c : (M.okB n d && modeB m)
  · exact ⟨0, 2, hide (by unfold RO; rw [c]; exact ⟨rfl, rfl⟩)⟩
  · exact ⟨_, 0, hide (by unfold RO; rw [c]; exact ⟨rfl, rfl⟩)⟩
theorem ro_no {n d m x z : Int} (h : Hid (RO n d m x z)) (c : (M.okB n d && modeB m) = false) : x = 0 ∧ z = 2 := by
  have := h.out; unfold RO at this; rw [c] at this; simpa using this
theorem ro_yes {n d m x z : Int} (h : Hid (RO n d m x z)) (c : (M.okB n d && modeB m) = true) : Hid (x = M.rnd n d m) ∧ z = 0 := by
  have := h.out; unfold RO at this; rw [if_pos c] at this; exact ⟨hide this.1, this.2⟩
theorem round_is (n d m x z : Int) (w : World) (i : Hid (In64 n ∧ In64 d)) (h : Hid (RO n d m x z)) :
    Calls Try.prog 40 #[.agg #[.int .i64 n, .int .i64 d], .int .i64 m] w fun e w' => e = .returned (.tuple #[.int .i64 x, .int .i64 z]) ∧ Below w.heap.size w w' := by
  cases c : (M.okB n d && modeB m)
  · obtain ⟨rfl, rfl⟩ := ro_no h c
    exact round_no n d m w i.out.1 i.out.2 c
  · obtain ⟨e1, rfl⟩ := ro_yes h c
    obtain ⟨c1, c2⟩ := both_yes c
    exact round_yes n d m x w c1 c2 e1
theorem rround_is (n d m x z : Int) (w : World) (h : Hid (RO n d m x z)) :
    Calls Try.prog 41 #[.agg #[.int .i64 n, .int .i64 d], .int .i64 m] w fun e w' => e = .returned (.tuple #[.int .i64 x, .int .i64 z]) ∧ Below w.heap.size w w' := by
  cases c : (M.okB n d && modeB m)
  · obtain ⟨rfl, rfl⟩ := ro_no h c
    exact rround_no n d m w c
  · obtain ⟨e1, rfl⟩ := ro_yes h c
    obtain ⟨c1, c2⟩ := both_yes c
    exact rround_yes n d m x w c1 c2 e1
set_option maxRecDepth 20000 in
set_option maxHeartbeats 2000000 in
theorem law_rounds (n d u v m : Int) (w : World) (i1 : In64 n) (i2 : In64 d) (i3 : In64 u) (i4 : In64 v) (i5 : In64 m) : Calls Try.prog 7 #[.agg #[.int .i64 n, .int .i64 d], .agg #[.int .i64 u, .int .i64 v], .int .i64 m] w fun e w' => e = .returned (.bool true) ∧ Below w.heap.size w w' := by
  have G : Hid (Ins n d u v) := hide ⟨⟨i1, i2⟩, ⟨i3, i4⟩⟩
  have G1 : Hid (In64 n ∧ In64 d) := hide ⟨i1, i2⟩
  clear i1 i2 i3 i4 i5
  obtain ⟨x, z, HO⟩ := ro_ex n d m
  obtain ⟨x', y', z', HT⟩ := rt_ex n d u v m
  have HL := l2_start (w := w) (n := n) (d := d) (m := u) (q := v)
  go_enter Try.func7, Try.ntmps7
  go_wp2_with fail
  refine (round_is n d m x z _ G1 HO).mono ?_
  rintro e w1 ⟨rfl, hb⟩
  have HL1 := l2_step HL hb; clear hb HL
  obtain ⟨⟨r1, r2, r3, r4⟩, ⟨_, _⟩, _⟩ := HL1.out
  go_wp2_with fail
  refine (rround_is n d m x z _ HO).mono ?_
  rintro e w2 ⟨rfl, hb⟩
  have HL2 := l2_step HL1 hb; clear hb HL1 r1 r2 r3 r4
  obtain ⟨⟨r1, r2, r3, r4⟩, ⟨_, _⟩, _⟩ := HL2.out
  go_wp2_with fail
  refine (roundto_is n d u v m x' y' z' _ G HT).mono ?_
  rintro e w3 ⟨rfl, hb⟩
  have HL3 := l2_step HL2 (ba hb (Obj.cells #[.int .i64 x', .int .i64 y'] 23))
  have HL3' := l2_step HL2 hb
  have HA := fx_new w3 x' y'
  clear hb HL2 r1 r2 r3 r4
  obtain ⟨⟨r1, r2, r3, r4⟩, ⟨_, _⟩, _⟩ := HL3'.out
  go_wp2_with fail
  refine (rroundto_is n d u v m x' y' z' _ HT).mono ?_
  rintro e w4 ⟨rfl, hb⟩
  have HB := hide (bt HL3.out.2.2 hb)
  have HA2 := fx_step HA hb
  clear hb HL3 HL3' HA r1 r2 r3 r4
  obtain ⟨a1, a2, a3⟩ := HA2.out
  go_wp2_with fail
  refine (awake_any _).mono ?_
  rintro e w5 ⟨rfl, hb⟩
  have HB3 := hide (bt (ba HB.out _) hb); clear hb
  go_wp2_with fail
  go_ret
  exact ⟨rfl, HB3.out⟩
end Go.Proofs.Ytpgnbjlpkpmpcaa.R
