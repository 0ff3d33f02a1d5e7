import Derived.Test.YtpgnbjlpkpmpcaaGa
set_option linter.unusedVariables false
namespace Go.Proofs.Ytpgnbjlpkpmpcaa.R
open Go.RowKit Go.Proofs.Ytpgnbjlpkpmpcaa.N
set_option maxHeartbeats 400000 in
theorem rall_any (b off len cap : Nat) (ns ds : Nat → Int) (w : World) (hl : len ≤ 140737488351232)
   (hf : ∀ i, i < len → FrAt w b (off + i * 2) (ns i) (ds i)) :
    Calls Try.prog 107 #[.slice (some ⟨b, off, none⟩) len cap] w fun e w' => e = .returned (.bool (allOk ns ds len)) ∧ Below w.heap.size w w' := by
  have HF := hide hf; clear hf
  go_enter Try.func107, Try.ntmps107
  go_wp2
  go_loopw [7] (fun i wr => ∃ k : Nat, k ≤ len ∧ i = .int .i64 k ∧ Below w.heap.size w wr ∧ Hid (allOk ns ds k = true)) (fun i _ => len - (intOf i).toNat)
  case atStart => exact ⟨0, by omega, rfl, Below.refl _ _, rfl⟩
  case round =>
    obtain ⟨k, hk, rfl, hb, ha⟩ := hrel
    by_cases hlt : k < len
    · obtain ⟨c1, c2⟩ := (HF.out k hlt).below hb
      have HB := hide hb; clear hb
      cases hv : M.okB (ns k) (ds k)
      · have HV := hide hv; clear hv
        go_wp2_with (go_at_call 21; refine (rvalid_is _ _ false _ HV).mono ?_; rintro e w' ⟨rfl, hbw⟩)
        go_ret
        exact ⟨ret_bool (allOk_false hlt HV.out).symm, bt (ba HB.out _) hbw⟩
      · have HV := hide hv; clear hv
        go_wp2_with (go_at_call 21; refine (rvalid_is _ _ true _ HV).mono ?_; rintro e w' ⟨rfl, hbw⟩)
        go_roundw
        case rel => exact ⟨k + 1, by omega, by go_num, bt (ba HB.out _) hbw, hide (by rw [allOk_succ, ha.out, HV.out]; rfl)⟩
        case measure => simp [intOf]; omega
    · go_wp2
      go_ret
      exact ⟨ret_bool (by rw [show len = k by omega]; exact ha.out.symm), hb⟩
set_option maxRecDepth 20000 in
set_option maxHeartbeats 2000000 in
theorem rsum_long (b off len cap : Nat) (w : World) (h : 64 < len) :
    Calls Try.prog 68 #[.slice (some ⟨b, off, none⟩) len cap] w fun e w' => e = .returned (.tuple #[.agg #[.int .i64 0, .int .i64 0], .int .i64 3]) ∧ Below w.heap.size w w' := by
  have hl : (64 : Int) < (len : Int) := by omega
  have hr := r2_start w
  clear h
  go_enter Try.func68, Try.ntmps68
  go_wp2_with fail
  refine bodyPost_ret (v := .tuple #[.agg #[.int .i64 0, .int .i64 0], .int .i64 3]) (by simp [results, Try.results68, go_sem]) rfl ⟨rfl, ba (Below.refl _ _) _⟩
set_option maxRecDepth 20000 in
set_option maxHeartbeats 2000000 in
theorem rsum_bad (b off len cap : Nat) (ns ds : Nat → Int) (w : World) (h : len ≤ 64) (HC : Hid (Cells w b off len ns ds)) (ha : Hid (allOk ns ds len = false)) :
    Calls Try.prog 68 #[.slice (some ⟨b, off, none⟩) len cap] w fun e w' => e = .returned (.tuple #[.agg #[.int .i64 0, .int .i64 0], .int .i64 2]) ∧ Below w.heap.size w w' := by
  have hl : (len : Int) ≤ 64 := by omega
  have hr := r2_start w
  go_enter Try.func68, Try.ntmps68
  go_wp2_with fail
  refine (rall_any b off len cap ns ds _ (by omega) (fun i hi => (HC.out.1 i hi).below (ba (Below.refl _ _) _))).mono ?_
  rintro en w1 ⟨rfl, hb⟩
  rw [ha.out]
  have hr1 := r2_step hr hb
  clear hb hr
  obtain ⟨⟨⟨u0, g0⟩, ⟨u1, g1⟩⟩, ⟨g2, g3⟩, _⟩ := hr1.out
  go_wp2_with fail
  refine bodyPost_ret (v := .tuple #[.agg #[.int .i64 0, .int .i64 0], .int .i64 2]) (by simp [results, Try.results68, go_sem, g0, g1]) rfl ⟨rfl, ?_⟩
  exact bs (bs hr1.out.2.2.2 (Nat.le_refl _) _) (Nat.le_refl _) _
set_option maxRecDepth 20000 in
set_option maxHeartbeats 4000000 in
theorem rsum_yes (b off len cap : Nat) (ns ds : Nat → Int) (w : World) (h : len ≤ 64) (HC : Hid (Cells w b off len ns ds)) (ha : Hid (allOk ns ds len = true)) (x y z : Int) (hx : Hid ((x, y, z) = acc ns ds len)) :
    Calls Try.prog 68 #[.slice (some ⟨b, off, none⟩) len cap] w fun e w' => e = .returned (.tuple #[.agg #[.int .i64 x, .int .i64 y], .int .i64 z]) ∧ Below w.heap.size w w' := by
  have hl : (len : Int) ≤ 64 := by omega
  have hr := r2_start w
  go_enter Try.func68, Try.ntmps68
  go_wp2_with fail
  refine (rall_any b off len cap ns ds _ (by omega) (fun i hi => (HC.out.1 i hi).below (ba (Below.refl _ _) _))).mono ?_
  rintro en w1 ⟨rfl, hb⟩
  rw [ha.out]
  have hr1 := r2_step hr hb
  clear hb hr
  have hsu := su_new hr1 0 1
  go_wp2_with fail
  obtain ⟨s4, hs4⟩ : ∃ s4, s4 = w1.heap.size := ⟨_, rfl⟩
  rw [← hs4] at hsu ⊢
  clear hs4
  go_loopw [20] (fun i wr => ∃ k : Nat, k ≤ len ∧ i = .int .i64 k ∧ SumRel w s4 ns ds k wr) (fun i _ => len - (intOf i).toNat)
  case atStart => exact ⟨0, by omega, rfl, rfl, hsu.out⟩
  case round =>
    obtain ⟨k, hk, rfl, h0, hS⟩ := hrel
    have HS := hide hS
    have H0 := hide h0
    clear hS h0
    by_cases hlt : k < len
    · obtain ⟨c1, c2⟩ := (HC.out.1 k hlt).below HS.out.1.2.2.2
      obtain ⟨X, hX⟩ : ∃ X, Hid (X = (acc ns ds k).1) := ⟨_, rfl⟩
      obtain ⟨Y, hY⟩ : ∃ Y, Hid (Y = (acc ns ds k).2.1) := ⟨_, rfl⟩
      have HOK : Hid (M.okB X Y = true) := hide (by rw [hX.out, hY.out]; exact acc_ok ns ds k H0.out)
      rw [← hX.out, ← hY.out] at HS
      have HI : Hid (Ins X Y (ns k) (ds k)) := hide ⟨okB_bd HOK.out, HC.out.2 k hlt⟩
      obtain ⟨x', hx'⟩ : ∃ v, Hid (v = (addT X Y (ns k) (ds k)).1) := ⟨_, rfl⟩
      obtain ⟨y', hy'⟩ : ∃ v, Hid (v = (addT X Y (ns k) (ds k)).2.1) := ⟨_, rfl⟩
      obtain ⟨z', hz'⟩ : ∃ v, Hid (v = (addT X Y (ns k) (ds k)).2.2) := ⟨_, rfl⟩
      have HAN : Hid (Ans X Y (ns k) (ds k) (Rat.divInt X Y + Rat.divInt (ns k) (ds k)) x' y' z') := hide (by rw [hx'.out, hy'.out, hz'.out]; exact addT_ans X Y (ns k) (ds k))
      have HAC : Hid (acc ns ds (k + 1) = (x', y', z')) := hide (by rw [acc_succ, if_pos H0.out, ← hX.out, ← hY.out, hx'.out, hy'.out, hz'.out])
      have hs1 := su_step HS (ba (Below.refl _ _) (.cells #[.int .i64 (ns k), .int .i64 (ds k)] 23))
      obtain ⟨_, ⟨p1, p2⟩, _, _⟩ := HS.out
      have z1 := cell_lt p1
      go_wp2_with fail
      with_reducible refine (radd_is X Y (ns k) (ds k) x' y' z' _ HAN).mono ?_
      rintro en w2 ⟨rfl, hb⟩
      have hs2' := su_step hs1 hb
      have hs2 := su_step hs2' (ba (Below.refl _ _) (.cells #[.int .i64 x', .int .i64 y'] 23))
      have hB2 := hide (ba hs2'.out.1.2.2.2 (.cells #[.int .i64 x', .int .i64 y'] 23))
      clear hb hs1 p1 p2 c1 c2 z1
      obtain ⟨⟨⟨⟨u0, g0⟩, ⟨u1, g1⟩⟩, ⟨g2, g3⟩, _, _⟩, ⟨p1, p2⟩, ⟨f1, f2⟩, hz⟩ := hs2'.out
      have zz1 := cell_lt g0
      have zz2 := cell_lt p1
      by_cases hz0 : z' = 0
      · subst hz0
        have hs3 := su_step (su_set hs2' x' y') (ba (Below.refl _ _) (.cells #[.int .i64 x', .int .i64 y'] 23))
        go_wp2_with fail
        go_roundw
        case rel => exact ⟨k + 1, by omega, by go_num, by rw [HAC.out], by rw [HAC.out]; exact hs3.out⟩
        case measure => simp [intOf]; omega
      · have hzb : (z' == 0) = false := by simpa using hz0
        have hzb2 : (z' != 0) = true := by simpa using hz0
        have HE : Hid ((x, y, z) = (0, 0, z')) := hide (by
          rw [hx.out]
          have h1 : (acc ns ds (k + 1)).2.2 ≠ 0 := by rw [HAC.out]; exact hz0
          have h2 := acc_stays ns ds (k + 1) (len - (k + 1)) h1
          rw [show k + 1 + (len - (k + 1)) = len by omega] at h2
          obtain ⟨e1, e2⟩ := acc_zero ns ds (k + 1) h1
          rw [HAC.out] at e1 e2 h2
          rw [h2]; simp only at e1 e2; rw [e1, e2])
        have hne1 : w.heap.size ≠ s4 := by omega
        have hne2 : s4 ≠ w.heap.size := by omega
        clear hz0
        go_wp2_with fail
        have e3 := HE.out
        simp only [Prod.mk.injEq] at e3
        obtain ⟨rfl, rfl, rfl⟩ := e3
        refine bodyPost_ret (v := .tuple #[.agg #[.int .i64 0, .int .i64 0], .int .i64 z]) (by simp [results, Try.results68, go_sem, *]) rfl ⟨rfl, ?_⟩
        exact ba (bs (bs hs2'.out.1.2.2.2 (Nat.le_refl _) _) (Nat.le_refl _) _) _
    · have hkl : k = len := by omega
      subst hkl
      have HE : Hid (x = (acc ns ds k).1 ∧ y = (acc ns ds k).2.1 ∧ z = 0) := hide (by
        have := hx.out
        rw [← this] at H0 ⊢
        exact ⟨rfl, rfl, H0.out⟩)
      rw [← HE.out.1, ← HE.out.2.1] at HS
      obtain ⟨⟨⟨⟨u0, g0⟩, ⟨u1, g1⟩⟩, ⟨g2, g3⟩, _, _⟩, ⟨p1, p2⟩, ⟨f1, f2⟩, hz⟩ := HS.out
      go_wp2_with fail
      refine bodyPost_ret (v := .tuple #[.agg #[.int .i64 x, .int .i64 y], .int .i64 0]) (by simp [results, Try.results68, go_sem, *]) rfl ⟨by rw [HE.out.2.2], ?_⟩
      exact bs (bs HS.out.1.2.2.2 (Nat.le_refl _) _) (Nat.le_refl _) _
end Go.Proofs.Ytpgnbjlpkpmpcaa.R
