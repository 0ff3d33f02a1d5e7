import Derived.Test.YtpgnbjlpkpmpcaaHb
set_option linter.unusedVariables false
namespace Go.Proofs.Ytpgnbjlpkpmpcaa.R
open Go.RowKit Go.Proofs.Ytpgnbjlpkpmpcaa.N
/-- what Blend answers where nothing is wrong with its arguments -/
def BlRel (ns ds ws : Nat → Int) (len : Nat) (x y z : Int) : Prop :=
  if (accB ns ds ws len).2.2 = 0 then DivAns (accB ns ds ws len).1 (accB ns ds ws len).2.1 (tot ws len) 1 x y z else (x, y, z) = (0, 0, (accB ns ds ws len).2.2)
theorem blrel_ex (ns ds ws : Nat → Int) (len : Nat) : ∃ x y z, Hid (BlRel ns ds ws len x y z) := by
  by_cases h : (accB ns ds ws len).2.2 = 0
  · obtain ⟨x, y, z, hd⟩ := div_ex (accB ns ds ws len).1 (accB ns ds ws len).2.1 (tot ws len) 1
    exact ⟨x, y, z, hide (by unfold BlRel; rw [if_pos h]; exact hd.out)⟩
  · exact ⟨0, 0, (accB ns ds ws len).2.2, hide (by unfold BlRel; rw [if_neg h])⟩
def BlRet (w : World) (x y z : Int) (e : Ending) (w' : World) : Prop := e = .returned (.tuple #[.agg #[.int .i64 x, .int .i64 y], .int .i64 z]) ∧ Below w.heap.size w w'
def BRel (w0 : World) (s7 : Nat) (ns ds ws : Nat → Int) (k : Nat) (wr : World) : Prop := (accB ns ds ws k).2.2 = 0 ∧ Su w0 wr s7 (accB ns ds ws k).1 (accB ns ds ws k).2.1
set_option maxRecDepth 20000 in
set_option maxHeartbeats 2000000 in
theorem blend_long1 (a a' : Option Addr) (l c l' c' : Nat) (w : World) (h : 64 < l) : Calls Try.prog 69 #[.slice a l c, .slice a' l' c'] w (BlRet w 0 0 3) := by
  have hl : (64 : Int) < (l : Int) := by omega
  clear h
  go_enter Try.func69, Try.ntmps69
  go_wp2_with fail
  refine bodyPost_ret (v := .tuple #[.agg #[.int .i64 0, .int .i64 0], .int .i64 3]) (by simp [results, Try.results69, go_sem]) rfl ⟨rfl, ba (Below.refl _ _) _⟩
set_option maxRecDepth 20000 in
set_option maxHeartbeats 2000000 in
theorem blend_long2 (a a' : Option Addr) (l c l' c' : Nat) (w : World) (h : l ≤ 64) (h' : 64 < l') : Calls Try.prog 69 #[.slice a l c, .slice a' l' c'] w (BlRet w 0 0 3) := by
  have hl : (l : Int) ≤ 64 := by omega
  have hl' : (64 : Int) < (l' : Int) := by omega
  clear h h'
  go_enter Try.func69, Try.ntmps69
  go_wp2_with fail
  refine bodyPost_ret (v := .tuple #[.agg #[.int .i64 0, .int .i64 0], .int .i64 3]) (by simp [results, Try.results69, go_sem]) rfl ⟨rfl, ba (Below.refl _ _) _⟩
set_option maxRecDepth 20000 in
set_option maxHeartbeats 2000000 in
theorem blend_lens (a a' : Option Addr) (l c l' c' : Nat) (w : World) (h : l ≤ 64) (h' : l' ≤ 64) (hne : l ≠ l') : Calls Try.prog 69 #[.slice a l c, .slice a' l' c'] w (BlRet w 0 0 2) := by
  have hl : (l : Int) ≤ 64 := by omega
  have hl' : (l' : Int) ≤ 64 := by omega
  have e1 : ((l : Int) == (l' : Int)) = false := by rw [beq_eq_false_iff_ne]; omega
  have e2 : ((l : Int) != (l' : Int)) = true := by rw [bne_iff_ne]; omega
  clear h h' hne
  go_enter Try.func69, Try.ntmps69
  go_wp2_with fail
  refine bodyPost_ret (v := .tuple #[.agg #[.int .i64 0, .int .i64 0], .int .i64 2]) (by simp [results, Try.results69, go_sem]) rfl ⟨rfl, ba (Below.refl _ _) _⟩
set_option maxRecDepth 20000 in
set_option maxHeartbeats 2000000 in
theorem blend_bad (a a' : Option Addr) (l c c' : Nat) (ns ds : Nat → Int) (w : World) (h : l ≤ 64) (HF : Hid (FrSl w a l ns ds)) (ha : Hid (allOk ns ds l = false)) : Calls Try.prog 69 #[.slice a l c, .slice a' l c'] w (BlRet w 0 0 2) := by
  have hl : (l : Int) ≤ 64 := by omega
  have hr := r2_start w
  go_enter Try.func69, Try.ntmps69
  go_wp2_with fail
  refine (allv_sl a l c ns ds false _ h (hide (frsl_below HF.out (ba (Below.refl _ _) _))) ha).mono ?_
  rintro en w1 ⟨rfl, hb⟩
  have hr1 := r2_step hr hb
  clear hb hr
  obtain ⟨⟨⟨u0, g0⟩, ⟨u1, g1⟩⟩, ⟨g2, g3⟩, _⟩ := hr1.out
  go_wp2_with fail
  refine bodyPost_ret (v := .tuple #[.agg #[.int .i64 0, .int .i64 0], .int .i64 2]) (by simp [results, Try.results69, go_sem, g0, g1]) rfl ⟨rfl, ?_⟩
  exact bs (bs hr1.out.2.2.2 (Nat.le_refl _) _) (Nat.le_refl _) _
set_option maxRecDepth 20000 in
set_option maxHeartbeats 2000000 in
theorem blend_range (a a' : Option Addr) (l c c' : Nat) (ns ds ws : Nat → Int) (w : World) (h : l ≤ 64) (HF : Hid (FrSl w a l ns ds)) (ha : Hid (allOk ns ds l = true)) (HW : Hid (InSl w a' l ws)) (hg : Hid (rngB 1000000 ws l = false)) : Calls Try.prog 69 #[.slice a l c, .slice a' l c'] w (BlRet w 0 0 2) := by
  have hl : (l : Int) ≤ 64 := by omega
  have hr := r2_start w
  go_enter Try.func69, Try.ntmps69
  go_wp2_with fail
  refine (allv_sl a l c ns ds true _ h (hide (frsl_below HF.out (ba (Below.refl _ _) _))) ha).mono ?_
  rintro en w1 ⟨rfl, hb⟩
  have hr1 := r2_step hr hb
  clear hb hr
  obtain ⟨⟨⟨u0, g0⟩, ⟨u1, g1⟩⟩, ⟨g2, g3⟩, _⟩ := hr1.out
  go_wp2_with fail
  refine (from0_sl 1000000 a' l c' ws false _ (by decide) h (hide (insl_below HW.out hr1.out.2.2.2)) hg).mono ?_
  rintro en w2 ⟨rfl, rfl⟩
  go_wp2_with fail
  refine bodyPost_ret (v := .tuple #[.agg #[.int .i64 0, .int .i64 0], .int .i64 2]) (by simp [results, Try.results69, go_sem, g0, g1]) rfl ⟨rfl, ?_⟩
  exact bs (bs hr1.out.2.2.2 (Nat.le_refl _) _) (Nat.le_refl _) _
set_option maxRecDepth 20000 in
set_option maxHeartbeats 2000000 in
theorem blend_zero (a a' : Option Addr) (l c c' : Nat) (ns ds ws : Nat → Int) (w : World) (h : l ≤ 64) (HF : Hid (FrSl w a l ns ds)) (ha : Hid (allOk ns ds l = true)) (HW : Hid (InSl w a' l ws)) (hg : Hid (rngB 1000000 ws l = true)) (ht : Hid (0 = tot ws l)) : Calls Try.prog 69 #[.slice a l c, .slice a' l c'] w (BlRet w 0 0 4) := by
  have hl : (l : Int) ≤ 64 := by omega
  have hr := r2_start w
  go_enter Try.func69, Try.ntmps69
  go_wp2_with fail
  refine (allv_sl a l c ns ds true _ h (hide (frsl_below HF.out (ba (Below.refl _ _) _))) ha).mono ?_
  rintro en w1 ⟨rfl, hb⟩
  have hr1 := r2_step hr hb
  clear hb hr
  obtain ⟨⟨⟨u0, g0⟩, ⟨u1, g1⟩⟩, ⟨g2, g3⟩, _⟩ := hr1.out
  go_wp2_with fail
  refine (from0_sl 1000000 a' l c' ws true _ (by decide) h (hide (insl_below HW.out hr1.out.2.2.2)) hg).mono ?_
  rintro en w2 ⟨rfl, rfl⟩
  go_wp2_with fail
  refine (sum_sl 1000000 a' l c' ws 0 _ (by decide) (by decide) h (hide (insl_below HW.out hr1.out.2.2.2)) hg ht).mono ?_
  rintro en w2 ⟨rfl, rfl⟩
  go_wp2_with fail
  refine bodyPost_ret (v := .tuple #[.agg #[.int .i64 0, .int .i64 0], .int .i64 4]) (by simp [results, Try.results69, go_sem, g0, g1]) rfl ⟨rfl, ?_⟩
  exact bs (bs hr1.out.2.2.2 (Nat.le_refl _) _) (Nat.le_refl _) _
end Go.Proofs.Ytpgnbjlpkpmpcaa.R
set_option linter.unusedVariables false
namespace Go.Proofs.Ytpgnbjlpkpmpcaa.R
open Go.RowKit Go.Proofs.Ytpgnbjlpkpmpcaa.N
theorem su_drew {w0 w : World} {s4 : Nat} {x y : Int} (h : Hid (Su w0 w s4 x y)) : Hid (Su w0 w.drew s4 x y) := by
  obtain ⟨⟨⟨⟨u0, q0⟩, ⟨u1, q1⟩⟩, ⟨g2, g3⟩, hs, b⟩, ⟨c1, c2⟩, ⟨f1, f2⟩, z⟩ := h.out
  exact hide ⟨⟨⟨⟨u0, q0⟩, ⟨u1, q1⟩⟩, ⟨g2, g3⟩, hs, b.drew⟩, ⟨c1, c2⟩, ⟨f1, f2⟩, z⟩
set_option maxRecDepth 20000 in
set_option maxHeartbeats 8000000 in
theorem blend_yes (a a' : Option Addr) (len c c' : Nat) (ns ds ws : Nat → Int) (w : World) (h : len ≤ 64) (HF : Hid (FrSl w a len ns ds)) (ha : Hid (allOk ns ds len = true)) (HW : Hid (InSl w a' len ws)) (hg : Hid (rngB 1000000 ws len = true)) (t : Int) (ht : Hid (t = tot ws len)) (ht0 : t ≠ 0)
    (x y z : Int) (hx : Hid (BlRel ns ds ws len x y z)) : Calls Try.prog 69 #[.slice a len c, .slice a' len c'] w (BlRet w x y z) := by
  have hl : (len : Int) ≤ 64 := by omega
  have htb : (t == 0) = false := by simpa using ht0
  have htb2 : (t != 0) = true := by simpa using ht0
  have hr := r2_start w
  clear ht0
  go_enter Try.func69, Try.ntmps69
  go_wp2_with fail
  refine (allv_sl a len c ns ds true _ h (hide (frsl_below HF.out (ba (Below.refl _ _) _))) ha).mono ?_
  rintro en w1 ⟨rfl, hb⟩
  have hr1 := r2_step hr hb
  clear hb hr
  obtain ⟨⟨⟨u0, g0⟩, ⟨u1, g1⟩⟩, ⟨g2, g3⟩, _⟩ := hr1.out
  go_wp2_with fail
  refine (from0_sl 1000000 a' len c' ws true _ (by decide) h (hide (insl_below HW.out hr1.out.2.2.2)) hg).mono ?_
  rintro en w2 ⟨rfl, rfl⟩
  go_wp2_with fail
  refine (sum_sl 1000000 a' len c' ws t _ (by decide) (by decide) h (hide (insl_below HW.out hr1.out.2.2.2)) hg ht).mono ?_
  rintro en w2 ⟨rfl, rfl⟩
  have hsu := su_new hr1 0 1
  clear g0 g1 g2 g3
  go_wp2_with fail
  obtain ⟨s7, hs7⟩ : ∃ s7, s7 = w1.heap.size := ⟨_, rfl⟩
  rw [← hs7] at hsu ⊢
  clear hs7
  go_loopw [44] (fun i wr => ∃ k : Nat, k ≤ len ∧ i = .int .i64 k ∧ BRel w s7 ns ds ws k wr) (fun i _ => len - (intOf i).toNat)
  case atStart => exact ⟨0, by omega, rfl, rfl, hsu.out⟩
  case round =>
    obtain ⟨k, hk, rfl, h0, hS⟩ := hrel
    have HS := hide hS
    have H0 := hide h0
    clear hS h0
    by_cases hlt : k < len
    · obtain ⟨b, off, rfl, hcc⟩ := HF.out.resolve_left (by omega)
      obtain ⟨b', off', rfl, hcw, hiw⟩ := HW.out.resolve_left (by omega)
      obtain ⟨c1, c2⟩ := (hcc.1 k hlt).below HS.out.1.2.2.2
      have c3 := kc HS.out.1.2.2.2 (hcw k hlt)
      have HW64 : Hid (In64 (ws k)) := hide (hiw k hlt)
      have HC2 : Hid (In64 (ns k) ∧ In64 (ds k)) := hide (hcc.2 k hlt)
      clear hcw hiw hcc
      obtain ⟨X, hX⟩ : ∃ X, Hid (X = (accB ns ds ws k).1) := ⟨_, rfl⟩
      obtain ⟨Y, hY⟩ : ∃ Y, Hid (Y = (accB ns ds ws k).2.1) := ⟨_, rfl⟩
      have HOK : Hid (M.okB X Y = true) := hide (by rw [hX.out, hY.out]; exact accB_ok ns ds ws k H0.out)
      rw [← hX.out, ← hY.out] at HS
      have HI : Hid (Ins X Y (ns k) (ds k)) := hide ⟨okB_bd HOK.out, HC2.out⟩
      obtain ⟨x', hx'⟩ : ∃ v, Hid (v = (atT X Y (ns k) (ds k) (ws k)).1) := ⟨_, rfl⟩
      obtain ⟨y', hy'⟩ : ∃ v, Hid (v = (atT X Y (ns k) (ds k) (ws k)).2.1) := ⟨_, rfl⟩
      obtain ⟨z', hz'⟩ : ∃ v, Hid (v = (atT X Y (ns k) (ds k) (ws k)).2.2) := ⟨_, rfl⟩
      have HAN : Hid ((x', y', z') = atT X Y (ns k) (ds k) (ws k)) := hide (by rw [hx'.out, hy'.out, hz'.out])
      have HAC : Hid (accB ns ds ws (k + 1) = (x', y', z')) := hide (by rw [accB_succ, if_pos H0.out, ← hX.out, ← hY.out, hx'.out, hy'.out, hz'.out])
      have hs1 := su_step HS (ba (Below.refl _ _) (.cells #[.int .i64 (ns k), .int .i64 (ds k)] 23))
      obtain ⟨_, ⟨p1, p2⟩, _, _⟩ := HS.out
      have z1 := cell_lt p1
      have z3 := cell_lt c3
      have hk0 : (0 : Int) ≤ (k : Int) := by omega
      have hk1 : (k : Int) < (len : Int) := by omega
      have hs1d := su_drew hs1
      by_cases hz0 : z' = 0
      · subst hz0
        go_wp2_with fail
        go_region_with (go_at_call 110; (with_reducible refine (addTimes_is X Y (ns k) (ds k) (ws k) x' y' 0 _ HI HW64 HAN).mono ?_); rintro en w2 ⟨rfl, hb⟩; have hs2 := su_step hs1d hb; obtain ⟨⟨⟨⟨u0, g0⟩, ⟨u1, g1⟩⟩, ⟨g2, g3⟩, _, _⟩, ⟨q1, q2⟩, ⟨f1, f2⟩, hz⟩ := hs2.out)
        all_goals have hs3 := su_set hs2 x' y'
        all_goals go_wp2_with fail
        all_goals go_roundw
        all_goals first
          | (case rel => exact ⟨k + 1, by omega, by go_num, by rw [HAC.out], by rw [HAC.out]; exact hs3.out⟩)
          | (case measure => simp [intOf]; omega)
      · have hzb : (z' == 0) = false := by simpa using hz0
        have hzb2 : (z' != 0) = true := by simpa using hz0
        have HE : Hid ((x, y, z) = (0, 0, z')) := hide (by
          have h1 : (accB ns ds ws (k + 1)).2.2 ≠ 0 := by rw [HAC.out]; exact hz0
          have h2 := accB_stays ns ds ws (k + 1) (len - (k + 1)) h1
          rw [show k + 1 + (len - (k + 1)) = len by omega] at h2
          have h3 := hx.out
          unfold BlRel at h3
          rw [h2, if_neg h1, HAC.out] at h3
          exact h3)
        have hne1 : w.heap.size ≠ s7 := by omega
        have hne2 : s7 ≠ w.heap.size := by omega
        clear hz0
        go_wp2_with fail
        go_region_with (go_at_call 110; (with_reducible refine (addTimes_is X Y (ns k) (ds k) (ws k) x' y' z' _ HI HW64 HAN).mono ?_); rintro en w2 ⟨rfl, hb⟩; have hs2 := su_step hs1d hb; obtain ⟨⟨⟨⟨u0, g0⟩, ⟨u1, g1⟩⟩, ⟨g2, g3⟩, _, _⟩, ⟨q1, q2⟩, ⟨f1, f2⟩, hz⟩ := hs2.out)
        all_goals go_wp2_with fail
        all_goals have e3 := HE.out
        all_goals simp only [Prod.mk.injEq] at e3
        all_goals obtain ⟨rfl, rfl, rfl⟩ := e3
        all_goals refine bodyPost_ret (v := .tuple #[.agg #[.int .i64 0, .int .i64 0], .int .i64 z]) (by simp [results, Try.results69, go_sem, *]) rfl ⟨rfl, ?_⟩
        all_goals exact bs (bs (su_set hs2 x' y').out.1.2.2.2 (Nat.le_refl _) _) (Nat.le_refl _) _
    · have hkl : k = len := by omega
      subst hkl
      obtain ⟨X, hX⟩ : ∃ X, Hid (X = (accB ns ds ws k).1) := ⟨_, rfl⟩
      obtain ⟨Y, hY⟩ : ∃ Y, Hid (Y = (accB ns ds ws k).2.1) := ⟨_, rfl⟩
      have HOK : Hid (M.okB X Y = true) := hide (by rw [hX.out, hY.out]; exact accB_ok ns ds ws k H0.out)
      have HD : Hid (DivAns X Y t 1 x y z) := hide (by
        have h3 := hx.out
        unfold BlRel at h3
        rw [if_pos H0.out, ← hX.out, ← hY.out, ← ht.out] at h3
        exact h3)
      have HTB : In64 t := by
        have h1 := tot_bd (by decide) hg.out k (Nat.le_refl _)
        rw [← ht.out] at h1
        exact ⟨by omega, by omega⟩
      have HI : Hid (Ins X Y t 1) := hide ⟨okB_bd HOK.out, HTB, ⟨by omega, by omega⟩⟩
      rw [← hX.out, ← hY.out] at HS
      obtain ⟨⟨⟨⟨u0, g0⟩, ⟨u1, g1⟩⟩, ⟨g2, g3⟩, _, _⟩, ⟨p1, p2⟩, ⟨f1, f2⟩, hz⟩ := HS.out
      go_wp2_with fail
      with_reducible refine (div_is X Y t 1 x y z _ HI HD).mono ?_
      rintro en w2 ⟨rfl, hb⟩
      have hs2 := su_step HS hb
      clear hb g0 g1 g2 g3 p1 p2 f1 f2
      obtain ⟨⟨⟨⟨u0, g0⟩, ⟨u1, g1⟩⟩, ⟨g2, g3⟩, _, _⟩, ⟨p1, p2⟩, ⟨f1, f2⟩, hz⟩ := hs2.out
      go_wp2_with fail
      refine bodyPost_ret (v := .tuple #[.agg #[.int .i64 x, .int .i64 y], .int .i64 z]) (by simp [results, Try.results69, go_sem, *]) rfl ⟨rfl, ?_⟩
      exact bs (bs hs2.out.1.2.2.2 (Nat.le_refl _) _) (Nat.le_refl _) _
end Go.Proofs.Ytpgnbjlpkpmpcaa.R
