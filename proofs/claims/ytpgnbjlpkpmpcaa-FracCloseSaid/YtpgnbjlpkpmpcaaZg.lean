import Derived.Test.YtpgnbjlpkpmpcaaZf
namespace Go.Proofs.Ytpgnbjlpkpmpcaa.R
open Go.RowKit Go.Proofs.Ytpgnbjlpkpmpcaa.N
theorem fits_bd {n d : Int} (h1 : 1 ≤ d) (h2 : d ≤ 1000000000) (h3 : -1000000000 ≤ n) (h4 : n ≤ 1000000000) : M.fits (Rat.divInt n d) = true := by
  rw [fits_iff]
  have e1 := M.den_parts (n := n) (d := d) (by omega)
  have e2 := M.num_parts (n := n) (d := d) (by omega)
  have g1 := Nat.div_le_self n.natAbs (Nat.gcd n.natAbs d.natAbs)
  have g2 := Nat.div_le_self d.natAbs (Nat.gcd n.natAbs d.natAbs)
  generalize n.natAbs / Nat.gcd n.natAbs d.natAbs = z1 at *
  generalize d.natAbs / Nat.gcd n.natAbs d.natAbs = z2 at *
  rw [e1]
  split at e2 <;> omega
theorem valid_vals {n d : Int} (h1 : 1 ≤ d) (h2 : d ≤ 1000000000) (h3 : -1000000000 ≤ n) (h4 : n ≤ 1000000000) : (M.aN (Rat.divInt n d) = n ∧ M.aD (Rat.divInt n d) = d) ↔ M.okB n d = true := by
  constructor
  · intro ⟨a, b⟩
    have := (M.ans_fits (r := Rat.divInt n d) (by unfold M.aE; rw [if_pos (fits_bd h1 h2 h3 h4)])).1
    rwa [a, b] at this
  · intro h
    have := M.ans_ok h
    exact ⟨this.1, this.2.1⟩
set_option maxHeartbeats 1000000 in
theorem rvalid_yes (n d : Int) (w : World) (h : M.okB n d = true) : Calls Try.prog 21 #[.agg #[.int .i64 n, .int .i64 d]] w fun e w' => e = .returned (.bool true) ∧ Below w.heap.size w w' := by
  obtain ⟨a1, a2, a3, a4⟩ := okB_in h
  have HV := (valid_vals a3 a4 a1 a2).2 h
  have HX : Hid (n = M.aN (Rat.divInt n d)) := hide HV.1.symm
  have HY : Hid (d = M.aD (Rat.divInt n d)) := hide HV.2.symm
  have HF : Hid (true = M.fits (Rat.divInt n d)) := hide (fits_bd a3 a4 a1 a2).symm
  have HD : Hid (d ≠ 0) := hide (by omega)
  have HI : Hid (In64 n ∧ In64 d) := hide ⟨in64_of a1 a2, in64_of (by omega) a4⟩
  have b1 : decide (d < 1) = false := by simp; omega
  have b2 : decide (1000000000 < d) = false := by simp; omega
  have b3 : decide (n < -1000000000) = false := by simp; omega
  have b4 : decide (1000000000 < n) = false := by simp; omega
  clear HV h a1 a2 a3 a4
  go_enter Try.func21, Try.ntmps21
  go_wp2_with fail
  refine (of_q n d _ HI.out.1 HI.out.2 HD.out).mono ?_
  rintro e w1 ⟨v, rfl, hv, hb1⟩
  have HQ := hide hv; clear hv
  have HB1 := hide (bt (ba (Below.refl w.heap.size w) _) hb1)
  have c1 : w1.cell? ⟨w.heap.size, 0, none⟩ = some (.int .i64 n) := kc hb1 (by simp [go_sem])
  have c2 : w1.cell? ⟨w.heap.size, 1, none⟩ = some (.int .i64 d) := kc hb1 (by simp [go_sem])
  clear hb1
  go_wp2_with fail
  refine (frac_q _ _ _ HQ.out n d true HX HY HF).mono ?_
  rintro e w2 ⟨rfl, hb2⟩
  have HB2 := hide (bt HB1.out hb2)
  have c3 := kc hb2 c1
  have c4 := kc hb2 c2
  have z1 : w.heap.size < w2.heap.size := cell_lt c3
  clear hb2
  go_wp2_with fail
  go_ret
  exact ⟨rfl, ba HB2.out _⟩
set_option maxHeartbeats 1000000 in
theorem rvalid_near (n d : Int) (w : World) (h : M.okB n d = false) (a3 : 1 ≤ d) (a4 : d ≤ 1000000000) (a1 : -1000000000 ≤ n) (a2 : n ≤ 1000000000) : Calls Try.prog 21 #[.agg #[.int .i64 n, .int .i64 d]] w fun e w' => e = .returned (.bool false) ∧ Below w.heap.size w w' := by
  have HV := valid_vals a3 a4 a1 a2
  obtain ⟨x, HX⟩ : ∃ x, Hid (x = M.aN (Rat.divInt n d)) := ⟨_, rfl⟩
  obtain ⟨y, HY⟩ : ∃ y, Hid (y = M.aD (Rat.divInt n d)) := ⟨_, rfl⟩
  have hne : ¬ (x = n ∧ y = d) := by rw [HX.out, HY.out, HV, h]; simp
  have HF : Hid (true = M.fits (Rat.divInt n d)) := hide (fits_bd a3 a4 a1 a2).symm
  have HD : Hid (d ≠ 0) := hide (by omega)
  have HI : Hid (In64 n ∧ In64 d) := hide ⟨in64_of a1 a2, in64_of (by omega) a4⟩
  have b1 : decide (d < 1) = false := by simp; omega
  have b2 : decide (1000000000 < d) = false := by simp; omega
  have b3 : decide (n < -1000000000) = false := by simp; omega
  have b4 : decide (1000000000 < n) = false := by simp; omega
  clear HV h a1 a2 a3 a4
  by_cases hx : x = n
  · have hy : (y == d) = false := by rw [beq_eq_false_iff_ne]; exact fun c => hne ⟨hx, c⟩
    subst hx
    clear hne
    go_enter Try.func21, Try.ntmps21
    go_wp2_with fail
    refine (of_q x d _ HI.out.1 HI.out.2 HD.out).mono ?_
    rintro e w1 ⟨v, rfl, hv, hb1⟩
    have HQ := hide hv; clear hv
    have HB1 := hide (bt (ba (Below.refl w.heap.size w) _) hb1)
    have c1 : w1.cell? ⟨w.heap.size, 0, none⟩ = some (.int .i64 x) := kc hb1 (by simp [go_sem])
    have c2 : w1.cell? ⟨w.heap.size, 1, none⟩ = some (.int .i64 d) := kc hb1 (by simp [go_sem])
    clear hb1
    go_wp2_with fail
    refine (frac_q _ _ _ HQ.out x y true HX HY HF).mono ?_
    rintro e w2 ⟨rfl, hb2⟩
    have HB2 := hide (bt HB1.out hb2)
    have c3 := kc hb2 c1
    have c4 := kc hb2 c2
    have z1 : w.heap.size < w2.heap.size := cell_lt c3
    clear hb2
    go_wp2_with fail
    go_ret
    exact ⟨rfl, ba HB2.out _⟩
  · have hx' : (x == n) = false := by rw [beq_eq_false_iff_ne]; exact hx
    clear hne hx
    go_enter Try.func21, Try.ntmps21
    go_wp2_with fail
    refine (of_q n d _ HI.out.1 HI.out.2 HD.out).mono ?_
    rintro e w1 ⟨v, rfl, hv, hb1⟩
    have HQ := hide hv; clear hv
    have HB1 := hide (bt (ba (Below.refl w.heap.size w) _) hb1)
    have c1 : w1.cell? ⟨w.heap.size, 0, none⟩ = some (.int .i64 n) := kc hb1 (by simp [go_sem])
    have c2 : w1.cell? ⟨w.heap.size, 1, none⟩ = some (.int .i64 d) := kc hb1 (by simp [go_sem])
    clear hb1
    go_wp2_with fail
    refine (frac_q _ _ _ HQ.out x y true HX HY HF).mono ?_
    rintro e w2 ⟨rfl, hb2⟩
    have HB2 := hide (bt HB1.out hb2)
    have c3 := kc hb2 c1
    have c4 := kc hb2 c2
    have z1 : w.heap.size < w2.heap.size := cell_lt c3
    clear hb2
    go_wp2_with fail
    go_ret
    exact ⟨rfl, ba HB2.out _⟩
set_option maxHeartbeats 1000000 in
theorem rvalid_far (n d : Int) (w : World) (h : ¬ (1 ≤ d ∧ d ≤ 1000000000 ∧ -1000000000 ≤ n ∧ n ≤ 1000000000)) : Calls Try.prog 21 #[.agg #[.int .i64 n, .int .i64 d]] w fun e w' => e = .returned (.bool false) ∧ Below w.heap.size w w' := by
  by_cases c1 : d < 1
  · clear h
    go_enter Try.func21, Try.ntmps21
    go_wp2_with fail
    go_ret
    exact ⟨rfl, ba (Below.refl _ _) _⟩
  · have b1 : decide (d < 1) = false := by simpa using c1
    by_cases c2 : 1000000000 < d
    · clear h c1
      go_enter Try.func21, Try.ntmps21
      go_wp2_with fail
      go_ret
      exact ⟨rfl, ba (Below.refl _ _) _⟩
    · have b2 : decide (1000000000 < d) = false := by simpa using c2
      by_cases c3 : n < -1000000000
      · clear h c1 c2
        go_enter Try.func21, Try.ntmps21
        go_wp2_with fail
        go_ret
        exact ⟨rfl, ba (Below.refl _ _) _⟩
      · have b3 : decide (n < -1000000000) = false := by simpa using c3
        have c4 : 1000000000 < n := by omega
        clear h c1 c2 c3
        go_enter Try.func21, Try.ntmps21
        go_wp2_with fail
        go_ret
        exact ⟨rfl, ba (Below.refl _ _) _⟩
theorem rvalid_is (n d : Int) (v : Bool) (w : World) (hv : Hid (M.okB n d = v)) : Calls Try.prog 21 #[.agg #[.int .i64 n, .int .i64 d]] w fun e w' => e = .returned (.bool v) ∧ Below w.heap.size w w' := by
  rw [← hv.out]
  cases h : M.okB n d
  · by_cases hb : 1 ≤ d ∧ d ≤ 1000000000 ∧ -1000000000 ≤ n ∧ n ≤ 1000000000
    · exact rvalid_near n d w h hb.1 hb.2.1 hb.2.2.1 hb.2.2.2
    · exact rvalid_far n d w hb
  · exact rvalid_yes n d w h
set_option maxRecDepth 20000 in
set_option maxHeartbeats 2000000 in
theorem law_valid (n d : Int) (w : World) (hn : In64 n) (hd : In64 d) : Calls Try.prog 3 #[.agg #[.int .i64 n, .int .i64 d]] w fun e w' => e = .returned (.bool true) ∧ Below w.heap.size w w' := by
  have G := hide (And.intro hn hd); clear hn hd
  obtain ⟨v, hv⟩ : ∃ v, Hid (M.okB n d = v) := ⟨_, rfl⟩
  go_enter Try.func3, Try.ntmps3
  go_wp2_with fail
  obtain ⟨W, hW⟩ : ∃ W, W = w.alloc (Obj.cells #[Value.int IntKind.i64 n, Value.int IntKind.i64 d] 23) := ⟨_, rfl⟩
  have c1 : W.cell? ⟨w.heap.size, 0, none⟩ = some (.int .i64 n) := by rw [hW]; simp [go_sem]
  have c2 : W.cell? ⟨w.heap.size, 1, none⟩ = some (.int .i64 d) := by rw [hW]; simp [go_sem]
  have hB : Hid (Below w.heap.size w W) := by rw [hW]; exact hide (ba (Below.refl _ _) _)
  rw [← hW]
  clear hW
  go_region_held3 (fun w' => w'.cell? ⟨w.heap.size, 0, none⟩ = some (.int .i64 n) ∧ w'.cell? ⟨w.heap.size, 1, none⟩ = some (.int .i64 d) ∧ Hid (Below w.heap.size w w'))
    ((go_split_ands; (first | dsimp only | skip); refine ⟨?_, ?_, ?_⟩ <;> first | with_reducible assumption | (simp only [World.cell?_drew]; with_reducible assumption) | (with_reducible exact kc hbw ‹_›) | (with_reducible exact kbd ‹_›) | (with_reducible exact kb ‹_› hbw)))
    (first | (go_at_call 20; refine (valid_is n d v _ G.out.1 G.out.2 hv).mono ?_; rintro e w' ⟨rfl, hbw⟩) | (go_at_call 21; refine (rvalid_is n d v _ hv).mono ?_; rintro e w' ⟨rfl, hbw⟩) | (go_at_call 22; refine (awake_any _).mono ?_; rintro e w' ⟨rfl, hbw⟩))
  go_wp2_with fail
  go_ret
  go_split_ands
  exact ⟨rfl, Hid.out ‹_›⟩
end Go.Proofs.Ytpgnbjlpkpmpcaa.R
