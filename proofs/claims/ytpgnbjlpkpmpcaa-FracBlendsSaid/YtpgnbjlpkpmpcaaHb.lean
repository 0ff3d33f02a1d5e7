import Derived.Test.YtpgnbjlpkpmpcaaHe
set_option linter.unusedVariables false
namespace Go.Proofs.Ytpgnbjlpkpmpcaa.R
open Go.RowKit Go.Proofs.Ytpgnbjlpkpmpcaa.N
/-- a product's fraction and error -/
def mulT (x y n d : Int) : Int × Int × Int := if (M.okB x y && M.okB n d) = true then (M.aN (Rat.divInt x y * Rat.divInt n d), M.aD (Rat.divInt x y * Rat.divInt n d), M.aE (Rat.divInt x y * Rat.divInt n d)) else (0, 0, 2)
theorem mulT_ans (x y n d : Int) : Ans x y n d (Rat.divInt x y * Rat.divInt n d) (mulT x y n d).1 (mulT x y n d).2.1 (mulT x y n d).2.2 := by
  unfold Ans Tri mulT
  split <;> exact ⟨rfl, rfl, rfl⟩
theorem mulT_ok {x y n d : Int} (h : (mulT x y n d).2.2 = 0) : M.okB (mulT x y n d).1 (mulT x y n d).2.1 = true := by
  unfold mulT at *
  split at h
  · rename_i c
    rw [if_pos c]
    exact (M.ans_fits h).1
  · exact absurd h (by decide)
/-- t + f * m -/
def atT (x y n d m : Int) : Int × Int × Int := if (mulT n d m 1).2.2 = 0 then addT x y (mulT n d m 1).1 (mulT n d m 1).2.1 else (0, 0, (mulT n d m 1).2.2)
theorem atT_zero {x y n d m : Int} (h : (atT x y n d m).2.2 ≠ 0) : (atT x y n d m).1 = 0 ∧ (atT x y n d m).2.1 = 0 := by
  unfold atT at *
  split at h
  · rename_i c; rw [if_pos c]; exact addT_zero h
  · rename_i c; rw [if_neg c]; exact ⟨rfl, rfl⟩
theorem atT_ok {x y n d m : Int} (h : (atT x y n d m).2.2 = 0) : M.okB (atT x y n d m).1 (atT x y n d m).2.1 = true := by
  unfold atT at *
  split at h
  · rename_i c; rw [if_pos c]; exact addT_ok h
  · rename_i c; exact absurd h c
/-- the weighted sum of the first k, with the first error -/
def accB (ns ds ws : Nat → Int) : Nat → Int × Int × Int
  | 0 => (0, 1, 0)
  | k + 1 => if (accB ns ds ws k).2.2 = 0 then atT (accB ns ds ws k).1 (accB ns ds ws k).2.1 (ns k) (ds k) (ws k) else accB ns ds ws k
theorem accB_succ (ns ds ws : Nat → Int) (k : Nat) : accB ns ds ws (k + 1) = if (accB ns ds ws k).2.2 = 0 then atT (accB ns ds ws k).1 (accB ns ds ws k).2.1 (ns k) (ds k) (ws k) else accB ns ds ws k := rfl
theorem accB_ok (ns ds ws : Nat → Int) (k : Nat) (h : (accB ns ds ws k).2.2 = 0) : M.okB (accB ns ds ws k).1 (accB ns ds ws k).2.1 = true := by
  cases k with
  | zero => show M.okB 0 1 = true; decide
  | succ k =>
    rw [accB_succ] at *
    by_cases c : (accB ns ds ws k).2.2 = 0
    · rw [if_pos c] at *; exact atT_ok h
    · rw [if_neg c] at h; exact absurd h c
theorem accB_stays (ns ds ws : Nat → Int) (k m : Nat) (h : (accB ns ds ws k).2.2 ≠ 0) : accB ns ds ws (k + m) = accB ns ds ws k := by
  induction m with
  | zero => rfl
  | succ m ih =>
    show (if (accB ns ds ws (k + m)).2.2 = 0 then _ else accB ns ds ws (k + m)) = _
    rw [ih, if_neg h]
theorem accB_zero (ns ds ws : Nat → Int) (k : Nat) (h : (accB ns ds ws k).2.2 ≠ 0) : (accB ns ds ws k).1 = 0 ∧ (accB ns ds ws k).2.1 = 0 := by
  induction k with
  | zero => exact absurd rfl h
  | succ k ih =>
    rw [accB_succ] at *
    by_cases c : (accB ns ds ws k).2.2 = 0
    · rw [if_pos c] at *; exact atT_zero h
    · rw [if_neg c] at *; exact ih c
/-- the sum of ints -/
def tot (ws : Nat → Int) : Nat → Int
  | 0 => 0
  | k + 1 => tot ws k + ws k
/-- all of the first k from 0 to m -/
def rngB (m : Int) (ws : Nat → Int) (k : Nat) : Bool := (List.range k).all fun i => decide (0 ≤ ws i ∧ ws i ≤ m)
theorem rngB_succ (m : Int) (ws : Nat → Int) (k : Nat) : rngB m ws (k + 1) = (rngB m ws k && decide (0 ≤ ws k ∧ ws k ≤ m)) := by
  unfold rngB; rw [List.range_succ, List.all_append]; simp
theorem rngB_false {m : Int} {ws : Nat → Int} {k len : Nat} (h : k < len) (hf : ¬ (0 ≤ ws k ∧ ws k ≤ m)) : rngB m ws len = false := by
  unfold rngB; rw [List.all_eq_false]; exact ⟨k, by simpa using h, by simpa using hf⟩
theorem rngB_get {m : Int} {ws : Nat → Int} {k len : Nat} (h : rngB m ws len = true) (hk : k < len) : 0 ≤ ws k ∧ ws k ≤ m := by
  unfold rngB at h; rw [List.all_eq_true] at h
  simpa using h k (by simpa using hk)
theorem tot_bd {m : Int} {ws : Nat → Int} {len : Nat} (hm : 0 ≤ m) (h : rngB m ws len = true) (k : Nat) (hk : k ≤ len) : 0 ≤ tot ws k ∧ tot ws k ≤ k * m := by
  induction k with
  | zero => show (0 : Int) ≤ 0 ∧ 0 ≤ ((0 : Nat) : Int) * m; simp
  | succ k ih =>
    have h1 := ih (by omega)
    have h2 := rngB_get h (show k < len by omega)
    have e : ((k + 1 : Nat) : Int) * m = k * m + m := by rw [Int.natCast_add, Int.add_mul]; simp
    rw [e]
    show 0 ≤ tot ws k + ws k ∧ tot ws k + ws k ≤ _
    omega
end Go.Proofs.Ytpgnbjlpkpmpcaa.R
set_option linter.unusedVariables false
namespace Go.Proofs.Ytpgnbjlpkpmpcaa.R
open Go.RowKit Go.Proofs.Ytpgnbjlpkpmpcaa.N
theorem frsl_below {w w' : World} {a : Option Addr} {len : Nat} {ns ds : Nat → Int} (h : FrSl w a len ns ds) (hb : Below w.heap.size w w') : FrSl w' a len ns ds := by
  rcases h with h | ⟨b, off, e, hc⟩
  · exact .inl h
  · exact .inr ⟨b, off, e, (cells_below (hide hc) hb).out⟩
theorem insl_below {w w' : World} {a : Option Addr} {len : Nat} {ns : Nat → Int} (h : InSl w a len ns) (hb : Below w.heap.size w w') : InSl w' a len ns := by
  rcases h with h | ⟨b, off, e, hc, hi⟩
  · exact .inl h
  · exact .inr ⟨b, off, e, fun i hl => kc hb (hc i hl), hi⟩
theorem allv_sl (a : Option Addr) (len cap : Nat) (ns ds : Nat → Int) (v : Bool) (w : World) (hl : len ≤ 64) (h : Hid (FrSl w a len ns ds)) (hv : Hid (allOk ns ds len = v)) :
    Calls Try.prog 78 #[.slice a len cap] w fun e w' => e = .returned (.bool v) ∧ Below w.heap.size w w' := by
  rw [← hv.out]
  rcases h.out with rfl | ⟨b, off, rfl, hc⟩
  · exact (allv_none a cap w).mono fun e w' ⟨he, hw⟩ => ⟨he, hw ▸ Below.refl _ _⟩
  · exact allv_any b off len cap ns ds w (by omega) hc.1 hc.2
theorem rall_sl (a : Option Addr) (len cap : Nat) (ns ds : Nat → Int) (v : Bool) (w : World) (hl : len ≤ 64) (h : Hid (FrSl w a len ns ds)) (hv : Hid (allOk ns ds len = v)) :
    Calls Try.prog 107 #[.slice a len cap] w fun e w' => e = .returned (.bool v) ∧ Below w.heap.size w w' := by
  rw [← hv.out]
  rcases h.out with rfl | ⟨b, off, rfl, hc⟩
  · exact (rall_none a cap w).mono fun e w' ⟨he, hw⟩ => ⟨he, hw ▸ Below.refl _ _⟩
  · exact rall_any b off len cap ns ds w (by omega) hc.1
set_option maxHeartbeats 1000000 in
theorem from0_sl (m : Int) (a : Option Addr) (len cap : Nat) (ns : Nat → Int) (v : Bool) (w : World) (hm : 0 ≤ m) (hl : len ≤ 64) (h : Hid (InSl w a len ns)) (hv : Hid (rngB m ns len = v)) :
    Calls Try.prog 108 #[.int .i64 m, .slice a len cap] w fun e w' => e = .returned (.bool v) ∧ w = w' := by
  rw [← hv.out]
  clear hv
  go_enter Try.func108, Try.ntmps108
  go_wp2
  go_loop [9] (fun i => ∃ k : Nat, k ≤ len ∧ i = .int .i64 k ∧ Hid (rngB m ns k = true)) (fun i => len - (intOf i).toNat)
  case atStart => exact ⟨0, by omega, rfl, rfl⟩
  case round =>
    obtain ⟨k, hk, rfl, ha⟩ := hrel
    by_cases hlt : k < len
    · obtain ⟨b, off, rfl, hc, hi⟩ := h.out.resolve_left (by omega)
      have c1 := hc k hlt
      have HI := hide hi
      clear hc hi
      by_cases hv : 0 ≤ ns k ∧ ns k ≤ m
      · have HV : Hid (rngB m ns (k + 1) = true) := hide (by rw [rngB_succ, ha.out]; simpa using hv)
        obtain ⟨h1, h2⟩ := hv
        go_wp2
        go_round
        case rel => exact ⟨k + 1, by omega, by go_num, HV⟩
        case measure => simp [intOf]; omega
      · have HV := hide (rngB_false hlt hv)
        by_cases h1 : ns k < 0
        · clear hv
          go_wp2
          go_ret
          exact ⟨ret_bool HV.out.symm, rfl⟩
        · have h2 : m < ns k := by omega
          have h3 : 0 ≤ ns k := by omega
          clear hv h1
          go_wp2
          go_ret
          exact ⟨ret_bool HV.out.symm, rfl⟩
    · go_wp2
      go_ret
      exact ⟨ret_bool (by rw [show len = k by omega]; exact ha.out.symm), rfl⟩
set_option maxHeartbeats 1000000 in
theorem sum_sl (m : Int) (a : Option Addr) (len cap : Nat) (ns : Nat → Int) (t : Int) (w : World) (hm : 0 ≤ m) (hm2 : m ≤ 1000000000) (hl : len ≤ 64) (h : Hid (InSl w a len ns)) (hr : Hid (rngB m ns len = true)) (ht : Hid (t = tot ns len)) :
    Calls Try.prog 109 #[.slice a len cap] w fun e w' => e = .returned (.int .i64 t) ∧ w = w' := by
  go_enter Try.func109, Try.ntmps109
  go_wp2
  go_loop [3, 8] (fun s i => ∃ k : Nat, k ≤ len ∧ i = .int .i64 k ∧ s = .int .i64 (tot ns k)) (fun _ i => len - (intOf i).toNat)
  case atStart => exact ⟨0, by omega, rfl, rfl⟩
  case round =>
    obtain ⟨k, hk, rfl, rfl⟩ := hrel
    by_cases hlt : k < len
    · obtain ⟨b, off, rfl, hc, hi⟩ := h.out.resolve_left (by omega)
      have c1 := hc k hlt
      clear hc hi
      have HS : Hid (tot ns (k + 1) = tot ns k + ns k) := hide rfl
      have hb1 : 0 ≤ tot ns k ∧ tot ns k ≤ 64000000000 := by
        have h1 := tot_bd hm hr.out k hk
        have h2 : (k : Int) * m ≤ 64 * 1000000000 := Int.mul_le_mul (by omega) hm2 hm (by decide)
        omega
      have hb2 := rngB_get hr.out hlt
      obtain ⟨t1, t2⟩ := hb1
      obtain ⟨t3, t4⟩ := hb2
      go_wp2
      go_round
      case rel => exact ⟨k + 1, by omega, by go_num, by rw [HS.out]⟩
      case measure => simp [intOf]; omega
    · have hkl : k = len := by omega
      subst hkl
      go_wp2
      go_ret
      exact ⟨ret_int ht.out.symm, rfl⟩
end Go.Proofs.Ytpgnbjlpkpmpcaa.R
set_option linter.unusedVariables false
namespace Go.Proofs.Ytpgnbjlpkpmpcaa.R
open Go.RowKit Go.Proofs.Ytpgnbjlpkpmpcaa.N
set_option maxRecDepth 20000 in
set_option maxHeartbeats 2000000 in
theorem addTimes_is (x y n d m x' y' z' : Int) (w : World) (i : Hid (Ins x y n d)) (im : Hid (In64 m)) (hx : Hid ((x', y', z') = atT x y n d m)) :
    Calls Try.prog 110 #[.agg #[.int .i64 x, .int .i64 y], .agg #[.int .i64 n, .int .i64 d], .int .i64 m] w fun e w' => e = .returned (.tuple #[.agg #[.int .i64 x', .int .i64 y'], .int .i64 z']) ∧ Below w.heap.size w w' := by
  obtain ⟨p, hp⟩ : ∃ v, Hid (v = (mulT n d m 1).1) := ⟨_, rfl⟩
  obtain ⟨q, hq⟩ : ∃ v, Hid (v = (mulT n d m 1).2.1) := ⟨_, rfl⟩
  obtain ⟨r, hr⟩ : ∃ v, Hid (v = (mulT n d m 1).2.2) := ⟨_, rfl⟩
  have HM : Hid (Ans n d m 1 (Rat.divInt n d * Rat.divInt m 1) p q r) := hide (by rw [hp.out, hq.out, hr.out]; exact mulT_ans n d m 1)
  have HI : Hid (Ins n d m 1) := hide ⟨i.out.2, ⟨im.out, ⟨by omega, by omega⟩⟩⟩
  have HX : Hid (if r = 0 then (x', y', z') = addT x y p q else (x', y', z') = (0, 0, r)) := hide (by
    have h := hx.out
    unfold atT at h
    rw [← hp.out, ← hq.out, ← hr.out] at h
    split <;> simp_all)
  have HK := k2_new w x y n d
  by_cases hz0 : r = 0
  · have HOK : M.okB p q = true := by rw [hp.out, hq.out]; exact mulT_ok (by rw [← hr.out]; exact hz0)
    have HI2 : Hid (Ins x y p q) := hide ⟨i.out.1, okB_bd HOK⟩
    have hA := HX.out
    rw [if_pos hz0] at hA
    have HA : Hid (Ans x y p q (Rat.divInt x y + Rat.divInt p q) x' y' z') := hide (by
      have h := addT_ans x y p q
      rw [← hA] at h; exact h)
    subst hz0
    clear hA HOK HX
    go_enter Try.func110, Try.ntmps110
    go_wp2_with fail
    with_reducible refine (mul_is n d m 1 p q 0 _ HI HM).mono ?_
    rintro en w1 ⟨rfl, hb⟩
    have hk1 := k2_step HK hb
    have hk2 := k2_step hk1 (ba (Below.refl _ _) (.cells #[.int .i64 p, .int .i64 q] 23))
    clear hb HK
    obtain ⟨⟨c1, c2, c3, c4⟩, ⟨q0, q1, f0, f1⟩, b1⟩ := hk1.out
    have zz1 := cell_lt c1
    have zz2 := cell_lt q0
    go_wp2_with fail
    with_reducible refine (add_is x y p q x' y' z' _ HI2 HA).mono ?_
    rintro en w2 ⟨rfl, hb⟩
    have hk3 := k2_step hk2 hb
    clear hb hk1 hk2 c1 c2 c3 c4 q0 q1 f0 f1 zz1 zz2
    obtain ⟨⟨c1, c2, c3, c4⟩, ⟨q0, q1, f0, f1⟩, b2⟩ := hk3.out
    go_wp2_with fail
    refine bodyPost_ret (v := .tuple #[.agg #[.int .i64 x', .int .i64 y'], .int .i64 z']) (by simp [results, Try.results110, go_sem, *]) rfl ⟨rfl, ?_⟩
    exact bs (bs b2 (by first | omega | (simp only []; omega)) _) (by first | omega | (simp only []; omega)) _
  · have hzb : (r == 0) = false := by simpa using hz0
    have hzb2 : (r != 0) = true := by simpa using hz0
    have hA := HX.out
    rw [if_neg hz0] at hA
    simp only [Prod.mk.injEq] at hA
    obtain ⟨rfl, rfl, rfl⟩ := hA
    clear hz0 HX
    go_enter Try.func110, Try.ntmps110
    go_wp2_with fail
    with_reducible refine (mul_is n d m 1 p q z' _ HI HM).mono ?_
    rintro en w1 ⟨rfl, hb⟩
    have hk1 := k2_step HK hb
    clear hb HK
    obtain ⟨⟨c1, c2, c3, c4⟩, ⟨q0, q1, f0, f1⟩, b1⟩ := hk1.out
    have zz1 := cell_lt c1
    have zz2 := cell_lt q0
    go_wp2_with fail
    refine bodyPost_ret (v := .tuple #[.agg #[.int .i64 0, .int .i64 0], .int .i64 z']) (by simp [results, Try.results110, go_sem, *]) rfl ⟨rfl, ?_⟩
    exact ba (bs (bs b1 (by first | omega | (simp only []; omega)) _) (by first | omega | (simp only []; omega)) _) _
end Go.Proofs.Ytpgnbjlpkpmpcaa.R
