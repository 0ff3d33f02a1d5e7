/- The reference's Sums. -/
import Derived.Test.YtkajcbjacjfhnaaJd
set_option linter.unusedVariables false
namespace Go.Proofs.Ytkajcbjacjfhnaa
open Go.RowKit Go.Ab
/-- the sums of the first k corners, 0 from there on -/
def sumC (u : Nat → Nat → Bool) (S k i : Nat) : Value := if i < k then .int .i64 (sumN u (i / S) (i % S)) else .int .i64 0
theorem sumC_at {u : Nat → Nat → Bool} {S k y x : Nat} (hx : x < S) (hk : y * S + x < k) : sumC u S k (y * S + x) = .int .i64 (sumN u y x) := by
  unfold sumC
  rw [if_pos hk, Nat.mul_comm, Nat.mul_add_div (by omega), Nat.div_eq_of_lt hx, Nat.mul_add_mod, Nat.mod_eq_of_lt hx, Nat.add_zero]
theorem sumN_step (u : Nat → Nat → Bool) (y x : Nat) : sumN u (y + 1) (x + 1) = sumN u y (x + 1) + sumN u (y + 1) x - sumN u y x + if u x y then 1 else 0 := by
  show sumN u y (x + 1) + (rowN u y x + if u x y then 1 else 0) = sumN u y (x + 1) + (sumN u y x + rowN u y x) - sumN u y x + _
  omega
/-- a table of sums in memory -/
def SmAt (W : World) (v : Value) (u : Nat → Nat → Bool) (n l : Nat) : Prop := ∃ b c, v = .slice (some ⟨b, 0, none⟩) ((n + 1) * (l + 1)) c ∧ ∀ y x, y ≤ l → x ≤ n → W.cell? ⟨b, y * (n + 1) + x, none⟩ = some (.int .i64 (sumN u y x))
theorem SmAt.below {W W' : World} {v : Value} {u : Nat → Nat → Bool} {n l : Nat} (h : SmAt W v u n l) (hb : Below W.heap.size W W') : SmAt W' v u n l := by
  obtain ⟨b, c, e, h⟩ := h
  exact ⟨b, c, e, fun y x hy hx => kc hb (h y x hy hx)⟩
set_option maxRecDepth 20000 in
set_option maxHeartbeats 8000000 in
theorem sums_is (bb off c n l g : Nat) (f : Nat → Nat → UInt8) (w : World) (hz : ZsAt w bb off l (rowS f n)) (hd : Dim (n, l, f)) (hg : Dg (n, l, f)) (h9 : g ≤ 9) :
    Calls Try.prog 100 #[.slice (some ⟨bb, off, none⟩) l c, .int .i64 g] w fun e w' => ∃ v, e = .returned v ∧ SmAt w' v (usB f g) n l ∧ Below w.heap.size w w' := by
  have HZ := hide hz
  have HN : Hid ((1 ≤ n ∧ 1 ≤ l) ∧ n ≤ 48 ∧ l ≤ 48) := hide ⟨⟨hd.1.1, hd.2.1⟩, hd.1.2, hd.2.2⟩
  have HD := hide hd
  have HG := hide hg
  have c0 := (hz 0 hd.2.1).1
  rw [Nat.add_zero] at c0
  have hsz : (rowS f n 0).size = n := rowS_size f n 0
  have h1n : 0 < l := hd.2.1
  have h1i : (0 : Int) < (l : Int) := by omega
  have bn : (n : Int) ≤ 48 := by have := HN.out; omega
  have bl : (l : Int) ≤ 48 := by have := HN.out; omega
  obtain ⟨S, eS⟩ : ∃ S : Nat, Hid (S = n + 1) := ⟨_, hide rfl⟩
  obtain ⟨L, eL⟩ : ∃ L : Nat, Hid (L = (n + 1) * (l + 1)) := ⟨_, hide rfl⟩
  have iS : (n : Int) + 1 = (S : Int) := by rw [eS.out]; omega
  have bS : (S : Int) ≤ 49 := by omega
  have iL : (S : Int) * ((l : Int) + 1) = (L : Int) := by
    rw [eL.out, eS.out]; simp [Int.natCast_mul]
  have bL : (L : Int) ≤ 2401 := by
    have : L ≤ 49 * 49 := by rw [eL.out]; exact Nat.mul_le_mul (by have := HN.out; omega) (by have := HN.out; omega)
    omega
  have hmk : ∀ w, (Instr.makeSlice 23 (.int .i64 (L : Int)) (.int .i64 (L : Int))).run Try.prog w = .ok (.slice (some ⟨w.heap.size, 0, none⟩) L L) (w.alloc (.cells (madeCells #[.int .i64 0] L) 3)) := fun w => run_make_row' 23 3 _ 8 Try.underlying23 Try.info3 rfl .i64 .i64 L (by omega) (by omega) w
  obtain ⟨B, eB⟩ : ∃ B, Hid (B = w.heap.size) := ⟨_, hide rfl⟩
  have R0 : Hid ((w.alloc (.cells (madeCells #[.int .i64 0] L) 3)).rowIs B 3 L (sumC (usB f g) S (1 * S + 1))) := hide (by
    rw [eB.out]
    exact (World.rowIs_made w (.int .i64 0) L 3).congr fun i hi => by
      unfold sumC
      by_cases e : i < 1 * S + 1
      · rw [if_pos e]
        by_cases e2 : i < S
        · rw [Nat.div_eq_of_lt e2]; rfl
        · obtain rfl : i = S := by omega
          rw [Nat.mod_self, sumN_zero]
      · rw [if_neg e])
  have RB : Hid (Below w.heap.size w (w.alloc (.cells (madeCells #[.int .i64 0] L) 3)) ∧ B < (w.alloc (.cells (madeCells #[.int .i64 0] L) 3)).heap.size) := hide ⟨(Below.refl _ _).alloc (Nat.le_refl _) _, by rw [eB.out]; simp⟩
  clear hz hd hg h9
  go_enter Try.func100, Try.ntmps100
  go_wp2_with fail
  rw [← eB.out]
  go_loopw [8] (fun i wr => ∃ (wq : World) (y : Nat), wq = wr ∧ (1 ≤ y ∧ y ≤ l + 1) ∧ i = .int .i64 y ∧ wr.rowIs B 3 L (sumC (usB f g) S (y * S + 1)) ∧ Below w.heap.size w wr ∧ B < wr.heap.size) (fun i _ => (l + 1 - intOf i).toNat)
  case atStart => exact ⟨_, 1, rfl, ⟨Nat.le_refl _, by omega⟩, rfl, R0.out, RB.out.1, by have := RB.out.2; rw [eB.out] at this ⊢; exact this⟩
  case round =>
    clear R0 RB c0
    obtain ⟨wr, y, rfl, ⟨hy1, hy⟩, rfl, hri, hb, hs⟩ := hrel
    have HR := hide hri
    have HB := hide hb
    have HS := hide hs
    clear hri hb hs
    by_cases hlt : y ≤ l
    · have hyi : (y : Int) ≤ (l : Int) := by omega
      obtain ⟨y1, ey1⟩ : ∃ y1 : Nat, Hid (y1 = y - 1) := ⟨_, hide rfl⟩
      have iy : (y : Int) - 1 = (y1 : Int) := by rw [ey1.out]; omega
      obtain ⟨p1, ep1⟩ : ∃ p : Nat, Hid (p = y1 * S) := ⟨_, hide rfl⟩
      obtain ⟨p2, ep2⟩ : ∃ p : Nat, Hid (p = y * S) := ⟨_, hide rfl⟩
      have ip1 : (y1 : Int) * (S : Int) = (p1 : Int) := by rw [ep1.out, Int.natCast_mul]
      have ip2 : (y : Int) * (S : Int) = (p2 : Int) := by rw [ep2.out, Int.natCast_mul]
      have hp12 : p2 = p1 + S := by
        rw [ep1.out, ep2.out]
        have e : y = y1 + 1 := by rw [ey1.out]; omega
        rw [e, Nat.succ_mul]
      have hp2L : p2 + S ≤ L := by
        rw [ep2.out, eL.out, ← Nat.succ_mul, ← eS.out, Nat.mul_comm S]
        exact Nat.mul_le_mul_right _ (by omega)
      have hP := hide (And.intro hp12 hp2L)
      have bp2 : (p2 : Int) ≤ 2401 := by omega
      have bp1 : (p1 : Int) ≤ 2401 := by omega
      clear hp12 hp2L
      rw [← ep2.out] at HR
      go_wp2_with fail
      go_loopw [9] (fun i wx => ∃ (wq : World) (x : Nat), wq = wx ∧ (1 ≤ x ∧ x ≤ S) ∧ i = .int .i64 x ∧ wx.rowIs B 3 L (sumC (usB f g) S (p2 + x)) ∧ Below w.heap.size w wx ∧ B < wx.heap.size) (fun i _ => (S - intOf i).toNat)
      case atStart => exact ⟨_, 1, rfl, ⟨Nat.le_refl _, by have := HN.out; have := eS.out; omega⟩, rfl, HR.out, HB.out, HS.out⟩
      case round =>
        clear HR HB HS
        obtain ⟨wx, x, rfl, ⟨hx1, hx⟩, rfl, hri, hb, hs⟩ := hrel
        have HR := hide hri
        have HB := hide hb
        have HS := hide hs
        clear hri hb hs
        by_cases hlx : x ≤ n
        · have hxi : (x : Int) ≤ (n : Int) := by omega
          have hxS : x < S := by have := eS.out; omega
          obtain ⟨x1, ex1⟩ : ∃ x1 : Nat, Hid (x1 = x - 1) := ⟨_, hide rfl⟩
          have ix : (x : Int) - 1 = (x1 : Int) := by rw [ex1.out]; omega
          obtain ⟨a1, ea1⟩ : ∃ a : Nat, Hid (a = p1 + x) := ⟨_, hide rfl⟩
          obtain ⟨a2, ea2⟩ : ∃ a : Nat, Hid (a = p2 + x) := ⟨_, hide rfl⟩
          obtain ⟨a3, ea3⟩ : ∃ a : Nat, Hid (a = p2 + x1) := ⟨_, hide rfl⟩
          obtain ⟨a4, ea4⟩ : ∃ a : Nat, Hid (a = p1 + x1) := ⟨_, hide rfl⟩
          have i1 : (p1 : Int) + (x : Int) = (a1 : Int) := by rw [ea1.out]; omega
          have i2 : (p2 : Int) + (x : Int) = (a2 : Int) := by rw [ea2.out]; omega
          have i3 : (a2 : Int) - 1 = (a3 : Int) := by rw [ea2.out, ea3.out, ex1.out]; omega
          have i4 : (a1 : Int) - 1 = (a4 : Int) := by rw [ea1.out, ea4.out, ex1.out]; omega
          have g1 : a1 < L := by have := hP.out; rw [ea1.out]; omega
          have g2 : a2 < L := by have := hP.out; rw [ea2.out]; omega
          have g3 : a3 < L := by have := hP.out; rw [ea3.out, ex1.out]; omega
          have g4 : a4 < L := by have := hP.out; rw [ea4.out, ex1.out]; omega
          obtain ⟨A1, f1⟩ : ∃ A, Hid (A = sumN (usB f g) y1 x) := ⟨_, hide rfl⟩
          obtain ⟨A3, f3⟩ : ∃ A, Hid (A = sumN (usB f g) y x1) := ⟨_, hide rfl⟩
          obtain ⟨A4, f4⟩ : ∃ A, Hid (A = sumN (usB f g) y1 x1) := ⟨_, hide rfl⟩
          have d1 : wx.cell? ⟨B, a1, none⟩ = some (.int .i64 A1) := by
            have := HR.out.cell g1
            rw [this, f1.out, ea1.out, ep1.out, sumC_at hxS (by have := hP.out; have := ep1.out; omega)]
          have d3 : wx.cell? ⟨B, a3, none⟩ = some (.int .i64 A3) := by
            have := HR.out.cell g3
            rw [this, f3.out, ea3.out, ep2.out, sumC_at (by have := ex1.out; omega) (by have := ex1.out; omega)]
          have d4 : wx.cell? ⟨B, a4, none⟩ = some (.int .i64 A4) := by
            have := HR.out.cell g4
            rw [this, f4.out, ea4.out, ep1.out, sumC_at (by have := ex1.out; omega) (by have := hP.out; have := ep1.out; have := ex1.out; omega)]
          have bd : ∀ y x, y ≤ 48 → x ≤ 48 → 0 ≤ sumN (usB f g) y x ∧ sumN (usB f g) y x ≤ 2304 := fun y x hy hx => by
            have e := sumN_bd (usB f g) y x
            refine ⟨e.1, Int.le_trans e.2 ?_⟩
            have e2 : y * x ≤ 48 * 48 := Nat.mul_le_mul hy hx
            exact_mod_cast e2
          have k1 : 0 ≤ A1 ∧ A1 ≤ 2304 := by rw [f1.out]; exact bd _ _ (by have := ey1.out; have := HN.out; omega) (by have := HN.out; omega)
          have k3 : 0 ≤ A3 ∧ A3 ≤ 2304 := by rw [f3.out]; exact bd _ _ (by have := HN.out; omega) (by have := ex1.out; have := HN.out; omega)
          have k4 : 0 ≤ A4 ∧ A4 ≤ 2304 := by rw [f4.out]; exact bd _ _ (by have := ey1.out; have := HN.out; omega) (by have := ex1.out; have := HN.out; omega)
          have hw1 : IntKind.i64.wrap (y1 : Int) = (y1 : Int) := IntWalk.i64_in _ (by omega)
          have hw2 : IntKind.i64.wrap (S : Int) = (S : Int) := IntWalk.i64_in _ (by omega)
          have hw3 : IntKind.i64.wrap (p1 : Int) = (p1 : Int) := IntWalk.i64_in _ (by omega)
          have hw4 : IntKind.i64.wrap (p2 : Int) = (p2 : Int) := IntWalk.i64_in _ (by omega)
          have hw5 : IntKind.i64.wrap (a1 : Int) = (a1 : Int) := IntWalk.i64_in _ (by omega)
          have hw6 : IntKind.i64.wrap (a2 : Int) = (a2 : Int) := IntWalk.i64_in _ (by omega)
          have hw7 : IntKind.i64.wrap (a3 : Int) = (a3 : Int) := IntWalk.i64_in _ (by omega)
          have hw8 : IntKind.i64.wrap (a4 : Int) = (a4 : Int) := IntWalk.i64_in _ (by omega)
          have hw9 : IntKind.i64.wrap (A1 + A3) = A1 + A3 := IntWalk.i64_in _ (by omega)
          have hw10 : IntKind.i64.wrap (A1 + A3 - A4) = A1 + A3 - A4 := IntWalk.i64_in _ (by omega)
          clear bd
          go_wp2_with fail
          go_quiet (fail)
          obtain ⟨W2, eW2⟩ : ∃ W2 : World, Hid (W2 = wx.drewN nq) := ⟨_, hide rfl⟩
          rw [← eW2.out]
          have hbd : Below wx.heap.size wx W2 := by rw [eW2.out]; exact bdn _ _ _
          have HB2 := hide (bt HB.out hbd)
          have HR2 := hide (row_below HR.out hbd)
          have HS2 : Hid (B < W2.heap.size) := hide (Nat.lt_of_lt_of_le HS.out hbd.size)
          clear hbd HR HB HS d1 d3 d4 hw9 hw10
          obtain ⟨D, hD⟩ : ∃ D : Int, Hid (D = ((f x1 y1).toNat : Int) - 48) := ⟨_, rfl⟩
          have HC : Hid (Calls Try.prog 63 #[.slice (some ⟨bb, off, none⟩) l c, .int .i64 x1, .int .i64 y1] W2 fun e w' => e = .returned (.int .i64 D) ∧ W2 = w') := hide (by
            rw [hD.out]
            exact grade_sp _ (n, l, f) x1 y1 W2 ⟨bb, off, c, rfl, HZ.out.below HB2.out⟩ HD.out HG.out (by have := ex1.out; show x1 < n; omega) (by have := ey1.out; show y1 < l; omega))
          have hcell := HR2.out.cell g2
          have hold : Hid (sumC (usB f g) S (p2 + x) a2 = .int .i64 0) := hide (by unfold sumC; rw [if_neg (by rw [ea2.out]; omega)])
          rw [hold.out] at hcell
          have hfz := HR2.out.frozen a2
          have hstep : Hid (sumN (usB f g) y x = A1 + A3 - A4 + if usB f g x1 y1 then 1 else 0) := hide (by
            have e1 : y = y1 + 1 := by have := ey1.out; omega
            have e2 : x = x1 + 1 := by have := ex1.out; omega
            rw [f1.out, f3.out, f4.out]
            conv => lhs; rw [e1, e2]
            rw [sumN_step, ← e2, ← e1])
          have mk : ∀ V : Int, sumN (usB f g) y x = V → Hid ((W2.setCell ⟨B, a2, none⟩ (.int .i64 V)).rowIs B 3 L (sumC (usB f g) S (p2 + (x + 1)))) := fun V hV => hide ((HR2.out.set a2 (.int .i64 V)).congr fun i hi => by
            by_cases e : i = a2
            · subst e
              rw [if_pos rfl, ea2.out, ep2.out, sumC_at hxS (by omega), hV]
            · rw [if_neg e]
              unfold sumC
              by_cases e2 : i < p2 + x
              · rw [if_pos e2, if_pos (by omega)]
              · rw [if_neg e2, if_neg (by have := ea2.out; omega)])
          have HMk := hide mk
          have HB3 : ∀ V : Value, Hid (Below w.heap.size w (W2.setCell ⟨B, a2, none⟩ V) ∧ B < (W2.setCell ⟨B, a2, none⟩ V).heap.size) := fun V => hide ⟨HB2.out.setCell (p := ⟨B, a2, none⟩) (by rw [eB.out]; exact Nat.le_refl _) _, by simp [World.setCell]; exact HS2.out⟩
          have HB3h := hide HB3
          clear mk HB3 hw1 hw2 hw3 hw4 hw5 hw6 hw7 hw8
          cases hus : usB f g x1 y1 with
          | false =>
            rw [hus] at hstep
            have HV := HMk.out (A1 + A3 - A4) (by rw [hstep.out]; simp)
            have HW := HB3h.out (.int .i64 (A1 + A3 - A4))
            have hge : ¬ ((g : Int) ≤ D) := by
              have e := hus
              unfold usB at e
              rw [decide_eq_false_iff_not] at e
              have := hD.out; omega
            clear hus
            go_wp2_with (go_at_call 63; refine HC.out.mono ?_; rintro e w' ⟨rfl, rfl⟩)
            go_roundw
            case rel => exact ⟨_, x + 1, rfl, ⟨by omega, by have := eS.out; omega⟩, by go_num, HV.out, HW.out.1, HW.out.2⟩
            case measure => simp [intOf]; omega
          | true =>
            rw [hus] at hstep
            have HV := HMk.out (A1 + A3 - A4 + 1) (by rw [hstep.out]; simp)
            have HW := HB3h.out (.int .i64 (A1 + A3 - A4 + 1))
            have hge : (g : Int) ≤ D := by
              have e := hus
              unfold usB at e
              rw [decide_eq_true_eq] at e
              have := hD.out; omega
            clear hus
            go_wp2_with (go_at_call 63; refine HC.out.mono ?_; rintro e w' ⟨rfl, rfl⟩)
            go_roundw
            case rel => exact ⟨_, x + 1, rfl, ⟨by omega, by have := eS.out; omega⟩, by go_num, HV.out, HW.out.1, HW.out.2⟩
            case measure => simp [intOf]; omega
        · have hxi : ¬ (x : Int) ≤ (n : Int) := by omega
          have HR2 : Hid (wx.rowIs B 3 L (sumC (usB f g) S ((y + 1) * S + 1))) := hide (HR.out.congr fun i hi => by
            have e1 : p2 + x = (y + 1) * S := by rw [Nat.succ_mul, ← ep2.out]; have := eS.out; omega
            rw [e1]
            unfold sumC
            by_cases e : i < (y + 1) * S
            · rw [if_pos e, if_pos (by omega)]
            · rw [if_neg e]
              by_cases e2 : i < (y + 1) * S + 1
              · obtain rfl : i = (y + 1) * S := by omega
                rw [if_pos e2, Nat.mul_mod_left, sumN_zero]
              · rw [if_neg e2])
          go_wp2_with fail
          go_roundw
          case rel => exact ⟨_, y + 1, rfl, ⟨by omega, by omega⟩, by go_num, HR2.out, HB.out, HS.out⟩
          case measure => simp [intOf]; omega
    · have hyi : ¬ (y : Int) ≤ (l : Int) := by omega
      go_wp2_with fail
      go_ret
      refine ⟨_, rfl, ⟨B, L, by rw [eL.out]; rfl, fun y' x' hy' hx' => ?_⟩, HB.out⟩
      have e1 : y' * (n + 1) + x' < L := by
        rw [eL.out]
        have := Nat.mul_le_mul_right (n + 1) (show y' + 1 ≤ l + 1 by omega)
        rw [Nat.succ_mul, Nat.mul_comm (l + 1)] at this
        omega
      have := HR.out.cell e1
      rw [this, ← eS.out, sumC_at (by have := eS.out; omega) (by
        have e2 := Nat.mul_le_mul_right S (show y' + 1 ≤ y by omega)
        rw [Nat.succ_mul] at e2
        have := eS.out
        omega)]
end Go.Proofs.Ytkajcbjacjfhnaa
