import Derived.Test.YtpgnbjlpkpmpcaaJ
import Derived.Deep.DeepCutAuto
namespace Go.Proofs.Ytpgnbjlpkpmpcaa
open Go.RowKit
set_option maxRecDepth 100000 in
set_option maxHeartbeats 2000000 in
theorem back_yes (n d m q : Int) (w : World) (h1 : M.okB n d = true) (h2 : M.okB m q = true) :
    Calls Try.prog 6 #[.agg #[.int .i64 n, .int .i64 d], .agg #[.int .i64 m, .int .i64 q]] w fun e w' => e = .returned (.bool true) ∧ Below w.heap.size w w' := by
  have H := hide (And.intro h1 h2); clear h1 h2
  have HL := l2_start (w := w) (n := n) (d := d) (m := m) (q := q)
  obtain ⟨x1, ex1⟩ : ∃ x, Hid (x = M.nN (n * q + m * d) (d * q)) := ⟨_, rfl⟩
  obtain ⟨y1, ey1⟩ : ∃ x, Hid (x = M.nD (n * q + m * d) (d * q)) := ⟨_, rfl⟩
  obtain ⟨z1, ez1⟩ : ∃ x, Hid (x = M.nE (n * q + m * d) (d * q)) := ⟨_, rfl⟩
  obtain ⟨x2, ex2⟩ : ∃ x, Hid (x = M.nN (n * m) (d * q)) := ⟨_, rfl⟩
  obtain ⟨y2, ey2⟩ : ∃ x, Hid (x = M.nD (n * m) (d * q)) := ⟨_, rfl⟩
  obtain ⟨z2, ez2⟩ : ∃ x, Hid (x = M.nE (n * m) (d * q)) := ⟨_, rfl⟩
  obtain ⟨x3, ex3⟩ : ∃ x, Hid (x = M.nN (n * q + -m * d) (d * q)) := ⟨_, rfl⟩
  obtain ⟨y3, ey3⟩ : ∃ x, Hid (x = M.nD (n * q + -m * d) (d * q)) := ⟨_, rfl⟩
  obtain ⟨z3, ez3⟩ : ∃ x, Hid (x = M.nE (n * q + -m * d) (d * q)) := ⟨_, rfl⟩
  obtain ⟨s, es⟩ : ∃ s, Hid (s = Int.sign (n * q - m * d)) := ⟨_, rfl⟩
  have A1 : Hid (z1 = 0 → M.okB x1 y1 = true ∧ n = M.nN (x1 * q + -m * y1) (y1 * q) ∧ d = M.nD (x1 * q + -m * y1) (y1 * q) ∧ 0 = M.nE (x1 * q + -m * y1) (y1 * q)) := hide (M.back_add H.out.1 H.out.2 ex1.out ey1.out ez1.out)
  have A2 : Hid (m ≠ 0 → z2 = 0 → M.okB x2 y2 = true ∧ n = M.nN (x2 * q) (y2 * m) ∧ d = M.nD (x2 * q) (y2 * m) ∧ 0 = M.nE (x2 * q) (y2 * m)) := hide (fun hm => M.back_mul H.out.1 H.out.2 hm ex2.out ey2.out ez2.out)
  have A3 : Hid (z3 = 0 → (s < 0 ↔ x3 < 0) ∧ (0 < s ↔ 0 < x3)) := hide (fun h => M.sub_sign H.out.1 H.out.2 ex3.out ez3.out h es.out)
  have HN : Hid (Neg2 n d) := neg2_of H.out.1
  go_enter Try.func6, Try.ntmps6
  go_wp2_with fail
  refine (add_yes n d m q x1 y1 z1 _ H.out.1 H.out.2 ex1 ey1 ez1).mono ?_
  rintro e w1 ⟨rfl, hb⟩
  have HL1 := l2_step HL hb; clear hb
  obtain ⟨⟨r1, r2, r3, r4⟩, ⟨_, _⟩, _⟩ := HL1.out
  go_upto_if 25 with fail
  go_cut [] (fun wx => Hid (L2 w wx n d m q))
  case first =>
    by_cases hz : z1 = 0
    · have A := hide (A1.out hz)
      subst hz
      go_wp2_with fail
      refine (sub_yes x1 y1 m q n d 0 _ A.out.1 H.out.2 (hide A.out.2.1) (hide A.out.2.2.1) (hide A.out.2.2.2)).mono ?_
      rintro e w2 ⟨rfl, hb⟩
      have HL2 := l2_step HL1 (bt (ba (Below.refl _ _) _) hb); clear hb
      obtain ⟨⟨_, _, _, _⟩, ⟨_, _⟩, _⟩ := HL2.out
      go_wp2_with fail
      go_meet
      exact l2_step HL2 (ba (Below.refl _ _) _)
    · have hz' : (z1 == 0) = false := by simpa using hz
      go_wp2_with fail
      go_meet
      exact l2_step HL1 (ba (Below.refl _ _) _)
  case rest =>
    clear r1 r2 r3 r4 HL1 A1
    obtain ⟨⟨r1, r2, r3, r4⟩, ⟨_, _⟩, _⟩ := hcut.out
    go_wp2_with fail
    refine (mul_yes n d m q x2 y2 z2 _ H.out.1 H.out.2 ex2 ey2 ez2).mono ?_
    rintro e w2 ⟨rfl, hb⟩
    have HL1 := l2_step hcut hb; clear hb hcut r1 r2 r3 r4
    obtain ⟨⟨r1, r2, r3, r4⟩, ⟨_, _⟩, _⟩ := HL1.out
    obtain ⟨c, hc⟩ : ∃ c : Bool, Hid (c = decide (z2 = 0 ∧ m ≠ 0)) := ⟨_, rfl⟩
    go_upto_region 7 with fail
    go_cut [51] (fun s51 wx => s51 = .bool c ∧ Hid (L2 w wx n d m q) ∧ (wx.cell? ⟨w2.heap.size, 0, none⟩ = some (.int .i64 x2) ∧ wx.cell? ⟨w2.heap.size, 1, none⟩ = some (.int .i64 y2)))
    case first =>
      have hk := l2_step HL1 (ba (Below.refl _ _) (Obj.cells #[Value.int IntKind.i64 x2, Value.int IntKind.i64 y2] 23))
      by_cases hz : z2 = 0
      · by_cases hm : m = 0
        · have hcc : c = false := by rw [hc.out]; simp [hm]
          have hm' : (m != 0) = false := by simpa using hm
          have hz' : (z2 == 0) = true := by simpa using hz
          clear hz hm hc
          go_wp2_with fail
          go_meet
          exact ⟨by rw [hcc], hk, by simp [go_sem], by simp [go_sem]⟩
        · have hcc : c = true := by rw [hc.out]; simp [hm, hz]
          have hm' : (m != 0) = true := by simpa using hm
          have hz' : (z2 == 0) = true := by simpa using hz
          clear hz hm hc
          go_wp2_with fail
          go_meet
          exact ⟨by rw [hcc], hk, by simp [go_sem], by simp [go_sem]⟩
      · have hcc : c = false := by rw [hc.out]; simp [hz]
        have hz' : (z2 == 0) = false := by simpa using hz
        clear hz hc
        go_wp2_with fail
        go_meet
        exact ⟨by rw [hcc], hk, by simp [go_sem], by simp [go_sem]⟩
    case rest =>
      obtain ⟨rfl, hk, k1, k2⟩ := hcut
      clear r1 r2 r3 r4 HL1
      obtain ⟨⟨r1, r2, r3, r4⟩, ⟨_, _⟩, _⟩ := hk.out
      go_upto_if 51 with fail
      go_cut [] (fun wx => Hid (L2 w wx n d m q))
      case first =>
        cases hcc : c
        · subst hcc
          go_wp2_with fail
          go_meet
          exact hk
        · subst hcc
          have h2 : z2 = 0 ∧ m ≠ 0 := by have := hc.out; simpa using this
          have A := hide (A2.out h2.2 h2.1)
          have hm := hide h2.2
          clear h2
          go_wp2_with fail
          refine (div_yes x2 y2 m q n d 0 _ A.out.1 H.out.2 hm.out (hide A.out.2.1) (hide A.out.2.2.1) (hide A.out.2.2.2)).mono ?_
          rintro e w3 ⟨rfl, hb⟩
          have HL2 := l2_step hk hb; clear hb
          obtain ⟨⟨_, _, _, _⟩, ⟨_, _⟩, _⟩ := HL2.out
          go_wp2_with fail
          go_meet
          exact l2_step HL2 (ba (Below.refl _ _) _)
      case rest =>
        clear r1 r2 r3 r4 hk k1 k2 A2 hc
        obtain ⟨⟨r1, r2, r3, r4⟩, ⟨_, _⟩, _⟩ := hcut.out
        go_wp2_with fail
        refine (sub_yes n d m q x3 y3 z3 _ H.out.1 H.out.2 ex3 ey3 ez3).mono ?_
        rintro e w4 ⟨rfl, hb⟩
        have HL4 := l2_step hcut (bt hb (ba (Below.refl _ _) (Obj.cells #[Value.int IntKind.i64 x3, Value.int IntKind.i64 y3] 23))); clear hb hcut r1 r2 r3 r4
        obtain ⟨⟨r1, r2, r3, r4⟩, ⟨_, _⟩, _⟩ := HL4.out
        go_wp2_with fail
        have kk1 : (w4.alloc (Obj.cells #[Value.int IntKind.i64 x3, Value.int IntKind.i64 y3] 23)).cell? ⟨w4.heap.size, 0, none⟩ = some (.int .i64 x3) := by simp [go_sem]
        refine (cmp_yes n d m q _ H.out.1 H.out.2 s es).mono ?_
        rintro e w5 ⟨rfl, hb⟩
        have k3 := kc hb kk1
        have HL5 := l2_step HL4 hb; clear hb kk1 r1 r2 r3 r4 HL4
        obtain ⟨⟨r1, r2, r3, r4⟩, ⟨_, _⟩, _⟩ := HL5.out
        go_upto_region 13 with fail
        go_cut [98] (fun s98 wx => s98 = .bool false ∧ Hid (L2 w wx n d m q))
        case first =>
          by_cases hz : z3 = 0
          · have A := A3.out hz
            have hz' : (z3 == 0) = true := by simpa using hz
            have d1 : decide (s < 0) = decide (x3 < 0) := by simp only [A.1]
            have d2 : decide (0 < s) = decide (0 < x3) := by simp only [A.2]
            clear A hz
            go_wp2_with fail
            go_meet
            exact ⟨rfl, HL5⟩
          · have hz' : (z3 == 0) = false := by simpa using hz
            clear hz
            go_wp2_with fail
            go_meet
            exact ⟨rfl, HL5⟩
        case rest =>
          obtain ⟨rfl, hk⟩ := hcut
          clear r1 r2 r3 r4 HL5 k3 A3
          obtain ⟨⟨r1, r2, r3, r4⟩, ⟨_, _⟩, _⟩ := hk.out
          go_wp2_with fail
          refine (neg_yes n d (-n) d 0 (-n) _ HN.out.1.1 (hide rfl) (hide HN.out.2.1.1) (hide HN.out.2.1.2.1) (hide HN.out.2.1.2.2)).mono ?_
          rintro e w6 ⟨rfl, hb⟩
          have HL6 := l2_step hk hb; clear hb
          obtain ⟨⟨_, _, _, _⟩, ⟨_, _⟩, _⟩ := HL6.out
          go_wp2_with fail
          refine (neg_yes (-n) d n d 0 n _ HN.out.1.2 (hide (by omega)) (hide HN.out.2.2.1) (hide HN.out.2.2.2.1) (hide HN.out.2.2.2.2)).mono ?_
          rintro e w7 ⟨rfl, hb⟩
          have HL7 := l2_step HL6 (bt (ba (Below.refl _ _) _) hb); clear hb
          obtain ⟨⟨_, _, _, _⟩, ⟨_, _⟩, _⟩ := HL7.out
          go_wp2_with fail
          refine (awake_any _).mono ?_
          rintro e w8 ⟨rfl, hb⟩
          have HL8 := l2_step HL7 (bt (ba (Below.refl _ _) _) hb); clear hb
          go_wp2_with fail
          go_ret
          exact ⟨rfl, HL8.out.2.2⟩
theorem back_all (n d m q : Int) (w : World) (i1 : In64 n) (i2 : In64 d) (i3 : In64 m) (i4 : In64 q) :
    Calls Try.prog 6 #[.agg #[.int .i64 n, .int .i64 d], .agg #[.int .i64 m, .int .i64 q]] w fun e w' => e = .returned (.bool true) ∧ Below w.heap.size w w' := by
  cases h : (M.okB n d && M.okB m q)
  · exact back_no n d m q w i1 i2 i3 i4 h
  · rw [Bool.and_eq_true] at h
    exact back_yes n d m q w h.1 h.2
end Go.Proofs.Ytpgnbjlpkpmpcaa
