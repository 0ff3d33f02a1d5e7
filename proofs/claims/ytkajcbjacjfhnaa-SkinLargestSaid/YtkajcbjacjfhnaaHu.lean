/- The reference's Punch. -/
import Derived.Test.YtkajcbjacjfhnaaHt
set_option linter.unusedVariables false
namespace Go.Proofs.Ytkajcbjacjfhnaa
open Go.RowKit Go.Ab
theorem inB_yes {X Y B H x y : Nat} (h1 : X ≤ x) (h2 : x < X + B) (h3 : Y ≤ y) (h4 : y < Y + H) : inB X Y B H x y = true := by unfold inB; simp [h1, h2, h3, h4]
theorem inB_no {X Y B H x y : Nat} (h : ¬ (X ≤ x ∧ x < X + B ∧ Y ≤ y ∧ y < Y + H)) : inB X Y B H x y = false := by
  cases e : inB X Y B H x y with
  | false => rfl
  | true =>
    unfold inB at e
    simp only [Bool.and_eq_true, decide_eq_true_eq] at e
    exact absurd ⟨e.1.1.1, e.1.1.2, e.1.2, e.2⟩ h
set_option maxHeartbeats 1000000 in
theorem in_nat (X Y B H x y : Nat) (w : World) (hX : X + B ≤ 48) (hY : Y + H ≤ 48) (hx : x ≤ 48) (hy : y ≤ 48) :
    Calls Try.prog 82 #[.agg #[.int .i64 X, .int .i64 Y, .int .i64 B, .int .i64 H], .int .i64 x, .int .i64 y] w fun e w' => e = .returned (.bool (inB X Y B H x y)) ∧ Below w.heap.size w w' := by
  have HB : Hid (Below w.heap.size w (w.alloc (.cells #[.int .i64 X, .int .i64 Y, .int .i64 B, .int .i64 H] 39))) := hide ((Below.refl _ _).alloc (Nat.le_refl _) _)
  have b1 : (X : Int) ≤ 48 := by omega
  have b2 : (Y : Int) ≤ 48 := by omega
  have b3 : (x : Int) ≤ 48 := by omega
  have b4 : (y : Int) ≤ 48 := by omega
  have HH := hide (And.intro hX hY); clear hX hY
  by_cases h1 : X ≤ x
  · by_cases h2 : (x : Int) - X < B
    · by_cases h3 : Y ≤ y
      · by_cases h4 : (y : Int) - Y < H
        · have HR : Hid (inB X Y B H x y = true) := hide (inB_yes h1 (by omega) h3 (by omega))
          go_enter Try.func82, Try.ntmps82
          go_wp2
          go_ret
          exact ⟨by rw [HR.out]; rfl, HB.out⟩
        · have HR : Hid (inB X Y B H x y = false) := hide (inB_no (by omega))
          go_enter Try.func82, Try.ntmps82
          go_wp2
          go_ret
          exact ⟨by rw [HR.out]; rfl, HB.out⟩
      · have HR : Hid (inB X Y B H x y = false) := hide (inB_no (by omega))
        go_enter Try.func82, Try.ntmps82
        go_wp2
        go_ret
        exact ⟨by rw [HR.out]; rfl, HB.out⟩
    · have HR : Hid (inB X Y B H x y = false) := hide (inB_no (by omega))
      go_enter Try.func82, Try.ntmps82
      go_wp2
      go_ret
      exact ⟨by rw [HR.out]; rfl, HB.out⟩
  · have HR : Hid (inB X Y B H x y = false) := hide (inB_no (by omega))
    go_enter Try.func82, Try.ntmps82
    go_wp2
    go_ret
    exact ⟨by rw [HR.out]; rfl, HB.out⟩
set_option maxRecDepth 20000 in
set_option maxHeartbeats 4000000 in
theorem rpunch_is (bb off c n l X Y B H : Nat) (f : Nat → Nat → UInt8) (w : World) (hz : ZsAt w bb off l (rowS f n)) (hd : Dim (n, l, f)) (hg : Dg (n, l, f)) (hv : validB l (rowS f n) = true) (hB : 1 ≤ B) (hH : 1 ≤ H) (hX : X + B ≤ n) (hY : Y + H ≤ l) :
    Calls Try.prog 40 #[.slice (some ⟨bb, off, none⟩) l c, .agg #[.int .i64 X, .int .i64 Y, .int .i64 B, .int .i64 H]] w fun e w' => ∃ v, e = .returned (.tuple #[v, .int .i64 0]) ∧ Sp w' v (punOf (n, l, f) X Y B H) ∧ Below w.heap.size w w' := by
  obtain ⟨i3, hi3, hz3, hs3, hb3⟩ := info_parts Try.info3
  have hb0 : Below w.heap.size w (w.alloc (.cells #[.int .i64 X, .int .i64 Y, .int .i64 B, .int .i64 H] 39)) := (Below.refl _ _).alloc (Nat.le_refl _) _
  have HR0 : Hid (Rx w (w.alloc (.cells #[.int .i64 X, .int .i64 Y, .int .i64 B, .int .i64 H] 39)) X Y B H bb off l n f) := hide ⟨rx_new w X Y B H, hz.below hb0, hb0⟩
  have hn : n ≤ 48 := hd.1.2
  have hl : l ≤ 48 := hd.2.2
  have hr : rectB X Y B H = true := rectB_yes (by omega) (by omega) (by omega) (by omega)
  have hli : liesB X Y B H n l = true := liesB_yes (by omega) (by omega)
  have HW := hide (checked_ok bb off c n l f X Y B H _ HR0.out.2.1 hd hv hr (by omega) (by omega) hli)
  have HN : Hid ((1 ≤ n ∧ 1 ≤ l) ∧ (X + B ≤ n ∧ Y + H ≤ l) ∧ n ≤ 48 ∧ l ≤ 48) := hide ⟨⟨hd.1.1, hd.2.1⟩, ⟨hX, hY⟩, hn, hl⟩
  have hsz : (rowS f n 0).size = n := rowS_size f n 0
  have h1n : 0 < l := hd.2.1
  have hn48 : (n : Int) ≤ 48 := by omega
  have hl48 : (l : Int) ≤ 48 := by omega
  have HD := hide hd
  have HG := hide hg
  clear hz hd hg hv hr hli hB hH hX hY hn hl hb0
  go_enter Try.func40, Try.ntmps40
  go_wp2_with fail
  refine HW.out.mono ?_
  rintro e w1 ⟨rfl, hb⟩
  have HR1 := rx_all HR0 hb
  clear hb HR0 HW
  have O0 : Hid (w1.ownsRow w1.heap.size 3 1 (.slice none 0 0) 0 (i64s (nums (punOf (n, l, f) X Y B H)) 0)) := hide ⟨rfl, .inl ⟨rfl, rfl⟩⟩
  go_wp2_with fail
  go_loopw [7, 18] (fun v i wr => ∃ (v5 : Value) (wq : World) (k : Nat), v5 = v ∧ wq = wr ∧ k ≤ l ∧ i = .int .i64 k ∧ wr.ownsRow w1.heap.size 3 1 v (k * n) (i64s (nums (punOf (n, l, f) X Y B H)) (k * n)) ∧ Below w1.heap.size w1 wr) (fun _ i _ => l - (intOf i).toNat)
  case atStart => exact ⟨_, _, 0, rfl, rfl, Nat.zero_le _, rfl, by rw [Nat.zero_mul]; exact O0.out, Below.refl _ _⟩
  case round =>
    clear O0
    obtain ⟨v5, wr, k, rfl, rfl, hk, rfl, ho, hbel⟩ := hrel
    have HO := hide ho; clear ho
    have HB := hide hbel; clear hbel
    have HRr := rx_all HR1 HB.out
    have c0 := (HRr.out.2.1 0 h1n).1
    rw [Nat.add_zero] at c0
    by_cases hlt : k < l
    · obtain ⟨m0, hm0⟩ : ∃ m0, Hid (m0 = k * n) := ⟨_, rfl⟩
      rw [← hm0.out] at HO
      have HM : Hid (m0 + n ≤ 48 * 48) := hide (by
        rw [hm0.out]
        have h5 := Nat.mul_le_mul (show k + 1 ≤ 48 by have := HN.out; omega) HN.out.2.2.1
        rw [Nat.add_mul, Nat.one_mul] at h5; exact h5)
      go_wp2_with fail
      go_loopw [7, 25] (fun v i wx => ∃ (v5' : Value) (wq : World) (j : Nat), v5' = v ∧ wq = wx ∧ j ≤ n ∧ i = .int .i64 j ∧ wx.ownsRow w1.heap.size 3 1 v (m0 + j) (i64s (nums (punOf (n, l, f) X Y B H)) (m0 + j)) ∧ Below w1.heap.size w1 wx) (fun _ i _ => n - (intOf i).toNat)
      case atStart => exact ⟨_, _, 0, rfl, rfl, Nat.zero_le _, rfl, HO.out, HB.out⟩
      case round =>
        clear HO HB HRr c0
        obtain ⟨v9, wx, j, rfl, rfl, hj, rfl, ho, hbel⟩ := hrel
        have HO := hide ho; clear ho
        have HB := hide hbel; clear hbel
        have HRx := rx_all HR1 HB.out
        obtain ⟨⟨⟨q1, q2⟩, q3, q4⟩, _, _⟩ := HRx.out
        by_cases hlj : j < n
        · have HE : Hid (nums (punOf (n, l, f) X Y B H) (m0 + j) = ((pun f X Y B H j k).toNat : Int) - 48) := hide (by rw [hm0.out]; exact nums_at (punOf (n, l, f) X Y B H) j k hlj)
          obtain ⟨D, hD⟩ : ∃ D : Int, Hid (D = nums (punOf (n, l, f) X Y B H) (m0 + j)) := ⟨_, rfl⟩
          have HI := hide (in_nat X Y B H j k wx (by have := HN.out; omega) (by have := HN.out; omega) (by have := HN.out; omega) (by have := HN.out; omega))
          have hmj : m0 + j + 1 ≤ 2304 := Nat.le_trans (by rw [Nat.add_assoc]; exact Nat.add_le_add_left hlj m0) HM.out
          go_wp2_with fail
          refine HI.out.mono ?_
          rintro e w2 ⟨rfl, hb2⟩
          have HR2 := rx_all HRx hb2
          have HO2 := hide (owns_below HO.out hb2)
          have HB2 := hide (bt HB.out hb2)
          have hbs : Hid (w1.heap.size ≤ w2.heap.size) := hide HB2.out.size
          clear hb2 q1 q2 q3 q4 HI HRx HO HB
          cases hin : inB X Y B H j k with
          | true =>
            have hD0 : Hid (D = 0) := hide (by rw [hD.out, HE.out]; unfold pun; rw [hin]; rfl)
            clear hin
            go_wp2_with (at_builtin; refine wpList_append_own _ rfl _ _ 23 rfl w1.heap.size 3 i3 (.int .i64 0) 1 8 Try.underlying23 hi3 hz3 hs3 hb3 rfl (by decide) _ _ _ rfl (HO2.out.alloc _) ⟨w2.heap.size, 0, none⟩ 1 1 [.int .i64 0] rfl rfl ?d1 ?d2 ?d3 ?d4 ?d5 ?_)
            case d1 =>
              intro j u hj
              match j, hj with
              | 0, hj => simp at hj; subst hj; simp [Addr.add]
            case d2 => intro u hu; simp at hu; subst hu; rfl
            case d3 => unfold maxLen; omega
            case d4 => omega
            case d5 => simp; have := hbs.out; omega
            intro v' w7 hown' hgrow _
            have HO3 : Hid (w7.ownsRow w1.heap.size 3 1 v' (m0 + (j + 1)) (i64s (nums (punOf (n, l, f) X Y B H)) (m0 + (j + 1)))) := hide (by rw [← Nat.add_assoc, i64s_succ, ← hD.out, hD0.out]; exact hown')
            have HB3 := hide ((HB2.out.alloc hbs.out (.cells #[.int .i64 0] 3)).grown hgrow (by simp; have := hbs.out; omega) (fun q hq => (HO2.out.lt q hq).1))
            clear hown' hgrow
            go_wp2_with fail
            go_roundw
            case rel => exact ⟨_, _, j + 1, rfl, rfl, by omega, by go_num, HO3.out, HB3.out⟩
            case measure => simp [intOf]; omega
          | false =>
            have HC : Hid (Calls Try.prog 63 #[.slice (some ⟨bb, off, none⟩) l c, .int .i64 j, .int .i64 k] w2 fun e w' => e = .returned (.int .i64 D) ∧ w2 = w') := hide (by
              rw [hD.out, HE.out]
              have e0 : pun f X Y B H j k = f j k := by unfold pun; rw [hin]; rfl
              rw [e0]
              exact grade_sp _ (n, l, f) j k w2 ⟨bb, off, c, rfl, HR2.out.2.1⟩ HD.out HG.out hlj hlt)
            clear hin
            go_wp2_with (first
              | (go_at_call 63; refine HC.out.mono ?_; rintro e w' ⟨rfl, rfl⟩)
              | (at_builtin; refine wpList_append_own _ rfl _ _ 23 rfl w1.heap.size 3 i3 (.int .i64 0) 1 8 Try.underlying23 hi3 hz3 hs3 hb3 rfl (by decide) _ _ _ rfl (HO2.out.alloc _) ⟨w2.heap.size, 0, none⟩ 1 1 [.int .i64 D] rfl rfl ?e1 ?e2 ?e3 ?e4 ?e5 ?_))
            case e1 =>
              intro j u hj
              match j, hj with
              | 0, hj => simp at hj; subst hj; simp [Addr.add]
            case e2 => intro u hu; simp at hu; subst hu; rfl
            case e3 => unfold maxLen; omega
            case e4 => omega
            case e5 => simp; have := hbs.out; omega
            intro v' w7 hown' hgrow _
            have HO3 : Hid (w7.ownsRow w1.heap.size 3 1 v' (m0 + (j + 1)) (i64s (nums (punOf (n, l, f) X Y B H)) (m0 + (j + 1)))) := hide (by rw [← Nat.add_assoc, i64s_succ, ← hD.out]; exact hown')
            have HB3 := hide ((HB2.out.alloc hbs.out (.cells #[.int .i64 D] 3)).grown hgrow (by simp; have := hbs.out; omega) (fun q hq => (HO2.out.lt q hq).1))
            clear hown' hgrow
            go_wp2_with fail
            go_roundw
            case rel => exact ⟨_, _, j + 1, rfl, rfl, by omega, by go_num, HO3.out, HB3.out⟩
            case measure => simp [intOf]; omega
        · clear q1 q2 q3 q4
          obtain rfl : j = n := by omega
          go_wp2_with fail
          go_roundw
          case rel => exact ⟨_, _, k + 1, rfl, rfl, by omega, by go_num, by rw [Nat.add_mul, Nat.one_mul, ← hm0.out]; exact HO.out, HB.out⟩
          case measure => simp [intOf]; omega
    · obtain rfl : k = l := by omega
      have hm : 1 ≤ k * n := Nat.mul_pos HN.out.1.2 HN.out.1.1
      obtain ⟨cb, cc, rfl, hps⟩ := ps_of_owns HO.out hm
      have HPS := hide hps; clear hps
      obtain ⟨L, hL⟩ : ∃ L, Hid (L = k * n) := ⟨_, rfl⟩
      rw [← hL.out] at HPS ⊢
      have HDm : Hid (Dim (punOf (n, k, f) X Y B H)) := HD
      have HGm : Hid (Dg (punOf (n, k, f) X Y B H)) := hide fun x y hx hy => by
        show 48 ≤ (pun f X Y B H x y).toNat ∧ (pun f X Y B H x y).toNat ≤ 57
        unfold pun
        split
        · exact ⟨by decide, by decide⟩
        · exact HG.out x y hx hy
      clear HO
      go_wp2_with fail
      refine (rdrawn_is cb 0 cc L (punOf (n, k, f) X Y B H) _ HDm.out HGm.out (by rw [hL.out, Nat.mul_comm]; rfl) HPS.out).mono ?_
      rintro e w2 ⟨v2, rfl, hs2, hb2⟩
      have HS2 := hide hs2; clear hs2
      have HB2 := hide (bt HR1.out.2.2 (bt HB.out hb2)); clear hb2
      go_wp2_with fail
      exact bodyPost_ret (v := .tuple #[v2, .int .i64 0]) (by simp [results, Try.results40, go_sem]) rfl ⟨v2, rfl, HS2.out, HB2.out⟩
end Go.Proofs.Ytkajcbjacjfhnaa
