/- The reference's Crop. -/
import Derived.Test.YtkajcbjacjfhnaaHs
set_option linter.unusedVariables false
namespace Go.Proofs.Ytkajcbjacjfhnaa
open Go.RowKit Go.Ab
set_option maxRecDepth 20000 in
set_option maxHeartbeats 4000000 in
theorem rcrop_is (bb off c n l X Y B H : Nat) (f : Nat → Nat → UInt8) (w : World) (hz : ZsAt w bb off l (rowS f n)) (hd : Dim (n, l, f)) (hg : Dg (n, l, f)) (hv : validB l (rowS f n) = true) (hB : 1 ≤ B) (hH : 1 ≤ H) (hX : X + B ≤ n) (hY : Y + H ≤ l) :
    Calls Try.prog 38 #[.slice (some ⟨bb, off, none⟩) l c, .agg #[.int .i64 X, .int .i64 Y, .int .i64 B, .int .i64 H]] w fun e w' => ∃ v, e = .returned (.tuple #[v, .int .i64 0]) ∧ Sp w' v (cropOf f X Y B H) ∧ Below w.heap.size w w' := by
  obtain ⟨i3, hi3, hz3, hs3, hb3⟩ := info_parts Try.info3
  have hb0 : Below w.heap.size w (w.alloc (.cells #[.int .i64 X, .int .i64 Y, .int .i64 B, .int .i64 H] 39)) := (Below.refl _ _).alloc (Nat.le_refl _) _
  have HR0 : Hid (Rx w (w.alloc (.cells #[.int .i64 X, .int .i64 Y, .int .i64 B, .int .i64 H] 39)) X Y B H bb off l n f) := hide ⟨rx_new w X Y B H, hz.below hb0, hb0⟩
  have hn : n ≤ 48 := hd.1.2
  have hl : l ≤ 48 := hd.2.2
  have hr : rectB X Y B H = true := rectB_yes (by omega) (by omega) (by omega) (by omega)
  have hli : liesB X Y B H n l = true := liesB_yes (by omega) (by omega)
  have HW := hide (checked_ok bb off c n l f X Y B H _ HR0.out.2.1 hd hv hr (by omega) (by omega) hli)
  have HN := hide (And.intro (And.intro hB hH) (And.intro (And.intro hX hY) (And.intro hn hl)))
  have hB48 : (B : Int) ≤ 48 := by omega
  have hH48 : (H : Int) ≤ 48 := by omega
  have hB2 : B ≤ 48 := by omega
  have hH2 : H ≤ 48 := by omega
  have HD := hide hd
  have HG := hide hg
  clear hz hd hg hv hr hli hB hH hX hY hn hl hb0
  go_enter Try.func38, Try.ntmps38
  go_wp2_with fail
  refine HW.out.mono ?_
  rintro e w1 ⟨rfl, hb⟩
  have HR1 := rx_all HR0 hb
  obtain ⟨⟨⟨q1, q2⟩, q3, q4⟩, _, _⟩ := HR1.out
  clear hb HR0 HW
  have O0 : Hid (w1.ownsRow w1.heap.size 3 1 (.slice none 0 0) 0 (i64s (nums (cropOf f X Y B H)) 0)) := hide ⟨rfl, .inl ⟨rfl, rfl⟩⟩
  go_wp2_with fail
  go_loopw [7, 18] (fun v i wr => ∃ (v5 : Value) (wq : World) (k : Nat), v5 = v ∧ wq = wr ∧ k ≤ H ∧ i = .int .i64 k ∧ wr.ownsRow w1.heap.size 3 1 v (k * B) (i64s (nums (cropOf f X Y B H)) (k * B)) ∧ Below w1.heap.size w1 wr) (fun _ i _ => H - (intOf i).toNat)
  case atStart => exact ⟨_, _, 0, rfl, rfl, Nat.zero_le _, rfl, by rw [Nat.zero_mul]; exact O0.out, Below.refl _ _⟩
  case round =>
    clear O0 q1 q2 q3 q4
    obtain ⟨v5, wr, k, rfl, rfl, hk, rfl, ho, hbel⟩ := hrel
    have HO := hide ho; clear ho
    have HB := hide hbel; clear hbel
    have HRr := rx_all HR1 HB.out
    obtain ⟨⟨⟨q1, q2⟩, q3, q4⟩, _, _⟩ := HRr.out
    by_cases hlt : k < H
    · obtain ⟨m0, hm0⟩ : ∃ m0, Hid (m0 = k * B) := ⟨_, rfl⟩
      rw [← hm0.out] at HO
      have HM : Hid (m0 + B ≤ 48 * 48) := hide (by
        rw [hm0.out]
        have h5 := Nat.mul_le_mul (show k + 1 ≤ 48 by omega) hB2
        rw [Nat.add_mul, Nat.one_mul] at h5; exact h5)
      go_wp2_with fail
      go_loopw [7, 23] (fun v i wx => ∃ (v5' : Value) (wq : World) (j : Nat), v5' = v ∧ wq = wx ∧ j ≤ B ∧ i = .int .i64 j ∧ wx.ownsRow w1.heap.size 3 1 v (m0 + j) (i64s (nums (cropOf f X Y B H)) (m0 + j)) ∧ Below w1.heap.size w1 wx) (fun _ i _ => B - (intOf i).toNat)
      case atStart => exact ⟨_, _, 0, rfl, rfl, Nat.zero_le _, rfl, HO.out, HB.out⟩
      case round =>
        clear HO HB HRr q1 q2 q3 q4
        obtain ⟨v9, wx, j, rfl, rfl, hj, rfl, ho, hbel⟩ := hrel
        have HO := hide ho; clear ho
        have HB := hide hbel; clear hbel
        have HRx := rx_all HR1 HB.out
        obtain ⟨⟨⟨q1, q2⟩, q3, q4⟩, _, _⟩ := HRx.out
        by_cases hlj : j < B
        · obtain ⟨r, hr⟩ : ∃ r, Hid (r = X + j) := ⟨_, rfl⟩
          obtain ⟨t, ht⟩ : ∃ t, Hid (t = Y + k) := ⟨_, rfl⟩
          have hri : (X : Int) + (j : Int) = (r : Int) := by rw [hr.out]; omega
          have hti : (Y : Int) + (k : Int) = (t : Int) := by rw [ht.out]; omega
          have hrn : r < n := by rw [hr.out]; have := HN.out; omega
          have htl : t < l := by rw [ht.out]; have := HN.out; omega
          have hr48 : (r : Int) ≤ 48 := by have := HN.out; omega
          have ht48 : (t : Int) ≤ 48 := by have := HN.out; omega
          have HE : Hid (nums (cropOf f X Y B H) (m0 + j) = ((f r t).toNat : Int) - 48) := hide (by rw [hm0.out, hr.out, ht.out]; exact nums_at (cropOf f X Y B H) j k hlj)
          have HC : Hid (Calls Try.prog 63 #[.slice (some ⟨bb, off, none⟩) l c, .int .i64 r, .int .i64 t] wx fun e w' => e = .returned (.int .i64 (nums (cropOf f X Y B H) (m0 + j))) ∧ wx = w') := hide (by rw [HE.out]; exact grade_sp _ (n, l, f) r t wx ⟨bb, off, c, rfl, HRx.out.2.1⟩ HD.out HG.out hrn htl)
          obtain ⟨D, hD⟩ : ∃ D : Int, Hid (D = nums (cropOf f X Y B H) (m0 + j)) := ⟨_, rfl⟩
          rw [← hD.out] at HC
          have hbs : Hid (w1.heap.size ≤ wx.heap.size) := hide HB.out.size
          have hmj : m0 + j + 1 ≤ 2304 := Nat.le_trans (by rw [Nat.add_assoc]; exact Nat.add_le_add_left hlj m0) HM.out
          go_wp2_with (first
            | (go_at_call 63; refine HC.out.mono ?_; rintro e w' ⟨rfl, rfl⟩)
            | (at_builtin; refine wpList_append_own _ rfl _ _ 23 rfl w1.heap.size 3 i3 (.int .i64 0) 1 8 Try.underlying23 hi3 hz3 hs3 hb3 rfl (by decide) _ _ _ rfl (HO.out.alloc _) ⟨wx.heap.size, 0, none⟩ 1 1 [.int .i64 D] rfl rfl ?d1 ?d2 ?d3 ?d4 ?d5 ?_))
          case d1 =>
            intro j u hj
            match j, hj with
            | 0, hj => simp at hj; subst hj; simp [Addr.add]
          case d2 => intro u hu; simp at hu; subst hu; rfl
          case d3 => unfold maxLen; omega
          case d4 => omega
          case d5 => simp; have := hbs.out; omega
          intro v' w7 hown' hgrow _
          have HO2 : Hid (w7.ownsRow w1.heap.size 3 1 v' (m0 + (j + 1)) (i64s (nums (cropOf f X Y B H)) (m0 + (j + 1)))) := hide (by rw [← Nat.add_assoc, i64s_succ, ← hD.out]; exact hown')
          have HB2 := hide ((HB.out.alloc hbs.out (.cells #[.int .i64 D] 3)).grown hgrow (by simp; have := hbs.out; omega) (fun q hq => (HO.out.lt q hq).1))
          clear hown' hgrow
          go_wp2_with fail
          go_roundw
          case rel => exact ⟨_, _, j + 1, rfl, rfl, by omega, by go_num, HO2.out, HB2.out⟩
          case measure => simp [intOf]; omega
        · have HO2 : Hid (wx.ownsRow w1.heap.size 3 1 v9 ((k + 1) * B) (i64s (nums (cropOf f X Y B H)) ((k + 1) * B))) := hide (by
            have ejl : j = B := by omega
            rw [Nat.add_mul, Nat.one_mul, ← hm0.out, ← ejl]
            rw [ejl] at HO ⊢
            exact HO.out)
          obtain rfl : j = B := by omega
          go_wp2_with fail
          go_roundw
          case rel => exact ⟨_, _, k + 1, rfl, rfl, by omega, by go_num, HO2.out, HB.out⟩
          case measure => simp [intOf]; omega
    · obtain rfl : k = H := by omega
      have hm : 1 ≤ k * B := Nat.mul_pos HN.out.1.2 HN.out.1.1
      obtain ⟨cb, cc, rfl, hps⟩ := ps_of_owns HO.out hm
      have HPS := hide hps; clear hps
      obtain ⟨L, hL⟩ : ∃ L, Hid (L = k * B) := ⟨_, rfl⟩
      rw [← hL.out] at HPS ⊢
      have HDm : Hid (Dim (cropOf f X Y B k)) := hide ⟨⟨HN.out.1.1, hB2⟩, HN.out.1.2, hH2⟩
      have HGm : Hid (Dg (cropOf f X Y B k)) := hide fun x y hx hy => HG.out (X + x) (Y + y) (by have hx' : x < B := hx; show X + x < n; have := HN.out; omega) (by have hy' : y < k := hy; show Y + y < l; have := HN.out; omega)
      clear HO
      go_wp2_with fail
      refine (rdrawn_is cb 0 cc L (cropOf f X Y B k) _ HDm.out HGm.out (by rw [hL.out, Nat.mul_comm]; rfl) HPS.out).mono ?_
      rintro e w2 ⟨v2, rfl, hs2, hb2⟩
      have HS2 := hide hs2; clear hs2
      have HB2 := hide (bt HR1.out.2.2 (bt HB.out hb2)); clear hb2
      go_wp2_with fail
      exact bodyPost_ret (v := .tuple #[v2, .int .i64 0]) (by simp [results, Try.results38, go_sem]) rfl ⟨v2, rfl, HS2.out, HB2.out⟩
end Go.Proofs.Ytkajcbjacjfhnaa
