/- The reference's Turn. -/
import Derived.Test.YtkajcbjacjfhnaaHg
set_option linter.unusedVariables false
namespace Go.Proofs.Ytkajcbjacjfhnaa
open Go.RowKit Go.Ab
theorem dg_rot {p : Nat × Nat × (Nat → Nat → UInt8)} (h : Dg p) : Dg (rot1 p) := fun x y hx hy => h y (p.2.1 - 1 - x) hy (by have : x < p.2.1 := hx; omega)
theorem dg_rots {p : Nat × Nat × (Nat → Nat → UInt8)} (h : Dg p) : ∀ k, Dg (rots p k)
  | 0 => h
  | k + 1 => dg_rot (dg_rots h k)
set_option maxRecDepth 20000 in
set_option maxHeartbeats 8000000 in
theorem rturn_is (v : Value) (p : Nat × Nat × (Nat → Nat → UInt8)) (k : Int) (T : Nat) (w : World) (h3 : T ≤ 3) (hT : (wrap64 (k.tmod 4 + 4)).tmod 4 = (T : Int)) (hs : Sp w v p) (hd : Dim p) (hg : Dg p) (hv : validB p.2.1 (rowS p.2.2 p.1) = true) :
    Calls Try.prog 33 #[v, .int .i64 k] w fun e w' => ∃ v, e = .returned (.tuple #[v, .int .i64 0]) ∧ Sp w' v (rots p T) ∧ Below w.heap.size w w' := by
  obtain ⟨i3, hi3, hz3, hs3, hb3⟩ := info_parts Try.info3
  have HZ := hide hs; clear hs
  have HV := hide hv; clear hv
  have HD := hide hd; clear hd
  have HG := hide hg; clear hg
  go_enter Try.func33, Try.ntmps33
  go_wp2_with (go_at_call 23; refine (rvalid_sp v p _ HZ.out HV.out).mono ?_; rintro e w' ⟨rfl, rfl⟩)
  go_loopw [0, 18] (fun s i wr => ∃ (s7 : Value) (wq : World) (j : Nat), s7 = s ∧ wq = wr ∧ j ≤ T ∧ i = .int .i64 j ∧ Sp wr s (rots p j) ∧ Below w.heap.size w wr) (fun _ i _ => T - (intOf i).toNat)
  case atStart => exact ⟨_, _, 0, rfl, rfl, Nat.zero_le _, rfl, HZ.out, Below.refl _ _⟩
  case round =>
    clear HZ hT
    obtain ⟨s7, wr, t, rfl, rfl, ht, rfl, hs, hb⟩ := hrel
    by_cases hlt : t < T
    · have hlt2 : (t : Int) < (T : Int) := by omega
      have HDq := hide (dim_rots HD.out t)
      have HGq := hide (dg_rots HG.out t)
      have HQ : Hid (rots p (t + 1) = rot1 (rots p t)) := rfl
      obtain ⟨q, hq⟩ : ∃ q, q = rots p t := ⟨_, rfl⟩
      rw [← hq] at hs HDq HGq HQ
      clear hq HD HG HV
      obtain ⟨n, l, f⟩ := q
      obtain ⟨b, off, c, rfl, hz⟩ := hs
      simp only at hz
      have hd := HDq.out
      have c0 := (hz 0 hd.2.1).1
      rw [Nat.add_zero] at c0
      have hsz : (rowS f n 0).size = n := rowS_size f n 0
      have h1n : 0 < l := hd.2.1
      have h1i : (0 : Int) < (l : Int) := by omega
      have h2 : l ≤ 48 := hd.2.2
      have h4 : n ≤ 48 := hd.1.2
      have HL : Hid (1 ≤ l ∧ l ≤ 48 ∧ 1 ≤ n ∧ n ≤ 48) := hide ⟨hd.2.1, hd.2.2, hd.1.1, hd.1.2⟩
      have HZ := hide hz; clear hz hd
      have HB := hide hb; clear hb
      go_wp2_with fail
      go_quiet (fail)
      have hdr : Below wr.heap.size wr (wr.drewN nq) := ⟨rfl, rfl, rfl, Nat.le_refl _, fun _ _ => rfl⟩
      have hsz1 : (wr.drewN nq).heap.size = wr.heap.size := rfl
      have HZ1 := hide (HZ.out.below hdr)
      have HB1 := hide (bt HB.out hdr)
      have HSp : Hid (Sp (wr.drewN nq) (.slice (some ⟨b, off, none⟩) l c) (n, l, f)) := hide ⟨b, off, c, rfl, HZ1.out⟩
      clear HZ HB hdr hsz1 c0 hsz
      obtain ⟨w1, hw1⟩ : ∃ w1, w1 = wr.drewN nq := ⟨_, rfl⟩
      rw [← hw1] at HZ1 HB1 HSp ⊢
      clear hw1
      have O0 : Hid (w1.ownsRow w1.heap.size 3 1 (.slice none 0 0) 0 (i64s (nums (rot1 (n, l, f))) 0)) := hide ⟨rfl, .inl ⟨rfl, rfl⟩⟩
      go_wp2_with fail
      go_loopw [8, 27] (fun v i wr => ∃ (v5 : Value) (wq : World) (k : Nat), v5 = v ∧ wq = wr ∧ k ≤ n ∧ i = .int .i64 k ∧ wr.ownsRow w1.heap.size 3 1 v (k * l) (i64s (nums (rot1 (n, l, f))) (k * l)) ∧ Below w1.heap.size w1 wr) (fun _ i _ => n - (intOf i).toNat)
      case atStart => exact ⟨_, _, 0, rfl, rfl, Nat.zero_le _, rfl, by rw [Nat.zero_mul]; exact O0.out, Below.refl _ _⟩
      case round =>
        clear O0
        obtain ⟨v5, w2, y, rfl, rfl, hk, rfl, ho, hbel⟩ := hrel
        have HO := hide ho; clear ho
        have HB := hide hbel; clear hbel
        by_cases hly : y < n
        · obtain ⟨m0, hm0⟩ : ∃ m0, Hid (m0 = y * l) := ⟨_, rfl⟩
          rw [← hm0.out] at HO
          have HM : Hid (m0 + l ≤ 48 * 48) := hide (by
            rw [hm0.out]
            have h5 := Nat.mul_le_mul (show y + 1 ≤ 48 by omega) h2
            rw [Nat.add_mul, Nat.one_mul] at h5; exact h5)
          go_wp2_with fail
          go_loopw [8, 31] (fun v i wx => ∃ (v5' : Value) (wq : World) (j : Nat), v5' = v ∧ wq = wx ∧ j ≤ l ∧ i = .int .i64 j ∧ wx.ownsRow w1.heap.size 3 1 v (m0 + j) (i64s (nums (rot1 (n, l, f))) (m0 + j)) ∧ Below w1.heap.size w1 wx) (fun _ i _ => l - (intOf i).toNat)
          case atStart => exact ⟨_, _, 0, rfl, rfl, Nat.zero_le _, rfl, HO.out, HB.out⟩
          case round =>
            clear HO HB
            obtain ⟨v9, wx, j, rfl, rfl, hj, rfl, ho, hbel⟩ := hrel
            have HO := hide ho; clear ho
            have HB := hide hbel; clear hbel
            by_cases hlj : j < l
            · obtain ⟨r, hr⟩ : ∃ r, Hid (r = l - 1 - j) := ⟨_, rfl⟩
              have hri : (l : Int) - 1 - (j : Int) = (r : Int) := by rw [hr.out]; omega
              have hrn : r < l := by rw [hr.out]; omega
              have HE : Hid (nums (rot1 (n, l, f)) (m0 + j) = ((f y r).toNat : Int) - 48) := hide (by rw [hm0.out, hr.out]; exact nums_at (rot1 (n, l, f)) j y hlj)
              have HC : Hid (Calls Try.prog 63 #[.slice (some ⟨b, off, none⟩) l c, .int .i64 y, .int .i64 r] wx fun e w' => e = .returned (.int .i64 (nums (rot1 (n, l, f)) (m0 + j))) ∧ wx = w') := hide (by rw [HE.out]; exact grade_sp _ (n, l, f) y r wx (HSp.out.below HB.out) HDq.out HGq.out hly hrn)
              obtain ⟨D, hD⟩ : ∃ D : Int, Hid (D = nums (rot1 (n, l, f)) (m0 + j)) := ⟨_, rfl⟩
              rw [← hD.out] at HC
              have hbs : Hid (w1.heap.size ≤ wx.heap.size) := hide HB.out.size
              have hmj : m0 + j + 1 ≤ 2304 := Nat.le_trans (by rw [Nat.add_assoc]; exact Nat.add_le_add_left hlj m0) HM.out
              go_wp2_with (first
                | (go_at_call 63; refine HC.out.mono ?_; rintro e w' ⟨rfl, rfl⟩)
                | (at_builtin; refine wpList_append_own _ rfl _ _ 23 rfl w1.heap.size 3 i3 (.int .i64 0) 1 8 Try.underlying23 hi3 hz3 hs3 hb3 rfl (by decide) _ _ _ rfl (HO.out.alloc _) ⟨wx.heap.size, 0, none⟩ 1 1 [.int .i64 D] rfl rfl ?d1 ?d2 ?d3 ?d4 ?d5 ?_))
              case d1 =>
                intro j u hj
                match j, hj with
                | 0, hj => simp at hj; subst hj; simp [Addr.add]
              case d2 => intro u hu; simp at hu; subst hu; rfl
              case d3 => unfold maxLen; omega
              case d4 => omega
              case d5 => simp; have := hbs.out; omega
              intro v' w7 hown' hgrow _
              have HO2 : Hid (w7.ownsRow w1.heap.size 3 1 v' (m0 + (j + 1)) (i64s (nums (rot1 (n, l, f))) (m0 + (j + 1)))) := hide (by rw [← Nat.add_assoc, i64s_succ, ← hD.out]; exact hown')
              have HB2 := hide ((HB.out.alloc hbs.out (.cells #[.int .i64 D] 3)).grown hgrow (by simp; have := hbs.out; omega) (fun q hq => (HO.out.lt q hq).1))
              clear hown' hgrow
              go_wp2_with fail
              go_roundw
              case rel => exact ⟨_, _, j + 1, rfl, rfl, by omega, by go_num, HO2.out, HB2.out⟩
              case measure => simp [intOf]; omega
            · obtain rfl : j = l := by omega
              have HO2 : Hid (wx.ownsRow w1.heap.size 3 1 v9 ((y + 1) * j) (i64s (nums (rot1 (n, j, f))) ((y + 1) * j))) := hide (by rw [Nat.add_mul, Nat.one_mul, ← hm0.out]; exact HO.out)
              go_wp2_with fail
              go_roundw
              case rel => exact ⟨_, _, y + 1, rfl, rfl, by omega, by go_num, HO2.out, HB.out⟩
              case measure => simp [intOf]; omega
        · obtain rfl : y = n := by omega
          have hm : 1 ≤ y * l := Nat.mul_pos HL.out.2.2.1 HL.out.1
          obtain ⟨cb, cc, rfl, hps⟩ := ps_of_owns HO.out hm
          have HPS := hide hps; clear hps
          obtain ⟨L, hL⟩ : ∃ L, Hid (L = y * l) := ⟨_, rfl⟩
          rw [← hL.out] at HPS ⊢
          have HDm : Hid (Dim (rot1 (y, l, f))) := hide ⟨HDq.out.2, HDq.out.1⟩
          have HGm : Hid (Dg (rot1 (y, l, f))) := hide (dg_rot HGq.out)
          clear HO
          go_wp2_with fail
          refine (rdrawn_is cb 0 cc L (rot1 (y, l, f)) _ HDm.out HGm.out (by rw [hL.out, Nat.mul_comm]; rfl) HPS.out).mono ?_
          rintro e w4 ⟨v4, rfl, hs4, hb4⟩
          have HS4 : Hid (Sp w4 v4 (rots p (t + 1))) := hide (by rw [HQ.out]; exact hs4)
          have HB4 := hide (bt HB1.out (bt HB.out hb4))
          clear hs4 hb4
          go_wp2_with fail
          go_roundw
          case rel => exact ⟨_, _, t + 1, rfl, rfl, by omega, by go_num, HS4.out, HB4.out⟩
          case measure => simp [intOf]; omega
    · obtain rfl : t = T := by omega
      go_wp2_with fail
      refine bodyPost_ret (v := .tuple #[s7, .int .i64 0]) (by simp [results, Try.results33, go_sem]) rfl ⟨s7, rfl, hs, hb⟩
end Go.Proofs.Ytkajcbjacjfhnaa
