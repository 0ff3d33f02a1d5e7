/- SkinCounts' law. -/
import Derived.Test.YtkajcbjacjfhnaaIk
set_option linter.unusedVariables false
namespace Go.Proofs.Ytkajcbjacjfhnaa
open Go.RowKit Go.Ab
theorem RcAt.below {w w' : World} {b off l : Nat} {rs : Nat → Int × Int × Int × Int} (h : RcAt w b off l rs) (hb : Below w.heap.size w w') : RcAt w' b off l rs := fun i hi =>
  ⟨⟨⟨kc hb (h i hi).1.1.1, kc hb (h i hi).1.1.2⟩, kc hb (h i hi).1.2.1, kc hb (h i hi).1.2.2⟩, (h i hi).2⟩
theorem Rcs.below {w w' : World} {a : Option Addr} {l : Nat} {rs : Nat → Int × Int × Int × Int} (h : Rcs w a l rs) (hb : Below w.heap.size w w') : Rcs w' a l rs := by
  rcases h with h | ⟨b, off, e, h⟩
  · exact .inl h
  · exact .inr ⟨b, off, e, h.below hb⟩
theorem counts_no (a a' : Option Addr) (l c l' c' : Nat) (g : Int) (ss : Nat → ByteArray) (w : World) (hz : Zs w a l ss) (hg : goodB l ss g = false) :
    Calls Try.prog 4 #[.slice a l c, .int .i64 g, .slice a' l' c'] w fun e w' => e = .returned (.bool true) ∧ Below w.heap.size w w' := by
  have HZ := hide hz; clear hz
  have HG := hide hg; clear hg
  go_enter Try.func4, Try.ntmps4
  go_wp2_with fail
  refine (newTable_no a l c g ss _ HZ.out HG.out).mono ?_
  rintro e w1 ⟨rfl, hb⟩
  have HB1 := hide hb
  have HZ1 := hide (HZ.out.below hb)
  clear hb
  go_wp2_with (go_at_call 27; refine (good_is a l c g ss _ HZ1.out).mono ?_; rintro e w' ⟨rfl, rfl⟩; rw [HG.out])
  refine (awake_any _).mono ?_
  rintro e w2 ⟨rfl, hb⟩
  have HB2 := hide (bt HB1.out hb); clear hb
  go_wp2_with fail
  go_ret
  exact ⟨rfl, HB2.out⟩
set_option maxRecDepth 20000 in
set_option maxHeartbeats 8000000 in
theorem counts_yes (bb off l c n b' off' l' c' g : Nat) (f : Nat → Nat → UInt8) (rs : Nat → Int × Int × Int × Int) (w : World) (hz : ZsAt w bb off l (rowS f n)) (hd : Dim (n, l, f)) (hg : Dg (n, l, f)) (hgd : goodB l (rowS f n) g = true) (hr : RcAt w b' off' l' rs) (hm : l' ≤ maxLen) :
    Calls Try.prog 4 #[.slice (some ⟨bb, off, none⟩) l c, .int .i64 g, .slice (some ⟨b', off', none⟩) l' c'] w fun e w' => e = .returned (.bool true) ∧ Below w.heap.size w w' := by
  have HZ := hide hz
  have HR := hide hr
  have HGD := hide hgd
  have HD := hide hd
  have HG := hide hg
  have H9 : Hid (g ≤ 9) := hide (by have := (goodB_get hgd).2.2; omega)
  have HN : Hid ((1 ≤ n ∧ 1 ≤ l) ∧ n ≤ 48 ∧ l ≤ 48) := hide ⟨⟨hd.1.1, hd.2.1⟩, hd.1.2, hd.2.2⟩
  have H48 : Hid ((n : Int) ≤ 48 ∧ (l : Int) ≤ 48) := hide ⟨by have := HN.out; omega, by have := HN.out; omega⟩
  have h1n : 0 < l := by have := HN.out; omega
  have h1i : (0 : Int) < (l : Int) := by omega
  have hsz : (rowS f n 0).size = n := rowS_size f n 0
  have bl : (l : Int) ≤ 48 := H48.out.2
  have bn : (n : Int) ≤ 48 := H48.out.1
  unfold maxLen at hm
  clear hz hr hgd hd hg
  go_enter Try.func4, Try.ntmps4
  go_wp2_with fail
  refine (newTable_is bb off c n l g f _ HZ.out HD.out HGD.out).mono ?_
  rintro e w1 ⟨t, rfl, ⟨sb, sc, rb, rc, ht⟩, hb⟩
  have HT : Hid (Tx w1 t sb sc n l rb rc (usB f g)) := hide ht
  have HB1 := hide hb
  have HZ1 := hide (HZ.out.below hb)
  have HR1 := hide (HR.out.below hb)
  clear ht hb
  go_wp2_with (go_at_call 27; refine (good_is _ l c g _ _ (.inr ⟨bb, off, rfl, HZ1.out⟩)).mono ?_; rintro e w' ⟨rfl, rfl⟩; rw [HGD.out])
  go_loopw [40] (fun i wr => ∃ (wq : World) (k : Nat), wq = wr ∧ k ≤ l' ∧ i = .int .i64 k ∧ Below w1.heap.size w1 wr) (fun i _ => l' - (intOf i).toNat)
  case atStart => exact ⟨_, 0, rfl, Nat.zero_le _, rfl, Below.refl _ _⟩
  case round =>
    obtain ⟨wr, k, rfl, hk, rfl, hbel⟩ := hrel
    have HB := hide hbel
    have hq := HR1.out.below hbel
    have HQ := hide hq
    clear hbel hq
    by_cases hlt : k < l'
    · have hq := HQ.out k hlt
      generalize rs k = q at hq
      obtain ⟨x, y, b, h⟩ := q
      simp only at hq
      obtain ⟨⟨⟨d0, d1⟩, d2, d3⟩, ⟨i0, i1⟩, i2, i3⟩ := hq
      have HI := hide (And.intro i2.2 i3.2)
      clear i0 i1 i2 i3
      by_cases h40 : 40 ≤ k
      · go_wp2_with fail
        refine (awake_any _).mono ?_
        rintro e w2 ⟨rfl, hb⟩
        have hA : Below wr.heap.size wr (wr.alloc (.cells #[.int .i64 x, .int .i64 y, .int .i64 b, .int .i64 h] 39)) := (Below.refl _ _).alloc (Nat.le_refl _) _
        have HB2 := hide (bt HB1.out (bt HB.out (bt hA hb))); clear hb hA
        go_wp2_with fail
        go_ret
        exact ⟨rfl, HB2.out⟩
      · have hA : Below wr.heap.size wr (wr.alloc (.cells #[.int .i64 x, .int .i64 y, .int .i64 b, .int .i64 h] 39)) := (Below.refl _ _).alloc (Nat.le_refl _) _
        have HX : Hid (Rx wr (wr.alloc (.cells #[.int .i64 x, .int .i64 y, .int .i64 b, .int .i64 h] 39)) x y b h bb off l n f) := hide ⟨rx_new wr x y b h, (HZ1.out.below HB.out).below hA, hA⟩
        have HTx := hide (tx_step (tx_step HT.out HB.out) hA)
        clear hA
        cases hr : rectB x y b h with
        | false =>
          have HRB := hide hr
          clear hr
          go_wp2_with fail
          refine (count_bad t sb sc n l rb rc _ x y b h _ HTx.out HRB.out).mono ?_
          rintro e w2 ⟨rfl, hb⟩
          have HX2 := rx_all HX hb
          obtain ⟨⟨⟨q0, q1⟩, q2, q3⟩, _⟩ := rx_get HX2
          clear hb d0 d1 d2 d3
          go_wp2_with fail
          refine (rrect_is x y b h _).mono ?_
          rintro e w3 ⟨rfl, hb⟩
          rw [HRB.out]
          have HX3 := rx_all HX2 hb
          clear hb q0 q1 q2 q3
          go_wp2_with fail
          go_roundw
          case rel => exact ⟨_, k + 1, rfl, by omega, by go_num, bt HB.out HX3.out.2.2⟩
          case measure => simp [intOf]; omega
        | true =>
          have HRB := hide hr
          have HRG := hide (rectB_get hr)
          clear hr
          cases hl : liesB x y b h n l with
          | false =>
            have HL := hide hl
            clear hl
            go_wp2_with fail
            refine (count_out t sb sc n l rb rc _ x y b h _ HTx.out HRB.out HL.out HI.out.1 HI.out.2 HN.out.2.1 HN.out.2.2).mono ?_
            rintro e w2 ⟨rfl, hb⟩
            have HX2 := rx_all HX hb
            obtain ⟨⟨⟨q0, q1⟩, q2, q3⟩, _⟩ := rx_get HX2
            clear hb d0 d1 d2 d3
            go_wp2_with fail
            refine (rrect_is x y b h _).mono ?_
            rintro e w3 ⟨rfl, hb⟩
            rw [HRB.out]
            have HX3 := rx_all HX2 hb
            clear hb q0 q1 q2 q3 HX HX2
            go_wp2_with fail
            have HXd := rx_drew HX3
            go_region_held3 (fun W => ((W.cell? ⟨wr.heap.size, 0, none⟩ = some (.int .i64 x) ∧ W.cell? ⟨wr.heap.size, 1, none⟩ = some (.int .i64 y)) ∧ (W.cell? ⟨wr.heap.size, 2, none⟩ = some (.int .i64 b) ∧ W.cell? ⟨wr.heap.size, 3, none⟩ = some (.int .i64 h))) ∧ W.cell? ⟨bb, off, none⟩ = some (.string (rowS f n 0)) ∧ Hid (Rx wr W x y b h bb off l n f))
              ((go_split_ands; refine rx_get2 ?_ HN.out.1.2; first | (with_reducible exact HX3) | (with_reducible exact HXd) | (with_reducible exact rx_all ‹_› hbw)))
              ((go_at_call 30; (with_reducible refine (lies_is x y b h n l _ HRG.out.2.2.1 HI.out.1 HRG.out.2.2.2 HI.out.2 H48.out.1 H48.out.2 HRG.out.1 HRG.out.2.1).mono ?_); rintro e w' ⟨rfl, hbw⟩; rw [HL.out]))
            go_split_ands
            have HX4 : Hid (Rx wr w' x y b h bb off l n f) := ‹_›
            go_wp2_with fail
            go_roundw
            case rel => exact ⟨_, k + 1, rfl, by omega, by go_num, bt HB.out HX4.out.2.2⟩
            case measure => simp [intOf]; omega
          | true =>
            have hl2 : x + b ≤ n ∧ y + h ≤ l := by
              unfold liesB at hl
              simpa only [Bool.and_eq_true, decide_eq_true_eq] using hl
            have hg2 := HRG.out
            obtain ⟨X, rfl⟩ := Int.eq_ofNat_of_zero_le hg2.1
            obtain ⟨Y, rfl⟩ := Int.eq_ofNat_of_zero_le hg2.2.1
            obtain ⟨B, rfl⟩ := Int.eq_ofNat_of_zero_le (show 0 ≤ b by omega)
            obtain ⟨H, rfl⟩ := Int.eq_ofNat_of_zero_le (show 0 ≤ h by omega)
            have HK : Hid ((1 ≤ B ∧ 1 ≤ H) ∧ X + B ≤ n ∧ Y + H ≤ l) := hide ⟨⟨by omega, by omega⟩, by omega, by omega⟩
            have HL := hide hl
            clear hl hl2 hg2
            obtain ⟨R, hR⟩ : ∃ R : Int, Hid (R = rectN (usB f g) X Y B H) := ⟨_, hide rfl⟩
            have HC1 := hide (count_in t sb sc n l X Y B H rb rc _ _ HTx.out HK.out.1.1 HK.out.1.2 HK.out.2.1 HK.out.2.2 HN.out.2.1 HN.out.2.2)
            rw [← hR.out] at HC1
            go_wp2_with fail
            refine HC1.out.mono ?_
            rintro e w2 ⟨rfl, hb⟩
            have HX2 := rx_all HX hb
            obtain ⟨⟨⟨q0, q1⟩, q2, q3⟩, _⟩ := rx_get HX2
            clear hb d0 d1 d2 d3 HC1
            go_wp2_with fail
            refine (rrect_is X Y B H _).mono ?_
            rintro e w3 ⟨rfl, hb⟩
            rw [HRB.out]
            have HX3 := rx_all HX2 hb
            clear hb q0 q1 q2 q3 HX HX2
            go_wp2_with fail
            have HXd := rx_drew HX3
            go_region_held3 (fun W => ((W.cell? ⟨wr.heap.size, 0, none⟩ = some (.int .i64 X) ∧ W.cell? ⟨wr.heap.size, 1, none⟩ = some (.int .i64 Y)) ∧ (W.cell? ⟨wr.heap.size, 2, none⟩ = some (.int .i64 B) ∧ W.cell? ⟨wr.heap.size, 3, none⟩ = some (.int .i64 H))) ∧ W.cell? ⟨bb, off, none⟩ = some (.string (rowS f n 0)) ∧ Hid (Rx wr W X Y B H bb off l n f))
              ((go_split_ands; refine rx_get2 ?_ HN.out.1.2; first | (with_reducible exact HX3) | (with_reducible exact HXd) | (with_reducible exact rx_all ‹_› hbw)))
              ((go_at_call 30; (with_reducible refine (lies_is X Y B H n l _ HRG.out.2.2.1 HI.out.1 HRG.out.2.2.2 HI.out.2 H48.out.1 H48.out.2 HRG.out.1 HRG.out.2.1).mono ?_); rintro e w' ⟨rfl, hbw⟩; rw [HL.out]))
            go_split_ands
            have HX4 : Hid (Rx wr w' X Y B H bb off l n f) := ‹_›
            have HC2 := hide (rcount_is bb off c n l g X Y B H f w' HX4.out.2.1 HD.out HG.out H9.out HK.out.2.1 HK.out.2.2)
            rw [← hR.out] at HC2
            go_wp2_with fail
            refine HC2.out.mono ?_
            rintro e w5 ⟨rfl, hb⟩
            have HX5 := rx_all HX4 hb
            clear hb
            go_wp2_with fail
            go_roundw
            case rel => exact ⟨_, k + 1, rfl, by omega, by go_num, bt HB.out HX5.out.2.2⟩
            case measure => simp [intOf]; omega
    · obtain rfl : k = l' := by omega
      go_wp2_with fail
      refine (awake_any _).mono ?_
      rintro e w2 ⟨rfl, hb⟩
      have HB2 := hide (bt HB1.out (bt HB.out hb)); clear hb
      go_wp2_with fail
      go_ret
      exact ⟨rfl, HB2.out⟩
theorem counts_zero (bb off l c n c' g : Nat) (f : Nat → Nat → UInt8) (a' : Option Addr) (w : World) (hz : ZsAt w bb off l (rowS f n)) (hd : Dim (n, l, f)) (hgd : goodB l (rowS f n) g = true) :
    Calls Try.prog 4 #[.slice (some ⟨bb, off, none⟩) l c, .int .i64 g, .slice a' (0 : Nat) c'] w fun e w' => e = .returned (.bool true) ∧ Below w.heap.size w w' := by
  have HZ := hide hz
  have HGD := hide hgd
  have HD := hide hd
  clear hz hgd hd
  go_enter Try.func4, Try.ntmps4
  go_wp2_with fail
  refine (newTable_is bb off c n l g f _ HZ.out HD.out HGD.out).mono ?_
  rintro e w1 ⟨t, rfl, ht, hb⟩
  have HB1 := hide hb
  have HZ1 := hide (HZ.out.below hb)
  clear ht hb
  go_wp2_with (go_at_call 27; refine (good_is _ l c g _ _ (.inr ⟨bb, off, rfl, HZ1.out⟩)).mono ?_; rintro e w' ⟨rfl, rfl⟩; rw [HGD.out])
  go_loop [40] (fun i => i = .int .i64 0) (fun _ => 0)
  case atStart => rfl
  case round =>
    obtain rfl := hrel
    go_wp2_with fail
    refine (awake_any _).mono ?_
    rintro e w2 ⟨rfl, hb⟩
    have HB2 := hide (bt HB1.out hb); clear hb
    go_wp2_with fail
    go_ret
    exact ⟨rfl, HB2.out⟩
theorem counts_law (a : Option Addr) (l c : Nat) (ss : Nat → ByteArray) (g : Int) (a' : Option Addr) (l' c' : Nat) (rs : Nat → Int × Int × Int × Int) (w : World) (hz : Zs w a l ss) (_ : In64 g) (hr : Rcs w a' l' rs ∧ l' ≤ maxLen) :
    Calls Try.prog 4 #[.slice a l c, .int .i64 g, .slice a' l' c'] w fun e w' => e = .returned (.bool true) ∧ Below w.heap.size w w' := by
  cases hg : goodB l ss g with
  | false => exact counts_no a a' l c l' c' g ss w hz hg
  | true =>
    obtain ⟨hv, g1, g9⟩ := goodB_get hg
    rcases hz with h0 | ⟨bb, off, rfl, hz⟩
    · rw [h0, validB_zero] at hv; cases hv
    · obtain ⟨hs, hd, hdg, hvv⟩ := skin_of c hz hv
      obtain ⟨b0, off0, c0, e, hz'⟩ := hs
      injection e with e1 e2 e3
      injection e1 with e1
      injection e1 with e1 e4
      subst e1 e4 e3
      obtain ⟨G, rfl⟩ := Int.eq_ofNat_of_zero_le (show 0 ≤ g by omega)
      have hgd : goodB l (rowS (skinOf ss l).2.2 (skinOf ss l).1) G = true := goodB_yes hvv g1 g9
      rcases hr.1 with h0 | ⟨b', off', rfl, hrr⟩
      · subst h0
        exact counts_zero bb off l c (skinOf ss l).1 c' G (skinOf ss l).2.2 a' w hz' hd hgd
      · exact counts_yes bb off l c (skinOf ss l).1 b' off' l' c' G (skinOf ss l).2.2 rs w hz' hd hdg hgd hrr hr.2
end Go.Proofs.Ytkajcbjacjfhnaa
