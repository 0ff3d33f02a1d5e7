/- SkinTurns' law. -/
import Derived.Test.YtkajcbjacjfhnaaHi
import Derived.Test.YtkajcbjacjfhnaaGk
set_option linter.unusedVariables false
namespace Go.Proofs.Ytkajcbjacjfhnaa
open Go.RowKit Go.Ab
def rowsOf (ss : Nat → ByteArray) (x y : Nat) : UInt8 := get (ss y) x
theorem row_eq (ss : Nat → ByteArray) (n y : Nat) (h : (ss y).size = n) : rowS (rowsOf ss) n y = ss y := by
  subst h
  apply ByteArray.ext
  apply Array.ext
  · show (rowL _ _ _).toArray.size = _
    rw [List.size_toArray, rowL_len]; rfl
  · intro i h1 h2
    show ((rowL (rowsOf ss) y (ss y).size).toArray)[i]'_ = _
    simp only [rowL, List.getElem_toArray, List.getElem_map, List.getElem_range, rowsOf]
    exact (get_in (s := ss y) (i := i) h2).symm
def skinOf (ss : Nat → ByteArray) (l : Nat) : Nat × Nat × (Nat → Nat → UInt8) := ((ss 0).size, l, rowsOf ss)
theorem skin_of {w : World} {b off l : Nat} {ss : Nat → ByteArray} (c : Nat) (hz : ZsAt w b off l ss) (hv : validB l ss = true) :
    Sp w (.slice (some ⟨b, off, none⟩) l c) (skinOf ss l) ∧ Dim (skinOf ss l) ∧ Dg (skinOf ss l) ∧ validB l (rowS (rowsOf ss) (ss 0).size) = true := by
  obtain ⟨h1, h2, h3, h4, hr⟩ := validB_parts hv
  have hs : ∀ i, i < l → (ss i).size = (ss 0).size := fun i hi => (T_row ss _ l i 0 hr hi).1
  have he : ∀ i, i < l → rowS (rowsOf ss) (ss 0).size i = ss i := fun i hi => row_eq ss _ i (hs i hi)
  refine ⟨⟨b, off, c, rfl, fun i hi => ?_⟩, ⟨⟨h3, h4⟩, h1, h2⟩, fun x y hx hy => ?_, ?_⟩
  · show w.cell? ⟨b, off + i, none⟩ = some (.string (rowS (rowsOf ss) (ss 0).size i)) ∧ (rowS (rowsOf ss) (ss 0).size i).size ≤ maxLen
    rw [he i hi]; exact hz i hi
  · have hx' : x < (ss y).size := by rw [hs y hy]; exact hx
    obtain ⟨d, hd, e⟩ := (T_row ss _ l y x hr hy).2 hx'
    show 48 ≤ (get (ss y) x).toNat ∧ (get (ss y) x).toNat ≤ 57
    rw [← get_in hx', e]; omega
  · have e0 := he 0 (by omega)
    rw [validB_rows h1 h2 (by rw [e0]; exact h3) (by rw [e0]; exact h4), e0]
    unfold rowsB at hr ⊢
    rw [List.all_eq_true] at hr ⊢
    intro i hi
    have hil : i < l := by simpa using hi
    have := hr i hi
    rw [he i hil]; exact this
set_option maxHeartbeats 2000000 in
theorem turns_no (a : Option Addr) (l c : Nat) (k : Int) (ss : Nat → ByteArray) (w : World) (hz : Zs w a l ss) (hv : validB l ss = false) :
    Calls Try.prog 6 #[.slice a l c, .int .i64 k] w fun e w' => e = .returned (.bool true) ∧ Below w.heap.size w w' := by
  have HZ := hide hz; clear hz
  have HV := hide hv; clear hv
  go_enter Try.func6, Try.ntmps6
  go_wp2_with (first | (go_at_call 32; refine (turn_no a l c k ss _ HZ.out HV.out).mono ?_; rintro e w' ⟨rfl, rfl⟩) | (go_at_call 33; refine (rturn_no a l c k ss _ HZ.out HV.out).mono ?_; rintro e w' ⟨rfl, rfl⟩))
  refine (mirror_no a l c ss _ HZ.out HV.out).mono ?_
  rintro e w1 ⟨rfl, hb⟩
  have HB1 := hide hb; clear hb
  have HZ1 := hide (HZ.out.below HB1.out)
  go_wp2_with (go_at_call 35; refine (rmirror_no a l c ss _ HZ1.out HV.out).mono ?_; rintro e w' ⟨rfl, rfl⟩)
  refine (sequal_nil _).mono ?_
  rintro e w2 ⟨rfl, hb⟩
  have HB2 := hide (bt HB1.out hb); clear hb
  go_wp2_with fail
  refine (sequal_nil _).mono ?_
  rintro e w3 ⟨rfl, hb⟩
  have HB3 := hide (bt HB2.out hb); clear hb
  go_wp2_with fail
  refine (awake_any _).mono ?_
  rintro e w4 ⟨rfl, hb⟩
  have HB4 := hide (bt HB3.out hb); clear hb
  go_wp2_with fail
  go_ret
  exact ⟨rfl, HB4.out⟩
set_option maxHeartbeats 2000000 in
theorem turns_yes (v : Value) (p : Nat × Nat × (Nat → Nat → UInt8)) (k : Int) (w : World) (hs : Sp w v p) (hd : Dim p) (hg : Dg p) (hv : validB p.2.1 (rowS p.2.2 p.1) = true) :
    Calls Try.prog 6 #[v, .int .i64 k] w fun e w' => e = .returned (.bool true) ∧ Below w.heap.size w w' := by
  obtain ⟨T, h3, hT⟩ := turns_ex k
  have HK := hide (And.intro h3 hT); clear h3 hT
  have HS := hide hs; clear hs
  have HD := hide hd; clear hd
  have HG := hide hg; clear hg
  have HV := hide hv; clear hv
  go_enter Try.func6, Try.ntmps6
  go_wp2_with fail
  refine (turn_is v p k T _ HK.out.1 HK.out.2 HS.out HD.out HV.out).mono ?_
  rintro e w1 ⟨v1, rfl, hs, hb⟩
  have A1 := hide hs
  have HS1 := hide (HS.out.below hb)
  have HB1 := hide hb
  clear hs hb
  go_wp2_with fail
  refine (rturn_is v p k T _ HK.out.1 HK.out.2 HS1.out HD.out HG.out HV.out).mono ?_
  rintro e w2 ⟨v2, rfl, hs, hb⟩
  have A2 := hide (A1.out.below hb)
  have C2 := hide hs
  have HS2 := hide (HS1.out.below hb)
  have HB2 := hide (bt HB1.out hb)
  clear hs hb
  go_wp2_with fail
  refine (mirror_sp v p _ HS2.out HD.out HV.out).mono ?_
  rintro e w3 ⟨v3, rfl, hs, hb⟩
  have A3 := hide (A2.out.below hb)
  have C3 := hide (C2.out.below hb)
  have E3 := hide hs
  have HS3 := hide (HS2.out.below hb)
  have HB3 := hide (bt HB2.out hb)
  clear hs hb
  go_wp2_with fail
  obtain ⟨n, l, f⟩ := p
  obtain ⟨b, off, c, rfl, hz⟩ := HS3.out
  refine (rmirror_sp b off c n l f _ hz HD.out HG.out HV.out).mono ?_
  rintro e w4 ⟨v4, rfl, hs, hb⟩
  have A4 := hide (A3.out.below hb)
  have C4 := hide (C3.out.below hb)
  have E4 := hide (E3.out.below hb)
  have F4 := hide hs
  have HB4 := hide (bt HB3.out hb)
  clear hs hb
  go_wp2_with fail
  refine (sequal_sp v1 v2 (rots (n, l, f) T) _ (dim_rots HD.out T) A4.out C4.out).mono ?_
  rintro e w5 ⟨rfl, hb⟩
  have E5 := hide (E4.out.below hb)
  have F5 := hide (F4.out.below hb)
  have HB5 := hide (bt HB4.out hb)
  clear hb
  go_wp2_with fail
  refine (sequal_sp v3 v4 (mir (n, l, f)) _ HD.out E5.out F5.out).mono ?_
  rintro e w6 ⟨rfl, hb⟩
  have HB6 := hide (bt HB5.out hb)
  clear hb
  go_wp2_with fail
  refine (awake_any _).mono ?_
  rintro e w7 ⟨rfl, hb⟩
  have HB7 := hide (bt HB6.out hb); clear hb
  go_wp2_with fail
  go_ret
  exact ⟨rfl, HB7.out⟩
theorem turns_law (a : Option Addr) (l c : Nat) (ss : Nat → ByteArray) (k : Int) (w : World) (hz : Zs w a l ss) (_ : In64 k) :
    Calls Try.prog 6 #[.slice a l c, .int .i64 k] w fun e w' => e = .returned (.bool true) ∧ Below w.heap.size w w' := by
  cases hv : validB l ss with
  | false => exact turns_no a l c k ss w hz hv
  | true =>
    rcases hz with h0 | ⟨b, off, rfl, hz⟩
    · rw [h0, validB_zero] at hv; cases hv
    · obtain ⟨h1, h2, h3, h4⟩ := skin_of c hz hv
      exact turns_yes _ (skinOf ss l) k w h1 h2 h3 h4
end Go.Proofs.Ytkajcbjacjfhnaa
