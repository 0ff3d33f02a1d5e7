/- Clone and Turn. -/
import Derived.Test.YtkajcbjacjfhnaaHd
set_option linter.unusedVariables false
namespace Go.Proofs.Ytkajcbjacjfhnaa
open Go.RowKit Go.Ab
theorem strs_get (f : Nat → Nat → UInt8) (n l i : Nat) (h : i < l) : (strs f n l)[i]? = some (.string (rowS f n i)) := by
  unfold strs; rw [List.getElem?_map, List.getElem?_range h]; rfl
set_option maxRecDepth 20000 in
set_option maxHeartbeats 2000000 in
theorem clone_is (b off l c n : Nat) (f : Nat → Nat → UInt8) (w : World) (hz : ZsAt w b off l (rowS f n)) (h1 : 1 ≤ l) (h2 : l ≤ 48) (h3 : n ≤ 48) :
    Calls Try.prog 51 #[.slice (some ⟨b, off, none⟩) l c] w fun e w' => ∃ v, e = .returned v ∧ Sk w' v n l f ∧ Below w.heap.size w w' := by
  obtain ⟨i9, hi9, hz9, hs9, hb9⟩ := info_parts Try.info9
  have H := hide (And.intro h1 (And.intro h2 h3))
  have HB : Hid (Below w.heap.size w (w.alloc (.cells #[] 9))) := hide ((Below.refl _ _).alloc (Nat.le_refl _) _)
  have HZ := hide (hz.below HB.out)
  have HO : Hid ((w.alloc (.cells #[] 9)).ownsRow w.heap.size 9 1 (.slice (some ⟨w.heap.size, 0, none⟩) 0 0) 0 []) := hide (World.ownsRow_lit w #[] 0 (Nat.le_refl _) (by unfold maxLen; omega) (by simp))
  clear hz
  have heq : ∀ w, (binOp .eql 22 (.slice (some ⟨b, off, none⟩) l c) (.slice none 0 0)).run Try.prog w = .ok (.bool false) w := fun _ => by kernel_rfl
  go_enter Try.func51, Try.ntmps51
  go_wp2_with (at_builtin; refine wpList_append_own _ rfl _ _ 22 rfl w.heap.size 9 i9 (.string ByteArray.empty) 1 16 Try.underlying22 hi9 hz9 hs9 hb9 rfl (by decide) _ _ _ rfl HO.out ⟨b, off, none⟩ l c (strs f n l) rfl (by rw [strs_len]; omega) ?d1 ?d2 ?d3 ?d4 ?d5 ?_)
  case d1 =>
    intro j u hj
    by_cases hjl : j < l
    · rw [strs_get f n l j hjl] at hj
      cases hj
      rw [Go.WideShapes.add_plain]
      exact (HZ.out j hjl).1
    · rw [List.getElem?_eq_none (by rw [strs_len]; omega)] at hj; cases hj
  case d2 => intro u hu; unfold strs at hu; simp at hu; obtain ⟨_, _, rfl⟩ := hu; rfl
  case d3 => unfold maxLen; omega
  case d4 => omega
  case d5 => simp
  intro v' w7 hown hgrow _
  have HS : Hid (Sk w7 v' n l f) := hide (sk_of_owns hown H.out.1 H.out.2.2)
  have HB2 := hide (HB.out.grown hgrow (by simp) (fun q hq => (HO.out.lt q hq).1))
  clear hown hgrow
  go_wp2_with fail
  go_ret
  exact ⟨_, rfl, HS.out, HB2.out⟩
def rot1 (p : Nat × Nat × (Nat → Nat → UInt8)) : Nat × Nat × (Nat → Nat → UInt8) := (p.2.1, p.1, fun x y => p.2.2 y (p.2.1 - 1 - x))
def rots (p : Nat × Nat × (Nat → Nat → UInt8)) : Nat → Nat × Nat × (Nat → Nat → UInt8)
  | 0 => p
  | k + 1 => rot1 (rots p k)
/-- a skin by its three -/
def Sp (w : World) (v : Value) (p : Nat × Nat × (Nat → Nat → UInt8)) : Prop := Sk w v p.1 p.2.1 p.2.2
def Dim (p : Nat × Nat × (Nat → Nat → UInt8)) : Prop := (1 ≤ p.1 ∧ p.1 ≤ 48) ∧ 1 ≤ p.2.1 ∧ p.2.1 ≤ 48
theorem dim_rots {p : Nat × Nat × (Nat → Nat → UInt8)} (h : Dim p) : ∀ k, Dim (rots p k)
  | 0 => h
  | k + 1 => ⟨(dim_rots h k).2, (dim_rots h k).1⟩
theorem turned_sp (v : Value) (p : Nat × Nat × (Nat → Nat → UInt8)) (w : World) (hs : Sp w v p) (hd : Dim p) :
    Calls Try.prog 73 #[v] w fun e w' => ∃ v', e = .returned v' ∧ Sp w' v' (rot1 p) ∧ Below w.heap.size w w' := by
  obtain ⟨b, off, c, rfl, hz⟩ := hs
  exact turned_is b off p.2.1 c p.1 p.2.2 w hz hd.2.1 hd.2.2 hd.1.2 hd.1.1
theorem turns_ex (k : Int) : ∃ T : Nat, T ≤ 3 ∧ (wrap64 (k.tmod 4 + 4)).tmod 4 = (T : Int) := by
  have h1 : -4 < k.tmod 4 ∧ k.tmod 4 < 4 := ⟨Int.lt_tmod_of_pos _ (by omega), Int.tmod_lt_of_pos _ (by omega)⟩
  rw [IntWalk.wrap64_in _ (by omega), Int.tmod_eq_emod_of_nonneg (by omega)]
  exact ⟨((k.tmod 4 + 4) % 4).toNat, by omega, by omega⟩
theorem clone_sp (v : Value) (p : Nat × Nat × (Nat → Nat → UInt8)) (w : World) (hs : Sp w v p) (hd : Dim p) :
    Calls Try.prog 51 #[v] w fun e w' => ∃ v', e = .returned v' ∧ Sp w' v' p ∧ Below w.heap.size w w' := by
  obtain ⟨b, off, c, rfl, hz⟩ := hs
  exact clone_is b off p.2.1 c p.1 p.2.2 w hz hd.2.1 hd.2.2 hd.1.2
theorem valid_sp (v : Value) (p : Nat × Nat × (Nat → Nat → UInt8)) (w : World) (hs : Sp w v p) (hv : validB p.2.1 (rowS p.2.2 p.1) = true) :
    Calls Try.prog 22 #[v] w fun e w' => e = .returned (.bool true) ∧ w = w' := by
  obtain ⟨b, off, c, rfl, hz⟩ := hs
  rw [← hv]
  exact valid_any b off p.2.1 c _ w hz
set_option maxRecDepth 20000 in
set_option maxHeartbeats 2000000 in
theorem turn_is (v : Value) (p : Nat × Nat × (Nat → Nat → UInt8)) (k : Int) (T : Nat) (w : World) (h3 : T ≤ 3) (hT : (wrap64 (k.tmod 4 + 4)).tmod 4 = (T : Int)) (hs : Sp w v p) (hd : Dim p) (hv : validB p.2.1 (rowS p.2.2 p.1) = true) :
    Calls Try.prog 32 #[v, .int .i64 k] w fun e w' => ∃ v, e = .returned (.tuple #[v, .int .i64 0]) ∧ Sp w' v (rots p T) ∧ Below w.heap.size w w' := by
  have HZ := hide hs; clear hs
  have HV := hide hv; clear hv
  have HD := hide hd; clear hd
  go_enter Try.func32, Try.ntmps32
  go_wp2_with (go_at_call 22; refine (valid_sp v p _ HZ.out HV.out).mono ?_; rintro e w' ⟨rfl, rfl⟩)
  refine (clone_sp v p _ HZ.out HD.out).mono ?_
  rintro e w1 ⟨v1, rfl, hs, hb⟩
  have HS1 := hide hs
  have HB1 := hide hb
  clear hs hb
  go_wp2_with fail
  go_loopw [7, 18] (fun s i wr => ∃ (s7 : Value) (wq : World) (j : Nat), s7 = s ∧ wq = wr ∧ j ≤ T ∧ i = .int .i64 j ∧ Sp wr s (rots p j) ∧ Below w.heap.size w wr) (fun _ i _ => T - (intOf i).toNat)
  case atStart => exact ⟨_, _, 0, rfl, rfl, Nat.zero_le _, rfl, HS1.out, HB1.out⟩
  case round =>
    clear HS1 HB1
    obtain ⟨s7, wr, j, rfl, rfl, hj, rfl, hs, hb⟩ := hrel
    have HS := hide hs
    have HB := hide hb
    clear hs hb
    by_cases hlt : j < T
    · have hlt2 : (j : Int) < (T : Int) := by omega
      go_wp2_with fail
      refine (turned_sp _ _ _ HS.out (dim_rots HD.out j)).mono ?_
      rintro e w2 ⟨v2, rfl, hs, hb⟩
      have HS2 := hide hs
      have HB2 := hide (bt HB.out hb)
      clear hs hb
      go_wp2_with fail
      go_roundw
      case rel => exact ⟨_, _, j + 1, rfl, rfl, by omega, by go_num, HS2.out, HB2.out⟩
      case measure => simp [intOf]; omega
    · obtain rfl : j = T := by omega
      go_wp2_with fail
      refine bodyPost_ret (v := .tuple #[s7, .int .i64 0]) (by simp [results, Try.results32, go_sem]) rfl ⟨s7, rfl, HS.out, HB.out⟩
end Go.Proofs.Ytkajcbjacjfhnaa
