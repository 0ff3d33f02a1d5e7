/- SkinErodes' law. -/
import Derived.Test.YtkajcbjacjfhnaaIr
import Derived.Test.YtkajcbjacjfhnaaHj
set_option linter.unusedVariables false
namespace Go.Proofs.Ytkajcbjacjfhnaa
open Go.RowKit Go.Ab
theorem twin_no {f1 f2 : Nat} {args : Array Value} {w : World} {er : Int}
    (h1 : ∀ W, Below w.heap.size w W → Calls Try.prog f1 args W (Ans QNil er W)) (h2 : ∀ W, Below w.heap.size w W → Calls Try.prog f2 args W (Ans QNil er W)) : Twin f1 f2 args w QNil er :=
  ⟨h1, h2, fun _ _ _ h _ => h, fun W v u hv hu => by rw [hv, hu]; exact sequal_nil W⟩
theorem twin_yes {f1 f2 : Nat} {args : Array Value} {w : World} {p : Nat × Nat × (Nat → Nat → UInt8)} (hd : Dim p)
    (h1 : ∀ W, Below w.heap.size w W → Calls Try.prog f1 args W (Ans (fun W v => Sp W v p) 0 W)) (h2 : ∀ W, Below w.heap.size w W → Calls Try.prog f2 args W (Ans (fun W v => Sp W v p) 0 W)) : Twin f1 f2 args w (fun W v => Sp W v p) 0 :=
  ⟨h1, h2, fun _ _ _ h hb => h.below hb, fun W v u hv hu => sequal_sp v u p W hd hv hu⟩
set_option maxRecDepth 20000 in
set_option maxHeartbeats 4000000 in
theorem erodes_core (v : Value) (k e1 e2 e3 : Int) (Q1 Q2 Q3 : World → Value → Prop) (w : World)
    (t1 : Hid (Twin 43 44 #[v, .int .i64 k] w Q1 e1)) (t2 : Hid (Twin 45 46 #[v, .int .i64 k] w Q2 e2)) (t3 : Hid (Twin 47 48 #[v, .int .i64 k] w Q3 e3)) :
    Calls Try.prog 8 #[v, .int .i64 k] w fun e w' => e = .returned (.bool true) ∧ Below w.heap.size w w' := by
  go_enter Try.func8, Try.ntmps8
  go_wp2_with fail
  refine (t1.out.one _ (Below.refl _ _)).mono ?_
  rintro e w1 ⟨v1, rfl, hq, hb⟩
  have HB1 := hide hb
  have A1 := hide hq
  clear hq hb
  go_wp2_with fail
  refine (t1.out.two _ HB1.out).mono ?_
  rintro e w2 ⟨v2, rfl, hq, hb⟩
  have HB2 := hide (bt HB1.out hb)
  have A2 := hide (t1.out.keep _ _ _ A1.out hb)
  have C2 := hide hq
  clear hq hb HB1 A1
  go_wp2_with fail
  refine (t1.out.same _ _ _ A2.out C2.out).mono ?_
  rintro e w3 ⟨rfl, hb⟩
  have HB3 := hide (bt HB2.out hb)
  clear hb HB2 A2 C2
  go_wp2_with fail
  refine (awake_any _).mono ?_
  rintro e w4 ⟨rfl, hb⟩
  have HB4 := hide (bt HB3.out hb); clear hb HB3
  go_wp2_with fail
  refine (t2.out.one _ HB4.out).mono ?_
  rintro e w1 ⟨v1, rfl, hq, hb⟩
  have HB1 := hide (bt HB4.out hb)
  have A1 := hide hq
  clear hq hb HB4
  go_wp2_with fail
  refine (t2.out.two _ HB1.out).mono ?_
  rintro e w2 ⟨v2, rfl, hq, hb⟩
  have HB2 := hide (bt HB1.out hb)
  have A2 := hide (t2.out.keep _ _ _ A1.out hb)
  have C2 := hide hq
  clear hq hb HB1 A1
  go_wp2_with fail
  refine (t2.out.same _ _ _ A2.out C2.out).mono ?_
  rintro e w3 ⟨rfl, hb⟩
  have HB3 := hide (bt HB2.out hb)
  clear hb HB2 A2 C2
  go_wp2_with fail
  refine (t3.out.one _ HB3.out).mono ?_
  rintro e w1 ⟨v1, rfl, hq, hb⟩
  have HB1 := hide (bt HB3.out hb)
  have A1 := hide hq
  clear hq hb HB3
  go_wp2_with fail
  refine (t3.out.two _ HB1.out).mono ?_
  rintro e w2 ⟨v2, rfl, hq, hb⟩
  have HB2 := hide (bt HB1.out hb)
  have A2 := hide (t3.out.keep _ _ _ A1.out hb)
  have C2 := hide hq
  clear hq hb HB1 A1
  go_wp2_with fail
  refine (t3.out.same _ _ _ A2.out C2.out).mono ?_
  rintro e w3 ⟨rfl, hb⟩
  have HB3 := hide (bt HB2.out hb)
  clear hb HB2 A2 C2
  go_wp2_with fail
  go_ret
  exact ⟨rfl, HB3.out⟩
theorem mor_ref (mn : Bool) (f : Nat → Nat → UInt8) (n l k : Nat) (hg : Dg (n, l, f)) : ∀ x y, x < n → y < l → Best mn (RefP mn f n l k x y) (mor mn f n l k x y).toNat := fun x y hx hy =>
  ref_of_sq (hg x y hx hy).1 hx hy (sq_best mn f n l k x y hx hy)
theorem erode_ok (v : Value) (n l k : Nat) (f : Nat → Nat → UInt8) (w : World) (hs : Sp w v (n, l, f)) (hd : Dim (n, l, f)) (hg : Dg (n, l, f)) (hk : k ≤ 48) : Calls Try.prog 43 #[v, .int .i64 k] w (Ans (fun W v => Sp W v (n, l, mor true f n l k)) 0 w) :=
  erode_of v k 0 _ w (swept_is v n l k 90 true f w hs hd hg pick_min hk)
theorem dilate_ok (v : Value) (n l k : Nat) (f : Nat → Nat → UInt8) (w : World) (hs : Sp w v (n, l, f)) (hd : Dim (n, l, f)) (hg : Dg (n, l, f)) (hk : k ≤ 48) : Calls Try.prog 45 #[v, .int .i64 k] w (Ans (fun W v => Sp W v (n, l, mor false f n l k)) 0 w) :=
  dilate_of v k 0 _ w (swept_is v n l k 92 false f w hs hd hg pick_max hk)
theorem rerode_ok (v : Value) (n l k : Nat) (f : Nat → Nat → UInt8) (w : World) (hs : Sp w v (n, l, f)) (hd : Dim (n, l, f)) (hg : Dg (n, l, f)) (hk : k ≤ 48) : Calls Try.prog 44 #[v, .int .i64 k] w (Ans (fun W v => Sp W v (n, l, mor true f n l k)) 0 w) := by
  obtain ⟨b, off, c, rfl, hz⟩ := hs
  exact rerode_of _ (n, l, f) k _ w ⟨b, off, c, rfl, hz⟩ (valid_dg hd hg) hk (rmorphed_is b off c n l k true f _ w hz hd hg hk (mor_ref true f n l k hg) (dg_mor hg))
theorem rdilate_ok (v : Value) (n l k : Nat) (f : Nat → Nat → UInt8) (w : World) (hs : Sp w v (n, l, f)) (hd : Dim (n, l, f)) (hg : Dg (n, l, f)) (hk : k ≤ 48) : Calls Try.prog 46 #[v, .int .i64 k] w (Ans (fun W v => Sp W v (n, l, mor false f n l k)) 0 w) := by
  obtain ⟨b, off, c, rfl, hz⟩ := hs
  exact rdilate_of _ (n, l, f) k _ w ⟨b, off, c, rfl, hz⟩ (valid_dg hd hg) hk (rmorphed_is b off c n l k false f _ w hz hd hg hk (mor_ref false f n l k hg) (dg_mor hg))
def opn (f : Nat → Nat → UInt8) (n l k : Nat) : Nat → Nat → UInt8 := mor false (mor true f n l k) n l k
theorem open_ok (v : Value) (n l k : Nat) (f : Nat → Nat → UInt8) (w : World) (hs : Sp w v (n, l, f)) (hd : Dim (n, l, f)) (hg : Dg (n, l, f)) (hk : k ≤ 48) : Calls Try.prog 47 #[v, .int .i64 k] w (Ans (fun W v => Sp W v (n, l, opn f n l k)) 0 w) :=
  open_of v k _ _ w (erode_ok v n l k f w hs hd hg hk) (fun W u hq => dilate_ok u n l k _ W hq hd (dg_mor hg) hk)
theorem ropen_ok (v : Value) (n l k : Nat) (f : Nat → Nat → UInt8) (w : World) (hs : Sp w v (n, l, f)) (hd : Dim (n, l, f)) (hg : Dg (n, l, f)) (hk : k ≤ 48) : Calls Try.prog 48 #[v, .int .i64 k] w (Ans (fun W v => Sp W v (n, l, opn f n l k)) 0 w) :=
  ropen_of v k _ _ w (rerode_ok v n l k f w hs hd hg hk) (fun W u hq => rdilate_ok u n l k _ W hq hd (dg_mor hg) hk)
theorem swept_bad (v : Value) (p : Nat × Nat × (Nat → Nat → UInt8)) (gk : Nat) (k : Int) (w : World) (hs : Sp w v p) (hv : validB p.2.1 (rowS p.2.2 p.1) = true) (hk : k < 0 ∨ 48 < k) :
    Calls Try.prog 89 #[v, .int .i64 k, .func (.func gk) #[] #[]] w (Ans QNil 2 w) := by
  rcases hk with hk | hk
  · exact swept_low v p gk k w hs hv hk
  · exact swept_high v p gk k w hs hv hk
theorem erodes_law (a : Option Addr) (l c : Nat) (ss : Nat → ByteArray) (k : Int) (w : World) (hz : Zs w a l ss) (_ : In64 k) :
    Calls Try.prog 8 #[.slice a l c, .int .i64 k] w fun e w' => e = .returned (.bool true) ∧ Below w.heap.size w w' := by
  cases hv : validB l ss with
  | false =>
    have he : ∀ W, Below w.heap.size w W → Calls Try.prog 43 #[.slice a l c, .int .i64 k] W (Ans QNil 2 W) := fun W hb => erode_of _ k 2 _ W (swept_no a l c 90 k ss W (hz.below hb) hv)
    have hr : ∀ W, Below w.heap.size w W → Calls Try.prog 44 #[.slice a l c, .int .i64 k] W (Ans QNil 2 W) := fun W hb => rerode_no a l c k ss W (hz.below hb) hv
    exact erodes_core _ k 2 2 2 QNil QNil QNil w (hide (twin_no he hr))
      (hide (twin_no (fun W hb => dilate_of _ k 2 _ W (swept_no a l c 92 k ss W (hz.below hb) hv)) (fun W hb => rdilate_no a l c k ss W (hz.below hb) hv)))
      (hide (twin_no (fun W hb => open_err _ k W (he W hb)) (fun W hb => ropen_err _ k W (hr W hb))))
  | true =>
    rcases hz with h0 | ⟨bb, off, rfl, hz⟩
    · rw [h0, validB_zero] at hv; cases hv
    · obtain ⟨hs, hd, hg, hvv⟩ := skin_of c hz hv
      have hsW : ∀ W, Below w.heap.size w W → Sp W (.slice (some ⟨bb, off, none⟩) l c) (skinOf ss l) := fun W hb => hs.below hb
      by_cases hk : k < 0 ∨ 48 < k
      · have he : ∀ W, Below w.heap.size w W → Calls Try.prog 43 #[.slice (some ⟨bb, off, none⟩) l c, .int .i64 k] W (Ans QNil 2 W) := fun W hb => erode_of _ k 2 _ W (swept_bad _ (skinOf ss l) 90 k W (hsW W hb) hvv hk)
        have hr : ∀ W, Below w.heap.size w W → Calls Try.prog 44 #[.slice (some ⟨bb, off, none⟩) l c, .int .i64 k] W (Ans QNil 2 W) := fun W hb => rerode_bad _ (skinOf ss l) k W (hsW W hb) hvv hk
        exact erodes_core _ k 2 2 2 QNil QNil QNil w (hide (twin_no he hr))
          (hide (twin_no (fun W hb => dilate_of _ k 2 _ W (swept_bad _ (skinOf ss l) 92 k W (hsW W hb) hvv hk)) (fun W hb => rdilate_bad _ (skinOf ss l) k W (hsW W hb) hvv hk)))
          (hide (twin_no (fun W hb => open_err _ k W (he W hb)) (fun W hb => ropen_err _ k W (hr W hb))))
      · obtain ⟨K, rfl⟩ := Int.eq_ofNat_of_zero_le (show 0 ≤ k by omega)
        have hK : K ≤ 48 := by omega
        exact erodes_core _ K 0 0 0 _ _ _ w
          (hide (twin_yes (p := ((skinOf ss l).1, l, mor true (skinOf ss l).2.2 (skinOf ss l).1 l K)) hd (fun W hb => erode_ok _ _ _ K _ W (hsW W hb) hd hg hK) (fun W hb => rerode_ok _ _ _ K _ W (hsW W hb) hd hg hK)))
          (hide (twin_yes (p := ((skinOf ss l).1, l, mor false (skinOf ss l).2.2 (skinOf ss l).1 l K)) hd (fun W hb => dilate_ok _ _ _ K _ W (hsW W hb) hd hg hK) (fun W hb => rdilate_ok _ _ _ K _ W (hsW W hb) hd hg hK)))
          (hide (twin_yes (p := ((skinOf ss l).1, l, opn (skinOf ss l).2.2 (skinOf ss l).1 l K)) hd (fun W hb => open_ok _ _ _ K _ W (hsW W hb) hd hg hK) (fun W hb => ropen_ok _ _ _ K _ W (hsW W hb) hd hg hK)))
end Go.Proofs.Ytkajcbjacjfhnaa
