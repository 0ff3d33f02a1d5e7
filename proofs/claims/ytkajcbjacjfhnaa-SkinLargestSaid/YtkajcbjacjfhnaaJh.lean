/- SkinLargest's law. -/
import Derived.Test.YtkajcbjacjfhnaaJg
import Derived.Test.YtkajcbjacjfhnaaHj
set_option linter.unusedVariables false
namespace Go.Proofs.Ytkajcbjacjfhnaa
open Go.RowKit Go.Ab
theorem rlargest_no (a : Option Addr) (l c : Nat) (g : Int) (sq : Bool) (ss : Nat → ByteArray) (w : World) (hz : Zs w a l ss) (hgd : goodB l ss g = false) :
    Calls Try.prog 53 #[.slice a l c, .int .i64 g, .bool sq] w fun e w' => e = .returned (.tuple #[.agg #[.int .i64 0, .int .i64 0, .int .i64 0, .int .i64 0], .int .i64 2]) ∧ Below w.heap.size w w' := by
  have hb1 : Below w.heap.size w (w.alloc (.cells #[.int .i64 0, .int .i64 0, .int .i64 0, .int .i64 0] 39)) := (Below.refl _ _).alloc (Nat.le_refl _) _
  have HB := hide hb1
  have HZ := hide (hz.below hb1)
  have HG := hide hgd
  clear hz hgd hb1
  go_enter Try.func53, Try.ntmps53
  go_wp2_with (go_at_call 27; refine (good_is a l c g ss _ HZ.out).mono ?_; rintro e w' ⟨rfl, rfl⟩; rw [HG.out])
  refine bodyPost_ret (v := .tuple #[.agg #[.int .i64 0, .int .i64 0, .int .i64 0, .int .i64 0], .int .i64 2]) (by simp [results, Try.results53, go_sem]) rfl ⟨rfl, HB.out⟩
/-- two functions that answer the same rectangle and error -/
def Rt2 (f : Nat) (args : Array Value) (w : World) (Q : Array Value → Prop) : Prop := ∀ W, Below w.heap.size w W → Calls Try.prog f args W fun e w' => ∃ t, e = .returned (.tuple t) ∧ Q t ∧ Below W.heap.size W w'
def Only (Q : Array Value → Prop) : Prop := (∀ t, Q t → ∃ x y b h e : Int, t = #[.agg #[.int .i64 x, .int .i64 y, .int .i64 b, .int .i64 h], .int .i64 e]) ∧ ∀ s t, Q s → Q t → s = t
set_option maxRecDepth 20000 in
set_option maxHeartbeats 4000000 in
theorem largest_core (v : Value) (g : Int) (Q1 Q2 : Array Value → Prop) (w : World) (o1 : Hid (Only Q1)) (o2 : Hid (Only Q2)) (t1 : Hid (Rt2 52 #[v, .int .i64 g] w Q1)) (t2 : Hid (Rt2 53 #[v, .int .i64 g, .bool false] w Q1)) (t3 : Hid (Rt2 54 #[v, .int .i64 g] w Q2)) (t4 : Hid (Rt2 53 #[v, .int .i64 g, .bool true] w Q2)) :
    Calls Try.prog 12 #[v, .int .i64 g] w fun e w' => e = .returned (.bool true) ∧ Below w.heap.size w w' := by
  go_enter Try.func12, Try.ntmps12
  go_wp2_with fail
  refine (t1.out _ (Below.refl _ _)).mono ?_
  rintro e w1 ⟨t, rfl, hq, hb⟩
  obtain ⟨x, y, b, h, er, rfl⟩ := o1.out.1 _ hq
  have HQ1 := hide hq
  have hb1 : Below w.heap.size w (w1.alloc (.cells #[.int .i64 x, .int .i64 y, .int .i64 b, .int .i64 h] 39)) := ba hb hb.size _
  have HB1 := hide hb1
  have R1 := hide (rx_new w1 x y b h)
  clear hq hb hb1
  go_wp2_with fail
  refine (t2.out _ HB1.out).mono ?_
  rintro e w2 ⟨t, rfl, hq, hb⟩
  obtain rfl := o1.out.2 _ _ hq HQ1.out
  have hbA : Below (w1.alloc (.cells #[.int .i64 x, .int .i64 y, .int .i64 b, .int .i64 h] 39)).heap.size (w1.alloc (.cells #[.int .i64 x, .int .i64 y, .int .i64 b, .int .i64 h] 39)) (w2.alloc (.cells #[.int .i64 x, .int .i64 y, .int .i64 b, .int .i64 h] 39)) := ba hb hb.size _
  have HB2 := hide (bt HB1.out hbA)
  have R2 := hide (rx_step R1.out hbA)
  have S2 := hide (rx_new w2 x y b h)
  clear hq hb hbA R1 HB1
  go_wp2_with fail
  refine (t3.out _ HB2.out).mono ?_
  rintro e w3 ⟨t, rfl, hq, hb⟩
  obtain ⟨x', y', b', h', er', rfl⟩ := o2.out.1 _ hq
  have HQ2 := hide hq
  have hbA : Below (w2.alloc (.cells #[.int .i64 x, .int .i64 y, .int .i64 b, .int .i64 h] 39)).heap.size (w2.alloc (.cells #[.int .i64 x, .int .i64 y, .int .i64 b, .int .i64 h] 39)) (w3.alloc (.cells #[.int .i64 x', .int .i64 y', .int .i64 b', .int .i64 h'] 39)) := ba hb hb.size _
  have HB3 := hide (bt HB2.out hbA)
  have R3 := hide (rx_step R2.out hbA)
  have S3 := hide (rx_step S2.out hbA)
  have T3 := hide (rx_new w3 x' y' b' h')
  clear hq hb hbA R2 S2 HB2
  go_wp2_with fail
  refine (t4.out _ HB3.out).mono ?_
  rintro e w4 ⟨t, rfl, hq, hb⟩
  obtain rfl := o2.out.2 _ _ hq HQ2.out
  have hbA : Below (w3.alloc (.cells #[.int .i64 x', .int .i64 y', .int .i64 b', .int .i64 h'] 39)).heap.size (w3.alloc (.cells #[.int .i64 x', .int .i64 y', .int .i64 b', .int .i64 h'] 39)) (w4.alloc (.cells #[.int .i64 x', .int .i64 y', .int .i64 b', .int .i64 h'] 39)) := ba hb hb.size _
  have HB4 := hide (bt HB3.out hbA)
  have R4' := hide (rx_step R3.out hbA)
  have S4 := hide (rx_step S3.out hbA)
  have T4 := hide (rx_step T3.out hbA)
  have U4 := hide (rx_new w4 x' y' b' h')
  clear hq hb hbA R3 S3 T3 HB3
  obtain ⟨⟨k0, k1⟩, k2, k3⟩ := R4'.out
  obtain ⟨⟨m0, m1⟩, m2, m3⟩ := S4.out
  obtain ⟨⟨n0, n1⟩, n2, n3⟩ := T4.out
  obtain ⟨⟨p0, p1⟩, p2, p3⟩ := U4.out
  go_wp2_with fail
  refine (awake_any _).mono ?_
  rintro e w5 ⟨rfl, hb⟩
  have HB5 := hide (bt HB4.out hb); clear hb
  go_wp2_with fail
  go_ret
  exact ⟨rfl, HB5.out⟩
theorem only_gr (sq : Bool) (u : Nat → Nat → Bool) (n l : Nat) : Only fun t => ∃ b, t = grV b ∧ Top (FullS sq u n l) b :=
  ⟨fun t ⟨b, h, _⟩ => by rw [h]; exact grV_ex b, fun s t ⟨b, h, hb⟩ ⟨c, k, hc⟩ => by
    rw [h, k, top_unique (fun r hr => hr.1.1.1) hb hc]⟩
theorem only_err : Only fun t => t = #[.agg #[.int .i64 0, .int .i64 0, .int .i64 0, .int .i64 0], .int .i64 2] :=
  ⟨fun t h => ⟨0, 0, 0, 0, 2, h⟩, fun s t h k => by rw [h, k]⟩
theorem gr_rt {sq : Bool} {u : Nat → Nat → Bool} {n l f : Nat} {args : Array Value} {W : World} (h : Calls Try.prog f args W (Gr sq u n l W)) : Calls Try.prog f args W fun e w' => ∃ t, e = .returned (.tuple t) ∧ (∃ b, t = grV b ∧ Top (FullS sq u n l) b) ∧ Below W.heap.size W w' :=
  h.mono fun e w' ⟨b, h1, h2, h3⟩ => ⟨_, h1, ⟨b, rfl, h2⟩, h3⟩
theorem largest_law (a : Option Addr) (l c : Nat) (ss : Nat → ByteArray) (g : Int) (w : World) (hz : Zs w a l ss) (_ : In64 g) :
    Calls Try.prog 12 #[.slice a l c, .int .i64 g] w fun e w' => e = .returned (.bool true) ∧ Below w.heap.size w w' := by
  cases hgb : goodB l ss g with
  | false =>
    have hno : ∀ gs W, Below w.heap.size w W → Calls Try.prog 98 #[.slice a l c, .int .i64 g, .func (.func gs) #[] #[]] W fun e w' => ∃ t, e = .returned (.tuple t) ∧ t = #[.agg #[.int .i64 0, .int .i64 0, .int .i64 0, .int .i64 0], .int .i64 2] ∧ Below W.heap.size W w' := fun gs W hb =>
      (greatest_no a l c gs g ss W (hz.below hb) hgb).mono fun e w' ⟨h1, h2⟩ => ⟨_, h1, rfl, h2⟩
    have hrf : ∀ sq, Rt2 53 #[.slice a l c, .int .i64 g, .bool sq] w (fun t => t = #[.agg #[.int .i64 0, .int .i64 0, .int .i64 0, .int .i64 0], .int .i64 2]) := fun sq W hb =>
      (rlargest_no a l c g sq ss W (hz.below hb) hgb).mono fun e w' ⟨h1, h2⟩ => ⟨_, h1, rfl, h2⟩
    exact largest_core _ g _ _ w (hide only_err) (hide only_err) (hide fun W hb => largest_of _ g _ W only_err.1 (fun W' hb' => hno 99 W' (bt hb hb'))) (hide (hrf false)) (hide fun W hb => square_of _ g _ W only_err.1 (fun W' hb' => hno 102 W' (bt hb hb'))) (hide (hrf true))
  | true =>
    obtain ⟨hv, g1, g9⟩ := goodB_get hgb
    rcases hz with h0 | ⟨bb, off, rfl, hz⟩
    · rw [h0, validB_zero] at hv; cases hv
    · obtain ⟨hs, hd, hdg, hvv⟩ := skin_of c hz hv
      obtain ⟨b0, off0, c0, e, hz'⟩ := hs
      injection e with e1 e2 e3
      injection e1 with e1
      injection e1 with e1 e4
      subst e1 e4 e3
      obtain ⟨G, rfl⟩ := Int.eq_ofNat_of_zero_le (show 0 ≤ g by omega)
      have hgd : goodB l (rowS (skinOf ss l).2.2 (skinOf ss l).1) G = true := goodB_yes hvv g1 g9
      have hrf : ∀ sq, Rt2 53 #[.slice (some ⟨bb, off, none⟩) l c, .int .i64 G, .bool sq] w (fun t => ∃ b, t = grV b ∧ Top (FullS sq (usB (skinOf ss l).2.2 G) (skinOf ss l).1 l) b) := fun sq W hb =>
        gr_rt (rlargest_is bb off l c _ G sq _ W (ZsAt.below hz' hb) hd hdg hgd)
      have hpr : ∀ gs sq, Shape gs sq → ∀ W, Below w.heap.size w W → Calls Try.prog 98 #[.slice (some ⟨bb, off, none⟩) l c, .int .i64 G, .func (.func gs) #[] #[]] W fun e w' => ∃ t, e = .returned (.tuple t) ∧ (∃ b, t = grV b ∧ Top (FullS sq (usB (skinOf ss l).2.2 G) (skinOf ss l).1 l) b) ∧ Below W.heap.size W w' := fun gs sq hsh W hb =>
        gr_rt (greatest_is gs bb off l c _ G sq _ W (ZsAt.below hz' hb) hd hgd hsh)
      exact largest_core _ G _ _ w (hide (only_gr false _ _ _)) (hide (only_gr true _ _ _)) (hide fun W hb => largest_of _ G _ W (only_gr false _ _ _).1 (fun W' hb' => hpr 99 false shape_id W' (bt hb hb'))) (hide (hrf false))
        (hide fun W hb => square_of _ G _ W (only_gr true _ _ _).1 (fun W' hb' => hpr 102 true shape_sq W' (bt hb hb'))) (hide (hrf true))
end Go.Proofs.Ytkajcbjacjfhnaa
