/- The refusals of Crop and Punch; SkinCrops' law. -/
import Derived.Test.YtkajcbjacjfhnaaId
set_option linter.unusedVariables false
namespace Go.Proofs.Ytkajcbjacjfhnaa
open Go.RowKit Go.Ab
set_option maxHeartbeats 1000000 in
theorem crop_err (a : Option Addr) (l c : Nat) (x y b h er : Int) (w : World) (hne : (er != 0) = true)
    (hw : ∀ W, Below w.heap.size w W → Calls Try.prog 77 #[.slice a l c, .agg #[.int .i64 x, .int .i64 y, .int .i64 b, .int .i64 h]] W fun e w' => e = .returned (.int .i64 er) ∧ Below W.heap.size W w') :
    Calls Try.prog 37 #[.slice a l c, .agg #[.int .i64 x, .int .i64 y, .int .i64 b, .int .i64 h]] w fun e w' => e = .returned (.tuple #[.slice none 0 0, .int .i64 er]) ∧ Below w.heap.size w w' := by
  have hB : Below w.heap.size w ((w.alloc (.cells #[.slice a l c] 22)).alloc (.cells #[.int .i64 x, .int .i64 y, .int .i64 b, .int .i64 h] 39)) := ((Below.refl _ _).alloc (Nat.le_refl _) _).alloc (by simp) _
  have HB := hide hB
  have HW := hide (hw _ hB)
  clear hw hB
  go_enter Try.func37, Try.ntmps37
  go_wp2_with fail
  refine HW.out.mono ?_
  rintro e w1 ⟨rfl, hb⟩
  have HB1 := hide (bt HB.out hb); clear hb HW
  go_wp2_with fail
  go_ret2
  exact ⟨rfl, HB1.out⟩
set_option maxHeartbeats 1000000 in
theorem punch_err (a : Option Addr) (l c : Nat) (x y b h er : Int) (w : World) (hne : (er != 0) = true)
    (hw : ∀ W, Below w.heap.size w W → Calls Try.prog 77 #[.slice a l c, .agg #[.int .i64 x, .int .i64 y, .int .i64 b, .int .i64 h]] W fun e w' => e = .returned (.int .i64 er) ∧ Below W.heap.size W w') :
    Calls Try.prog 39 #[.slice a l c, .agg #[.int .i64 x, .int .i64 y, .int .i64 b, .int .i64 h]] w fun e w' => e = .returned (.tuple #[.slice none 0 0, .int .i64 er]) ∧ Below w.heap.size w w' := by
  have hB : Below w.heap.size w ((w.alloc (.cells #[.slice a l c] 22)).alloc (.cells #[.int .i64 x, .int .i64 y, .int .i64 b, .int .i64 h] 39)) := ((Below.refl _ _).alloc (Nat.le_refl _) _).alloc (by simp) _
  have HB := hide hB
  have HW := hide (hw _ hB)
  clear hw hB
  go_enter Try.func39, Try.ntmps39
  go_wp2_with fail
  refine HW.out.mono ?_
  rintro e w1 ⟨rfl, hb⟩
  have HB1 := hide (bt HB.out hb); clear hb HW
  go_wp2_with fail
  go_ret2
  exact ⟨rfl, HB1.out⟩
set_option maxHeartbeats 1000000 in
theorem rcrop_err (a : Option Addr) (l c : Nat) (x y b h er : Int) (w : World) (hne : (er != 0) = true)
    (hw : ∀ W, Below w.heap.size w W → Calls Try.prog 79 #[.slice a l c, .agg #[.int .i64 x, .int .i64 y, .int .i64 b, .int .i64 h]] W fun e w' => e = .returned (.int .i64 er) ∧ Below W.heap.size W w') :
    Calls Try.prog 38 #[.slice a l c, .agg #[.int .i64 x, .int .i64 y, .int .i64 b, .int .i64 h]] w fun e w' => e = .returned (.tuple #[.slice none 0 0, .int .i64 er]) ∧ Below w.heap.size w w' := by
  have hB : Below w.heap.size w (w.alloc (.cells #[.int .i64 x, .int .i64 y, .int .i64 b, .int .i64 h] 39)) := (Below.refl _ _).alloc (Nat.le_refl _) _
  have HB := hide hB
  have HW := hide (hw _ hB)
  clear hw hB
  go_enter Try.func38, Try.ntmps38
  go_wp2_with fail
  refine HW.out.mono ?_
  rintro e w1 ⟨rfl, hb⟩
  have HB1 := hide (bt HB.out hb); clear hb HW
  go_wp2_with fail
  go_ret2
  exact ⟨rfl, HB1.out⟩
set_option maxHeartbeats 1000000 in
theorem rpunch_err (a : Option Addr) (l c : Nat) (x y b h er : Int) (w : World) (hne : (er != 0) = true)
    (hw : ∀ W, Below w.heap.size w W → Calls Try.prog 79 #[.slice a l c, .agg #[.int .i64 x, .int .i64 y, .int .i64 b, .int .i64 h]] W fun e w' => e = .returned (.int .i64 er) ∧ Below W.heap.size W w') :
    Calls Try.prog 40 #[.slice a l c, .agg #[.int .i64 x, .int .i64 y, .int .i64 b, .int .i64 h]] w fun e w' => e = .returned (.tuple #[.slice none 0 0, .int .i64 er]) ∧ Below w.heap.size w w' := by
  have hB : Below w.heap.size w (w.alloc (.cells #[.int .i64 x, .int .i64 y, .int .i64 b, .int .i64 h] 39)) := (Below.refl _ _).alloc (Nat.le_refl _) _
  have HB := hide hB
  have HW := hide (hw _ hB)
  clear hw hB
  go_enter Try.func40, Try.ntmps40
  go_wp2_with fail
  refine HW.out.mono ?_
  rintro e w1 ⟨rfl, hb⟩
  have HB1 := hide (bt HB.out hb); clear hb HW
  go_wp2_with fail
  go_ret2
  exact ⟨rfl, HB1.out⟩
/-- two functions that answer the same skin and error -/
structure Twin (f1 f2 : Nat) (args : Array Value) (w : World) (Q : World → Value → Prop) (er : Int) : Prop where
  one : ∀ W, Below w.heap.size w W → Calls Try.prog f1 args W fun e w' => ∃ v, e = .returned (.tuple #[v, .int .i64 er]) ∧ Q w' v ∧ Below W.heap.size W w'
  two : ∀ W, Below w.heap.size w W → Calls Try.prog f2 args W fun e w' => ∃ v, e = .returned (.tuple #[v, .int .i64 er]) ∧ Q w' v ∧ Below W.heap.size W w'
  keep : ∀ W W' v, Q W v → Below W.heap.size W W' → Q W' v
  same : ∀ W v u, Q W v → Q W u → Calls Try.prog 36 #[v, u] W fun e w' => e = .returned (.bool true) ∧ Below W.heap.size W w'
def QNil (W : World) (v : Value) : Prop := v = .slice none 0 0
theorem twin_nil {f1 f2 : Nat} {args : Array Value} {w : World} {er : Int}
    (h1 : ∀ W, Below w.heap.size w W → Calls Try.prog f1 args W fun e w' => e = .returned (.tuple #[.slice none 0 0, .int .i64 er]) ∧ Below W.heap.size W w')
    (h2 : ∀ W, Below w.heap.size w W → Calls Try.prog f2 args W fun e w' => e = .returned (.tuple #[.slice none 0 0, .int .i64 er]) ∧ Below W.heap.size W w') : Twin f1 f2 args w QNil er :=
  ⟨fun W hb => (h1 W hb).mono fun e w' ⟨h, hb⟩ => ⟨_, h, rfl, hb⟩, fun W hb => (h2 W hb).mono fun e w' ⟨h, hb⟩ => ⟨_, h, rfl, hb⟩, fun _ _ _ h _ => h, fun W v u hv hu => by rw [hv, hu]; exact sequal_nil W⟩
theorem twin_sp {f1 f2 : Nat} {args : Array Value} {w : World} {p : Nat × Nat × (Nat → Nat → UInt8)} (hd : Dim p)
    (h1 : ∀ W, Below w.heap.size w W → Calls Try.prog f1 args W fun e w' => ∃ v, e = .returned (.tuple #[v, .int .i64 0]) ∧ Sp w' v p ∧ Below W.heap.size W w')
    (h2 : ∀ W, Below w.heap.size w W → Calls Try.prog f2 args W fun e w' => ∃ v, e = .returned (.tuple #[v, .int .i64 0]) ∧ Sp w' v p ∧ Below W.heap.size W w') : Twin f1 f2 args w (fun W v => Sp W v p) 0 :=
  ⟨h1, h2, fun _ _ _ h hb => h.below hb, fun W v u hv hu => sequal_sp v u p W hd hv hu⟩
/-- the law's walk -/
def Fst (args : Array Value) (w : World) (f : Nat) (x y b h er : Int) : Prop := ∀ W, Below w.heap.size w W → Calls Try.prog f args W fun e w' => e = .returned (.tuple #[.agg #[.int .i64 x, .int .i64 y, .int .i64 b, .int .i64 h], .int .i64 er]) ∧ Below W.heap.size W w'
set_option maxRecDepth 20000 in
set_option maxHeartbeats 4000000 in
theorem crops_core (a : Option Addr) (l c : Nat) (x y b h e1 e2 e3 x' y' b' h' : Int) (Q1 Q2 : World → Value → Prop) (w : World)
    (t1 : Hid (Twin 37 38 #[.slice a l c, .agg #[.int .i64 x, .int .i64 y, .int .i64 b, .int .i64 h]] w Q1 e1))
    (t2 : Hid (Twin 39 40 #[.slice a l c, .agg #[.int .i64 x, .int .i64 y, .int .i64 b, .int .i64 h]] w Q2 e2))
    (t3 : Hid (Fst #[.slice a l c] w 41 x' y' b' h' e3)) (t4 : Hid (Fst #[.slice a l c] w 42 x' y' b' h' e3)) :
    Calls Try.prog 7 #[.slice a l c, .agg #[.int .i64 x, .int .i64 y, .int .i64 b, .int .i64 h]] w fun e w' => e = .returned (.bool true) ∧ Below w.heap.size w w' := by
  have HB : Hid (Below w.heap.size w (w.alloc (.cells #[.int .i64 x, .int .i64 y, .int .i64 b, .int .i64 h] 39))) := hide ((Below.refl _ _).alloc (Nat.le_refl _) _)
  have HR := hide (rx_new w x y b h)
  go_enter Try.func7, Try.ntmps7
  go_wp2_with fail
  refine (t1.out.one _ HB.out).mono ?_
  rintro e w1 ⟨v1, rfl, hq, hb⟩
  have HB1 := hide (bt HB.out hb)
  have HR1 := hide (rx_step HR.out hb)
  have A1 := hide hq
  clear hq hb HB HR
  obtain ⟨⟨q1, q2⟩, q3, q4⟩ := HR1.out
  go_wp2_with fail
  refine (t1.out.two _ HB1.out).mono ?_
  rintro e w2 ⟨v2, rfl, hq, hb⟩
  have HB2 := hide (bt HB1.out hb)
  have HR2 := hide (rx_step HR1.out hb)
  have A2 := hide (t1.out.keep _ _ _ A1.out hb)
  have C2 := hide hq
  clear hq hb HB1 HR1 A1 q1 q2 q3 q4
  obtain ⟨⟨q1, q2⟩, q3, q4⟩ := HR2.out
  go_wp2_with fail
  refine (t2.out.one _ HB2.out).mono ?_
  rintro e w3 ⟨v3, rfl, hq, hb⟩
  have HB3 := hide (bt HB2.out hb)
  have HR3 := hide (rx_step HR2.out hb)
  have A3 := hide (t1.out.keep _ _ _ A2.out hb)
  have C3 := hide (t1.out.keep _ _ _ C2.out hb)
  have D3 := hide hq
  clear hq hb HB2 HR2 A2 C2 q1 q2 q3 q4
  obtain ⟨⟨q1, q2⟩, q3, q4⟩ := HR3.out
  go_wp2_with fail
  refine (t2.out.two _ HB3.out).mono ?_
  rintro e w4 ⟨v4, rfl, hq, hb⟩
  have HB4 := hide (bt HB3.out hb)
  have A4 := hide (t1.out.keep _ _ _ A3.out hb)
  have C4 := hide (t1.out.keep _ _ _ C3.out hb)
  have D4 := hide (t2.out.keep _ _ _ D3.out hb)
  have F4 := hide hq
  clear hq hb HB3 HR3 A3 C3 D3 q1 q2 q3 q4
  go_wp2_with fail
  refine (t3.out _ HB4.out).mono ?_
  rintro e w5 ⟨rfl, hb⟩
  have hb5 : Below w4.heap.size w4 (w5.alloc (.cells #[.int .i64 x', .int .i64 y', .int .i64 b', .int .i64 h'] 39)) := ba hb (by have := hb.size; omega) _
  have HB5 := hide (bt HB4.out hb5)
  have A5 := hide (t1.out.keep _ _ _ A4.out hb5)
  have C5 := hide (t1.out.keep _ _ _ C4.out hb5)
  have D5 := hide (t2.out.keep _ _ _ D4.out hb5)
  have F5 := hide (t2.out.keep _ _ _ F4.out hb5)
  have R5 := hide (rx_new w5 x' y' b' h')
  clear hb hb5 HB4 A4 C4 D4 F4
  go_wp2_with fail
  refine (t4.out _ HB5.out).mono ?_
  rintro e w6 ⟨rfl, hb⟩
  have hb6 : Below (w5.alloc (.cells #[.int .i64 x', .int .i64 y', .int .i64 b', .int .i64 h'] 39)).heap.size (w5.alloc (.cells #[.int .i64 x', .int .i64 y', .int .i64 b', .int .i64 h'] 39)) (w6.alloc (.cells #[.int .i64 x', .int .i64 y', .int .i64 b', .int .i64 h'] 39)) := ba hb (by have := hb.size; omega) _
  have HB6 := hide (bt HB5.out hb6)
  have A6 := hide (t1.out.keep _ _ _ A5.out hb6)
  have C6 := hide (t1.out.keep _ _ _ C5.out hb6)
  have D6 := hide (t2.out.keep _ _ _ D5.out hb6)
  have F6 := hide (t2.out.keep _ _ _ F5.out hb6)
  have R6 := hide (rx_step R5.out hb6)
  have S6 := hide (rx_new w6 x' y' b' h')
  clear hb hb6 HB5 A5 C5 D5 F5 R5
  go_wp2_with fail
  refine (t1.out.same _ _ _ A6.out C6.out).mono ?_
  rintro e w7 ⟨rfl, hb⟩
  have HB7 := hide (bt HB6.out hb)
  have D7 := hide (t2.out.keep _ _ _ D6.out hb)
  have F7 := hide (t2.out.keep _ _ _ F6.out hb)
  have R7 := hide (rx_step R6.out hb)
  have S7 := hide (rx_step S6.out hb)
  clear hb HB6 A6 C6 D6 F6 R6 S6
  go_wp2_with fail
  refine (t2.out.same _ _ _ D7.out F7.out).mono ?_
  rintro e w8 ⟨rfl, hb⟩
  have HB8 := hide (bt HB7.out hb)
  have R8 := hide (rx_step R7.out hb)
  have S8 := hide (rx_step S7.out hb)
  clear hb HB7 D7 F7 R7 S7
  obtain ⟨⟨q1, q2⟩, q3, q4⟩ := R8.out
  obtain ⟨⟨u1, u2⟩, u3, u4⟩ := S8.out
  go_wp2_with fail
  refine (awake_any _).mono ?_
  rintro e w9 ⟨rfl, hb⟩
  have HB9 := hide (bt HB8.out hb); clear hb
  go_wp2_with fail
  go_ret
  exact ⟨rfl, HB9.out⟩
end Go.Proofs.Ytkajcbjacjfhnaa
