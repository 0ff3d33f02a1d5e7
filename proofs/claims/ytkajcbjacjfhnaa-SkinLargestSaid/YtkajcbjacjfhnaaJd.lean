/- Largest and Square of the program; the reference's Sums. -/
import Derived.Test.YtkajcbjacjfhnaaJc
set_option linter.unusedVariables false
namespace Go.Proofs.Ytkajcbjacjfhnaa
open Go.RowKit Go.Ab
theorem grV_ex (b : Rk) : ∃ x y w h e : Int, grV b = #[.agg #[.int .i64 x, .int .i64 y, .int .i64 w, .int .i64 h], .int .i64 e] := by
  by_cases h : b.w = 0
  · rw [grV_zero h]; exact ⟨0, 0, 0, 0, 7, rfl⟩
  · rw [grV_pos h]; exact ⟨_, _, _, _, 0, rfl⟩
theorem greatest_no (a : Option Addr) (l c gs : Nat) (g : Int) (ss : Nat → ByteArray) (w : World) (hz : Zs w a l ss) (hgd : goodB l ss g = false) :
    Calls Try.prog 98 #[.slice a l c, .int .i64 g, .func (.func gs) #[] #[]] w fun e w' => e = .returned (.tuple #[.agg #[.int .i64 0, .int .i64 0, .int .i64 0, .int .i64 0], .int .i64 2]) ∧ Below w.heap.size w w' := by
  have hb1 : Below w.heap.size w ((w.alloc (.cells #[.func (.func gs) #[] #[]] 114)).alloc (.cells #[.int .i64 0, .int .i64 0, .int .i64 0, .int .i64 0] 39)) := ((Below.refl _ _).alloc (Nat.le_refl _) _).alloc (by simp) _
  have HB := hide hb1
  have HZ := hide (hz.below hb1)
  have HG := hide hgd
  clear hz hgd hb1
  go_enter Try.func98, Try.ntmps98
  go_wp2_with (go_at_call 69; refine (validAt_is a l c g ss _ HZ.out).mono ?_; rintro e w' ⟨rfl, rfl⟩; rw [HG.out])
  refine bodyPost_ret (v := .tuple #[.agg #[.int .i64 0, .int .i64 0, .int .i64 0, .int .i64 0], .int .i64 2]) (by simp [results, Try.results98, go_sem]) rfl ⟨rfl, HB.out⟩
theorem largest_of (v : Value) (g : Int) (Q : Array Value → Prop) (w : World) (hq : ∀ t, Q t → ∃ x y b h e : Int, t = #[.agg #[.int .i64 x, .int .i64 y, .int .i64 b, .int .i64 h], .int .i64 e])
    (h : ∀ W, Below w.heap.size w W → Calls Try.prog 98 #[v, .int .i64 g, .func (.func 99) #[] #[]] W fun e w' => ∃ t, e = .returned (.tuple t) ∧ Q t ∧ Below W.heap.size W w') :
    Calls Try.prog 52 #[v, .int .i64 g] w fun e w' => ∃ t, e = .returned (.tuple t) ∧ Q t ∧ Below w.heap.size w w' := by
  have hb1 : Below w.heap.size w (w.alloc (.cells #[.int .i64 0, .int .i64 0, .int .i64 0, .int .i64 0] 39)) := (Below.refl _ _).alloc (Nat.le_refl _) _
  have HB := hide hb1
  have H := hide (h _ hb1)
  have K0 := hide (Blk.new w #[.int .i64 0, .int .i64 0, .int .i64 0, .int .i64 0] 39)
  have HQ := hide hq
  clear h hb1 hq
  go_enter Try.func52, Try.ntmps52
  go_wp2_with fail
  refine H.out.mono ?_
  rintro e w1 ⟨t, rfl, hq, hb⟩
  have HB1 := hide (bt HB.out hb)
  have K1 := hide (K0.out.below hb)
  have HT := hide hq
  obtain ⟨x, y, b, h, er, ht⟩ := HQ.out t hq
  subst ht
  have r0 := K1.out.cell 0 (v := .int .i64 0) rfl
  have r1 := K1.out.cell 1 (v := .int .i64 0) rfl
  have r2 := K1.out.cell 2 (v := .int .i64 0) rfl
  have r3 := K1.out.cell 3 (v := .int .i64 0) rfl
  have f0 := K1.out.free 0
  have f1 := K1.out.free 1
  have f2 := K1.out.free 2
  have f3 := K1.out.free 3
  clear hq hb H
  go_wp2_with fail
  refine bodyPost_ret (v := .tuple #[.agg #[.int .i64 x, .int .i64 y, .int .i64 b, .int .i64 h], .int .i64 er]) (by simp [results, Try.results52, go_sem, r0, r1, r2, r3, World.cell?_setCell_same]) rfl ⟨_, rfl, HT.out, ?_⟩
  exact HB1.out.trans (gb_low (gb_set4 _ _ _ _ _ _) (Nat.le_refl _) HB1.out.size)
theorem square_of (v : Value) (g : Int) (Q : Array Value → Prop) (w : World) (hq : ∀ t, Q t → ∃ x y b h e : Int, t = #[.agg #[.int .i64 x, .int .i64 y, .int .i64 b, .int .i64 h], .int .i64 e])
    (h : ∀ W, Below w.heap.size w W → Calls Try.prog 98 #[v, .int .i64 g, .func (.func 102) #[] #[]] W fun e w' => ∃ t, e = .returned (.tuple t) ∧ Q t ∧ Below W.heap.size W w') :
    Calls Try.prog 54 #[v, .int .i64 g] w fun e w' => ∃ t, e = .returned (.tuple t) ∧ Q t ∧ Below w.heap.size w w' := by
  have hb1 : Below w.heap.size w (w.alloc (.cells #[.int .i64 0, .int .i64 0, .int .i64 0, .int .i64 0] 39)) := (Below.refl _ _).alloc (Nat.le_refl _) _
  have HB := hide hb1
  have H := hide (h _ hb1)
  have K0 := hide (Blk.new w #[.int .i64 0, .int .i64 0, .int .i64 0, .int .i64 0] 39)
  have HQ := hide hq
  clear h hb1 hq
  go_enter Try.func54, Try.ntmps54
  go_wp2_with fail
  refine H.out.mono ?_
  rintro e w1 ⟨t, rfl, hq, hb⟩
  have HB1 := hide (bt HB.out hb)
  have K1 := hide (K0.out.below hb)
  have HT := hide hq
  obtain ⟨x, y, b, h, er, ht⟩ := HQ.out t hq
  subst ht
  have r0 := K1.out.cell 0 (v := .int .i64 0) rfl
  have r1 := K1.out.cell 1 (v := .int .i64 0) rfl
  have r2 := K1.out.cell 2 (v := .int .i64 0) rfl
  have r3 := K1.out.cell 3 (v := .int .i64 0) rfl
  have f0 := K1.out.free 0
  have f1 := K1.out.free 1
  have f2 := K1.out.free 2
  have f3 := K1.out.free 3
  clear hq hb H
  go_wp2_with fail
  refine bodyPost_ret (v := .tuple #[.agg #[.int .i64 x, .int .i64 y, .int .i64 b, .int .i64 h], .int .i64 er]) (by simp [results, Try.results54, go_sem, r0, r1, r2, r3, World.cell?_setCell_same]) rfl ⟨_, rfl, HT.out, ?_⟩
  exact HB1.out.trans (gb_low (gb_set4 _ _ _ _ _ _) (Nat.le_refl _) HB1.out.size)
end Go.Proofs.Ytkajcbjacjfhnaa
