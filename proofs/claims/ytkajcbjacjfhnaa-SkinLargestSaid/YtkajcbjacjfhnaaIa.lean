/- Trim. -/
import Derived.Test.YtkajcbjacjfhnaaHv
import Derived.Laws.EntriesVeiled
set_option linter.unusedVariables false
namespace Go.Proofs.Ytkajcbjacjfhnaa
open Go.RowKit Go.Ab
/-- what each visit of Trim keeps -/
def Tr (w : World) (q bl b1 b2 b3 bb off l c n g : Nat) (f : Nat → Nat → UInt8) (k : Nat) (W : World) : Prop :=
  (Us W b1 b2 b3 bb off l c n g f ∧ W.cell? ⟨bl, 0, none⟩ = some (.func (.func 123) #[] #[.pointer (some ⟨b1, 0, none⟩), .pointer (some ⟨b2, 0, none⟩), .pointer (some ⟨b3, 0, none⟩)])) ∧ (Blk W q (bv (usL f n g k)) 39 ∧ Blk W w.heap.size #[.int .i64 0, .int .i64 0, .int .i64 0, .int .i64 0] 39) ∧ Below w.heap.size w W
theorem tr_step {w W W' : World} {q bl b1 b2 b3 bb off l c n g k : Nat} {f : Nat → Nat → UInt8} (H : Tr w q bl b1 b2 b3 bb off l c n g f k W) (hb : Below W.heap.size W W') : Tr w q bl b1 b2 b3 bb off l c n g f k W' :=
  ⟨⟨us_step H.1.1 hb, kc hb H.1.2⟩, ⟨H.2.1.1.below hb, H.2.1.2.below hb⟩, bt H.2.2 hb⟩
theorem usM_usL (f : Nat → Nat → UInt8) (n g x y : Nat) (h : x < n) : usM f g x y (usL f n g (y * n + x)) = usL f n g (y * n + x + 1) := by rw [usL_succ f n g x y h]; rfl
theorem tr_call {w W : World} {q bl b1 b2 b3 bb off l c n g x y B : Nat} {f : Nat → Nat → UInt8} (H : Tr w q bl b1 b2 b3 bb off l c n g f (y * n + x) W) (hn : n ≤ 48) (hl : l ≤ 48) (hx : x < n) (hy : y < l)
    (e1 : b1 < bl ∧ b2 < bl ∧ b3 < bl) (e2 : bl < q) (e3 : bb < w.heap.size) (e4 : w.heap.size < bl) (e5 : q < B) :
    Calls Try.prog 85 (#[.agg #[.int .i64 (0 + (x : Int)), .int .i64 (0 + (y : Int))]] ++ #[.pointer (some ⟨bl, 0, none⟩), .pointer (some ⟨q, 0, none⟩)]) W fun e w' => e = .returned (.tuple #[]) ∧ Tr w q bl b1 b2 b3 bb off l c n g f (y * n + x + 1) w' ∧ Over B W w' := by
  rw [Int.zero_add, Int.zero_add]
  have hcs : ∀ c ∈ usL f n g (y * n + x), c.1 < n ∧ c.2 < l := usL_in (by omega) (by
    have : y * n + n ≤ l * n := by rw [← Nat.succ_mul]; exact Nat.mul_le_mul_right _ hy
    omega)
  refine (trim1_is bl q b1 b2 b3 bb off l c n g x y f (usL f n g (y * n + x)) W H.1.1 H.1.2 H.2.1.1 hn hl hcs hx hy).mono fun e w' ⟨h1, h2, h3⟩ => ⟨h1, ⟨⟨us_gb H.1.1 h3 (by omega) (by omega) (by omega) (by omega), gb_cell h3 H.1.2 (by show bl ≠ q; omega)⟩, ⟨?_, H.2.1.2.other h3 (by omega)⟩, ?_⟩, gb_over h3 e5⟩
  · rw [← usM_usL f n g x y hx]; exact h2
  · exact H.2.2.trans (gb_low h3 (by omega) H.2.2.size)
theorem ent85 : ∀ args w, (callFunc 85 args).run Try.prog w = .ok (.enter 85 args) w := fun args w => enters_of Try.func85 (by kernel_rfl) rfl args w
/-- what Trim answers -/
def trimV (cs : List (Nat × Nat)) : Array Value := match cs with | [] => #[.agg #[.int .i64 0, .int .i64 0, .int .i64 0, .int .i64 0], .int .i64 7] | _ => #[.agg (bv cs), .int .i64 0]
theorem trimV_nil : trimV [] = #[.agg #[.int .i64 0, .int .i64 0, .int .i64 0, .int .i64 0], .int .i64 7] := rfl
theorem trimV_cons {cs : List (Nat × Nat)} (h : cs ≠ []) : trimV cs = #[.agg (bv cs), .int .i64 0] := by cases cs with | nil => exact absurd rfl h | cons a t => rfl
set_option maxRecDepth 20000 in
set_option maxHeartbeats 4000000 in
theorem trim_is (bb off c n l : Nat) (f : Nat → Nat → UInt8) (w : World) (hz : ZsAt w bb off l (rowS f n)) (hd : Dim (n, l, f)) (hv : validB l (rowS f n) = true) :
    Calls Try.prog 41 #[.slice (some ⟨bb, off, none⟩) l c] w fun e w' => e = .returned (.tuple (trimV (usL f n 1 (l * n)))) ∧ Below w.heap.size w w' := by
  have hb0 : Below w.heap.size w (w.alloc (.cells #[.int .i64 0, .int .i64 0, .int .i64 0, .int .i64 0] 39)) := (Below.refl _ _).alloc (Nat.le_refl _) _
  have HB0 := hide hb0
  have Z0 := hide (hz.below hb0)
  have K0 := hide (Blk.new w #[.int .i64 0, .int .i64 0, .int .i64 0, .int .i64 0] 39)
  have hbb : bb < w.heap.size := World.block_lt_of_cell? _ _ (hz 0 hd.2.1).1
  have HBB := hide hbb
  have HV := hide hv
  have HN : Hid ((1 ≤ n ∧ 1 ≤ l) ∧ n ≤ 48 ∧ l ≤ 48) := hide ⟨⟨hd.1.1, hd.2.1⟩, hd.1.2, hd.2.2⟩
  have hmf : ∀ (fn : Fn) (first cap : Array Value) (w : World), (Instr.makeFunc fn first cap).run Try.prog w = .ok (.func fn first cap) w := fun _ _ _ _ => rfl
  clear hz hd hv hb0 hbb
  go_enter Try.func41, Try.ntmps41
  go_wp2_with (go_at_call 22; refine (valid_any bb off l c _ _ Z0.out).mono ?_; rintro e w' ⟨rfl, rfl⟩; rw [HV.out])
  refine (usableAt_is bb off l c n 1 f _ Z0.out HN.out.1.2 (by decide)).mono ?_
  rintro e w1 ⟨b1, b2, b3, rfl, hu, hbs, hb⟩
  have hbB : Below w1.heap.size w1 ((w1.alloc (.cells #[.func (.func 123) #[] #[.pointer (some ⟨b1, 0, none⟩), .pointer (some ⟨b2, 0, none⟩), .pointer (some ⟨b3, 0, none⟩)]] 84)).alloc (.cells #[.int .i64 0, .int .i64 0, .int .i64 0, .int .i64 0] 39)) := ((Below.refl _ _).alloc (Nat.le_refl _) _).alloc (by simp) _
  have T1 : Hid (Tr w (w1.heap.size + 1) w1.heap.size b1 b2 b3 bb off l c n 1 f 0 ((w1.alloc (.cells #[.func (.func 123) #[] #[.pointer (some ⟨b1, 0, none⟩), .pointer (some ⟨b2, 0, none⟩), .pointer (some ⟨b3, 0, none⟩)]] 84)).alloc (.cells #[.int .i64 0, .int .i64 0, .int .i64 0, .int .i64 0] 39))) := hide
    ⟨⟨us_step hu hbB, by simp [go_sem]⟩, ⟨by
      have := Blk.new (w1.alloc (.cells #[.func (.func 123) #[] #[.pointer (some ⟨b1, 0, none⟩), .pointer (some ⟨b2, 0, none⟩), .pointer (some ⟨b3, 0, none⟩)]] 84)) #[.int .i64 0, .int .i64 0, .int .i64 0, .int .i64 0] 39
      rw [show (w1.alloc (.cells #[.func (.func 123) #[] #[.pointer (some ⟨b1, 0, none⟩), .pointer (some ⟨b2, 0, none⟩), .pointer (some ⟨b3, 0, none⟩)]] 84)).heap.size = w1.heap.size + 1 by simp] at this
      exact this, (K0.out.below hb).below hbB⟩, bt (bt HB0.out hb) hbB⟩
  have HS : Hid (w.heap.size < w1.heap.size) := hide (by have := hb.size; simp at this; omega)
  have HBs := hide hbs
  clear hb hbs hu hbB
  go_wp2_with fail
  refine (extent_is bb off l c n f _ T1.out.1.1.2.2 HN.out.1.2).mono ?_
  rintro e w3 ⟨rfl, hb⟩
  have T3 := hide (tr_step T1.out hb)
  have HS3 : Hid (w1.heap.size + 1 < w3.heap.size) := hide (by have := hb.size; simp at this; omega)
  clear hb T1
  go_wp2_with fail
  refine (each_any 85 #[.pointer (some ⟨w1.heap.size, 0, none⟩), .pointer (some ⟨w1.heap.size + 1, 0, none⟩)] 0 0 n l (Tr w (w1.heap.size + 1) w1.heap.size b1 b2 b3 bb off l c n 1 f) _ ⟨by decide, by decide⟩ ⟨by decide, by decide⟩ (by have := HN.out; omega) (by have := HN.out; omega) ent85 T3 (hide fun k W W' h hb => tr_step h hb) (hide fun W x y hw hx hy hi => tr_call hi HN.out.2.1 HN.out.2.2 hx hy HBs.out (Nat.lt_succ_self _) HBB.out HS.out HS3.out)).mono ?_
  rintro e w4 ⟨rfl, ht⟩
  have T4 := hide ht
  clear ht T3
  have K := hide T4.out.2.1
  by_cases hcs : usL f n 1 (l * n) = []
  · have k2 : w4.cell? ⟨w1.heap.size + 1, 2, none⟩ = some (.int .i64 0) := by
      have := K.out.1
      rw [hcs] at this
      exact this.cell 2 rfl
    have f0 := K.out.2.free 0
    have f1 := K.out.2.free 1
    have f2 := K.out.2.free 2
    have f3 := K.out.2.free 3
    have r0 := K.out.2.cell 0 (v := .int .i64 0) rfl
    have r1 := K.out.2.cell 1 (v := .int .i64 0) rfl
    have r2 := K.out.2.cell 2 (v := .int .i64 0) rfl
    have r3 := K.out.2.cell 3 (v := .int .i64 0) rfl
    have HCS := hide hcs
    clear hcs
    go_wp2_with fail
    refine bodyPost_ret (v := .tuple (trimV (usL f n 1 (l * n)))) (by rw [HCS.out, trimV_nil]; simp [results, Try.results41, go_sem, r0, r1, r2, r3, World.cell?_setCell_same]) rfl ⟨rfl, ?_⟩
    exact T4.out.2.2.trans (gb_low (gb_set4 _ _ _ _ _ _) (Nat.le_refl _) T4.out.2.2.size)
  · have k0 := K.out.1.cell 0 (v := .int .i64 (boxL (usL f n 1 (l * n))).x0) rfl
    have k1 := K.out.1.cell 1 (v := .int .i64 (boxL (usL f n 1 (l * n))).y0) rfl
    have k2 := K.out.1.cell 2 (v := .int .i64 (bW (usL f n 1 (l * n)))) rfl
    have k3 := K.out.1.cell 3 (v := .int .i64 (bH (usL f n 1 (l * n)))) rfl
    have f0 := K.out.2.free 0
    have f1 := K.out.2.free 1
    have f2 := K.out.2.free 2
    have f3 := K.out.2.free 3
    have r0 := K.out.2.cell 0 (v := .int .i64 0) rfl
    have r1 := K.out.2.cell 1 (v := .int .i64 0) rfl
    have r2 := K.out.2.cell 2 (v := .int .i64 0) rfl
    have r3 := K.out.2.cell 3 (v := .int .i64 0) rfl
    have hW : ((bW (usL f n 1 (l * n)) : Int) == 0) = false := by rw [bW_cons hcs]; simp; omega
    have HCS := hide hcs
    clear hcs
    go_wp2_with fail
    refine bodyPost_ret (v := .tuple (trimV (usL f n 1 (l * n)))) (by rw [trimV_cons HCS.out]; simp [results, Try.results41, go_sem, r0, r1, r2, r3, World.cell?_setCell_same]; rfl) rfl ⟨rfl, ?_⟩
    exact T4.out.2.2.trans (gb_low (gb_set4 _ _ _ _ _ _) (Nat.le_refl _) T4.out.2.2.size)
end Go.Proofs.Ytkajcbjacjfhnaa
