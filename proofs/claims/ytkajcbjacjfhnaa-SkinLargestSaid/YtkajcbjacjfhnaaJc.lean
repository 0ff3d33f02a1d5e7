/- greatest, Largest, Square. -/
import Derived.Test.YtkajcbjacjfhnaaJb
set_option linter.unusedVariables false
namespace Go.Proofs.Ytkajcbjacjfhnaa
open Go.RowKit Go.Ab
theorem ent131 : ∀ args w, (callFunc 131 args).run Try.prog w = .ok (.enter 131 args) w := fun args w => enters_of Try.func131 (by kernel_rfl) rfl args w
/-- what greatest answers -/
def grV (b : Rk) : Array Value := match b.w with | 0 => #[.agg #[.int .i64 0, .int .i64 0, .int .i64 0, .int .i64 0], .int .i64 7] | _ => #[.agg (rkV b), .int .i64 0]
theorem grV_zero {b : Rk} (h : b.w = 0) : grV b = #[.agg #[.int .i64 0, .int .i64 0, .int .i64 0, .int .i64 0], .int .i64 7] := by unfold grV; rw [h]; rfl
theorem grV_pos {b : Rk} (h : b.w ≠ 0) : grV b = #[.agg (rkV b), .int .i64 0] := by
  unfold grV
  cases e : b.w with
  | zero => exact absurd e h
  | succ n => rfl
def Gr (sq : Bool) (u : Nat → Nat → Bool) (n l : Nat) (w : World) (e : Ending) (w' : World) : Prop := ∃ b, e = .returned (.tuple (grV b)) ∧ Top (FullS sq u n l) b ∧ Below w.heap.size w w'
/-- what the visits keep -/
def Jg (w : World) (gs bb off l n g : Nat) (sq : Bool) (f : Nat → Nat → UInt8) (k h : Nat) (W : World) : Prop := ∃ b, Top (VisK sq (usB f g) n l k h) b ∧ Blk W (w.heap.size + 1 + 1) (rkV b) 39 ∧ (W.cell? ⟨w.heap.size, 0, none⟩ = some (.func (.func gs) #[] #[]) ∧ ZsAt W bb off l (rowS f n)) ∧ Blk W (w.heap.size + 1) #[.int .i64 0, .int .i64 0, .int .i64 0, .int .i64 0] 39 ∧ Below w.heap.size w W
theorem jg_step {w W W' : World} {gs bb off l n g : Nat} {sq : Bool} {f : Nat → Nat → UInt8} {k h : Nat} (H : Jg w gs bb off l n g sq f k h W) (hb : Below W.heap.size W W') : Jg w gs bb off l n g sq f k h W' := by
  obtain ⟨b, h1, h2, ⟨h3, h4⟩, h5, h6⟩ := H
  exact ⟨b, h1, h2.below hb, ⟨kc hb h3, h4.below hb⟩, h5.below hb, bt h6 hb⟩
theorem jg_visit {w W : World} {gs bb off l n g B : Nat} {sq : Bool} {f : Nat → Nat → UInt8} {x y h : Nat} (hs : Shape gs sq) (H : Jg w gs bb off l n g sq f (y * n + x) h W) (hx : x < n) (hl : y + (h + 1) ≤ l) (hw : 1 ≤ wid (usB f g) n x y (h + 1)) (hn : n ≤ 48) (hl48 : l ≤ 48) (hbb : bb < w.heap.size) (hB : w.heap.size + 1 + 1 < B) :
    Calls Try.prog 131 (#[.agg #[.int .i64 x, .int .i64 y, .int .i64 (wid (usB f g) n x y (h + 1)), .int .i64 ((h : Int) + 1)]] ++ #[.pointer (some ⟨w.heap.size, 0, none⟩), .pointer (some ⟨w.heap.size + 1 + 1, 0, none⟩)]) W fun e w' => e = .returned (.tuple #[]) ∧ Jg w gs bb off l n g sq f (y * n + x) (h + 1) w' ∧ Over B W w' := by
  obtain ⟨b, h1, h2, ⟨h3, h4⟩, h5, h6⟩ := H
  have hbd := visK_bd h1
  have hwn : wid (usB f g) n x y (h + 1) ≤ n := wid_mono (usB f g) n x y (Nat.zero_le (h + 1))
  refine (greatest1_is gs w.heap.size (w.heap.size + 1 + 1) sq b ⟨x, y, wid (usB f g) n x y (h + 1), h + 1⟩ W hs h3 h2 ⟨by omega, by omega⟩ ⟨by show wid (usB f g) n x y (h + 1) ≤ 48; omega, by show h + 1 ≤ 48; omega⟩).mono fun e w' ⟨e1, e2, e3⟩ => ⟨e1, ⟨_, ?_, e2, ⟨gb_cell e3 h3 (by show w.heap.size ≠ w.heap.size + 1 + 1; omega), zs_gb h4 e3 (by omega)⟩, h5.other e3 (by omega), h6.trans (gb_low e3 (by omega) h6.size)⟩, gb_over e3 hB⟩
  have t1 := top_congr h1 (fun r => (visK_iff hx r).symm)
  exact top_congr (vis_step hx hl hw t1) (fun r => visK_iff hx r)
set_option maxRecDepth 20000 in
set_option maxHeartbeats 4000000 in
theorem greatest_is (gs bb off l c n g : Nat) (sq : Bool) (f : Nat → Nat → UInt8) (w : World) (hz : ZsAt w bb off l (rowS f n)) (hd : Dim (n, l, f)) (hgd : goodB l (rowS f n) g = true) (hs : Shape gs sq) :
    Calls Try.prog 98 #[.slice (some ⟨bb, off, none⟩) l c, .int .i64 g, .func (.func gs) #[] #[]] w (Gr sq (usB f g) n l w) := by
  have hbb : bb < w.heap.size := World.block_lt_of_cell? _ _ (hz 0 hd.2.1).1
  have HBB := hide hbb
  have hb1 : Below w.heap.size w ((w.alloc (.cells #[.func (.func gs) #[] #[]] 114)).alloc (.cells #[.int .i64 0, .int .i64 0, .int .i64 0, .int .i64 0] 39)) := ((Below.refl _ _).alloc (Nat.le_refl _) _).alloc (by simp) _
  have Z1 := hide (hz.below hb1)
  have hb2 : Below w.heap.size w (((w.alloc (.cells #[.func (.func gs) #[] #[]] 114)).alloc (.cells #[.int .i64 0, .int .i64 0, .int .i64 0, .int .i64 0] 39)).alloc (.cells #[.int .i64 0, .int .i64 0, .int .i64 0, .int .i64 0] 39)) := hb1.alloc (by simp; omega) _
  have Z2 := hide (hz.below hb2)
  have J0 : Hid (Jg w gs bb off l n g sq f 0 0 (((w.alloc (.cells #[.func (.func gs) #[] #[]] 114)).alloc (.cells #[.int .i64 0, .int .i64 0, .int .i64 0, .int .i64 0] 39)).alloc (.cells #[.int .i64 0, .int .i64 0, .int .i64 0, .int .i64 0] 39))) := hide
    ⟨Rk.nil, .inl ⟨fun r => by rintro ⟨a, b, j, h1, _, h2, _⟩; omega, rfl⟩, by
      have := Blk.new ((w.alloc (.cells #[.func (.func gs) #[] #[]] 114)).alloc (.cells #[.int .i64 0, .int .i64 0, .int .i64 0, .int .i64 0] 39)) #[.int .i64 0, .int .i64 0, .int .i64 0, .int .i64 0] 39
      rw [show ((w.alloc (.cells #[.func (.func gs) #[] #[]] 114)).alloc (.cells #[.int .i64 0, .int .i64 0, .int .i64 0, .int .i64 0] 39)).heap.size = w.heap.size + 1 + 1 by simp] at this
      exact this, ⟨by simp [go_sem], Z2.out⟩, by
      have := Blk.new (w.alloc (.cells #[.func (.func gs) #[] #[]] 114)) #[.int .i64 0, .int .i64 0, .int .i64 0, .int .i64 0] 39
      rw [show (w.alloc (.cells #[.func (.func gs) #[] #[]] 114)).heap.size = w.heap.size + 1 by simp] at this
      exact this.below ((Below.refl _ _).alloc (Nat.le_refl _) _), hb2⟩
  have HGD := hide hgd
  have HD := hide hd
  have HS := hide hs
  have H9 : Hid (g ≤ 9) := hide (by have := (goodB_get hgd).2.2; omega)
  have hmf : ∀ (fn : Fn) (first cap : Array Value) (w : World), (Instr.makeFunc fn first cap).run Try.prog w = .ok (.func fn first cap) w := fun _ _ _ _ => rfl
  clear hz hd hgd hs hbb hb1 hb2
  go_enter Try.func98, Try.ntmps98
  go_wp2_with (go_at_call 69; refine (validAt_is _ l c g _ _ (.inr ⟨bb, off, rfl, Z1.out⟩)).mono ?_; rintro e w' ⟨rfl, rfl⟩; rw [HGD.out])
  refine (eachWidest_is 131 bb off l c n g #[.pointer (some ⟨w.heap.size, 0, none⟩), .pointer (some ⟨w.heap.size + 1 + 1, 0, none⟩)] f (Jg w gs bb off l n g sq f) _ Z2.out HD.out H9.out ent131 J0 (hide fun k h W W' h1 hb => jg_step h1 hb) (hide fun k h W h1 => by obtain ⟨_, _, _, ⟨_, h4⟩, _⟩ := h1; exact h4)
    (hide fun W x y h hB hx hy hl hw h1 => jg_visit HS.out h1 hx hl hw HD.out.1.2 HD.out.2.2 HBB.out (by simp)) (hide fun W x y h hx hy hl he h1 => by
      obtain ⟨b, t, r⟩ := h1
      exact ⟨b, visK_next hx he t, r⟩)).mono ?_
  rintro e w4 ⟨rfl, b, ht, hq, _, hr, hb⟩
  have HT := hide (top_final ht)
  have HQ := hide hq
  have HR := hide hr
  have HB := hide hb
  have k0 := hq.cell 0 (v := .int .i64 b.x) rfl
  have k1 := hq.cell 1 (v := .int .i64 b.y) rfl
  have k2 := hq.cell 2 (v := .int .i64 b.w) rfl
  have k3 := hq.cell 3 (v := .int .i64 b.h) rfl
  have r0 := hr.cell 0 (v := .int .i64 0) rfl
  have r1 := hr.cell 1 (v := .int .i64 0) rfl
  have r2 := hr.cell 2 (v := .int .i64 0) rfl
  have r3 := hr.cell 3 (v := .int .i64 0) rfl
  have f0 := hr.free 0
  have f1 := hr.free 1
  have f2 := hr.free 2
  have f3 := hr.free 3
  clear ht hq hr hb J0
  by_cases h0 : b.w = 0
  · have hw0 : ((b.w : Int) == 0) = true := by simp; omega
    have H0 := hide h0
    clear h0
    go_wp2_with fail
    refine bodyPost_ret (v := .tuple (grV b)) (by rw [grV_zero H0.out]; simp [results, Try.results98, go_sem, r0, r1, r2, r3, World.cell?_setCell_same]) rfl ⟨b, rfl, HT.out, ?_⟩
    exact HB.out.trans (gb_low (gb_set4 _ _ _ _ _ _) (by omega) HB.out.size)
  · have hw0 : ((b.w : Int) == 0) = false := by simp; omega
    have H0 := hide h0
    clear h0
    go_wp2_with fail
    refine bodyPost_ret (v := .tuple (grV b)) (by rw [grV_pos H0.out]; simp [results, Try.results98, go_sem, r0, r1, r2, r3, World.cell?_setCell_same]; rfl) rfl ⟨b, rfl, HT.out, ?_⟩
    exact HB.out.trans (gb_low (gb_set4 _ _ _ _ _ _) (by omega) HB.out.size)
end Go.Proofs.Ytkajcbjacjfhnaa
