/- Crop. -/
import Derived.Test.YtkajcbjacjfhnaaHp
set_option linter.unusedVariables false
namespace Go.Proofs.Ytkajcbjacjfhnaa
open Go.RowKit Go.Ab
/-- the skin's box and the rectangle's -/
def Cr (w W : World) (bb off l c n : Nat) (f : Nat → Nat → UInt8) (x y b h : Int) : Prop :=
  (W.cell? ⟨w.heap.size, 0, none⟩ = some (.slice (some ⟨bb, off, none⟩) l c) ∧ (W.cell? ⟨w.heap.size + 1, 0, none⟩ = some (.int .i64 x) ∧ W.cell? ⟨w.heap.size + 1, 1, none⟩ = some (.int .i64 y)) ∧ (W.cell? ⟨w.heap.size + 1, 2, none⟩ = some (.int .i64 b) ∧ W.cell? ⟨w.heap.size + 1, 3, none⟩ = some (.int .i64 h))) ∧ ZsAt W bb off l (rowS f n) ∧ Below w.heap.size w W
theorem cr_new (w : World) (bb off l c n : Nat) (f : Nat → Nat → UInt8) (x y b h : Int) (hz : ZsAt w bb off l (rowS f n)) :
    Hid (Cr w ((w.alloc (.cells #[.slice (some ⟨bb, off, none⟩) l c] 22)).alloc (.cells #[.int .i64 x, .int .i64 y, .int .i64 b, .int .i64 h] 39)) bb off l c n f x y b h) := by
  have hb : Below w.heap.size w ((w.alloc (.cells #[.slice (some ⟨bb, off, none⟩) l c] 22)).alloc (.cells #[.int .i64 x, .int .i64 y, .int .i64 b, .int .i64 h] 39)) := ((Below.refl _ _).alloc (Nat.le_refl _) _).alloc (by simp) _
  exact hide ⟨⟨by simp [go_sem], ⟨by simp [go_sem], by simp [go_sem]⟩, by simp [go_sem], by simp [go_sem]⟩, hz.below hb, hb⟩
theorem cr_step {w W W' : World} {bb off l c n : Nat} {f : Nat → Nat → UInt8} {x y b h : Int} (H : Hid (Cr w W bb off l c n f x y b h)) (hb : Below W.heap.size W W') : Hid (Cr w W' bb off l c n f x y b h) := by
  obtain ⟨⟨h1, ⟨h2, h3⟩, h4, h5⟩, h6, h7⟩ := H.out
  exact hide ⟨⟨kc hb h1, ⟨kc hb h2, kc hb h3⟩, kc hb h4, kc hb h5⟩, h6.below hb, bt h7 hb⟩
theorem crop1_at {w W : World} {bb off l c n X Y B H : Nat} {f : Nat → Nat → UInt8} (hc : Hid (Cr w W bb off l c n f X Y B H)) (hl : l ≤ 48) (hn : n ≤ 48) (hX : X + B ≤ n) (hY : Y + H ≤ l) :
    Hid (∀ Wx x y, Below W.heap.size W Wx → x < B → y < H → Calls Try.prog 78 (#[.agg #[.int .i64 x, .int .i64 y]] ++ #[.pointer (some ⟨w.heap.size, 0, none⟩), .pointer (some ⟨w.heap.size + 1, 0, none⟩)]) Wx fun e w' => e = .returned (.int .u8 ((f (X + x) (Y + y)).toNat : Int)) ∧ Below Wx.heap.size Wx w') :=
  hide fun Wx x y hb hx hy => by
    obtain ⟨⟨q1, ⟨q2, q3⟩, _, _⟩, q6, _⟩ := (cr_step hc hb).out
    exact crop1_is bb off l c n _ _ x y X Y f Wx q6 (by omega) (by omega) hl hn q1 q2 q3
theorem ent78 : ∀ args w, (callFunc 78 args).run Try.prog w = .ok (.enter 78 args) w := fun args w => enters_of Try.func78 (by kernel_rfl) rfl args w
def cropOf (f : Nat → Nat → UInt8) (X Y B H : Nat) : Nat × Nat × (Nat → Nat → UInt8) := (B, H, fun x y => f (X + x) (Y + y))
set_option maxRecDepth 20000 in
set_option maxHeartbeats 2000000 in
theorem crop_is (bb off c n l X Y B H : Nat) (f : Nat → Nat → UInt8) (w : World) (hz : ZsAt w bb off l (rowS f n)) (hd : Dim (n, l, f)) (hv : validB l (rowS f n) = true) (hB : 1 ≤ B) (hH : 1 ≤ H) (hX : X + B ≤ n) (hY : Y + H ≤ l) :
    Calls Try.prog 37 #[.slice (some ⟨bb, off, none⟩) l c, .agg #[.int .i64 X, .int .i64 Y, .int .i64 B, .int .i64 H]] w fun e w' => ∃ v, e = .returned (.tuple #[v, .int .i64 0]) ∧ Sp w' v (cropOf f X Y B H) ∧ Below w.heap.size w w' := by
  have HC := cr_new w bb off l c n f X Y B H hz
  have hn : n ≤ 48 := hd.1.2
  have hl : l ≤ 48 := hd.2.2
  have hr : rectB X Y B H = true := rectB_yes (by omega) (by omega) (by omega) (by omega)
  have hli : liesB X Y B H n l = true := liesB_yes (by omega) (by omega)
  have HW := hide (within_ok bb off c n l f X Y B H _ HC.out.2.1 hd hv hr (by omega) (by omega) hli)
  have HN := hide (And.intro (And.intro hB hH) (And.intro (And.intro hX hY) (And.intro hn hl)))
  have hB48 : (B : Int) ≤ 48 := by omega
  have hH48 : (H : Int) ≤ 48 := by omega
  clear hz hd hv hr hli hB hH hX hY hn hl
  go_enter Try.func37, Try.ntmps37
  go_wp2_with fail
  refine HW.out.mono ?_
  rintro e w1 ⟨rfl, hb⟩
  have HC1 := cr_step HC hb
  obtain ⟨⟨q1, ⟨q2, q3⟩, q4, q5⟩, _, _⟩ := HC1.out
  have hmf : ∀ (fn : Fn) (first cap : Array Value) (w : World), (Instr.makeFunc fn first cap).run Try.prog w = .ok (.func fn first cap) w := fun _ _ _ _ => rfl
  clear hb HC HW
  go_wp2_with fail
  refine (drawn_any 78 #[.pointer (some ⟨w.heap.size, 0, none⟩), .pointer (some ⟨w.heap.size + 1, 0, none⟩)] B H (fun x y => f (X + x) (Y + y)) _ (by have := HN.out; omega) (by have := HN.out; omega) ent78 (crop1_at HC1 HN.out.2.2.2 HN.out.2.2.1 HN.out.2.1.1 HN.out.2.1.2)).mono ?_
  rintro e w2 ⟨v2, rfl, hown, hb⟩
  have HS : Hid (Sp w2 v2 (cropOf f X Y B H)) := hide (sk_of_owns hown HN.out.1.2 (by show B ≤ 48; omega))
  have HB := hide (bt HC1.out.2.2 hb)
  clear hown hb
  go_wp2_with fail
  exact bodyPost_ret (v := .tuple #[v2, .int .i64 0]) (by simp [results, Try.results37, go_sem]) rfl ⟨v2, rfl, HS.out, HB.out⟩
end Go.Proofs.Ytkajcbjacjfhnaa
