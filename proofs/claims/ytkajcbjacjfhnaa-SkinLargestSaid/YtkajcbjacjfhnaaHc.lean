/- Mirror and turned. -/
import Derived.Test.YtkajcbjacjfhnaaHb
import Derived.Deep.RegionHeld3
import Derived.Shelf.Abstract
set_option linter.unusedVariables false
namespace Go.Proofs.Ytkajcbjacjfhnaa
open Go.RowKit Go.Ab
theorem kc {w w' : World} {p : Addr} {v : Value} (hb : Below w.heap.size w w') (h : w.cell? p = some v) : w'.cell? p = some v := by
  rw [hb.cell (World.block_lt_of_cell? _ _ h)]; exact h
theorem ent76 : ∀ args w, (callFunc 76 args).run Try.prog w = .ok (.enter 76 args) w := fun args w => enters_of Try.func76 (by kernel_rfl) rfl args w
theorem ent124 : ∀ args w, (callFunc 124 args).run Try.prog w = .ok (.enter 124 args) w := fun args w => enters_of Try.func124 (by kernel_rfl) rfl args w
/-- a skin among the arguments, its box and a number's -/
def Mi (w W : World) (b off l c n : Nat) (f : Nat → Nat → UInt8) (r : Int) : Prop :=
  (W.cell? ⟨w.heap.size, 0, none⟩ = some (.slice (some ⟨b, off, none⟩) l c) ∧ W.cell? ⟨w.heap.size + 1, 0, none⟩ = some (.int .i64 r)) ∧ ZsAt W b off l (rowS f n) ∧ Below w.heap.size w W
theorem mi_step {w W W' : World} {b off l c n : Nat} {f : Nat → Nat → UInt8} {r : Int} (h : Hid (Mi w W b off l c n f r)) (hb : Below W.heap.size W W') : Hid (Mi w W' b off l c n f r) := by
  obtain ⟨⟨h1, h2⟩, h3, h4⟩ := h.out
  exact hide ⟨⟨kc hb h1, kc hb h2⟩, h3.below hb, bt h4 hb⟩
theorem mi_drew {w W : World} {b off l c n : Nat} {f : Nat → Nat → UInt8} {r : Int} (h : Hid (Mi w W b off l c n f r)) : Hid (Mi w W.drew b off l c n f r) := mi_step h (Below.refl _ _).drew
theorem mi_new (w : World) (b off l c n : Nat) (f : Nat → Nat → UInt8) (r : Int) (hz : ZsAt w b off l (rowS f n)) (t t' : TypeId) :
    Hid (Mi w ((w.alloc (.cells #[.slice (some ⟨b, off, none⟩) l c] t)).alloc (.cells #[.int .i64 r] t')) b off l c n f r) := by
  have hb : Below w.heap.size w ((w.alloc (.cells #[.slice (some ⟨b, off, none⟩) l c] t)).alloc (.cells #[.int .i64 r] t')) := ((Below.refl _ _).alloc (Nat.le_refl _) _).alloc (by simp) _
  exact hide ⟨⟨by simp [go_sem], by simp [go_sem]⟩, hz.below hb, hb⟩
theorem mi_get {w W : World} {b off l c n : Nat} {f : Nat → Nat → UInt8} {r : Int} (h : Hid (Mi w W b off l c n f r)) (h1 : 1 ≤ l) :
    (W.cell? ⟨w.heap.size, 0, none⟩ = some (.slice (some ⟨b, off, none⟩) l c) ∧ W.cell? ⟨b, off, none⟩ = some (.string (rowS f n 0))) ∧ Hid (Mi w W b off l c n f r) := by
  obtain ⟨⟨h1', h2⟩, h3, h4⟩ := h.out
  refine ⟨⟨h1', ?_⟩, h⟩
  have := (h3 0 h1).1
  rwa [Nat.add_zero] at this
theorem mirror1_at {w W : World} {b off l c n : Nat} {f : Nat → Nat → UInt8} (h : Hid (Mi w W b off l c n f ((n : Int) - 1))) (hl : l ≤ 48) (hn : n ≤ 48) :
    Hid (∀ Wx x y, Below W.heap.size W Wx → x < n → y < l → Calls Try.prog 76 (#[.agg #[.int .i64 x, .int .i64 y]] ++ #[.pointer (some ⟨w.heap.size, 0, none⟩), .pointer (some ⟨w.heap.size + 1, 0, none⟩)]) Wx fun e w' => e = .returned (.int .u8 ((f (n - 1 - x) y).toNat : Int)) ∧ Below Wx.heap.size Wx w') :=
  hide fun Wx x y hb hx hy => by
    obtain ⟨⟨q1, q2⟩, q3, _⟩ := (mi_step h hb).out
    exact mirror1_is b off l c n _ _ x y f Wx q3 hy hx hl hn q1 q2
theorem turned1_at {w W : World} {b off l c n : Nat} {f : Nat → Nat → UInt8} (h : Hid (Mi w W b off l c n f ((l : Int) - 1))) (hl : l ≤ 48) (hn : n ≤ 48) :
    Hid (∀ Wx x y, Below W.heap.size W Wx → x < l → y < n → Calls Try.prog 124 (#[.agg #[.int .i64 x, .int .i64 y]] ++ #[.pointer (some ⟨w.heap.size, 0, none⟩), .pointer (some ⟨w.heap.size + 1, 0, none⟩)]) Wx fun e w' => e = .returned (.int .u8 ((f y (l - 1 - x)).toNat : Int)) ∧ Below Wx.heap.size Wx w') :=
  hide fun Wx x y hb hx hy => by
    obtain ⟨⟨q1, q2⟩, q3, _⟩ := (mi_step h hb).out
    exact turned1_is b off l c n _ _ x y f Wx q3 hy hx hl hn q1 q2
set_option maxRecDepth 20000 in
set_option maxHeartbeats 2000000 in
theorem mirror_is (b off l c n : Nat) (f : Nat → Nat → UInt8) (w : World) (hz : ZsAt w b off l (rowS f n)) (h1 : 1 ≤ l) (h2 : l ≤ 48) (h3 : n ≤ 48) (hv : validB l (rowS f n) = true) :
    Calls Try.prog 34 #[.slice (some ⟨b, off, none⟩) l c] w fun e w' => ∃ v, e = .returned (.tuple #[v, .int .i64 0]) ∧ Sk w' v n l (fun x y => f (n - 1 - x) y) ∧ Below w.heap.size w w' := by
  have HZ1 := hide (hz.below ((Below.refl w.heap.size w).alloc (Nat.le_refl _) (.cells #[.slice (some ⟨b, off, none⟩) l c] 22)))
  have HM := mi_new w b off l c n f ((n : Int) - 1) hz 22 3
  have c0 := (hz 0 h1).1
  rw [Nat.add_zero] at c0
  have h1i : (0 : Int) < (l : Int) := by omega
  have h1n : 0 < l := by omega
  have hsz : (rowS f n 0).size = n := rowS_size f n 0
  have hbw : b < w.heap.size := World.block_lt_of_cell? _ _ c0
  have HV := hide hv
  have H := hide (And.intro h1 (And.intro h2 h3))
  clear hz hv
  go_enter Try.func34, Try.ntmps34
  go_wp2_with (go_at_call 22; refine (valid_any b off l c (rowS f n) _ HZ1.out).mono ?_; rintro e w' ⟨rfl, rfl⟩; rw [HV.out])
  have hmf : ∀ (fn : Fn) (first cap : Array Value) (w : World), (Instr.makeFunc fn first cap).run Try.prog w = .ok (.func fn first cap) w := fun _ _ _ _ => rfl
  have HMd := mi_drew HM
  go_region_held3 (fun W => (W.cell? ⟨w.heap.size, 0, none⟩ = some (.slice (some ⟨b, off, none⟩) l c) ∧ W.cell? ⟨b, off, none⟩ = some (.string (rowS f n 0))) ∧ Hid (Mi w W b off l c n f ((n : Int) - 1)))
    ((go_split_ands; refine mi_get ?_ H.out.1; first | (with_reducible exact HM) | (with_reducible exact HMd) | (with_reducible exact mi_step ‹_› hbw)))
    ((go_at_call 75; (with_reducible refine (drawn_any 76 #[.pointer (some ⟨w.heap.size, 0, none⟩), .pointer (some ⟨w.heap.size + 1, 0, none⟩)] n l (fun x y => f (n - 1 - x) y) _ H.out.2.2 H.out.2.1 ent76 (mirror1_at (by assumption) H.out.2.1 H.out.2.2)).mono ?_); rintro e w' ⟨v', rfl, hown, hbw⟩))
  go_wp2_with fail
  refine bodyPost_ret (v := .tuple #[v', .int .i64 0]) (by simp [results, Try.results34, go_sem]) rfl ⟨v', rfl, sk_of_owns hown H.out.1 H.out.2.2, ?_⟩
  exact (mi_step HMd hbw).out.2.2
end Go.Proofs.Ytkajcbjacjfhnaa
