/- Punch. -/
import Derived.Test.YtkajcbjacjfhnaaHr
set_option linter.unusedVariables false
namespace Go.Proofs.Ytkajcbjacjfhnaa
open Go.RowKit Go.Ab
theorem punch1_at {w W : World} {bb off l c n X Y B H : Nat} {f : Nat → Nat → UInt8} (hc : Hid (Cr w W bb off l c n f X Y B H)) (hl : l ≤ 48) (hn : n ≤ 48) (hX : X + B ≤ n) (hY : Y + H ≤ l) :
    Hid (∀ Wx x y, Below W.heap.size W Wx → x < n → y < l → Calls Try.prog 80 (#[.agg #[.int .i64 x, .int .i64 y]] ++ #[.pointer (some ⟨w.heap.size + 1, 0, none⟩), .pointer (some ⟨w.heap.size, 0, none⟩)]) Wx fun e w' => e = .returned (.int .u8 ((pun f X Y B H x y).toNat : Int)) ∧ Below Wx.heap.size Wx w') :=
  hide fun Wx x y hb hx hy => by
    obtain ⟨⟨q1, ⟨q2, q3⟩, q4, q5⟩, q6, _⟩ := (cr_step hc hb).out
    exact punch1_is bb off l c n _ _ x y X Y B H f Wx q6 hy hx hl hn (by omega) (by omega) q1 q2 q3 q4 q5
theorem ent80 : ∀ args w, (callFunc 80 args).run Try.prog w = .ok (.enter 80 args) w := fun args w => enters_of Try.func80 (by kernel_rfl) rfl args w
def punOf (p : Nat × Nat × (Nat → Nat → UInt8)) (X Y B H : Nat) : Nat × Nat × (Nat → Nat → UInt8) := (p.1, p.2.1, pun p.2.2 X Y B H)
theorem cr_get {w W : World} {bb off l c n : Nat} {f : Nat → Nat → UInt8} {x y b h : Int} (H : Hid (Cr w W bb off l c n f x y b h)) (h1 : 1 ≤ l) :
    (W.cell? ⟨w.heap.size, 0, none⟩ = some (.slice (some ⟨bb, off, none⟩) l c) ∧ W.cell? ⟨bb, off, none⟩ = some (.string (rowS f n 0))) ∧ Hid (Cr w W bb off l c n f x y b h) := by
  refine ⟨⟨H.out.1.1, ?_⟩, H⟩
  have := (H.out.2.1 0 h1).1
  rwa [Nat.add_zero] at this
theorem cr_drew {w W : World} {bb off l c n : Nat} {f : Nat → Nat → UInt8} {x y b h : Int} (H : Hid (Cr w W bb off l c n f x y b h)) : Hid (Cr w W.drew bb off l c n f x y b h) := cr_step H (Below.refl _ _).drew
set_option maxRecDepth 20000 in
set_option maxHeartbeats 2000000 in
theorem punch_is (bb off c n l X Y B H : Nat) (f : Nat → Nat → UInt8) (w : World) (hz : ZsAt w bb off l (rowS f n)) (hd : Dim (n, l, f)) (hv : validB l (rowS f n) = true) (hB : 1 ≤ B) (hH : 1 ≤ H) (hX : X + B ≤ n) (hY : Y + H ≤ l) :
    Calls Try.prog 39 #[.slice (some ⟨bb, off, none⟩) l c, .agg #[.int .i64 X, .int .i64 Y, .int .i64 B, .int .i64 H]] w fun e w' => ∃ v, e = .returned (.tuple #[v, .int .i64 0]) ∧ Sp w' v (punOf (n, l, f) X Y B H) ∧ Below w.heap.size w w' := by
  have HC := cr_new w bb off l c n f X Y B H hz
  have hn : n ≤ 48 := hd.1.2
  have hl : l ≤ 48 := hd.2.2
  have hr : rectB X Y B H = true := rectB_yes (by omega) (by omega) (by omega) (by omega)
  have hli : liesB X Y B H n l = true := liesB_yes (by omega) (by omega)
  have HW := hide (within_ok bb off c n l f X Y B H _ HC.out.2.1 hd hv hr (by omega) (by omega) hli)
  have HN : Hid ((1 ≤ l ∧ X + B ≤ n ∧ Y + H ≤ l) ∧ n ≤ 48 ∧ l ≤ 48) := hide ⟨⟨hd.2.1, hX, hY⟩, hn, hl⟩
  have h1n : 0 < l := hd.2.1
  have h1i : (0 : Int) < (l : Int) := by omega
  have hsz : (rowS f n 0).size = n := rowS_size f n 0
  clear hz hd hv hr hli hB hH hX hY hn hl
  go_enter Try.func39, Try.ntmps39
  go_wp2_with fail
  refine HW.out.mono ?_
  rintro e w1 ⟨rfl, hb⟩
  have HC1 := cr_step HC hb
  obtain ⟨⟨q1, ⟨q2, q3⟩, q4, q5⟩, _, _⟩ := HC1.out
  have hmf : ∀ (fn : Fn) (first cap : Array Value) (w : World), (Instr.makeFunc fn first cap).run Try.prog w = .ok (.func fn first cap) w := fun _ _ _ _ => rfl
  clear hb HC HW
  go_wp2_with fail
  have HCd := cr_drew HC1
  go_region_held3 (fun W => (W.cell? ⟨w.heap.size, 0, none⟩ = some (.slice (some ⟨bb, off, none⟩) l c) ∧ W.cell? ⟨bb, off, none⟩ = some (.string (rowS f n 0))) ∧ Hid (Cr w W bb off l c n f X Y B H))
    ((go_split_ands; refine cr_get ?_ HN.out.1.1; first | (with_reducible exact HC1) | (with_reducible exact HCd) | (with_reducible exact cr_step ‹_› hbw)))
    ((go_at_call 75; (with_reducible refine (drawn_any 80 #[.pointer (some ⟨w.heap.size + 1, 0, none⟩), .pointer (some ⟨w.heap.size, 0, none⟩)] n l (pun f X Y B H) _ HN.out.2.1 HN.out.2.2 ent80 (punch1_at (by assumption) HN.out.2.2 HN.out.2.1 HN.out.1.2.1 HN.out.1.2.2)).mono ?_); rintro e w' ⟨v', rfl, hown, hbw⟩))
  go_wp2_with fail
  refine bodyPost_ret (v := .tuple #[v', .int .i64 0]) (by simp [results, Try.results39, go_sem]) rfl ⟨v', rfl, sk_of_owns hown HN.out.1.1 HN.out.2.1, ?_⟩
  exact (cr_step HCd hbw).out.2.2
end Go.Proofs.Ytkajcbjacjfhnaa
