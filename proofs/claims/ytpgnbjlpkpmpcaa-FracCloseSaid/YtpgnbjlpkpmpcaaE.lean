import Derived.Test.YtpgnbjlpkpmpcaaD
import Derived.Deep.RegionWith
namespace Go.Proofs.Ytpgnbjlpkpmpcaa
open Go.RowKit
/-- what a function of two fractions holds of its own variables: the two boxes and the first result's variable -/
def K2 (w0 : World) (w : World) (n d m q : Int) : Prop :=
  (w.cell? ⟨w0.heap.size, 0, none⟩ = some (.int .i64 n) ∧ w.cell? ⟨w0.heap.size, 1, none⟩ = some (.int .i64 d) ∧ w.cell? ⟨w0.heap.size + 1, 0, none⟩ = some (.int .i64 m) ∧ w.cell? ⟨w0.heap.size + 1, 1, none⟩ = some (.int .i64 q)) ∧
  (w.cell? ⟨w0.heap.size + 1 + 1, 0, none⟩ = some (.int .i64 0) ∧ w.cell? ⟨w0.heap.size + 1 + 1, 1, none⟩ = some (.int .i64 0) ∧ w.frozen? ⟨w0.heap.size + 1 + 1, 0, none⟩ = false ∧ w.frozen? ⟨w0.heap.size + 1 + 1, 1, none⟩ = false) ∧ Below w0.heap.size w0 w
theorem kc {w w' : World} (h : Below w.heap.size w w') {a : Addr} {v : Value} (c : w.cell? a = some v) : w'.cell? a = some v := (h.cell (cell_lt c)).trans c
theorem kf {w w' : World} (h : Below w.heap.size w w') {a : Addr} {v : Value} (c : w.cell? a = some v) (f : w.frozen? a = false) : w'.frozen? a = false := (h.frozen (cell_lt c)).trans f
theorem k2_step {w0 w w' : World} {n d m q : Int} (h : Hid (K2 w0 w n d m q)) (hb : Below w.heap.size w w') : Hid (K2 w0 w' n d m q) := by
  obtain ⟨⟨r1, r2, r3, r4⟩, ⟨q0, q1, f0, f1⟩, b⟩ := h.out
  exact hide ⟨⟨kc hb r1, kc hb r2, kc hb r3, kc hb r4⟩, ⟨kc hb q0, kc hb q1, kf hb q0 f0, kf hb q1 f1⟩, bt b hb⟩
theorem k2_drew {w0 w : World} {n d m q : Int} (h : Hid (K2 w0 w n d m q)) : Hid (K2 w0 w.drew n d m q) := by
  obtain ⟨a, b, c⟩ := h.out
  exact hide ⟨a, b, c.drew⟩
theorem k2_made {w w1 : World} {n d m q : Int} {o : Obj} (hb : Below ((((w.alloc (.cells #[.int .i64 n, .int .i64 d] 23)).alloc (.cells #[.int .i64 m, .int .i64 q] 23)).alloc (.cells #[.int .i64 0, .int .i64 0] 23)).alloc o).heap.size ((((w.alloc (.cells #[.int .i64 n, .int .i64 d] 23)).alloc (.cells #[.int .i64 m, .int .i64 q] 23)).alloc (.cells #[.int .i64 0, .int .i64 0] 23)).alloc o) w1) : Hid (K2 w w1 n d m q) := by
  have r1 : w1.cell? ⟨w.heap.size, 0, none⟩ = some (.int .i64 n) := (hb.cell (by simp; omega)).trans (by simp [go_sem])
  have r2 : w1.cell? ⟨w.heap.size, 1, none⟩ = some (.int .i64 d) := (hb.cell (by simp; omega)).trans (by simp [go_sem])
  have r3 : w1.cell? ⟨w.heap.size + 1, 0, none⟩ = some (.int .i64 m) := (hb.cell (by simp)).trans (by simp [go_sem])
  have r4 : w1.cell? ⟨w.heap.size + 1, 1, none⟩ = some (.int .i64 q) := (hb.cell (by simp)).trans (by simp [go_sem])
  have q0 : w1.cell? ⟨w.heap.size + 1 + 1, 0, none⟩ = some (.int .i64 0) := (hb.cell (by simp)).trans (by simp [go_sem])
  have q1 : w1.cell? ⟨w.heap.size + 1 + 1, 1, none⟩ = some (.int .i64 0) := (hb.cell (by simp)).trans (by simp [go_sem])
  have f0 : w1.frozen? ⟨w.heap.size + 1 + 1, 0, none⟩ = false := (hb.frozen (by simp)).trans (by simp [go_sem])
  have f1 : w1.frozen? ⟨w.heap.size + 1 + 1, 1, none⟩ = false := (hb.frozen (by simp)).trans (by simp [go_sem])
  exact hide ⟨⟨r1, r2, r3, r4⟩, ⟨q0, q1, f0, f1⟩, bt (ba (ba (ba (ba (Below.refl _ _) _) _) _) _) hb⟩
theorem k2_end {w0 w : World} {n d m q : Int} (h : Hid (K2 w0 w n d m q)) (u v : Value) : Below w0.heap.size w0 ((w.setCell ⟨w0.heap.size + 1 + 1, 0, none⟩ u).setCell ⟨w0.heap.size + 1 + 1, 1, none⟩ v) :=
  bs (bs h.out.2.2 (by simp only []; omega) _) (by simp only []; omega) _
theorem of_b (n d : Int) (w : World) :
    Calls Try.prog 79 #[.agg #[.int .i64 n, .int .i64 d]] w fun e w' => e = .returned (.agg #[.int .i64 n, .int .i64 d]) ∧ Below w.heap.size w w' :=
  (of_any n d w).mono fun _ _ ⟨a, b⟩ => ⟨a, b ▸ ba (ba (Below.refl _ _) _) _⟩
theorem plus_b (n d m q x y : Int) (w : World) (h1 : In64 (n * q)) (h2 : In64 (m * d)) (h3 : In64 (n * q + m * d)) (h4 : In64 (d * q)) (e1 : Hid (x = n * q + m * d)) (e2 : Hid (y = d * q)) :
    Calls Try.prog 81 #[.agg #[.int .i64 n, .int .i64 d], .agg #[.int .i64 m, .int .i64 q]] w fun e w' => e = .returned (.agg #[.int .i64 x, .int .i64 y]) ∧ Below w.heap.size w w' :=
  (plus_any n d m q w h1 h2 h3 h4).mono fun _ _ ⟨a, b⟩ => ⟨by rw [a, e1.out, e2.out], b ▸ ba (ba (ba (Below.refl _ _) _) _) _⟩
theorem times_b (n d m q x y : Int) (w : World) (h1 : In64 (n * m)) (h4 : In64 (d * q)) (e1 : Hid (x = n * m)) (e2 : Hid (y = d * q)) :
    Calls Try.prog 84 #[.agg #[.int .i64 n, .int .i64 d], .agg #[.int .i64 m, .int .i64 q]] w fun e w' => e = .returned (.agg #[.int .i64 x, .int .i64 y]) ∧ Below w.heap.size w w' :=
  (times_any n d m q w h1 h4).mono fun _ _ ⟨a, b⟩ => ⟨by rw [a, e1.out, e2.out], b ▸ ba (ba (ba (Below.refl _ _) _) _) _⟩
theorem negative_b (n d x : Int) (w : World) (h1 : In64 (-n)) (e1 : Hid (x = -n)) :
    Calls Try.prog 83 #[.agg #[.int .i64 n, .int .i64 d]] w fun e w' => e = .returned (.agg #[.int .i64 x, .int .i64 d]) ∧ Below w.heap.size w w' :=
  (negative_any n d w h1).mono fun _ _ ⟨a, b⟩ => ⟨by rw [a, e1.out], b ▸ ba (ba (Below.refl _ _) _) _⟩
theorem reduced_b (n d x y z : Int) (w : World) (h1 : In64 n) (h2 : In64 d) (hx : Hid (x = M.nN n d)) (hy : Hid (y = M.nD n d)) (hz : Hid (z = M.nE n d)) :
    Calls Try.prog 82 #[.agg #[.int .i64 n, .int .i64 d]] w fun e w' => e = .returned (.tuple #[.agg #[.int .i64 x, .int .i64 y], .int .i64 z]) ∧ Below w.heap.size w w' := by
  rw [hx.out, hy.out, hz.out]; exact reduced_any n d w h1 h2

end Go.Proofs.Ytpgnbjlpkpmpcaa
