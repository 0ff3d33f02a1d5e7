import Derived.Test.YtpgnbjlpkpmpcaaI
import Derived.Test.YtpgnbjlpkpmpcaaDa
import Derived.Deep.RegionHeld3
import Derived.IntWalk
set_option linter.unusedVariables false
namespace Go.Proofs.Ytpgnbjlpkpmpcaa
open Go.RowKit
set_option maxRecDepth 20000 in
set_option maxHeartbeats 2000000 in
theorem apart_any (n d m q z : Int) (w : World) (G : Hid ((In64 (n * q) ∧ In64 (-m * d) ∧ In64 (n * q + -m * d) ∧ In64 (d * q)) ∧ In64 (-m) ∧ In64 (-(n * q + -m * d)))) (hz : Hid (z = ((n * q - m * d).natAbs : Int))) :
    Calls Try.prog 127 #[.agg #[.int .i64 n, .int .i64 d], .agg #[.int .i64 m, .int .i64 q]] w fun e w' => e = .returned (.int .i64 z) ∧ Below w.heap.size w w' := by
  obtain ⟨s, hs⟩ : ∃ s, Hid (s = n * q + -m * d) := ⟨_, rfl⟩
  obtain ⟨t, ht⟩ : ∃ s, Hid (s = d * q) := ⟨_, rfl⟩
  have HZ : Hid (z = (s.natAbs : Int)) := hide (by rw [hz.out, hs.out, Int.neg_mul]; congr 1)
  have GS : Hid (In64 s ∧ In64 (-s)) := hide (by rw [hs.out]; exact ⟨G.out.1.2.2.1, G.out.2.2⟩)
  have hfd : ∀ w : World, (Instr.field 78 (.agg #[.int .i64 z, .int .i64 t]) 0).run Try.prog w = .ok (.int .i64 z) w := fun _ => by kernel_rfl
  go_enter Try.func127, Try.ntmps127
  go_wp2_with fail
  have hb0 : Hid (Below w.heap.size w ((w.alloc (.cells #[.int .i64 n, .int .i64 d] 78)).alloc (.cells #[.int .i64 m, .int .i64 q] 78))) := hide (ba (ba (Below.refl _ _) _) _)
  go_region_held3 (fun w' => w'.cell? ⟨w.heap.size, 0, none⟩ = some (.int .i64 n) ∧ w'.cell? ⟨w.heap.size, 1, none⟩ = some (.int .i64 d) ∧ w'.cell? ⟨w.heap.size + 1, 0, none⟩ = some (.int .i64 m) ∧ w'.cell? ⟨w.heap.size + 1, 1, none⟩ = some (.int .i64 q) ∧ Hid (Below w.heap.size w w'))
    ((go_split_ands; (first | dsimp only | skip); refine ⟨?_, ?_, ?_, ?_, ?_⟩ <;> first | with_reducible assumption | (simp only [World.cell?_drew]; with_reducible assumption) | (with_reducible exact kc hbw ‹_›) | (with_reducible exact bdh ‹_›) | (with_reducible exact bth ‹_› hbw) | (go_simp; done)))
    (first | (go_at_call 83; refine (negative_b m q (-m) _ G.out.2.1 (hide rfl)).mono ?_; rintro e w' ⟨rfl, hbw⟩) | (go_at_call 81; refine (plus_b n d (-m) q s t _ G.out.1.1 G.out.1.2.1 G.out.1.2.2.1 G.out.1.2.2.2 hs ht).mono ?_; rintro e w' ⟨rfl, hbw⟩) | (go_at_call 86; go_split_ands; refine (absolute_b s t z _ GS.out.1 GS.out.2 HZ).mono ?_; rintro e w' ⟨rfl, hbw⟩; have hb9 := bth (a := w) ‹_› hbw))
  go_wp2_with fail
  go_ret
  exact ⟨rfl, hb9.out⟩
theorem apart_low (n m a b d z : Int) (w : World) (hm : 1 ≤ m ∧ m ≤ 1000000000) (hb : 1 ≤ b ∧ b ≤ 1000000000) (ha : -1000000000 ≤ a ∧ a ≤ 1000000000) (hn : -1000000000 ≤ n ∧ n ≤ 1000000000) (hz : Hid (z = ((a * m - n * b).natAbs : Int))) :
    Calls Try.prog 127 #[.agg #[.int .i64 a, .int .i64 b], .agg #[.int .i64 n, .int .i64 m]] w fun e w' => e = .returned (.int .i64 z) ∧ Below w.heap.size w w' := by
  obtain ⟨p1, p2⟩ := prod_bd ha.1 ha.2 (by omega : -1000000000 ≤ m) hm.2
  obtain ⟨p3, p4⟩ := prod_bd (a := -n) (by omega) (by omega) (by omega : -1000000000 ≤ b) hb.2
  obtain ⟨p5, p6⟩ := prod_bd (by omega : -1000000000 ≤ b) hb.2 (by omega : -1000000000 ≤ m) hm.2
  exact apart_any a b n m z w (hide ⟨⟨⟨by omega, by omega⟩, ⟨by omega, by omega⟩, ⟨by omega, by omega⟩, ⟨by omega, by omega⟩⟩, ⟨by omega, by omega⟩, ⟨by omega, by omega⟩⟩) hz
def R2 (w0 : World) (s : Nat) (w : World) : Prop := ((∃ u, w.cell? ⟨s, 0, none⟩ = some u) ∧ (∃ u, w.cell? ⟨s, 1, none⟩ = some u)) ∧ (w.frozen? ⟨s, 0, none⟩ = false ∧ w.frozen? ⟨s, 1, none⟩ = false) ∧ w0.heap.size ≤ s ∧ Below w0.heap.size w0 w
theorem r2_step {w0 w w' : World} {s : Nat} (h : Hid (R2 w0 s w)) (hb : Below w.heap.size w w') : Hid (R2 w0 s w') := by
  obtain ⟨⟨⟨u0, q0⟩, ⟨u1, q1⟩⟩, ⟨f0, f1⟩, hs, b⟩ := h.out
  exact hide ⟨⟨⟨_, kc hb q0⟩, ⟨_, kc hb q1⟩⟩, ⟨kf hb q0 f0, kf hb q1 f1⟩, hs, bt b hb⟩
theorem r2_drew {w0 w : World} {s : Nat} (h : Hid (R2 w0 s w)) : Hid (R2 w0 s w.drew) := by
  obtain ⟨a, b, hs, c⟩ := h.out
  exact hide ⟨a, b, hs, c.drew⟩
/-- the three boxes of toward, and its result's variable -/
def T3 (w : World) (a b c e n m : Int) : World := (((w.alloc (.cells #[.int .i64 a, .int .i64 b] 78)).alloc (.cells #[.int .i64 c, .int .i64 e] 78)).alloc (.cells #[.int .i64 n, .int .i64 m] 78)).alloc (.cells #[.int .i64 0, .int .i64 0] 78)
theorem t3_cells (w : World) (a b c e n m : Int) (W : World) (hW : W = T3 w a b c e n m) : ((W.cell? ⟨w.heap.size, 0, none⟩ = some (.int .i64 a) ∧ W.cell? ⟨w.heap.size, 1, none⟩ = some (.int .i64 b)) ∧ (W.cell? ⟨w.heap.size + 1, 0, none⟩ = some (.int .i64 c) ∧ W.cell? ⟨w.heap.size + 1, 1, none⟩ = some (.int .i64 e)) ∧ (W.cell? ⟨w.heap.size + 1 + 1, 0, none⟩ = some (.int .i64 n) ∧ W.cell? ⟨w.heap.size + 1 + 1, 1, none⟩ = some (.int .i64 m))) ∧ Hid (R2 w (w.heap.size + 1 + 1 + 1) W) := by
  subst hW; unfold T3
  exact ⟨⟨⟨by simp [go_sem], by simp [go_sem]⟩, ⟨by simp [go_sem], by simp [go_sem]⟩, ⟨by simp [go_sem], by simp [go_sem]⟩⟩, hide ⟨⟨⟨.int .i64 0, by simp [go_sem]⟩, ⟨.int .i64 0, by simp [go_sem]⟩⟩, ⟨by simp [go_sem], by simp [go_sem]⟩, by omega, ba (ba (ba (ba (Below.refl _ _) _) _) _) _⟩⟩
set_option maxRecDepth 20000 in
set_option maxHeartbeats 4000000 in
theorem toward_any (n m a b c e d X Y k x y : Int) (w : World) (hm : 1 ≤ m ∧ m ≤ 1000000000) (hn : -1000000000 ≤ n ∧ n ≤ 1000000000) (hb : 1 ≤ b ∧ b ≤ d) (he : 1 ≤ e ∧ e ≤ d) (hd : d ≤ 1000000000) (ha : -1000000000 ≤ a ∧ a ≤ 1000000000) (hc : -1000000000 ≤ c ∧ c ≤ 1000000000)
    (hX : Hid (X = ((a * m - n * b).natAbs : Int))) (hY : Hid (Y = ((c * m - n * e).natAbs : Int))) (hX0 : 0 ≤ X) (hXm : X ≤ m) (hY0 : 1 ≤ Y) (hYm : Y ≤ m) (hk : Hid (k = min ((d - b) / e) (X / Y))) (hk0 : 0 ≤ k) (hke : k * e ≤ d) (hx : Hid (x = a + k * c)) (hxb : -1000000000 ≤ x ∧ x ≤ 1000000000) (hy : Hid (y = b + k * e)) (hyd : y ≤ d) :
    Calls Try.prog 120 #[.agg #[.int .i64 a, .int .i64 b], .agg #[.int .i64 c, .int .i64 e], .agg #[.int .i64 n, .int .i64 m], .int .i64 d] w fun e w' => e = .returned (.agg #[.int .i64 x, .int .i64 y]) ∧ Below w.heap.size w w' := by
  have G : Hid (((1 ≤ m ∧ m ≤ 1000000000) ∧ (-1000000000 ≤ n ∧ n ≤ 1000000000)) ∧ ((1 ≤ b ∧ b ≤ 1000000000) ∧ (1 ≤ e ∧ e ≤ 1000000000)) ∧ ((-1000000000 ≤ a ∧ a ≤ 1000000000) ∧ (-1000000000 ≤ c ∧ c ≤ 1000000000))) := hide ⟨⟨hm, hn⟩, ⟨⟨hb.1, by omega⟩, ⟨he.1, by omega⟩⟩, ha, hc⟩
  obtain ⟨b1, b2⟩ := hb
  obtain ⟨e1, e2⟩ := he
  have hkc : -2000000000 ≤ k * c ∧ k * c ≤ 2000000000 := by have := hx.out; omega
  obtain ⟨kc1, kc2⟩ := hkc
  have hs1 : -1000000000 ≤ a + k * c ∧ a + k * c ≤ 1000000000 := by rw [← hx.out]; exact hxb
  have hs2 : b + k * e ≤ 1000000000 := by rw [← hy.out]; omega
  obtain ⟨s1, s2⟩ := hs1
  have hke0 : 0 ≤ k * e := Int.mul_nonneg hk0 (by omega)
  have hkd : k ≤ 1000000000 := by
    have := M.mul_ge (b := k) (x := e) hk0 e1; omega
  go_enter Try.func120, Try.ntmps120
  go_wp2_with fail
  obtain ⟨W, hW⟩ : ∃ W, W = T3 w a b c e n m := ⟨_, rfl⟩
  obtain ⟨⟨⟨c1, c2⟩, ⟨c3, c4⟩, ⟨c5, c6⟩⟩, hR⟩ := t3_cells w a b c e n m W hW
  unfold T3 at hW
  rw [← hW]
  clear hW
  have he0 : ¬ e = 0 := by omega
  have he0' : (e == 0) = false := by simpa using he0
  have hY1 : ¬ Y = 0 := by omega
  have hY1' : (Y == 0) = false := by simpa using hY1
  obtain ⟨q1, hq1⟩ : ∃ q, Hid (q = (d - b) / e) := ⟨_, rfl⟩
  obtain ⟨q2, hq2⟩ : ∃ q, Hid (q = X / Y) := ⟨_, rfl⟩
  have HK : Hid ((if q2 < q1 then q2 else q1) = k) := hide (by rw [hk.out, hq1.out, hq2.out, Int.min_def]; split <;> split <;> omega)
  have hq1b : 0 ≤ q1 ∧ q1 ≤ 1000000000 := by
    rw [hq1.out]; exact ⟨Int.ediv_nonneg (by omega) (by omega), by have := Int.ediv_le_self (a := d - b) e (by omega); omega⟩
  have hq2b : 0 ≤ q2 ∧ q2 ≤ 1000000000 := by
    rw [hq2.out]; exact ⟨Int.ediv_nonneg (by omega) (by omega), by have := Int.ediv_le_self (a := X) Y (by omega); omega⟩
  have hw1 : IntKind.i64.wrap (d - b) = d - b := IntWalk.i64_in _ (by omega)
  have hw2 : IntKind.i64.wrap ((d - b).tdiv e) = q1 := by rw [Int.tdiv_eq_ediv_of_nonneg (by omega), ← hq1.out]; exact IntWalk.i64_in _ (by omega)
  have hw3 : IntKind.i64.wrap (X.tdiv Y) = q2 := by rw [Int.tdiv_eq_ediv_of_nonneg (by omega), ← hq2.out]; exact IntWalk.i64_in _ (by omega)
  go_region_held3 (fun w' => ((w'.cell? ⟨w.heap.size, 0, none⟩ = some (.int .i64 a) ∧ w'.cell? ⟨w.heap.size, 1, none⟩ = some (.int .i64 b)) ∧ (w'.cell? ⟨w.heap.size + 1, 0, none⟩ = some (.int .i64 c) ∧ w'.cell? ⟨w.heap.size + 1, 1, none⟩ = some (.int .i64 e)) ∧ (w'.cell? ⟨w.heap.size + 1 + 1, 0, none⟩ = some (.int .i64 n) ∧ w'.cell? ⟨w.heap.size + 1 + 1, 1, none⟩ = some (.int .i64 m))) ∧ Hid (R2 w (w.heap.size + 1 + 1 + 1) w'))
    ((go_split_ands; (first | dsimp only | skip); refine ⟨⟨⟨?_, ?_⟩, ⟨?_, ?_⟩, ⟨?_, ?_⟩⟩, ?_⟩ <;> first | with_reducible assumption | (simp only [World.cell?_drew]; with_reducible assumption) | (with_reducible exact kc hbw ‹_›) | (with_reducible exact r2_drew ‹_›) | (with_reducible exact r2_step ‹_› hbw) | (go_simp; done)))
    (first | (go_at_call_of 127 a; go_split_ands; refine (apart_low n m a b d X _ G.out.1.1 G.out.2.1.1 G.out.2.2.1 G.out.1.2 hX).mono ?_; rintro en w' ⟨rfl, hbw⟩) | (go_at_call_of 127 c; go_split_ands; refine (apart_low n m c e d Y _ G.out.1.1 G.out.2.1.2 G.out.2.2.2 G.out.1.2 hY).mono ?_; rintro en w' ⟨rfl, hbw⟩; have hr9 := r2_step ‹_› hbw))
  rw [HK.out]
  go_split_ands
  clear hw1 hw2 hw3 he0 he0' hY1 hY1'
  obtain ⟨⟨⟨u0, g0⟩, ⟨u1, g1⟩⟩, ⟨g2, g3⟩, _⟩ := hr9.out
  go_wp2_with fail
  refine bodyPost_ret (v := .agg #[.int .i64 (a + k * c), .int .i64 (b + k * e)]) (by simp [results, Try.results120, go_sem, g0, g1]) rfl ⟨by rw [hx.out, hy.out], ?_⟩
  exact bs (bs hr9.out.2.2.2 (by simp only []; omega) _) (by simp only []; omega) _
end Go.Proofs.Ytpgnbjlpkpmpcaa
