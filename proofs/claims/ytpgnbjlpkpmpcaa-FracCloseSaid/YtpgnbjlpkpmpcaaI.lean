import Derived.Test.YtpgnbjlpkpmpcaaE
import Derived.Deep.RegionWith
namespace Go.Proofs.Ytpgnbjlpkpmpcaa
open Go.RowKit
theorem all1 (b : Nat) (n d : Int) (w : World) (h1 : FrAt w b 0 n d) (i1 : In64 n) (i2 : In64 d) (v : Bool) (hv : Hid (M.okB n d = v)) :
    Calls Try.prog 78 #[.slice (some ⟨b, 0, none⟩) 1 1] w fun e w' => e = .returned (.bool v) ∧ Below w.heap.size w w' := by
  have := allv_any b 0 1 1 (fun _ => n) (fun _ => d) w (by omega)
    (fun i hi => by rcases (show i = 0 by omega) with rfl; simp; assumption)
    (fun i hi => ⟨i1, i2⟩)
  have e : allOk (fun _ => n) (fun _ => d) 1 = M.okB n d := by simp [allOk, List.range_succ]
  rw [e, hv.out] at this; exact this
def K1 (w0 : World) (w : World) (n d : Int) : Prop :=
  (w.cell? ⟨w0.heap.size, 0, none⟩ = some (.int .i64 n) ∧ w.cell? ⟨w0.heap.size, 1, none⟩ = some (.int .i64 d)) ∧
  (w.cell? ⟨w0.heap.size + 1, 0, none⟩ = some (.int .i64 0) ∧ w.cell? ⟨w0.heap.size + 1, 1, none⟩ = some (.int .i64 0) ∧ w.frozen? ⟨w0.heap.size + 1, 0, none⟩ = false ∧ w.frozen? ⟨w0.heap.size + 1, 1, none⟩ = false) ∧ Below w0.heap.size w0 w
theorem k1_step {w0 w w' : World} {n d : Int} (h : Hid (K1 w0 w n d)) (hb : Below w.heap.size w w') : Hid (K1 w0 w' n d) := by
  obtain ⟨⟨r1, r2⟩, ⟨q0, q1, f0, f1⟩, b⟩ := h.out
  exact hide ⟨⟨kc hb r1, kc hb r2⟩, ⟨kc hb q0, kc hb q1, kf hb q0 f0, kf hb q1 f1⟩, bt b hb⟩
theorem k1_drew {w0 w : World} {n d : Int} (h : Hid (K1 w0 w n d)) : Hid (K1 w0 w.drew n d) := by
  obtain ⟨a, b, c⟩ := h.out
  exact hide ⟨a, b, c.drew⟩
theorem k1_made {w w1 : World} {n d : Int} {t t' : TypeId} {o : Obj} (hb : Below (((w.alloc (.cells #[.int .i64 n, .int .i64 d] t)).alloc (.cells #[.int .i64 0, .int .i64 0] t')).alloc o).heap.size (((w.alloc (.cells #[.int .i64 n, .int .i64 d] t)).alloc (.cells #[.int .i64 0, .int .i64 0] t')).alloc o) w1) : Hid (K1 w w1 n d) :=
  hide ⟨⟨(hb.cell (by simp; omega)).trans (by simp [go_sem]), (hb.cell (by simp; omega)).trans (by simp [go_sem])⟩, ⟨(hb.cell (by simp)).trans (by simp [go_sem]), (hb.cell (by simp)).trans (by simp [go_sem]), (hb.frozen (by simp)).trans (by simp [go_sem]), (hb.frozen (by simp)).trans (by simp [go_sem])⟩, bt (ba (ba (ba (Below.refl _ _) _) _) _) hb⟩
theorem k1_end {w0 w : World} {n d : Int} (h : Hid (K1 w0 w n d)) (u v : Value) : Below w0.heap.size w0 ((w.setCell ⟨w0.heap.size + 1, 0, none⟩ u).setCell ⟨w0.heap.size + 1, 1, none⟩ v) :=
  bs (bs h.out.2.2 (by simp only []; omega) _) (by simp only []; omega) _
theorem absolute_b (n d x : Int) (w : World) (h1 : In64 n) (h2 : In64 (-n)) (e1 : Hid (x = n.natAbs)) :
    Calls Try.prog 86 #[.agg #[.int .i64 n, .int .i64 d]] w fun e w' => e = .returned (.agg #[.int .i64 x, .int .i64 d]) ∧ Below w.heap.size w w' := by
  rw [e1.out]; exact absolute_any n d w h1 h2
set_option maxHeartbeats 1000000 in
theorem neg_yes (n d x y z s : Int) (w : World) (h1 : M.okB n d = true) (hs : Hid (s = -n)) (hx : Hid (x = M.nN s d)) (hy : Hid (y = M.nD s d)) (hz : Hid (z = M.nE s d)) : 
    Calls Try.prog 36 #[.agg #[.int .i64 n, .int .i64 d]] w fun e w' => e = .returned (.tuple #[.agg #[.int .i64 x, .int .i64 y], .int .i64 z]) ∧ Below w.heap.size w w' := by
  obtain ⟨a1, a2, a3, a4⟩ := okB_in h1
  have HV := hide h1; clear h1
  have G : Hid ((In64 n ∧ In64 d) ∧ In64 s ∧ In64 (-n)) := hide ⟨⟨in64_of a1 a2, in64_of (by omega) a4⟩, by rw [hs.out]; exact ⟨by omega, by omega⟩, ⟨by omega, by omega⟩⟩
  clear a1 a2 a3 a4
  go_enter Try.func36, Try.ntmps36
  go_wp2_with fail
  refine (all1 _ n d _ ⟨by simp [go_sem], by simp [go_sem]⟩ G.out.1.1 G.out.1.2 true HV).mono ?_
  rintro e w1 ⟨rfl, hb⟩
  have HK := k1_made hb; clear hb
  have HKd := k1_drew HK
  obtain ⟨⟨r1, r2⟩, ⟨q0, q1, f0, f1⟩, _⟩ := HK.out
  go_wp2_with fail
  refine (of_b _ _ _).mono ?_; rintro e w2 ⟨rfl, hb'⟩; have hk2 := k1_step ‹_› hb'; obtain ⟨⟨_, _⟩, ⟨_, _, _, _⟩, _⟩ := hk2.out; clear hb'
  go_wp2_with fail
  refine (negative_b n d s _ G.out.2.2 hs).mono ?_; rintro e w3 ⟨rfl, hb'⟩; have hk3 := k1_step ‹_› hb'; obtain ⟨⟨_, _⟩, ⟨_, _, _, _⟩, _⟩ := hk3.out; clear hb'
  go_wp2_with fail
  refine (reduced_b s d x y z _ G.out.2.1 G.out.1.2 hx hy hz).mono ?_; rintro e w4 ⟨rfl, hb'⟩; have hk4 := k1_step ‹_› hb'; obtain ⟨⟨_, _⟩, ⟨_, _, _, _⟩, _⟩ := hk4.out; clear hb'
  go_wp2_with fail
  refine bodyPost_ret (v := .tuple #[.agg #[.int .i64 x, .int .i64 y], .int .i64 z]) (by simp [results, Try.results36, go_sem, *]) rfl ⟨rfl, ?_⟩
  exact k1_end ‹_› _ _
set_option maxHeartbeats 1000000 in
theorem neg_no (n d : Int) (w : World) (i1 : In64 n) (i2 : In64 d) (h : M.okB n d = false) : 
    Calls Try.prog 36 #[.agg #[.int .i64 n, .int .i64 d]] w fun e w' => e = .returned (.tuple #[.agg #[.int .i64 0, .int .i64 0], .int .i64 2]) ∧ Below w.heap.size w w' := by
  have HV := hide h; clear h
  have G := hide (And.intro i1 i2); clear i1 i2
  go_enter Try.func36, Try.ntmps36
  go_wp2_with fail
  refine (all1 _ n d _ ⟨by simp [go_sem], by simp [go_sem]⟩ G.out.1 G.out.2 false HV).mono ?_
  rintro e w1 ⟨rfl, hb⟩
  have HK := k1_made hb; clear hb
  obtain ⟨⟨r1, r2⟩, ⟨q0, q1, f0, f1⟩, _⟩ := HK.out
  go_wp2_with fail
  refine bodyPost_ret (v := .tuple #[.agg #[.int .i64 0, .int .i64 0], .int .i64 2]) (by simp [results, Try.results36, go_sem, *]) rfl ⟨rfl, ?_⟩
  exact k1_end ‹_› _ _
set_option maxHeartbeats 1000000 in
theorem abs_yes (n d x y z s : Int) (w : World) (h1 : M.okB n d = true) (hs : Hid (s = (n.natAbs : Int))) (hx : Hid (x = M.nN s d)) (hy : Hid (y = M.nD s d)) (hz : Hid (z = M.nE s d)) : 
    Calls Try.prog 38 #[.agg #[.int .i64 n, .int .i64 d]] w fun e w' => e = .returned (.tuple #[.agg #[.int .i64 x, .int .i64 y], .int .i64 z]) ∧ Below w.heap.size w w' := by
  obtain ⟨a1, a2, a3, a4⟩ := okB_in h1
  have HV := hide h1; clear h1
  have G : Hid ((In64 n ∧ In64 d) ∧ In64 s ∧ In64 (-n)) := hide ⟨⟨in64_of a1 a2, in64_of (by omega) a4⟩, by rw [hs.out]; exact ⟨by omega, by omega⟩, ⟨by omega, by omega⟩⟩
  clear a1 a2 a3 a4
  go_enter Try.func38, Try.ntmps38
  go_wp2_with fail
  refine (all1 _ n d _ ⟨by simp [go_sem], by simp [go_sem]⟩ G.out.1.1 G.out.1.2 true HV).mono ?_
  rintro e w1 ⟨rfl, hb⟩
  have HK := k1_made hb; clear hb
  have HKd := k1_drew HK
  obtain ⟨⟨r1, r2⟩, ⟨q0, q1, f0, f1⟩, _⟩ := HK.out
  go_wp2_with fail
  refine (of_b _ _ _).mono ?_; rintro e w2 ⟨rfl, hb'⟩; have hk2 := k1_step ‹_› hb'; obtain ⟨⟨_, _⟩, ⟨_, _, _, _⟩, _⟩ := hk2.out; clear hb'
  go_wp2_with fail
  refine (absolute_b n d s _ G.out.1.1 G.out.2.2 hs).mono ?_; rintro e w3 ⟨rfl, hb'⟩; have hk3 := k1_step ‹_› hb'; obtain ⟨⟨_, _⟩, ⟨_, _, _, _⟩, _⟩ := hk3.out; clear hb'
  go_wp2_with fail
  refine (reduced_b s d x y z _ G.out.2.1 G.out.1.2 hx hy hz).mono ?_; rintro e w4 ⟨rfl, hb'⟩; have hk4 := k1_step ‹_› hb'; obtain ⟨⟨_, _⟩, ⟨_, _, _, _⟩, _⟩ := hk4.out; clear hb'
  go_wp2_with fail
  refine bodyPost_ret (v := .tuple #[.agg #[.int .i64 x, .int .i64 y], .int .i64 z]) (by simp [results, Try.results38, go_sem, *]) rfl ⟨rfl, ?_⟩
  exact k1_end ‹_› _ _
set_option maxHeartbeats 1000000 in
theorem abs_no (n d : Int) (w : World) (i1 : In64 n) (i2 : In64 d) (h : M.okB n d = false) : 
    Calls Try.prog 38 #[.agg #[.int .i64 n, .int .i64 d]] w fun e w' => e = .returned (.tuple #[.agg #[.int .i64 0, .int .i64 0], .int .i64 2]) ∧ Below w.heap.size w w' := by
  have HV := hide h; clear h
  have G := hide (And.intro i1 i2); clear i1 i2
  go_enter Try.func38, Try.ntmps38
  go_wp2_with fail
  refine (all1 _ n d _ ⟨by simp [go_sem], by simp [go_sem]⟩ G.out.1 G.out.2 false HV).mono ?_
  rintro e w1 ⟨rfl, hb⟩
  have HK := k1_made hb; clear hb
  obtain ⟨⟨r1, r2⟩, ⟨q0, q1, f0, f1⟩, _⟩ := HK.out
  go_wp2_with fail
  refine bodyPost_ret (v := .tuple #[.agg #[.int .i64 0, .int .i64 0], .int .i64 2]) (by simp [results, Try.results38, go_sem, *]) rfl ⟨rfl, ?_⟩
  exact k1_end ‹_› _ _
end Go.Proofs.Ytpgnbjlpkpmpcaa
