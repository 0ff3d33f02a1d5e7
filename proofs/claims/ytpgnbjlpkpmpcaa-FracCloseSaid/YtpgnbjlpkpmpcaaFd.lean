import Derived.Test.YtpgnbjlpkpmpcaaE
import Derived.Deep.RegionWith
namespace Go.Proofs.Ytpgnbjlpkpmpcaa
open Go.RowKit
set_option maxHeartbeats 1000000 in
theorem div_no (n d m q : Int) (w : World) (i1 : In64 n) (i2 : In64 d) (i3 : In64 m) (i4 : In64 q) (h : (M.okB n d && M.okB m q) = false) : 
    Calls Try.prog 34 #[.agg #[.int .i64 n, .int .i64 d], .agg #[.int .i64 m, .int .i64 q]] w fun e w' => e = .returned (.tuple #[.agg #[.int .i64 0, .int .i64 0], .int .i64 2]) ∧ Below w.heap.size w w' := by
  have HV := hide h; clear h
  have G := hide (And.intro (And.intro i1 i2) (And.intro i3 i4)); clear i1 i2 i3 i4
  go_enter Try.func34, Try.ntmps34
  go_wp2_with fail
  refine (all2 _ n d m q _ ⟨by simp [go_sem], by simp [go_sem]⟩ ⟨by simp [go_sem], by simp [go_sem]⟩ G.out.1.1 G.out.1.2 G.out.2.1 G.out.2.2 false HV).mono ?_
  rintro e w1 ⟨rfl, hb⟩
  have HK := k2_made hb; clear hb
  obtain ⟨⟨r1, r2, r3, r4⟩, ⟨q0, q1, f0, f1⟩, _⟩ := HK.out
  go_wp2_with fail
  refine bodyPost_ret (v := .tuple #[.agg #[.int .i64 0, .int .i64 0], .int .i64 2]) (by simp [results, Try.results34, go_sem, *]) rfl ⟨rfl, ?_⟩
  exact k2_end ‹_› _ _
set_option maxHeartbeats 1000000 in
theorem med_no (n d m q : Int) (w : World) (i1 : In64 n) (i2 : In64 d) (i3 : In64 m) (i4 : In64 q) (h : (M.okB n d && M.okB m q) = false) : 
    Calls Try.prog 65 #[.agg #[.int .i64 n, .int .i64 d], .agg #[.int .i64 m, .int .i64 q]] w fun e w' => e = .returned (.tuple #[.agg #[.int .i64 0, .int .i64 0], .int .i64 2]) ∧ Below w.heap.size w w' := by
  have HV := hide h; clear h
  have G := hide (And.intro (And.intro i1 i2) (And.intro i3 i4)); clear i1 i2 i3 i4
  go_enter Try.func65, Try.ntmps65
  go_wp2_with fail
  refine (all2 _ n d m q _ ⟨by simp [go_sem], by simp [go_sem]⟩ ⟨by simp [go_sem], by simp [go_sem]⟩ G.out.1.1 G.out.1.2 G.out.2.1 G.out.2.2 false HV).mono ?_
  rintro e w1 ⟨rfl, hb⟩
  have HK := k2_made hb; clear hb
  obtain ⟨⟨r1, r2, r3, r4⟩, ⟨q0, q1, f0, f1⟩, _⟩ := HK.out
  go_wp2_with fail
  refine bodyPost_ret (v := .tuple #[.agg #[.int .i64 0, .int .i64 0], .int .i64 2]) (by simp [results, Try.results65, go_sem, *]) rfl ⟨rfl, ?_⟩
  exact k2_end ‹_› _ _

theorem new_b (n d x y z : Int) (w : World) (h1 : In64 n) (h2 : In64 d) (hx : Hid (x = M.nN n d)) (hy : Hid (y = M.nD n d)) (hz : Hid (z = M.nE n d)) :
    Calls Try.prog 23 #[.int .i64 n, .int .i64 d] w fun e w' => e = .returned (.tuple #[.agg #[.int .i64 x, .int .i64 y], .int .i64 z]) ∧ Below w.heap.size w w' := by
  rw [hx.out, hy.out, hz.out]; exact new_any n d w h1.1 h1.2 h2.1 h2.2
set_option maxHeartbeats 1000000 in
theorem div_zero (n d q : Int) (w : World) (h1 : M.okB n d = true) (h2 : M.okB 0 q = true) :
    Calls Try.prog 34 #[.agg #[.int .i64 n, .int .i64 d], .agg #[.int .i64 0, .int .i64 q]] w fun e w' => e = .returned (.tuple #[.agg #[.int .i64 0, .int .i64 0], .int .i64 4]) ∧ Below w.heap.size w w' := by
  obtain ⟨a1, a2, a3, a4⟩ := okB_in h1
  obtain ⟨b1, b2, b3, b4⟩ := okB_in h2
  have HV : Hid ((M.okB n d && M.okB 0 q) = true) := hide (by rw [h1, h2]; rfl)
  clear h1 h2
  go_enter Try.func34, Try.ntmps34
  go_wp2_with fail
  refine (all2 _ n d 0 q _ ⟨by simp [go_sem], by simp [go_sem]⟩ ⟨by simp [go_sem], by simp [go_sem]⟩ (in64_of a1 a2) (in64_of (by omega) a4) (in64_of b1 b2) (in64_of (by omega) b4) true HV).mono ?_
  rintro e w1 ⟨rfl, hb⟩
  have HK := k2_made hb; clear hb
  have HKd := k2_drew HK
  obtain ⟨⟨r1, r2, r3, r4⟩, ⟨q0, q1, f0, f1⟩, _⟩ := HK.out
  clear a1 a2 a3 a4 b1 b2 b3 b4
  go_wp2_with fail
  refine bodyPost_ret (v := .tuple #[.agg #[.int .i64 0, .int .i64 0], .int .i64 4]) (by simp [results, Try.results34, go_sem, *]) rfl ⟨rfl, ?_⟩
  exact k2_end ‹_› _ _
set_option maxHeartbeats 1000000 in
theorem div_yes (n d m q x y z : Int) (w : World) (h1 : M.okB n d = true) (h2 : M.okB m q = true) (hm : m ≠ 0)
    (hx : Hid (x = M.nN (n * q) (d * m))) (hy : Hid (y = M.nD (n * q) (d * m))) (hz : Hid (z = M.nE (n * q) (d * m))) : 
    Calls Try.prog 34 #[.agg #[.int .i64 n, .int .i64 d], .agg #[.int .i64 m, .int .i64 q]] w fun e w' => e = .returned (.tuple #[.agg #[.int .i64 x, .int .i64 y], .int .i64 z]) ∧ Below w.heap.size w w' := by
  obtain ⟨a1, a2, a3, a4⟩ := okB_in h1
  obtain ⟨b1, b2, b3, b4⟩ := okB_in h2
  have HV : Hid ((M.okB n d && M.okB m q) = true) := hide (by rw [h1, h2]; rfl)
  clear h1 h2
  obtain ⟨p1, p2⟩ := prod_bd a1 a2 (by omega : -1000000000 ≤ q) b4
  obtain ⟨p3, p4⟩ := prod_bd (by omega : -1000000000 ≤ d) a4 b1 b2
  have hm0 : (m == 0) = false := by simpa using hm
  go_enter Try.func34, Try.ntmps34
  go_wp2_with fail
  refine (all2 _ n d m q _ ⟨by simp [go_sem], by simp [go_sem]⟩ ⟨by simp [go_sem], by simp [go_sem]⟩ (in64_of a1 a2) (in64_of (by omega) a4) (in64_of b1 b2) (in64_of (by omega) b4) true HV).mono ?_
  rintro e w1 ⟨rfl, hb⟩
  have HK := k2_made hb; clear hb
  have HKd := k2_drew HK
  obtain ⟨⟨r1, r2, r3, r4⟩, ⟨q0, q1, f0, f1⟩, _⟩ := HK.out
  clear a1 a2 a3 a4 b1 b2 b3 b4
  have G := hide (And.intro (And.intro p1 p2) (And.intro p3 p4))
  go_wp2_with fail
  clear p1 p2 p3 p4
  refine (new_b (n * q) (d * m) x y z _ ⟨by have := G.out; omega, by have := G.out; omega⟩ ⟨by have := G.out; omega, by have := G.out; omega⟩ hx hy hz).mono ?_
  rintro e w2 ⟨rfl, hb⟩
  have hk := k2_step ‹_› hb; obtain ⟨⟨_, _, _, _⟩, ⟨_, _, _, _⟩, _⟩ := hk.out; clear hb
  go_wp2_with fail
  refine bodyPost_ret (v := .tuple #[.agg #[.int .i64 x, .int .i64 y], .int .i64 z]) (by simp [results, Try.results34, go_sem, *]) rfl ⟨rfl, ?_⟩
  exact k2_end ‹_› _ _
set_option maxHeartbeats 1000000 in
theorem med_yes (n d m q x y z : Int) (w : World) (h1 : M.okB n d = true) (h2 : M.okB m q = true)
    (hx : Hid (x = M.nN (n + m) (d + q))) (hy : Hid (y = M.nD (n + m) (d + q))) (hz : Hid (z = M.nE (n + m) (d + q))) : 
    Calls Try.prog 65 #[.agg #[.int .i64 n, .int .i64 d], .agg #[.int .i64 m, .int .i64 q]] w fun e w' => e = .returned (.tuple #[.agg #[.int .i64 x, .int .i64 y], .int .i64 z]) ∧ Below w.heap.size w w' := by
  obtain ⟨a1, a2, a3, a4⟩ := okB_in h1
  obtain ⟨b1, b2, b3, b4⟩ := okB_in h2
  have HV : Hid ((M.okB n d && M.okB m q) = true) := hide (by rw [h1, h2]; rfl)
  clear h1 h2
  go_enter Try.func65, Try.ntmps65
  go_wp2_with fail
  refine (all2 _ n d m q _ ⟨by simp [go_sem], by simp [go_sem]⟩ ⟨by simp [go_sem], by simp [go_sem]⟩ (in64_of a1 a2) (in64_of (by omega) a4) (in64_of b1 b2) (in64_of (by omega) b4) true HV).mono ?_
  rintro e w1 ⟨rfl, hb⟩
  have HK := k2_made hb; clear hb
  have HKd := k2_drew HK
  obtain ⟨⟨r1, r2, r3, r4⟩, ⟨q0, q1, f0, f1⟩, _⟩ := HK.out
  go_wp2_with fail
  refine (new_b (n + m) (d + q) x y z _ ⟨by omega, by omega⟩ ⟨by omega, by omega⟩ hx hy hz).mono ?_
  rintro e w2 ⟨rfl, hb⟩
  have hk := k2_step ‹_› hb; obtain ⟨⟨_, _, _, _⟩, ⟨_, _, _, _⟩, _⟩ := hk.out; clear hb
  go_wp2_with fail
  refine bodyPost_ret (v := .tuple #[.agg #[.int .i64 x, .int .i64 y], .int .i64 z]) (by simp [results, Try.results65, go_sem, *]) rfl ⟨rfl, ?_⟩
  exact k2_end ‹_› _ _
end Go.Proofs.Ytpgnbjlpkpmpcaa
