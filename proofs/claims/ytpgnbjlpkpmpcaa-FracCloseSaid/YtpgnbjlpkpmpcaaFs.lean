import Derived.Test.YtpgnbjlpkpmpcaaE
import Derived.Deep.RegionWith
namespace Go.Proofs.Ytpgnbjlpkpmpcaa
open Go.RowKit
set_option maxHeartbeats 1000000 in
theorem sub_yes (n d m q x y z : Int) (w : World) (h1 : M.okB n d = true) (h2 : M.okB m q = true) 
    (hx : Hid (x = M.nN (n * q + -m * d) (d * q))) (hy : Hid (y = M.nD (n * q + -m * d) (d * q))) (hz : Hid (z = M.nE (n * q + -m * d) (d * q))) : 
    Calls Try.prog 30 #[.agg #[.int .i64 n, .int .i64 d], .agg #[.int .i64 m, .int .i64 q]] w fun e w' => e = .returned (.tuple #[.agg #[.int .i64 x, .int .i64 y], .int .i64 z]) ∧ Below w.heap.size w w' := by
  obtain ⟨a1, a2, a3, a4⟩ := okB_in h1
  obtain ⟨b1, b2, b3, b4⟩ := okB_in h2
  have HV : Hid ((M.okB n d && M.okB m q) = true) := hide (by rw [h1, h2]; rfl)
  clear h1 h2
  obtain ⟨p1, p2⟩ := prod_bd a1 a2 (by omega : -1000000000 ≤ q) b4
  obtain ⟨p3, p4⟩ := prod_bd (by omega : -1000000000 ≤ -m) (by omega) (by omega : -1000000000 ≤ d) a4
  obtain ⟨p5, p6⟩ := prod_bd (by omega : -1000000000 ≤ d) a4 (by omega : -1000000000 ≤ q) b4
  have G1 : Hid (In64 (n * q) ∧ In64 (-m * d) ∧ In64 (n * q + -m * d) ∧ In64 (d * q)) := hide ⟨⟨by omega, by omega⟩, ⟨by omega, by omega⟩, ⟨by omega, by omega⟩, ⟨by omega, by omega⟩⟩
  obtain ⟨s, hs⟩ : ∃ s, s = n * q + -m * d := ⟨_, rfl⟩
  obtain ⟨t, ht⟩ : ∃ t, t = d * q := ⟨_, rfl⟩
  have G2 : Hid (In64 s ∧ In64 t) := by rw [hs, ht]; exact ⟨G1.out.2.2.1, G1.out.2.2.2⟩
  rw [← hs, ← ht] at hx hy hz
  have HS := hide hs; clear hs
  have HT := hide ht; clear ht
  have G3 : Hid (In64 (-m)) := hide ⟨by omega, by omega⟩
  clear p1 p2 p3 p4 p5 p6
  go_enter Try.func30, Try.ntmps30
  go_wp2_with fail
  refine (all2 _ n d m q _ ⟨by simp [go_sem], by simp [go_sem]⟩ ⟨by simp [go_sem], by simp [go_sem]⟩ (in64_of a1 a2) (in64_of (by omega) a4) (in64_of b1 b2) (in64_of (by omega) b4) true HV).mono ?_
  rintro e w1 ⟨rfl, hb⟩
  have HK := k2_made hb; clear hb
  have HKd := k2_drew HK
  obtain ⟨⟨r1, r2, r3, r4⟩, ⟨q0, q1, f0, f1⟩, _⟩ := HK.out
  clear a1 a2 a3 a4 b1 b2 b3 b4
  go_wp2_with fail
  go_region_with (first | (go_at_call 79; refine (of_b _ _ _).mono ?_; rintro e w' ⟨rfl, hb'⟩; have hk' := k2_step ‹_› hb'; obtain ⟨⟨_, _, _, _⟩, ⟨_, _, _, _⟩, _⟩ := hk'.out; clear hb') | (go_at_call 81; refine (plus_b n d (-m) q s t _ G1.out.1 G1.out.2.1 G1.out.2.2.1 G1.out.2.2.2 HS HT).mono ?_; rintro e w' ⟨rfl, hb'⟩; have hk' := k2_step ‹_› hb'; obtain ⟨⟨_, _, _, _⟩, ⟨_, _, _, _⟩, _⟩ := hk'.out; clear hb') | (go_at_call 83; refine (negative_b m q (-m) _ G3.out (hide rfl)).mono ?_; rintro e w' ⟨rfl, hb'⟩; have hk' := k2_step ‹_› hb'; obtain ⟨⟨_, _, _, _⟩, ⟨_, _, _, _⟩, _⟩ := hk'.out; clear hb') | (go_at_call 82; refine (reduced_b s t x y z _ G2.out.1 G2.out.2 hx hy hz).mono ?_; rintro e w' ⟨rfl, hb'⟩; have hk' := k2_step ‹_› hb'; obtain ⟨⟨_, _, _, _⟩, ⟨_, _, _, _⟩, _⟩ := hk'.out; clear hb'))
  all_goals
    go_wp2_with fail
    refine bodyPost_ret (v := .tuple #[.agg #[.int .i64 x, .int .i64 y], .int .i64 z]) (by simp [results, Try.results30, go_sem, *]) rfl ⟨rfl, ?_⟩
    exact k2_end ‹_› _ _
set_option maxHeartbeats 1000000 in
theorem sub_no (n d m q : Int) (w : World) (i1 : In64 n) (i2 : In64 d) (i3 : In64 m) (i4 : In64 q) (h : (M.okB n d && M.okB m q) = false) : 
    Calls Try.prog 30 #[.agg #[.int .i64 n, .int .i64 d], .agg #[.int .i64 m, .int .i64 q]] w fun e w' => e = .returned (.tuple #[.agg #[.int .i64 0, .int .i64 0], .int .i64 2]) ∧ Below w.heap.size w w' := by
  have HV := hide h; clear h
  have G := hide (And.intro (And.intro i1 i2) (And.intro i3 i4)); clear i1 i2 i3 i4
  go_enter Try.func30, Try.ntmps30
  go_wp2_with fail
  refine (all2 _ n d m q _ ⟨by simp [go_sem], by simp [go_sem]⟩ ⟨by simp [go_sem], by simp [go_sem]⟩ G.out.1.1 G.out.1.2 G.out.2.1 G.out.2.2 false HV).mono ?_
  rintro e w1 ⟨rfl, hb⟩
  have HK := k2_made hb; clear hb
  obtain ⟨⟨r1, r2, r3, r4⟩, ⟨q0, q1, f0, f1⟩, _⟩ := HK.out
  go_wp2_with fail
  refine bodyPost_ret (v := .tuple #[.agg #[.int .i64 0, .int .i64 0], .int .i64 2]) (by simp [results, Try.results30, go_sem, *]) rfl ⟨rfl, ?_⟩
  exact k2_end ‹_› _ _
end Go.Proofs.Ytpgnbjlpkpmpcaa
