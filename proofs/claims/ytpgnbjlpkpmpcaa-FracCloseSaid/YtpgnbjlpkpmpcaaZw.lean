import Derived.Test.YtpgnbjlpkpmpcaaZr
import Derived.Test.YtpgnbjlpkpmpcaaI
import Derived.Deep.RegionHeld3
set_option linter.unusedVariables false
namespace Go.Proofs.Ytpgnbjlpkpmpcaa
open Go.RowKit
theorem inverse_b (n d : Int) (w : World) :
    Calls Try.prog 90 #[.agg #[.int .i64 n, .int .i64 d]] w fun e w' => e = .returned (.agg #[.int .i64 d, .int .i64 n]) ∧ Below w.heap.size w w' :=
  (inverse_any n d w).mono fun _ _ ⟨a, b⟩ => ⟨a, b ▸ ba (ba (Below.refl _ _) _) _⟩
/-- the product of the rounded number and the unit's numerator stays an int -/
theorem unit_bd {N d u m : Int} (h1 : -1000000000000000000 ≤ N) (h2 : N ≤ 1000000000000000000) (hd : 1 ≤ d) (hu : 1 ≤ u) (hdu : d * u ≤ 1000000000000000000) : -2000000000000000000 ≤ M.rnd N (d * u) m * u ∧ M.rnd N (d * u) m * u ≤ 2000000000000000000 := by
  have hD : 1 ≤ d * u := by have := Int.mul_le_mul hd hu (by omega) (by omega); omega
  obtain ⟨a1, a2, a3, a4, a5, a6, a7⟩ := div_facts h1 h2 hD hdu
  have e : M.rnd N (d * u) m = N / (d * u) ∨ M.rnd N (d * u) m = N / (d * u) + 1 := by unfold M.rnd; split <;> simp
  have k : -2000000000000000000 ≤ M.rnd N (d * u) m * (d * u) ∧ M.rnd N (d * u) m * (d * u) ≤ 2000000000000000000 := by
    rcases e with e | e
    · rw [e]; omega
    · rw [e, Int.add_mul]; omega
  generalize M.rnd N (d * u) m = z at *
  have e2 : z * (d * u) = (z * u) * d := by rw [Int.mul_comm d u, ← Int.mul_assoc]
  rw [e2] at k
  generalize z * u = y at *
  rcases Int.lt_or_le y 0 with hy | hy
  · have h3 : (-y) * 1 ≤ (-y) * d := Int.mul_le_mul_of_nonneg_left (by omega : (1 : Int) ≤ d) (by omega)
    rw [Int.neg_mul, Int.neg_mul, Int.mul_one] at h3; omega
  · have h3 : y * 1 ≤ y * d := Int.mul_le_mul_of_nonneg_left (by omega : (1 : Int) ≤ d) hy
    rw [Int.mul_one] at h3; omega
def okR (n d u v m : Int) : Bool := M.okB n d && M.okB u v && (decide (0 < u) && modeB m)
set_option maxRecDepth 20000 in
set_option maxHeartbeats 2000000 in
theorem roundto_no (n d u v m : Int) (w : World) (i1 : In64 n) (i2 : In64 d) (i3 : In64 u) (i4 : In64 v) (h : okR n d u v m = false) : 
    Calls Try.prog 42 #[.agg #[.int .i64 n, .int .i64 d], .agg #[.int .i64 u, .int .i64 v], .int .i64 m] w fun e w' => e = .returned (.tuple #[.agg #[.int .i64 0, .int .i64 0], .int .i64 2]) ∧ Below w.heap.size w w' := by
  have G := hide (And.intro (And.intro i1 i2) (And.intro i3 i4)); clear i1 i2 i3 i4
  cases c : (M.okB n d && M.okB u v)
  · have HV := hide c
    clear c h
    go_enter Try.func42, Try.ntmps42
    go_wp2_with fail
    refine (all2 _ n d u v _ ⟨by simp [go_sem], by simp [go_sem]⟩ ⟨by simp [go_sem], by simp [go_sem]⟩ G.out.1.1 G.out.1.2 G.out.2.1 G.out.2.2 false HV).mono ?_
    rintro e w1 ⟨rfl, hb⟩
    have HK := k2_made hb; clear hb
    obtain ⟨⟨r1, r2, r3, r4⟩, ⟨q0, q1, f0, f1⟩, _⟩ := HK.out
    go_wp2_with fail
    refine bodyPost_ret (v := .tuple #[.agg #[.int .i64 0, .int .i64 0], .int .i64 2]) (by simp [results, Try.results42, go_sem, *]) rfl ⟨rfl, ?_⟩
    exact k2_end ‹_› _ _
  · have HV := hide c
    by_cases hu : 0 < u
    · have hmB : modeB m = false := by unfold okR at h; rw [c] at h; simpa [hu] using h
      have HM : Hid (false = decide (0 ≤ m ∧ m ≤ 4)) := hide hmB.symm
      have hu0 : 1 ≤ u := by omega
      clear c h hmB
      go_enter Try.func42, Try.ntmps42
      go_wp2_with fail
      refine (all2 _ n d u v _ ⟨by simp [go_sem], by simp [go_sem]⟩ ⟨by simp [go_sem], by simp [go_sem]⟩ G.out.1.1 G.out.1.2 G.out.2.1 G.out.2.2 true HV).mono ?_
      rintro e w1 ⟨rfl, hb⟩
      have HK := k2_made hb; clear hb
      obtain ⟨⟨r1, r2, r3, r4⟩, ⟨q0, q1, f0, f1⟩, _⟩ := HK.out
      go_wp2_with fail
      refine (ismode_any m _ false HM).mono ?_
      rintro e w' ⟨rfl, rfl⟩
      go_wp2_with fail
      refine bodyPost_ret (v := .tuple #[.agg #[.int .i64 0, .int .i64 0], .int .i64 2]) (by simp [results, Try.results42, go_sem, *]) rfl ⟨rfl, ?_⟩
      exact k2_end ‹_› _ _
    · have hu0 : u ≤ 0 := by omega
      clear c h
      go_enter Try.func42, Try.ntmps42
      go_wp2_with fail
      refine (all2 _ n d u v _ ⟨by simp [go_sem], by simp [go_sem]⟩ ⟨by simp [go_sem], by simp [go_sem]⟩ G.out.1.1 G.out.1.2 G.out.2.1 G.out.2.2 true HV).mono ?_
      rintro e w1 ⟨rfl, hb⟩
      have HK := k2_made hb; clear hb
      obtain ⟨⟨r1, r2, r3, r4⟩, ⟨q0, q1, f0, f1⟩, _⟩ := HK.out
      go_wp2_with fail
      refine bodyPost_ret (v := .tuple #[.agg #[.int .i64 0, .int .i64 0], .int .i64 2]) (by simp [results, Try.results42, go_sem, *]) rfl ⟨rfl, ?_⟩
      exact k2_end ‹_› _ _
set_option maxRecDepth 20000 in
set_option maxHeartbeats 2000000 in
theorem roundto_yes (n d u v m z x y e0 : Int) (w : World) (h1 : M.okB n d = true) (h2 : M.okB u v = true) (hu : 0 < u) (hm : modeB m = true) (hz : Hid (z = M.rnd (n * v) (d * u) m))
    (hx : Hid (x = M.nN (z * u) v)) (hy : Hid (y = M.nD (z * u) v)) (he : Hid (e0 = M.nE (z * u) v)) : 
    Calls Try.prog 42 #[.agg #[.int .i64 n, .int .i64 d], .agg #[.int .i64 u, .int .i64 v], .int .i64 m] w fun e w' => e = .returned (.tuple #[.agg #[.int .i64 x, .int .i64 y], .int .i64 e0]) ∧ Below w.heap.size w w' := by
  obtain ⟨a1, a2, a3, a4⟩ := okB_in h1
  obtain ⟨b1, b2, b3, b4⟩ := okB_in h2
  have HV : Hid ((M.okB n d && M.okB u v) = true) := hide (by rw [h1, h2]; rfl)
  clear h1 h2
  have HM : Hid (true = decide (0 ≤ m ∧ m ≤ 4)) := hide hm.symm
  have HM2 := hide (mode_in hm)
  obtain ⟨p1, p2⟩ := prod_bd a1 a2 (by omega : -1000000000 ≤ v) b4
  obtain ⟨p3, p4⟩ := prod_bd (by omega : -1000000000 ≤ d) a4 (by omega : -1000000000 ≤ u) b2
  have hD1 : 1 ≤ d * u := by have := Int.mul_le_mul a3 (show 1 ≤ u by omega) (by omega) (by omega); omega
  have ub := unit_bd (m := m) p1 p2 a3 (show 1 ≤ u by omega) p4
  rw [← hz.out] at ub
  obtain ⟨s, hs⟩ : ∃ s, Hid (s = n * v) := ⟨_, rfl⟩
  obtain ⟨t, ht⟩ : ∃ t, Hid (t = d * u) := ⟨_, rfl⟩
  have GG : Hid ((-1000000000000000000 ≤ s ∧ s ≤ 1000000000000000000) ∧ (1 ≤ t ∧ t ≤ 1000000000000000000)) := hide (by rw [hs.out, ht.out]; exact ⟨⟨p1, p2⟩, ⟨hD1, p4⟩⟩)
  have G1 : Hid (In64 (n * v) ∧ In64 (d * u)) := hide ⟨⟨by omega, by omega⟩, ⟨by omega, by omega⟩⟩
  have HZ : Hid (z = M.rnd s t m) := by rw [hs.out, ht.out]; exact hz
  have GA := hide (And.intro (And.intro (in64_of a1 a2) (in64_of (by omega) a4)) (And.intro (in64_of b1 b2) (in64_of (by omega) b4)))
  have hu0 : 1 ≤ u := by omega
  obtain ⟨g1, g2⟩ := ub
  clear p1 p2 p3 p4 hD1 hz hm hu a1 a2 a3 a4 b1
  go_enter Try.func42, Try.ntmps42
  go_wp2_with fail
  refine (all2 _ n d u v _ ⟨by simp [go_sem], by simp [go_sem]⟩ ⟨by simp [go_sem], by simp [go_sem]⟩ GA.out.1.1 GA.out.1.2 GA.out.2.1 GA.out.2.2 true HV).mono ?_
  rintro e w1 ⟨rfl, hb⟩
  have HK := k2_made hb; clear hb
  obtain ⟨⟨r1, r2, r3, r4⟩, _, _⟩ := HK.out
  go_wp2_with fail
  refine (ismode_any m _ true HM).mono ?_
  rintro e w' ⟨rfl, rfl⟩
  go_wp2_with fail
  go_region_held3 (fun w' => w'.cell? ⟨w.heap.size, 0, none⟩ = some (.int .i64 n) ∧ w'.cell? ⟨w.heap.size, 1, none⟩ = some (.int .i64 d) ∧ w'.cell? ⟨w.heap.size + 1, 0, none⟩ = some (.int .i64 u) ∧ w'.cell? ⟨w.heap.size + 1, 1, none⟩ = some (.int .i64 v) ∧ Hid (K2 w w' n d u v))
    ((go_split_ands; (first | dsimp only | skip); refine ⟨?_, ?_, ?_, ?_, ?_⟩ <;> first | with_reducible assumption | (simp only [World.cell?_drew]; with_reducible assumption) | (with_reducible exact kc hbw ‹_›) | (with_reducible exact k2_drew ‹_›) | (with_reducible exact k2_step ‹_› hbw)))
    (first | (go_at_call_of 79 n; refine (of_b n d _).mono ?_; rintro e w' ⟨rfl, hbw⟩) | (go_at_call_of 79 u; refine (of_b u v _).mono ?_; rintro e w' ⟨rfl, hbw⟩) | (go_at_call 90; refine (inverse_b u v _).mono ?_; rintro e w' ⟨rfl, hbw⟩) | (go_at_call 84; refine (times_b n d v u s t _ G1.out.1 G1.out.2 hs ht).mono ?_; rintro e w' ⟨rfl, hbw⟩) | (go_at_call 88; go_split_ands; refine (rounded_any s t m _ HM2.out GG.out.1.1 GG.out.1.2 GG.out.2.1 GG.out.2.2 z HZ).mono ?_; rintro e w' ⟨rfl, hbw⟩; have hk9 := k2_step ‹_› hbw))
  clear r1 r2 r3 r4 HK
  obtain ⟨⟨r1, r2, r3, r4⟩, ⟨q0, q1, f0, f1⟩, _⟩ := hk9.out
  go_wp2_with fail
  refine (new_b (z * u) v x y e0 _ ⟨by omega, by omega⟩ ⟨by omega, by omega⟩ hx hy he).mono ?_
  rintro e w9 ⟨rfl, hb9⟩
  have hk := k2_step hk9 hb9
  clear hb9 hk9 r1 r2 r3 r4 q0 q1 f0 f1
  obtain ⟨⟨r1, r2, r3, r4⟩, ⟨q0, q1, f0, f1⟩, _⟩ := hk.out
  go_wp2_with fail
  refine bodyPost_ret (v := .tuple #[.agg #[.int .i64 x, .int .i64 y], .int .i64 e0]) (by simp [results, Try.results42, go_sem, *]) rfl ⟨rfl, ?_⟩
  exact k2_end ‹_› _ _
end Go.Proofs.Ytpgnbjlpkpmpcaa
