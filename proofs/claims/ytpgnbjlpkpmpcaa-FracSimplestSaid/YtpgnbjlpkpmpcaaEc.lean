import Derived.Test.YtpgnbjlpkpmpcaaEb
import Derived.Test.YtpgnbjlpkpmpcaaZi
set_option linter.unusedVariables false
namespace Go.Proofs.Ytpgnbjlpkpmpcaa
open Go.RowKit
/-- x/y is the simplest one from n/d to m/q -/
def Lst (n d m q x y : Int) : Prop := (M.okB x y = true ∧ n * y ≤ x * d ∧ x * q ≤ m * y) ∧ ∀ p s : Int, 1 ≤ s → n * s ≤ p * d → p * q ≤ m * s → y < s ∨ (y = s ∧ (p = x ∨ (x.natAbs : Int) < p.natAbs))
theorem lst_pos {n d m q x y : Int} (hn : n ≤ 1000000000) (hd : 1 ≤ d) (hd2 : d ≤ 1000000000) (h0 : n * q ≤ m * d) (h : M.Sp n d m q x y) : Lst n d m q x y := by
  obtain ⟨b1, b2⟩ := M.sp_bd hd h0 h
  obtain ⟨⟨⟨x1, y1⟩, ⟨l1, l2⟩, g⟩, hm⟩ := h
  refine ⟨⟨by rw [M.okB_iff]; exact ⟨y1, by omega, by omega, by omega, g⟩, l1, l2⟩, fun p s hs k1 k2 => ?_⟩
  obtain ⟨r1, r2⟩ := hm p s hs k1 k2
  omega
theorem lst_neg {n d m q x y : Int} (hm : -1000000000 ≤ m) (hq : 1 ≤ q) (hq2 : q ≤ 1000000000) (h0 : n * q ≤ m * d) (h : M.Sp (-m) q (-n) d x y) : Lst n d m q (-x) y := by
  have e : -m * d ≤ -n * q := by rw [Int.neg_mul, Int.neg_mul]; omega
  obtain ⟨b1, b2⟩ := M.sp_bd hq e h
  obtain ⟨⟨⟨x1, y1⟩, ⟨l1, l2⟩, g⟩, hmin⟩ := h
  rw [Int.neg_mul] at l1 l2
  refine ⟨⟨by rw [M.okB_iff, Int.natAbs_neg]; exact ⟨y1, by omega, by omega, by omega, g⟩, by rw [Int.neg_mul]; omega, by rw [Int.neg_mul]; omega⟩, fun p s hs k1 k2 => ?_⟩
  obtain ⟨r1, r2⟩ := hmin (-p) s hs (by rw [Int.neg_mul, Int.neg_mul]; omega) (by rw [Int.neg_mul, Int.neg_mul]; omega)
  omega
theorem lst_zero {n d m q : Int} (hn : n ≤ 0) (hm : 0 ≤ m) : Lst n d m q 0 1 := by
  refine ⟨⟨by decide, by omega, by omega⟩, fun p s hs k1 k2 => ?_⟩
  omega
theorem k2_new' (w : World) (n d m q : Int) : Hid (K2 w (((w.alloc (.cells #[.int .i64 n, .int .i64 d] 23)).alloc (.cells #[.int .i64 m, .int .i64 q] 23)).alloc (.cells #[.int .i64 0, .int .i64 0] 23)) n d m q) :=
  hide ⟨⟨by simp [go_sem], by simp [go_sem], by simp [go_sem], by simp [go_sem]⟩, ⟨by simp [go_sem], by simp [go_sem], by simp [go_sem], by simp [go_sem]⟩, ba (ba (ba (Below.refl _ _) _) _) _⟩
theorem k2_alloc {w0 w : World} {n d m q : Int} (h : Hid (K2 w0 w n d m q)) (o : Obj) : Hid (K2 w0 (w.alloc o) n d m q) := k2_step h (ba (Below.refl _ _) o)
def LstRet (w : World) (n d m q : Int) (en : Ending) (w' : World) : Prop := ∃ x y : Int, en = .returned (.tuple #[.agg #[.int .i64 x, .int .i64 y], .int .i64 0]) ∧ Lst n d m q x y ∧ Below w.heap.size w w'
def LsB (n d m q : Int) : Bool := M.okB n d && M.okB m q && decide (n * q ≤ m * d)
set_option maxRecDepth 20000 in
set_option maxHeartbeats 4000000 in
theorem least_bad (n d m q : Int) (w : World) (i1 : In64 n) (i2 : In64 d) (i3 : In64 m) (i4 : In64 q) (h : (M.okB n d && M.okB m q) = false) :
    Calls Try.prog 63 #[.agg #[.int .i64 n, .int .i64 d], .agg #[.int .i64 m, .int .i64 q]] w fun e w' => e = .returned (.tuple #[.agg #[.int .i64 0, .int .i64 0], .int .i64 2]) ∧ Below w.heap.size w w' := by
  have HV := hide h; clear h
  have G := hide (And.intro (And.intro i1 i2) (And.intro i3 i4)); clear i1 i2 i3 i4
  obtain ⟨W, hW⟩ : ∃ W, W = ((w.alloc (.cells #[.int .i64 n, .int .i64 d] 23)).alloc (.cells #[.int .i64 m, .int .i64 q] 23)).alloc (.cells #[.int .i64 0, .int .i64 0] 23) := ⟨_, rfl⟩
  have hk0 := k2_new' w n d m q
  go_enter Try.func63, Try.ntmps63
  go_wp2_with fail
  rw [← hW] at hk0 ⊢
  clear hW
  obtain ⟨⟨r1, r2, r3, r4⟩, _, _⟩ := hk0.out
  go_region_with (first | (go_at_call 78; refine (all2 _ n d m q _ ⟨by simp [go_sem], by simp [go_sem]⟩ ⟨by simp [go_sem], by simp [go_sem]⟩ G.out.1.1 G.out.1.2 G.out.2.1 G.out.2.2 false HV).mono ?_; rintro en w' ⟨rfl, hbw⟩; (first | have hk9 := k2_step (k2_drew (k2_alloc hk0 _)) hbw | have hk9 := k2_step (k2_alloc (k2_drew hk0) _) hbw)))
  all_goals
    clear hk0 r1 r2 r3 r4
    obtain ⟨_, ⟨q0, q1, f0, f1⟩, _⟩ := hk9.out
    go_wp2_with fail
    refine bodyPost_ret (v := .tuple #[.agg #[.int .i64 0, .int .i64 0], .int .i64 2]) (by simp [results, Try.results63, go_sem, q0, q1]) rfl ⟨rfl, ?_⟩
    exact k2_end hk9 _ _
set_option maxRecDepth 20000 in
set_option maxHeartbeats 4000000 in
theorem least_order (n d m q : Int) (w : World) (h1 : M.okB n d = true) (h2 : M.okB m q = true) (h : m * d < n * q) :
    Calls Try.prog 63 #[.agg #[.int .i64 n, .int .i64 d], .agg #[.int .i64 m, .int .i64 q]] w fun e w' => e = .returned (.tuple #[.agg #[.int .i64 0, .int .i64 0], .int .i64 2]) ∧ Below w.heap.size w w' := by
  obtain ⟨a1, a2, a3, a4⟩ := okB_in h1
  obtain ⟨b1, b2, b3, b4⟩ := okB_in h2
  have HV : Hid ((M.okB n d && M.okB m q) = true) := hide (by rw [h1, h2]; rfl)
  have G : Hid ((In64 n ∧ In64 d) ∧ (In64 m ∧ In64 q)) := hide ⟨⟨in64_of a1 a2, in64_of (by omega) a4⟩, ⟨in64_of b1 b2, in64_of (by omega) b4⟩⟩
  have G0 : Hid (0 < d ∧ 0 < q) := hide ⟨by omega, by omega⟩
  obtain ⟨sg, hsg⟩ : ∃ sg, Hid (sg = Int.sign (n * q - m * d)) := ⟨_, rfl⟩
  obtain rfl : sg = 1 := by rw [hsg.out]; exact Int.sign_eq_one_of_pos (by omega)
  clear h1 h2 h a1 a2 a3 a4 b1 b2 b3 b4
  obtain ⟨W, hW⟩ : ∃ W, W = ((w.alloc (.cells #[.int .i64 n, .int .i64 d] 23)).alloc (.cells #[.int .i64 m, .int .i64 q] 23)).alloc (.cells #[.int .i64 0, .int .i64 0] 23) := ⟨_, rfl⟩
  have hk0 := k2_new' w n d m q
  go_enter Try.func63, Try.ntmps63
  go_wp2_with fail
  rw [← hW] at hk0 ⊢
  clear hW
  obtain ⟨⟨r1, r2, r3, r4⟩, _, _⟩ := hk0.out
  go_region_held3 (fun w' => w'.cell? ⟨w.heap.size, 0, none⟩ = some (.int .i64 n) ∧ w'.cell? ⟨w.heap.size, 1, none⟩ = some (.int .i64 d) ∧ w'.cell? ⟨w.heap.size + 1, 0, none⟩ = some (.int .i64 m) ∧ w'.cell? ⟨w.heap.size + 1, 1, none⟩ = some (.int .i64 q) ∧ Hid (K2 w w' n d m q))
    ((go_split_ands; (first | dsimp only | skip); refine ⟨?_, ?_, ?_, ?_, ?_⟩ <;> first | with_reducible assumption | (simp only [World.cell?_drew]; with_reducible assumption) | (with_reducible exact kc hbw ‹_›) | (with_reducible exact k2_drew ‹_›) | (with_reducible exact k2_step ‹_› hbw) | (with_reducible exact kc (ba (Below.refl _ _) _) ‹_›) | (with_reducible exact k2_alloc ‹_› _) | (with_reducible exact k2_drew (k2_alloc ‹_› _)) | (simp only [World.cell?_drew]; with_reducible exact kc (ba (Below.refl _ _) _) ‹_›) | (go_simp; done)))
    (first | (go_at_call 78; go_split_ands; refine (all2 _ n d m q _ ⟨by simp [go_sem], by simp [go_sem]⟩ ⟨by simp [go_sem], by simp [go_sem]⟩ G.out.1.1 G.out.1.2 G.out.2.1 G.out.2.2 true HV).mono ?_; rintro en w' ⟨rfl, hbw⟩; (first | have hk9 := k2_step ‹_› hbw | have hk9 := k2_step (k2_alloc ‹_› _) hbw)) | (go_at_call_of 79 n; go_split_ands; refine (of_b n d _).mono ?_; rintro en w' ⟨rfl, hbw⟩) | (go_at_call_of 79 m; go_split_ands; refine (of_b m q _).mono ?_; rintro en w' ⟨rfl, hbw⟩) | (go_at_call 80; go_split_ands; refine (compare_any n d m q _ G.out.1.1 G.out.1.2 G.out.2.1 G.out.2.2 G0.out.1 G0.out.2 1 hsg).mono ?_; rintro en w' ⟨rfl, hbw⟩; have hk9 := k2_step ‹_› hbw))
  clear hk0 r1 r2 r3 r4
  obtain ⟨_, ⟨q0, q1, f0, f1⟩, _⟩ := hk9.out
  go_wp2_with fail
  refine bodyPost_ret (v := .tuple #[.agg #[.int .i64 0, .int .i64 0], .int .i64 2]) (by simp [results, Try.results63, go_sem, q0, q1]) rfl ⟨rfl, ?_⟩
  exact k2_end hk9 _ _
set_option maxRecDepth 20000 in
set_option maxHeartbeats 8000000 in
theorem least_yes (n d m q : Int) (w : World) (h1 : M.okB n d = true) (h2 : M.okB m q = true) (h : n * q ≤ m * d) :
    Calls Try.prog 63 #[.agg #[.int .i64 n, .int .i64 d], .agg #[.int .i64 m, .int .i64 q]] w (LstRet w n d m q) := by
  obtain ⟨a1, a2, a3, a4⟩ := okB_in h1
  obtain ⟨b1, b2, b3, b4⟩ := okB_in h2
  have HV : Hid ((M.okB n d && M.okB m q) = true) := hide (by rw [h1, h2]; rfl)
  have G : Hid ((In64 n ∧ In64 d) ∧ (In64 m ∧ In64 q)) := hide ⟨⟨in64_of a1 a2, in64_of (by omega) a4⟩, ⟨in64_of b1 b2, in64_of (by omega) b4⟩⟩
  have G0 : Hid (0 < d ∧ 0 < q) := hide ⟨by omega, by omega⟩
  obtain ⟨sg, hsg⟩ : ∃ sg, Hid (sg = Int.sign (n * q - m * d)) := ⟨_, rfl⟩
  have hs0 : sg ≤ 0 := by
    rw [hsg.out]
    by_cases c : n * q - m * d = 0
    · rw [c]; decide
    · rw [Int.sign_eq_neg_one_of_neg (by omega)]; decide
  have HB := hide (And.intro (And.intro (And.intro a1 a2) (And.intro a3 a4)) (And.intro (And.intro b1 b2) (And.intro b3 b4)))
  have HH := hide h
  clear h1 h2 h a1 a2 a3 a4 b1 b2 b3 b4
  obtain ⟨W, hW⟩ : ∃ W, W = ((w.alloc (.cells #[.int .i64 n, .int .i64 d] 23)).alloc (.cells #[.int .i64 m, .int .i64 q] 23)).alloc (.cells #[.int .i64 0, .int .i64 0] 23) := ⟨_, rfl⟩
  have hk0 := k2_new' w n d m q
  go_enter Try.func63, Try.ntmps63
  go_wp2_with fail
  rw [← hW] at hk0 ⊢
  clear hW
  obtain ⟨⟨r1, r2, r3, r4⟩, _, _⟩ := hk0.out
  go_region_held3 (fun w' => w'.cell? ⟨w.heap.size, 0, none⟩ = some (.int .i64 n) ∧ w'.cell? ⟨w.heap.size, 1, none⟩ = some (.int .i64 d) ∧ w'.cell? ⟨w.heap.size + 1, 0, none⟩ = some (.int .i64 m) ∧ w'.cell? ⟨w.heap.size + 1, 1, none⟩ = some (.int .i64 q) ∧ Hid (K2 w w' n d m q))
    ((go_split_ands; (first | dsimp only | skip); refine ⟨?_, ?_, ?_, ?_, ?_⟩ <;> first | with_reducible assumption | (simp only [World.cell?_drew]; with_reducible assumption) | (with_reducible exact kc hbw ‹_›) | (with_reducible exact k2_drew ‹_›) | (with_reducible exact k2_step ‹_› hbw) | (with_reducible exact kc (ba (Below.refl _ _) _) ‹_›) | (with_reducible exact k2_alloc ‹_› _) | (with_reducible exact k2_drew (k2_alloc ‹_› _)) | (simp only [World.cell?_drew]; with_reducible exact kc (ba (Below.refl _ _) _) ‹_›) | (go_simp; done)))
    (first | (go_at_call 78; go_split_ands; refine (all2 _ n d m q _ ⟨by simp [go_sem], by simp [go_sem]⟩ ⟨by simp [go_sem], by simp [go_sem]⟩ G.out.1.1 G.out.1.2 G.out.2.1 G.out.2.2 true HV).mono ?_; rintro en w' ⟨rfl, hbw⟩; (first | have hk9 := k2_step ‹_› hbw | have hk9 := k2_step (k2_alloc ‹_› _) hbw)) | (go_at_call_of 79 n; go_split_ands; refine (of_b n d _).mono ?_; rintro en w' ⟨rfl, hbw⟩) | (go_at_call_of 79 m; go_split_ands; refine (of_b m q _).mono ?_; rintro en w' ⟨rfl, hbw⟩) | (go_at_call 80; go_split_ands; refine (compare_any n d m q _ G.out.1.1 G.out.1.2 G.out.2.1 G.out.2.2 G0.out.1 G0.out.2 sg hsg).mono ?_; rintro en w' ⟨rfl, hbw⟩; have hk9 := k2_step ‹_› hbw))
  clear hk0 r1 r2 r3 r4
  have hkr : Hid (R.KR w (w.heap.size + 1 + 1) w') := R.kr_k2 hk9
  obtain ⟨⟨r1, r2, r3, r4⟩, ⟨q0, q1, f0, f1⟩, _⟩ := hk9.out
  by_cases hn : 0 < n
  · have HM0 : 0 < m := by
      have k1 : 0 < n * q := Int.mul_pos hn G0.out.2
      have k2 := HH.out
      have k3 : 0 < m * d := by omega
      rcases Int.lt_or_le 0 m with c | c
      · exact c
      · have := Int.mul_nonneg (a := -m) (b := d) (by omega) (by have := G0.out.1; omega)
        rw [Int.neg_mul] at this; omega
    have HSZ : Hid (Sizes n d m q) := hide ⟨⟨⟨by omega, HB.out.1.1.2⟩, HB.out.1.2⟩, ⟨⟨by omega, HB.out.2.1.2⟩, HB.out.2.2⟩, HH.out⟩
    have HMS : Hid (d + q ≤ (((d + q).toNat : Nat) : Int)) := hide (by have := G0.out; omega)
    clear HM0
    go_wp2_with fail
    go_region_held3 (fun w' => w'.cell? ⟨w.heap.size, 0, none⟩ = some (.int .i64 n) ∧ w'.cell? ⟨w.heap.size, 1, none⟩ = some (.int .i64 d) ∧ w'.cell? ⟨w.heap.size + 1, 0, none⟩ = some (.int .i64 m) ∧ w'.cell? ⟨w.heap.size + 1, 1, none⟩ = some (.int .i64 q) ∧ Hid (R.KR w (w.heap.size + 1 + 1) w'))
    ((go_split_ands; (first | dsimp only | skip); refine ⟨?_, ?_, ?_, ?_, ?_⟩ <;> first | with_reducible assumption | (simp only [World.cell?_drew]; with_reducible assumption) | (with_reducible exact kc hbw ‹_›) | (with_reducible exact R.kr_drew ‹_›) | (with_reducible exact R.kr_step ‹_› hbw) | (with_reducible exact R.kr_set ‹_› _ _) | (go_simp; done)))
      (first | (go_at_call_of 79 n; go_split_ands; refine (of_b n d _).mono ?_; rintro en w' ⟨rfl, hbw⟩) | (go_at_call_of 79 m; go_split_ands; refine (of_b m q _).mono ?_; rintro en w' ⟨rfl, hbw⟩) | (go_at_call 105; go_split_ands; refine (simplest_any _ n d m q _ HMS.out HSZ.out).mono ?_; rintro en w' ⟨x, y, rfl, hsp, hbw⟩; have hlst := hide (lst_pos HB.out.1.1.2 HB.out.1.2.1 HB.out.1.2.2 HH.out hsp); have hok := hide hlst.out.1.1) | (go_at_call 82; go_split_ands; refine (reduced_b x y x y 0 _ (okB_bd (hok.out)).1 (okB_bd (hok.out)).2 (hide (M.ok_new hok.out).1) (hide (M.ok_new hok.out).2.1) (hide (M.ok_new hok.out).2.2)).mono ?_; rintro en w' ⟨rfl, hbw⟩; have hkr := R.kr_step ‹_› hbw; obtain ⟨⟨⟨u0, g0⟩, ⟨u1, g1⟩⟩, ⟨g2, g3⟩, _⟩ := hkr.out))
    go_wp2_with fail
    refine bodyPost_ret (v := .tuple #[.agg #[.int .i64 x, .int .i64 y], .int .i64 0]) (by simp [results, Try.results63, go_sem, g0, g1]) rfl ⟨x, y, rfl, hlst.out, ?_⟩
    exact bs (bs (R.kr_b hkr) (by simp only []; omega) _) (by simp only []; omega) _
  · by_cases hm : m < 0
    · have HSZ : Hid (Sizes (-m) q (-n) d) := hide ⟨⟨⟨by omega, by have := HB.out.2.1; omega⟩, HB.out.2.2⟩, ⟨⟨by
          have k2 := HH.out
          have k3 : 0 < (-m) * d := Int.mul_pos (by omega) G0.out.1
          rw [Int.neg_mul] at k3
          rcases Int.lt_or_le n 0 with c | c
          · omega
          · have := Int.mul_nonneg (a := n) (b := q) c (by have := G0.out.2; omega)
            omega, by have := HB.out.1.1; omega⟩, HB.out.1.2⟩, by rw [Int.neg_mul, Int.neg_mul]; have := HH.out; omega⟩
      have HMS : Hid (q + d ≤ (((q + d).toNat : Nat) : Int)) := hide (by have := G0.out; omega)
      have GN : Hid (In64 (-n) ∧ In64 (-m)) := hide ⟨⟨by have := HB.out.1.1; omega, by have := HB.out.1.1; omega⟩, ⟨by have := HB.out.2.1; omega, by have := HB.out.2.1; omega⟩⟩
      go_wp2_with fail
      go_region_held3 (fun w' => w'.cell? ⟨w.heap.size, 0, none⟩ = some (.int .i64 n) ∧ w'.cell? ⟨w.heap.size, 1, none⟩ = some (.int .i64 d) ∧ w'.cell? ⟨w.heap.size + 1, 0, none⟩ = some (.int .i64 m) ∧ w'.cell? ⟨w.heap.size + 1, 1, none⟩ = some (.int .i64 q) ∧ Hid (R.KR w (w.heap.size + 1 + 1) w'))
    ((go_split_ands; (first | dsimp only | skip); refine ⟨?_, ?_, ?_, ?_, ?_⟩ <;> first | with_reducible assumption | (simp only [World.cell?_drew]; with_reducible assumption) | (with_reducible exact kc hbw ‹_›) | (with_reducible exact R.kr_drew ‹_›) | (with_reducible exact R.kr_step ‹_› hbw) | (with_reducible exact R.kr_set ‹_› _ _) | (go_simp; done)))
        (first | (go_at_call_of 79 n; go_split_ands; refine (of_b n d _).mono ?_; rintro en w' ⟨rfl, hbw⟩) | (go_at_call_of 79 m; go_split_ands; refine (of_b m q _).mono ?_; rintro en w' ⟨rfl, hbw⟩) | (go_at_call_of 83 n; go_split_ands; refine (negative_b n d (-n) _ GN.out.1 (hide rfl)).mono ?_; rintro en w' ⟨rfl, hbw⟩) | (go_at_call_of 83 m; go_split_ands; refine (negative_b m q (-m) _ GN.out.2 (hide rfl)).mono ?_; rintro en w' ⟨rfl, hbw⟩) | (go_at_call 105; go_split_ands; refine (simplest_any _ (-m) q (-n) d _ HMS.out HSZ.out).mono ?_; rintro en w' ⟨x, y, rfl, hsp, hbw⟩; have hlst := hide (lst_neg HB.out.2.1.1 HB.out.2.2.1 HB.out.2.2.2 HH.out hsp); have hok := hide hlst.out.1.1) | (go_at_call_of 83 x; go_split_ands; refine (negative_b x y (-x) _ (okB_bd (hok.out)).1 (hide rfl)).mono ?_; rintro en w' ⟨rfl, hbw⟩) | (go_at_call 82; go_split_ands; refine (reduced_b (-x) y (-x) y 0 _ (okB_bd (hok.out)).1 (okB_bd (hok.out)).2 (hide (M.ok_new hok.out).1) (hide (M.ok_new hok.out).2.1) (hide (M.ok_new hok.out).2.2)).mono ?_; rintro en w' ⟨rfl, hbw⟩; have hkr := R.kr_step ‹_› hbw; obtain ⟨⟨⟨u0, g0⟩, ⟨u1, g1⟩⟩, ⟨g2, g3⟩, _⟩ := hkr.out))
      go_wp2_with fail
      refine bodyPost_ret (v := .tuple #[.agg #[.int .i64 (-x), .int .i64 y], .int .i64 0]) (by simp [results, Try.results63, go_sem, g0, g1]) rfl ⟨-x, y, rfl, hlst.out, ?_⟩
      exact bs (bs (R.kr_b hkr) (by simp only []; omega) _) (by simp only []; omega) _
    · have HZ := hide (lst_zero (n := n) (d := d) (m := m) (q := q) (by omega) (by omega))
      go_wp2_with fail
      refine bodyPost_ret (v := .tuple #[.agg #[.int .i64 0, .int .i64 1], .int .i64 0]) (by simp [results, Try.results63, go_sem, q0, q1]) rfl ⟨0, 1, rfl, HZ.out, ?_⟩
      exact k2_end hk9 _ _
end Go.Proofs.Ytpgnbjlpkpmpcaa
