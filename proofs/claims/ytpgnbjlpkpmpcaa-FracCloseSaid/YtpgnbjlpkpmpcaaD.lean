import Derived.Test.YtpgnbjlpkpmpcaaC
namespace Go.Proofs.Ytpgnbjlpkpmpcaa
open Go.RowKit
theorem bcell {W w1 : World} (hb : Below W.heap.size W w1) : (∀ b o, b < W.heap.size → w1.cell? ⟨b, o, none⟩ = W.cell? ⟨b, o, none⟩) ∧ (∀ b o, b < W.heap.size → w1.frozen? ⟨b, o, none⟩ = W.frozen? ⟨b, o, none⟩) :=
  ⟨fun b o h => hb.cell (p := ⟨b, o, none⟩) h, fun b o h => hb.frozen (p := ⟨b, o, none⟩) h⟩

theorem all2 (b : Nat) (n d m q : Int) (w : World) (h1 : FrAt w b 0 n d) (h2 : FrAt w b 2 m q) (i1 : In64 n) (i2 : In64 d) (i3 : In64 m) (i4 : In64 q) (v : Bool) (hv : Hid ((M.okB n d && M.okB m q) = v)) :
    Calls Try.prog 78 #[.slice (some ⟨b, 0, none⟩) 2 2] w fun e w' => e = .returned (.bool v) ∧ Below w.heap.size w w' := by
  have := allv_any b 0 2 2 (fun i => if i = 0 then n else m) (fun i => if i = 0 then d else q) w (by omega)
    (fun i hi => by rcases (show i = 0 ∨ i = 1 by omega) with rfl | rfl <;> simp <;> assumption)
    (fun i hi => by rcases (show i = 0 ∨ i = 1 by omega) with rfl | rfl <;> exact ⟨by assumption, by assumption⟩)
  have e : allOk (fun i => if i = 0 then n else m) (fun i => if i = 0 then d else q) 2 = (M.okB n d && M.okB m q) := by simp [allOk, List.range_succ]
  rw [e, hv.out] at this; exact this
theorem okB_in {n d : Int} (h : M.okB n d = true) : -1000000000 ≤ n ∧ n ≤ 1000000000 ∧ 1 ≤ d ∧ d ≤ 1000000000 := by
  rw [M.okB_iff] at h; omega
theorem in64_of {n : Int} (h : -1000000000 ≤ n) (h2 : n ≤ 1000000000) : In64 n := ⟨by omega, by omega⟩

theorem bth {a b c : World} (h : Hid (Below a.heap.size a b)) (k : Below b.heap.size b c) : Hid (Below a.heap.size a c) := hide (bt h.out k)
theorem bsh2 {a b : World} (h : Hid (Below a.heap.size a b)) (o1 o2 : Nat) (u1 u2 : Value) : Hid (Below a.heap.size a ((b.setCell ⟨a.heap.size + 1 + 1, o1, none⟩ u1).setCell ⟨a.heap.size + 1 + 1, o2, none⟩ u2)) := hide (bs (bs h.out (by simp only []; omega) _) (by simp only []; omega) _)
theorem bdh {a b : World} (h : Hid (Below a.heap.size a b)) : Hid (Below a.heap.size a b.drew) := hide h.out.drew
theorem prod_bd {a b : Int} (h1 : -1000000000 ≤ a) (h2 : a ≤ 1000000000) (h3 : -1000000000 ≤ b) (h4 : b ≤ 1000000000) : -1000000000000000000 ≤ a * b ∧ a * b ≤ 1000000000000000000 := by
  have h : (a * b).natAbs ≤ 1000000000 * 1000000000 := by
    rw [Int.natAbs_mul]; exact Nat.mul_le_mul (by omega) (by omega)
  omega


set_option maxHeartbeats 400000 in
theorem of_any (n d : Int) (w : World) :
    Calls Try.prog 79 #[.agg #[.int .i64 n, .int .i64 d]] w fun e w' => e = .returned (.agg #[.int .i64 (n), .int .i64 (d)]) ∧ ((w.alloc (.cells #[.int .i64 n, .int .i64 d] 23)).alloc (.cells #[.int .i64 n, .int .i64 d] 78)) = w' := by
  go_enter Try.func79, Try.ntmps79
  go_wp2_with fail
  go_returns
  exact ⟨rfl, rfl⟩
set_option maxHeartbeats 400000 in
theorem reduced_any (n d : Int) (w : World) (h1 : In64 n) (h2 : In64 d) :
    Calls Try.prog 82 #[.agg #[.int .i64 n, .int .i64 d]] w fun e w' => e = .returned (.tuple #[.agg #[.int .i64 (M.nN n d), .int .i64 (M.nD n d)], .int .i64 (M.nE n d)]) ∧ Below w.heap.size w w' := by
  have H1 := hide h1; clear h1
  have H2 := hide h2; clear h2
  go_enter Try.func82, Try.ntmps82
  go_wp2_with fail
  refine (new_any n d _ H1.out.1 H1.out.2 H2.out.1 H2.out.2).mono ?_
  rintro e w1 ⟨rfl, hb⟩
  have q0 : w1.cell? ⟨w.heap.size + 1, 0, none⟩ = some (.int .i64 0) := (hb.cell (by simp)).trans (by simp [go_sem])
  have q1 : w1.cell? ⟨w.heap.size + 1, 1, none⟩ = some (.int .i64 0) := (hb.cell (by simp)).trans (by simp [go_sem])
  have f0 : w1.frozen? ⟨w.heap.size + 1, 0, none⟩ = false := (hb.frozen (by simp)).trans (by simp [go_sem])
  have f1 : w1.frozen? ⟨w.heap.size + 1, 1, none⟩ = false := (hb.frozen (by simp)).trans (by simp [go_sem])
  have HB := hide (bt (ba (ba (Below.refl _ _) _) _) hb); clear hb
  go_wp2_with fail
  refine bodyPost_ret (v := .tuple #[.agg #[.int .i64 (M.nN n d), .int .i64 (M.nD n d)], .int .i64 (M.nE n d)]) (by simp [results, Try.results82, go_sem, q0, q1]) rfl ⟨rfl, ?_⟩
  exact bs (bs HB.out (by simp) _) (by simp) _
set_option maxHeartbeats 400000 in
theorem plus_any (n d m q : Int) (w : World) (h1 : In64 (n * q)) (h2 : In64 (m * d)) (h3 : In64 (n * q + m * d)) (h4 : In64 (d * q)) :
    Calls Try.prog 81 #[.agg #[.int .i64 n, .int .i64 d], .agg #[.int .i64 m, .int .i64 q]] w fun e w' => e = .returned (.agg #[.int .i64 (n * q + m * d), .int .i64 (d * q)]) ∧ (((w.alloc (.cells #[.int .i64 n, .int .i64 d] 78)).alloc (.cells #[.int .i64 m, .int .i64 q] 78)).alloc (.cells #[.int .i64 (n * q + m * d), .int .i64 (d * q)] 78)) = w' := by
  obtain ⟨a1, a2⟩ := h1
  obtain ⟨b1, b2⟩ := h2
  obtain ⟨c1, c2⟩ := h3
  obtain ⟨d1, d2⟩ := h4
  go_enter Try.func81, Try.ntmps81
  go_wp2_with fail
  go_returns
  exact ⟨rfl, rfl⟩
set_option maxHeartbeats 400000 in
theorem times_any (n d m q : Int) (w : World) (h1 : In64 (n * m)) (h4 : In64 (d * q)) :
    Calls Try.prog 84 #[.agg #[.int .i64 n, .int .i64 d], .agg #[.int .i64 m, .int .i64 q]] w fun e w' => e = .returned (.agg #[.int .i64 (n * m), .int .i64 (d * q)]) ∧ (((w.alloc (.cells #[.int .i64 n, .int .i64 d] 78)).alloc (.cells #[.int .i64 m, .int .i64 q] 78)).alloc (.cells #[.int .i64 (n * m), .int .i64 (d * q)] 78)) = w' := by
  obtain ⟨a1, a2⟩ := h1
  obtain ⟨d1, d2⟩ := h4
  go_enter Try.func84, Try.ntmps84
  go_wp2_with fail
  go_returns
  exact ⟨rfl, rfl⟩
set_option maxHeartbeats 400000 in
theorem negative_any (n d : Int) (w : World) (h1 : In64 (-n)) :
    Calls Try.prog 83 #[.agg #[.int .i64 n, .int .i64 d]] w fun e w' => e = .returned (.agg #[.int .i64 (-n), .int .i64 (d)]) ∧ ((w.alloc (.cells #[.int .i64 n, .int .i64 d] 78)).alloc (.cells #[.int .i64 (-n), .int .i64 d] 78)) = w' := by
  obtain ⟨a1, a2⟩ := h1
  go_enter Try.func83, Try.ntmps83
  go_wp2_with fail
  go_returns
  exact ⟨rfl, rfl⟩
set_option maxHeartbeats 400000 in
theorem inverse_any (n d : Int) (w : World) :
    Calls Try.prog 90 #[.agg #[.int .i64 n, .int .i64 d]] w fun e w' => e = .returned (.agg #[.int .i64 (d), .int .i64 (n)]) ∧ ((w.alloc (.cells #[.int .i64 n, .int .i64 d] 78)).alloc (.cells #[.int .i64 d, .int .i64 n] 78)) = w' := by
  go_enter Try.func90, Try.ntmps90
  go_wp2_with fail
  go_returns
  exact ⟨rfl, rfl⟩
set_option maxHeartbeats 400000 in
theorem shifted_any (n d k : Int) (w : World) (h1 : In64 (k * d)) (h2 : In64 (n + k * d)) :
    Calls Try.prog 98 #[.agg #[.int .i64 n, .int .i64 d], .int .i64 k] w fun e w' => e = .returned (.agg #[.int .i64 (n + k * d), .int .i64 (d)]) ∧ ((w.alloc (.cells #[.int .i64 n, .int .i64 d] 78)).alloc (.cells #[.int .i64 (n + k * d), .int .i64 d] 78)) = w' := by
  obtain ⟨a1, a2⟩ := h1
  obtain ⟨d1, d2⟩ := h2
  go_enter Try.func98, Try.ntmps98
  go_wp2_with fail
  go_returns
  exact ⟨rfl, rfl⟩
set_option maxHeartbeats 400000 in
theorem half_any (n d : Int) (w : World) (h1 : In64 (2 * d)) :
    Calls Try.prog 103 #[.agg #[.int .i64 n, .int .i64 d]] w fun e w' => e = .returned (.agg #[.int .i64 (n), .int .i64 (2 * d)]) ∧ ((w.alloc (.cells #[.int .i64 n, .int .i64 d] 78)).alloc (.cells #[.int .i64 n, .int .i64 (2 * d)] 78)) = w' := by
  obtain ⟨a1, a2⟩ := h1
  go_enter Try.func103, Try.ntmps103
  go_wp2_with fail
  go_returns
  exact ⟨rfl, rfl⟩
set_option maxHeartbeats 400000 in
theorem absolute_any (n d : Int) (w : World) (_h1 : In64 n) (h2 : In64 (-n)) :
    Calls Try.prog 86 #[.agg #[.int .i64 n, .int .i64 d]] w fun e w' => e = .returned (.agg #[.int .i64 n.natAbs, .int .i64 d]) ∧ Below w.heap.size w w' := by
  by_cases hn : n < 0
  · go_enter Try.func86, Try.ntmps86
    go_wp2_with fail
    refine (negative_any n d _ h2).mono ?_
    rintro e w1 ⟨rfl, rfl⟩
    go_wp2_with fail
    go_returns
    exact ⟨by rw [show ((n.natAbs : Int)) = -n by omega], by repeat (first | exact Below.refl _ _ | refine ba ?_ _)⟩
  · go_enter Try.func86, Try.ntmps86
    go_wp2_with fail
    go_returns
    exact ⟨by rw [show ((n.natAbs : Int)) = n by omega], ba (ba (Below.refl _ _) _) _⟩

end Go.Proofs.Ytpgnbjlpkpmpcaa
