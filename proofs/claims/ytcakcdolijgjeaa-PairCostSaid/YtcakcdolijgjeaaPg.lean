/- Cost: the law. -/
import Derived.Test.YtcakcdolijgjeaaPf
import Derived.Test.YtcakcdolijgjeaaPc
import Derived.WalkLawsBesides
import Derived.BigQuiet
import Derived.Deep.QuietTactic
import Derived.Deep.RegionHeld3
set_option linter.unusedVariables false
namespace Go.Proofs.Ytcakcdolijgjeaa
open Go Go.RowKit Go.Ab
theorem c3_get {w W : World} {a0 a1 a2 a3 b0 b1 b2 b3 w0 w1 w2 w3 m0 m1 m2 m3 : Int} (H : Hid (C3 w W a0 a1 a2 a3 b0 b1 b2 b3 w0 w1 w2 w3 m0 m1 m2 m3)) : ((W.cell? ⟨w.heap.size, 0, none⟩ = some (.int .i64 a0) ∧ W.cell? ⟨w.heap.size, 1, none⟩ = some (.int .i64 a1)) ∧ (W.cell? ⟨w.heap.size, 2, none⟩ = some (.int .i64 a2) ∧ W.cell? ⟨w.heap.size, 3, none⟩ = some (.int .i64 a3))) ∧ ((W.cell? ⟨w.heap.size + 1, 0, none⟩ = some (.int .i64 b0) ∧ W.cell? ⟨w.heap.size + 1, 1, none⟩ = some (.int .i64 b1)) ∧ (W.cell? ⟨w.heap.size + 1, 2, none⟩ = some (.int .i64 b2) ∧ W.cell? ⟨w.heap.size + 1, 3, none⟩ = some (.int .i64 b3))) ∧ (((W.cell? ⟨w.heap.size + 2, 0, none⟩ = some (.int .i64 w0) ∧ W.cell? ⟨w.heap.size + 2, 1, none⟩ = some (.int .i64 w1)) ∧ (W.cell? ⟨w.heap.size + 2, 2, none⟩ = some (.int .i64 w2) ∧ W.cell? ⟨w.heap.size + 2, 3, none⟩ = some (.int .i64 w3))) ∧ (W.cell? ⟨w.heap.size + 2, 4, none⟩ = some (.int .i64 m0) ∧ W.cell? ⟨w.heap.size + 2, 5, none⟩ = some (.int .i64 m1)) ∧ (W.cell? ⟨w.heap.size + 2, 6, none⟩ = some (.int .i64 m2) ∧ W.cell? ⟨w.heap.size + 2, 7, none⟩ = some (.int .i64 m3))) ∧ Hid (C3 w W a0 a1 a2 a3 b0 b1 b2 b3 w0 w1 w2 w3 m0 m1 m2 m3) := ⟨H.out.1, H.out.2.1, H.out.2.2.1, H⟩
set_option maxRecDepth 20000 in
set_option maxHeartbeats 4000000 in
theorem cost_law (a0 a1 a2 a3 b0 b1 b2 b3 w0 w1 w2 w3 m0 m1 m2 m3 : Int) (w : World) :
    Calls Try.prog 3 #[.agg #[.int .i64 a0, .int .i64 a1, .int .i64 a2, .int .i64 a3], .agg #[.int .i64 b0, .int .i64 b1, .int .i64 b2, .int .i64 b3], .agg #[.int .i64 w0, .int .i64 w1, .int .i64 w2, .int .i64 w3, .int .i64 m0, .int .i64 m1, .int .i64 m2, .int .i64 m3]] w fun e w' => e = .returned (.bool true) ∧ Below w.heap.size w w' := by
  have HX := hide (c3_new w a0 a1 a2 a3 b0 b1 b2 b3 w0 w1 w2 w3 m0 m1 m2 m3 23 25)
  obtain ⟨V, B, E, hV⟩ : ∃ (n : Int) (B : Bool) (k : Int), Hid (costV (w0, w1, w2, w3) (m0, m1, m2, m3) (a0, a1, a2, a3) (b0, b1, b2, b3) = .tuple #[.int .i64 n, .bool B, .int .i64 k]) := by
    unfold costV
    split
    · exact ⟨_, _, _, hide rfl⟩
    · exact ⟨_, _, _, hide rfl⟩
  have K21 : ∀ W, Calls Try.prog 21 #[.agg #[.int .i64 a0, .int .i64 a1, .int .i64 a2, .int .i64 a3], .agg #[.int .i64 b0, .int .i64 b1, .int .i64 b2, .int .i64 b3], .agg #[.int .i64 w0, .int .i64 w1, .int .i64 w2, .int .i64 w3, .int .i64 m0, .int .i64 m1, .int .i64 m2, .int .i64 m3]] W fun e w' => e = .returned (.tuple #[.int .i64 V, .bool B, .int .i64 E]) ∧ Below W.heap.size W w' := fun W => by
    have := Cost_is (w0, w1, w2, w3) (m0, m1, m2, m3) (a0, a1, a2, a3) (b0, b1, b2, b3) W
    rw [hV.out] at this
    exact this
  have K24 : ∀ W, Calls Try.prog 24 #[.agg #[.int .i64 a0, .int .i64 a1, .int .i64 a2, .int .i64 a3], .agg #[.int .i64 b0, .int .i64 b1, .int .i64 b2, .int .i64 b3], .agg #[.int .i64 w0, .int .i64 w1, .int .i64 w2, .int .i64 w3, .int .i64 m0, .int .i64 m1, .int .i64 m2, .int .i64 m3]] W fun e w' => e = .returned (.tuple #[.int .i64 V, .bool B, .int .i64 E]) ∧ Below W.heap.size W w' := fun W => by
    have := RCost_is (w0, w1, w2, w3) (m0, m1, m2, m3) (a0, a1, a2, a3) (b0, b1, b2, b3) W
    rw [hV.out] at this
    exact this
  have H21 := hide K21
  have H24 := hide K24
  clear K21 K24
  have hB : (B == B) = true := by cases B <;> rfl
  go_enter Try.func3, Try.ntmps3
  go_wp2_with fail
  have HXd := hide (HX.out.below (Below.refl _ _).drew)
  go_region_held3 (fun W => ((W.cell? ⟨w.heap.size, 0, none⟩ = some (.int .i64 a0) ∧ W.cell? ⟨w.heap.size, 1, none⟩ = some (.int .i64 a1)) ∧ (W.cell? ⟨w.heap.size, 2, none⟩ = some (.int .i64 a2) ∧ W.cell? ⟨w.heap.size, 3, none⟩ = some (.int .i64 a3))) ∧ ((W.cell? ⟨w.heap.size + 1, 0, none⟩ = some (.int .i64 b0) ∧ W.cell? ⟨w.heap.size + 1, 1, none⟩ = some (.int .i64 b1)) ∧ (W.cell? ⟨w.heap.size + 1, 2, none⟩ = some (.int .i64 b2) ∧ W.cell? ⟨w.heap.size + 1, 3, none⟩ = some (.int .i64 b3))) ∧ (((W.cell? ⟨w.heap.size + 2, 0, none⟩ = some (.int .i64 w0) ∧ W.cell? ⟨w.heap.size + 2, 1, none⟩ = some (.int .i64 w1)) ∧ (W.cell? ⟨w.heap.size + 2, 2, none⟩ = some (.int .i64 w2) ∧ W.cell? ⟨w.heap.size + 2, 3, none⟩ = some (.int .i64 w3))) ∧ (W.cell? ⟨w.heap.size + 2, 4, none⟩ = some (.int .i64 m0) ∧ W.cell? ⟨w.heap.size + 2, 5, none⟩ = some (.int .i64 m1)) ∧ (W.cell? ⟨w.heap.size + 2, 6, none⟩ = some (.int .i64 m2) ∧ W.cell? ⟨w.heap.size + 2, 7, none⟩ = some (.int .i64 m3))) ∧ Hid (C3 w W a0 a1 a2 a3 b0 b1 b2 b3 w0 w1 w2 w3 m0 m1 m2 m3))
    ((go_split_ands; refine c3_get ?_; first | (with_reducible exact HX) | (with_reducible exact HXd) | (with_reducible exact hide (C3.below (Hid.out ‹_›) hbw))))
    ((first
      | (go_at_call 22; (with_reducible refine (glove_any _ _ _ _ _).mono ?_); rintro e w' ⟨rfl, hbw⟩)
      | (go_at_call 23; (with_reducible refine (rule_any _ _ _ _ _ _ _ _ _).mono ?_); rintro e w' ⟨rfl, hbw⟩)
      | (go_at_call 21; (with_reducible refine (H21.out _).mono ?_); rintro e w' ⟨rfl, hbw⟩)))
  go_split_ands
  have HY : Hid (C3 w w' a0 a1 a2 a3 b0 b1 b2 b3 w0 w1 w2 w3 m0 m1 m2 m3) := ‹_›
  clear hbw HX HXd
  obtain ⟨⟨⟨c0, c1⟩, c2, c3⟩, ⟨⟨d0, d1⟩, d2, d3⟩, ⟨⟨⟨q0, q1⟩, q2, q3⟩, ⟨r0, r1⟩, r2, r3⟩, _⟩ := HY.out
  go_wp2_with fail
  refine (H24.out _).mono ?_
  rintro e W2 ⟨rfl, hb⟩
  have HB := hide (bt HY.out.2.2.2 hb)
  clear hb c0 c1 c2 c3 d0 d1 d2 d3 q0 q1 q2 q3 r0 r1 r2 r3
  go_wp2_with fail
  refine (awake_any _).mono ?_
  rintro e W3 ⟨rfl, hb⟩
  have HC := hide (bt HB.out hb)
  clear hb
  go_wp2_with fail
  go_ret
  exact ⟨rfl, HC.out⟩
end Go.Proofs.Ytcakcdolijgjeaa
