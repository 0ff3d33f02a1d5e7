import Derived.Test.YtpgnbjlpkpmpcaaKd
import Derived.Test.YtpgnbjlpkpmpcaaZj
set_option linter.unusedVariables false
namespace Go.Proofs.Ytpgnbjlpkpmpcaa.R
open Go.RowKit Go.Proofs.Ytpgnbjlpkpmpcaa.N
set_option maxRecDepth 20000 in
set_option maxHeartbeats 2000000 in
theorem law_simplest_yes (n d m q : Int) (w : World) (h1 : M.okB n d = true) (h2 : M.okB m q = true) (h : n * q ≤ m * d) : Calls Try.prog 13 #[.agg #[.int .i64 n, .int .i64 d], .agg #[.int .i64 m, .int .i64 q]] w fun e w' => e = .returned (.bool true) ∧ Below w.heap.size w w' := by
  have HL := l2_start (w := w) (n := n) (d := d) (m := m) (q := q)
  go_enter Try.func13, Try.ntmps13
  go_wp2_with fail
  refine (least_yes n d m q _ h1 h2 h).mono ?_
  rintro e w1 ⟨x, y, rfl, hl, hb1⟩
  have HS := hide hl
  have HL1 := l2_step HL (ba hb1 (Obj.cells #[.int .i64 x, .int .i64 y] 23))
  have HA1 := fx_new w1 x y
  have HL1' := l2_step HL hb1
  clear hb1 hl
  obtain ⟨⟨r1, r2, r3, r4⟩, ⟨_, _⟩, _⟩ := HL1'.out
  go_wp2_with fail
  refine (rleast_yes n d m q _ h1 h2 h).mono ?_
  rintro e w2 ⟨x', y', rfl, hl, hb2⟩
  obtain ⟨rfl, rfl⟩ := lst_unique HS.out hl
  have HB2 := hide (bt HL1.out.2.2 hb2)
  have HA2 := fx_step HA1 hb2
  clear hb2
  obtain ⟨a1, a2, a3⟩ := HA2.out
  go_wp2_with fail
  refine (awake_any _).mono ?_
  rintro e w3 ⟨rfl, hb3⟩
  have HB3 := hide (bt (ba HB2.out _) hb3); clear hb3
  go_wp2_with fail
  go_ret
  exact ⟨rfl, HB3.out⟩
set_option maxRecDepth 20000 in
set_option maxHeartbeats 2000000 in
theorem law_simplest_no (n d m q : Int) (w : World)
    (hp : ∀ w, Calls Try.prog 63 #[.agg #[.int .i64 n, .int .i64 d], .agg #[.int .i64 m, .int .i64 q]] w fun e w' => e = .returned (.tuple #[.agg #[.int .i64 0, .int .i64 0], .int .i64 2]) ∧ Below w.heap.size w w')
    (hr : ∀ w, Calls Try.prog 64 #[.agg #[.int .i64 n, .int .i64 d], .agg #[.int .i64 m, .int .i64 q]] w fun e w' => e = .returned (.tuple #[.agg #[.int .i64 0, .int .i64 0], .int .i64 2]) ∧ Below w.heap.size w w') :
    Calls Try.prog 13 #[.agg #[.int .i64 n, .int .i64 d], .agg #[.int .i64 m, .int .i64 q]] w fun e w' => e = .returned (.bool true) ∧ Below w.heap.size w w' := by
  have HP := hide hp
  have HR := hide hr
  clear hp hr
  have HL := l2_start (w := w) (n := n) (d := d) (m := m) (q := q)
  go_enter Try.func13, Try.ntmps13
  go_wp2_with fail
  refine (HP.out _).mono ?_
  rintro e w1 ⟨rfl, hb1⟩
  have HL1 := l2_step HL (ba hb1 (Obj.cells #[.int .i64 0, .int .i64 0] 23))
  have HA1 := fx_new w1 0 0
  have HL1' := l2_step HL hb1
  clear hb1
  obtain ⟨⟨r1, r2, r3, r4⟩, ⟨_, _⟩, _⟩ := HL1'.out
  go_wp2_with fail
  refine (HR.out _).mono ?_
  rintro e w2 ⟨rfl, hb2⟩
  have HB2 := hide (bt HL1.out.2.2 hb2)
  have HA2 := fx_step HA1 hb2
  clear hb2
  obtain ⟨a1, a2, a3⟩ := HA2.out
  go_wp2_with fail
  refine (awake_any _).mono ?_
  rintro e w3 ⟨rfl, hb3⟩
  have HB3 := hide (bt (ba HB2.out _) hb3); clear hb3
  go_wp2_with fail
  go_ret
  exact ⟨rfl, HB3.out⟩
theorem law_simplest (n d m q : Int) (w : World) (i1 : In64 n) (i2 : In64 d) (i3 : In64 m) (i4 : In64 q) : Calls Try.prog 13 #[.agg #[.int .i64 n, .int .i64 d], .agg #[.int .i64 m, .int .i64 q]] w fun e w' => e = .returned (.bool true) ∧ Below w.heap.size w w' := by
  cases h1 : M.okB n d
  · exact law_simplest_no n d m q w (fun w => least_bad n d m q w i1 i2 i3 i4 (by rw [h1]; rfl)) (fun w => rleast_bada n d m q w (hide h1))
  · cases h2 : M.okB m q
    · exact law_simplest_no n d m q w (fun w => least_bad n d m q w i1 i2 i3 i4 (by rw [h1, h2]; rfl)) (fun w => rleast_badb n d m q w (hide h1) (hide h2))
    · rcases Int.lt_or_le (m * d) (n * q) with h | h
      · exact law_simplest_no n d m q w (fun w => least_order n d m q w h1 h2 h) (fun w => rleast_order n d m q w h1 h2 h)
      · exact law_simplest_yes n d m q w h1 h2 h
end Go.Proofs.Ytpgnbjlpkpmpcaa.R
