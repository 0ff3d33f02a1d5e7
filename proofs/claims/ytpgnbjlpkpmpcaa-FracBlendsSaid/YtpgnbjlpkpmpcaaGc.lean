import Derived.Test.YtpgnbjlpkpmpcaaGb
set_option linter.unusedVariables false
namespace Go.Proofs.Ytpgnbjlpkpmpcaa.R
open Go.RowKit Go.Proofs.Ytpgnbjlpkpmpcaa.N
/-- what Sum answers -/
theorem sum_both (b off len cap : Nat) (ns ds : Nat → Int) : ∃ x y z : Int, ∀ w : World, Hid (Cells w b off len ns ds) →
    (Calls Try.prog 67 #[.slice (some ⟨b, off, none⟩) len cap] w fun e w' => e = .returned (.tuple #[.agg #[.int .i64 x, .int .i64 y], .int .i64 z]) ∧ Below w.heap.size w w') ∧
    (Calls Try.prog 68 #[.slice (some ⟨b, off, none⟩) len cap] w fun e w' => e = .returned (.tuple #[.agg #[.int .i64 x, .int .i64 y], .int .i64 z]) ∧ Below w.heap.size w w') := by
  by_cases hl : len ≤ 64
  · cases ha : allOk ns ds len
    · exact ⟨0, 0, 2, fun w h => ⟨sum_bad b off len cap ns ds w hl h (hide ha), rsum_bad b off len cap ns ds w hl h (hide ha)⟩⟩
    · exact ⟨(acc ns ds len).1, (acc ns ds len).2.1, (acc ns ds len).2.2, fun w h => ⟨sum_yes b off len cap ns ds w hl h (hide ha) _ _ _ (hide rfl), rsum_yes b off len cap ns ds w hl h (hide ha) _ _ _ (hide rfl)⟩⟩
  · exact ⟨0, 0, 3, fun w h => ⟨sum_long b off len cap w (by omega), rsum_long b off len cap w (by omega)⟩⟩
theorem cells_below {w w' : World} {b off len : Nat} {ns ds : Nat → Int} (h : Hid (Cells w b off len ns ds)) (hb : Below w.heap.size w w') : Hid (Cells w' b off len ns ds) :=
  hide ⟨fun i hi => (h.out.1 i hi).below hb, h.out.2⟩
set_option maxRecDepth 20000 in
set_option maxHeartbeats 2000000 in
theorem law_sums (b off len cap : Nat) (ns ds : Nat → Int) (w : World) (hc : Cells w b off len ns ds) : Calls Try.prog 16 #[.slice (some ⟨b, off, none⟩) len cap] w fun e w' => e = .returned (.bool true) ∧ Below w.heap.size w w' := by
  have HC := hide hc
  clear hc
  obtain ⟨x, y, z, hs⟩ := sum_both b off len cap ns ds
  have HS := hide hs
  clear hs
  go_enter Try.func16, Try.ntmps16
  go_wp2_with fail
  refine (HS.out _ HC).1.mono ?_
  rintro e w1 ⟨rfl, hb⟩
  have HB1 := hide (ba hb (.cells #[.int .i64 x, .int .i64 y] 23))
  have HX1 := fx_new w1 x y
  have HC1 := cells_below HC (ba hb (.cells #[.int .i64 x, .int .i64 y] 23))
  clear hb
  go_wp2_with fail
  refine (HS.out _ HC1).2.mono ?_
  rintro e w2 ⟨rfl, hb⟩
  have HB2 := hide (bt HB1.out hb)
  have HX2 := fx_step HX1 hb
  clear hb
  obtain ⟨a1, a2, a3⟩ := HX2.out
  go_wp2_with fail
  refine (awake_any _).mono ?_
  rintro e w3 ⟨rfl, hb⟩
  have HB3 := hide (bt (ba HB2.out _) hb); clear hb
  go_wp2_with fail
  go_ret
  exact ⟨rfl, HB3.out⟩
end Go.Proofs.Ytpgnbjlpkpmpcaa.R
