import Derived.Test.YtpgnbjlpkpmpcaaHa
set_option linter.unusedVariables false
namespace Go.Proofs.Ytpgnbjlpkpmpcaa.R
open Go.RowKit Go.Proofs.Ytpgnbjlpkpmpcaa.N
set_option maxHeartbeats 1000000 in
theorem allv_none (a : Option Addr) (cap : Nat) (w : World) : Calls Try.prog 78 #[.slice a 0 cap] w fun e w' => e = .returned (.bool true) ∧ w = w' := by
  go_enter Try.func78, Try.ntmps78
  go_wp2_with fail
  go_rounds 1
  all_goals go_ret
  all_goals exact ⟨rfl, rfl⟩
set_option maxHeartbeats 1000000 in
theorem rall_none (a : Option Addr) (cap : Nat) (w : World) : Calls Try.prog 107 #[.slice a 0 cap] w fun e w' => e = .returned (.bool true) ∧ w = w' := by
  go_enter Try.func107, Try.ntmps107
  go_wp2_with fail
  go_rounds 1
  all_goals go_ret
  all_goals exact ⟨rfl, rfl⟩
set_option maxRecDepth 20000 in
set_option maxHeartbeats 1000000 in
theorem sum_none (a : Option Addr) (cap : Nat) (w : World) : Calls Try.prog 67 #[.slice a 0 cap] w fun e w' => e = .returned (.tuple #[.agg #[.int .i64 0, .int .i64 1], .int .i64 0]) ∧ Below w.heap.size w w' := by
  go_enter Try.func67, Try.ntmps67
  go_wp2_with fail
  refine (allv_none a cap _).mono ?_
  rintro e w1 ⟨rfl, rfl⟩
  go_wp2_with fail
  go_rounds 1
  all_goals refine bodyPost_ret (v := .tuple #[.agg #[.int .i64 0, .int .i64 1], .int .i64 0]) (by simp [results, Try.results67, go_sem]) rfl ⟨rfl, ?_⟩
  all_goals exact ba (ba (Below.refl _ _) _) _
set_option maxRecDepth 20000 in
set_option maxHeartbeats 1000000 in
theorem rsum_none (a : Option Addr) (cap : Nat) (w : World) : Calls Try.prog 68 #[.slice a 0 cap] w fun e w' => e = .returned (.tuple #[.agg #[.int .i64 0, .int .i64 1], .int .i64 0]) ∧ Below w.heap.size w w' := by
  go_enter Try.func68, Try.ntmps68
  go_wp2_with fail
  refine (rall_none a cap _).mono ?_
  rintro e w1 ⟨rfl, rfl⟩
  go_wp2_with fail
  go_rounds 1
  all_goals refine bodyPost_ret (v := .tuple #[.agg #[.int .i64 0, .int .i64 1], .int .i64 0]) (by simp [results, Try.results68, go_sem]) rfl ⟨rfl, ?_⟩
  all_goals exact ba (ba (Below.refl _ _) _) _
set_option maxRecDepth 20000 in
set_option maxHeartbeats 2000000 in
theorem law_sums_none (a : Option Addr) (cap : Nat) (w : World) : Calls Try.prog 16 #[.slice a 0 cap] w fun e w' => e = .returned (.bool true) ∧ Below w.heap.size w w' := by
  go_enter Try.func16, Try.ntmps16
  go_wp2_with fail
  refine (sum_none a cap _).mono ?_
  rintro e w1 ⟨rfl, hb⟩
  have HB1 := hide (ba hb (.cells #[.int .i64 0, .int .i64 1] 23))
  have HX1 := fx_new w1 0 1
  clear hb
  go_wp2_with fail
  refine (rsum_none a cap _).mono ?_
  rintro e w2 ⟨rfl, hb⟩
  have HB2 := hide (bt HB1.out hb)
  have HX2 := fx_step HX1 hb
  clear hb
  obtain ⟨a1, a2, a3⟩ := HX2.out
  go_wp2_with fail
  refine (awake_any _).mono ?_
  rintro e w3 ⟨rfl, hb⟩
  have HB3 := hide (bt (ba HB2.out _) hb); clear hb
  go_wp2_with fail
  go_ret
  exact ⟨rfl, HB3.out⟩
theorem law_sums_all (a : Option Addr) (len cap : Nat) (ns ds : Nat → Int) (w : World) (h : FrSl w a len ns ds) : Calls Try.prog 16 #[.slice a len cap] w fun e w' => e = .returned (.bool true) ∧ Below w.heap.size w w' := by
  rcases h with rfl | ⟨b, off, rfl, hc⟩
  · exact law_sums_none a cap w
  · exact law_sums b off len cap ns ds w hc
end Go.Proofs.Ytpgnbjlpkpmpcaa.R
