import Derived.Test.YtpgnbjlpkpmpcaaIm
set_option linter.unusedVariables false
namespace Go.Proofs.Ytpgnbjlpkpmpcaa.R
open Go.RowKit Go.Proofs.Ytpgnbjlpkpmpcaa.N
theorem rfromT_yes (b off last cap : Nat) (ns : Nat → Int) (w : World) (hl : last ≤ 63) (hc : last + 1 ≤ cap) (HC : Hid (∀ i, i < last + 1 → w.cell? ⟨b, off + i, none⟩ = some (.int .i64 (ns i)))) (HI : Hid (∀ i, i < last + 1 → In64 (ns i))) (HT : Hid (M.Terms ns last))
    (x y z : Int) (hx : Hid (x = M.aN (M.cQ ns last last))) (hy : Hid (y = M.aD (M.cQ ns last last))) (hz : Hid (z = M.aE (M.cQ ns last last))) :
    Calls Try.prog 56 #[.slice (some ⟨b, off, none⟩) (last + 1) cap] w (FtRet w x y z) := by
  cases last with
  | zero => exact rfromT_one b off cap (ns 0) x y z w hc (HC.out 0 (by omega)) (HI.out 0 (by omega)) hx hy hz
  | succ n => exact rfromT_many b off n cap ns w (by omega) hc HC HI HT x y z hx hy hz
/-- FromTerms of the program and of the reference answer alike -/
theorem fromT_both (a : Option Addr) (len cap : Nat) (ns : Nat → Int) : ∃ x y z : Int, ∀ w : World, Hid (Ls w a len cap ns) →
    Calls Try.prog 55 #[.slice a len cap] w (FtRet w x y z) ∧ Calls Try.prog 56 #[.slice a len cap] w (FtRet w x y z) := by
  by_cases h1 : len ≤ 64
  · cases len with
    | zero => exact ⟨0, 0, 2, fun w _ => ⟨fromT_none a cap w, rfromT_none a cap w⟩⟩
    | succ last =>
      by_cases hT : M.Terms ns last
      · refine ⟨M.aN (M.cQ ns last last), M.aD (M.cQ ns last last), M.aE (M.cQ ns last last), fun w h => ?_⟩
        obtain ⟨hc, h0 | ⟨b, off, rfl, hcc, hi⟩⟩ := h.out
        · omega
        · exact ⟨fromT_yes b off last cap ns w (by omega) hc (hide hcc) (hide hi) (hide hT) _ _ _ (hide rfl) (hide rfl) (hide rfl), rfromT_yes b off last cap ns w (by omega) hc (hide hcc) (hide hi) (hide hT) _ _ _ (hide rfl) (hide rfl) (hide rfl)⟩
      · cases last with
        | zero => exact absurd ⟨fun i h1 h2 => by omega, fun h => by omega⟩ hT
        | succ n =>
          refine ⟨0, 0, 2, fun w h => ?_⟩
          obtain ⟨hc, h0 | ⟨b, off, rfl, hcc, hi⟩⟩ := h.out
          · omega
          · exact ⟨fromT_bad b off n cap ns w (by omega) hc (hide hcc) (hide hT), rfromT_bad b off n cap ns w (by omega) hc (hide hcc) (hide hT)⟩
  · exact ⟨0, 0, 3, fun w _ => ⟨fromT_long a len cap w (by omega), rfromT_long a len cap w (by omega)⟩⟩
set_option maxRecDepth 20000 in
set_option maxHeartbeats 2000000 in
theorem law_fromTerms (a : Option Addr) (len cap : Nat) (ns : Nat → Int) (w : World) (h : Ls w a len cap ns) : Calls Try.prog 10 #[.slice a len cap] w fun e w' => e = .returned (.bool true) ∧ Below w.heap.size w w' := by
  have HL := hide h
  clear h
  obtain ⟨x, y, z, hs⟩ := fromT_both a len cap ns
  have HS := hide hs
  clear hs
  go_enter Try.func10, Try.ntmps10
  go_wp2_with fail
  refine (HS.out _ HL).1.mono ?_
  rintro e w1 ⟨rfl, hb⟩
  have HB1 := hide (ba hb (.cells #[.int .i64 x, .int .i64 y] 23))
  have HX1 := fx_new w1 x y
  have HL1 := hide (Ls.below HL.out HB1.out)
  clear hb
  go_wp2_with fail
  refine (HS.out _ HL1).2.mono ?_
  rintro e w2 ⟨rfl, hb⟩
  have HB2 := hide (bt HB1.out hb)
  have HX2 := fx_step HX1 hb
  clear hb
  obtain ⟨a1, a2, a3⟩ := HX2.out
  go_wp2_with fail
  refine (awake_any _).mono ?_
  rintro e w3 ⟨rfl, hb⟩
  have HB3 := hide (bt (ba HB2.out _) hb); clear hb
  go_wp2_with fail
  go_ret
  exact ⟨rfl, HB3.out⟩
end Go.Proofs.Ytpgnbjlpkpmpcaa.R
