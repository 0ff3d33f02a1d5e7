import Derived.Test.YtpgnbjlpkpmpcaaJe
set_option linter.unusedVariables false
namespace Go.Proofs.Ytpgnbjlpkpmpcaa.R
open Go.RowKit Go.Proofs.Ytpgnbjlpkpmpcaa.N
theorem equal_ls (a a' : Option Addr) (len c c' : Nat) (ns : Nat → Int) (w : World) (hl : len ≤ 1000) (h : Hid (Ls w a (len + 1) c ns)) (h' : Hid (Ls w a' (len + 1) c' ns)) :
    Calls Try.prog 54 #[.slice a (len + 1) c, .slice a' (len + 1) c'] w fun e w' => e = .returned (.bool true) ∧ Below w.heap.size w w' := by
  obtain ⟨_, h0 | ⟨b, off, rfl, hc, _⟩⟩ := h.out
  · omega
  obtain ⟨_, h0 | ⟨b', off', rfl, hc', _⟩⟩ := h'.out
  · omega
  exact equal_same b off c b' off' c' (len + 1) ns w (by omega) (hide hc) (hide hc')
theorem fromT_ls (a : Option Addr) (last cap : Nat) (ns : Nat → Int) (w : World) (hl : last ≤ 63) (h : Hid (Ls w a (last + 1) cap ns)) (HT : Hid (M.Terms ns last)) (x y z : Int) (hx : Hid (x = M.aN (M.cQ ns last last))) (hy : Hid (y = M.aD (M.cQ ns last last))) (hz : Hid (z = M.aE (M.cQ ns last last))) :
    Calls Try.prog 55 #[.slice a (last + 1) cap] w (FtRet w x y z) := by
  obtain ⟨hc, h0 | ⟨b, off, rfl, hcc, hi⟩⟩ := h.out
  · omega
  exact fromT_yes b off last cap ns w hl hc (hide hcc) (hide hi) HT x y z hx hy hz
set_option maxRecDepth 20000 in
set_option maxHeartbeats 2000000 in
theorem law_terms_bad (n d : Int) (w : World) (i1 : In64 n) (i2 : In64 d) (h : M.okB n d = false) : Calls Try.prog 9 #[.agg #[.int .i64 n, .int .i64 d]] w fun e w' => e = .returned (.bool true) ∧ Below w.heap.size w w' := by
  have HF0 := fx_new w n d
  have HB0 := hide (ba (Below.refl w.heap.size w) (.cells #[.int .i64 n, .int .i64 d] 23))
  go_enter Try.func9, Try.ntmps9
  go_wp2_with fail
  refine (terms_bad n d _ i1 i2 h).mono ?_
  rintro e w1 ⟨rfl, hb⟩
  have HB1 := hide (bt HB0.out hb)
  have HF1 := fx_step HF0 hb
  clear hb HB0 HF0
  obtain ⟨a1, a2, a3⟩ := HF1.out
  go_wp2_with fail
  refine (rterms_bad n d _ h).mono ?_
  rintro e w2 ⟨rfl, hb⟩
  have HB2 := hide (bt HB1.out hb)
  clear hb a1 a2 a3 HB1 HF1
  go_wp2_with fail
  refine (equal_none _).mono ?_
  rintro e w3 ⟨rfl, hb⟩
  have HB3 := hide (bt HB2.out hb)
  clear hb HB2
  go_wp2_with fail
  refine (awake_any _).mono ?_
  rintro e w4 ⟨rfl, hb⟩
  have HB4 := hide (bt HB3.out hb)
  clear hb HB3
  go_wp2_with fail
  refine (fromT_none none 0 _).mono ?_
  rintro e w5 ⟨rfl, hb⟩
  have HB5 := hide (bt HB4.out hb)
  clear hb HB4
  go_wp2_with fail
  go_ret
  exact ⟨rfl, ba HB5.out _⟩
set_option maxRecDepth 20000 in
set_option maxHeartbeats 2000000 in
theorem law_terms_yes (n d : Int) (w : World) (h : M.okB n d = true) : Calls Try.prog 9 #[.agg #[.int .i64 n, .int .i64 d]] w fun e w' => e = .returned (.bool true) ∧ Below w.heap.size w w' := by
  have HF0 := fx_new w n d
  have HB0 := hide (ba (Below.refl w.heap.size w) (.cells #[.int .i64 n, .int .i64 d] 23))
  obtain ⟨last, hg0, he0⟩ := M.ends h
  have hl := M.goes_lt h last hg0
  have HT := hide (M.eT_terms h last hg0 he0)
  have hv := M.eT_whole h last hg0 he0
  obtain ⟨e1, e2, e3⟩ := M.ans_ok h
  rw [← hv] at e1 e2 e3
  have hx := hide e1.symm
  have hy := hide e2.symm
  have hz := hide e3.symm
  have hg := hide hg0
  have he := hide he0
  clear hg0 he0 hv e1 e2 e3
  go_enter Try.func9, Try.ntmps9
  go_wp2_with fail
  refine (terms_yes n d _ h last hg he).mono ?_
  rintro e w1 ⟨a, cap, rfl, hls, hb⟩
  have HL := hide hls
  have HB1 := hide (bt HB0.out hb)
  have HF1 := fx_step HF0 hb
  clear hb HB0 HF0 hls
  obtain ⟨a1, a2, a3⟩ := HF1.out
  go_wp2_with fail
  refine (rterms_yes n d _ h last hg he).mono ?_
  rintro e w2 ⟨a', cap', rfl, hls, hb⟩
  have HL2 := hide (Ls.below HL.out hb)
  have HM := hide hls
  have HB2 := hide (bt HB1.out hb)
  have HF2 := fx_step HF1 hb
  clear hb a1 a2 a3 HB1 HF1 hls HL
  go_wp2_with fail
  refine (equal_ls a a' last cap cap' _ _ (by omega) HL2 HM).mono ?_
  rintro e w3 ⟨rfl, hb⟩
  have HL3 := hide (Ls.below HL2.out hb)
  have HB3 := hide (bt HB2.out hb)
  have HF3 := fx_step HF2 hb
  clear hb HB2 HF2 HM HL2
  go_wp2_with fail
  refine (awake_any _).mono ?_
  rintro e w4 ⟨rfl, hb⟩
  have HL4 := hide (Ls.below HL3.out hb)
  have HB4 := hide (bt HB3.out hb)
  have HF4 := fx_step HF3 hb
  clear hb HB3 HF3 HL3
  go_wp2_with fail
  refine (fromT_ls a last cap _ _ (by omega) HL4 HT n d 0 hx hy hz).mono ?_
  rintro e w5 ⟨rfl, hb⟩
  have HB5 := hide (bt HB4.out hb)
  have HF5 := fx_step HF4 hb
  clear hb HB4 HF4
  obtain ⟨a1, a2, a3⟩ := HF5.out
  go_wp2_with fail
  go_ret
  exact ⟨rfl, ba HB5.out _⟩
theorem law_terms (n d : Int) (w : World) (i1 : In64 n) (i2 : In64 d) : Calls Try.prog 9 #[.agg #[.int .i64 n, .int .i64 d]] w fun e w' => e = .returned (.bool true) ∧ Below w.heap.size w w' := by
  cases h : M.okB n d
  · exact law_terms_bad n d w i1 i2 h
  · exact law_terms_yes n d w h
end Go.Proofs.Ytpgnbjlpkpmpcaa.R
