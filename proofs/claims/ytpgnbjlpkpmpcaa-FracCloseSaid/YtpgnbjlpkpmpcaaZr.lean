import Derived.Test.YtpgnbjlpkpmpcaaZq
import Derived.Test.YtpgnbjlpkpmpcaaFd
set_option linter.unusedVariables false
namespace Go.Proofs.Ytpgnbjlpkpmpcaa
open Go.RowKit
theorem div_facts {n d : Int} (h1 : -1000000000000000000 ≤ n) (h2 : n ≤ 1000000000000000000) (h3 : 1 ≤ d) (h4 : d ≤ 1000000000000000000) :
    -1000000000000000000 ≤ n / d ∧ n / d ≤ 1000000000000000000 ∧ -3000000000000000000 ≤ n / d * d ∧ n / d * d ≤ 3000000000000000000 ∧ 0 ≤ n - n / d * d ∧ n - n / d * d < d ∧ n % d = n - n / d * d := by
  have e := Int.mul_ediv_add_emod n d
  have e1 := Int.emod_nonneg n (b := d) (by omega)
  have e2 := Int.emod_lt_of_pos n (b := d) (by omega)
  rw [Int.mul_comm] at e
  have k1 : -1000000000000000000 ≤ n / d := by rw [Int.le_ediv_iff_mul_le (by omega)]; omega
  have k2 : n / d ≤ 1000000000000000000 := by
    have : n / d < 1000000000000000001 := by rw [Int.ediv_lt_iff_lt_mul (by omega)]; omega
    omega
  generalize n / d * d = x at *
  omega
set_option maxHeartbeats 1000000 in
theorem rounded_any (n d m : Int) (w : World) (hm : 0 ≤ m ∧ m ≤ 4) (h1 : -1000000000000000000 ≤ n) (h2 : n ≤ 1000000000000000000) (h3 : 1 ≤ d) (h4 : d ≤ 1000000000000000000) (z : Int) (hz : Hid (z = M.rnd n d m)) :
    Calls Try.prog 88 #[.agg #[.int .i64 n, .int .i64 d], .int .i64 m] w fun e w' => e = .returned (.int .i64 z) ∧ Below w.heap.size w w' := by
  obtain ⟨a1, a2, a3, a4, a5, a6, a7⟩ := div_facts h1 h2 h3 h4
  obtain ⟨u, hu⟩ : ∃ u, Hid (u = n / d) := ⟨_, rfl⟩
  obtain ⟨b, hb⟩ : ∃ b, Hid (b = M.upB d u (n - u * d) m) := ⟨_, rfl⟩
  have HF : ∀ w, Calls Try.prog 97 #[.agg #[.int .i64 n, .int .i64 d]] w fun e w' => e = .returned (.int .i64 u) ∧ Below w.heap.size w w' := by
    rw [hu.out]; exact fun w => floor_any n d w (by omega) (by omega) h3 (by omega)
  have HF' := hide HF; clear HF
  have HM := hide hm; clear hm
  rw [← hu.out] at a1 a2 a3 a4 a5 a6 a7
  have HZ : Hid (z = if b = true then u + 1 else u) := hide (by rw [hz.out, hb.out]; unfold M.rnd; rw [a7, ← hu.out])
  clear hz a7 hu
  go_enter Try.func88, Try.ntmps88
  go_wp2_with fail
  refine (HF'.out _).mono ?_
  rintro e w1 ⟨rfl, hb1⟩
  have HB1 := hide (bt (ba (Below.refl w.heap.size w) _) hb1)
  have c1 : w1.cell? ⟨w.heap.size, 0, none⟩ = some (.int .i64 n) := kc hb1 (by simp [go_sem])
  have c2 : w1.cell? ⟨w.heap.size, 1, none⟩ = some (.int .i64 d) := kc hb1 (by simp [go_sem])
  clear hb1
  go_wp2_with fail
  refine (ups_any n d u (n - u * d) m b _ HM.out h3 (by omega) a5 a6 (by omega) (by omega) hb).mono ?_
  rintro e w2 ⟨rfl, hb2⟩
  have HB2 := hide (bt HB1.out hb2)
  clear hb2
  cases b
  · go_wp2_with fail
    go_ret
    exact ⟨ret_int (by rw [HZ.out]; simp), HB2.out⟩
  · go_wp2_with fail
    go_ret
    exact ⟨ret_int (by rw [HZ.out]; simp), HB2.out⟩
def modeB (m : Int) : Bool := decide (0 ≤ m ∧ m ≤ 4)
theorem mode_in {m : Int} (h : modeB m = true) : 0 ≤ m ∧ m ≤ 4 := by unfold modeB at h; simpa using h
set_option maxHeartbeats 1000000 in
theorem round_no (n d m : Int) (w : World) (i1 : In64 n) (i2 : In64 d) (h : (M.okB n d && modeB m) = false) :
    Calls Try.prog 40 #[.agg #[.int .i64 n, .int .i64 d], .int .i64 m] w fun e w' => e = .returned (.tuple #[.int .i64 0, .int .i64 2]) ∧ Below w.heap.size w w' := by
  obtain ⟨g, hg⟩ : ∃ g, Hid (M.okB n d = g) := ⟨_, rfl⟩
  obtain ⟨b, hb⟩ : ∃ b, Hid (b = modeB m) := ⟨_, rfl⟩
  have HG := hide (And.intro i1 i2); clear i1 i2
  rw [hg.out, ← hb.out] at h
  cases g
  · clear h
    go_enter Try.func40, Try.ntmps40
    go_wp2_with fail
    refine (valid_is n d false _ HG.out.1 HG.out.2 hg).mono ?_
    rintro e w1 ⟨rfl, hb1⟩
    have HB1 := hide (bt (ba (Below.refl w.heap.size w) _) hb1); clear hb1
    go_wp2_with fail
    go_ret2
    exact ⟨rfl, HB1.out⟩
  · obtain rfl : b = false := by simpa using h
    clear h
    go_enter Try.func40, Try.ntmps40
    go_wp2_with fail
    refine (valid_is n d true _ HG.out.1 HG.out.2 hg).mono ?_
    rintro e w1 ⟨rfl, hb1⟩
    have HB1 := hide (bt (ba (Below.refl w.heap.size w) _) hb1); clear hb1
    go_wp2_with fail
    refine (ismode_any m _ false hb).mono ?_
    rintro e w2 ⟨rfl, rfl⟩
    go_wp2_with fail
    go_ret2
    exact ⟨rfl, HB1.out⟩
set_option maxHeartbeats 1000000 in
theorem round_yes (n d m z : Int) (w : World) (h1 : M.okB n d = true) (h2 : modeB m = true) (hz : Hid (z = M.rnd n d m)) :
    Calls Try.prog 40 #[.agg #[.int .i64 n, .int .i64 d], .int .i64 m] w fun e w' => e = .returned (.tuple #[.int .i64 z, .int .i64 0]) ∧ Below w.heap.size w w' := by
  obtain ⟨a1, a2, a3, a4⟩ := okB_in h1
  have HG := hide h1
  have HM : Hid (true = modeB m) := hide h2.symm
  have HM2 := hide (mode_in h2)
  clear h1 h2
  go_enter Try.func40, Try.ntmps40
  go_wp2_with fail
  refine (valid_is n d true _ (in64_of a1 a2) (in64_of (by omega) (by omega)) HG).mono ?_
  rintro e w1 ⟨rfl, hb1⟩
  have HB1 := hide (bt (ba (Below.refl w.heap.size w) _) hb1)
  have c1 : w1.cell? ⟨w.heap.size, 0, none⟩ = some (.int .i64 n) := kc hb1 (by simp [go_sem])
  have c2 : w1.cell? ⟨w.heap.size, 1, none⟩ = some (.int .i64 d) := kc hb1 (by simp [go_sem])
  clear hb1
  go_wp2_with fail
  refine (ismode_any m _ true HM).mono ?_
  rintro e w2 ⟨rfl, rfl⟩
  go_wp2_with fail
  refine (of_b n d _).mono ?_
  rintro e w3 ⟨rfl, hb3⟩
  have HB3 := hide (bt HB1.out hb3); clear hb3
  go_wp2_with fail
  refine (rounded_any n d m _ HM2.out (by omega) (by omega) (by omega) (by omega) z hz).mono ?_
  rintro e w4 ⟨rfl, hb4⟩
  have HB4 := hide (bt HB3.out hb4); clear hb4
  go_wp2_with fail
  go_ret2
  exact ⟨rfl, HB4.out⟩
end Go.Proofs.Ytpgnbjlpkpmpcaa
