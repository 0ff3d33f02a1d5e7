import Derived.Test.YtpgnbjlpkpmpcaaDc
import Derived.Test.YtpgnbjlpkpmpcaaJ
set_option linter.unusedVariables false
namespace Go.Proofs.Ytpgnbjlpkpmpcaa
open Go.RowKit
def denB (d : Int) : Bool := decide (1 ≤ d ∧ d ≤ 1000000000)
theorem den_in {d : Int} (h : denB d = true) : 1 ≤ d ∧ d ≤ 1000000000 := by unfold denB at h; simpa using h
set_option maxHeartbeats 400000 in
theorem isden_any (m : Int) (w : World) (b : Bool) (hb : Hid (b = denB m)) :
    Calls Try.prog 101 #[.int .i64 m] w fun e w' => e = .returned (.bool b) ∧ w = w' := by
  by_cases h1 : 1 ≤ m
  · by_cases h2 : m ≤ 1000000000
    · obtain rfl : b = true := by rw [hb.out]; unfold denB; simpa using ⟨h1, h2⟩
      go_enter Try.func101, Try.ntmps101
      go_wp2_with fail
      go_ret
      exact ⟨rfl, rfl⟩
    · obtain rfl : b = false := by rw [hb.out]; unfold denB; simpa using fun _ => by omega
      go_enter Try.func101, Try.ntmps101
      go_wp2_with fail
      go_ret
      exact ⟨rfl, rfl⟩
  · obtain rfl : b = false := by rw [hb.out]; unfold denB; simpa using fun h => absurd h h1
    go_enter Try.func101, Try.ntmps101
    go_wp2_with fail
    go_ret
    exact ⟨rfl, rfl⟩
set_option maxHeartbeats 400000 in
theorem under_any (a b c e : Int) (r : Bool) (w : World) (ha : -1000000000 ≤ a ∧ a ≤ 1000000000) (hb : 1 ≤ b ∧ b ≤ 1000000000) (hc : -1000000000 ≤ c ∧ c ≤ 1000000000) (he : 1 ≤ e ∧ e ≤ 1000000000) (hr : Hid (r = decide (a * e ≤ c * b))) :
    Calls Try.prog 62 #[.agg #[.int .i64 a, .int .i64 b], .agg #[.int .i64 c, .int .i64 e]] w fun e w' => e = .returned (.bool r) ∧ Below w.heap.size w w' := by
  obtain ⟨p1, p2⟩ := prod_bd ha.1 ha.2 (by omega : -1000000000 ≤ e) he.2
  obtain ⟨p3, p4⟩ := prod_bd hc.1 hc.2 (by omega : -1000000000 ≤ b) hb.2
  clear ha hb hc he
  go_enter Try.func62, Try.ntmps62
  go_wp2_with fail
  go_ret
  exact ⟨ret_bool (by rw [hr.out]), ba (ba (Below.refl _ _) _) _⟩
theorem k1_new' (w : World) (n d : Int) : Hid (K1 w ((w.alloc (.cells #[.int .i64 n, .int .i64 d] 23)).alloc (.cells #[.int .i64 0, .int .i64 0] 23)) n d) :=
  hide ⟨⟨by simp [go_sem], by simp [go_sem]⟩, ⟨by simp [go_sem], by simp [go_sem], by simp [go_sem], by simp [go_sem]⟩, ba (ba (Below.refl _ _) _) _⟩
/-- the one below, or above, of a fraction -/
def Lo (n m d a b : Int) : Prop := (m ≤ d ∧ a = n ∧ b = m) ∨ (d < m ∧ ∃ c e, M.Nb n m d a b c e)
def Hi (n m d c e : Int) : Prop := (m ≤ d ∧ c = n ∧ e = m) ∨ (d < m ∧ ∃ a b, M.Nb n m d a b c e)
def LoRet (w : World) (n m d : Int) (en : Ending) (w' : World) : Prop := ∃ a b : Int, en = .returned (.tuple #[.agg #[.int .i64 a, .int .i64 b], .int .i64 0]) ∧ Lo n m d a b ∧ Below w.heap.size w w'
def HiRet (w : World) (n m d : Int) (en : Ending) (w' : World) : Prop := ∃ a b : Int, en = .returned (.tuple #[.agg #[.int .i64 a, .int .i64 b], .int .i64 0]) ∧ Hi n m d a b ∧ Below w.heap.size w w'
theorem nb_oklo {n m d a b c e : Int} (hm : d < m) (hd : d ≤ 1000000000) (hn : -1000000000 ≤ n ∧ n ≤ 1000000000) (h : M.Nb n m d a b c e) : M.okB a b = true := by
  obtain ⟨h0, s, dt, l1, l2⟩ := h
  have := M.nb_bd hm h0 dt l1 l2 hn
  rw [M.okB_iff]
  exact ⟨h0.1.1, by omega, this.1.1, this.1.2, M.nb_gcd dt⟩
theorem nb_okhi {n m d a b c e : Int} (hm : d < m) (hd : d ≤ 1000000000) (hn : -1000000000 ≤ n ∧ n ≤ 1000000000) (h : M.Nb n m d a b c e) : M.okB c e = true := by
  obtain ⟨h0, s, dt, l1, l2⟩ := h
  have := M.nb_bd hm h0 dt l1 l2 hn
  have hg := M.nb_gcd (a := -c) (b := e) (c := -a) (e := b) (by rw [Int.neg_mul, Int.neg_mul]; omega)
  rw [Int.natAbs_neg] at hg
  rw [M.okB_iff]
  exact ⟨h0.2.1, by omega, this.2.1.1, this.2.1.2, hg⟩
set_option maxRecDepth 20000 in
set_option maxHeartbeats 1000000 in
theorem below_no (n m d : Int) (w : World) (i1 : In64 n) (i2 : In64 m) (h : (M.okB n m && denB d) = false) :
    Calls Try.prog 57 #[.agg #[.int .i64 n, .int .i64 m], .int .i64 d] w fun e w' => e = .returned (.tuple #[.agg #[.int .i64 0, .int .i64 0], .int .i64 2]) ∧ Below w.heap.size w w' := by
  obtain ⟨g, hg⟩ : ∃ g, Hid (M.okB n m = g) := ⟨_, rfl⟩
  obtain ⟨b, hb⟩ : ∃ b, Hid (b = denB d) := ⟨_, rfl⟩
  have HG := hide (And.intro i1 i2); clear i1 i2
  have hk0 := k1_new' w n m
  rw [hg.out, ← hb.out] at h
  cases g
  · clear h
    go_enter Try.func57, Try.ntmps57
    go_wp2_with fail
    refine (valid_is n m false _ HG.out.1 HG.out.2 hg).mono ?_
    rintro e w1 ⟨rfl, hb1⟩
    have hk := k1_step hk0 hb1; clear hb1 hk0
    obtain ⟨_, ⟨q0, q1, f0, f1⟩, _⟩ := hk.out
    go_wp2_with fail
    refine bodyPost_ret (v := .tuple #[.agg #[.int .i64 0, .int .i64 0], .int .i64 2]) (by simp [results, Try.results57, go_sem, *]) rfl ⟨rfl, ?_⟩
    exact k1_end hk _ _
  · obtain rfl : b = false := by simpa using h
    clear h
    go_enter Try.func57, Try.ntmps57
    go_wp2_with fail
    refine (valid_is n m true _ HG.out.1 HG.out.2 hg).mono ?_
    rintro e w1 ⟨rfl, hb1⟩
    have hk := k1_step hk0 hb1; clear hb1 hk0
    go_wp2_with fail
    refine (isden_any d _ false hb).mono ?_
    rintro e w2 ⟨rfl, rfl⟩
    obtain ⟨_, ⟨q0, q1, f0, f1⟩, _⟩ := hk.out
    go_wp2_with fail
    refine bodyPost_ret (v := .tuple #[.agg #[.int .i64 0, .int .i64 0], .int .i64 2]) (by simp [results, Try.results57, go_sem, *]) rfl ⟨rfl, ?_⟩
    exact k1_end hk _ _
set_option maxRecDepth 20000 in
set_option maxHeartbeats 2000000 in
theorem below_yes (n m d : Int) (w : World) (h1 : M.okB n m = true) (h2 : denB d = true) :
    Calls Try.prog 57 #[.agg #[.int .i64 n, .int .i64 m], .int .i64 d] w (LoRet w n m d) := by
  obtain ⟨a1, a2, a3, a4⟩ := okB_in h1
  have hg := hide h1
  have hb : Hid (true = denB d) := hide h2.symm
  have HD := hide (den_in h2)
  have HG := hide (And.intro (in64_of a1 a2) (in64_of (by omega : -1000000000 ≤ m) a4))
  have HGC : Hid (Nat.gcd n.natAbs m.natAbs = 1) := hide ((M.okB_iff n m).1 h1).2.2.2.2
  have hk0 := k1_new' w n m
  have HA : Hid ((-1000000000 ≤ n ∧ n ≤ 1000000000) ∧ m ≤ 1000000000) := hide ⟨⟨a1, a2⟩, a4⟩
  clear h1 h2 a1 a2 a3 a4
  by_cases hle : m ≤ d
  · obtain ⟨k1, k2, k3⟩ := M.ok_new hg.out
    have K1' := hide k1
    have K2' := hide k2
    have K3' := hide k3
    have hmd := hide hle; clear hle
    clear k1 k2 k3
    go_enter Try.func57, Try.ntmps57
    go_wp2_with fail
    refine (valid_is n m true _ HG.out.1 HG.out.2 hg).mono ?_
    rintro e w1 ⟨rfl, hb1⟩
    have hk := k1_step hk0 hb1; clear hb1 hk0
    go_wp2_with fail
    refine (isden_any d _ true hb).mono ?_
    rintro e w2 ⟨rfl, rfl⟩
    obtain ⟨⟨c1, c2⟩, _, _⟩ := hk.out
    go_wp2_with fail
    refine (of_b n m _).mono ?_
    rintro e w3 ⟨rfl, hb1⟩
    have hk3 := k1_step hk hb1; clear hb1 hk c1 c2
    go_wp2_with fail
    refine (neighbours_small n m d _ hmd.out).mono ?_
    rintro e w4 ⟨rfl, hb1⟩
    have hk4 := k1_step (k1_step hk3 hb1) (ba (ba (Below.refl _ _) (.cells #[.int .i64 n, .int .i64 m] 78)) (.cells #[.int .i64 n, .int .i64 m] 78)); clear hb1 hk3
    go_wp2_with fail
    refine (reduced_b n m n m 0 _ HG.out.1 HG.out.2 K1' K2' K3').mono ?_
    rintro e w5 ⟨rfl, hb1⟩
    have hk5 := k1_step hk4 hb1; clear hb1 hk4
    obtain ⟨_, ⟨q0, q1, f0, f1⟩, _⟩ := hk5.out
    go_wp2_with fail
    refine bodyPost_ret (v := .tuple #[.agg #[.int .i64 n, .int .i64 m], .int .i64 0]) (by simp [results, Try.results57, go_sem, *]) rfl ⟨n, m, rfl, .inl ⟨hmd.out, rfl, rfl⟩, ?_⟩
    exact k1_end hk5 _ _
  · have hmd : Hid (d < m) := hide (by omega)
    clear hle
    go_enter Try.func57, Try.ntmps57
    go_wp2_with fail
    refine (valid_is n m true _ HG.out.1 HG.out.2 hg).mono ?_
    rintro e w1 ⟨rfl, hb1⟩
    have hk := k1_step hk0 hb1; clear hb1 hk0
    go_wp2_with fail
    refine (isden_any d _ true hb).mono ?_
    rintro e w2 ⟨rfl, rfl⟩
    obtain ⟨⟨c1, c2⟩, _, _⟩ := hk.out
    go_wp2_with fail
    refine (of_b n m _).mono ?_
    rintro e w3 ⟨rfl, hb1⟩
    have hk3 := k1_step hk hb1; clear hb1 hk c1 c2
    go_wp2_with fail
    refine (neighbours_big n m d _ HGC.out hmd.out HA.out.2 HD.out.1 HA.out.1).mono ?_
    rintro e w4 ⟨a, b, c, e', rfl, hnb, hb1⟩
    have HN := hide hnb
    have hok := nb_oklo hmd.out HD.out.2 HA.out.1 hnb
    obtain ⟨v1, v2, v3, v4⟩ := okB_in hok
    have HV := hide (And.intro (in64_of v1 v2) (in64_of (by omega : -1000000000 ≤ b) v4))
    obtain ⟨k1, k2, k3⟩ := M.ok_new hok
    have K1' := hide k1
    have K2' := hide k2
    have K3' := hide k3
    have hk4 := k1_step (k1_step hk3 hb1) (ba (ba (Below.refl _ _) (.cells #[.int .i64 a, .int .i64 b] 78)) (.cells #[.int .i64 c, .int .i64 e'] 78)); clear hb1 hk3 hnb hok v1 v2 v3 v4 k1 k2 k3
    go_wp2_with fail
    refine (reduced_b a b a b 0 _ HV.out.1 HV.out.2 K1' K2' K3').mono ?_
    rintro e w5 ⟨rfl, hb1⟩
    have hk5 := k1_step hk4 hb1; clear hb1 hk4
    obtain ⟨_, ⟨q0, q1, f0, f1⟩, _⟩ := hk5.out
    go_wp2_with fail
    refine bodyPost_ret (v := .tuple #[.agg #[.int .i64 a, .int .i64 b], .int .i64 0]) (by simp [results, Try.results57, go_sem, *]) rfl ⟨a, b, rfl, .inr ⟨hmd.out, c, e', HN.out⟩, ?_⟩
    exact k1_end hk5 _ _
set_option maxRecDepth 20000 in
set_option maxHeartbeats 1000000 in
theorem above_no (n m d : Int) (w : World) (i1 : In64 n) (i2 : In64 m) (h : (M.okB n m && denB d) = false) :
    Calls Try.prog 58 #[.agg #[.int .i64 n, .int .i64 m], .int .i64 d] w fun e w' => e = .returned (.tuple #[.agg #[.int .i64 0, .int .i64 0], .int .i64 2]) ∧ Below w.heap.size w w' := by
  obtain ⟨g, hg⟩ : ∃ g, Hid (M.okB n m = g) := ⟨_, rfl⟩
  obtain ⟨b, hb⟩ : ∃ b, Hid (b = denB d) := ⟨_, rfl⟩
  have HG := hide (And.intro i1 i2); clear i1 i2
  have hk0 := k1_new' w n m
  rw [hg.out, ← hb.out] at h
  cases g
  · clear h
    go_enter Try.func58, Try.ntmps58
    go_wp2_with fail
    refine (valid_is n m false _ HG.out.1 HG.out.2 hg).mono ?_
    rintro e w1 ⟨rfl, hb1⟩
    have hk := k1_step hk0 hb1; clear hb1 hk0
    obtain ⟨_, ⟨q0, q1, f0, f1⟩, _⟩ := hk.out
    go_wp2_with fail
    refine bodyPost_ret (v := .tuple #[.agg #[.int .i64 0, .int .i64 0], .int .i64 2]) (by simp [results, Try.results58, go_sem, *]) rfl ⟨rfl, ?_⟩
    exact k1_end hk _ _
  · obtain rfl : b = false := by simpa using h
    clear h
    go_enter Try.func58, Try.ntmps58
    go_wp2_with fail
    refine (valid_is n m true _ HG.out.1 HG.out.2 hg).mono ?_
    rintro e w1 ⟨rfl, hb1⟩
    have hk := k1_step hk0 hb1; clear hb1 hk0
    go_wp2_with fail
    refine (isden_any d _ false hb).mono ?_
    rintro e w2 ⟨rfl, rfl⟩
    obtain ⟨_, ⟨q0, q1, f0, f1⟩, _⟩ := hk.out
    go_wp2_with fail
    refine bodyPost_ret (v := .tuple #[.agg #[.int .i64 0, .int .i64 0], .int .i64 2]) (by simp [results, Try.results58, go_sem, *]) rfl ⟨rfl, ?_⟩
    exact k1_end hk _ _
set_option maxRecDepth 20000 in
set_option maxHeartbeats 2000000 in
theorem above_yes (n m d : Int) (w : World) (h1 : M.okB n m = true) (h2 : denB d = true) :
    Calls Try.prog 58 #[.agg #[.int .i64 n, .int .i64 m], .int .i64 d] w (HiRet w n m d) := by
  obtain ⟨a1, a2, a3, a4⟩ := okB_in h1
  have hg := hide h1
  have hb : Hid (true = denB d) := hide h2.symm
  have HD := hide (den_in h2)
  have HG := hide (And.intro (in64_of a1 a2) (in64_of (by omega : -1000000000 ≤ m) a4))
  have HGC : Hid (Nat.gcd n.natAbs m.natAbs = 1) := hide ((M.okB_iff n m).1 h1).2.2.2.2
  have hk0 := k1_new' w n m
  have HA : Hid ((-1000000000 ≤ n ∧ n ≤ 1000000000) ∧ m ≤ 1000000000) := hide ⟨⟨a1, a2⟩, a4⟩
  clear h1 h2 a1 a2 a3 a4
  by_cases hle : m ≤ d
  · obtain ⟨k1, k2, k3⟩ := M.ok_new hg.out
    have K1' := hide k1
    have K2' := hide k2
    have K3' := hide k3
    have hmd := hide hle; clear hle
    clear k1 k2 k3
    go_enter Try.func58, Try.ntmps58
    go_wp2_with fail
    refine (valid_is n m true _ HG.out.1 HG.out.2 hg).mono ?_
    rintro e w1 ⟨rfl, hb1⟩
    have hk := k1_step hk0 hb1; clear hb1 hk0
    go_wp2_with fail
    refine (isden_any d _ true hb).mono ?_
    rintro e w2 ⟨rfl, rfl⟩
    obtain ⟨⟨c1, c2⟩, _, _⟩ := hk.out
    go_wp2_with fail
    refine (of_b n m _).mono ?_
    rintro e w3 ⟨rfl, hb1⟩
    have hk3 := k1_step hk hb1; clear hb1 hk c1 c2
    go_wp2_with fail
    refine (neighbours_small n m d _ hmd.out).mono ?_
    rintro e w4 ⟨rfl, hb1⟩
    have hk4 := k1_step (k1_step hk3 hb1) (ba (ba (Below.refl _ _) (.cells #[.int .i64 n, .int .i64 m] 78)) (.cells #[.int .i64 n, .int .i64 m] 78)); clear hb1 hk3
    go_wp2_with fail
    refine (reduced_b n m n m 0 _ HG.out.1 HG.out.2 K1' K2' K3').mono ?_
    rintro e w5 ⟨rfl, hb1⟩
    have hk5 := k1_step hk4 hb1; clear hb1 hk4
    obtain ⟨_, ⟨q0, q1, f0, f1⟩, _⟩ := hk5.out
    go_wp2_with fail
    refine bodyPost_ret (v := .tuple #[.agg #[.int .i64 n, .int .i64 m], .int .i64 0]) (by simp [results, Try.results58, go_sem, *]) rfl ⟨n, m, rfl, .inl ⟨hmd.out, rfl, rfl⟩, ?_⟩
    exact k1_end hk5 _ _
  · have hmd : Hid (d < m) := hide (by omega)
    clear hle
    go_enter Try.func58, Try.ntmps58
    go_wp2_with fail
    refine (valid_is n m true _ HG.out.1 HG.out.2 hg).mono ?_
    rintro e w1 ⟨rfl, hb1⟩
    have hk := k1_step hk0 hb1; clear hb1 hk0
    go_wp2_with fail
    refine (isden_any d _ true hb).mono ?_
    rintro e w2 ⟨rfl, rfl⟩
    obtain ⟨⟨c1, c2⟩, _, _⟩ := hk.out
    go_wp2_with fail
    refine (of_b n m _).mono ?_
    rintro e w3 ⟨rfl, hb1⟩
    have hk3 := k1_step hk hb1; clear hb1 hk c1 c2
    go_wp2_with fail
    refine (neighbours_big n m d _ HGC.out hmd.out HA.out.2 HD.out.1 HA.out.1).mono ?_
    rintro e w4 ⟨a, b, c, e', rfl, hnb, hb1⟩
    have HN := hide hnb
    have hok := nb_okhi hmd.out HD.out.2 HA.out.1 hnb
    obtain ⟨v1, v2, v3, v4⟩ := okB_in hok
    have HV := hide (And.intro (in64_of v1 v2) (in64_of (by omega : -1000000000 ≤ e') v4))
    obtain ⟨k1, k2, k3⟩ := M.ok_new hok
    have K1' := hide k1
    have K2' := hide k2
    have K3' := hide k3
    have hk4 := k1_step (k1_step hk3 hb1) (ba (ba (Below.refl _ _) (.cells #[.int .i64 a, .int .i64 b] 78)) (.cells #[.int .i64 c, .int .i64 e'] 78)); clear hb1 hk3 hnb hok v1 v2 v3 v4 k1 k2 k3
    go_wp2_with fail
    refine (reduced_b c e' c e' 0 _ HV.out.1 HV.out.2 K1' K2' K3').mono ?_
    rintro e w5 ⟨rfl, hb1⟩
    have hk5 := k1_step hk4 hb1; clear hb1 hk4
    obtain ⟨_, ⟨q0, q1, f0, f1⟩, _⟩ := hk5.out
    go_wp2_with fail
    refine bodyPost_ret (v := .tuple #[.agg #[.int .i64 c, .int .i64 e'], .int .i64 0]) (by simp [results, Try.results58, go_sem, *]) rfl ⟨c, e', rfl, .inr ⟨hmd.out, a, b, HN.out⟩, ?_⟩
    exact k1_end hk5 _ _
end Go.Proofs.Ytpgnbjlpkpmpcaa
