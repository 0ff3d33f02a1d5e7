import Derived.Test.YtpgnbjlpkpmpcaaDc
import Derived.Deep.QuietTactic
import Derived.BigQuiet
import Derived.BigRegion
set_option linter.unusedVariables false
namespace Go.Proofs.Ytpgnbjlpkpmpcaa
open Go.RowKit
/-- between's variables: two results, two fractions -/
def BS (w0 w : World) (a b c e : Int) : Prop := (((∃ u, w.cell? ⟨w0.heap.size, 0, none⟩ = some u) ∧ (∃ u, w.cell? ⟨w0.heap.size, 1, none⟩ = some u)) ∧ ((∃ u, w.cell? ⟨w0.heap.size + 1, 0, none⟩ = some u) ∧ (∃ u, w.cell? ⟨w0.heap.size + 1, 1, none⟩ = some u)) ∧ (w.cell? ⟨w0.heap.size + 1 + 1, 0, none⟩ = some (.int .i64 a) ∧ w.cell? ⟨w0.heap.size + 1 + 1, 1, none⟩ = some (.int .i64 b)) ∧ (w.cell? ⟨w0.heap.size + 1 + 1 + 1, 0, none⟩ = some (.int .i64 c) ∧ w.cell? ⟨w0.heap.size + 1 + 1 + 1, 1, none⟩ = some (.int .i64 e)))
  ∧ ((w.frozen? ⟨w0.heap.size, 0, none⟩ = false ∧ w.frozen? ⟨w0.heap.size, 1, none⟩ = false) ∧ (w.frozen? ⟨w0.heap.size + 1, 0, none⟩ = false ∧ w.frozen? ⟨w0.heap.size + 1, 1, none⟩ = false) ∧ (w.frozen? ⟨w0.heap.size + 1 + 1, 0, none⟩ = false ∧ w.frozen? ⟨w0.heap.size + 1 + 1, 1, none⟩ = false) ∧ (w.frozen? ⟨w0.heap.size + 1 + 1 + 1, 0, none⟩ = false ∧ w.frozen? ⟨w0.heap.size + 1 + 1 + 1, 1, none⟩ = false)) ∧ Below w0.heap.size w0 w
theorem bs_start (w : World) : Hid (BS w ((((w.alloc (.cells #[.int .i64 0, .int .i64 0] 23)).alloc (.cells #[.int .i64 0, .int .i64 0] 23)).alloc (.cells #[.int .i64 0, .int .i64 1] 23)).alloc (.cells #[.int .i64 1, .int .i64 1] 23)) 0 1 1 1) :=
  hide ⟨⟨⟨⟨.int .i64 0, by simp [go_sem]⟩, ⟨.int .i64 0, by simp [go_sem]⟩⟩, ⟨⟨.int .i64 0, by simp [go_sem]⟩, ⟨.int .i64 0, by simp [go_sem]⟩⟩, ⟨by simp [go_sem], by simp [go_sem]⟩, ⟨by simp [go_sem], by simp [go_sem]⟩⟩, ⟨⟨by simp [go_sem], by simp [go_sem]⟩, ⟨by simp [go_sem], by simp [go_sem]⟩, ⟨by simp [go_sem], by simp [go_sem]⟩, ⟨by simp [go_sem], by simp [go_sem]⟩⟩, ba (ba (ba (ba (Below.refl _ _) _) _) _) _⟩
theorem bs_drewN {w0 w : World} {a b c e : Int} (h : Hid (BS w0 w a b c e)) (k : Nat) : Hid (BS w0 (w.drewN k) a b c e) := by
  obtain ⟨h1, h2, h3⟩ := h.out
  exact hide ⟨h1, h2, ⟨h3.os, h3.tape, h3.output, h3.size, h3.block⟩⟩
theorem other_ex {w : World} {s : Nat} {p : Addr} (h : ∃ u, w.cell? p = some u) (hp : s ≠ p.block) (u1 u2 : Value) : ∃ u, ((w.setCell ⟨s, 0, none⟩ u1).setCell ⟨s, 1, none⟩ u2).cell? p = some u := by
  obtain ⟨u, hu⟩ := h
  exact ⟨u, set2_other hu hp _ _⟩
theorem bs_lo {w0 w : World} {a b c e : Int} (h : Hid (BS w0 w a b c e)) (x y : Int) : Hid (BS w0 ((w.setCell ⟨w0.heap.size + 1 + 1, 0, none⟩ (.int .i64 x)).setCell ⟨w0.heap.size + 1 + 1, 1, none⟩ (.int .i64 y)) x y c e) := by
  obtain ⟨⟨⟨k1, k2⟩, ⟨k3, k4⟩, ⟨c3, c4⟩, ⟨c5, c6⟩⟩, ⟨f1, f2, f3, f4⟩, b⟩ := h.out
  refine hide ⟨⟨⟨other_ex k1 (by simp only []; omega) _ _, other_ex k2 (by simp only []; omega) _ _⟩, ⟨other_ex k3 (by simp only []; omega) _ _, other_ex k4 (by simp only []; omega) _ _⟩, ⟨set2_0 c3 _ _, set2_1 c4 _ _⟩, ⟨set2_other c5 (by simp only []; omega) _ _, set2_other c6 (by simp only []; omega) _ _⟩⟩, ?_, bs (bs b (by simp only []; omega) _) (by simp only []; omega) _⟩
  simp only [fz_set]; exact ⟨f1, f2, f3, f4⟩
theorem bs_hi {w0 w : World} {a b c e : Int} (h : Hid (BS w0 w a b c e)) (x y : Int) : Hid (BS w0 ((w.setCell ⟨w0.heap.size + 1 + 1 + 1, 0, none⟩ (.int .i64 x)).setCell ⟨w0.heap.size + 1 + 1 + 1, 1, none⟩ (.int .i64 y)) a b x y) := by
  obtain ⟨⟨⟨k1, k2⟩, ⟨k3, k4⟩, ⟨c3, c4⟩, ⟨c5, c6⟩⟩, ⟨f1, f2, f3, f4⟩, b⟩ := h.out
  refine hide ⟨⟨⟨other_ex k1 (by simp only []; omega) _ _, other_ex k2 (by simp only []; omega) _ _⟩, ⟨other_ex k3 (by simp only []; omega) _ _, other_ex k4 (by simp only []; omega) _ _⟩, ⟨set2_other c3 (by simp only []; omega) _ _, set2_other c4 (by simp only []; omega) _ _⟩, ⟨set2_0 c5 _ _, set2_1 c6 _ _⟩⟩, ?_, bs (bs b (by simp only []; omega) _) (by simp only []; omega) _⟩
  simp only [fz_set]; exact ⟨f1, f2, f3, f4⟩
/-- the sums of a step, as the walk spells them -/
structure Sums (p q d a b c e X Y : Int) : Prop where
  s1 : IntKind.i64.wrap (b * p) = b * p
  s2 : IntKind.i64.wrap (a * q) = a * q
  s3 : IntKind.i64.wrap (b * p - a * q) = X
  s4 : IntKind.i64.wrap (c * q) = c * q
  s5 : IntKind.i64.wrap (e * p) = e * p
  s6 : IntKind.i64.wrap (c * q - e * p) = Y
  s7 : IntKind.i64.wrap (d - b) = d - b
theorem sums {p q d a b c e : Int} (hp : 0 ≤ p ∧ p ≤ 1000000000) (hq : 0 ≤ q ∧ q ≤ 1000000000) (hd : 0 ≤ d ∧ d ≤ 1000000000) (ha : -1000000000 ≤ a ∧ a ≤ 1000000000) (hb : 0 ≤ b ∧ b ≤ 1000000000) (hc : -1000000000 ≤ c ∧ c ≤ 1000000000) (he : 0 ≤ e ∧ e ≤ 1000000000) : Sums p q d a b c e (b * p - a * q) (c * q - e * p) := by
  obtain ⟨x1, x2⟩ := prod_bd (by omega : -1000000000 ≤ b) hb.2 (by omega : -1000000000 ≤ p) hp.2
  obtain ⟨x3, x4⟩ := prod_bd ha.1 ha.2 (by omega : -1000000000 ≤ q) hq.2
  obtain ⟨x5, x6⟩ := prod_bd hc.1 hc.2 (by omega : -1000000000 ≤ q) hq.2
  obtain ⟨x7, x8⟩ := prod_bd (by omega : -1000000000 ≤ e) he.2 (by omega : -1000000000 ≤ p) hp.2
  exact ⟨IntWalk.i64_in _ (by omega), IntWalk.i64_in _ (by omega), IntWalk.i64_in _ (by omega), IntWalk.i64_in _ (by omega), IntWalk.i64_in _ (by omega), IntWalk.i64_in _ (by omega), IntWalk.i64_in _ (by omega)⟩
theorem quo_is {x y : Int} (h0 : 0 ≤ x) (h1 : x ≤ 1000000000) (h2 : 1 ≤ y) : IntKind.i64.wrap (x.tdiv y) = x / y := by
  rw [Int.tdiv_eq_ediv_of_nonneg h0]
  have a := Int.ediv_nonneg h0 (show 0 ≤ y by omega)
  have b := Int.ediv_le_self (a := x) y h0
  exact IntWalk.i64_in _ (by omega)
theorem min_is (x y : Int) : (if y < x then y else x) = min y x := by rw [Int.min_def]; split <;> split <;> omega
def BRel (w0 : World) (p q d : Int) (g : Nat) (wr : World) : Prop := ∃ a b c e : Int, M.Pr p q d a b c e ∧ g = (d + 1 - (b + e)).toNat ∧ BS w0 wr a b c e
def BetRet (w : World) (p q d : Int) (en : Ending) (w' : World) : Prop := ∃ a b c e : Int, en = .returned (.tuple #[.agg #[.int .i64 a, .int .i64 b], .agg #[.int .i64 c, .int .i64 e]]) ∧ M.Nb p q d a b c e ∧ Below w.heap.size w w'
set_option maxRecDepth 100000 in
set_option maxHeartbeats 4000000 in
theorem between_any (p q d : Int) (w : World) (hg : Nat.gcd p.natAbs q.natAbs = 1) (hq : d < q) (hq2 : q ≤ 1000000000) (hd : 1 ≤ d) (hp : 0 < p) (hpq : p < q) :
    Calls Try.prog 104 #[.int .i64 p, .int .i64 q, .int .i64 d] w (BetRet w p q d) := by
  have HG := hide (And.intro (And.intro hg hq) (And.intro (And.intro hq2 hd) (And.intro hp hpq)))
  have HS : Hid (M.Pr p q d 0 1 1 1) := hide ⟨⟨⟨by omega, by omega⟩, ⟨by omega, by omega⟩⟩, by omega, by omega, by omega⟩
  have HB0 := bs_start w
  clear hg
  go_enter Try.func104, Try.ntmps104
  go_wp2_with fail
  go_loopg [] ((d + 1 - (1 + 1)).toNat) (fun g wr => BRel w p q d g wr)
  case atStart => exact ⟨0, 1, 1, 1, HS.out, rfl, HB0.out⟩
  case round =>
    obtain ⟨a, b, c, e, hpr, hgk, hns⟩ := hrel
    have HP := hide hpr
    have HNS := hide hns
    have HGK := hide hgk
    have hbd := M.pr_bd HG.out.1.2 hpr ⟨by omega, by omega⟩
    obtain ⟨⟨⟨b1, b2⟩, ⟨e1, e2⟩⟩, dt, l1, l2⟩ := hpr
    obtain ⟨⟨ba1, ba2⟩, ⟨bc1, bc2⟩, bX, bY⟩ := hbd
    obtain ⟨k, hk⟩ : ∃ k, k = min ((d - b) / e) ((p * b - a * q) / (c * q - p * e)) := ⟨_, rfl⟩
    obtain ⟨a', ha'⟩ : ∃ x, x = a + k * c := ⟨_, rfl⟩
    obtain ⟨b', hb'⟩ : ∃ x, x = b + k * e := ⟨_, rfl⟩
    obtain ⟨k', hk'⟩ : ∃ x, x = min ((d - e) / b') ((c * q - p * e) / (p * b' - a' * q)) := ⟨_, rfl⟩
    obtain ⟨c', hc'⟩ : ∃ x, x = c + k' * a' := ⟨_, rfl⟩
    obtain ⟨e', he'⟩ : ∃ x, x = e + k' * b' := ⟨_, rfl⟩
    obtain ⟨t1, P1, t2, _⟩ := M.Pr.step HG.out.1.1 hq HP.out hk
    rw [← ha', ← hb'] at P1
    obtain ⟨t3, P2, t4, _⟩ := M.Pr.up HG.out.1.1 hq P1 hk'
    rw [← hc', ← he'] at P2
    have q1 := M.pr_bd hq P1 ⟨by omega, by omega⟩
    have q2 := M.pr_bd hq P2 ⟨by omega, by omega⟩
    obtain ⟨⟨⟨p1, p2⟩, _⟩, _, p3, p4⟩ := id P1
    obtain ⟨⟨_, ⟨p5, p6⟩⟩, _⟩ := id P2
    have S1 := sums (p := p) (q := q) (d := d) (a := a) (b := b) (c := c) (e := e) ⟨by omega, by omega⟩ ⟨by omega, by omega⟩ ⟨by omega, by omega⟩ ⟨ba1, ba2⟩ ⟨by omega, by omega⟩ ⟨bc1, bc2⟩ ⟨by omega, by omega⟩
    obtain ⟨X, hX⟩ : ∃ X, X = b * p - a * q := ⟨_, rfl⟩
    obtain ⟨Y, hY⟩ : ∃ Y, Y = c * q - e * p := ⟨_, rfl⟩
    rw [← hX, ← hY] at S1
    have cb : b * p = p * b := Int.mul_comm _ _
    have ce : e * p = p * e := Int.mul_comm _ _
    have w1 : IntKind.i64.wrap (X.tdiv Y) = X / Y := quo_is (by omega) (by omega) (by omega)
    have w2 : IntKind.i64.wrap ((d - b).tdiv e) = (d - b) / e := quo_is (by omega) (by omega) (by omega)
    have w3 : IntKind.i64.wrap (d - e) = d - e := IntWalk.i64_in _ (by omega)
    have S2 := sums (p := p) (q := q) (d := d) (a := a') (b := b') (c := c) (e := e) ⟨by omega, by omega⟩ ⟨by omega, by omega⟩ ⟨by omega, by omega⟩ q1.1 ⟨by omega, by omega⟩ ⟨bc1, bc2⟩ ⟨by omega, by omega⟩
    obtain ⟨X', hX'⟩ : ∃ X, X = b' * p - a' * q := ⟨_, rfl⟩
    rw [← hX', ← hY] at S2
    have cb' : b' * p = p * b' := Int.mul_comm _ _
    have w4 : IntKind.i64.wrap (Y.tdiv X') = Y / X' := quo_is (by omega) (by omega) (by omega)
    have w5 : IntKind.i64.wrap ((d - e).tdiv b') = (d - e) / b' := quo_is (by omega) (by omega) (by omega)
    have HK : Hid ((if (d - b) / e < X / Y then (d - b) / e else X / Y) = k) := hide (by rw [min_is, hk, hX, hY, cb, ce])
    have HK' : Hid ((if (d - e) / b' < Y / X' then (d - e) / b' else Y / X') = k') := hide (by rw [min_is, hk', hX', hY, cb', ce])
    have hbig : b + e ≤ d → b + e < b' + e' := fun hs => (M.Pr.round HG.out.1.1 hq HP.out hs hk ha' hb' hk' hc' he').2.2.2.2
    have hzero : ¬ b + e ≤ d → k = 0 ∧ k' = 0 := fun hs => by
      have z1 : (d - b) / e = 0 := Int.ediv_eq_zero_of_lt (by omega) (by omega)
      have z2 := Int.ediv_nonneg (a := p * b - a * q) (b := c * q - p * e) (by omega) (by omega)
      have k0 : k = 0 := by rw [hk, z1]; omega
      have eb : b' = b := by rw [hb', k0]; omega
      have ea : a' = a := by rw [ha', k0]; omega
      have z3 : (d - e) / b' = 0 := Int.ediv_eq_zero_of_lt (by omega) (by omega)
      have z4 := Int.ediv_nonneg (a := c * q - p * e) (b := p * b' - a' * q) (by omega) (by omega)
      exact ⟨k0, by rw [hk', z3]; omega⟩
    have HEND : Hid ((k = 0 ∧ k' = 0 → M.Nb p q d a' b' c' e') ∧ (¬ (k = 0 ∧ k' = 0) → (d + 1 - (b' + e')).toNat < gk)) := hide ⟨fun hz => by
      obtain ⟨k0, k0'⟩ := hz
      have eb : b' = b := by rw [hb', k0]; omega
      have ea : a' = a := by rw [ha', k0]; omega
      have ec : c' = c := by rw [hc', k0']; omega
      have ee : e' = e := by rw [he', k0']; omega
      rw [ea, eb, ec, ee]
      refine ⟨⟨⟨b1, b2⟩, ⟨e1, e2⟩⟩, ?_, dt, l1, l2⟩
      have h1 : ¬ b + e ≤ d := fun hs => by have := hbig hs; omega
      omega, fun hz => by
      have h1 : b + e ≤ d := by
        rcases Int.lt_or_le d (b + e) with h | h
        · exact absurd (hzero (by omega)) hz
        · exact h
      have := hbig h1
      rw [HGK.out]; omega⟩
    have HA := hide ha'
    have HB := hide hb'
    have HC := hide hc'
    have HE := hide he'
    have HP2 := hide P2
    have kb1 : k ≤ 1000000000 := by have := M.mul_ge (b := k) (x := e) t1 e1; omega
    have kb2 : k' ≤ 1000000000 := by have := M.mul_ge (b := k') (x := b') t3 p1; omega
    obtain ⟨u1, u2⟩ := q1.1
    obtain ⟨u3, u4⟩ := q2.2.1
    have u5 : -2000000000 ≤ k * c ∧ k * c ≤ 2000000000 := by omega
    have u6 : -2000000000 ≤ k' * a' ∧ k' * a' ≤ 2000000000 := by omega
    have u7 : 0 ≤ k * e := Int.mul_nonneg t1 (by omega)
    have u8 : 0 ≤ k' * b' := Int.mul_nonneg t3 (by omega)
    have u9 : -1000000000 ≤ a + k * c ∧ a + k * c ≤ 1000000000 := by rw [← ha']; exact q1.1
    have u10 : -1000000000 ≤ c + k' * a' ∧ c + k' * a' ≤ 1000000000 := by rw [← hc']; exact q2.2.1
    have u11 : b + k * e ≤ d := by rw [← hb']; exact p2
    have u12 : e + k' * b' ≤ d := by rw [← he']; exact p6
    obtain ⟨u5, u5'⟩ := u5
    obtain ⟨u6, u6'⟩ := u6
    obtain ⟨u9, u9'⟩ := u9
    obtain ⟨u10, u10'⟩ := u10
    have n1 : ¬ e = 0 := by omega
    have n2 : ¬ Y = 0 := by omega
    have n3 : ¬ b' = 0 := by omega
    have n4 : ¬ X' = 0 := by omega
    have n1' : (e == 0) = false := by simpa using n1
    have n2' : (Y == 0) = false := by simpa using n2
    have n3' : (b' == 0) = false := by simpa using n3
    have n4' : (X' == 0) = false := by simpa using n4
    obtain ⟨s1, s2, s3, s4, s5, s6, s7⟩ := S1
    have S2 := hide S2
    have W45 := hide (And.intro w3 (And.intro w4 w5))
    clear w3 w4 w5 hbig hzero hk ha' hb' hk' hc' he' hX hY hX' cb ce cb' P1 P2 q1 q2 hgk hns dt l1 l2 bX bY p3 p4 t2 t4
    obtain ⟨⟨⟨⟨x0, g0⟩, ⟨x1, g1⟩⟩, ⟨⟨x2, g2⟩, ⟨x3, g3⟩⟩, ⟨c3, c4⟩, ⟨c5, c6⟩⟩, ⟨⟨z1, z2⟩, ⟨z3, z4⟩, ⟨z5, z6⟩, ⟨z7, z8⟩⟩, _⟩ := HNS.out
    go_wp2_with fail
    go_quiet (fail)
    rw [HK.out]
    clear s1 s2 s3 s4 s5 s6 s7 w1 w2
    go_wp2_with fail
    rw [← HA.out, ← HB.out]
    obtain ⟨s1, s2, s3, s4, s5, s6, s7⟩ := S2.out
    obtain ⟨w3, w4, w5⟩ := W45.out
    go_quiet (fail)
    rw [HK'.out]
    clear s1 s2 s3 s4 s5 s6 s7 w3 w4 w5
    by_cases hk0 : k = 0
    · have e1 : (k == 0) = true := by simpa using hk0
      by_cases hk0' : k' = 0
      · have e2 : (k' == 0) = true := by simpa using hk0'
        have HNB := hide (HEND.out.1 ⟨hk0, hk0'⟩)
        clear hk0 hk0'
        go_wp2_with fail
        rw [← HC.out, ← HE.out]
        go_region
        go_wp2_with fail
        refine bodyPost_ret (v := .tuple #[.agg #[.int .i64 a', .int .i64 b'], .agg #[.int .i64 c', .int .i64 e']]) (by simp [results, Try.results104, go_sem, *]) rfl ⟨a', b', c', e', rfl, HNB.out, ?_⟩
        exact (bs (bs (bs (bs (bs_hi (bs_drewN (bs_lo (bs_drewN HNS _) a' b') _) c' e').out.2.2 (by simp only []; omega) _) (by simp only []; omega) _) (by simp only []; omega) _) (by simp only []; omega) _).drew
      · have e2 : (k' == 0) = false := by simpa using hk0'
        have HM := hide (HEND.out.2 (fun c => hk0' c.2))
        clear hk0 hk0'
        go_wp2_with fail
        rw [← HC.out, ← HE.out]
        go_roundg ((d + 1 - (b' + e')).toNat)
        case measure => exact HM.out
        case rel => exact ⟨a', b', c', e', HP2.out, rfl, (bs_hi (bs_drewN (bs_lo (bs_drewN HNS _) a' b') _) c' e').out⟩
    · have e1 : (k == 0) = false := by simpa using hk0
      have HM := hide (HEND.out.2 (fun c => hk0 c.1))
      clear hk0
      go_wp2_with fail
      rw [← HC.out, ← HE.out]
      go_roundg ((d + 1 - (b' + e')).toNat)
      case measure => exact HM.out
      case rel => exact ⟨a', b', c', e', HP2.out, rfl, (bs_hi (bs_drewN (bs_lo (bs_drewN HNS _) a' b') _) c' e').out⟩
end Go.Proofs.Ytpgnbjlpkpmpcaa
