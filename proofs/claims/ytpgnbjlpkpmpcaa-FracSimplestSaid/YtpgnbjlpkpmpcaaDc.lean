import Derived.Test.YtpgnbjlpkpmpcaaDb
import Derived.Test.YtpgnbjlpkpmpcaaZq
import Derived.Deep.DeepCutAuto
import Derived.Deep.LoopGhost
import Derived.BigRegion
set_option linter.unusedVariables false
namespace Go.Proofs.Ytpgnbjlpkpmpcaa
open Go.RowKit
theorem toward_is (n m a b c e d k x y : Int) (w : World) (H : Hid (((1 ≤ m ∧ m ≤ 1000000000) ∧ (-1000000000 ≤ n ∧ n ≤ 1000000000)) ∧ (((1 ≤ b ∧ b ≤ d) ∧ (1 ≤ e ∧ e ≤ d)) ∧ d ≤ 1000000000) ∧ ((-1000000000 ≤ a ∧ a ≤ 1000000000) ∧ (-1000000000 ≤ c ∧ c ≤ 1000000000)) ∧ ((((a * m - n * b).natAbs : Int) ≤ m) ∧ 1 ≤ ((c * m - n * e).natAbs : Int) ∧ ((c * m - n * e).natAbs : Int) ≤ m)
      ∧ (k = min ((d - b) / e) (((a * m - n * b).natAbs : Int) / ((c * m - n * e).natAbs : Int)) ∧ 0 ≤ k ∧ k * e ≤ d) ∧ ((x = a + k * c ∧ -1000000000 ≤ x ∧ x ≤ 1000000000) ∧ (y = b + k * e ∧ y ≤ d)))) :
    Calls Try.prog 120 #[.agg #[.int .i64 a, .int .i64 b], .agg #[.int .i64 c, .int .i64 e], .agg #[.int .i64 n, .int .i64 m], .int .i64 d] w fun e w' => e = .returned (.agg #[.int .i64 x, .int .i64 y]) ∧ Below w.heap.size w w' := by
  obtain ⟨⟨h1, h2⟩, ⟨⟨h3, h4⟩, h5⟩, ⟨h6, h7⟩, ⟨h8, h9, h10⟩, ⟨h11, h12, h13⟩, ⟨⟨h14, h15⟩, ⟨h16, h17⟩⟩⟩ := H.out
  exact toward_any n m a b c e d _ _ k x y w h1 h2 h3 h4 h5 h6 h7 (hide rfl) (hide rfl) (by omega) h8 h9 h10 (hide h11) h12 h13 (hide h14) h15 (hide h16) h17
/-- neighbours' variables -/
def NS (w0 w : World) (n m a b c e : Int) : Prop := ((w.cell? ⟨w0.heap.size, 0, none⟩ = some (.int .i64 n) ∧ w.cell? ⟨w0.heap.size, 1, none⟩ = some (.int .i64 m)) ∧ (w.cell? ⟨w0.heap.size + 1, 0, none⟩ = some (.int .i64 a) ∧ w.cell? ⟨w0.heap.size + 1, 1, none⟩ = some (.int .i64 b)) ∧ (w.cell? ⟨w0.heap.size + 1 + 1, 0, none⟩ = some (.int .i64 c) ∧ w.cell? ⟨w0.heap.size + 1 + 1, 1, none⟩ = some (.int .i64 e))) ∧ ((w.frozen? ⟨w0.heap.size + 1, 0, none⟩ = false ∧ w.frozen? ⟨w0.heap.size + 1, 1, none⟩ = false) ∧ (w.frozen? ⟨w0.heap.size + 1 + 1, 0, none⟩ = false ∧ w.frozen? ⟨w0.heap.size + 1 + 1, 1, none⟩ = false)) ∧ Below w0.heap.size w0 w
theorem ns_step {w0 w w' : World} {n m a b c e : Int} (h : Hid (NS w0 w n m a b c e)) (hb : Below w.heap.size w w') : Hid (NS w0 w' n m a b c e) := by
  obtain ⟨⟨⟨c1, c2⟩, ⟨c3, c4⟩, ⟨c5, c6⟩⟩, ⟨⟨f1, f2⟩, ⟨f3, f4⟩⟩, b⟩ := h.out
  exact hide ⟨⟨⟨kc hb c1, kc hb c2⟩, ⟨kc hb c3, kc hb c4⟩, ⟨kc hb c5, kc hb c6⟩⟩, ⟨⟨kf hb c3 f1, kf hb c4 f2⟩, ⟨kf hb c5 f3, kf hb c6 f4⟩⟩, bt b hb⟩
theorem set2_other {w : World} {s : Nat} {p : Addr} {v : Value} (h : w.cell? p = some v) (hp : s ≠ p.block) (u1 u2 : Value) : ((w.setCell ⟨s, 0, none⟩ u1).setCell ⟨s, 1, none⟩ u2).cell? p = some v := by
  have n0 : (⟨s, 0, none⟩ : Addr) ≠ p := by intro e; exact hp (by rw [← e])
  have n1 : (⟨s, 1, none⟩ : Addr) ≠ p := by intro e; exact hp (by rw [← e])
  rw [World.cell?_setCell_other (h := n1), World.cell?_setCell_other (h := n0)]; exact h
theorem set2_0 {w : World} {s : Nat} {v : Value} (h : w.cell? ⟨s, 0, none⟩ = some v) (u1 u2 : Value) : ((w.setCell ⟨s, 0, none⟩ u1).setCell ⟨s, 1, none⟩ u2).cell? ⟨s, 0, none⟩ = some u1 := by
  rw [World.cell?_setCell_other (h := by simp)]; exact World.cell?_setCell_same w _ u1 h
theorem set2_1 {w : World} {s : Nat} {v : Value} (h : w.cell? ⟨s, 1, none⟩ = some v) (u1 u2 : Value) : ((w.setCell ⟨s, 0, none⟩ u1).setCell ⟨s, 1, none⟩ u2).cell? ⟨s, 1, none⟩ = some u2 :=
  World.cell?_setCell_same _ _ u2 (by rw [World.cell?_setCell_other (h := by simp)]; exact h)
theorem fz_set (w : World) (a b : Addr) (u : Value) : (w.setCell a u).frozen? b = w.frozen? b := by simp [go_sem]
theorem ns_lo {w0 w : World} {n m a b c e : Int} (h : Hid (NS w0 w n m a b c e)) (x y : Int) : Hid (NS w0 ((w.setCell ⟨w0.heap.size + 1, 0, none⟩ (.int .i64 x)).setCell ⟨w0.heap.size + 1, 1, none⟩ (.int .i64 y)) n m x y c e) := by
  obtain ⟨⟨⟨c1, c2⟩, ⟨c3, c4⟩, ⟨c5, c6⟩⟩, ⟨⟨f1, f2⟩, ⟨f3, f4⟩⟩, b⟩ := h.out
  refine hide ⟨⟨⟨set2_other c1 (by simp only []; omega) _ _, set2_other c2 (by simp only []; omega) _ _⟩, ⟨set2_0 c3 _ _, set2_1 c4 _ _⟩, ⟨set2_other c5 (by simp only []; omega) _ _, set2_other c6 (by simp only []; omega) _ _⟩⟩, ?_, bs (bs b (by simp only []; omega) _) (by simp only []; omega) _⟩
  simp only [fz_set]; exact ⟨⟨f1, f2⟩, ⟨f3, f4⟩⟩
theorem ns_hi {w0 w : World} {n m a b c e : Int} (h : Hid (NS w0 w n m a b c e)) (x y : Int) : Hid (NS w0 ((w.setCell ⟨w0.heap.size + 1 + 1, 0, none⟩ (.int .i64 x)).setCell ⟨w0.heap.size + 1 + 1, 1, none⟩ (.int .i64 y)) n m a b x y) := by
  obtain ⟨⟨⟨c1, c2⟩, ⟨c3, c4⟩, ⟨c5, c6⟩⟩, ⟨⟨f1, f2⟩, ⟨f3, f4⟩⟩, b⟩ := h.out
  refine hide ⟨⟨⟨set2_other c1 (by simp only []; omega) _ _, set2_other c2 (by simp only []; omega) _ _⟩, ⟨set2_other c3 (by simp only []; omega) _ _, set2_other c4 (by simp only []; omega) _ _⟩, ⟨set2_0 c5 _ _, set2_1 c6 _ _⟩⟩, ?_, bs (bs b (by simp only []; omega) _) (by simp only []; omega) _⟩
  simp only [fz_set]; exact ⟨⟨f1, f2⟩, ⟨f3, f4⟩⟩
theorem ns_start (w : World) (n m : Int) : Hid (NS w (((w.alloc (.cells #[.int .i64 n, .int .i64 m] 78)).alloc (.cells #[.int .i64 0, .int .i64 0] 78)).alloc (.cells #[.int .i64 0, .int .i64 0] 78)) n m 0 0 0 0) :=
  hide ⟨⟨⟨by simp [go_sem], by simp [go_sem]⟩, ⟨by simp [go_sem], by simp [go_sem]⟩, ⟨by simp [go_sem], by simp [go_sem]⟩⟩, ⟨⟨by simp [go_sem], by simp [go_sem]⟩, ⟨by simp [go_sem], by simp [go_sem]⟩⟩, ba (ba (ba (Below.refl _ _) _) _) _⟩
/-- the loop's relation -/
def NRel (w0 : World) (n m d : Int) (g : Nat) (wr : World) : Prop := ∃ a b c e : Int, M.Pr n m d a b c e ∧ g = (d + 1 - (b + e)).toNat ∧ NS w0 wr n m a b c e
/-- neighbours' results -/
def NbRet (w : World) (n m d : Int) (en : Ending) (w' : World) : Prop := ∃ a b c e : Int, en = .returned (.tuple #[.agg #[.int .i64 a, .int .i64 b], .agg #[.int .i64 c, .int .i64 e]]) ∧ M.Nb n m d a b c e ∧ Below w.heap.size w w'
set_option maxRecDepth 20000 in
set_option maxHeartbeats 4000000 in
theorem neighbours_big (n m d : Int) (w : World) (hg : Nat.gcd n.natAbs m.natAbs = 1) (hm : d < m) (hm2 : m ≤ 1000000000) (hd : 1 ≤ d) (hn : -1000000000 ≤ n ∧ n ≤ 1000000000) :
    Calls Try.prog 102 #[.agg #[.int .i64 n, .int .i64 m], .int .i64 d] w (NbRet w n m d) := by
  have HG := hide (And.intro (And.intro hg hm) (And.intro (And.intro hm2 hd) hn))
  obtain ⟨f, hf⟩ : ∃ f, Hid (f = n / m) := ⟨_, rfl⟩
  have HS : Hid (M.Pr n m d f 1 (f + 1) 1) := hide (by rw [hf.out]; exact M.pr_start hg hm hd)
  have hfb : -1000000000 ≤ f ∧ f ≤ 1000000000 := (M.pr_bd hm HS.out hn).1
  have HF : ∀ w, Calls Try.prog 97 #[.agg #[.int .i64 n, .int .i64 m]] w fun e w' => e = .returned (.int .i64 f) ∧ Below w.heap.size w w' := by
    rw [hf.out]; exact fun w => floor_any n m w (by omega) (by omega) (by omega) (by omega)
  have HF' := hide HF; clear HF
  have HN := ns_start w n m
  obtain ⟨f1, f2⟩ := hfb
  clear hg hn
  go_enter Try.func102, Try.ntmps102
  go_wp2_with fail
  refine (HF'.out _).mono ?_
  rintro en w1 ⟨rfl, hb⟩
  have HN1 := ns_step HN hb
  clear hb HN
  obtain ⟨⟨⟨c1, c2⟩, ⟨c3, c4⟩, ⟨c5, c6⟩⟩, ⟨⟨z1, z2⟩, ⟨z3, z4⟩⟩, _⟩ := HN1.out
  go_wp2_with fail
  have HN2 := ns_hi (ns_lo HN1 f 1) (f + 1) 1
  clear c1 c2 c3 c4 c5 c6 z1 z2 z3 z4 HN1
  go_loopg [] ((d + 1 - (1 + 1)).toNat) (fun g wr => NRel w n m d g wr)
  case atStart => exact ⟨f, 1, f + 1, 1, HS.out, rfl, HN2.out⟩
  case round =>
    obtain ⟨a, b, c, e, hp, hgk, hns⟩ := hrel
    have HP := hide hp
    have HNS := hide hns
    have HGK := hide hgk
    have hbd := M.pr_bd HG.out.1.2 hp HG.out.2.2
    obtain ⟨⟨⟨b1, b2⟩, ⟨e1, e2⟩⟩, dt, l1, l2⟩ := hp
    obtain ⟨⟨ba1, ba2⟩, ⟨bc1, bc2⟩, bX, bY⟩ := hbd
    have hX : (((a * m - n * b).natAbs : Nat) : Int) = n * b - a * m := by omega
    have hY : (((c * m - n * e).natAbs : Nat) : Int) = c * m - n * e := by omega
    by_cases hs : b + e ≤ d
    · obtain ⟨k, hk⟩ : ∃ k, k = min ((d - b) / e) ((n * b - a * m) / (c * m - n * e)) := ⟨_, rfl⟩
      obtain ⟨a', ha'⟩ : ∃ x, x = a + k * c := ⟨_, rfl⟩
      obtain ⟨b', hb'⟩ : ∃ x, x = b + k * e := ⟨_, rfl⟩
      obtain ⟨k', hk'⟩ : ∃ x, x = min ((d - e) / b') ((c * m - n * e) / (n * b' - a' * m)) := ⟨_, rfl⟩
      obtain ⟨c', hc'⟩ : ∃ x, x = c + k' * a' := ⟨_, rfl⟩
      obtain ⟨e', he'⟩ : ∃ x, x = e + k' * b' := ⟨_, rfl⟩
      obtain ⟨P1, P2, ⟨t1, t2⟩, ⟨t3, t4⟩, t5⟩ := M.Pr.round HG.out.1.1 hm HP.out hs hk ha' hb' hk' hc' he'
      have q1 := M.pr_bd hm P1 HG.out.2.2
      have q2 := M.pr_bd hm P2 HG.out.2.2
      have HP2 := hide P2
      have HT5 := hide (And.intro hs t5)
      obtain ⟨⟨⟨p1, p2⟩, _⟩, _, p3, _⟩ := P1
      obtain ⟨⟨_, ⟨p5, p6⟩⟩, _⟩ := P2
      have hX' : (((a' * m - n * b').natAbs : Nat) : Int) = n * b' - a' * m := by omega
      have H1 : Hid (((1 ≤ m ∧ m ≤ 1000000000) ∧ (-1000000000 ≤ n ∧ n ≤ 1000000000)) ∧ (((1 ≤ b ∧ b ≤ d) ∧ (1 ≤ e ∧ e ≤ d)) ∧ d ≤ 1000000000) ∧ ((-1000000000 ≤ a ∧ a ≤ 1000000000) ∧ (-1000000000 ≤ c ∧ c ≤ 1000000000)) ∧ ((((a * m - n * b).natAbs : Int) ≤ m) ∧ 1 ≤ ((c * m - n * e).natAbs : Int) ∧ ((c * m - n * e).natAbs : Int) ≤ m)
          ∧ (k = min ((d - b) / e) (((a * m - n * b).natAbs : Int) / ((c * m - n * e).natAbs : Int)) ∧ 0 ≤ k ∧ k * e ≤ d) ∧ ((a' = a + k * c ∧ -1000000000 ≤ a' ∧ a' ≤ 1000000000) ∧ (b' = b + k * e ∧ b' ≤ d))) :=
        hide ⟨⟨⟨by omega, hm2⟩, HG.out.2.2⟩, ⟨⟨⟨b1, b2⟩, ⟨e1, e2⟩⟩, by omega⟩, ⟨⟨ba1, ba2⟩, ⟨bc1, bc2⟩⟩, ⟨by omega, by omega, by omega⟩, ⟨by rw [hX, hY]; exact hk, t1, t2⟩, ⟨⟨ha', q1.1⟩, ⟨hb', p2⟩⟩⟩
      have H2 : Hid (((1 ≤ m ∧ m ≤ 1000000000) ∧ (-1000000000 ≤ n ∧ n ≤ 1000000000)) ∧ (((1 ≤ e ∧ e ≤ d) ∧ (1 ≤ b' ∧ b' ≤ d)) ∧ d ≤ 1000000000) ∧ ((-1000000000 ≤ c ∧ c ≤ 1000000000) ∧ (-1000000000 ≤ a' ∧ a' ≤ 1000000000)) ∧ ((((c * m - n * e).natAbs : Int) ≤ m) ∧ 1 ≤ ((a' * m - n * b').natAbs : Int) ∧ ((a' * m - n * b').natAbs : Int) ≤ m)
          ∧ (k' = min ((d - e) / b') (((c * m - n * e).natAbs : Int) / ((a' * m - n * b').natAbs : Int)) ∧ 0 ≤ k' ∧ k' * b' ≤ d) ∧ ((c' = c + k' * a' ∧ -1000000000 ≤ c' ∧ c' ≤ 1000000000) ∧ (e' = e + k' * b' ∧ e' ≤ d))) :=
        hide ⟨⟨⟨by omega, hm2⟩, HG.out.2.2⟩, ⟨⟨⟨e1, e2⟩, ⟨p1, p2⟩⟩, by omega⟩, ⟨⟨bc1, bc2⟩, q1.1⟩, ⟨by omega, by omega, by have := q1.2.2.1; omega⟩, ⟨by rw [hX', hY]; exact hk', t3, t4⟩, ⟨⟨hc', q2.2.1⟩, ⟨he', p6⟩⟩⟩
      clear hk ha' hb' hk' hc' he' hX hY hX' t1 t2 t3 t4 t5 q1 q2 p3 hgk hns
      obtain ⟨⟨⟨c1, c2⟩, ⟨c3, c4⟩, ⟨c5, c6⟩⟩, ⟨⟨z1, z2⟩, ⟨z3, z4⟩⟩, _⟩ := HNS.out
      go_wp2_with fail
      refine (toward_is n m a b c e d k a' b' _ H1).mono ?_
      rintro en w2 ⟨rfl, hb⟩
      have HN3 := ns_step HNS hb
      clear hb c1 c2 c3 c4 c5 c6 z1 z2 z3 z4
      obtain ⟨⟨⟨c1, c2⟩, ⟨c3, c4⟩, ⟨c5, c6⟩⟩, ⟨⟨z1, z2⟩, ⟨z3, z4⟩⟩, _⟩ := HN3.out
      go_wp2_with fail
      refine (toward_is n m c e a' b' d k' c' e' _ H2).mono ?_
      rintro en w3 ⟨rfl, hb⟩
      have HN4 := ns_step (ns_lo HN3 a' b') hb
      clear hb c1 c2 c3 c4 c5 c6 z1 z2 z3 z4
      obtain ⟨⟨⟨c1, c2⟩, ⟨c3, c4⟩, ⟨c5, c6⟩⟩, ⟨⟨z1, z2⟩, ⟨z3, z4⟩⟩, _⟩ := HN4.out
      go_wp2_with fail
      go_roundg ((d + 1 - (b' + e')).toNat)
      case measure => rw [HGK.out]; obtain ⟨v1, v2⟩ := HT5.out; omega
      case rel => exact ⟨a', b', c', e', HP2.out, rfl, (ns_hi HN4 c' e').out⟩
    · have HX : Hid (M.Nb n m d a b c e) := hide ⟨⟨⟨b1, b2⟩, ⟨e1, e2⟩⟩, by omega, dt, l1, l2⟩
      clear hgk hns hX hY dt l1 l2 bX bY
      obtain ⟨⟨⟨c1, c2⟩, ⟨c3, c4⟩, ⟨c5, c6⟩⟩, ⟨⟨z1, z2⟩, ⟨z3, z4⟩⟩, _⟩ := HNS.out
      go_wp2_with fail
      go_region
      have HB0 := hide (ns_hi (ns_lo HNS a b) c e).out.2.2.drew
      go_wp2_with fail
      refine bodyPost_ret (v := .tuple #[.agg #[.int .i64 a, .int .i64 b], .agg #[.int .i64 c, .int .i64 e]]) (by simp [results, Try.results102, go_sem, *]) rfl ⟨a, b, c, e, rfl, HX.out, HB0.out⟩
set_option maxRecDepth 20000 in
set_option maxHeartbeats 1000000 in
theorem neighbours_small (n m d : Int) (w : World) (hm : m ≤ d) :
    Calls Try.prog 102 #[.agg #[.int .i64 n, .int .i64 m], .int .i64 d] w fun e w' => e = .returned (.tuple #[.agg #[.int .i64 n, .int .i64 m], .agg #[.int .i64 n, .int .i64 m]]) ∧ Below w.heap.size w w' := by
  go_enter Try.func102, Try.ntmps102
  go_wp2_with fail
  go_region
  go_wp2_with fail
  have hbl := (ba (ba (ba (Below.refl w.heap.size w) (.cells #[.int .i64 n, .int .i64 m] 78)) (.cells #[.int .i64 n, .int .i64 m] 78)) (.cells #[.int .i64 n, .int .i64 m] 78)).drew
  exact bodyPost_ret (v := .tuple #[.agg #[.int .i64 n, .int .i64 m], .agg #[.int .i64 n, .int .i64 m]]) (by simp [results, Try.results102, go_sem]) rfl ⟨rfl, hbl⟩
end Go.Proofs.Ytpgnbjlpkpmpcaa
