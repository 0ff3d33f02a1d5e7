import Derived.Test.YtpgnbjlpkpmpcaaDd
import Derived.Test.YtpgnbjlpkpmpcaaG
set_option linter.unusedVariables false
namespace Go.Proofs.Ytpgnbjlpkpmpcaa
open Go.RowKit
/-- the nearer one -/
def Nr (n m d x y : Int) : Prop := ∃ a b c e : Int, (Lo n m d a b ∧ Hi n m d c e) ∧ (if 0 < n * (2 * (b * e)) - (a * e + c * b) * m then x = c ∧ y = e else x = a ∧ y = b)
def NrRet (w : World) (n m d : Int) (en : Ending) (w' : World) : Prop := ∃ x y : Int, en = .returned (.tuple #[.agg #[.int .i64 x, .int .i64 y], .int .i64 0]) ∧ Nr n m d x y ∧ Below w.heap.size w w'
def Fy (w : World) (s : Nat) (x y : Int) : Prop := w.cell? ⟨s, 0, none⟩ = some (.int .i64 x) ∧ w.cell? ⟨s, 1, none⟩ = some (.int .i64 y) ∧ s < w.heap.size
theorem fy_step {w w' : World} {s : Nat} {x y : Int} (h : Hid (Fy w s x y)) (hb : Below w.heap.size w w') : Hid (Fy w' s x y) :=
  hide ⟨kc hb h.out.1, kc hb h.out.2.1, Nat.lt_of_lt_of_le h.out.2.2 hb.size⟩
theorem fy_drew {w : World} {s : Nat} {x y : Int} (h : Hid (Fy w s x y)) : Hid (Fy w.drew s x y) := h
theorem fy_new (w : World) (x y : Int) (t : TypeId) : Hid (Fy (w.alloc (.cells #[.int .i64 x, .int .i64 y] t)) w.heap.size x y) := hide ⟨by simp [go_sem], by simp [go_sem], by simp⟩
theorem half_b (n d x : Int) (w : World) (h1 : In64 (2 * d)) (hx : Hid (x = 2 * d)) :
    Calls Try.prog 103 #[.agg #[.int .i64 n, .int .i64 d]] w fun e w' => e = .returned (.agg #[.int .i64 n, .int .i64 x]) ∧ Below w.heap.size w w' :=
  (half_any n d w h1).mono fun _ _ ⟨a, b⟩ => ⟨by rw [a, hx.out], b ▸ ba (ba (Below.refl _ _) _) _⟩
theorem lo_ok {n m d a b : Int} (h1 : M.okB n m = true) (h2 : denB d = true) (h : Lo n m d a b) : M.okB a b = true := by
  obtain ⟨a1, a2, a3, a4⟩ := okB_in h1
  rcases h with ⟨_, rfl, rfl⟩ | ⟨k, c, e, hn⟩
  · exact h1
  · exact nb_oklo k (den_in h2).2 ⟨a1, a2⟩ hn
theorem hi_ok {n m d a b : Int} (h1 : M.okB n m = true) (h2 : denB d = true) (h : Hi n m d a b) : M.okB a b = true := by
  obtain ⟨a1, a2, a3, a4⟩ := okB_in h1
  rcases h with ⟨_, rfl, rfl⟩ | ⟨k, c, e, hn⟩
  · exact h1
  · exact nb_okhi k (den_in h2).2 ⟨a1, a2⟩ hn
theorem neighbours_any (n m d : Int) (w : World) (h1 : M.okB n m = true) (h2 : denB d = true) :
    Calls Try.prog 102 #[.agg #[.int .i64 n, .int .i64 m], .int .i64 d] w fun en w' => ∃ a b c e : Int, en = .returned (.tuple #[.agg #[.int .i64 a, .int .i64 b], .agg #[.int .i64 c, .int .i64 e]]) ∧ (Lo n m d a b ∧ Hi n m d c e) ∧ Below w.heap.size w w' := by
  obtain ⟨a1, a2, a3, a4⟩ := okB_in h1
  obtain ⟨d1, d2⟩ := den_in h2
  by_cases hle : m ≤ d
  · exact (neighbours_small n m d w hle).mono fun en w' ⟨h, b⟩ => ⟨n, m, n, m, h, ⟨.inl ⟨hle, rfl, rfl⟩, .inl ⟨hle, rfl, rfl⟩⟩, b⟩
  · exact (neighbours_big n m d w ((M.okB_iff n m).1 h1).2.2.2.2 (by omega) a4 d1 ⟨a1, a2⟩).mono fun en w' ⟨a, b, c, e, h, hn, bl⟩ => ⟨a, b, c, e, h, ⟨.inr ⟨by omega, c, e, hn⟩, .inr ⟨by omega, a, b, hn⟩⟩, bl⟩
set_option maxRecDepth 20000 in
set_option maxHeartbeats 1000000 in
theorem near_no (n m d : Int) (w : World) (i1 : In64 n) (i2 : In64 m) (h : (M.okB n m && denB d) = false) :
    Calls Try.prog 59 #[.agg #[.int .i64 n, .int .i64 m], .int .i64 d] w fun e w' => e = .returned (.tuple #[.agg #[.int .i64 0, .int .i64 0], .int .i64 2]) ∧ Below w.heap.size w w' := by
  obtain ⟨g, hg⟩ : ∃ g, Hid (M.okB n m = g) := ⟨_, rfl⟩
  obtain ⟨b, hb⟩ : ∃ b, Hid (b = denB d) := ⟨_, rfl⟩
  have HG := hide (And.intro i1 i2); clear i1 i2
  have hk0 := k1_new' w n m
  rw [hg.out, ← hb.out] at h
  cases g
  · clear h
    go_enter Try.func59, Try.ntmps59
    go_wp2_with fail
    refine (valid_is n m false _ HG.out.1 HG.out.2 hg).mono ?_
    rintro e w1 ⟨rfl, hb1⟩
    have hk := k1_step hk0 hb1; clear hb1 hk0
    obtain ⟨_, ⟨q0, q1, f0, f1⟩, _⟩ := hk.out
    go_wp2_with fail
    refine bodyPost_ret (v := .tuple #[.agg #[.int .i64 0, .int .i64 0], .int .i64 2]) (by simp [results, Try.results59, go_sem, *]) rfl ⟨rfl, ?_⟩
    exact k1_end hk _ _
  · obtain rfl : b = false := by simpa using h
    clear h
    go_enter Try.func59, Try.ntmps59
    go_wp2_with fail
    refine (valid_is n m true _ HG.out.1 HG.out.2 hg).mono ?_
    rintro e w1 ⟨rfl, hb1⟩
    have hk := k1_step hk0 hb1; clear hb1 hk0
    go_wp2_with fail
    refine (isden_any d _ false hb).mono ?_
    rintro e w2 ⟨rfl, rfl⟩
    obtain ⟨_, ⟨q0, q1, f0, f1⟩, _⟩ := hk.out
    go_wp2_with fail
    refine bodyPost_ret (v := .tuple #[.agg #[.int .i64 0, .int .i64 0], .int .i64 2]) (by simp [results, Try.results59, go_sem, *]) rfl ⟨rfl, ?_⟩
    exact k1_end hk _ _
set_option maxRecDepth 20000 in
set_option maxHeartbeats 4000000 in
theorem near_yes (n m d : Int) (w : World) (h1 : M.okB n m = true) (h2 : denB d = true) :
    Calls Try.prog 59 #[.agg #[.int .i64 n, .int .i64 m], .int .i64 d] w (NrRet w n m d) := by
  obtain ⟨a1, a2, a3, a4⟩ := okB_in h1
  have hg := hide h1
  have hb : Hid (true = denB d) := hide h2.symm
  have HG := hide (And.intro (in64_of a1 a2) (in64_of (by omega : -1000000000 ≤ m) a4))
  have HM0 : Hid (0 < m) := hide (by omega)
  have hk0 := k1_new' w n m
  clear h1 h2 a1 a2 a3 a4
  go_enter Try.func59, Try.ntmps59
  go_wp2_with fail
  refine (valid_is n m true _ HG.out.1 HG.out.2 hg).mono ?_
  rintro e w1 ⟨rfl, hb1⟩
  have hk := k1_step hk0 hb1; clear hb1 hk0
  go_wp2_with fail
  refine (isden_any d _ true hb).mono ?_
  rintro e w2 ⟨rfl, rfl⟩
  obtain ⟨⟨c1, c2⟩, _, _⟩ := hk.out
  go_wp2_with fail
  refine (of_b n m _).mono ?_
  rintro e w3 ⟨rfl, hb1⟩
  have hk3 := k1_step hk hb1; clear hb1 hk c1 c2
  go_wp2_with fail
  refine (neighbours_any n m d _ hg.out hb.out.symm).mono ?_
  rintro e w4 ⟨a, b, c, e', rfl, hlh, hb1⟩
  have HLH := hide hlh
  have hok1 := lo_ok hg.out hb.out.symm hlh.1
  have hok2 := hi_ok hg.out hb.out.symm hlh.2
  obtain ⟨u1, u2, u3, u4⟩ := okB_in hok1
  obtain ⟨v1, v2, v3, v4⟩ := okB_in hok2
  obtain ⟨x1, x2⟩ := prod_bd u1 u2 (by omega : -1000000000 ≤ e') v4
  obtain ⟨x3, x4⟩ := prod_bd v1 v2 (by omega : -1000000000 ≤ b) u4
  obtain ⟨x5, x6⟩ := prod_bd (by omega : -1000000000 ≤ b) u4 (by omega : -1000000000 ≤ e') v4
  have x7 : 0 < b * e' := Int.mul_pos (by omega) (by omega)
  obtain ⟨s, hs⟩ : ∃ s, Hid (s = a * e' + c * b) := ⟨_, rfl⟩
  obtain ⟨t, ht⟩ : ∃ t, Hid (t = b * e') := ⟨_, rfl⟩
  obtain ⟨t2, ht2⟩ : ∃ t2, Hid (t2 = 2 * t) := ⟨_, rfl⟩
  obtain ⟨sg, hsg⟩ : ∃ sg, Hid (sg = Int.sign (n * t2 - s * m)) := ⟨_, rfl⟩
  have GP : Hid (In64 (a * e') ∧ In64 (c * b) ∧ In64 (a * e' + c * b) ∧ In64 (b * e')) := hide ⟨⟨by omega, by omega⟩, ⟨by omega, by omega⟩, ⟨by omega, by omega⟩, ⟨by omega, by omega⟩⟩
  have GT : Hid (In64 (2 * t) ∧ (In64 s ∧ In64 t2) ∧ 0 < t2) := hide ⟨⟨by rw [ht.out]; omega, by rw [ht.out]; omega⟩, ⟨⟨by rw [hs.out]; omega, by rw [hs.out]; omega⟩, ⟨by rw [ht2.out, ht.out]; omega, by rw [ht2.out, ht.out]; omega⟩⟩, by rw [ht2.out, ht.out]; omega⟩
  have HSG : Hid (0 < sg ↔ 0 < n * (2 * (b * e')) - (a * e' + c * b) * m) := hide (by rw [hsg.out, ht2.out, ht.out, hs.out]; exact (M.sign_iff _).2)
  have HVA := hide (And.intro (in64_of u1 u2) (in64_of (by omega : -1000000000 ≤ b) u4))
  have HVC := hide (And.intro (in64_of v1 v2) (in64_of (by omega : -1000000000 ≤ e') v4))
  have HOA := hide (M.ok_new hok1)
  have HOC := hide (M.ok_new hok2)
  have hk4' := k1_step hk3 hb1
  have hk4 := k1_step hk4' (ba (ba (Below.refl _ _) (.cells #[.int .i64 a, .int .i64 b] 78)) (.cells #[.int .i64 c, .int .i64 e'] 78))
  have hA := fy_step (fy_new w4 a b 78) (ba (Below.refl _ _) (.cells #[.int .i64 c, .int .i64 e'] 78))
  have hC := fy_new (w4.alloc (.cells #[.int .i64 a, .int .i64 b] 78)) c e' 78
  clear hb1 hk3 hlh hok1 hok2 u1 u2 u3 u4 v1 v2 v3 v4 x1 x2 x3 x4 x5 x6 x7
  obtain ⟨⟨c1, c2⟩, ⟨q0, _⟩, _⟩ := hk4'.out
  have z0 := cell_lt c1
  have z1 := cell_lt q0
  go_wp2_with fail
  clear c1 c2 q0
  obtain ⟨⟨c1, c2⟩, _, _⟩ := hk4.out
  obtain ⟨g1, g2, _⟩ := hA.out
  obtain ⟨g3, g4, _⟩ := hC.out
  generalize hW : (w4.alloc (.cells #[.int .i64 a, .int .i64 b] 78)).alloc (.cells #[.int .i64 c, .int .i64 e'] 78) = W at *
  have hs9 : (w4.alloc (.cells #[.int .i64 a, .int .i64 b] 78)).heap.size = w4.heap.size + 1 := by simp
  rw [hs9] at g3 g4 hC
  clear hW hs9
  go_region_held3 (fun w' => ((w'.cell? ⟨w.heap.size, 0, none⟩ = some (.int .i64 n) ∧ w'.cell? ⟨w.heap.size, 1, none⟩ = some (.int .i64 m)) ∧ (w'.cell? ⟨w4.heap.size, 0, none⟩ = some (.int .i64 a) ∧ w'.cell? ⟨w4.heap.size, 1, none⟩ = some (.int .i64 b)) ∧ (w'.cell? ⟨w4.heap.size + 1, 0, none⟩ = some (.int .i64 c) ∧ w'.cell? ⟨w4.heap.size + 1, 1, none⟩ = some (.int .i64 e'))) ∧ Hid (K1 w w' n m))
    ((go_split_ands; (first | dsimp only | skip); refine ⟨⟨⟨?_, ?_⟩, ⟨?_, ?_⟩, ⟨?_, ?_⟩⟩, ?_⟩ <;> first | with_reducible assumption | (simp only [World.cell?_drew]; with_reducible assumption) | (with_reducible exact kc hbw ‹_›) | (with_reducible exact k1_drew ‹_›) | (with_reducible exact k1_step ‹_› hbw) | (go_simp; done)))
    (first | (go_at_call 79; go_split_ands; refine (of_b n m _).mono ?_; rintro en w' ⟨rfl, hbw⟩) | (go_at_call 81; go_split_ands; refine (plus_b a b c e' s t _ GP.out.1 GP.out.2.1 GP.out.2.2.1 GP.out.2.2.2 hs ht).mono ?_; rintro en w' ⟨rfl, hbw⟩) | (go_at_call 103; go_split_ands; refine (half_b s t t2 _ GT.out.1 ht2).mono ?_; rintro en w' ⟨rfl, hbw⟩) | (go_at_call 80; go_split_ands; refine (compare_any n m s t2 _ HG.out.1 HG.out.2 GT.out.2.1.1 GT.out.2.1.2 HM0.out GT.out.2.2 sg hsg).mono ?_; rintro en w' ⟨rfl, hbw⟩; have hk9 := k1_step ‹_› hbw))
  go_split_ands
  clear hk4 hk4' c1 c2 g1 g2 g3 g4
  by_cases hsp : 0 < sg
  · have HPK := hide (HSG.out.1 hsp)
    go_wp2_with fail
    refine (reduced_b c e' c e' 0 _ HVC.out.1 HVC.out.2 (hide HOC.out.1) (hide HOC.out.2.1) (hide HOC.out.2.2)).mono ?_
    rintro en w9 ⟨rfl, hb9⟩
    have hk10 := k1_step hk9 hb9; clear hb9
    obtain ⟨_, ⟨q0, q1, f0, f1⟩, _⟩ := hk10.out
    go_wp2_with fail
    refine bodyPost_ret (v := .tuple #[.agg #[.int .i64 c, .int .i64 e'], .int .i64 0]) (by simp [results, Try.results59, go_sem, q0, q1]) rfl ⟨c, e', rfl, ⟨a, b, c, e', HLH.out, by rw [if_pos HPK.out]; exact ⟨rfl, rfl⟩⟩, ?_⟩
    exact k1_end hk10 _ _
  · have HPK : Hid (n * (2 * (b * e')) - (a * e' + c * b) * m ≤ 0) := hide (by have : ¬ 0 < n * (2 * (b * e')) - (a * e' + c * b) * m := fun k => hsp (HSG.out.2 k); omega)
    go_wp2_with fail
    refine (reduced_b a b a b 0 _ HVA.out.1 HVA.out.2 (hide HOA.out.1) (hide HOA.out.2.1) (hide HOA.out.2.2)).mono ?_
    rintro en w9 ⟨rfl, hb9⟩
    have hk10 := k1_step hk9 hb9; clear hb9
    obtain ⟨_, ⟨q0, q1, f0, f1⟩, _⟩ := hk10.out
    go_wp2_with fail
    refine bodyPost_ret (v := .tuple #[.agg #[.int .i64 a, .int .i64 b], .int .i64 0]) (by simp [results, Try.results59, go_sem, q0, q1]) rfl ⟨a, b, rfl, ⟨a, b, c, e', HLH.out, by rw [if_neg (by have := HPK.out; omega)]; exact ⟨rfl, rfl⟩⟩, ?_⟩
    exact k1_end hk10 _ _
end Go.Proofs.Ytpgnbjlpkpmpcaa
