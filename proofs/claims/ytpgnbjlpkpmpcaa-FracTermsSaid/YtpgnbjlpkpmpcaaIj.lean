import Derived.Test.YtpgnbjlpkpmpcaaIi
import Derived.Test.YtpgnbjlpkpmpcaaDb
import Derived.Test.YtpgnbjlpkpmpcaaZi
set_option linter.unusedVariables false
namespace Go.Proofs.Ytpgnbjlpkpmpcaa.R
open Go.RowKit Go.Proofs.Ytpgnbjlpkpmpcaa.N
/-- the result's variable, and a variable of two ints above it -/
def Sv (w0 w : World) (s : Nat) (x y : Int) : Prop := (R2 w0 w0.heap.size w ∧ w0.heap.size < s) ∧ (w.cell? ⟨s, 0, none⟩ = some (.int .i64 x) ∧ w.cell? ⟨s, 1, none⟩ = some (.int .i64 y)) ∧ (w.frozen? ⟨s, 0, none⟩ = false ∧ w.frozen? ⟨s, 1, none⟩ = false)
theorem sv_step {w0 w w' : World} {s : Nat} {x y : Int} (h : Hid (Sv w0 w s x y)) (hb : Below w.heap.size w w') : Hid (Sv w0 w' s x y) := by
  obtain ⟨⟨r, z⟩, ⟨c1, c2⟩, ⟨f1, f2⟩⟩ := h.out
  exact hide ⟨⟨(r2_step (hide r) hb).out, z⟩, ⟨kc hb c1, kc hb c2⟩, ⟨kf hb c1 f1, kf hb c2 f2⟩⟩
theorem sv_drew {w0 w : World} {s : Nat} {x y : Int} (h : Hid (Sv w0 w s x y)) : Hid (Sv w0 w.drew s x y) := by
  obtain ⟨⟨⟨⟨⟨u0, q0⟩, ⟨u1, q1⟩⟩, ⟨g2, g3⟩, hs, b⟩, z⟩, ⟨c1, c2⟩, ⟨f1, f2⟩⟩ := h.out
  exact hide ⟨⟨⟨⟨⟨u0, q0⟩, ⟨u1, q1⟩⟩, ⟨g2, g3⟩, hs, b.drew⟩, z⟩, ⟨c1, c2⟩, ⟨f1, f2⟩⟩
theorem put_far {w : World} {f : Nat} {a : Addr} {x : Value} (h : w.cell? a = some x) (hne : a.block ≠ f) (u v : Value) : ((w.setCell ⟨f, 0, none⟩ u).setCell ⟨f, 1, none⟩ v).cell? a = some x := by
  rw [World.cell?_setCell_other (h := by intro e; rw [← e] at hne; simp at hne), World.cell?_setCell_other (h := by intro e; rw [← e] at hne; simp at hne)]; exact h
theorem sv_set {w0 w : World} {s : Nat} {x y : Int} (h : Hid (Sv w0 w s x y)) (u v : Int) : Hid (Sv w0 ((w.setCell ⟨s, 0, none⟩ (.int .i64 u)).setCell ⟨s, 1, none⟩ (.int .i64 v)) s u v) := by
  obtain ⟨⟨⟨⟨⟨u0, q0⟩, ⟨u1, q1⟩⟩, ⟨g2, g3⟩, hs, b⟩, z⟩, ⟨c1, c2⟩, ⟨f1, f2⟩⟩ := h.out
  refine hide ⟨⟨⟨⟨⟨u0, put_far q0 (by simp only []; omega) _ _⟩, ⟨u1, put_far q1 (by simp only []; omega) _ _⟩⟩, ?_, hs, bs (bs b (by simp only []; omega) _) (by simp only []; omega) _⟩, z⟩, ⟨?_, ?_⟩, ?_⟩
  · simp only [frozen_set]; exact ⟨g2, g3⟩
  · rw [World.cell?_setCell_other (h := by simp)]; exact World.cell?_setCell_same _ _ _ c1
  · exact World.cell?_setCell_same _ _ _ (by rw [World.cell?_setCell_other (h := by simp)]; exact c2)
  · simp only [frozen_set]; exact ⟨f1, f2⟩
theorem sv_new {w0 w : World} (h : Hid (R2 w0 w0.heap.size w)) (x y : Int) (t : TypeId) : Hid (Sv w0 (w.alloc (.cells #[.int .i64 x, .int .i64 y] t)) w.heap.size x y) := by
  have hr := r2_step h (ba (Below.refl _ _) (.cells #[.int .i64 x, .int .i64 y] t))
  obtain ⟨⟨⟨a, ha⟩, _⟩, _⟩ := h.out
  exact hide ⟨⟨hr.out, cell_lt ha⟩, ⟨by simp [go_sem], by simp [go_sem]⟩, ⟨by simp [go_sem], by simp [go_sem]⟩⟩
theorem r2_begin (w : World) : Hid (R2 w w.heap.size (w.alloc (.cells #[.int .i64 0, .int .i64 0] 23))) :=
  hide ⟨⟨⟨.int .i64 0, by simp [go_sem]⟩, ⟨.int .i64 0, by simp [go_sem]⟩⟩, ⟨by simp [go_sem], by simp [go_sem]⟩, Nat.le_refl _, ba (Below.refl _ _) _⟩
theorem inv_b (n d : Int) (w : World) :
    Calls Try.prog 90 #[.agg #[.int .i64 n, .int .i64 d]] w fun e w' => e = .returned (.agg #[.int .i64 d, .int .i64 n]) ∧ Below w.heap.size w w' :=
  (inverse_any n d w).mono fun _ _ ⟨a, b⟩ => ⟨a, b ▸ ba (ba (Below.refl _ _) _) _⟩
theorem shift_b (n d k x : Int) (w : World) (G : Hid (In64 (k * d) ∧ In64 (n + k * d))) (hx : Hid (x = n + k * d)) :
    Calls Try.prog 98 #[.agg #[.int .i64 n, .int .i64 d], .int .i64 k] w fun e w' => e = .returned (.agg #[.int .i64 x, .int .i64 d]) ∧ Below w.heap.size w w' :=
  (shifted_any n d k w G.out.1 G.out.2).mono fun _ _ ⟨a, b⟩ => ⟨by rw [a, hx.out], b ▸ ba (ba (Below.refl _ _) _) _⟩
def FtRet (w : World) (x y z : Int) (e : Ending) (w' : World) : Prop := e = .returned (.tuple #[.agg #[.int .i64 x, .int .i64 y], .int .i64 z]) ∧ Below w.heap.size w w'
set_option maxRecDepth 20000 in
set_option maxHeartbeats 2000000 in
theorem fromT_long (a : Option Addr) (len cap : Nat) (w : World) (h : 64 < len) : Calls Try.prog 55 #[.slice a len cap] w (FtRet w 0 0 3) := by
  have hl : (64 : Int) < (len : Int) := by omega
  clear h
  go_enter Try.func55, Try.ntmps55
  go_wp2_with fail
  refine bodyPost_ret (v := .tuple #[.agg #[.int .i64 0, .int .i64 0], .int .i64 3]) (by simp [results, Try.results55, go_sem]) rfl ⟨rfl, ba (Below.refl _ _) _⟩
set_option maxRecDepth 20000 in
set_option maxHeartbeats 2000000 in
theorem fromT_none (a : Option Addr) (cap : Nat) (w : World) : Calls Try.prog 55 #[.slice a 0 cap] w (FtRet w 0 0 2) := by
  go_enter Try.func55, Try.ntmps55
  go_wp2_with fail
  refine (areT_none a cap _).mono ?_
  rintro en w1 ⟨rfl, rfl⟩
  go_wp2_with fail
  refine bodyPost_ret (v := .tuple #[.agg #[.int .i64 0, .int .i64 0], .int .i64 2]) (by simp [results, Try.results55, go_sem]) rfl ⟨rfl, ba (Below.refl _ _) _⟩
set_option maxRecDepth 20000 in
set_option maxHeartbeats 2000000 in
theorem fromT_bad (b off len cap : Nat) (ns : Nat → Int) (w : World) (hl : len ≤ 62) (hc : len + 2 ≤ cap) (HC : Hid (∀ i, i < len + 2 → w.cell? ⟨b, off + i, none⟩ = some (.int .i64 (ns i)))) (HT : Hid (¬ M.Terms ns (len + 1))) :
    Calls Try.prog 55 #[.slice (some ⟨b, off, none⟩) (len + 2) cap] w (FtRet w 0 0 2) := by
  have h1 : ((len : Int) + 2) ≤ 64 := by omega
  go_enter Try.func55, Try.ntmps55
  go_wp2_with fail
  refine (areT_no b off len cap ns _ hl hc (hide fun i hi => kc (ba (Below.refl _ _) _) (HC.out i hi)) HT).mono ?_
  rintro en w1 ⟨rfl, rfl⟩
  go_wp2_with fail
  refine bodyPost_ret (v := .tuple #[.agg #[.int .i64 0, .int .i64 0], .int .i64 2]) (by simp [results, Try.results55, go_sem]) rfl ⟨rfl, ba (Below.refl _ _) _⟩
theorem areT_ok (b off last cap : Nat) (ns : Nat → Int) (w : World) (hl : last ≤ 63) (hc : last + 1 ≤ cap) (HC : Hid (∀ i, i < last + 1 → w.cell? ⟨b, off + i, none⟩ = some (.int .i64 (ns i)))) (HT : Hid (M.Terms ns last)) :
    Calls Try.prog 100 #[.slice (some ⟨b, off, none⟩) (last + 1) cap] w fun e w' => e = .returned (.bool true) ∧ w = w' := by
  cases last with
  | zero => exact areT_one b off cap w hc
  | succ n => exact areT_yes b off n cap ns w (by omega) hc HC HT
/-- the round's state: numerator and denominator so far -/
def FtRel (w0 : World) (s : Nat) (ns : Nat → Int) (last j : Nat) (wr : World) : Prop := Sv w0 wr s (M.cN ns last j).1 (M.cN ns last j).2 ∧ In64 (M.cN ns last j).1 ∧ In64 (M.cN ns last j).2
set_option maxRecDepth 20000 in
set_option maxHeartbeats 4000000 in
theorem fromT_yes (b off last cap : Nat) (ns : Nat → Int) (w : World) (hl : last ≤ 63) (hc : last + 1 ≤ cap) (HC : Hid (∀ i, i < last + 1 → w.cell? ⟨b, off + i, none⟩ = some (.int .i64 (ns i)))) (HI : Hid (∀ i, i < last + 1 → In64 (ns i))) (HT : Hid (M.Terms ns last))
    (x y z : Int) (hx : Hid (x = M.aN (M.cQ ns last last))) (hy : Hid (y = M.aD (M.cQ ns last last))) (hz : Hid (z = M.aE (M.cQ ns last last))) :
    Calls Try.prog 55 #[.slice (some ⟨b, off, none⟩) (last + 1) cap] w (FtRet w x y z) := by
  have h64 : ((last : Int) + 1) ≤ 64 := by omega
  have hr := r2_begin w
  have cl := HC.out last (by omega)
  have zl := cell_lt cl
  go_enter Try.func55, Try.ntmps55
  go_wp2_with fail
  refine (areT_ok b off last cap ns _ hl hc (hide fun i hi => kc (ba (Below.refl _ _) _) (HC.out i hi)) HT).mono ?_
  rintro en w1 ⟨rfl, rfl⟩
  have hsv := sv_new hr (ns last) 1 78
  go_wp2_with fail
  obtain ⟨s5, hs5⟩ : ∃ s5, s5 = (w.alloc (.cells #[.int .i64 0, .int .i64 0] 23)).heap.size := ⟨_, rfl⟩
  rw [← hs5] at hsv
  have hs6 : w.heap.size + 1 = s5 := by rw [hs5]; simp
  rw [hs6]
  clear hs5 hs6
  go_loopw [6] (fun i wr => ∃ (j : Nat) (k : Int), j ≤ last ∧ i = .int .i64 k ∧ k = (last : Int) - 1 - j ∧ FtRel w s5 ns last j wr) (fun i _ => (intOf i + 1).toNat)
  case atStart => exact ⟨0, _, by omega, rfl, by omega, hsv.out, HI.out last (by omega), ⟨by show _ ≤ (1 : Int); decide, by show (1 : Int) ≤ _; decide⟩⟩
  case round =>
    obtain ⟨j, k, hj, rfl, hk, hS, hb1, hb2⟩ := hrel
    have HS := hide hS
    have HIN := hide (And.intro hb1 hb2)
    clear hS hb1 hb2
    by_cases hlt : j < last
    · obtain ⟨m, rfl⟩ : ∃ m : Nat, k = m := ⟨last - (j + 1), by omega⟩
      have hm : m = last - (j + 1) := by omega
      have c1 := kc HS.out.1.1.2.2.2 (HC.out m (by omega))
      have hi1 := HI.out m (by omega)
      obtain ⟨p1, p2, p3⟩ := M.cN_pos HT.out j hlt
      have HJ : Hid (M.cN ns last (j + 1) = ((M.cN ns last j).2 + ns m * (M.cN ns last j).1, (M.cN ns last j).1)) := hide (by rw [M.cN_succ, hm])
      have HB1 := hide (M.stop_num HT.out j hlt)
      have HB2 := hide (M.stop_term HT.out j hlt)
      rw [← hm] at HB2
      obtain ⟨N, hN⟩ : ∃ N, Hid (N = (M.cN ns last j).1) := ⟨_, rfl⟩
      obtain ⟨D, hD⟩ : ∃ D, Hid (D = (M.cN ns last j).2) := ⟨_, rfl⟩
      rw [← hN.out, ← hD.out] at HS
      rw [← hN.out] at p1 p3 HB1
      rw [← hD.out] at p2 p3
      rw [← hN.out, ← hD.out] at HJ
      have hm0 : (0 : Int) ≤ (m : Int) := by omega
      have hm1 : (m : Int) < (last : Int) + 1 := by omega
      have hm2 : m < last + 1 := by omega
      have hmi : IntKind.i64.wrap ((m : Int) - 1) = (m : Int) - 1 := IntWalk.i64_in _ (by omega)
      have HMI := hide hmi
      have HSTOP : Hid (M.fits (M.cQ ns last last) = false → x = 0 ∧ y = 0 ∧ z = 5) := hide (fun hf => by
        rw [hx.out, hy.out, hz.out]; unfold M.aN M.aD M.aE; rw [hf]; exact ⟨rfl, rfl, rfl⟩)
      obtain ⟨⟨⟨⟨⟨u0, g0⟩, ⟨u1, g1⟩⟩, ⟨g2, g3⟩, _, _⟩, hz5⟩, ⟨q1, q2⟩, ⟨f1, f2⟩⟩ := HS.out
      have HK := hide hk
      clear hm hk hmi
      by_cases hbig : 1000000000 < N
      · obtain ⟨e1, e2, e3⟩ := HSTOP.out (HB1.out hbig)
        subst e1 e2 e3
        go_wp2_with fail
        refine bodyPost_ret (v := .tuple #[.agg #[.int .i64 0, .int .i64 0], .int .i64 5]) (by simp [results, Try.results55, go_sem, *]) rfl ⟨rfl, ?_⟩
        exact bs (bs HS.out.1.1.2.2.2 (Nat.le_refl _) _) (Nat.le_refl _) _
      · have hN2 : N ≤ 1000000000 := by omega
        clear hbig
        obtain ⟨l, hl'⟩ : ∃ l, Hid (l = (ns m).natAbs) := ⟨_, rfl⟩
        by_cases hbig : (1000000000 : Int) < l
        · obtain ⟨e1, e2, e3⟩ := HSTOP.out (HB2.out (by rw [← hl'.out]; omega))
          subst e1 e2 e3
          go_wp2_with fail
          refine (size_is (ns m) l _ hi1.1 hi1.2 hl').mono ?_
          rintro en w2 ⟨rfl, rfl⟩
          go_wp2_with fail
          refine bodyPost_ret (v := .tuple #[.agg #[.int .i64 0, .int .i64 0], .int .i64 5]) (by simp [results, Try.results55, go_sem, *]) rfl ⟨rfl, ?_⟩
          exact bs (bs HS.out.1.1.2.2.2 (Nat.le_refl _) _) (Nat.le_refl _) _
        · have hl2 : (l : Int) ≤ 1000000000 := by omega
          have hn1 : -1000000000 ≤ ns m ∧ ns m ≤ 1000000000 := by have := hl'.out; omega
          have hpr : -1000000000000000000 ≤ ns m * N ∧ ns m * N ≤ 1000000000000000000 := by
            have h1 := Int.mul_le_mul_of_nonneg_right hn1.2 (show 0 ≤ N by omega)
            have h2 := Int.mul_le_mul_of_nonneg_right hn1.1 (show 0 ≤ N by omega)
            omega
          have G : Hid (In64 (ns m * N) ∧ In64 (D + ns m * N)) := hide ⟨⟨by omega, by omega⟩, ⟨by omega, by omega⟩⟩
          obtain ⟨N', hN'⟩ : ∃ N', Hid (N' = D + ns m * N) := ⟨_, rfl⟩
          have hvd := sv_drew HS
          have cd : wr.drew.cell? ⟨b, off + m, none⟩ = some (.int .i64 (ns m)) := c1
          clear hbig hpr
          go_wp2_with fail
          refine (size_is (ns m) l _ hi1.1 hi1.2 hl').mono ?_
          rintro en w2 ⟨rfl, rfl⟩
          go_wp2_with fail
          go_region_with (first | (go_at_call 90; (with_reducible refine (inv_b N D _).mono ?_); rintro en w2 ⟨rfl, hb⟩; have hv2 := sv_step hvd hb; have c2 := kc hb cd) | (go_at_call 98; (with_reducible refine (shift_b D N (ns m) N' _ G hN').mono ?_); rintro en w3 ⟨rfl, hb3⟩; have hv3 := sv_step hv2 hb3; obtain ⟨⟨⟨⟨⟨v0, k0⟩, ⟨v1, k1⟩⟩, ⟨k2, k3⟩, _, _⟩, _⟩, ⟨r1, r2⟩, ⟨r3, r4⟩⟩ := hv3.out))
          all_goals have hs5 := sv_set hv3 N' N
          all_goals go_wp2_with fail
          all_goals go_roundw
          all_goals first
            | (case rel => exact ⟨j + 1, _, by omega, rfl, by have := HK.out; omega, by unfold FtRel; rw [HJ.out, ← hN'.out]; exact ⟨hs5.out, by rw [hN'.out]; exact G.out.2, ⟨by omega, by omega⟩⟩⟩)
            | (case measure => simp [intOf])
    · obtain rfl : j = last := by omega
      obtain rfl : k = -1 := by omega
      obtain ⟨N, hN⟩ : ∃ N, Hid (N = (M.cN ns j j).1) := ⟨_, rfl⟩
      obtain ⟨D, hD⟩ : ∃ D, Hid (D = (M.cN ns j j).2) := ⟨_, rfl⟩
      have hd := M.cN_den HT.out j (Nat.le_refl _)
      have hq := M.cQ_is HT.out j (Nat.le_refl _)
      rw [← hN.out, ← hD.out] at hq
      rw [← hD.out] at hd
      rw [← hN.out, ← hD.out] at HS
      obtain ⟨e1, e2, e3⟩ := M.new_is (n := N) (d := D) (by omega) hq
      rw [← e1] at hx
      rw [← e2] at hy
      rw [← e3] at hz
      rw [← hN.out, ← hD.out] at HIN
      obtain ⟨⟨⟨⟨⟨u0, g0⟩, ⟨u1, g1⟩⟩, ⟨g2, g3⟩, _, _⟩, _⟩, ⟨q1, q2⟩, ⟨f1, f2⟩⟩ := HS.out
      clear e1 e2 e3 hq hd cl zl
      go_wp2_with fail
      (with_reducible refine (reduced_b N D x y z _ HIN.out.1 HIN.out.2 hx hy hz).mono ?_)
      rintro en w2 ⟨rfl, hb⟩
      have hs2 := sv_step HS hb
      clear hb g0 g1 g2 g3 q1 q2 f1 f2
      obtain ⟨⟨⟨⟨⟨u0, g0⟩, ⟨u1, g1⟩⟩, ⟨g2, g3⟩, _, _⟩, _⟩, ⟨q1, q2⟩, ⟨f1, f2⟩⟩ := hs2.out
      go_wp2_with fail
      refine bodyPost_ret (v := .tuple #[.agg #[.int .i64 x, .int .i64 y], .int .i64 z]) (by simp [results, Try.results55, go_sem, *]) rfl ⟨rfl, ?_⟩
      exact bs (bs hs2.out.1.1.2.2.2 (Nat.le_refl _) _) (Nat.le_refl _) _
end Go.Proofs.Ytpgnbjlpkpmpcaa.R
