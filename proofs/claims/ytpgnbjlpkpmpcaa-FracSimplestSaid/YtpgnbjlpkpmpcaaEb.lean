import Derived.Test.YtpgnbjlpkpmpcaaEa
import Derived.Test.YtpgnbjlpkpmpcaaZw
import Derived.Test.YtpgnbjlpkpmpcaaDc
set_option linter.unusedVariables false
namespace Go.Proofs.Ytpgnbjlpkpmpcaa
open Go.RowKit
theorem shifted_b (n d k x : Int) (w : World) (G : Hid (In64 (k * d) ∧ In64 (n + k * d))) (hx : Hid (x = n + k * d)) :
    Calls Try.prog 98 #[.agg #[.int .i64 n, .int .i64 d], .int .i64 k] w fun e w' => e = .returned (.agg #[.int .i64 x, .int .i64 d]) ∧ Below w.heap.size w w' :=
  (shifted_any n d k w G.out.1 G.out.2).mono fun _ _ ⟨a, b⟩ => ⟨by rw [a, hx.out], b ▸ ba (ba (Below.refl _ _) _) _⟩
def SpRet (w : World) (n d m q : Int) (en : Ending) (w' : World) : Prop := ∃ x y : Int, en = .returned (.agg #[.int .i64 x, .int .i64 y]) ∧ M.Sp n d m q x y ∧ Below w.heap.size w w'
theorem ns_start3 (w : World) (n d m q : Int) : Hid (NS w (((w.alloc (.cells #[.int .i64 n, .int .i64 d] 78)).alloc (.cells #[.int .i64 m, .int .i64 q] 78)).alloc (.cells #[.int .i64 0, .int .i64 0] 78)) n d m q 0 0) :=
  hide ⟨⟨⟨by simp [go_sem], by simp [go_sem]⟩, ⟨by simp [go_sem], by simp [go_sem]⟩, ⟨by simp [go_sem], by simp [go_sem]⟩⟩, ⟨⟨by simp [go_sem], by simp [go_sem]⟩, ⟨by simp [go_sem], by simp [go_sem]⟩⟩, ba (ba (ba (Below.refl _ _) _) _) _⟩
theorem ns_drew {w0 w : World} {n m a b c e : Int} (h : Hid (NS w0 w n m a b c e)) : Hid (NS w0 w.drew n m a b c e) := by
  obtain ⟨h1, h2, h3⟩ := h.out
  exact hide ⟨h1, h2, h3.drew⟩
/-- the two boxes and the result's variable, whatever it holds -/
def NX (w0 w : World) (n d m q : Int) : Prop := ∃ a b : Int, NS w0 w n d m q a b
theorem nx_step {w0 w w' : World} {n d m q : Int} (h : Hid (NX w0 w n d m q)) (hb : Below w.heap.size w w') : Hid (NX w0 w' n d m q) := by
  obtain ⟨a, b, h⟩ := h.out; exact hide ⟨a, b, (ns_step (hide h) hb).out⟩
theorem nx_drew {w0 w : World} {n d m q : Int} (h : Hid (NX w0 w n d m q)) : Hid (NX w0 w.drew n d m q) := by
  obtain ⟨a, b, h⟩ := h.out; exact hide ⟨a, b, (ns_drew (hide h)).out⟩
theorem nx_set {w0 w : World} {n d m q : Int} (h : Hid (NX w0 w n d m q)) (x y : Int) : Hid (NX w0 ((w.setCell ⟨w0.heap.size + 1 + 1, 0, none⟩ (.int .i64 x)).setCell ⟨w0.heap.size + 1 + 1, 1, none⟩ (.int .i64 y)) n d m q) := by
  obtain ⟨a, b, h⟩ := h.out; exact hide ⟨x, y, (ns_hi (hide h) x y).out⟩
theorem nx_res {w0 w : World} {n d m q : Int} (h : Hid (NX w0 w n d m q)) : ((∃ u, w.cell? ⟨w0.heap.size + 1 + 1, 0, none⟩ = some u) ∧ (∃ u, w.cell? ⟨w0.heap.size + 1 + 1, 1, none⟩ = some u)) ∧ (w.frozen? ⟨w0.heap.size + 1 + 1, 0, none⟩ = false ∧ w.frozen? ⟨w0.heap.size + 1 + 1, 1, none⟩ = false) ∧ Below w0.heap.size w0 w := by
  obtain ⟨a, b, ⟨_, _, ⟨c5, c6⟩⟩, ⟨_, f3, f4⟩, hb⟩ := h.out
  exact ⟨⟨⟨_, c5⟩, ⟨_, c6⟩⟩, ⟨f3, f4⟩, hb⟩
def Sizes (n d m q : Int) : Prop := ((1 ≤ n ∧ n ≤ 1000000000) ∧ (1 ≤ d ∧ d ≤ 1000000000)) ∧ ((1 ≤ m ∧ m ≤ 1000000000) ∧ (1 ≤ q ∧ q ≤ 1000000000)) ∧ n * q ≤ m * d
set_option maxRecDepth 100000 in
set_option maxHeartbeats 4000000 in
theorem simplest_any (N : Nat) : ∀ (n d m q : Int) (w : World), d + q ≤ N → Sizes n d m q → Calls Try.prog 105 #[.agg #[.int .i64 n, .int .i64 d], .agg #[.int .i64 m, .int .i64 q]] w (SpRet w n d m q) := by
  induction N with
  | zero => intro n d m q w hN hS; obtain ⟨⟨_, h1⟩, ⟨_, h2⟩, _⟩ := hS; omega
  | succ N ih =>
    intro n d m q w hN hS
    have IH := hide ih
    clear ih
    have HS := hide hS
    obtain ⟨⟨⟨n1, n2⟩, ⟨d1, d2⟩⟩, ⟨⟨m1, m2⟩, ⟨q1, q2⟩⟩, hle⟩ := hS
    obtain ⟨L, hL⟩ : ∃ L, L = M.rnd n d 1 - 1 := ⟨_, rfl⟩
    obtain ⟨c1, c2⟩ := M.ceil_facts (n := n) (d := d) (by omega)
    have hz : Hid (L + 1 = M.rnd n d 1) := hide (by omega)
    rw [← hz.out] at c1
    rw [← hL] at c2
    have hL0 : 0 ≤ L := by
      have : -1 < L := M.lt_of_mul (k := d) (by omega) (by have h1 : 0 < (L + 1) * d := (by omega); rw [Int.add_mul, Int.one_mul] at h1; omega)
      omega
    have hLn : L < n := by
      have := M.mul_ge (b := L) (x := d) hL0 d1; omega
    obtain ⟨fq, hfq⟩ : ∃ f, Hid (f = m / q) := ⟨_, rfl⟩
    have HF : ∀ w, Calls Try.prog 97 #[.agg #[.int .i64 m, .int .i64 q]] w fun e w' => e = .returned (.int .i64 fq) ∧ Below w.heap.size w w' := by
      rw [hfq.out]; exact fun w => floor_any m q w (by omega) (by omega) (by omega) (by omega)
    have HF' := hide HF; clear HF
    have HN := ns_start3 w n d m q
    have hcmp : L + 1 ≤ fq ↔ (L + 1) * q ≤ m := by rw [hfq.out]; exact Int.le_ediv_iff_mul_le (by omega)
    by_cases hw : L + 1 ≤ fq
    · have HSP := hide (M.sp_base n1 d1 c1 c2 (hcmp.1 hw) hL0)
      clear hcmp hL
      go_enter Try.func105, Try.ntmps105
      go_wp2_with fail
      refine (rounded_any n d 1 _ ⟨by decide, by decide⟩ (by omega) (by omega) (by omega) (by omega) (L + 1) hz).mono ?_
      rintro en w1 ⟨rfl, hb⟩
      have HN1 := ns_step HN hb; clear hb HN
      obtain ⟨⟨⟨r1, r2⟩, ⟨r3, r4⟩, ⟨r5, r6⟩⟩, ⟨⟨z1, z2⟩, ⟨z3, z4⟩⟩, _⟩ := HN1.out
      go_wp2_with fail
      refine (HF'.out _).mono ?_
      rintro en w2 ⟨rfl, hb⟩
      have HN2 := ns_step HN1 hb; clear hb HN1 r1 r2 r3 r4 r5 r6 z1 z2 z3 z4
      obtain ⟨⟨⟨r1, r2⟩, ⟨r3, r4⟩, ⟨r5, r6⟩⟩, ⟨⟨z1, z2⟩, ⟨z3, z4⟩⟩, _⟩ := HN2.out
      go_wp2_with fail
      refine bodyPost_ret (v := .agg #[.int .i64 (L + 1), .int .i64 1]) (by simp [results, Try.results105, go_sem, *]) rfl ⟨L + 1, 1, rfl, HSP.out, ?_⟩
      exact (ns_hi HN2 (L + 1) 1).out.2.2
    · have hm3 : m < (L + 1) * q := by
        have : ¬ (L + 1) * q ≤ m := fun c => hw (hcmp.2 c)
        omega
      have e1 : (L + 1) * q = L * q + q := by rw [Int.add_mul, Int.one_mul]
      have e2 : (L + 1) * d = L * d + d := by rw [Int.add_mul, Int.one_mul]
      have hLq : L * q < m := by
        have k1 : L * d * q < n * q := M.lt_mul (by omega) c2
        have e3 : L * d * q = L * q * d := by grind
        exact M.lt_of_mul (k := d) (by omega) (by omega)
      have hLq0 : 0 ≤ L * q := Int.mul_nonneg hL0 (by omega)
      have hLd0 : 0 ≤ L * d := Int.mul_nonneg hL0 (by omega)
      have e4 : q * (n - L * d) = n * q - L * q * d := by grind
      have e5 : d * (m - L * q) = m * d - L * q * d := by grind
      obtain ⟨u, hu⟩ : ∃ u, u = m - L * q := ⟨_, rfl⟩
      obtain ⟨v, hv⟩ : ∃ v, v = n - L * d := ⟨_, rfl⟩
      have HSZ : Hid (Sizes q u d v) := hide ⟨⟨⟨q1, q2⟩, ⟨by omega, by omega⟩⟩, ⟨⟨d1, d2⟩, ⟨by omega, by omega⟩⟩, by rw [hu, hv]; omega⟩
      have HMS : Hid (u + v ≤ (N : Int)) := hide (by omega)
      have HU : Hid (u = m + -L * q) := hide (by rw [hu, Int.neg_mul]; omega)
      have HV : Hid (v = n + -L * d) := hide (by rw [hv, Int.neg_mul]; omega)
      have GU : Hid (In64 (-L * q) ∧ In64 (m + -L * q)) := hide ⟨by rw [Int.neg_mul]; exact ⟨by omega, by omega⟩, by rw [Int.neg_mul]; exact ⟨by omega, by omega⟩⟩
      have GV : Hid (In64 (-L * d) ∧ In64 (n + -L * d)) := hide ⟨by rw [Int.neg_mul]; exact ⟨by omega, by omega⟩, by rw [Int.neg_mul]; exact ⟨by omega, by omega⟩⟩
      have HST : Hid (∀ x y, M.Sp q u d v x y → M.Sp n d m q (y + L * x) x ∧ In64 (L * x) ∧ In64 (y + L * x)) := hide (fun x y h => by
        have h' : M.Sp q (m - L * q) d (n - L * d) x y := by rw [← hu, ← hv]; exact h
        have hs := M.sp_step n1 d1 q1 hL0 c2 h'
        have hb := M.sp_bd d1 hle hs
        have t0 : 0 ≤ L * x := Int.mul_nonneg hL0 (by have := h.1.1.1; omega)
        have := h.1.1.2
        exact ⟨hs, ⟨by omega, by omega⟩, ⟨by omega, by omega⟩⟩)
      have hnL : IntKind.i64.wrap (-L) = -L := IntWalk.i64_in _ (by omega)
      have HNL := hide hnL
      clear hcmp hL hm3 e1 e2 e4 e5 hLq hLq0 hLd0 hu hv hnL c1 c2
      go_enter Try.func105, Try.ntmps105
      go_wp2_with fail
      refine (rounded_any n d 1 _ ⟨by decide, by decide⟩ (by omega) (by omega) (by omega) (by omega) (L + 1) hz).mono ?_
      rintro en w1 ⟨rfl, hb⟩
      have HN1 := ns_step HN hb; clear hb HN
      obtain ⟨⟨⟨r1, r2⟩, ⟨r3, r4⟩, ⟨r5, r6⟩⟩, ⟨⟨z1, z2⟩, ⟨z3, z4⟩⟩, _⟩ := HN1.out
      go_wp2_with fail
      refine (HF'.out _).mono ?_
      rintro en w2 ⟨rfl, hb⟩
      have HN2 := ns_step HN1 hb; clear hb HN1 r1 r2 r3 r4 r5 r6 z1 z2 z3 z4
      obtain ⟨⟨⟨r1, r2⟩, ⟨r3, r4⟩, ⟨r5, r6⟩⟩, ⟨⟨z1, z2⟩, ⟨z3, z4⟩⟩, _⟩ := HN2.out
      go_wp2_with fail
      have hnx0 : Hid (NX w w2 n d m q) := hide ⟨0, 0, HN2.out⟩
      have hnL := HNL.out
      clear r5 r6 z1 z2
      go_region_held3 (fun w' => ((w'.cell? ⟨w.heap.size, 0, none⟩ = some (.int .i64 n) ∧ w'.cell? ⟨w.heap.size, 1, none⟩ = some (.int .i64 d)) ∧ (w'.cell? ⟨w.heap.size + 1, 0, none⟩ = some (.int .i64 m) ∧ w'.cell? ⟨w.heap.size + 1, 1, none⟩ = some (.int .i64 q))) ∧ Hid (NX w w' n d m q))
        ((go_split_ands; (first | dsimp only | skip); refine ⟨⟨⟨?_, ?_⟩, ⟨?_, ?_⟩⟩, ?_⟩ <;> first | with_reducible assumption | (simp only [World.cell?_drew]; with_reducible assumption) | (with_reducible exact kc hbw ‹_›) | (with_reducible exact nx_drew ‹_›) | (with_reducible exact nx_step ‹_› hbw) | (with_reducible exact nx_set ‹_› _ _) | (go_simp; done)))
        (first | (go_at_call_of 98 m; go_split_ands; refine (shifted_b m q (-L) u _ GU HU).mono ?_; rintro en w' ⟨rfl, hbw⟩) | (go_at_call_of 98 n; go_split_ands; refine (shifted_b n d (-L) v _ GV HV).mono ?_; rintro en w' ⟨rfl, hbw⟩) | (go_at_call 105; go_split_ands; refine (IH.out q u d v _ HMS.out HSZ.out).mono ?_; rintro en w' ⟨x, y, rfl, hsp, hbw⟩; have HST2 := hide (HST.out x y hsp); obtain ⟨X, hX⟩ : ∃ X, Hid (X = y + L * x) := ⟨_, rfl⟩) | (go_at_call_of 98 y; go_split_ands; refine (shifted_b y x L X _ (hide HST2.out.2) hX).mono ?_; rintro en w' ⟨rfl, hbw⟩; have hnx := nx_step ‹_› hbw; obtain ⟨⟨⟨u0, g0⟩, ⟨u1, g1⟩⟩, ⟨g2, g3⟩, _⟩ := nx_res hnx) | (go_at_call 90; go_split_ands; refine (inverse_b _ _ _).mono ?_; rintro en w' ⟨rfl, hbw⟩))
      go_wp2_with fail
      refine bodyPost_ret (v := .agg #[.int .i64 X, .int .i64 x]) (by simp [results, Try.results105, go_sem, g0, g1]) rfl ⟨X, x, rfl, by rw [hX.out]; exact HST2.out.1, ?_⟩
      exact bs (bs (nx_res hnx).2.2 (by simp only []; omega) _) (by simp only []; omega) _
end Go.Proofs.Ytpgnbjlpkpmpcaa
