import Derived.Test.YtpgnbjlpkpmpcaaIj
import Derived.Test.YtpgnbjlpkpmpcaaZt
set_option linter.unusedVariables false
namespace Go.Proofs.Ytpgnbjlpkpmpcaa.R
open Go.RowKit Go.Proofs.Ytpgnbjlpkpmpcaa.N
/-- the result's variable, and a variable with a rational number above it -/
def Qv (w0 w : World) (s : Nat) (q : Rat) : Prop := (R2 w0 w0.heap.size w ∧ w0.heap.size < s) ∧ (∃ v, QA w s v q) ∧ FZ w s
theorem qv_step {w0 w w' : World} {s : Nat} {q : Rat} (h : Hid (Qv w0 w s q)) (hb : Below w.heap.size w w') : Hid (Qv w0 w' s q) := by
  obtain ⟨⟨r, z⟩, ⟨v, hq⟩, hf⟩ := h.out
  exact hide ⟨⟨(r2_step (hide r) hb).out, z⟩, ⟨v, (qa_step (hide hq) hb).out⟩, fz_step hf hq.2 hb⟩
theorem qv_drew {w0 w : World} {s : Nat} {q : Rat} (h : Hid (Qv w0 w s q)) : Hid (Qv w0 w.drew s q) := by
  obtain ⟨⟨⟨⟨⟨u0, q0⟩, ⟨u1, q1⟩⟩, ⟨g2, g3⟩, hs, b⟩, z⟩, ⟨v, hq⟩, hf⟩ := h.out
  exact hide ⟨⟨⟨⟨⟨u0, q0⟩, ⟨u1, q1⟩⟩, ⟨g2, g3⟩, hs, b.drew⟩, z⟩, ⟨v, hq⟩, hf⟩
theorem qv_get {w0 w : World} {s : Nat} {q : Rat} (h : Hid (Qv w0 w s q)) : ∃ b x l1 c1 y l2 c2, Hid (RQ w (.agg #[.bool b, .slice x l1 c1, .slice y l2 c2]) q) ∧ (w.cell? ⟨s, 0, none⟩ = some (.bool b) ∧ w.cell? ⟨s, 1, none⟩ = some (.slice x l1 c1) ∧ w.cell? ⟨s, 2, none⟩ = some (.slice y l2 c2)) ∧
    (w.frozen? ⟨s, 0, none⟩ = false ∧ w.frozen? ⟨s, 1, none⟩ = false ∧ w.frozen? ⟨s, 2, none⟩ = false) ∧ s < w.heap.size := by
  obtain ⟨_, ⟨v, hq, b, x, l1, c1, y, l2, c2, rfl, h0, h1, h2⟩, hf⟩ := h.out
  exact ⟨b, x, l1, c1, y, l2, c2, hide hq, ⟨h0, h1, h2⟩, hf, cell_lt h0⟩
theorem cell_put3 {w : World} {f : Nat} {a : Addr} {x : Value} (h : w.cell? a = some x) (hne : a.block ≠ f) (b : Bool) (p q : Option Addr) (l1 c1 l2 c2 : Nat) : (put3 w f b p q l1 c1 l2 c2).cell? a = some x := by
  have ne : ∀ i, (⟨f, i, none⟩ : Addr) ≠ a := fun i e => by rw [← e] at hne; simp at hne
  unfold put3
  rw [World.cell?_setCell_other (h := ne _), World.cell?_setCell_other (h := ne _), World.cell?_setCell_other (h := ne _)]; exact h
theorem qv_put {w0 w : World} {s : Nat} {q q' : Rat} {b : Bool} {x y : Option Addr} {l1 c1 l2 c2 : Nat} (h : Hid (Qv w0 w s q)) (hr : RQ w (.agg #[.bool b, .slice x l1 c1, .slice y l2 c2]) q') : Hid (Qv w0 (put3 w s b x y l1 c1 l2 c2) s q') := by
  obtain ⟨⟨⟨⟨⟨u0, q0⟩, ⟨u1, q1⟩⟩, ⟨g2, g3⟩, hs, bl⟩, z⟩, ⟨v, hq, hc⟩, hf⟩ := h.out
  refine hide ⟨⟨⟨⟨⟨u0, cell_put3 q0 (by simp only []; omega) _ _ _ _ _ _ _⟩, ⟨u1, cell_put3 q1 (by simp only []; omega) _ _ _ _ _ _ _⟩⟩, ?_, hs, below_put bl (by omega) _ _ _ _ _ _ _⟩, z⟩, ⟨_, rq_put hr hc _ _ _ _ _ _ _, c3_put_same hc _ _ _ _ _ _ _⟩, fz_put hf _ _ _ _ _ _ _⟩
  unfold put3; simp only [frozen_set]; exact ⟨g2, g3⟩
theorem qv_new {w0 w : World} {q : Rat} {b : Bool} {x y : Option Addr} {l1 c1 l2 c2 : Nat} (h : Hid (R2 w0 w0.heap.size w)) (hr : RQ w (.agg #[.bool b, .slice x l1 c1, .slice y l2 c2]) q) : Hid (Qv w0 (w.alloc (.cells #[.bool b, .slice x l1 c1, .slice y l2 c2] 43)) w.heap.size q) := by
  have hb := ba (Below.refl w.heap.size w) (.cells #[.bool b, .slice x l1 c1, .slice y l2 c2] 43)
  have hr2 := r2_step h hb
  obtain ⟨⟨⟨a, ha⟩, _⟩, _⟩ := h.out
  exact hide ⟨⟨hr2.out, cell_lt ha⟩, ⟨_, hr.below hb, c3_new _ _ _ _ _ _ _ _⟩, fz_new _ _ _ _ _ _ _ _⟩
set_option maxRecDepth 20000 in
set_option maxHeartbeats 2000000 in
theorem rfromT_long (a : Option Addr) (len cap : Nat) (w : World) (h : 64 < len) : Calls Try.prog 56 #[.slice a len cap] w (FtRet w 0 0 3) := by
  have hl : (64 : Int) < (len : Int) := by omega
  clear h
  go_enter Try.func56, Try.ntmps56
  go_wp2_with fail
  refine bodyPost_ret (v := .tuple #[.agg #[.int .i64 0, .int .i64 0], .int .i64 3]) (by simp [results, Try.results56, go_sem]) rfl ⟨rfl, ba (Below.refl _ _) _⟩
set_option maxRecDepth 20000 in
set_option maxHeartbeats 2000000 in
theorem rfromT_none (a : Option Addr) (cap : Nat) (w : World) : Calls Try.prog 56 #[.slice a 0 cap] w (FtRet w 0 0 2) := by
  go_enter Try.func56, Try.ntmps56
  go_wp2_with fail
  refine bodyPost_ret (v := .tuple #[.agg #[.int .i64 0, .int .i64 0], .int .i64 2]) (by simp [results, Try.results56, go_sem]) rfl ⟨rfl, ba (Below.refl _ _) _⟩
set_option maxRecDepth 20000 in
set_option maxHeartbeats 2000000 in
theorem rfromT_bad (b off len cap : Nat) (ns : Nat → Int) (w : World) (hl : len ≤ 62) (hc : len + 2 ≤ cap) (HC : Hid (∀ i, i < len + 2 → w.cell? ⟨b, off + i, none⟩ = some (.int .i64 (ns i)))) (HT : Hid (¬ M.Terms ns (len + 1))) :
    Calls Try.prog 56 #[.slice (some ⟨b, off, none⟩) (len + 2) cap] w (FtRet w 0 0 2) := by
  have h64 : ((len : Int) + 2) ≤ 64 := by omega
  have hc1 : 1 < cap := by omega
  have hc2 : ((len + 2 : Nat) : Int) ≤ (cap : Int) := by omega
  have e2 : ((len : Int) + 2 == 0) = false := by rw [beq_eq_false_iff_ne]; omega
  have e3 : (1 : Int) < (len : Int) + 2 := by omega
  have c0 := HC.out (len + 1) (by omega)
  have hr := r2_begin w
  have z0 := cell_lt c0
  by_cases t0 : ns (len + 1) = 1
  · rw [t0] at c0
    clear t0
    go_enter Try.func56, Try.ntmps56
    go_wp2_with fail
    refine bodyPost_ret (v := .tuple #[.agg #[.int .i64 0, .int .i64 0], .int .i64 2]) (by simp [results, Try.results56, go_sem]) rfl ⟨rfl, ba (Below.refl _ _) _⟩
  · have t1 : (ns (len + 1) == 1) = false := by rw [beq_eq_false_iff_ne]; exact t0
    have T0 := hide t0
    clear t0
    go_enter Try.func56, Try.ntmps56
    go_wp2_with fail
    go_loop [33] (fun i => ∃ k : Nat, k ≤ len + 1 ∧ i = .int .i64 k ∧ Hid (∀ j, j < k → 1 ≤ ns (j + 1))) (fun i => len + 1 - (intOf i).toNat)
    case atStart => exact ⟨0, by omega, rfl, fun j hj => absurd hj (by omega)⟩
    case round =>
      obtain ⟨k, hk, rfl, ha⟩ := hrel
      by_cases hlt : k < len + 1
      · have c1 := kc (ba (Below.refl _ _) (.cells #[.int .i64 0, .int .i64 0] 23)) (HC.out (k + 1) (by omega))
        rw [show off + (k + 1) = off + 1 + k by omega] at c1
        by_cases h1 : 1 ≤ ns (k + 1)
        · have HA : Hid (∀ j, j < k + 1 → 1 ≤ ns (j + 1)) := hide fun j hj => by
            by_cases e : j = k
            · rw [e]; exact h1
            · exact ha.out j (by omega)
          go_wp2_with fail
          go_round
          case rel => exact ⟨k + 1, by omega, by go_num, HA⟩
          case measure => simp [intOf]; omega
        · have h2 : ns (k + 1) < 1 := by omega
          clear h1
          go_wp2_with fail
          refine bodyPost_ret (v := .tuple #[.agg #[.int .i64 0, .int .i64 0], .int .i64 2]) (by simp [results, Try.results56, go_sem]) rfl ⟨rfl, ba (Below.refl _ _) _⟩
      · exfalso
        refine HT.out ⟨fun i h4 h5 => by have := ha.out (i - 1) (by omega); rw [show i - 1 + 1 = i by omega] at this; exact this, fun _ => ?_⟩
        have h2 := ha.out len (by omega)
        have := T0.out
        omega
end Go.Proofs.Ytpgnbjlpkpmpcaa.R
