import Derived.Test.YtpgnbjlpkpmpcaaIk
set_option linter.unusedVariables false
namespace Go.Proofs.Ytpgnbjlpkpmpcaa.R
open Go.RowKit Go.Proofs.Ytpgnbjlpkpmpcaa.N
theorem int_b (n : Int) (w : World) (h : In64 n) (q : Rat) (hq : Hid (q = (n : Rat))) : Calls Try.prog 77 #[.int .i64 n] w (RetQ w q) := by
  rw [hq.out]; exact int_q n w h.1 h.2
set_option maxRecDepth 20000 in
set_option maxHeartbeats 4000000 in
theorem rfromT_one (b off cap : Nat) (n : Int) (x y z : Int) (w : World) (hc : 1 ≤ cap) (c0 : w.cell? ⟨b, off, none⟩ = some (.int .i64 n)) (hn : In64 n) (hx : Hid (x = M.aN (n : Rat))) (hy : Hid (y = M.aD (n : Rat))) (hz : Hid (z = M.aE (n : Rat))) :
    Calls Try.prog 56 #[.slice (some ⟨b, off, none⟩) 1 cap] w (FtRet w x y z) := by
  have hr := r2_begin w
  have z0 := cell_lt c0
  obtain ⟨q, hq⟩ : ∃ q, Hid (q = (n : Rat)) := ⟨_, rfl⟩
  rw [← hq.out] at hx hy hz
  rcases Nat.lt_or_ge 1 cap with h1 | h1
  rotate_left
  obtain rfl : cap = 1 := by omega
  clear hc h1
  rotate_left
  all_goals (
    go_enter Try.func56, Try.ntmps56
    go_wp2_with fail
    go_loop [33] (fun i => i = .int .i64 0) (fun _ => 0)
    case atStart => rfl
    case round =>
      subst hrel
      go_wp2_with fail
      (with_reducible refine (int_b n _ hn q hq).mono ?_)
      rintro en w1 ⟨v, rfl, hv, hb⟩
      have hr1 := r2_step hr hb
      obtain ⟨ao, la, ca, bo, lb, cb, rfl, hv2, hv3⟩ := hv
      have hv : RQ w1 (.agg #[.bool (decide (q.num < 0)), .slice ao la ca, .slice bo lb cb]) q := ⟨ao, la, ca, bo, lb, cb, rfl, hv2, hv3⟩
      have hqv := qv_new hr1 hv
      have HV := hide hv
      clear hb hr hv hv2 hv3
      obtain ⟨bs', hbs⟩ : ∃ b : Bool, Hid (b = decide (q.num < 0)) := ⟨_, rfl⟩
      rw [← hbs.out] at HV hqv ⊢
      go_wp2_with fail
      go_loopw [7] (fun i wr => i = .int .i64 (-1) ∧ Qv w wr w1.heap.size q) (fun _ _ => 0)
      case atStart => exact ⟨rfl, hqv.out⟩
      case round =>
        obtain ⟨rfl, hS⟩ := hrel
        have HS := hide hS
        clear hS
        obtain ⟨b3, x3, l3, c3, y3, l4, c4, HR, ⟨p0, p1, p2⟩, ⟨f0, f1, f2⟩, hlt⟩ := qv_get HS
        go_wp2_with fail
        (with_reducible refine (answer_q q _ _ HR.out x y z hx hy hz).mono ?_)
        rintro en w3 ⟨rfl, hb⟩
        have HS2 := qv_step HS hb
        clear hb p0 p1 p2 f0 f1 f2 hlt
        obtain ⟨⟨⟨⟨u0, g0⟩, ⟨u1, g1⟩⟩, ⟨g2, g3⟩, _, _⟩, _⟩ := HS2.out.1
        go_wp2_with fail
        refine bodyPost_ret (v := .tuple #[.agg #[.int .i64 x, .int .i64 y], .int .i64 z]) (by simp [results, Try.results56, go_sem, *]) rfl ⟨rfl, ?_⟩
        exact bs (bs HS2.out.1.1.2.2.2 (Nat.le_refl _) _) (Nat.le_refl _) _)
end Go.Proofs.Ytpgnbjlpkpmpcaa.R
