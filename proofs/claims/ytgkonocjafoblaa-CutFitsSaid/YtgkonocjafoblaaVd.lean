/- Floor, of the reference, of valid arguments. -/
import Derived.Test.YtgkonocjafoblaaVb
set_option linter.unusedVariables false
namespace Go.Proofs.Ytgkonocjafoblaa
open Go Go.RowKit Go.Ab
set_option maxRecDepth 20000 in
set_option maxHeartbeats 4000000 in
theorem rfloor_ok (N l c : Nat) (a : Option Addr) (f : Nat → Int) (x : Nat → Nat) (w : World) (HS : Hid (St w a l N f x)) (HB : Hid (stB N f l = true)) :
    Calls Try.prog 62 #[.int .i64 N, .slice a l c] w fun e w' => e = .returned (.tuple #[.int .i64 (flTop x N l (N / 2 + 1) : Int), .int .i64 0]) ∧ w = w' := by
  have hn1 := HS.out.n.1
  have hn2 := HS.out.n.2
  have hl := HS.out.hl
  have HX : Hid (∀ i, i < l → x i ≤ N) := hide (fun i hi => (HS.out.b i hi).2)
  have hml : l ≤ maxLen := by unfold maxLen; omega
  obtain ⟨H, eH⟩ : ∃ H, Hid (H = N / 2) := ⟨_, hide rfl⟩
  have h1 : (N : Int).tdiv 2 = (H : Int) := by rw [eH.out, Int.tdiv_eq_ediv_of_nonneg (by omega)]; omega
  have h2 : 2 * H ≤ N := by have := eH.out; omega
  rw [← eH.out]
  go_enter Try.func62, Try.ntmps62
  go_wp2_with (go_at_call 63; (with_reducible refine (rstrips_is N a l c f _ HS.out.s hml).mono ?_); rintro e w1 ⟨rfl, rfl⟩; rw [HB.out])
  go_loop [7, 6] (fun i v => ∃ t : Nat, t ≤ H + 1 ∧ i = .int .i64 (t : Int) ∧ v = .int .i64 (flTop x N l t : Int)) (fun i _ => H + 1 - (intOf i).toNat)
  case atStart => exact ⟨0, Nat.zero_le _, rfl, rfl⟩
  case round =>
    obtain ⟨t, ht, rfl, rfl⟩ := hrel
    have b1 := flTop_le hn1 hn2 HX.out hl t
    by_cases hlt : t < H + 1
    · have b2 := flV_le (T := t) hn1 hn2 HX.out hl
      have hT : 2 * t ≤ N := by omega
      have HV : Hid (flTop x N l (t + 1) = if flTop x N l t < flV x N t l then flV x N t l else flTop x N l t) := hide rfl
      obtain ⟨P, eP⟩ : ∃ P, Hid (P = flTop x N l t) := ⟨_, hide rfl⟩
      obtain ⟨V, eV⟩ : ∃ V, Hid (V = flV x N t l) := ⟨_, hide rfl⟩
      rw [← eP.out] at b1
      rw [← eV.out] at b2
      rw [← eP.out]
      rw [← eP.out, ← eV.out] at HV
      go_wp2_with fail
      go_loop [27, 8, 9, 10, 11] (fun i va vb vm vf => ∃ k A B M F : Nat, k ≤ l ∧ i = .int .i64 (k : Int) ∧ va = .int .i64 (A : Int) ∧ vb = .int .i64 (B : Int) ∧ vm = .int .i64 (M : Int) ∧ vf = .int .i64 (F : Int) ∧ FlS x N t k A B M F) (fun i _ _ _ _ => l - (intOf i).toNat)
      case atStart => exact ⟨0, 0, 0, 0, 0, Nat.zero_le _, rfl, rfl, rfl, rfl, rfl, FlS.start x N t⟩
      case round =>
        obtain ⟨k, A, B, M, F, hk, rfl, rfl, rfl, rfl, rfl, hs⟩ := hrel
        have HF := hide hs
        clear hs
        have hbd := FlS.bound hn2 (fun i hi => HX.out i (by omega)) HF.out
        obtain ⟨⟨b3, b4⟩, b5, b6⟩ := hbd
        by_cases hlk : k < l
        · obtain ⟨b, off, rfl, q, q1, q2⟩ := HS.out.at hlk
          obtain ⟨X, eX⟩ : ∃ X, Hid (X = x k) := ⟨_, hide rfl⟩
          rw [← eX.out] at q q1 q2
          by_cases g1 : N < X + t
          · have HF2 := hide (HF.out.long (by rw [← eX.out]; exact g1))
            go_wp2_with fail
            go_round
            case rel => exact ⟨k + 1, A + 1, B, M, F, by omega, by go_num, by go_num, rfl, rfl, rfl, HF2.out⟩
            case measure => simp [intOf]; omega
          · by_cases g2 : N < 2 * X
            · have HF2 := hide (HF.out.half (by rw [← eX.out]; exact g1) (by rw [← eX.out]; exact g2))
              go_wp2_with fail
              go_round
              case rel => exact ⟨k + 1, A, B + 1, M, F + (N - X), by omega, by go_num, rfl, by go_num, rfl, by go_num, by rw [eX.out]; exact HF2.out⟩
              case measure => simp [intOf]; omega
            · by_cases g3 : t ≤ X
              · have HF2 := hide (HF.out.mid (by rw [← eX.out]; exact g1) (by rw [← eX.out]; exact g2) (by rw [← eX.out]; exact g3))
                go_wp2_with fail
                go_round
                case rel => exact ⟨k + 1, A, B, M + X, F, by omega, by go_num, rfl, rfl, by go_num, rfl, by rw [eX.out]; exact HF2.out⟩
                case measure => simp [intOf]; omega
              · have HF2 := hide (HF.out.low (by rw [← eX.out]; exact g1) (by rw [← eX.out]; exact g2) (by rw [← eX.out]; exact g3))
                go_wp2_with fail
                go_round
                case rel => exact ⟨k + 1, A, B, M, F, by omega, by go_num, rfl, rfl, rfl, rfl, HF2.out⟩
                case measure => simp [intOf]; omega
        · obtain rfl : k = l := by omega
          have HW : Hid (V = A + B + flC N M F) := hide (by rw [eV.out]; obtain ⟨rfl, rfl, rfl, rfl⟩ := HF.out; rfl)
          by_cases g1 : F < M
          · obtain ⟨D, eD⟩ : ∃ D, Hid (D = M - F) := ⟨_, hide rfl⟩
            obtain ⟨E, eE⟩ : ∃ E, Hid (E = D + N - 1) := ⟨_, hide rfl⟩
            obtain ⟨Q, eQ⟩ : ∃ Q, Hid (Q = E / N) := ⟨_, hide rfl⟩
            have d1 : (M : Int) - (F : Int) = (D : Int) := by have := eD.out; omega
            have d2 : (D : Int) + (N : Int) - 1 = (E : Int) := by have := eD.out; have := eE.out; omega
            have d3 : (E : Int).tdiv (N : Int) = (Q : Int) := by rw [eQ.out, Int.tdiv_eq_ediv_of_nonneg (by omega)]; exact (Int.natCast_ediv E N).symm
            have d4 : Q ≤ 31000 := by have := Nat.div_le_self E N; have := eQ.out; have := eE.out; have := eD.out; omega
            have d5 : 0 < D := by have := eD.out; omega
            have d6 : D ≤ 31000 := by have := eD.out; omega
            have HC : Hid (V = A + B + Q) := hide (by rw [HW.out]; unfold flC; rw [if_pos g1, ← eD.out, ← eE.out, ← eQ.out])
            by_cases g : P < V
            · have HT : Hid (flTop x N k (t + 1) = V) := hide (by rw [HV.out, if_pos g])
              have g' : P < A + B + Q := by have := HC.out; omega
              go_wp2_with fail
              go_round
              case rel => exact ⟨t + 1, by omega, by go_num, by rw [HT.out, HC.out]; go_num⟩
              case measure => simp [intOf]; omega
            · have HT : Hid (flTop x N k (t + 1) = P) := hide (by rw [HV.out, if_neg g])
              have g' : ¬ P < A + B + Q := by have := HC.out; omega
              go_wp2_with fail
              go_round
              case rel => exact ⟨t + 1, by omega, by go_num, by rw [HT.out]⟩
              case measure => simp [intOf]; omega
          · have HC : Hid (V = A + B) := hide (by rw [HW.out]; unfold flC; rw [if_neg g1]; rfl)
            by_cases g : P < V
            · have HT : Hid (flTop x N k (t + 1) = V) := hide (by rw [HV.out, if_pos g])
              have g' : P < A + B := by have := HC.out; omega
              go_wp2_with fail
              go_round
              case rel => exact ⟨t + 1, by omega, by go_num, by rw [HT.out, HC.out]; go_num⟩
              case measure => simp [intOf]; omega
            · have HT : Hid (flTop x N k (t + 1) = P) := hide (by rw [HV.out, if_neg g])
              have g' : ¬ P < A + B := by have := HC.out; omega
              go_wp2_with fail
              go_round
              case rel => exact ⟨t + 1, by omega, by go_num, by rw [HT.out]⟩
              case measure => simp [intOf]; omega
    · obtain rfl : t = H + 1 := by omega
      go_wp2_with fail
      go_ret2
      exact ⟨rfl, rfl⟩
end Go.Proofs.Ytgkonocjafoblaa
