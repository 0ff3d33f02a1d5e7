/- What Floor counts, plain; floorAt, of the program. -/
import Derived.Test.YtgkonocjafoblaaVa
set_option linter.unusedVariables false
namespace Go.Proofs.Ytgkonocjafoblaa
open Go Go.RowKit Go.Ab
def flA (x : Nat → Nat) (N T : Nat) : Nat → Nat
  | 0 => 0
  | k + 1 => flA x N T k + (if N < x k + T then 1 else 0)
def flB (x : Nat → Nat) (N T : Nat) : Nat → Nat
  | 0 => 0
  | k + 1 => flB x N T k + (if N < x k + T then 0 else if N < 2 * x k then 1 else 0)
def flF (x : Nat → Nat) (N T : Nat) : Nat → Nat
  | 0 => 0
  | k + 1 => flF x N T k + (if N < x k + T then 0 else if N < 2 * x k then N - x k else 0)
def flM (x : Nat → Nat) (N T : Nat) : Nat → Nat
  | 0 => 0
  | k + 1 => flM x N T k + (if N < x k + T then 0 else if N < 2 * x k then 0 else if T ≤ x k then x k else 0)
/-- a state of the count: the numbers of both loops after k strips -/
def FlS (x : Nat → Nat) (N T k A B M F : Nat) : Prop := A = flA x N T k ∧ B = flB x N T k ∧ M = flM x N T k ∧ F = flF x N T k
theorem FlS.start (x : Nat → Nat) (N T : Nat) : FlS x N T 0 0 0 0 0 := ⟨rfl, rfl, rfl, rfl⟩
theorem FlS.long {x : Nat → Nat} {N T k A B M F : Nat} (h : FlS x N T k A B M F) (h1 : N < x k + T) : FlS x N T (k + 1) (A + 1) B M F := by
  obtain ⟨rfl, rfl, rfl, rfl⟩ := h
  exact ⟨by simp [flA, h1], by simp [flB, h1], by simp [flM, h1], by simp [flF, h1]⟩
theorem FlS.half {x : Nat → Nat} {N T k A B M F : Nat} (h : FlS x N T k A B M F) (h1 : ¬ N < x k + T) (h2 : N < 2 * x k) : FlS x N T (k + 1) A (B + 1) M (F + (N - x k)) := by
  obtain ⟨rfl, rfl, rfl, rfl⟩ := h
  exact ⟨by simp [flA, h1], by simp [flB, h1, h2], by simp [flM, h1, h2], by simp [flF, h1, h2]⟩
theorem FlS.mid {x : Nat → Nat} {N T k A B M F : Nat} (h : FlS x N T k A B M F) (h1 : ¬ N < x k + T) (h2 : ¬ N < 2 * x k) (h3 : T ≤ x k) : FlS x N T (k + 1) A B (M + x k) F := by
  obtain ⟨rfl, rfl, rfl, rfl⟩ := h
  exact ⟨by simp [flA, h1], by simp [flB, h1, h2], by simp [flM, h1, h2, h3], by simp [flF, h1, h2]⟩
theorem FlS.low {x : Nat → Nat} {N T k A B M F : Nat} (h : FlS x N T k A B M F) (h1 : ¬ N < x k + T) (h2 : ¬ N < 2 * x k) (h3 : ¬ T ≤ x k) : FlS x N T (k + 1) A B M F := by
  obtain ⟨rfl, rfl, rfl, rfl⟩ := h
  exact ⟨by simp [flA, h1], by simp [flB, h1, h2], by simp [flM, h1, h2, h3], by simp [flF, h1, h2]⟩
theorem FlS.bound {x : Nat → Nat} {N T : Nat} (hN : N ≤ 2000) : ∀ {k : Nat}, (∀ i, i < k → x i ≤ N) → ∀ {A B M F : Nat}, FlS x N T k A B M F → (A ≤ k ∧ B ≤ k) ∧ M ≤ 2000 * k ∧ F ≤ 2000 * k
  | 0, _, A, B, M, F, h => by obtain ⟨rfl, rfl, rfl, rfl⟩ := h; simp [flA, flB, flM, flF]
  | k + 1, hx, A, B, M, F, h => by
    obtain ⟨⟨h1, h2⟩, h3, h4⟩ := FlS.bound (k := k) hN (fun i hi => hx i (by omega)) (A := flA x N T k) (B := flB x N T k) (M := flM x N T k) (F := flF x N T k) ⟨rfl, rfl, rfl, rfl⟩
    obtain ⟨rfl, rfl, rfl, rfl⟩ := h
    have h5 := hx k (by omega)
    refine ⟨⟨?_, ?_⟩, ?_, ?_⟩
    · unfold flA; split <;> omega
    · unfold flB; repeat' split
      all_goals omega
    · unfold flM; repeat' split
      all_goals omega
    · unfold flF; repeat' split
      all_goals omega
/-- the bars of what is left -/
def flC (N M F : Nat) : Nat := if F < M then (M - F + N - 1) / N else 0
def flV (x : Nat → Nat) (N T l : Nat) : Nat := flA x N T l + flB x N T l + flC N (flM x N T l) (flF x N T l)
def flTop (x : Nat → Nat) (N l : Nat) : Nat → Nat
  | 0 => 0
  | t + 1 => if flTop x N l t < flV x N t l then flV x N t l else flTop x N l t
theorem flC_le {N M F : Nat} (hN : 1 ≤ N) (hM : M ≤ 28000) (h : N ≤ 2000) : flC N M F ≤ 30000 := by
  unfold flC
  split
  · exact Nat.le_trans (Nat.div_le_self _ _) (by omega)
  · omega
theorem flV_le {x : Nat → Nat} {N T l : Nat} (hN : 1 ≤ N) (h : N ≤ 2000) (hx : ∀ i, i < l → x i ≤ N) (hl : l ≤ 14) : flV x N T l ≤ 31000 := by
  obtain ⟨⟨h1, h2⟩, h3, h4⟩ := FlS.bound (T := T) h hx (A := flA x N T l) (B := flB x N T l) (M := flM x N T l) (F := flF x N T l) ⟨rfl, rfl, rfl, rfl⟩
  have := flC_le (N := N) (M := flM x N T l) (F := flF x N T l) hN (by omega) h
  unfold flV
  omega
theorem flTop_le {x : Nat → Nat} {N l : Nat} (hN : 1 ≤ N) (h : N ≤ 2000) (hx : ∀ i, i < l → x i ≤ N) (hl : l ≤ 14) : ∀ t, flTop x N l t ≤ 31000
  | 0 => by simp [flTop]
  | t + 1 => by
    have h1 := flTop_le hN h hx hl t
    have h2 := flV_le (T := t) hN h hx hl
    unfold flTop
    split <;> omega
/-- strips of lengths x in memory, each from 1 to N -/
structure St (w : World) (a : Option Addr) (l N : Nat) (f : Nat → Int) (x : Nat → Nat) : Prop where
  s : Ls w a l f
  e : ∀ i, i < l → f i = (x i : Int)
  b : ∀ i, i < l → 1 ≤ x i ∧ x i ≤ N
  n : 1 ≤ N ∧ N ≤ 2000
  hl : l ≤ 14
theorem St.below {w w' : World} {a : Option Addr} {l N : Nat} {f : Nat → Int} {x : Nat → Nat} (h : St w a l N f x) (hb : Below w.heap.size w w') : St w' a l N f x := ⟨h.s.below hb, h.e, h.b, h.n, h.hl⟩
theorem St.at {w : World} {a : Option Addr} {l N k : Nat} {f : Nat → Int} {x : Nat → Nat} (h : St w a l N f x) (hk : k < l) : ∃ b off, a = some ⟨b, off, none⟩ ∧ w.cell? ⟨b, off + k, none⟩ = some (.int .i64 (x k : Int)) ∧ 1 ≤ x k ∧ x k ≤ N := by
  rcases h.s with e | ⟨b, off, rfl, hc⟩
  · omega
  · exact ⟨b, off, rfl, by rw [← h.e k hk]; exact (hc k hk).1, h.b k hk⟩
set_option maxRecDepth 20000 in
set_option maxHeartbeats 2000000 in
theorem floorAt_is (N T l c : Nat) (a : Option Addr) (f : Nat → Int) (x : Nat → Nat) (w : World) (HS : Hid (St w a l N f x)) (hT : 2 * T ≤ N) :
    Calls Try.prog 105 #[.int .i64 N, .slice a l c, .int .i64 T] w fun e w' => e = .returned (.int .i64 (flV x N T l : Int)) ∧ w = w' := by
  have hn1 := HS.out.n.1
  have hn2 := HS.out.n.2
  have hl := HS.out.hl
  have HX : Hid (∀ i, i < l → x i ≤ N) := hide (fun i hi => (HS.out.b i hi).2)
  go_enter Try.func105, Try.ntmps105
  go_wp2_with fail
  go_loop [14, 7, 8, 9] (fun i vb vm vf => ∃ k A B M F : Nat, k ≤ l ∧ i = .int .i64 (k : Int) ∧ vb = .int .i64 ((A + B : Nat) : Int) ∧ vm = .int .i64 (M : Int) ∧ vf = .int .i64 (F : Int) ∧ FlS x N T k A B M F) (fun i _ _ _ => l - (intOf i).toNat)
  case atStart => exact ⟨0, 0, 0, 0, 0, Nat.zero_le _, rfl, rfl, rfl, rfl, FlS.start x N T⟩
  case round =>
    obtain ⟨k, A, B, M, F, hk, rfl, rfl, rfl, rfl, hs⟩ := hrel
    have HF := hide hs
    clear hs
    have hbd := FlS.bound hn2 (fun i hi => HX.out i (by omega)) HF.out
    obtain ⟨⟨b1, b2⟩, b3, b4⟩ := hbd
    by_cases hlt : k < l
    · obtain ⟨b, off, rfl, q, q1, q2⟩ := HS.out.at hlt
      obtain ⟨X, eX⟩ : ∃ X, Hid (X = x k) := ⟨_, hide rfl⟩
      rw [← eX.out] at q q1 q2
      by_cases g1 : N < X + T
      · have HF2 := hide (HF.out.long (by rw [← eX.out]; exact g1))
        go_wp2_with fail
        go_round
        case rel => exact ⟨k + 1, A + 1, B, M, F, by omega, by go_num, by go_num, rfl, rfl, HF2⟩
        case measure => simp [intOf]; omega
      · by_cases g2 : N < 2 * X
        · have HF2 := hide (HF.out.half (by rw [← eX.out]; exact g1) (by rw [← eX.out]; exact g2))
          go_wp2_with fail
          go_round
          case rel => exact ⟨k + 1, A, B + 1, M, F + (N - X), by omega, by go_num, by go_num, rfl, by go_num, by rw [eX.out]; exact HF2.out⟩
          case measure => simp [intOf]; omega
        · by_cases g3 : T ≤ X
          · have HF2 := hide (HF.out.mid (by rw [← eX.out]; exact g1) (by rw [← eX.out]; exact g2) (by rw [← eX.out]; exact g3))
            go_wp2_with fail
            go_round
            case rel => exact ⟨k + 1, A, B, M + X, F, by omega, by go_num, by go_num, by go_num, rfl, by rw [eX.out]; exact HF2.out⟩
            case measure => simp [intOf]; omega
          · have HF2 := hide (HF.out.low (by rw [← eX.out]; exact g1) (by rw [← eX.out]; exact g2) (by rw [← eX.out]; exact g3))
            go_wp2_with fail
            go_round
            case rel => exact ⟨k + 1, A, B, M, F, by omega, by go_num, by go_num, rfl, rfl, HF2.out⟩
            case measure => simp [intOf]; omega
    · obtain rfl : k = l := by omega
      have HV : Hid (flV x N T k = A + B + flC N M F) := hide (by obtain ⟨rfl, rfl, rfl, rfl⟩ := HF.out; rfl)
      by_cases g1 : F < M
      · obtain ⟨D, eD⟩ : ∃ D, Hid (D = M - F) := ⟨_, hide rfl⟩
        obtain ⟨E, eE⟩ : ∃ E, Hid (E = D + N - 1) := ⟨_, hide rfl⟩
        obtain ⟨Q, eQ⟩ : ∃ Q, Hid (Q = E / N) := ⟨_, hide rfl⟩
        have d1 : (M : Int) - (F : Int) = (D : Int) := by have := eD.out; omega
        have d2 : (D : Int) + (N : Int) - 1 = (E : Int) := by have := eD.out; have := eE.out; omega
        have d3 : (E : Int).tdiv (N : Int) = (Q : Int) := by rw [eQ.out, Int.tdiv_eq_ediv_of_nonneg (by omega)]; exact (Int.natCast_ediv E N).symm
        have d4 : Q ≤ 31000 := by have := Nat.div_le_self E N; have := eQ.out; have := eE.out; have := eD.out; omega
        have d5 : 0 < D := by have := eD.out; omega
        have d6 : D ≤ 31000 := by have := eD.out; omega
        have HC : Hid (flC N M F = Q) := hide (by unfold flC; rw [if_pos g1, ← eD.out, ← eE.out, ← eQ.out])
        go_wp2_with fail
        go_ret
        exact ⟨by rw [HV.out, HC.out]; go_num, rfl⟩
      · have HC : Hid (flC N M F = 0) := hide (by unfold flC; rw [if_neg g1])
        have z1 : ((N : Int) - 1).tdiv (N : Int) = 0 := Int.tdiv_eq_zero_of_lt (by omega) (by omega)
        by_cases g2 : (M : Int) - (F : Int) < 0
        · go_wp2_with fail
          go_ret
          exact ⟨by rw [HV.out, HC.out]; go_num, rfl⟩
        · obtain rfl : M = F := by omega
          go_wp2_with fail
          go_ret
          exact ⟨by rw [HV.out, HC.out]; go_num, rfl⟩
end Go.Proofs.Ytgkonocjafoblaa
