/- Floor, of the program and of the reference. -/
import Derived.Test.YtgkonocjafoblaaVb
set_option linter.unusedVariables false
namespace Go.Proofs.Ytgkonocjafoblaa
open Go Go.RowKit Go.Ab
set_option maxRecDepth 20000 in
set_option maxHeartbeats 2000000 in
theorem floor_ok (N l c : Nat) (a : Option Addr) (f : Nat → Int) (x : Nat → Nat) (w : World) (HS : Hid (St w a l N f x)) (HB : Hid (stB N f l = true)) :
    Calls Try.prog 61 #[.int .i64 N, .slice a l c] w fun e w' => e = .returned (.tuple #[.int .i64 (flTop x N l (N / 2 + 1) : Int), .int .i64 0]) ∧ w = w' := by
  have hn1 := HS.out.n.1
  have hn2 := HS.out.n.2
  have hl := HS.out.hl
  have HX : Hid (∀ i, i < l → x i ≤ N) := hide (fun i hi => (HS.out.b i hi).2)
  have hml : l ≤ maxLen := by unfold maxLen; omega
  obtain ⟨H, eH⟩ : ∃ H, Hid (H = N / 2) := ⟨_, hide rfl⟩
  have h1 : (N : Int).tdiv 2 = (H : Int) := by rw [eH.out, Int.tdiv_eq_ediv_of_nonneg (by omega)]; omega
  have h2 : 2 * H ≤ N := by have := eH.out; omega
  rw [← eH.out]
  go_enter Try.func61, Try.ntmps61
  go_wp2_with (go_at_call 99; (with_reducible refine (strips_is N a l c f _ HS.out.s hml).mono ?_); rintro e w1 ⟨rfl, rfl⟩; rw [HB.out])
  go_loop [15, 6] (fun i v => ∃ t : Nat, t ≤ H + 1 ∧ i = .int .i64 (t : Int) ∧ v = .int .i64 (flTop x N l t : Int)) (fun i _ => H + 1 - (intOf i).toNat)
  case atStart => exact ⟨0, Nat.zero_le _, rfl, rfl⟩
  case round =>
    obtain ⟨t, ht, rfl, rfl⟩ := hrel
    have b1 := flTop_le hn1 hn2 HX.out hl t
    by_cases hlt : t < H + 1
    · have b2 := flV_le (T := t) hn1 hn2 HX.out hl
      have hT : 2 * t ≤ N := by omega
      have HV : Hid (flTop x N l (t + 1) = if flTop x N l t < flV x N t l then flV x N t l else flTop x N l t) := hide rfl
      obtain ⟨P, eP⟩ : ∃ P, Hid (P = flTop x N l t) := ⟨_, hide rfl⟩
      obtain ⟨V, eV⟩ : ∃ V, Hid (V = flV x N t l) := ⟨_, hide rfl⟩
      rw [← eP.out] at b1
      rw [← eV.out] at b2
      rw [← eP.out]
      by_cases g : P < V
      · have HT : Hid (flTop x N l (t + 1) = V) := hide (by rw [HV.out, ← eP.out, ← eV.out, if_pos g])
        go_wp2_with (go_at_call 105; (with_reducible refine (floorAt_is N t l c a f x _ HS hT).mono ?_); rintro e w1 ⟨rfl, rfl⟩; rw [← eV.out])
        go_round
        case rel => exact ⟨t + 1, by omega, by go_num, by rw [HT.out]⟩
        case measure => simp [intOf]; omega
      · have HT : Hid (flTop x N l (t + 1) = P) := hide (by rw [HV.out, ← eP.out, ← eV.out, if_neg g])
        go_wp2_with (go_at_call 105; (with_reducible refine (floorAt_is N t l c a f x _ HS hT).mono ?_); rintro e w1 ⟨rfl, rfl⟩; rw [← eV.out])
        go_round
        case rel => exact ⟨t + 1, by omega, by go_num, by rw [HT.out]⟩
        case measure => simp [intOf]; omega
    · obtain rfl : t = H + 1 := by omega
      go_wp2_with fail
      go_ret2
      exact ⟨rfl, rfl⟩
set_option maxRecDepth 20000 in
set_option maxHeartbeats 2000000 in
theorem floor_no (n : Int) (l c : Nat) (a : Option Addr) (f : Nat → Int) (w : World) (hs : Ls w a l f) (hl : l ≤ maxLen) (hno : stB n f l = false) :
    Calls Try.prog 61 #[.int .i64 n, .slice a l c] w fun e w' => e = .returned (.tuple #[.int .i64 0, .int .i64 2]) ∧ w = w' := by
  have HS := hide hs
  have HB := hide hno
  clear hs hno
  go_enter Try.func61, Try.ntmps61
  go_wp2_with (go_at_call 99; (with_reducible refine (strips_is n a l c f _ HS.out hl).mono ?_); rintro e w1 ⟨rfl, rfl⟩; rw [HB.out])
  go_ret2
  exact ⟨rfl, rfl⟩
set_option maxRecDepth 20000 in
set_option maxHeartbeats 2000000 in
theorem rfloor_no (n : Int) (l c : Nat) (a : Option Addr) (f : Nat → Int) (w : World) (hs : Ls w a l f) (hl : l ≤ maxLen) (hno : stB n f l = false) :
    Calls Try.prog 62 #[.int .i64 n, .slice a l c] w fun e w' => e = .returned (.tuple #[.int .i64 0, .int .i64 2]) ∧ w = w' := by
  have HS := hide hs
  have HB := hide hno
  clear hs hno
  go_enter Try.func62, Try.ntmps62
  go_wp2_with (go_at_call 63; (with_reducible refine (rstrips_is n a l c f _ HS.out hl).mono ?_); rintro e w1 ⟨rfl, rfl⟩; rw [HB.out])
  go_ret2
  exact ⟨rfl, rfl⟩
end Go.Proofs.Ytgkonocjafoblaa
