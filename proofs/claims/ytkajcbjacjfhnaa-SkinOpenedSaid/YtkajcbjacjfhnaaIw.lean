/- SkinOpened's law for every argument. -/
import Derived.Test.YtkajcbjacjfhnaaIv
set_option linter.unusedVariables false
namespace Go.Proofs.Ytkajcbjacjfhnaa
open Go.RowKit Go.Ab
theorem opened_law (a : Option Addr) (l c : Nat) (ss : Nat → ByteArray) (g k : Int) (w : World) (hz : Zs w a l ss) (_ : In64 g) (_ : In64 k) :
    Calls Try.prog 9 #[.slice a l c, .int .i64 g, .int .i64 k] w fun e w' => e = .returned (.bool true) ∧ Below w.heap.size w w' := by
  cases hv : validB l ss with
  | false => exact opened_no a l c g k ss w hz hv
  | true =>
    rcases hz with h0 | ⟨bb, off, rfl, hz⟩
    · rw [h0, validB_zero] at hv; cases hv
    · obtain ⟨hs, hd, hg, hvv⟩ := skin_of c hz hv
      obtain ⟨b0, off0, c0, e, hz'⟩ := hs
      injection e with e1 e2 e3
      injection e1 with e1
      injection e1 with e1 e4
      subst e1 e4 e3
      by_cases k1 : k < 0
      · exact opened_low bb off l c _ _ g k w hz' hvv k1 _ rfl
      · by_cases k2 : 48 < k
        · exact opened_high bb off l c _ _ g k w hz' hvv k2 _ rfl
        · obtain ⟨K, rfl⟩ := Int.eq_ofNat_of_zero_le (show 0 ≤ k by omega)
          have hK : K ≤ 48 := by omega
          cases hgb : goodB l (rowS (skinOf ss l).2.2 (skinOf ss l).1) g with
          | false => exact opened_bad bb off l c _ K _ g w hz' hd hg hK hgb
          | true =>
            have := (goodB_get hgb).2
            obtain ⟨G, rfl⟩ := Int.eq_ofNat_of_zero_le (show 0 ≤ g by omega)
            exact opened_yes bb off l c _ G K _ w hz' hd hg hK hgb
end Go.Proofs.Ytkajcbjacjfhnaa
