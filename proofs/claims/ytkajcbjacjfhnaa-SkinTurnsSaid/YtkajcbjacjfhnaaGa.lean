/- Skins: rows of grades (the program's own and the reference's). -/
import Derived.Test.YtkajcbjacjfhnaaKs
import Derived.WalkKit
import Derived.WalkSpells
import Derived.WalkLawsBesides
import Derived.Handy
import Derived.BigQuiet
import Derived.Deep.QuietTactic
import Derived.Lib.Hide
namespace Go.Proofs.Ytkajcbjacjfhnaa
open Go.RowKit
theorem hide {p : Prop} (h : p) : Hid p := h
def okB (c : UInt8) : Bool := decide (48 ≤ (c.toNat : Int)) && decide ((c.toNat : Int) ≤ 57)
def gradesB (s : ByteArray) : Bool := s.data.toList.all okB
theorem all_take_snoc (s : ByteArray) (k : Nat) (h : k < s.size) : (s.data.toList.take (k + 1)).all okB = ((s.data.toList.take k).all okB && okB s[k]) := by
  rw [List.take_succ_eq_append_getElem (by simpa using h), List.all_append]
  simp; rfl
theorem not_all (s : ByteArray) (k : Nat) (h : k < s.size) (hb : okB s[k] = false) : gradesB s = false := by
  unfold gradesB
  rw [← Bool.not_eq_true, List.all_eq_true]
  intro hall
  have := hall s[k] (by
    have : s.data.toList[k]'(by simpa using h) ∈ s.data.toList := List.getElem_mem _
    exact this)
  rw [hb] at this; cases this
set_option maxHeartbeats 400000 in
theorem grades_any (s : ByteArray) (w : World) (hs : s.size ≤ maxLen) :
    Calls Try.prog 67 #[.string s] w fun e w' => e = .returned (.bool (gradesB s)) ∧ w = w' := by
  unfold maxLen at hs
  go_enter Try.func67, Try.ntmps67
  go_wp2
  go_loop [6] (fun i => ∃ k : Nat, k ≤ s.size ∧ i = .int .i64 k ∧ Hid ((s.data.toList.take k).all okB = true)) (fun i => s.size - (intOf i).toNat)
  case atStart => exact ⟨0, Nat.zero_le _, rfl, hide (by simp)⟩
  case round =>
    obtain ⟨k, hk, rfl, HK⟩ := hrel
    by_cases hlt : k < s.size
    · have HS : Hid ((s.data.toList.take (k + 1)).all okB = ((s.data.toList.take k).all okB && okB s[k])) := all_take_snoc s k hlt
      have HN : Hid (okB s[k] = false → gradesB s = false) := not_all s k hlt
      by_cases h1 : (s[k].toNat : Int) < 48
      · go_wp2
        go_ret
        exact ⟨by rw [HN.out (by unfold okB; simp; omega)]; rfl, rfl⟩
      · by_cases h2 : (57 : Int) < (s[k].toNat : Int)
        · go_wp2
          go_ret
          exact ⟨by rw [HN.out (by unfold okB; simp; omega)]; rfl, rfl⟩
        · go_wp2
          go_round
          case rel => exact ⟨k + 1, by omega, by go_num, hide (by rw [HS.out, HK.out]; unfold okB; simp; omega)⟩
          case measure => simp [intOf]; omega
    · have HG : Hid (gradesB s = true) := by
        have := HK.out
        rw [List.take_of_length_le (by simp; omega)] at this
        exact this
      go_wp2
      go_ret
      exact ⟨by rw [HG.out]; rfl, rfl⟩
end Go.Proofs.Ytkajcbjacjfhnaa
