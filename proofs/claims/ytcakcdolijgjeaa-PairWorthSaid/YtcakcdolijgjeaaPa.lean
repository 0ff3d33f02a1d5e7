/- Gloves and rules as values: what they measure, and which are valid. -/
import Derived.Test.YtcakcdolijgjeaaYq
import Derived.Test.YtcakcdolijgjeaaRows
import Derived.WalkKit
import Derived.WalkSpells
import Derived.Handy
import Derived.KernelRfl
import Derived.Lib.Hide
set_option linter.unusedVariables false
namespace Go.Ab
open Go Go.RowKit Go.Proofs Go.Proofs.Ytcakcdolijgjeaa
abbrev noKn : Known := ⟨noPr, fun _ => false, noMem⟩
def gV (a b c d : Int) : Value := .agg #[.int .i64 a, .int .i64 b, .int .i64 c, .int .i64 d]
def uV (a b c d p q r s : Int) : Value := .agg #[.int .i64 a, .int .i64 b, .int .i64 c, .int .i64 d, .int .i64 p, .int .i64 q, .int .i64 r, .int .i64 s]
theorem measures_any (a b c d : Int) (w : World) : Calls Try.prog 101 #[.agg #[.int .i64 a, .int .i64 b, .int .i64 c, .int .i64 d]] w fun e w' => e = .returned (.agg #[.int .i64 a, .int .i64 b, .int .i64 c, .int .i64 d]) ∧ Below w.heap.size w w' :=
  plain_call (kn := noKn) (kn_ok (noPr_ok _) _) (n := 5) (d := 5) (args := [gV a b c d]) rfl rfl (by kernel_rfl) w
theorem four_any (a b c d : Int) (w : World) : Calls Try.prog 92 #[.agg #[.int .i64 a, .int .i64 b, .int .i64 c, .int .i64 d]] w fun e w' => e = .returned (.agg #[.int .i64 a, .int .i64 b, .int .i64 c, .int .i64 d]) ∧ Below w.heap.size w w' :=
  plain_call (kn := noKn) (kn_ok (noPr_ok _) _) (n := 5) (d := 5) (args := [gV a b c d]) rfl rfl (by kernel_rfl) w
theorem glove_any (a b c d : Int) (w : World) : Calls Try.prog 22 #[.agg #[.int .i64 a, .int .i64 b, .int .i64 c, .int .i64 d]] w fun e w' => e = .returned (.agg #[.int .i64 a, .int .i64 b, .int .i64 c, .int .i64 d]) ∧ Below w.heap.size w w' :=
  plain_call (kn := noKn) (kn_ok (noPr_ok _) _) (n := 5) (d := 5) (args := [gV a b c d]) rfl rfl (by kernel_rfl) w
theorem rule_any (a b c d p q r s : Int) (w : World) : Calls Try.prog 23 #[.agg #[.int .i64 a, .int .i64 b, .int .i64 c, .int .i64 d, .int .i64 p, .int .i64 q, .int .i64 r, .int .i64 s]] w fun e w' => e = .returned (.agg #[.int .i64 a, .int .i64 b, .int .i64 c, .int .i64 d, .int .i64 p, .int .i64 q, .int .i64 r, .int .i64 s]) ∧ Below w.heap.size w w' :=
  plain_call (kn := noKn) (kn_ok (noPr_ok _) _) (n := 5) (d := 5) (args := [uV a b c d p q r s]) rfl rfl (by kernel_rfl) w

def okN (n : Int) : Bool := decide (0 ≤ n ∧ n ≤ 1000)
def okG (a b c d : Int) : Bool := okN a && okN b && okN c && okN d
def okU (a b c d p q r s : Int) : Bool := okG a b c d && okG p q r s
theorem okG_iff {a b c d : Int} : okG a b c d = true ↔ (0 ≤ a ∧ a ≤ 1000) ∧ (0 ≤ b ∧ b ≤ 1000) ∧ (0 ≤ c ∧ c ≤ 1000) ∧ (0 ≤ d ∧ d ≤ 1000) := by
  simp [okG, okN, and_assoc]
theorem okG_no {a b c d : Int} (h : ¬ ((0 ≤ a ∧ a ≤ 1000) ∧ (0 ≤ b ∧ b ≤ 1000) ∧ (0 ≤ c ∧ c ≤ 1000) ∧ (0 ≤ d ∧ d ≤ 1000))) : okG a b c d = false := by
  cases h' : okG a b c d with
  | false => rfl
  | true => exact absurd (okG_iff.1 h') h
end Go.Ab
namespace Go.Proofs.Ytcakcdolijgjeaa
open Go Go.RowKit Go.Ab
theorem hide {p : Prop} (h : p) : Hid p := h
theorem bt {a b c : World} (h : Below a.heap.size a b) (h' : Below b.heap.size b c) : Below a.heap.size a c := h.trans (h'.mono h.size)
theorem kc {w w' : World} {p : Addr} {v : Value} (hb : Below w.heap.size w w') (h : w.cell? p = some v) : w'.cell? p = some v := by
  rw [hb.cell (World.block_lt_of_cell? _ _ h)]; exact h

def okTo (a b c d : Int) (k : Nat) : Prop := (1 ≤ k → 0 ≤ a ∧ a ≤ 1000) ∧ (2 ≤ k → 0 ≤ b ∧ b ≤ 1000) ∧ (3 ≤ k → 0 ≤ c ∧ c ≤ 1000) ∧ (4 ≤ k → 0 ≤ d ∧ d ≤ 1000)
set_option maxRecDepth 20000 in
set_option maxHeartbeats 2000000 in
theorem isValid_is (a b c d : Int) (w : World) : Calls Try.prog 59 #[.agg #[.int .i64 a, .int .i64 b, .int .i64 c, .int .i64 d]] w fun e w' => e = .returned (.bool (okG a b c d)) ∧ Below w.heap.size w w' := by
  have i0 : ∀ w, (Instr.index 123 (.agg #[.int .i64 a, .int .i64 b, .int .i64 c, .int .i64 d]) (.int .i64 0)).run Try.prog w = .ok (.int .i64 a) w := fun _ => by kernel_rfl
  have i1 : ∀ w, (Instr.index 123 (.agg #[.int .i64 a, .int .i64 b, .int .i64 c, .int .i64 d]) (.int .i64 1)).run Try.prog w = .ok (.int .i64 b) w := fun _ => by kernel_rfl
  have i2 : ∀ w, (Instr.index 123 (.agg #[.int .i64 a, .int .i64 b, .int .i64 c, .int .i64 d]) (.int .i64 2)).run Try.prog w = .ok (.int .i64 c) w := fun _ => by kernel_rfl
  have i3 : ∀ w, (Instr.index 123 (.agg #[.int .i64 a, .int .i64 b, .int .i64 c, .int .i64 d]) (.int .i64 3)).run Try.prog w = .ok (.int .i64 d) w := fun _ => by kernel_rfl
  go_enter Try.func59, Try.ntmps59
  go_wp2_with (go_at_call 101; refine (measures_any _ _ _ _ _).mono ?_; rintro e w1 ⟨rfl, hb1⟩)
  have HB : Hid (Below w.heap.size w w1) := hide (bt ((Below.refl _ _).alloc (Nat.le_refl _) _) hb1)
  clear hb1
  go_loop [7] (fun i => ∃ k : Nat, k ≤ 4 ∧ i = .int .i64 k ∧ Hid (okTo a b c d k)) (fun i => 4 - (intOf i).toNat)
  case atStart => exact ⟨0, by omega, rfl, hide ⟨fun h => by omega, fun h => by omega, fun h => by omega, fun h => by omega⟩⟩
  case round =>
    obtain ⟨k, hk, rfl, HK⟩ := hrel
    obtain rfl | rfl | rfl | rfl | rfl : k = 0 ∨ k = 1 ∨ k = 2 ∨ k = 3 ∨ k = 4 := by omega
    · by_cases h1 : 0 ≤ a
      · by_cases h2 : a ≤ 1000
        · have HK2 : Hid (okTo a b c d 1) := hide (by have := HK.out; unfold okTo at this ⊢; refine ⟨?_, ?_, ?_, ?_⟩ <;> intro h <;> first | exact ⟨h1, h2⟩ | exact this.1 (by omega) | exact this.2.1 (by omega) | exact this.2.2.1 (by omega) | omega)
          go_wp2_with fail
          go_round
          case rel => exact ⟨1, by omega, by go_num, HK2⟩
          case measure => simp [intOf]
        · have HN : Hid (okG a b c d = false) := hide (okG_no (by omega))
          go_wp2_with fail
          go_ret
          exact ⟨by rw [HN.out]; rfl, HB.out⟩
      · have HN : Hid (okG a b c d = false) := hide (okG_no (by omega))
        go_wp2_with fail
        go_ret
        exact ⟨by rw [HN.out]; rfl, HB.out⟩
    · by_cases h1 : 0 ≤ b
      · by_cases h2 : b ≤ 1000
        · have HK2 : Hid (okTo a b c d 2) := hide (by have := HK.out; unfold okTo at this ⊢; refine ⟨?_, ?_, ?_, ?_⟩ <;> intro h <;> first | exact ⟨h1, h2⟩ | exact this.1 (by omega) | exact this.2.1 (by omega) | exact this.2.2.1 (by omega) | omega)
          go_wp2_with fail
          go_round
          case rel => exact ⟨2, by omega, by go_num, HK2⟩
          case measure => simp [intOf]
        · have HN : Hid (okG a b c d = false) := hide (okG_no (by omega))
          go_wp2_with fail
          go_ret
          exact ⟨by rw [HN.out]; rfl, HB.out⟩
      · have HN : Hid (okG a b c d = false) := hide (okG_no (by omega))
        go_wp2_with fail
        go_ret
        exact ⟨by rw [HN.out]; rfl, HB.out⟩
    · by_cases h1 : 0 ≤ c
      · by_cases h2 : c ≤ 1000
        · have HK2 : Hid (okTo a b c d 3) := hide (by have := HK.out; unfold okTo at this ⊢; refine ⟨?_, ?_, ?_, ?_⟩ <;> intro h <;> first | exact ⟨h1, h2⟩ | exact this.1 (by omega) | exact this.2.1 (by omega) | exact this.2.2.1 (by omega) | omega)
          go_wp2_with fail
          go_round
          case rel => exact ⟨3, by omega, by go_num, HK2⟩
          case measure => simp [intOf]
        · have HN : Hid (okG a b c d = false) := hide (okG_no (by omega))
          go_wp2_with fail
          go_ret
          exact ⟨by rw [HN.out]; rfl, HB.out⟩
      · have HN : Hid (okG a b c d = false) := hide (okG_no (by omega))
        go_wp2_with fail
        go_ret
        exact ⟨by rw [HN.out]; rfl, HB.out⟩
    · by_cases h1 : 0 ≤ d
      · by_cases h2 : d ≤ 1000
        · have HK2 : Hid (okTo a b c d 4) := hide (by have := HK.out; unfold okTo at this ⊢; refine ⟨?_, ?_, ?_, ?_⟩ <;> intro h <;> first | exact ⟨h1, h2⟩ | exact this.1 (by omega) | exact this.2.1 (by omega) | exact this.2.2.1 (by omega) | omega)
          go_wp2_with fail
          go_round
          case rel => exact ⟨4, by omega, by go_num, HK2⟩
          case measure => simp [intOf]
        · have HN : Hid (okG a b c d = false) := hide (okG_no (by omega))
          go_wp2_with fail
          go_ret
          exact ⟨by rw [HN.out]; rfl, HB.out⟩
      · have HN : Hid (okG a b c d = false) := hide (okG_no (by omega))
        go_wp2_with fail
        go_ret
        exact ⟨by rw [HN.out]; rfl, HB.out⟩
    · have HY : Hid (okG a b c d = true) := hide (okG_iff.2 ⟨HK.out.1 (by omega), HK.out.2.1 (by omega), HK.out.2.2.1 (by omega), HK.out.2.2.2 (by omega)⟩)
      go_wp2_with fail
      go_ret
      exact ⟨by rw [HY.out]; rfl, HB.out⟩
set_option maxRecDepth 20000 in
set_option maxHeartbeats 2000000 in
theorem valid_is (a b c d : Int) (w : World) : Calls Try.prog 62 #[.agg #[.int .i64 a, .int .i64 b, .int .i64 c, .int .i64 d]] w fun e w' => e = .returned (.bool (okG a b c d)) ∧ Below w.heap.size w w' := by
  have i0 : ∀ w, (Instr.index 123 (.agg #[.int .i64 a, .int .i64 b, .int .i64 c, .int .i64 d]) (.int .i64 0)).run Try.prog w = .ok (.int .i64 a) w := fun _ => by kernel_rfl
  have i1 : ∀ w, (Instr.index 123 (.agg #[.int .i64 a, .int .i64 b, .int .i64 c, .int .i64 d]) (.int .i64 1)).run Try.prog w = .ok (.int .i64 b) w := fun _ => by kernel_rfl
  have i2 : ∀ w, (Instr.index 123 (.agg #[.int .i64 a, .int .i64 b, .int .i64 c, .int .i64 d]) (.int .i64 2)).run Try.prog w = .ok (.int .i64 c) w := fun _ => by kernel_rfl
  have i3 : ∀ w, (Instr.index 123 (.agg #[.int .i64 a, .int .i64 b, .int .i64 c, .int .i64 d]) (.int .i64 3)).run Try.prog w = .ok (.int .i64 d) w := fun _ => by kernel_rfl
  go_enter Try.func62, Try.ntmps62
  go_wp2_with (go_at_call 92; refine (four_any _ _ _ _ _).mono ?_; rintro e w1 ⟨rfl, hb1⟩)
  have HB : Hid (Below w.heap.size w w1) := hide (bt ((Below.refl _ _).alloc (Nat.le_refl _) _) hb1)
  clear hb1
  go_loop [7] (fun i => ∃ k : Nat, k ≤ 4 ∧ i = .int .i64 k ∧ Hid (okTo a b c d k)) (fun i => 4 - (intOf i).toNat)
  case atStart => exact ⟨0, by omega, rfl, hide ⟨fun h => by omega, fun h => by omega, fun h => by omega, fun h => by omega⟩⟩
  case round =>
    obtain ⟨k, hk, rfl, HK⟩ := hrel
    obtain rfl | rfl | rfl | rfl | rfl : k = 0 ∨ k = 1 ∨ k = 2 ∨ k = 3 ∨ k = 4 := by omega
    · by_cases h1 : 0 ≤ a
      · by_cases h2 : a ≤ 1000
        · have HK2 : Hid (okTo a b c d 1) := hide (by have := HK.out; unfold okTo at this ⊢; refine ⟨?_, ?_, ?_, ?_⟩ <;> intro h <;> first | exact ⟨h1, h2⟩ | exact this.1 (by omega) | exact this.2.1 (by omega) | exact this.2.2.1 (by omega) | omega)
          go_wp2_with fail
          go_round
          case rel => exact ⟨1, by omega, by go_num, HK2⟩
          case measure => simp [intOf]
        · have HN : Hid (okG a b c d = false) := hide (okG_no (by omega))
          go_wp2_with fail
          go_ret
          exact ⟨by rw [HN.out]; rfl, HB.out⟩
      · have HN : Hid (okG a b c d = false) := hide (okG_no (by omega))
        go_wp2_with fail
        go_ret
        exact ⟨by rw [HN.out]; rfl, HB.out⟩
    · by_cases h1 : 0 ≤ b
      · by_cases h2 : b ≤ 1000
        · have HK2 : Hid (okTo a b c d 2) := hide (by have := HK.out; unfold okTo at this ⊢; refine ⟨?_, ?_, ?_, ?_⟩ <;> intro h <;> first | exact ⟨h1, h2⟩ | exact this.1 (by omega) | exact this.2.1 (by omega) | exact this.2.2.1 (by omega) | omega)
          go_wp2_with fail
          go_round
          case rel => exact ⟨2, by omega, by go_num, HK2⟩
          case measure => simp [intOf]
        · have HN : Hid (okG a b c d = false) := hide (okG_no (by omega))
          go_wp2_with fail
          go_ret
          exact ⟨by rw [HN.out]; rfl, HB.out⟩
      · have HN : Hid (okG a b c d = false) := hide (okG_no (by omega))
        go_wp2_with fail
        go_ret
        exact ⟨by rw [HN.out]; rfl, HB.out⟩
    · by_cases h1 : 0 ≤ c
      · by_cases h2 : c ≤ 1000
        · have HK2 : Hid (okTo a b c d 3) := hide (by have := HK.out; unfold okTo at this ⊢; refine ⟨?_, ?_, ?_, ?_⟩ <;> intro h <;> first | exact ⟨h1, h2⟩ | exact this.1 (by omega) | exact this.2.1 (by omega) | exact this.2.2.1 (by omega) | omega)
          go_wp2_with fail
          go_round
          case rel => exact ⟨3, by omega, by go_num, HK2⟩
          case measure => simp [intOf]
        · have HN : Hid (okG a b c d = false) := hide (okG_no (by omega))
          go_wp2_with fail
          go_ret
          exact ⟨by rw [HN.out]; rfl, HB.out⟩
      · have HN : Hid (okG a b c d = false) := hide (okG_no (by omega))
        go_wp2_with fail
        go_ret
        exact ⟨by rw [HN.out]; rfl, HB.out⟩
    · by_cases h1 : 0 ≤ d
      · by_cases h2 : d ≤ 1000
        · have HK2 : Hid (okTo a b c d 4) := hide (by have := HK.out; unfold okTo at this ⊢; refine ⟨?_, ?_, ?_, ?_⟩ <;> intro h <;> first | exact ⟨h1, h2⟩ | exact this.1 (by omega) | exact this.2.1 (by omega) | exact this.2.2.1 (by omega) | omega)
          go_wp2_with fail
          go_round
          case rel => exact ⟨4, by omega, by go_num, HK2⟩
          case measure => simp [intOf]
        · have HN : Hid (okG a b c d = false) := hide (okG_no (by omega))
          go_wp2_with fail
          go_ret
          exact ⟨by rw [HN.out]; rfl, HB.out⟩
      · have HN : Hid (okG a b c d = false) := hide (okG_no (by omega))
        go_wp2_with fail
        go_ret
        exact ⟨by rw [HN.out]; rfl, HB.out⟩
    · have HY : Hid (okG a b c d = true) := hide (okG_iff.2 ⟨HK.out.1 (by omega), HK.out.2.1 (by omega), HK.out.2.2.1 (by omega), HK.out.2.2.2 (by omega)⟩)
      go_wp2_with fail
      go_ret
      exact ⟨by rw [HY.out]; rfl, HB.out⟩
end Go.Proofs.Ytcakcdolijgjeaa
