import Derived.Test.YtpgnbjlpkpmpcaaH
import Derived.Test.YtpgnbjlpkpmpcaaHt
import Derived.ProofKit
import Derived.OpenShut
set_option linter.unusedVariables false
namespace Go.Proofs.Ytpgnbjlpkpmpcaa
open Go.ChangeShapes Go.WideShapes Go.RowKit
/-- a slice of ints: of no element, or at a plain address with its cells -/
def Ls (w : World) (a : Option Addr) (len cap : Nat) (ns : Nat → Int) : Prop := len ≤ cap ∧ (len = 0 ∨ ∃ b off, a = some ⟨b, off, none⟩ ∧ (∀ i, i < len → w.cell? ⟨b, off + i, none⟩ = some (.int .i64 (ns i))) ∧ ∀ i, i < len → In64 (ns i))
theorem in64_wf' {n : Int} (h : (Lit.int .i64 n).wf = true) : In64 n := by
  have := bounds_i64 h; exact ⟨by omega, by omega⟩
section
variable {H : Type} {enc : TypeId × Value → H} {P : Program} {w : World} {base : Nat} {held : Bool}
theorem open_ls {r : Reach} {b0 : Nat} {t e : TypeId} {v : Value} {d : DataW H} {ps : List MemPlace} (ht : P.underlying t = some (.slice e)) (he : P.underlying e = some (.int .i64)) (ce : P.cellsOf e = 1)
    (hval : Value.okWide P w r b0 t v) (hd : DataW.Trod enc P w base (fun _ => true) held t v d ps) :
    ∃ (a : Option Addr) (len cap : Nat) (ns : Nat → Int), v = .slice a len cap ∧ Ls w a len cap ns ∧ len ≤ maxLen := by
  obtain ⟨a0, len0, cap0, rfl⟩ := okWide_slice ht hval
  obtain ⟨fuel, hf⟩ := hd
  rcases open_ints ht he ce hf with ⟨hcs, _⟩ | ⟨a, len, cap, zs, hcs, _, hl, hm, hmm, _, hc, hw⟩
  · simp [Value.cells] at hcs
    obtain ⟨rfl, rfl, rfl⟩ := hcs
    exact ⟨none, 0, 0, fun _ => 0, rfl, ⟨Nat.le_refl _, .inl rfl⟩, by simp [maxLen]⟩
  · simp [Value.cells] at hcs
    obtain ⟨rfl, rfl, rfl⟩ := hcs
    simp only [if_true] at hmm
    refine ⟨some a, len0, cap0, fun i => zs.getD i 0, rfl, ⟨hl, ?_⟩, by omega⟩
    by_cases h0 : len0 = 0
    · exact .inl h0
    · obtain ⟨b, off, rfl, hcc⟩ := ints_at hc (by omega)
      refine .inr ⟨b, off, rfl, fun i hi => hcc i (by omega), fun i hi => in64_wf' (hw _ ?_)⟩
      simp only [List.getD_eq_getElem?_getD]
      rw [List.getElem?_eq_getElem (by omega)]
      exact List.getElem_mem _
end
theorem Ls.below {w w' : World} {a : Option Addr} {len cap : Nat} {ns : Nat → Int} (h : Ls w a len cap ns) (hb : Below w.heap.size w w') : Ls w' a len cap ns := by
  obtain ⟨h0, h | ⟨b, off, e, hc, hi⟩⟩ := h
  · exact ⟨h0, .inl h⟩
  · exact ⟨h0, .inr ⟨b, off, e, fun i hl => kc hb (hc i hl), hi⟩⟩
set_option maxHeartbeats 1000000 in
theorem areT_none (a : Option Addr) (cap : Nat) (w : World) : Calls Try.prog 100 #[.slice a 0 cap] w fun e w' => e = .returned (.bool false) ∧ w = w' := by
  go_enter Try.func100, Try.ntmps100
  go_wp2
  go_ret
  exact ⟨rfl, rfl⟩
set_option maxHeartbeats 1000000 in
theorem areT_one (b off cap : Nat) (w : World) (hc : 1 ≤ cap) : Calls Try.prog 100 #[.slice (some ⟨b, off, none⟩) 1 cap] w fun e w' => e = .returned (.bool true) ∧ w = w' := by
  by_cases h1 : cap = 1
  · subst h1
    go_enter Try.func100, Try.ntmps100
    go_wp2_with fail
    go_rounds 1
    all_goals go_ret
    all_goals exact ⟨rfl, rfl⟩
  · have h2 : 1 < cap := by omega
    go_enter Try.func100, Try.ntmps100
    go_wp2_with fail
    go_rounds 1
    all_goals go_ret
    all_goals exact ⟨rfl, rfl⟩
set_option maxHeartbeats 1000000 in
theorem areT_yes (b off len cap : Nat) (ns : Nat → Int) (w : World) (hl : len ≤ 62) (hc : len + 2 ≤ cap) (HC : Hid (∀ i, i < len + 2 → w.cell? ⟨b, off + i, none⟩ = some (.int .i64 (ns i)))) (HT : Hid (M.Terms ns (len + 1))) :
    Calls Try.prog 100 #[.slice (some ⟨b, off, none⟩) (len + 2) cap] w fun e w' => e = .returned (.bool true) ∧ w = w' := by
  have hc1 : 1 < cap := by omega
  have hc2 : ((len + 2 : Nat) : Int) ≤ (cap : Int) := by omega
  have e1 : ((len : Int) + 2 == 1) = false := by rw [beq_eq_false_iff_ne]; omega
  have e2 : ((len : Int) + 2 == 0) = false := by rw [beq_eq_false_iff_ne]; omega
  have c0 := HC.out (len + 1) (by omega)
  have t0 := HT.out.2 (by omega)
  have t1 : (ns (len + 1) != 1) = true := by rw [bne_iff_ne]; omega
  have t2 : (ns (len + 1) == 1) = false := by rw [beq_eq_false_iff_ne]; omega
  go_enter Try.func100, Try.ntmps100
  go_wp2_with fail
  go_loop [11] (fun i => ∃ k : Nat, k ≤ len + 1 ∧ i = .int .i64 k) (fun i => len + 1 - (intOf i).toNat)
  case atStart => exact ⟨0, by omega, rfl⟩
  case round =>
    obtain ⟨k, hk, rfl⟩ := hrel
    by_cases hlt : k < len + 1
    · have c1 := HC.out (k + 1) (by omega)
      rw [show off + (k + 1) = off + 1 + k by omega] at c1
      have h1 := HT.out.1 (k + 1) (by omega) (by omega)
      go_wp2
      go_round
      case rel => exact ⟨k + 1, by omega, by go_num⟩
      case measure => simp [intOf]; omega
    · go_wp2
      go_ret
      exact ⟨rfl, rfl⟩
set_option maxHeartbeats 1000000 in
theorem areT_no (b off len cap : Nat) (ns : Nat → Int) (w : World) (hl : len ≤ 62) (hc : len + 2 ≤ cap) (HC : Hid (∀ i, i < len + 2 → w.cell? ⟨b, off + i, none⟩ = some (.int .i64 (ns i)))) (HT : Hid (¬ M.Terms ns (len + 1))) :
    Calls Try.prog 100 #[.slice (some ⟨b, off, none⟩) (len + 2) cap] w fun e w' => e = .returned (.bool false) ∧ w = w' := by
  have hc1 : 1 < cap := by omega
  have hc2 : ((len + 2 : Nat) : Int) ≤ (cap : Int) := by omega
  have e1 : ((len : Int) + 2 == 1) = false := by rw [beq_eq_false_iff_ne]; omega
  have e2 : ((len : Int) + 2 == 0) = false := by rw [beq_eq_false_iff_ne]; omega
  go_enter Try.func100, Try.ntmps100
  go_wp2_with fail
  go_loop [11] (fun i => ∃ k : Nat, k ≤ len + 1 ∧ i = .int .i64 k ∧ Hid (∀ j, j < k → 1 ≤ ns (j + 1))) (fun i => len + 1 - (intOf i).toNat)
  case atStart => exact ⟨0, by omega, rfl, fun j hj => absurd hj (by omega)⟩
  case round =>
    obtain ⟨k, hk, rfl, ha⟩ := hrel
    by_cases hlt : k < len + 1
    · have c1 := HC.out (k + 1) (by omega)
      rw [show off + (k + 1) = off + 1 + k by omega] at c1
      by_cases h1 : 1 ≤ ns (k + 1)
      · have HA : Hid (∀ j, j < k + 1 → 1 ≤ ns (j + 1)) := hide fun j hj => by
          by_cases e : j = k
          · rw [e]; exact h1
          · exact ha.out j (by omega)
        go_wp2
        go_round
        case rel => exact ⟨k + 1, by omega, by go_num, HA⟩
        case measure => simp [intOf]; omega
      · have h2 : ns (k + 1) < 1 := by omega
        clear h1
        go_wp2
        go_ret
        exact ⟨rfl, rfl⟩
    · obtain rfl : k = len + 1 := by omega
      have c0 := HC.out (len + 1) (by omega)
      have t0 : ns (len + 1) = 1 := by
        have h2 := ha.out len (by omega)
        rcases Int.lt_or_le 1 (ns (len + 1)) with h3 | h3
        · exact absurd ⟨fun i h4 h5 => by have := ha.out (i - 1) (by omega); rw [show i - 1 + 1 = i by omega] at this; exact this, fun _ => by omega⟩ HT.out
        · omega
      rw [t0] at c0
      clear t0
      go_wp2
      go_ret
      exact ⟨rfl, rfl⟩
end Go.Proofs.Ytpgnbjlpkpmpcaa
