/- Prices: arePrices, sum, isProof, Worth, of the program. -/
import Derived.Test.YtcakcdolijgjeaaPq
set_option linter.unusedVariables false
namespace Go.Proofs.Ytcakcdolijgjeaa
open Go Go.RowKit Go.Ab
def prsB (f : Nat → Int) : Nat → Bool
  | 0 => true
  | k + 1 => prsB f k && (decide (0 ≤ f k) && decide (f k ≤ 1000000000))
theorem prsB_get {f : Nat → Int} : ∀ {n : Nat}, prsB f n = true → ∀ i, i < n → 0 ≤ f i ∧ f i ≤ 1000000000
  | n + 1, h, i, hi => by
    unfold prsB at h
    simp only [Bool.and_eq_true, decide_eq_true_eq] at h
    by_cases e : i = n
    · rw [e]; exact h.2
    · exact prsB_get h.1 i (by omega)
theorem prsB_yes {f : Nat → Int} {k : Nat} (h : prsB f k = true) (h1 : 0 ≤ f k) (h2 : f k ≤ 1000000000) : prsB f (k + 1) = true := by unfold prsB; rw [h, decide_eq_true h1, decide_eq_true h2]; rfl
theorem prsB_no {f : Nat → Int} : ∀ {n i : Nat}, i < n → ¬ (0 ≤ f i ∧ f i ≤ 1000000000) → prsB f n = false
  | n, i, hi, h => by
    cases e : prsB f n with
    | false => rfl
    | true => exact absurd (prsB_get e i hi) h
def sumP (f : Nat → Int) : Nat → Int
  | 0 => 0
  | k + 1 => sumP f k + f k
theorem sumP_bd {f : Nat → Int} {n : Nat} (h : prsB f n = true) : ∀ k, k ≤ n → 0 ≤ sumP f k ∧ sumP f k ≤ (k : Int) * 1000000000
  | 0, _ => ⟨Int.le_refl _, by unfold sumP; omega⟩
  | k + 1, hk => by
    have ih := sumP_bd h k (by omega)
    have := prsB_get h k (by omega)
    unfold sumP
    omega
def rowP (f : Nat → Nat → Int) (aa bb : Nat → Int) (i : Nat) : Nat → Bool
  | 0 => true
  | j + 1 => rowP f aa bb i j && decide (f i j ≤ aa i + bb j)
def proofB (f : Nat → Nat → Int) (aa bb : Nat → Int) (nb : Nat) : Nat → Bool
  | 0 => true
  | i + 1 => proofB f aa bb nb i && rowP f aa bb i nb
theorem rowP_get {f : Nat → Nat → Int} {aa bb : Nat → Int} {i : Nat} : ∀ {n : Nat}, rowP f aa bb i n = true → ∀ j, j < n → f i j ≤ aa i + bb j
  | n + 1, h, j, hj => by
    unfold rowP at h
    simp only [Bool.and_eq_true, decide_eq_true_eq] at h
    by_cases e : j = n
    · rw [e]; exact h.2
    · exact rowP_get h.1 j (by omega)
theorem proofB_get {f : Nat → Nat → Int} {aa bb : Nat → Int} {nb : Nat} : ∀ {n : Nat}, proofB f aa bb nb n = true → ∀ i j, i < n → j < nb → f i j ≤ aa i + bb j
  | n + 1, h, i, j, hi, hj => by
    unfold proofB at h
    simp only [Bool.and_eq_true] at h
    by_cases e : i = n
    · rw [e]; exact rowP_get h.2 j hj
    · exact proofB_get h.1 i j (by omega) hj
theorem proofB_no {f : Nat → Nat → Int} {aa bb : Nat → Int} {na nb i j : Nat} (hi : i < na) (hj : j < nb) (h : ¬ f i j ≤ aa i + bb j) : proofB f aa bb nb na = false := by
  cases e : proofB f aa bb nb na with
  | false => rfl
  | true => exact absurd (proofB_get e i j hi hj) h
set_option maxRecDepth 20000 in
set_option maxHeartbeats 2000000 in
theorem arePrices_is (b : Option Addr) (n c : Nat) (f : Nat → Int) (w : World) (hm : Ls w b n f) (hn : n ≤ 32) :
    Calls Try.prog 77 #[.slice b n c] w fun e w' => e = .returned (.bool (prsB f n)) ∧ w = w' := by
  have H2 := hide hm
  clear hm
  go_enter Try.func77, Try.ntmps77
  go_wp2_with fail
  go_loop [7] (fun i => ∃ k : Nat, k ≤ n ∧ i = .int .i64 k ∧ Hid (prsB f k = true)) (fun i => n - (intOf i).toNat)
  case atStart => exact ⟨0, Nat.zero_le _, rfl, hide rfl⟩
  case round =>
    obtain ⟨k, hk, rfl, HK⟩ := hrel
    by_cases hlt : k < n
    · obtain ⟨b1, off, rfl, hc⟩ : ∃ b1 off, b = some ⟨b1, off, none⟩ ∧ LsAt w b1 off n f := by
        rcases H2.out with h | h
        · omega
        · exact h
      have ck := (hc k hlt).1
      clear hc
      obtain ⟨q, hq⟩ : ∃ q, Hid (q = f k) := ⟨_, hide rfl⟩
      rw [← hq.out] at ck
      by_cases e1 : q < 0
      · have HR : Hid (prsB f n = false) := hide (prsB_no hlt (by rw [← hq.out]; omega))
        go_wp2_with fail
        go_ret
        exact ⟨by rw [HR.out]; rfl, rfl⟩
      · by_cases e2 : 1000000000 < q
        · have HR : Hid (prsB f n = false) := hide (prsB_no hlt (by rw [← hq.out]; omega))
          go_wp2_with fail
          go_ret
          exact ⟨by rw [HR.out]; rfl, rfl⟩
        · have HK2 := hide (prsB_yes HK.out (by rw [← hq.out]; omega) (by rw [← hq.out]; omega))
          go_wp2_with fail
          go_round
          case rel => exact ⟨k + 1, by omega, by go_num, HK2⟩
          case measure => simp [intOf]; omega
    · obtain rfl : k = n := by omega
      go_wp2_with fail
      go_ret
      exact ⟨by rw [HK.out]; rfl, rfl⟩
set_option maxRecDepth 20000 in
set_option maxHeartbeats 2000000 in
theorem sum_is (b : Option Addr) (n c : Nat) (f : Nat → Int) (w : World) (hm : Ls w b n f) (hn : n ≤ 32) (hp : prsB f n = true) :
    Calls Try.prog 79 #[.slice b n c] w fun e w' => e = .returned (.int .i64 (sumP f n)) ∧ w = w' := by
  have H2 := hide hm
  have HP := hide hp
  clear hm hp
  go_enter Try.func79, Try.ntmps79
  go_wp2_with fail
  go_loop [3, 8] (fun s i => ∃ k : Nat, k ≤ n ∧ i = .int .i64 k ∧ ∃ S : Int, s = .int .i64 S ∧ Hid (S = sumP f k)) (fun _ i => n - (intOf i).toNat)
  case atStart => exact ⟨0, Nat.zero_le _, rfl, 0, rfl, hide rfl⟩
  case round =>
    obtain ⟨k, hk, rfl, S, rfl, HS⟩ := hrel
    by_cases hlt : k < n
    · obtain ⟨b1, off, rfl, hc⟩ : ∃ b1 off, b = some ⟨b1, off, none⟩ ∧ LsAt w b1 off n f := by
        rcases H2.out with h | h
        · omega
        · exact h
      have ck := (hc k hlt).1
      clear hc
      have b1 := sumP_bd HP.out k (by omega)
      have b2 := prsB_get HP.out k hlt
      rw [← HS.out] at b1
      obtain ⟨q, hq⟩ : ∃ q, Hid (q = f k) := ⟨_, hide rfl⟩
      rw [← hq.out] at ck b2
      have HS2 : Hid (S + q = sumP f (k + 1)) := hide (by show S + q = sumP f k + f k; rw [HS.out, hq.out])
      have hw1 : IntKind.i64.wrap (S + q) = S + q := IntWalk.i64_in _ (by omega)
      go_wp2_with fail
      go_round
      case rel => exact ⟨k + 1, by omega, by go_num, _, rfl, HS2⟩
      case measure => simp [intOf]; omega
    · obtain rfl : k = n := by omega
      go_wp2_with fail
      go_ret
      exact ⟨by rw [← HS.out]; rfl, rfl⟩
set_option maxRecDepth 20000 in
set_option maxHeartbeats 4000000 in
theorem isProof_is (T l r c d : Nat) (a b : Option Addr) (aa bb : Nat → Int) (f : Nat → Nat → Int) (w : World) (ht : Tb w T l r f) (ha : Ls w a l aa) (hb : Ls w b r bb) (hl : l ≤ 32) (hr : r ≤ 32) (pa : prsB aa l = true) (pb : prsB bb r = true) :
    Calls Try.prog 78 #[.pointer (some ⟨T, 0, none⟩), .slice a l c, .slice b r d] w fun e w' => e = .returned (.bool (proofB f aa bb r l)) ∧ Below w.heap.size w w' := by
  have HT := hide ht
  have HA := hide ha
  have HB := hide hb
  have PA := hide pa
  have PB := hide pb
  clear ht ha hb pa pb
  go_enter Try.func78, Try.ntmps78
  go_wp2_with fail
  go_loopw [11] (fun i wr => ∃ (wq : World) (k : Nat), wq = wr ∧ k ≤ l ∧ i = .int .i64 k ∧ Hid (proofB f aa bb r k = true) ∧ Below w.heap.size w wr) (fun i _ => l - (intOf i).toNat)
  case atStart => exact ⟨_, 0, rfl, Nat.zero_le _, rfl, hide rfl, Below.refl _ _⟩
  case round =>
    obtain ⟨wr, k, rfl, hk, rfl, HK, hB⟩ := hrel
    have HW := hide hB
    clear hB
    by_cases hlt : k < l
    · go_wp2_with fail
      go_loopw [16] (fun i wx => ∃ (wq : World) (j : Nat), wq = wx ∧ j ≤ r ∧ i = .int .i64 j ∧ Hid (rowP f aa bb k j = true) ∧ Below w.heap.size w wx) (fun i _ => r - (intOf i).toNat)
      case atStart => exact ⟨_, 0, rfl, Nat.zero_le _, rfl, hide rfl, HW.out⟩
      case round =>
        clear HW
        obtain ⟨wx, j, rfl, hj, rfl, HJ, hB⟩ := hrel
        have HW := hide hB
        clear hB
        by_cases hlj : j < r
        · obtain ⟨a1, off, rfl, hc⟩ : ∃ a1 off, a = some ⟨a1, off, none⟩ ∧ LsAt w a1 off l aa := by
            rcases HA.out with h | h
            · omega
            · exact h
          obtain ⟨b1, of2, rfl, hd⟩ : ∃ b1 off, b = some ⟨b1, off, none⟩ ∧ LsAt w b1 off r bb := by
            rcases HB.out with h | h
            · omega
            · exact h
          have ck := kc HW.out (hc k hlt).1
          have cj := kc HW.out (hd j hlj).1
          have ct := kc HW.out (HT.out.at (i := k) (j := j) (by omega) (by omega))
          clear hc hd
          have b2 := prsB_get PA.out k hlt
          have b3 := prsB_get PB.out j hlj
          obtain ⟨x, hx⟩ : ∃ x, Hid (x = aa k) := ⟨_, hide rfl⟩
          obtain ⟨y, hy⟩ : ∃ y, Hid (y = bb j) := ⟨_, hide rfl⟩
          obtain ⟨z, hz⟩ : ∃ z, Hid (z = f k j) := ⟨_, hide rfl⟩
          rw [← hx.out] at ck b2
          rw [← hy.out] at cj b3
          rw [← hz.out] at ct
          have hk32 : (k : Int) < 32 := by omega
          have hj32 : (j : Int) < 32 := by omega
          have hw1 : IntKind.i64.wrap (x + y) = x + y := IntWalk.i64_in _ (by omega)
          by_cases e1 : x + y < z
          · have HR : Hid (proofB f aa bb r l = false) := hide (proofB_no hlt hlj (by rw [← hx.out, ← hy.out, ← hz.out]; omega))
            go_wp2_with fail
            go_quiet (fail)
            go_wp2_with fail
            go_ret
            exact ⟨by rw [HR.out]; rfl, HW.out.trans (bdn _ _ _)⟩
          · have HJ2 : Hid (rowP f aa bb k (j + 1) = true) := hide (by unfold rowP; rw [HJ.out, ← hx.out, ← hy.out, ← hz.out, decide_eq_true (by omega)]; rfl)
            go_wp2_with fail
            go_quiet (fail)
            go_wp2_with fail
            go_roundw
            case rel => exact ⟨_, j + 1, rfl, by omega, by go_num, HJ2, HW.out.trans (bdn _ _ _)⟩
            case measure => simp [intOf]; omega
        · obtain rfl : j = r := by omega
          have HK2 : Hid (proofB f aa bb j (k + 1) = true) := hide (by unfold proofB; rw [HK.out, HJ.out]; rfl)
          go_wp2_with fail
          go_roundw
          case rel => exact ⟨_, k + 1, rfl, by omega, by go_num, HK2, HW.out⟩
          case measure => simp [intOf]; omega
    · obtain rfl : k = l := by omega
      go_wp2_with fail
      go_ret
      exact ⟨by rw [HK.out]; rfl, HW.out⟩
end Go.Proofs.Ytcakcdolijgjeaa
