/- Prices; the program's Worth. -/
import Derived.Test.YtkajcbjacjfhnaaGf
namespace Go.Proofs.Ytkajcbjacjfhnaa
open Go.RowKit
def okP (n : Int) : Bool := decide (0 ≤ n) && decide (n ≤ 1000000)
def pricesA (m : Nat) (ns : Nat → Int) : Bool := (List.range m).all fun i => okP (ns i)
def pricesB (m : Nat) (ns : Nat → Int) : Bool := pricesA m ns && decide (m = 10)
theorem pricesA_succ (k : Nat) (ns : Nat → Int) : pricesA (k + 1) ns = (pricesA k ns && okP (ns k)) := by unfold pricesA; rw [List.range_succ, List.all_append]; simp
theorem pricesA_not {m k : Nat} {ns : Nat → Int} (h : k < m) (hb : okP (ns k) = false) : pricesA m ns = false := by
  unfold pricesA
  rw [← Bool.not_eq_true, List.all_eq_true]
  intro hall
  have := hall k (by simpa using h)
  rw [hb] at this; cases this
theorem pricesA_get {m k : Nat} {ns : Nat → Int} (h : pricesA m ns = true) (hk : k < m) : 0 ≤ ns k ∧ ns k ≤ 1000000 := by
  have := List.all_eq_true.1 h k (by simpa using hk)
  unfold okP at this
  simpa using this
def sumW (C ns : Nat → Int) : Nat → Int
  | 0 => 0
  | k + 1 => sumW C ns k + C k * ns k
theorem mul_bd (a b : Int) (h : 0 ≤ a ∧ a ≤ 2400) (k : 0 ≤ b ∧ b ≤ 1000000) : 0 ≤ a * b ∧ a * b ≤ 2400000000 := by
  have h1 := Int.mul_nonneg h.1 k.1
  have h2 := Int.mul_le_mul h.2 k.2 k.1 (by omega)
  omega
theorem sumW_bd (C ns : Nat → Int) : ∀ k, (∀ i, i < k → 0 ≤ C i ∧ C i ≤ 2400) → (∀ i, i < k → 0 ≤ ns i ∧ ns i ≤ 1000000) → 0 ≤ sumW C ns k ∧ sumW C ns k ≤ k * 2400000000
  | 0, _, _ => by simp [sumW]
  | k + 1, h1, h2 => by
    have ih := sumW_bd C ns k (fun i hi => h1 i (by omega)) (fun i hi => h2 i (by omega))
    have hm := mul_bd (C k) (ns k) (h1 k (by omega)) (h2 k (by omega))
    unfold sumW
    omega
/-- numbers in memory -/
def PsAt (w : World) (b off m : Nat) (ns : Nat → Int) : Prop := ∀ i, i < m → w.cell? ⟨b, off + i, none⟩ = some (.int .i64 (ns i)) ∧ In64 (ns i)
def Ps (w : World) (a : Option Addr) (m : Nat) (ns : Nat → Int) : Prop := m = 0 ∨ ∃ b off, a = some ⟨b, off, none⟩ ∧ PsAt w b off m ns
theorem PsAt.below {w w' : World} {b off m : Nat} {ns : Nat → Int} (h : PsAt w b off m ns) (hb : Below w.heap.size w w') : PsAt w' b off m ns := fun i hi => by
  have := (h i hi).1
  exact ⟨by rw [hb.cell (World.block_lt_of_cell? _ _ this)]; exact this, (h i hi).2⟩
theorem Ps.below {w w' : World} {a : Option Addr} {m : Nat} {ns : Nat → Int} (h : Ps w a m ns) (hb : Below w.heap.size w w') : Ps w' a m ns := by
  rcases h with h | ⟨b, off, e, h⟩
  · exact .inl h
  · exact .inr ⟨b, off, e, h.below hb⟩
theorem ZsAt.below {w w' : World} {b off l : Nat} {ss : Nat → ByteArray} (h : ZsAt w b off l ss) (hb : Below w.heap.size w w') : ZsAt w' b off l ss := fun i hi => by
  have := (h i hi).1
  exact ⟨by rw [hb.cell (World.block_lt_of_cell? _ _ this)]; exact this, (h i hi).2⟩
theorem Zs.below {w w' : World} {a : Option Addr} {l : Nat} {ss : Nat → ByteArray} (h : Zs w a l ss) (hb : Below w.heap.size w w') : Zs w' a l ss := by
  rcases h with h | ⟨b, off, e, h⟩
  · exact .inl h
  · exact .inr ⟨b, off, e, h.below hb⟩
set_option maxHeartbeats 1000000 in
theorem prices_none (a : Option Addr) (c : Nat) (w : World) : Calls Try.prog 66 #[.slice a 0 c] w fun e w' => e = .returned (.bool false) ∧ w = w' := by
  go_enter Try.func66, Try.ntmps66
  go_wp2
  go_loop [7] (fun i => i = .int .i64 0) (fun _ => 0)
  case atStart => rfl
  case round =>
    subst hrel
    go_wp2
    go_ret
    exact ⟨rfl, rfl⟩
set_option maxHeartbeats 1000000 in
theorem prices_at (b off m c : Nat) (ns : Nat → Int) (w : World) (hm : m ≤ maxLen) (hz : PsAt w b off m ns) :
    Calls Try.prog 66 #[.slice (some ⟨b, off, none⟩) m c] w fun e w' => e = .returned (.bool (pricesB m ns)) ∧ w = w' := by
  unfold maxLen at hm
  have HZ := hide hz; clear hz
  go_enter Try.func66, Try.ntmps66
  go_wp2
  go_loop [7] (fun i => ∃ k : Nat, k ≤ m ∧ i = .int .i64 k ∧ Hid (pricesA k ns = true)) (fun i => m - (intOf i).toNat)
  case atStart => exact ⟨0, Nat.zero_le _, rfl, hide rfl⟩
  case round =>
    obtain ⟨k, hk, rfl, HK⟩ := hrel
    by_cases hlt : k < m
    · have ck := (HZ.out k hlt).1
      have HN : Hid (okP (ns k) = false → pricesB m ns = false) := hide fun h => by unfold pricesB; rw [pricesA_not hlt h]; rfl
      have HS := hide (pricesA_succ k ns)
      by_cases g1 : ns k < 0
      · go_wp2
        go_ret
        exact ⟨by rw [HN.out (by unfold okP; simp; omega)]; rfl, rfl⟩
      · by_cases g2 : 1000000 < ns k
        · go_wp2
          go_ret
          exact ⟨by rw [HN.out (by unfold okP; simp; omega)]; rfl, rfl⟩
        · go_wp2
          go_round
          case rel => exact ⟨k + 1, by omega, by go_num, hide (by rw [HS.out, HK.out]; unfold okP; simp; omega)⟩
          case measure => simp [intOf]; omega
    · obtain rfl : k = m := by omega
      by_cases h10 : k = 10
      · have HP : Hid (pricesB k ns = true) := hide (by unfold pricesB; rw [HK.out]; simp [h10])
        have t : (((k : Nat) : Int) == 10) = true := by simp; omega
        clear h10
        go_wp2
        go_ret
        exact ⟨by rw [HP.out]; rfl, rfl⟩
      · have HP : Hid (pricesB k ns = false) := hide (by unfold pricesB; simp [h10])
        have t : (((k : Nat) : Int) == 10) = false := by simp; omega
        clear h10
        go_wp2
        go_ret
        exact ⟨by rw [HP.out]; rfl, rfl⟩
theorem prices_any (a : Option Addr) (m c : Nat) (ns : Nat → Int) (w : World) (hm : m ≤ maxLen) (hz : Ps w a m ns) :
    Calls Try.prog 66 #[.slice a m c] w fun e w' => e = .returned (.bool (pricesB m ns)) ∧ w = w' := by
  rcases hz with rfl | ⟨b, off, rfl, hz⟩
  · exact prices_none a c w
  · exact prices_at b off m c ns w hm hz
end Go.Proofs.Ytkajcbjacjfhnaa
