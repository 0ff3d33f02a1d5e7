/- Closures that read a skin; Mirror and turned. -/
import Derived.Test.YtkajcbjacjfhnaaHa
set_option linter.unusedVariables false
namespace Go.Proofs.Ytkajcbjacjfhnaa
open Go.RowKit Go.Ab
def get (s : ByteArray) (i : Nat) : UInt8 := if h : i < s.size then s[i] else 0
theorem get_in {s : ByteArray} {i : Nat} (h : i < s.size) : s[i] = get s i := by unfold get; rw [dif_pos h]
theorem rowS_size (f : Nat → Nat → UInt8) (n y : Nat) : (rowS f n y).size = n := by
  show ((rowL f y n).toArray).size = n
  rw [List.size_toArray, rowL_len]
/-- a skin of n by l cells in memory -/
def Sk (w : World) (v : Value) (n l : Nat) (f : Nat → Nat → UInt8) : Prop := ∃ b off c, v = .slice (some ⟨b, off, none⟩) l c ∧ ZsAt w b off l (rowS f n)
theorem get_row (f : Nat → Nat → UInt8) (n x y : Nat) (h : x < n) : get (rowS f n y) x = f x y := by
  have h1 : x < (rowS f n y).size := by rw [rowS_size]; exact h
  rw [← get_in h1]
  show ((rowL f y n).toArray)[x]'_ = _
  simp [rowL]
theorem sk_of_owns {w : World} {B n l : Nat} {v : Value} {f : Nat → Nat → UInt8} (h : w.ownsRow B 9 1 v l (strs f n l)) (hl : 1 ≤ l) (hn : n ≤ 48) : Sk w v n l f := by
  obtain ⟨h1, ⟨rfl, h0⟩ | ⟨g, cap, cur, rfl, hg, hc, hnc, hm, hs, ht⟩⟩ := h
  · omega
  · refine ⟨g, 0, cap, rfl, fun i hi => ⟨?_, by rw [rowS_size]; unfold maxLen; omega⟩⟩
    rw [Nat.zero_add, cell_of_row w g i cur 9 (0, 0) hc, ← Array.getElem?_toList]
    have : cur.toList[i]? = (cur.toList.take (l * 1))[i]? := by rw [List.getElem?_take, if_pos (by omega)]
    rw [this, ht]
    unfold strs
    rw [List.getElem?_map, List.getElem?_range hi]; rfl
theorem Sk.below {w w' : World} {v : Value} {n l : Nat} {f : Nat → Nat → UInt8} (h : Sk w v n l f) (hb : Below w.heap.size w w') : Sk w' v n l f := by
  obtain ⟨b, off, c, e, hz⟩ := h
  exact ⟨b, off, c, e, hz.below hb⟩
set_option maxHeartbeats 1000000 in
theorem mirror1_is (b off l c n b1 b2 x y : Nat) (f : Nat → Nat → UInt8) (w : World) (hz : ZsAt w b off l (rowS f n)) (hy : y < l) (hx : x < n) (hl : l ≤ 48) (hn : n ≤ 48)
    (c1 : w.cell? ⟨b1, 0, none⟩ = some (.slice (some ⟨b, off, none⟩) l c)) (c2 : w.cell? ⟨b2, 0, none⟩ = some (.int .i64 ((n : Int) - 1))) :
    Calls Try.prog 76 #[.agg #[.int .i64 x, .int .i64 y], .pointer (some ⟨b1, 0, none⟩), .pointer (some ⟨b2, 0, none⟩)] w fun e w' => e = .returned (.int .u8 ((f (n - 1 - x) y).toNat : Int)) ∧ Below w.heap.size w w' := by
  have hb1 : b1 < w.heap.size := World.block_lt_of_cell? _ _ c1
  have hb2 : b2 < w.heap.size := World.block_lt_of_cell? _ _ c2
  have cy := (hz y hy).1
  have hb : b < w.heap.size := World.block_lt_of_cell? _ _ cy
  clear hz
  obtain ⟨m, hm⟩ : ∃ m : Nat, Hid (m = n - 1 - x) := ⟨_, hide rfl⟩
  have hmi : (n : Int) - 1 - (x : Int) = (m : Int) := by have := hm.out; omega
  obtain ⟨s, hs⟩ : ∃ s, Hid (s = rowS f n y) := ⟨_, hide rfl⟩
  have hlt : m < s.size := by rw [hs.out, rowS_size]; have := hm.out; omega
  have HG : Hid (s[m] = f (n - 1 - x) y) := by rw [get_in hlt, hs.out, get_row f n _ y (by have := hm.out; omega), hm.out]; exact hide rfl
  rw [← hs.out] at cy
  have hw64 : IntKind.i64.wrap (m : Int) = (m : Int) := IntWalk.i64_in _ (by omega)
  go_enter Try.func76, Try.ntmps76
  go_wp2_with fail
  go_quiet (fail)
  go_wp2_with fail
  go_ret
  exact ⟨by rw [HG.out]; rfl, ⟨rfl, rfl, rfl, by simp, fun k hk => Below.heap_alloc _ _ _ hk⟩⟩
set_option maxHeartbeats 1000000 in
theorem turned1_is (b off l c n b1 b2 x y : Nat) (f : Nat → Nat → UInt8) (w : World) (hz : ZsAt w b off l (rowS f n)) (hy : y < n) (hx : x < l) (hl : l ≤ 48) (hn : n ≤ 48)
    (c1 : w.cell? ⟨b1, 0, none⟩ = some (.slice (some ⟨b, off, none⟩) l c)) (c2 : w.cell? ⟨b2, 0, none⟩ = some (.int .i64 ((l : Int) - 1))) :
    Calls Try.prog 124 #[.agg #[.int .i64 x, .int .i64 y], .pointer (some ⟨b1, 0, none⟩), .pointer (some ⟨b2, 0, none⟩)] w fun e w' => e = .returned (.int .u8 ((f y (l - 1 - x)).toNat : Int)) ∧ Below w.heap.size w w' := by
  have hb1 : b1 < w.heap.size := World.block_lt_of_cell? _ _ c1
  have hb2 : b2 < w.heap.size := World.block_lt_of_cell? _ _ c2
  obtain ⟨m, hm⟩ : ∃ m : Nat, Hid (m = l - 1 - x) := ⟨_, hide rfl⟩
  have hmi : (l : Int) - 1 - (x : Int) = (m : Int) := by have := hm.out; omega
  have hml : m < l := by have := hm.out; omega
  have cy := (hz m hml).1
  have hb : b < w.heap.size := World.block_lt_of_cell? _ _ cy
  clear hz
  obtain ⟨s, hs⟩ : ∃ s, Hid (s = rowS f n m) := ⟨_, hide rfl⟩
  have hlt : y < s.size := by rw [hs.out, rowS_size]; omega
  have HG : Hid (s[y] = f y (l - 1 - x)) := by rw [get_in hlt, hs.out, get_row f n _ m hy, hm.out]; exact hide rfl
  rw [← hs.out] at cy
  have hw64 : IntKind.i64.wrap (m : Int) = (m : Int) := IntWalk.i64_in _ (by omega)
  go_enter Try.func124, Try.ntmps124
  go_wp2_with fail
  go_quiet (fail)
  go_wp2_with fail
  go_ret
  exact ⟨by rw [HG.out]; rfl, ⟨rfl, rfl, rfl, by simp, fun k hk => Below.heap_alloc _ _ _ hk⟩⟩
end Go.Proofs.Ytkajcbjacjfhnaa
