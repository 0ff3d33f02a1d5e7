/- The reference's box and Trim. -/
import Derived.Test.YtkajcbjacjfhnaaIb
set_option linter.unusedVariables false
namespace Go.Proofs.Ytkajcbjacjfhnaa
open Go.RowKit Go.Ab
/-- cells in memory, two numbers each -/
def PrAt (w : World) (b : Nat) (cs : List (Nat × Nat)) : Prop := ∀ i (h : i < cs.length), w.cell? ⟨b, i * 2, none⟩ = some (.int .i64 (cs[i]).1) ∧ w.cell? ⟨b, i * 2 + 1, none⟩ = some (.int .i64 (cs[i]).2)
theorem PrAt.below {w w' : World} {b : Nat} {cs : List (Nat × Nat)} (h : PrAt w b cs) (hb : Below w.heap.size w w') : PrAt w' b cs := fun i hi => ⟨kc hb (h i hi).1, kc hb (h i hi).2⟩
theorem pr_of_owns {w : World} {B : Nat} {v : Value} {cs : List (Nat × Nat)} (h : w.ownsRow B 111 2 v cs.length (cells2 cs)) (hne : cs ≠ []) : ∃ b c, v = .slice (some ⟨b, 0, none⟩) cs.length c ∧ PrAt w b cs := by
  obtain ⟨h1, ⟨rfl, h0⟩ | ⟨g, cap, cur, rfl, hg, hc, hnc, hx, hs, ht⟩⟩ := h
  · exact absurd (List.length_eq_zero_iff.1 h0) hne
  · refine ⟨g, cap, rfl, fun i hi => ?_⟩
    obtain ⟨e1, e2⟩ := cells2_get cs i hi
    rw [cell_of_row w g _ cur 111 (0, 0) hc, cell_of_row w g _ cur 111 (0, 0) hc, ← Array.getElem?_toList, ← Array.getElem?_toList]
    refine ⟨?_, ?_⟩
    · rw [← e1, ← ht, List.getElem?_take, if_pos (by omega)]
    · rw [← e2, ← ht, List.getElem?_take, if_pos (by omega)]
/-- the box of the first k, of the first one at least -/
def bxK (cs : List (Nat × Nat)) (k : Nat) : Bx := boxL (cs.take (max k 1))
theorem bxK_step (cs : List (Nat × Nat)) (k : Nat) (h : k < cs.length) : bxK cs (k + 1) = (bxK cs k).more cs[k] := by
  unfold bxK
  cases k with
  | zero =>
    cases cs with
    | nil => simp at h
    | cons a t =>
      show boxL [a] = (boxL [a]).more a
      rw [boxL_one]; unfold Bx.more; simp
  | succ k =>
    rw [show max (k + 1 + 1) 1 = k + 1 + 1 by omega, show max (k + 1) 1 = k + 1 by omega, List.take_succ_eq_append_getElem h]
    exact boxL_more (by
      intro e
      have h2 : (cs.take (k + 1)).length = 0 := by rw [e]; rfl
      rw [List.length_take] at h2; omega) _
theorem bxK_zero (cs : List (Nat × Nat)) (h : 0 < cs.length) : bxK cs 0 = ⟨(cs[0]).1, (cs[0]).2, (cs[0]).1, (cs[0]).2⟩ := by
  cases cs with
  | nil => simp at h
  | cons a t => rfl
theorem bxK_all (cs : List (Nat × Nat)) (h : 0 < cs.length) : bxK cs cs.length = boxL cs := by
  unfold bxK; rw [show max cs.length 1 = cs.length by omega, List.take_length]
theorem bxK_lt {N L : Nat} {cs : List (Nat × Nat)} (k : Nat) (h : 0 < cs.length) (hc : ∀ c ∈ cs, c.1 < N ∧ c.2 < L) : (bxK cs k).x0 ≤ (bxK cs k).x1 ∧ (bxK cs k).y0 ≤ (bxK cs k).y1 ∧ (bxK cs k).x1 < N ∧ (bxK cs k).y1 < L := by
  unfold bxK
  refine boxL_lt ?_ (fun c h => hc c (List.mem_of_mem_take h))
  intro e
  have h2 : (cs.take (max k 1)).length = 0 := by rw [e]; rfl
  rw [List.length_take] at h2; omega
/-- what box answers -/
def boxV (cs : List (Nat × Nat)) : Array Value := match cs with | [] => #[.agg #[.int .i64 0, .int .i64 0, .int .i64 0, .int .i64 0], .bool false] | _ => #[.agg (bv cs), .bool true]
set_option maxRecDepth 20000 in
set_option maxHeartbeats 4000000 in
theorem box_nil (a : Option Addr) (c : Nat) (w : World) :
    Calls Try.prog 87 #[.slice a (0 : Nat) c] w fun e w' => e = .returned (.tuple #[.agg #[.int .i64 0, .int .i64 0, .int .i64 0, .int .i64 0], .bool false]) ∧ Below w.heap.size w w' := by
  go_enter Try.func87, Try.ntmps87
  go_wp2
  refine bodyPost_ret (v := .tuple #[.agg #[.int .i64 0, .int .i64 0, .int .i64 0, .int .i64 0], .bool false]) (by simp [results, Try.results87, go_sem]) rfl ⟨rfl, ?_⟩
  exact (Below.refl _ _).alloc (Nat.le_refl _) _
set_option maxRecDepth 20000 in
set_option maxHeartbeats 4000000 in
theorem box_cons (b c L : Nat) (cs : List (Nat × Nat)) (w : World) (hp : PrAt w b cs) (h0 : 0 < cs.length) (hL : L = cs.length) (hlen : cs.length ≤ 2304) (hc : ∀ c ∈ cs, c.1 < 48 ∧ c.2 < 48) :
    Calls Try.prog 87 #[.slice (some ⟨b, 0, none⟩) L c] w fun e w' => e = .returned (.tuple #[.agg #[.int .i64 (boxL cs).x0, .int .i64 (boxL cs).y0, .int .i64 (bW cs), .int .i64 (bH cs)], .bool true]) ∧ Below w.heap.size w w' := by
  have HB0 : Hid (Below w.heap.size w (w.alloc (.cells #[.int .i64 0, .int .i64 0, .int .i64 0, .int .i64 0] 39))) := hide ((Below.refl _ _).alloc (Nat.le_refl _) _)
  have K0 := hide (Blk.new w #[.int .i64 0, .int .i64 0, .int .i64 0, .int .i64 0] 39)
  have HP := hide (hp.below HB0.out)
  have hz := bxK_zero cs h0
  have c0 := (HP.out 0 h0).1
  have c1 := (HP.out 0 h0).2
  rw [Nat.zero_mul, show ((cs[0]).1 : Nat) = (bxK cs 0).x0 by rw [hz]] at c0
  rw [Nat.zero_mul, Nat.zero_add, show ((cs[0]).2 : Nat) = (bxK cs 0).y0 by rw [hz]] at c1
  have HZ : Hid ((bxK cs 0).x1 = (bxK cs 0).x0 ∧ (bxK cs 0).y1 = (bxK cs 0).y0) := hide (by rw [hz]; exact ⟨rfl, rfl⟩)
  have hL0 : 0 < L := by omega
  have hLi : (L : Int) ≤ 2304 := by omega
  have hL2 : ((L : Int) == 0) = false := by simp; omega
  have HL := hide hL
  have HH := hide h0
  have HC := hide hc
  clear hz hp h0 hL hlen hc
  go_enter Try.func87, Try.ntmps87
  go_wp2_with fail
  go_quiet (fail)
  go_wp2_with fail
  go_loopw [4, 5, 6, 7, 32] (fun s4 s5 s6 s7 i wr => ∃ (wq : World) (k : Nat), wq = wr ∧ k ≤ L ∧ s4 = .int .i64 (bxK cs k).x0 ∧ s5 = .int .i64 (bxK cs k).y0 ∧ s6 = .int .i64 (bxK cs k).x1 ∧ s7 = .int .i64 (bxK cs k).y1 ∧ i = .int .i64 k ∧ Below w.heap.size w wr ∧ Blk wr w.heap.size #[.int .i64 0, .int .i64 0, .int .i64 0, .int .i64 0] 39 ∧ PrAt wr b cs) (fun _ _ _ _ i _ => L - (intOf i).toNat)
  case atStart => exact ⟨_, 0, rfl, Nat.zero_le _, rfl, rfl, by rw [HZ.out.1], by rw [HZ.out.2], rfl, HB0.out.trans (bdn _ _ _), K0.out.below (bdn _ _ _), HP.out.below (bdn _ _ _)⟩
  case round =>
    clear c0 c1
    obtain ⟨wr, k, rfl, hk, rfl, rfl, rfl, rfl, rfl, hb, hbk, hp⟩ := hrel
    have HB := hide hb
    have HK := hide hbk
    have HP := hide hp
    clear hb hbk hp
    by_cases hlt : k < L
    · have hkl : k < cs.length := by rw [← HL.out]; exact hlt
      have c0 := (HP.out k hkl).1
      have c1 := (HP.out k hkl).2
      obtain ⟨x, ex⟩ : ∃ x : Nat, Hid (x = (cs[k]).1) := ⟨_, hide rfl⟩
      obtain ⟨y, ey⟩ : ∃ y : Nat, Hid (y = (cs[k]).2) := ⟨_, hide rfl⟩
      rw [← ex.out] at c0
      rw [← ey.out] at c1
      obtain ⟨B, eB⟩ : ∃ B : Bx, Hid (B = bxK cs k) := ⟨_, hide rfl⟩
      have HS : Hid (bxK cs (k + 1) = ⟨min B.x0 x, min B.y0 y, max B.x1 x, max B.y1 y⟩) := hide (by rw [bxK_step cs k hkl, eB.out, ex.out, ey.out]; rfl)
      rw [← eB.out]
      have m1 : (if x < B.x0 then (x : Int) else (B.x0 : Int)) = ((min B.x0 x : Nat) : Int) := by split <;> omega
      have m2 : (if y < B.y0 then (y : Int) else (B.y0 : Int)) = ((min B.y0 y : Nat) : Int) := by split <;> omega
      have m3 : (if B.x1 < x then (x : Int) else (B.x1 : Int)) = ((max B.x1 x : Nat) : Int) := by split <;> omega
      have m4 : (if B.y1 < y then (y : Int) else (B.y1 : Int)) = ((max B.y1 y : Nat) : Int) := by split <;> omega
      go_wp2_with fail
      go_quiet (fail)
      go_wp2_with fail
      go_roundw
      case rel =>
        refine ⟨_, k + 1, rfl, by omega, by rw [HS.out], by rw [HS.out], by rw [HS.out], by rw [HS.out], by go_num, ?_⟩
        have hbA : Below wr.heap.size wr ((wr.alloc (.cells #[.int .i64 x, .int .i64 y] 111)).drewN nq) := (ba (Below.refl _ _) (Nat.le_refl _) _).trans (bdn _ _ _)
        exact ⟨bt HB.out hbA, HK.out.below hbA, HP.out.below hbA⟩
      case measure => simp [intOf]; omega
    · obtain rfl : k = L := by omega
      have hl2 : 0 < cs.length := HH.out
      have HA : Hid (bxK cs k = boxL cs) := hide (by rw [HL.out]; exact bxK_all cs HH.out)
      have HLt := hide (bxK_lt (N := 48) (L := 48) k HH.out HC.out)
      have hne : cs ≠ [] := by intro e; rw [e] at hl2; simp at hl2
      obtain ⟨B, eB⟩ : ∃ B : Bx, Hid (B = bxK cs k) := ⟨_, hide rfl⟩
      rw [← eB.out] at HLt HA ⊢
      obtain ⟨u, hu⟩ : ∃ u : Nat, Hid (u = bW cs) := ⟨_, hide rfl⟩
      obtain ⟨t, ht⟩ : ∃ t : Nat, Hid (t = bH cs) := ⟨_, hide rfl⟩
      have e1 : (B.x1 : Int) - (B.x0 : Int) + 1 = (u : Int) := by rw [hu.out, bW_cons hne, ← HA.out]; have := HLt.out; omega
      have e2 : (B.y1 : Int) - (B.y0 : Int) + 1 = (t : Int) := by rw [ht.out, bH_cons hne, ← HA.out]; have := HLt.out; omega
      have b1 : (B.x1 : Int) ≤ 48 := by have := HLt.out; omega
      have b2 : (B.y1 : Int) ≤ 48 := by have := HLt.out; omega
      have b3 : (B.x0 : Int) ≤ 48 := by have := HLt.out; omega
      have b4 : (B.y0 : Int) ≤ 48 := by have := HLt.out; omega
      have r0 := HK.out.cell 0 (v := .int .i64 0) rfl
      have r1 := HK.out.cell 1 (v := .int .i64 0) rfl
      have r2 := HK.out.cell 2 (v := .int .i64 0) rfl
      have r3 := HK.out.cell 3 (v := .int .i64 0) rfl
      have f0 := HK.out.free 0
      have f1 := HK.out.free 1
      have f2 := HK.out.free 2
      have f3 := HK.out.free 3
      clear hl2 hne
      go_wp2_with fail
      refine bodyPost_ret (v := .tuple #[.agg #[.int .i64 B.x0, .int .i64 B.y0, .int .i64 u, .int .i64 t], .bool true]) (by simp [results, Try.results87, go_sem, r0, r1, r2, r3, World.cell?_setCell_same]) rfl ⟨by rw [← hu.out, ← ht.out, ← HA.out], ?_⟩
      exact HB.out.trans (gb_low (gb_set4 _ _ _ _ _ _) (Nat.le_refl _) HB.out.size)
end Go.Proofs.Ytkajcbjacjfhnaa
