/- NewTable's refusal; Count. -/
import Derived.Test.YtkajcbjacjfhnaaIi
set_option linter.unusedVariables false
namespace Go.Proofs.Ytkajcbjacjfhnaa
open Go.RowKit Go.Ab
theorem newTable_no (a : Option Addr) (l c : Nat) (g : Int) (ss : Nat → ByteArray) (w : World) (hz : Zs w a l ss) (hgd : goodB l ss g = false) :
    Calls Try.prog 26 #[.slice a l c, .int .i64 g] w fun e w' => e = .returned (.tuple #[.pointer none, .int .i64 2]) ∧ Below w.heap.size w w' := by
  have HZ := hide hz; clear hz
  have HG := hide hgd; clear hgd
  go_enter Try.func26, Try.ntmps26
  go_wp2_with (go_at_call 69; refine (validAt_is a l c g ss _ HZ.out).mono ?_; rintro e w' ⟨rfl, rfl⟩; rw [HG.out])
  go_ret2
  exact ⟨rfl, Below.refl _ _⟩
/-- a table in memory, and the rectangle of a call -/
def Tx (W : World) (t sb sc n l : Nat) (rb rc : Nat → Nat) (u : Nat → Nat → Bool) : Prop := W.cell? ⟨t, 0, none⟩ = some (.slice (some ⟨sb, 0, none⟩) (l + 1) sc) ∧ (∀ i, i ≤ l → W.cell? ⟨sb, i, none⟩ = some (rowV rb rc n i)) ∧ Rws W rb n (l + 1) u
theorem tx_step {W W' : World} {t sb sc n l : Nat} {rb rc : Nat → Nat} {u : Nat → Nat → Bool} (h : Tx W t sb sc n l rb rc u) (hb : Below W.heap.size W W') : Tx W' t sb sc n l rb rc u := ⟨kc hb h.1, fun i hi => kc hb (h.2.1 i hi), h.2.2.below hb⟩
def Ct (w W : World) (x y b h : Int) (t sb sc n l : Nat) (rb rc : Nat → Nat) (u : Nat → Nat → Bool) : Prop := R4 w W x y b h ∧ Tx W t sb sc n l rb rc u ∧ Below w.heap.size w W
theorem ct_step {w W W' : World} {x y b h : Int} {t sb sc n l : Nat} {rb rc : Nat → Nat} {u : Nat → Nat → Bool} (H : Hid (Ct w W x y b h t sb sc n l rb rc u)) (hb : Below W.heap.size W W') : Hid (Ct w W' x y b h t sb sc n l rb rc u) :=
  hide ⟨rx_step H.out.1 hb, tx_step H.out.2.1 hb, bt H.out.2.2 hb⟩
theorem ct_get {w W : World} {x y b h : Int} {t sb sc n l : Nat} {rb rc : Nat → Nat} {u : Nat → Nat → Bool} (H : Hid (Ct w W x y b h t sb sc n l rb rc u)) :
    ((W.cell? ⟨w.heap.size, 0, none⟩ = some (.int .i64 x) ∧ W.cell? ⟨w.heap.size, 1, none⟩ = some (.int .i64 y)) ∧ (W.cell? ⟨w.heap.size, 2, none⟩ = some (.int .i64 b) ∧ W.cell? ⟨w.heap.size, 3, none⟩ = some (.int .i64 h))) ∧
    (W.cell? ⟨t, 0, none⟩ = some (.slice (some ⟨sb, 0, none⟩) (l + 1) sc) ∧ W.cell? ⟨sb, 0, none⟩ = some (.slice (some ⟨rb 0, 0, none⟩) (n + 1) (rc 0))) ∧ Hid (Ct w W x y b h t sb sc n l rb rc u) :=
  ⟨H.out.1, ⟨H.out.2.1.1, H.out.2.1.2.1 0 (Nat.zero_le _)⟩, H⟩
theorem ct_new {w : World} (x y b h : Int) {t sb sc n l : Nat} {rb rc : Nat → Nat} {u : Nat → Nat → Bool} (H : Tx w t sb sc n l rb rc u) : Hid (Ct w (w.alloc (.cells #[.int .i64 x, .int .i64 y, .int .i64 b, .int .i64 h] 39)) x y b h t sb sc n l rb rc u) :=
  have hb : Below w.heap.size w (w.alloc (.cells #[.int .i64 x, .int .i64 y, .int .i64 b, .int .i64 h] 39)) := (Below.refl _ _).alloc (Nat.le_refl _) _
  hide ⟨rx_new w x y b h, tx_step H hb, hb⟩
set_option maxRecDepth 20000 in
set_option maxHeartbeats 2000000 in
theorem count_bad (t sb sc n l : Nat) (rb rc : Nat → Nat) (u : Nat → Nat → Bool) (x y b h : Int) (w : World) (hT : Tx w t sb sc n l rb rc u) (hr : rectB x y b h = false) :
    Calls Try.prog 28 #[.pointer (some ⟨t, 0, none⟩), .agg #[.int .i64 x, .int .i64 y, .int .i64 b, .int .i64 h]] w fun e w' => e = .returned (.tuple #[.int .i64 0, .int .i64 2]) ∧ Below w.heap.size w w' := by
  have HC := ct_new x y b h hT
  have HR := hide hr
  obtain ⟨_, ⟨c1, c2⟩, _⟩ := ct_get HC
  clear hT hr
  go_enter Try.func28, Try.ntmps28
  go_wp2_with fail
  refine (vrect_is x y b h _).mono ?_
  rintro e w1 ⟨rfl, hb⟩
  rw [HR.out]
  have HB := hide (ct_step HC hb).out.2.2
  clear hb c1 c2
  go_wp2_with fail
  go_ret2
  exact ⟨rfl, HB.out⟩
set_option maxRecDepth 20000 in
set_option maxHeartbeats 2000000 in
theorem count_out (t sb sc n l : Nat) (rb rc : Nat → Nat) (u : Nat → Nat → Bool) (x y b h : Int) (w : World) (hT : Tx w t sb sc n l rb rc u) (hr : rectB x y b h = true) (hl : liesB x y b h n l = false) (i1 : b ≤ 9223372036854775807) (i2 : h ≤ 9223372036854775807) (hn : n ≤ 48) (hl48 : l ≤ 48) :
    Calls Try.prog 28 #[.pointer (some ⟨t, 0, none⟩), .agg #[.int .i64 x, .int .i64 y, .int .i64 b, .int .i64 h]] w fun e w' => e = .returned (.tuple #[.int .i64 0, .int .i64 5]) ∧ Below w.heap.size w w' := by
  have HC := ct_new x y b h hT
  have HQ := hide (rectB_get hr)
  have HR := hide hr
  have HL := hide hl
  have HI := hide (And.intro i1 i2)
  have H48 : Hid ((n : Int) ≤ 48 ∧ (l : Int) ≤ 48) := hide ⟨by omega, by omega⟩
  have hw1 : IntKind.i64.wrap (n : Int) = (n : Int) := IntWalk.i64_in _ (by omega)
  have hw2 : IntKind.i64.wrap (l : Int) = (l : Int) := IntWalk.i64_in _ (by omega)
  obtain ⟨_, ⟨c1, c2⟩, _⟩ := ct_get HC
  clear hT hr hl i1 i2 hn hl48
  go_enter Try.func28, Try.ntmps28
  go_wp2_with fail
  refine (vrect_is x y b h _).mono ?_
  rintro e w1 ⟨rfl, hb⟩
  rw [HR.out]
  have HX := ct_step HC hb
  clear hb c1 c2 HC
  go_wp2_with fail
  have HXd := ct_step HX (Below.drew (Below.refl _ _))
  go_region_held3 (fun W => ((W.cell? ⟨w.heap.size, 0, none⟩ = some (.int .i64 x) ∧ W.cell? ⟨w.heap.size, 1, none⟩ = some (.int .i64 y)) ∧ (W.cell? ⟨w.heap.size, 2, none⟩ = some (.int .i64 b) ∧ W.cell? ⟨w.heap.size, 3, none⟩ = some (.int .i64 h))) ∧
    (W.cell? ⟨t, 0, none⟩ = some (.slice (some ⟨sb, 0, none⟩) (l + 1) sc) ∧ W.cell? ⟨sb, 0, none⟩ = some (.slice (some ⟨rb 0, 0, none⟩) (n + 1) (rc 0))) ∧ Hid (Ct w W x y b h t sb sc n l rb rc u))
    ((go_split_ands; refine ct_get ?_; first | (with_reducible exact HX) | (with_reducible exact HXd) | (with_reducible exact ct_step ‹_› hbw)))
    ((go_at_call 72; (with_reducible refine (fits_is x y b h n l _ HQ.out.2.2.1 HI.out.1 HQ.out.2.2.2 HI.out.2 H48.out.1 H48.out.2).mono ?_); rintro e w' ⟨rfl, hbw⟩; rw [HL.out]))
  go_wp2_with fail
  go_ret2
  go_split_ands
  exact ⟨rfl, (Hid.out (p := Ct _ _ _ _ _ _ _ _ _ _ _ _ _ _) ‹_›).2.2⟩
set_option maxRecDepth 20000 in
set_option maxHeartbeats 4000000 in
theorem count_in (t sb sc n l X Y B H : Nat) (rb rc : Nat → Nat) (u : Nat → Nat → Bool) (w : World) (hT : Tx w t sb sc n l rb rc u) (hB : 1 ≤ B) (hH : 1 ≤ H) (hX : X + B ≤ n) (hY : Y + H ≤ l) (hn : n ≤ 48) (hl48 : l ≤ 48) :
    Calls Try.prog 28 #[.pointer (some ⟨t, 0, none⟩), .agg #[.int .i64 X, .int .i64 Y, .int .i64 B, .int .i64 H]] w fun e w' => e = .returned (.tuple #[.int .i64 (rectN u X Y B H), .int .i64 0]) ∧ Below w.heap.size w w' := by
  have HC := ct_new X Y B H hT
  have hr : rectB X Y B H = true := rectB_yes (by omega) (by omega) (by omega) (by omega)
  have hl : liesB X Y B H n l = true := liesB_yes (by omega) (by omega)
  have HQ := hide (rectB_get hr)
  have HR := hide hr
  have HL := hide hl
  have HI : Hid ((B : Int) ≤ 9223372036854775807 ∧ (H : Int) ≤ 9223372036854775807) := hide ⟨by omega, by omega⟩
  have H48 : Hid ((n : Int) ≤ 48 ∧ (l : Int) ≤ 48) := hide ⟨by omega, by omega⟩
  have hw1 : IntKind.i64.wrap (n : Int) = (n : Int) := IntWalk.i64_in _ (by omega)
  have hw2 : IntKind.i64.wrap (l : Int) = (l : Int) := IntWalk.i64_in _ (by omega)
  have HN := hide (And.intro (And.intro hX hY) (And.intro hn hl48))
  have b1 : (X : Int) ≤ 48 := by omega
  have b2 : (Y : Int) ≤ 48 := by omega
  have b3 : (B : Int) ≤ 48 := by omega
  have b4 : (H : Int) ≤ 48 := by omega
  obtain ⟨_, ⟨c1, c2⟩, _⟩ := ct_get HC
  clear hT hr hl hB hH hX hY hn hl48
  go_enter Try.func28, Try.ntmps28
  go_wp2_with fail
  refine (vrect_is X Y B H _).mono ?_
  rintro e w1 ⟨rfl, hb⟩
  rw [HR.out]
  have HX := ct_step HC hb
  clear hb c1 c2 HC
  go_wp2_with fail
  have HXd := ct_step HX (Below.drew (Below.refl _ _))
  go_region_held3 (fun W => ((W.cell? ⟨w.heap.size, 0, none⟩ = some (.int .i64 X) ∧ W.cell? ⟨w.heap.size, 1, none⟩ = some (.int .i64 Y)) ∧ (W.cell? ⟨w.heap.size, 2, none⟩ = some (.int .i64 B) ∧ W.cell? ⟨w.heap.size, 3, none⟩ = some (.int .i64 H))) ∧
    (W.cell? ⟨t, 0, none⟩ = some (.slice (some ⟨sb, 0, none⟩) (l + 1) sc) ∧ W.cell? ⟨sb, 0, none⟩ = some (.slice (some ⟨rb 0, 0, none⟩) (n + 1) (rc 0))) ∧ Hid (Ct w W X Y B H t sb sc n l rb rc u))
    ((go_split_ands; refine ct_get ?_; first | (with_reducible exact HX) | (with_reducible exact HXd) | (with_reducible exact ct_step ‹_› hbw)))
    ((go_at_call 72; (with_reducible refine (fits_is X Y B H n l _ HQ.out.2.2.1 HI.out.1 HQ.out.2.2.2 HI.out.2 H48.out.1 H48.out.2).mono ?_); rintro e w' ⟨rfl, hbw⟩; rw [HL.out]))
  go_split_ands
  clear HX HXd hw1 hw2
  have HX : Hid (Ct w w' X Y B H t sb sc n l rb rc u) := ‹_›
  clear hbw
  have HT := hide HX.out.2.1
  have HBw := hide HX.out.2.2
  obtain ⟨q, hq⟩ : ∃ q : Nat, Hid (q = Y + H) := ⟨_, hide rfl⟩
  obtain ⟨r, hr⟩ : ∃ r : Nat, Hid (r = X + B) := ⟨_, hide rfl⟩
  have hqi : (Y : Int) + (H : Int) = (q : Int) := by have := hq.out; omega
  have hri : (X : Int) + (B : Int) = (r : Int) := by have := hr.out; omega
  have hw3 : IntKind.i64.wrap (q : Int) = (q : Int) := IntWalk.i64_in _ (by have := hq.out; omega)
  have hw4 : IntKind.i64.wrap (r : Int) = (r : Int) := IntWalk.i64_in _ (by have := hr.out; omega)
  have g1 : Y < l + 1 := by have := HN.out; omega
  have g2 : q < l + 1 := by have := HN.out; have := hq.out; omega
  have g3 : X < n + 1 := by have := HN.out; omega
  have g4 : r < n + 1 := by have := HN.out; have := hr.out; omega
  have g5 : (Y : Int) < (l : Int) + 1 := by omega
  have g6 : (q : Int) < (l : Int) + 1 := by omega
  have g7 : (X : Int) < (n : Int) + 1 := by omega
  have g8 : (r : Int) < (n : Int) + 1 := by omega
  have cY := HT.out.2.1 Y (by omega)
  have cq := HT.out.2.1 q (by omega)
  unfold rowV at cY cq
  obtain ⟨r1, e1⟩ : ∃ r, Hid (r = rb Y) := ⟨_, hide rfl⟩
  obtain ⟨r2, e2⟩ : ∃ r, Hid (r = rb q) := ⟨_, hide rfl⟩
  rw [← e1.out] at cY
  rw [← e2.out] at cq
  obtain ⟨A1, f1⟩ : ∃ A, Hid (A = sumN u q r) := ⟨_, hide rfl⟩
  obtain ⟨A2, f2⟩ : ∃ A, Hid (A = sumN u q X) := ⟨_, hide rfl⟩
  obtain ⟨A3, f3⟩ : ∃ A, Hid (A = sumN u Y r) := ⟨_, hide rfl⟩
  obtain ⟨A4, f4⟩ : ∃ A, Hid (A = sumN u Y X) := ⟨_, hide rfl⟩
  have d1 : w'.cell? ⟨r2, r, none⟩ = some (.int .i64 A1) := by rw [e2.out, f1.out]; exact HT.out.2.2 q (by omega) r (by omega)
  have d2 : w'.cell? ⟨r2, X, none⟩ = some (.int .i64 A2) := by rw [e2.out, f2.out]; exact HT.out.2.2 q (by omega) X (by omega)
  have d3 : w'.cell? ⟨r1, r, none⟩ = some (.int .i64 A3) := by rw [e1.out, f3.out]; exact HT.out.2.2 Y (by omega) r (by omega)
  have d4 : w'.cell? ⟨r1, X, none⟩ = some (.int .i64 A4) := by rw [e1.out, f4.out]; exact HT.out.2.2 Y (by omega) X (by omega)
  have bd : ∀ y x, y ≤ 48 → x ≤ 48 → 0 ≤ sumN u y x ∧ sumN u y x ≤ 2304 := fun y x hy hx => by
    have e := sumN_bd u y x
    refine ⟨e.1, Int.le_trans e.2 ?_⟩
    have e2 : y * x ≤ 48 * 48 := Nat.mul_le_mul hy hx
    exact_mod_cast e2
  have k1 : 0 ≤ A1 ∧ A1 ≤ 2304 := by rw [f1.out]; exact bd _ _ (by have := HN.out; omega) (by have := HN.out; omega)
  have k2 : 0 ≤ A2 ∧ A2 ≤ 2304 := by rw [f2.out]; exact bd _ _ (by have := HN.out; omega) (by have := HN.out; omega)
  have k3 : 0 ≤ A3 ∧ A3 ≤ 2304 := by rw [f3.out]; exact bd _ _ (by have := HN.out; omega) (by have := HN.out; omega)
  have k4 : 0 ≤ A4 ∧ A4 ≤ 2304 := by rw [f4.out]; exact bd _ _ (by have := HN.out; omega) (by have := HN.out; omega)
  have hw5 : IntKind.i64.wrap (A1 - A2) = A1 - A2 := IntWalk.i64_in _ (by omega)
  have hw6 : IntKind.i64.wrap (A1 - A2 - A3) = A1 - A2 - A3 := IntWalk.i64_in _ (by omega)
  have hw7 : IntKind.i64.wrap (A1 - A2 - A3 + A4) = A1 - A2 - A3 + A4 := IntWalk.i64_in _ (by omega)
  have HR2 : Hid (rectN u X Y B H = A1 - A2 - A3 + A4) := hide (by rw [rectN_is, f1.out, f2.out, f3.out, f4.out, hq.out, hr.out])
  clear bd k1 k2 k3 k4 HX HR HL HQ HI
  go_wp2_with fail
  go_quiet (fail)
  go_wp2_with fail
  go_quiet (fail)
  go_wp2_with fail
  go_quiet (fail)
  go_wp2_with fail
  go_ret2
  refine ⟨by rw [HR2.out]; rfl, ?_⟩
  first | exact HBw.out | exact HBw.out.trans (bdn _ _ _) | exact (HBw.out.trans (bdn _ _ _)).trans (bdn _ _ _) | exact ((HBw.out.trans (bdn _ _ _)).trans (bdn _ _ _)).trans (bdn _ _ _)
end Go.Proofs.Ytkajcbjacjfhnaa
