/- Rectangles: valid, of the program and of the reference. Rectangles that lie within. Crop's closure. Punch's closure. extent; within. -/
import Derived.Test.YtkajcbjacjfhnaaHj
set_option linter.unusedVariables false
namespace Go.Proofs.Ytkajcbjacjfhnaa
open Go.RowKit Go.Ab
def rectB (x y b h : Int) : Bool := decide (0 ≤ x) && decide (0 ≤ y) && decide (1 ≤ b) && decide (1 ≤ h)
theorem rectB_no {x y b h : Int} (H : ¬ (0 ≤ x ∧ 0 ≤ y ∧ 1 ≤ b ∧ 1 ≤ h)) : rectB x y b h = false := by
  cases e : rectB x y b h with
  | false => rfl
  | true =>
    unfold rectB at e
    simp only [Bool.and_eq_true, decide_eq_true_eq] at e
    exact absurd ⟨e.1.1.1, e.1.1.2, e.1.2, e.2⟩ H
theorem rectB_yes {x y b h : Int} (h1 : 0 ≤ x) (h2 : 0 ≤ y) (h3 : 1 ≤ b) (h4 : 1 ≤ h) : rectB x y b h = true := by unfold rectB; simp [h1, h2, h3, h4]
set_option maxHeartbeats 1000000 in
theorem vrect_is (x y b h : Int) (w : World) :
    Calls Try.prog 71 #[.agg #[.int .i64 x, .int .i64 y, .int .i64 b, .int .i64 h]] w fun e w' => e = .returned (.bool (rectB x y b h)) ∧ Below w.heap.size w w' := by
  have HB : Hid (Below w.heap.size w (w.alloc (.cells #[.int .i64 x, .int .i64 y, .int .i64 b, .int .i64 h] 39))) := hide ((Below.refl _ _).alloc (Nat.le_refl _) _)
  by_cases h1 : 0 ≤ x
  · by_cases h2 : 0 ≤ y
    · by_cases h3 : 1 ≤ b
      · by_cases h4 : 1 ≤ h
        · have HR := hide (rectB_yes h1 h2 h3 h4)
          go_enter Try.func71, Try.ntmps71
          go_wp2
          go_ret
          exact ⟨by rw [HR.out]; rfl, HB.out⟩
        · have HR : Hid (rectB x y b h = false) := hide (rectB_no (by omega))
          go_enter Try.func71, Try.ntmps71
          go_wp2
          go_ret
          exact ⟨by rw [HR.out]; rfl, HB.out⟩
      · have HR : Hid (rectB x y b h = false) := hide (rectB_no (by omega))
        go_enter Try.func71, Try.ntmps71
        go_wp2
        go_ret
        exact ⟨by rw [HR.out]; rfl, HB.out⟩
    · have HR : Hid (rectB x y b h = false) := hide (rectB_no (by omega))
      go_enter Try.func71, Try.ntmps71
      go_wp2
      go_ret
      exact ⟨by rw [HR.out]; rfl, HB.out⟩
  · have HR : Hid (rectB x y b h = false) := hide (rectB_no (by omega))
    go_enter Try.func71, Try.ntmps71
    go_wp2
    go_ret
    exact ⟨by rw [HR.out]; rfl, HB.out⟩
set_option maxHeartbeats 1000000 in
theorem rrect_is (x y b h : Int) (w : World) :
    Calls Try.prog 29 #[.agg #[.int .i64 x, .int .i64 y, .int .i64 b, .int .i64 h]] w fun e w' => e = .returned (.bool (rectB x y b h)) ∧ Below w.heap.size w w' := by
  have HB : Hid (Below w.heap.size w (w.alloc (.cells #[.int .i64 x, .int .i64 y, .int .i64 b, .int .i64 h] 39))) := hide ((Below.refl _ _).alloc (Nat.le_refl _) _)
  by_cases h3 : 1 ≤ b
  · by_cases h4 : 1 ≤ h
    · by_cases h1 : 0 ≤ x
      · by_cases h2 : 0 ≤ y
        · have HR := hide (rectB_yes h1 h2 h3 h4)
          go_enter Try.func29, Try.ntmps29
          go_wp2
          go_ret
          exact ⟨by rw [HR.out]; rfl, HB.out⟩
        · have HR : Hid (rectB x y b h = false) := hide (rectB_no (by omega))
          go_enter Try.func29, Try.ntmps29
          go_wp2
          go_ret
          exact ⟨by rw [HR.out]; rfl, HB.out⟩
      · have HR : Hid (rectB x y b h = false) := hide (rectB_no (by omega))
        go_enter Try.func29, Try.ntmps29
        go_wp2
        go_ret
        exact ⟨by rw [HR.out]; rfl, HB.out⟩
    · have HR : Hid (rectB x y b h = false) := hide (rectB_no (by omega))
      go_enter Try.func29, Try.ntmps29
      go_wp2
      go_ret
      exact ⟨by rw [HR.out]; rfl, HB.out⟩
  · have HR : Hid (rectB x y b h = false) := hide (rectB_no (by omega))
    go_enter Try.func29, Try.ntmps29
    go_wp2
    go_ret
    exact ⟨by rw [HR.out]; rfl, HB.out⟩
end Go.Proofs.Ytkajcbjacjfhnaa
set_option linter.unusedVariables false
namespace Go.Proofs.Ytkajcbjacjfhnaa
open Go.RowKit Go.Ab
def liesB (x y b h : Int) (n l : Nat) : Bool := decide (x + b ≤ n) && decide (y + h ≤ l)
theorem liesB_yes {x y b h : Int} {n l : Nat} (h1 : x + b ≤ n) (h2 : y + h ≤ l) : liesB x y b h n l = true := by unfold liesB; simp [h1, h2]
theorem liesB_no {x y b h : Int} {n l : Nat} (H : ¬ (x + b ≤ n ∧ y + h ≤ l)) : liesB x y b h n l = false := by
  cases e : liesB x y b h n l with
  | false => rfl
  | true =>
    unfold liesB at e
    simp only [Bool.and_eq_true, decide_eq_true_eq] at e
    exact absurd e H
set_option maxHeartbeats 1000000 in
theorem fits_is (x y b h : Int) (n l : Nat) (w : World) (p1 : 1 ≤ b) (p2 : b ≤ 9223372036854775807) (p3 : 1 ≤ h) (p4 : h ≤ 9223372036854775807) (hn : (n : Int) ≤ 48) (hl : (l : Int) ≤ 48) :
    Calls Try.prog 72 #[.agg #[.int .i64 x, .int .i64 y, .int .i64 b, .int .i64 h], .agg #[.int .i64 0, .int .i64 0, .int .i64 n, .int .i64 l]] w fun e w' => e = .returned (.bool (liesB x y b h n l)) ∧ Below w.heap.size w w' := by
  have HB : Hid (Below w.heap.size w ((w.alloc (.cells #[.int .i64 x, .int .i64 y, .int .i64 b, .int .i64 h] 39)).alloc (.cells #[.int .i64 0, .int .i64 0, .int .i64 n, .int .i64 l] 39))) := hide (((Below.refl _ _).alloc (Nat.le_refl _) _).alloc (by simp) _)
  by_cases h1 : x ≤ (n : Int) - b
  · by_cases h2 : y ≤ (l : Int) - h
    · have HR : Hid (liesB x y b h n l = true) := hide (liesB_yes (by omega) (by omega))
      go_enter Try.func72, Try.ntmps72
      go_wp2
      go_ret
      exact ⟨by rw [HR.out]; rfl, HB.out⟩
    · have HR : Hid (liesB x y b h n l = false) := hide (liesB_no (by omega))
      go_enter Try.func72, Try.ntmps72
      go_wp2
      go_ret
      exact ⟨by rw [HR.out]; rfl, HB.out⟩
  · have HR : Hid (liesB x y b h n l = false) := hide (liesB_no (by omega))
    go_enter Try.func72, Try.ntmps72
    go_wp2
    go_ret
    exact ⟨by rw [HR.out]; rfl, HB.out⟩
set_option maxHeartbeats 1000000 in
theorem lies_is (x y b h : Int) (n l : Nat) (w : World) (p1 : 1 ≤ b) (p2 : b ≤ 9223372036854775807) (p3 : 1 ≤ h) (p4 : h ≤ 9223372036854775807) (hn : (n : Int) ≤ 48) (hl : (l : Int) ≤ 48) (hx : 0 ≤ x) (hy : 0 ≤ y) :
    Calls Try.prog 30 #[.agg #[.int .i64 x, .int .i64 y, .int .i64 b, .int .i64 h], .int .i64 n, .int .i64 l] w fun e w' => e = .returned (.bool (liesB x y b h n l)) ∧ Below w.heap.size w w' := by
  have HB : Hid (Below w.heap.size w (w.alloc (.cells #[.int .i64 x, .int .i64 y, .int .i64 b, .int .i64 h] 39))) := hide ((Below.refl _ _).alloc (Nat.le_refl _) _)
  by_cases h0 : b ≤ (n : Int)
  · by_cases h1 : x ≤ (n : Int) - b
    · by_cases h3 : h ≤ (l : Int)
      · by_cases h2 : y ≤ (l : Int) - h
        · have HR : Hid (liesB x y b h n l = true) := hide (liesB_yes (by omega) (by omega))
          go_enter Try.func30, Try.ntmps30
          go_wp2
          go_ret
          exact ⟨by rw [HR.out]; rfl, HB.out⟩
        · have HR : Hid (liesB x y b h n l = false) := hide (liesB_no (by omega))
          go_enter Try.func30, Try.ntmps30
          go_wp2
          go_ret
          exact ⟨by rw [HR.out]; rfl, HB.out⟩
      · have HR : Hid (liesB x y b h n l = false) := hide (liesB_no (by omega))
        go_enter Try.func30, Try.ntmps30
        go_wp2
        go_ret
        exact ⟨by rw [HR.out]; rfl, HB.out⟩
    · have HR : Hid (liesB x y b h n l = false) := hide (liesB_no (by omega))
      go_enter Try.func30, Try.ntmps30
      go_wp2
      go_ret
      exact ⟨by rw [HR.out]; rfl, HB.out⟩
  · have HR : Hid (liesB x y b h n l = false) := hide (liesB_no (by omega))
    go_enter Try.func30, Try.ntmps30
    go_wp2
    go_ret
    exact ⟨by rw [HR.out]; rfl, HB.out⟩
end Go.Proofs.Ytkajcbjacjfhnaa
set_option linter.unusedVariables false
namespace Go.Proofs.Ytkajcbjacjfhnaa
open Go.RowKit Go.Ab
set_option maxHeartbeats 1000000 in
theorem crop1_is (b off l c n b1 b2 x y X Y : Nat) (f : Nat → Nat → UInt8) (w : World) (hz : ZsAt w b off l (rowS f n)) (hy : Y + y < l) (hx : X + x < n) (hl : l ≤ 48) (hn : n ≤ 48)
    (c1 : w.cell? ⟨b1, 0, none⟩ = some (.slice (some ⟨b, off, none⟩) l c)) (c2 : w.cell? ⟨b2, 0, none⟩ = some (.int .i64 X)) (c3 : w.cell? ⟨b2, 1, none⟩ = some (.int .i64 Y)) :
    Calls Try.prog 78 #[.agg #[.int .i64 x, .int .i64 y], .pointer (some ⟨b1, 0, none⟩), .pointer (some ⟨b2, 0, none⟩)] w fun e w' => e = .returned (.int .u8 ((f (X + x) (Y + y)).toNat : Int)) ∧ Below w.heap.size w w' := by
  have hb1 : b1 < w.heap.size := World.block_lt_of_cell? _ _ c1
  have hb2 : b2 < w.heap.size := World.block_lt_of_cell? _ _ c2
  obtain ⟨m, hm⟩ : ∃ m : Nat, Hid (m = X + x) := ⟨_, hide rfl⟩
  obtain ⟨q, hq⟩ : ∃ q : Nat, Hid (q = Y + y) := ⟨_, hide rfl⟩
  have hmi : (X : Int) + (x : Int) = (m : Int) := by have := hm.out; omega
  have hqi : (Y : Int) + (y : Int) = (q : Int) := by have := hq.out; omega
  have hql : q < l := by have := hq.out; omega
  have cy := (hz q hql).1
  have hb : b < w.heap.size := World.block_lt_of_cell? _ _ cy
  clear hz
  obtain ⟨s, hs⟩ : ∃ s, Hid (s = rowS f n q) := ⟨_, hide rfl⟩
  have hlt : m < s.size := by rw [hs.out, rowS_size]; have := hm.out; omega
  have HG : Hid (s[m] = f (X + x) (Y + y)) := by rw [get_in hlt, hs.out, get_row f n _ q (by have := hm.out; omega), hm.out, hq.out]; exact hide rfl
  rw [← hs.out] at cy
  have hw1 : IntKind.i64.wrap (m : Int) = (m : Int) := IntWalk.i64_in _ (by have := hm.out; omega)
  have hw2 : IntKind.i64.wrap (q : Int) = (q : Int) := IntWalk.i64_in _ (by have := hq.out; omega)
  go_enter Try.func78, Try.ntmps78
  go_wp2_with fail
  go_quiet (fail)
  go_wp2_with fail
  go_ret
  exact ⟨by rw [HG.out]; rfl, ⟨rfl, rfl, rfl, by simp, fun k hk => Below.heap_alloc _ _ _ hk⟩⟩
end Go.Proofs.Ytkajcbjacjfhnaa
set_option linter.unusedVariables false
namespace Go.Proofs.Ytkajcbjacjfhnaa
open Go.RowKit Go.Ab
def inB (X Y B H x y : Nat) : Bool := decide (X ≤ x) && decide (x < X + B) && decide (Y ≤ y) && decide (y < Y + H)
theorem has_nat (X Y B H x y : Nat) (w : World) (h1 : X + B ≤ 48) (h2 : Y + H ≤ 48) :
    Calls Try.prog 81 #[.agg #[.int .i64 X, .int .i64 Y, .int .i64 B, .int .i64 H], .agg #[.int .i64 x, .int .i64 y]] w fun e w' => e = .returned (.bool (inB X Y B H x y)) ∧ Below w.heap.size w w' := by
  refine (has_any X Y B H x y w).mono fun e w' ⟨h, hb⟩ => ⟨?_, hb⟩
  rw [h, IntWalk.wrap64_in _ (by omega), IntWalk.wrap64_in _ (by omega)]
  unfold inB
  have e1 : decide ((X : Int) ≤ (x : Int)) = decide (X ≤ x) := by rw [decide_eq_decide]; omega
  have e2 : decide ((x : Int) < (X : Int) + (B : Int)) = decide (x < X + B) := by rw [decide_eq_decide]; omega
  have e3 : decide ((Y : Int) ≤ (y : Int)) = decide (Y ≤ y) := by rw [decide_eq_decide]; omega
  have e4 : decide ((y : Int) < (Y : Int) + (H : Int)) = decide (y < Y + H) := by rw [decide_eq_decide]; omega
  rw [e1, e2, e3, e4]
def pun (f : Nat → Nat → UInt8) (X Y B H x y : Nat) : UInt8 := if inB X Y B H x y then 48 else f x y
set_option maxHeartbeats 1000000 in
theorem punch1_is (b off l c n b1 b2 x y X Y B H : Nat) (f : Nat → Nat → UInt8) (w : World) (hz : ZsAt w b off l (rowS f n)) (hy : y < l) (hx : x < n) (hl : l ≤ 48) (hn : n ≤ 48) (hX : X + B ≤ 48) (hY : Y + H ≤ 48)
    (c1 : w.cell? ⟨b1, 0, none⟩ = some (.slice (some ⟨b, off, none⟩) l c)) (c2 : w.cell? ⟨b2, 0, none⟩ = some (.int .i64 X)) (c3 : w.cell? ⟨b2, 1, none⟩ = some (.int .i64 Y)) (c4 : w.cell? ⟨b2, 2, none⟩ = some (.int .i64 B)) (c5 : w.cell? ⟨b2, 3, none⟩ = some (.int .i64 H)) :
    Calls Try.prog 80 #[.agg #[.int .i64 x, .int .i64 y], .pointer (some ⟨b2, 0, none⟩), .pointer (some ⟨b1, 0, none⟩)] w fun e w' => e = .returned (.int .u8 ((pun f X Y B H x y).toNat : Int)) ∧ Below w.heap.size w w' := by
  have hb1 : b1 < w.heap.size := World.block_lt_of_cell? _ _ c1
  have hb2 : b2 < w.heap.size := World.block_lt_of_cell? _ _ c2
  have cy := (hz y hy).1
  have hb : b < w.heap.size := World.block_lt_of_cell? _ _ cy
  clear hz
  obtain ⟨s, hs⟩ : ∃ s, Hid (s = rowS f n y) := ⟨_, hide rfl⟩
  have hlt : x < s.size := by rw [hs.out, rowS_size]; exact hx
  have HG : Hid (s[x] = f x y) := by rw [get_in hlt, hs.out, get_row f n _ y hx]; exact hide rfl
  rw [← hs.out] at cy
  have HN := hide (And.intro hX hY); clear hX hY
  have HA : Hid (Below w.heap.size w (w.alloc (.cells #[.int .i64 x, .int .i64 y] 87))) := hide ((Below.refl _ _).alloc (Nat.le_refl _) _)
  cases hin : inB X Y B H x y with
  | true =>
    have HI := hide hin
    have HP : Hid (pun f X Y B H x y = 48) := hide (by unfold pun; rw [hin]; rfl)
    clear hin
    go_enter Try.func80, Try.ntmps80
    go_wp2_with fail
    refine (has_nat X Y B H x y _ HN.out.1 HN.out.2).mono ?_
    rintro e w1 ⟨rfl, hbel⟩
    rw [HI.out]
    have HB := hide (bt HA.out hbel); clear hbel
    go_wp2_with fail
    go_ret
    exact ⟨by rw [HP.out]; rfl, HB.out⟩
  | false =>
    have HI := hide hin
    have HP : Hid (pun f X Y B H x y = f x y) := hide (by unfold pun; rw [hin]; rfl)
    clear hin
    have d1 : (w.alloc (.cells #[.int .i64 x, .int .i64 y] 87)).cell? ⟨w.heap.size, 0, none⟩ = some (.int .i64 x) := by simp [go_sem]
    have d2 : (w.alloc (.cells #[.int .i64 x, .int .i64 y] 87)).cell? ⟨w.heap.size, 1, none⟩ = some (.int .i64 y) := by simp [go_sem]
    have HC := hide (And.intro (kc HA.out c1) (kc HA.out cy))
    have HD := hide (And.intro d1 d2)
    clear d1 d2
    go_enter Try.func80, Try.ntmps80
    go_wp2_with fail
    refine (has_nat X Y B H x y _ HN.out.1 HN.out.2).mono ?_
    rintro e w1 ⟨rfl, hbel⟩
    rw [HI.out]
    have HB := hide (bt HA.out hbel)
    have q1 := kc hbel HC.out.1
    have q2 := kc hbel HC.out.2
    have q3 := kc hbel HD.out.1
    have q4 := kc hbel HD.out.2
    clear hbel
    go_wp2_with fail
    go_quiet (fail)
    go_wp2_with fail
    go_ret
    exact ⟨by rw [HP.out, HG.out]; rfl, bt HB.out ⟨rfl, rfl, rfl, Nat.le_refl _, fun _ _ => rfl⟩⟩
end Go.Proofs.Ytkajcbjacjfhnaa
set_option linter.unusedVariables false
namespace Go.Proofs.Ytkajcbjacjfhnaa
open Go.RowKit Go.Ab
set_option maxHeartbeats 1000000 in
theorem extent_is (b off l c n : Nat) (f : Nat → Nat → UInt8) (w : World) (hz : ZsAt w b off l (rowS f n)) (h1 : 1 ≤ l) :
    Calls Try.prog 84 #[.slice (some ⟨b, off, none⟩) l c] w fun e w' => e = .returned (.agg #[.int .i64 0, .int .i64 0, .int .i64 n, .int .i64 l]) ∧ Below w.heap.size w w' := by
  have c0 := (hz 0 h1).1
  rw [Nat.add_zero] at c0
  have h1n : 0 < l := by omega
  have h1i : (0 : Int) < (l : Int) := by omega
  have hsz : (rowS f n 0).size = n := rowS_size f n 0
  have hbw : b < w.heap.size := World.block_lt_of_cell? _ _ c0
  clear hz
  go_enter Try.func84, Try.ntmps84
  go_wp2
  refine bodyPost_ret (v := .agg #[.int .i64 0, .int .i64 0, .int .i64 n, .int .i64 l]) (by simp [results, Try.results84, go_sem]) rfl ⟨rfl, ?_⟩
  first | exact (Below.refl _ _).alloc (Nat.le_refl _) _ | exact ((Below.refl _ _).alloc (Nat.le_refl _) _).setCell (by simp) _
set_option maxHeartbeats 1000000 in
theorem within_no (a : Option Addr) (l c : Nat) (x y b h : Int) (ss : Nat → ByteArray) (w : World) (hz : Zs w a l ss) (hv : validB l ss = false) :
    Calls Try.prog 77 #[.slice a l c, .agg #[.int .i64 x, .int .i64 y, .int .i64 b, .int .i64 h]] w fun e w' => e = .returned (.int .i64 2) ∧ Below w.heap.size w w' := by
  have HB : Hid (Below w.heap.size w (w.alloc (.cells #[.int .i64 x, .int .i64 y, .int .i64 b, .int .i64 h] 39))) := hide ((Below.refl _ _).alloc (Nat.le_refl _) _)
  have HZ := hide (hz.below HB.out); clear hz
  have HV := hide hv; clear hv
  go_enter Try.func77, Try.ntmps77
  go_wp2_with (go_at_call 22; refine (valid_all a l c ss _ HZ.out).mono ?_; rintro e w' ⟨rfl, rfl⟩; rw [HV.out])
  go_ret
  exact ⟨rfl, HB.out⟩
set_option maxHeartbeats 1000000 in
theorem within_bad (v : Value) (p : Nat × Nat × (Nat → Nat → UInt8)) (x y b h : Int) (w : World) (hs : Sp w v p) (hv : validB p.2.1 (rowS p.2.2 p.1) = true) (hr : rectB x y b h = false) :
    Calls Try.prog 77 #[v, .agg #[.int .i64 x, .int .i64 y, .int .i64 b, .int .i64 h]] w fun e w' => e = .returned (.int .i64 2) ∧ Below w.heap.size w w' := by
  have HB : Hid (Below w.heap.size w (w.alloc (.cells #[.int .i64 x, .int .i64 y, .int .i64 b, .int .i64 h] 39))) := hide ((Below.refl _ _).alloc (Nat.le_refl _) _)
  have HS := hide (hs.below HB.out); clear hs
  have HV := hide hv; clear hv
  have HR := hide hr; clear hr
  go_enter Try.func77, Try.ntmps77
  go_wp2_with (go_at_call 22; refine (valid_sp v p _ HS.out HV.out).mono ?_; rintro e w' ⟨rfl, rfl⟩)
  refine (vrect_is x y b h _).mono ?_
  rintro e w1 ⟨rfl, hb⟩
  rw [HR.out]
  have HB1 := hide (bt HB.out hb); clear hb
  go_wp2_with fail
  go_ret
  exact ⟨rfl, HB1.out⟩
end Go.Proofs.Ytkajcbjacjfhnaa
