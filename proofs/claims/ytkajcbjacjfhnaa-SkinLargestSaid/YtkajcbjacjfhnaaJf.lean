/- The reference's full; its order of rectangles. -/
import Derived.Test.YtkajcbjacjfhnaaJe
set_option linter.unusedVariables false
namespace Go.Proofs.Ytkajcbjacjfhnaa
open Go.RowKit Go.Ab
def Sx (W : World) (sb : Nat) (u : Nat → Nat → Bool) (n l : Nat) : Prop := ∀ y x, y ≤ l → x ≤ n → W.cell? ⟨sb, y * (n + 1) + x, none⟩ = some (.int .i64 (sumN u y x))
theorem sx_step {W W' : World} {sb : Nat} {u : Nat → Nat → Bool} {n l : Nat} (h : Sx W sb u n l) (hb : Below W.heap.size W W') : Sx W' sb u n l := fun y x hy hx => kc hb (h y x hy hx)
def fullB (u : Nat → Nat → Bool) (X Y B H : Nat) : Bool := decide (rectN u X Y B H = (B : Int) * (H : Int))
set_option maxRecDepth 20000 in
set_option maxHeartbeats 8000000 in
theorem full_in (sb c n l X Y B H : Nat) (u : Nat → Nat → Bool) (w : World) (hs : Sx w sb u n l) (hX : X + B ≤ n) (hY : Y + H ≤ l) (hn : n ≤ 48) (hl : l ≤ 48) :
    Calls Try.prog 101 #[.slice (some ⟨sb, 0, none⟩) ((n + 1) * (l + 1)) c, .int .i64 n, .int .i64 l, .agg #[.int .i64 X, .int .i64 Y, .int .i64 B, .int .i64 H]] w fun e w' => e = .returned (.bool (fullB u X Y B H)) ∧ Below w.heap.size w w' := by
  have hb0 : Below w.heap.size w (w.alloc (.cells #[.int .i64 X, .int .i64 Y, .int .i64 B, .int .i64 H] 39)) := (Below.refl _ _).alloc (Nat.le_refl _) _
  have HB0 := hide hb0
  have HS := hide (sx_step hs hb0)
  obtain ⟨⟨x0, x1⟩, x2, x3⟩ := rx_new w X Y B H
  obtain ⟨S, eS⟩ : ∃ S : Nat, Hid (S = n + 1) := ⟨_, hide rfl⟩
  obtain ⟨L, eL⟩ : ∃ L : Nat, Hid (L = (n + 1) * (l + 1)) := ⟨_, hide rfl⟩
  rw [← eL.out]
  have iS : (n : Int) + 1 = (S : Int) := by rw [eS.out]; omega
  obtain ⟨q, hq⟩ : ∃ q : Nat, Hid (q = Y + H) := ⟨_, hide rfl⟩
  obtain ⟨r, hr⟩ : ∃ r : Nat, Hid (r = X + B) := ⟨_, hide rfl⟩
  have hqi : (Y : Int) + (H : Int) = (q : Int) := by have := hq.out; omega
  have hri : (X : Int) + (B : Int) = (r : Int) := by have := hr.out; omega
  have t1 : r ≤ n := by have := hr.out; omega
  have t2 : q ≤ l := by have := hq.out; omega
  have t3 : ¬ (n : Int) < (r : Int) := by omega
  have t4 : ¬ (l : Int) < (q : Int) := by omega
  obtain ⟨p1, ep1⟩ : ∃ p : Nat, Hid (p = Y * S) := ⟨_, hide rfl⟩
  obtain ⟨p2, ep2⟩ : ∃ p : Nat, Hid (p = q * S) := ⟨_, hide rfl⟩
  have ip1 : (Y : Int) * (S : Int) = (p1 : Int) := by rw [ep1.out, Int.natCast_mul]
  have ip2 : (q : Int) * (S : Int) = (p2 : Int) := by rw [ep2.out, Int.natCast_mul]
  have hp2 : p2 + S ≤ L := by
    rw [ep2.out, eL.out, ← Nat.succ_mul, ← eS.out, Nat.mul_comm S]
    exact Nat.mul_le_mul_right _ (by omega)
  have hp1 : p1 + S ≤ L := by
    rw [ep1.out, eL.out, ← Nat.succ_mul, ← eS.out, Nat.mul_comm S]
    exact Nat.mul_le_mul_right _ (by have := hq.out; omega)
  have bL : L ≤ 49 * 49 := by rw [eL.out]; exact Nat.mul_le_mul (by omega) (by omega)
  obtain ⟨a1, ea1⟩ : ∃ a : Nat, Hid (a = p2 + X) := ⟨_, hide rfl⟩
  obtain ⟨a2, ea2⟩ : ∃ a : Nat, Hid (a = p2 + r) := ⟨_, hide rfl⟩
  obtain ⟨a3, ea3⟩ : ∃ a : Nat, Hid (a = p1 + X) := ⟨_, hide rfl⟩
  obtain ⟨a4, ea4⟩ : ∃ a : Nat, Hid (a = p1 + r) := ⟨_, hide rfl⟩
  have i1 : (p2 : Int) + (X : Int) = (a1 : Int) := by rw [ea1.out]; omega
  have i2 : (a1 : Int) + (B : Int) = (a2 : Int) := by rw [ea1.out, ea2.out, hr.out]; omega
  have i3 : (p1 : Int) + (X : Int) = (a3 : Int) := by rw [ea3.out]; omega
  have i4 : (a3 : Int) + (B : Int) = (a4 : Int) := by rw [ea3.out, ea4.out, hr.out]; omega
  have g1 : a1 < L := by have := ea1.out; have := eS.out; have := hr.out; omega
  have g2 : a2 < L := by have := ea2.out; have := eS.out; omega
  have g3 : a3 < L := by have := ea3.out; have := eS.out; have := hr.out; omega
  have g4 : a4 < L := by have := ea4.out; have := eS.out; omega
  obtain ⟨A1, f1⟩ : ∃ A, Hid (A = sumN u q X) := ⟨_, hide rfl⟩
  obtain ⟨A2, f2⟩ : ∃ A, Hid (A = sumN u q r) := ⟨_, hide rfl⟩
  obtain ⟨A3, f3⟩ : ∃ A, Hid (A = sumN u Y X) := ⟨_, hide rfl⟩
  obtain ⟨A4, f4⟩ : ∃ A, Hid (A = sumN u Y r) := ⟨_, hide rfl⟩
  have d1 : (w.alloc (.cells #[.int .i64 X, .int .i64 Y, .int .i64 B, .int .i64 H] 39)).cell? ⟨sb, a1, none⟩ = some (.int .i64 A1) := by rw [ea1.out, ep2.out, f1.out, eS.out]; exact HS.out q X (by omega) (by omega)
  have d2 : (w.alloc (.cells #[.int .i64 X, .int .i64 Y, .int .i64 B, .int .i64 H] 39)).cell? ⟨sb, a2, none⟩ = some (.int .i64 A2) := by rw [ea2.out, ep2.out, f2.out, eS.out]; exact HS.out q r (by omega) (by omega)
  have d3 : (w.alloc (.cells #[.int .i64 X, .int .i64 Y, .int .i64 B, .int .i64 H] 39)).cell? ⟨sb, a3, none⟩ = some (.int .i64 A3) := by rw [ea3.out, ep1.out, f3.out, eS.out]; exact HS.out Y X (by omega) (by omega)
  have d4 : (w.alloc (.cells #[.int .i64 X, .int .i64 Y, .int .i64 B, .int .i64 H] 39)).cell? ⟨sb, a4, none⟩ = some (.int .i64 A4) := by rw [ea4.out, ep1.out, f4.out, eS.out]; exact HS.out Y r (by omega) (by omega)
  have bd : ∀ y x, y ≤ 48 → x ≤ 48 → 0 ≤ sumN u y x ∧ sumN u y x ≤ 2304 := fun y x hy hx => by
    have e := sumN_bd u y x
    refine ⟨e.1, Int.le_trans e.2 ?_⟩
    have e2 : y * x ≤ 48 * 48 := Nat.mul_le_mul hy hx
    exact_mod_cast e2
  have k1 : 0 ≤ A1 ∧ A1 ≤ 2304 := by rw [f1.out]; exact bd _ _ (by omega) (by omega)
  have k2 : 0 ≤ A2 ∧ A2 ≤ 2304 := by rw [f2.out]; exact bd _ _ (by omega) (by omega)
  have k3 : 0 ≤ A3 ∧ A3 ≤ 2304 := by rw [f3.out]; exact bd _ _ (by omega) (by omega)
  have k4 : 0 ≤ A4 ∧ A4 ≤ 2304 := by rw [f4.out]; exact bd _ _ (by omega) (by omega)
  obtain ⟨M, eM⟩ : ∃ M : Nat, Hid (M = B * H) := ⟨_, hide rfl⟩
  have iM : (B : Int) * (H : Int) = (M : Int) := by rw [eM.out, Int.natCast_mul]
  have bM : M ≤ 48 * 48 := by rw [eM.out]; exact Nat.mul_le_mul (by omega) (by omega)
  have hw1 : IntKind.i64.wrap (S : Int) = (S : Int) := IntWalk.i64_in _ (by omega)
  have hw2 : IntKind.i64.wrap (q : Int) = (q : Int) := IntWalk.i64_in _ (by omega)
  have hw3 : IntKind.i64.wrap (p1 : Int) = (p1 : Int) := IntWalk.i64_in _ (by omega)
  have hw4 : IntKind.i64.wrap (p2 : Int) = (p2 : Int) := IntWalk.i64_in _ (by omega)
  have hw5 : IntKind.i64.wrap (a1 : Int) = (a1 : Int) := IntWalk.i64_in _ (by omega)
  have hw6 : IntKind.i64.wrap (a2 : Int) = (a2 : Int) := IntWalk.i64_in _ (by omega)
  have hw7 : IntKind.i64.wrap (a3 : Int) = (a3 : Int) := IntWalk.i64_in _ (by omega)
  have hw8 : IntKind.i64.wrap (a4 : Int) = (a4 : Int) := IntWalk.i64_in _ (by omega)
  have hw9 : IntKind.i64.wrap (A2 - A1) = A2 - A1 := IntWalk.i64_in _ (by omega)
  have hw10 : IntKind.i64.wrap (A2 - A1 - A4) = A2 - A1 - A4 := IntWalk.i64_in _ (by omega)
  have hw11 : IntKind.i64.wrap (A2 - A1 - A4 + A3) = A2 - A1 - A4 + A3 := IntWalk.i64_in _ (by omega)
  have hw12 : IntKind.i64.wrap (M : Int) = (M : Int) := IntWalk.i64_in _ (by omega)
  have HF : Hid (fullB u X Y B H = (A2 - A1 - A4 + A3 == (M : Int))) := hide (by
    unfold fullB
    rw [rectN_is, ← hq.out, ← hr.out, ← f1.out, ← f2.out, ← f3.out, ← f4.out, iM]
    rfl)
  have u1 : (X : Int) ≤ 48 := by omega
  have u2 : (Y : Int) ≤ 48 := by omega
  have u3 : (B : Int) ≤ 48 := by omega
  have u4 : (H : Int) ≤ 48 := by omega
  have u5 : (n : Int) ≤ 48 := by omega
  clear bd k1 k2 k3 k4 hs hb0 hX hY hn hl hp1 hp2 bL bM
  go_enter Try.func101, Try.ntmps101
  go_wp2_with fail
  go_quiet (fail)
  go_wp2_with fail
  go_quiet (fail)
  go_wp2_with fail
  go_ret
  refine ⟨by rw [HF.out]; rfl, ?_⟩
  exact (HB0.out.trans (bdn _ _ _)).trans (bdn _ _ _)
/-- the full rectangles ahead of (x, y, w, h) -/
def PrR (sq : Bool) (u : Nat → Nat → Bool) (n l x y w h : Nat) (r : Rk) : Prop := FullS sq u n l r ∧ (r.y < y ∨ (r.y = y ∧ (r.x < x ∨ (r.x = x ∧ (r.w < w ∨ (r.w = w ∧ r.h < h))))))
theorem rowN_all (u : Nat → Nat → Bool) (y X : Nat) : ∀ B : Nat, (rowN u y (X + B) - rowN u y X = B ↔ ∀ i, i < B → u (X + i) y = true)
  | 0 => by simp
  | B + 1 => by
    have ih := rowN_all u y X B
    have hm := rowN_mono u y X B
    have e : rowN u y (X + (B + 1)) = rowN u y (X + B) + if u (X + B) y then 1 else 0 := rfl
    rw [e]
    cases hu : u (X + B) y with
    | true =>
      constructor
      · intro h i hi
        have h2 : rowN u y (X + B) - rowN u y X = B := by simp at h; omega
        by_cases ei : i = B
        · subst ei; exact hu
        · exact ih.1 h2 i (by omega)
      · intro h
        have := ih.2 fun i hi => h i (by omega)
        simp; omega
    | false =>
      constructor
      · intro h; simp at h; omega
      · intro h
        have := h B (by omega)
        rw [hu] at this; cases this
theorem rectN_all (u : Nat → Nat → Bool) (X Y B : Nat) : ∀ H : Nat, rectN u X Y B H ≤ (B : Int) * H ∧ (rectN u X Y B H = (B : Int) * H ↔ ∀ i j, i < B → j < H → u (X + i) (Y + j) = true)
  | 0 => by simp [rectN]
  | H + 1 => by
    obtain ⟨ih1, ih2⟩ := rectN_all u X Y B H
    have hm := rowN_mono u (Y + H) X B
    have hf := rowN_all u (Y + H) X B
    have e : rectN u X Y B (H + 1) = rectN u X Y B H + (rowN u (Y + H) (X + B) - rowN u (Y + H) X) := rfl
    have e2 : (B : Int) * ((H + 1 : Nat) : Int) = (B : Int) * H + B := by rw [Int.natCast_add, Int.mul_add]; simp
    rw [e, e2]
    refine ⟨by omega, ⟨fun h => ?_, fun h => ?_⟩⟩
    · have h1 := ih2.1 (by omega)
      have h2 := hf.1 (by omega)
      intro i j hi hj
      by_cases ej : j = H
      · subst ej; exact h2 i hi
      · exact h1 i j hi (by omega)
    · have h1 := ih2.2 fun i j hi hj => h i j hi (by omega)
      have h2 := hf.2 fun i hi => h i H hi (by omega)
      omega
theorem full_iff {u : Nat → Nat → Bool} {n l : Nat} {r : Rk} (hw : 1 ≤ r.w) (hh : 1 ≤ r.h) (hx : r.x + r.w ≤ n) (hy : r.y + r.h ≤ l) : Full u n l r ↔ fullB u r.x r.y r.w r.h = true := by
  unfold fullB
  rw [decide_eq_true_eq, (rectN_all u r.x r.y r.w r.h).2]
  exact ⟨fun h => h.2.2, fun h => ⟨⟨hw, hh⟩, ⟨hx, hy⟩, h⟩⟩
theorem prR_skip {sq : Bool} {u : Nat → Nat → Bool} {n l x y w h : Nat} {b : Rk} (ht : Top (PrR sq u n l x y w h) b) (hf : ¬ FullS sq u n l ⟨x, y, w, h⟩) : Top (PrR sq u n l x y w (h + 1)) b :=
  top_congr ht fun r => ⟨fun ⟨h1, h2⟩ => ⟨h1, by omega⟩, fun ⟨h1, h2⟩ => ⟨h1, by
    by_cases e : r.y = y ∧ r.x = x ∧ r.w = w ∧ r.h = h
    · obtain ⟨e1, e2, e3, e4⟩ := e
      have : r = ⟨x, y, w, h⟩ := by cases r; simp_all
      rw [this] at h1
      exact absurd h1 hf
    · omega⟩⟩
theorem prR_set {sq : Bool} {u : Nat → Nat → Bool} {n l x y w h : Nat} (hf : FullS sq u n l ⟨x, y, w, h⟩) (r : Rk) : (PrR sq u n l x y w h r ∨ r = ⟨x, y, w, h⟩) ↔ PrR sq u n l x y w (h + 1) r := by
  constructor
  · rintro (⟨h1, h2⟩ | rfl)
    · exact ⟨h1, by omega⟩
    · exact ⟨hf, .inr ⟨rfl, .inr ⟨rfl, .inr ⟨rfl, Nat.lt_succ_self h⟩⟩⟩⟩
  · rintro ⟨h1, h2⟩
    by_cases e : r.y = y ∧ r.x = x ∧ r.w = w ∧ r.h = h
    · obtain ⟨e1, e2, e3, e4⟩ := e
      exact .inr (by cases r; simp_all)
    · exact .inl ⟨h1, by omega⟩
/-- does the reference take it? -/
def takes (b r : Rk) : Prop := b.w * b.h < r.w * r.h ∨ (r.w * r.h = b.w * b.h ∧ r.y = b.y ∧ r.x = b.x ∧ b.w < r.w)
theorem prR_take {sq : Bool} {u : Nat → Nat → Bool} {n l x y w h : Nat} {b : Rk} (ht : Top (PrR sq u n l x y w h) b) (hf : FullS sq u n l ⟨x, y, w, h⟩) (hk : takes b ⟨x, y, w, h⟩) : Top (PrR sq u n l x y w (h + 1)) ⟨x, y, w, h⟩ := by
  have hp : Pref ⟨x, y, w, h⟩ b := by
    unfold takes at hk
    unfold Pref
    rcases hk with hk | ⟨h1, h2, h3, h4⟩
    · exact .inl hk
    · exact .inr ⟨h1, .inr ⟨h2, .inr ⟨h3, h4⟩⟩⟩
  refine top_congr (top_take ht fun s hs hq => ?_) (prR_set hf)
  rcases ht with ⟨h1, _⟩ | ⟨h1, h2⟩
  · exact h1 s hs
  · exact h2 s hs (pref_trans hq hp)
theorem prR_keep {sq : Bool} {u : Nat → Nat → Bool} {n l x y w h : Nat} {b : Rk} (ht : Top (PrR sq u n l x y w h) b) (hf : FullS sq u n l ⟨x, y, w, h⟩) (hk : ¬ takes b ⟨x, y, w, h⟩) : Top (PrR sq u n l x y w (h + 1)) b := by
  rcases ht with ⟨_, rfl⟩ | ht
  · exact absurd (.inl (by
      show 0 * 0 < w * h
      exact Nat.mul_pos hf.1.1.1 hf.1.1.2)) hk
  · refine top_congr (top_keep ht fun hp => hk ?_) (prR_set hf)
    have hb := ht.1.2
    unfold Pref at hp
    unfold takes
    rcases hp with hp | ⟨h1, h2⟩
    · exact .inl hp
    · refine .inr ⟨h1, ?_⟩
      simp only at h2 ⊢
      omega
theorem prR_w {sq : Bool} {u : Nat → Nat → Bool} {n l x y w h : Nat} {b : Rk} (he : l < y + h) (ht : Top (PrR sq u n l x y w h) b) : Top (PrR sq u n l x y (w + 1) 1) b :=
  top_congr ht fun r => ⟨fun ⟨h1, h2⟩ => ⟨h1, by omega⟩, fun ⟨h1, h2⟩ => ⟨h1, by have a := h1.1.1.2; have b := h1.1.2.1.2; omega⟩⟩
theorem prR_x {sq : Bool} {u : Nat → Nat → Bool} {n l x y w : Nat} {b : Rk} (he : n < x + w) (ht : Top (PrR sq u n l x y w 1) b) : Top (PrR sq u n l (x + 1) y 1 1) b :=
  top_congr ht fun r => ⟨fun ⟨h1, h2⟩ => ⟨h1, by have a := h1.1.1.1; have b := h1.1.1.2; omega⟩, fun ⟨h1, h2⟩ => ⟨h1, by have a := h1.1.1.1; have b := h1.1.1.2; have c := h1.1.2.1.1; omega⟩⟩
theorem prR_y {sq : Bool} {u : Nat → Nat → Bool} {n l y : Nat} {b : Rk} (ht : Top (PrR sq u n l n y 1 1) b) : Top (PrR sq u n l 0 (y + 1) 1 1) b :=
  top_congr ht fun r => ⟨fun ⟨h1, h2⟩ => ⟨h1, by have a := h1.1.1.1; have b := h1.1.1.2; omega⟩, fun ⟨h1, h2⟩ => ⟨h1, by have a := h1.1.1.1; have b := h1.1.1.2; have c := h1.1.2.1.1; omega⟩⟩
theorem prR_none {sq : Bool} {u : Nat → Nat → Bool} {n l : Nat} : Top (PrR sq u n l 0 0 1 1) Rk.nil := .inl ⟨fun r ⟨h1, h2⟩ => by have a := h1.1.1.1; have b := h1.1.1.2; omega, rfl⟩
theorem prR_all {sq : Bool} {u : Nat → Nat → Bool} {n l : Nat} {b : Rk} (ht : Top (PrR sq u n l 0 l 1 1) b) : Top (FullS sq u n l) b :=
  top_congr ht fun r => ⟨fun h => h.1, fun h => ⟨h, by have a := h.1.1.2; have b := h.1.2.1.2; omega⟩⟩
theorem prR_bd {sq : Bool} {u : Nat → Nat → Bool} {n l x y w h : Nat} {b : Rk} (ht : Top (PrR sq u n l x y w h) b) : b.w ≤ n ∧ b.h ≤ l ∧ b.x ≤ n ∧ b.y ≤ l := by
  rcases ht with ⟨_, rfl⟩ | ⟨⟨⟨⟨_, ⟨h3, h4⟩, _⟩, _⟩, _⟩, _⟩
  · simp [Rk.nil]
  · omega
end Go.Proofs.Ytkajcbjacjfhnaa
