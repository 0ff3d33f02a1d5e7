import Derived.Test.YtpgnbjlpkpmpcaaZs
import Derived.Test.YtpgnbjlpkpmpcaaZq
set_option linter.unusedVariables false
namespace Go.Proofs.Ytpgnbjlpkpmpcaa.R
open Go.RowKit Go.Proofs.Ytpgnbjlpkpmpcaa.N
theorem rn_is_one {w : World} {v : Value} (h : RN w v 1) : ∃ b off cap, v = .slice (some ⟨b, off, none⟩) 1 cap ∧ w.cell? ⟨b, off, none⟩ = some (.int .u32 1) ∧ 1 ≤ cap := by
  obtain ⟨l, ao, cap, rfl, hl, hv, hd, hc⟩ := h
  have c1 : Canon [1] := ⟨fun x hx => by simp at hx; subst hx; decide, fun x hx => by simp at hx; omega⟩
  have hlen : l.length = 1 := can_eq hl c1 (by rw [hv]; simp [val])
  obtain ⟨x, rfl⟩ : ∃ x, l = [x] := by
    match l, hlen with
    | [x], _ => exact ⟨x, rfl⟩
  obtain rfl : x = 1 := by simpa [val] using hv
  rcases hd with hd | ⟨b, off, rfl, hc2⟩
  · simp at hd
  · exact ⟨b, off, cap, rfl, by simpa using hc2 0 (by simp), by simpa using hc⟩
set_option maxHeartbeats 1000000 in
theorem whole_q (z : Int) (vp : Value) (w : World) (hp : RQ w vp (z : Rat)) (h1 : -4611686018427387904 ≤ z) (h2 : z ≤ 4611686018427387904) :
    Calls Try.prog 48 #[vp] w fun e w' => e = .returned (.tuple #[.int .i64 z, .bool true]) ∧ Below w.heap.size w w' := by
  obtain ⟨ao, la, ca, bo, lb, cb, rfl, a1, a2⟩ := hp
  rw [Rat.den_intCast] at a2
  rw [Rat.num_intCast] at a1 ⊢
  have H1 := hide a1; clear a1
  obtain ⟨b, off, cap, hv, hc, hcap⟩ := rn_is_one a2
  simp only [Value.slice.injEq] at hv
  obtain ⟨rfl, rfl, rfl⟩ := hv
  have hbl := cell_lt hc
  clear a2
  obtain ⟨n, hn⟩ : ∃ n : Nat, Hid (n = z.natAbs) := ⟨_, rfl⟩
  rw [← hn.out] at H1
  have SN : Hid (n ≤ 4611686018427387904) := hide (by rw [hn.out]; omega)
  have b1 : (n : Int) ≤ 4611686018427387904 := by have := SN.out; omega
  by_cases hz : z < 0
  · rw [show decide (z < 0) = true by simpa using hz]
    have HZ : Hid (-(n : Int) = z) := hide (by rw [hn.out]; omega)
    clear hz hn h1 h2
    go_enter Try.func48, Try.ntmps48
    go_wp2_with fail
    refine (small_yes _ n _ (H1.out.below (ba (Below.refl _ _) _)) SN).mono ?_
    rintro e w1 ⟨rfl, rfl⟩
    go_wp2_with fail
    go_ret2
    exact ⟨by rw [HZ.out]; rfl, ba (Below.refl _ _) _⟩
  · rw [show decide (z < 0) = false by simpa using hz]
    have HZ : Hid ((n : Int) = z) := hide (by rw [hn.out]; omega)
    clear hz hn h1 h2
    go_enter Try.func48, Try.ntmps48
    go_wp2_with fail
    refine (small_yes _ n _ (H1.out.below (ba (Below.refl _ _) _)) SN).mono ?_
    rintro e w1 ⟨rfl, rfl⟩
    go_wp2_with fail
    go_ret2
    exact ⟨by rw [HZ.out]; rfl, ba (Below.refl _ _) _⟩
/-- three cells that hold a rational number's value -/
def C3 (w : World) (s : Nat) (v : Value) : Prop := ∃ b x l1 c1 y l2 c2, v = .agg #[.bool b, .slice x l1 c1, .slice y l2 c2] ∧ w.cell? ⟨s, 0, none⟩ = some (.bool b) ∧ w.cell? ⟨s, 1, none⟩ = some (.slice x l1 c1) ∧ w.cell? ⟨s, 2, none⟩ = some (.slice y l2 c2)
theorem c3_step {w w' : World} {s : Nat} {v : Value} (h : C3 w s v) (hb : Below w.heap.size w w') : C3 w' s v := by
  obtain ⟨b, x, l1, c1, y, l2, c2, rfl, h0, h1, h2⟩ := h
  exact ⟨b, x, l1, c1, y, l2, c2, rfl, kc hb h0, kc hb h1, kc hb h2⟩
theorem c3_get {w : World} {s : Nat} {b : Bool} {x y : Option Addr} {l1 c1 l2 c2 : Nat} (h : C3 w s (.agg #[.bool b, .slice x l1 c1, .slice y l2 c2])) : w.cell? ⟨s, 0, none⟩ = some (.bool b) ∧ w.cell? ⟨s, 1, none⟩ = some (.slice x l1 c1) ∧ w.cell? ⟨s, 2, none⟩ = some (.slice y l2 c2) := by
  obtain ⟨b, x, l1, c1, y, l2, c2, e, h0, h1, h2⟩ := h
  simp only [Value.agg.injEq, Array.mk.injEq, List.cons.injEq, Value.bool.injEq, Value.slice.injEq, and_true] at e
  obtain ⟨rfl, ⟨rfl, rfl, rfl⟩, rfl, rfl, rfl⟩ := e
  exact ⟨h0, h1, h2⟩
theorem c3_new (w : World) (b : Bool) (x y : Option Addr) (l1 c1 l2 c2 : Nat) : C3 (w.alloc (.cells #[.bool b, .slice x l1 c1, .slice y l2 c2] 43)) w.heap.size (.agg #[.bool b, .slice x l1 c1, .slice y l2 c2]) :=
  ⟨b, x, l1, c1, y, l2, c2, rfl, by simp [go_sem], by simp [go_sem], by simp [go_sem]⟩
theorem c3_lt {w : World} {s : Nat} {v : Value} (h : C3 w s v) : s < w.heap.size := by
  obtain ⟨b, x, l1, c1, y, l2, c2, rfl, h0, _⟩ := h
  exact cell_lt h0
/-- a rational number in a variable -/
def QA (w : World) (s : Nat) (v : Value) (q : Rat) : Prop := RQ w v q ∧ C3 w s v
theorem qa_step {w w' : World} {s : Nat} {v : Value} {q : Rat} (h : Hid (QA w s v q)) (hb : Below w.heap.size w w') : Hid (QA w' s v q) := hide ⟨h.out.1.below hb, c3_step h.out.2 hb⟩
/-- a variable that may be written -/
def FZ (w : World) (s : Nat) : Prop := w.frozen? ⟨s, 0, none⟩ = false ∧ w.frozen? ⟨s, 1, none⟩ = false ∧ w.frozen? ⟨s, 2, none⟩ = false
theorem fz_step {w w' : World} {s : Nat} {v : Value} (h : FZ w s) (c : C3 w s v) (hb : Below w.heap.size w w') : FZ w' s := by
  obtain ⟨b, x, l1, c1, y, l2, c2, rfl, h0, h1, h2⟩ := c
  exact ⟨kf hb h0 h.1, kf hb h1 h.2.1, kf hb h2 h.2.2⟩
theorem fz_new (w : World) (b : Bool) (x y : Option Addr) (l1 c1 l2 c2 : Nat) : FZ (w.alloc (.cells #[.bool b, .slice x l1 c1, .slice y l2 c2] 43)) w.heap.size := ⟨by simp [go_sem], by simp [go_sem], by simp [go_sem]⟩
def put3 (w : World) (s : Nat) (b : Bool) (x y : Option Addr) (l1 c1 l2 c2 : Nat) : World := ((w.setCell ⟨s, 0, none⟩ (.bool b)).setCell ⟨s, 1, none⟩ (.slice x l1 c1)).setCell ⟨s, 2, none⟩ (.slice y l2 c2)
theorem c3_nodig {w : World} {s : Nat} {v : Value} (h : C3 w s v) : NoDig w ⟨s, 0, none⟩ ∧ NoDig w ⟨s, 1, none⟩ ∧ NoDig w ⟨s, 2, none⟩ := by
  obtain ⟨b, x, l1, c1, y, l2, c2, rfl, h0, h1, h2⟩ := h
  exact ⟨⟨_, h0, fun x h => by simp at h⟩, ⟨_, h1, fun x h => by simp at h⟩, ⟨_, h2, fun x h => by simp at h⟩⟩
theorem rn_put {w : World} {s : Nat} {v u : Value} {n : Nat} (h : RN w v n) (hs : C3 w s u) (b : Bool) (x y : Option Addr) (l1 c1 l2 c2 : Nat) : RN (put3 w s b x y l1 c1 l2 c2) v n := by
  obtain ⟨d0, d1, d2⟩ := c3_nodig hs
  obtain ⟨l, ao, cap, rfl, h2, h3, h4, h5⟩ := h
  refine ⟨l, ao, cap, rfl, h2, h3, ?_, h5⟩
  rcases h4 with h4 | ⟨b, off, rfl, h4⟩
  · exact .inl h4
  · refine .inr ⟨b, off, rfl, fun i hi => ?_⟩
    have c := h4 i hi
    obtain ⟨v0, k0, m0⟩ := d0
    obtain ⟨v1, k1, m1⟩ := d1
    obtain ⟨v2, k2, m2⟩ := d2
    have n0 : (⟨s, 0, none⟩ : Addr) ≠ ⟨b, off + i, none⟩ := by intro e; rw [← e, k0] at c; exact m0 _ (by simpa using c)
    have n1 : (⟨s, 1, none⟩ : Addr) ≠ ⟨b, off + i, none⟩ := by intro e; rw [← e, k1] at c; exact m1 _ (by simpa using c)
    have n2 : (⟨s, 2, none⟩ : Addr) ≠ ⟨b, off + i, none⟩ := by intro e; rw [← e, k2] at c; exact m2 _ (by simpa using c)
    unfold put3
    rw [World.cell?_setCell_other (h := n2), World.cell?_setCell_other (h := n1), World.cell?_setCell_other (h := n0)]; exact c
theorem rq_put {w : World} {s : Nat} {v u : Value} {q : Rat} (h : RQ w v q) (hs : C3 w s u) (b : Bool) (x y : Option Addr) (l1 c1 l2 c2 : Nat) : RQ (put3 w s b x y l1 c1 l2 c2) v q := by
  obtain ⟨ao, la, ca, bo, lb, cb, rfl, h2, h3⟩ := h
  exact ⟨_, _, _, _, _, _, rfl, rn_put h2 hs _ _ _ _ _ _ _, rn_put h3 hs _ _ _ _ _ _ _⟩
theorem c3_put {w : World} {s t : Nat} {v : Value} (h : C3 w t v) (hs : s ≠ t) (b : Bool) (x y : Option Addr) (l1 c1 l2 c2 : Nat) : C3 (put3 w s b x y l1 c1 l2 c2) t v := by
  obtain ⟨b', x', l1', c1', y', l2', c2', rfl, h0, h1, h2⟩ := h
  have ne : ∀ i j, (⟨s, i, none⟩ : Addr) ≠ ⟨t, j, none⟩ := fun i j e => hs (by injection e)
  refine ⟨b', x', l1', c1', y', l2', c2', rfl, ?_, ?_, ?_⟩ <;> unfold put3 <;> rw [World.cell?_setCell_other (h := ne _ _), World.cell?_setCell_other (h := ne _ _), World.cell?_setCell_other (h := ne _ _)] <;> assumption
theorem c3_put_same {w : World} {s : Nat} {u : Value} (hs : C3 w s u) (b : Bool) (x y : Option Addr) (l1 c1 l2 c2 : Nat) : C3 (put3 w s b x y l1 c1 l2 c2) s (.agg #[.bool b, .slice x l1 c1, .slice y l2 c2]) := by
  obtain ⟨b', x', l1', c1', y', l2', c2', rfl, h0, h1, h2⟩ := hs
  refine ⟨b, x, l1, c1, y, l2, c2, rfl, ?_, ?_, ?_⟩
  · unfold put3
    rw [World.cell?_setCell_other (h := by simp), World.cell?_setCell_other (h := by simp)]
    exact World.cell?_setCell_same w _ _ h0
  · unfold put3
    rw [World.cell?_setCell_other (h := by simp)]
    exact World.cell?_setCell_same _ _ _ (by rw [World.cell?_setCell_other (h := by simp)]; exact h1)
  · unfold put3
    exact World.cell?_setCell_same _ _ _ (by rw [World.cell?_setCell_other (h := by simp), World.cell?_setCell_other (h := by simp)]; exact h2)
theorem fz_put {w : World} {s t : Nat} (h : FZ w t) (b : Bool) (x y : Option Addr) (l1 c1 l2 c2 : Nat) : FZ (put3 w s b x y l1 c1 l2 c2) t := by
  unfold FZ put3 at *; simp only [frozen_set]; exact h
theorem below_put {w0 w : World} {s : Nat} (h : Below w0.heap.size w0 w) (hs : w0.heap.size ≤ s) (b : Bool) (x y : Option Addr) (l1 c1 l2 c2 : Nat) : Below w0.heap.size w0 (put3 w s b x y l1 c1 l2 c2) :=
  bs (bs (bs h hs _) hs _) hs _
end Go.Proofs.Ytpgnbjlpkpmpcaa.R
