import Derived.Test.YtpgnbjlpkpmpcaaZe
import Derived.Test.YtpgnbjlpkpmpcaaJ
import Derived.Deep.RegionHeld3
namespace Go.Proofs.Ytpgnbjlpkpmpcaa.R
open Go.RowKit Go.Proofs.Ytpgnbjlpkpmpcaa.N
theorem f1_end {w0 w : World} {s : Bool} {a b : Option Addr} {la ca lb cb : Nat} (h : Hid (F1 w0 w s a b la ca lb cb)) (o : Obj) (u v : Value) : Below w0.heap.size w0 (((w.setCell ⟨w0.heap.size + 1, 0, none⟩ u).setCell ⟨w0.heap.size + 1, 1, none⟩ v).alloc o) :=
  ba (bs (bs h.out.2.2 (Nat.le_succ _) u) (Nat.le_succ _) v) o
set_option maxRecDepth 20000 in
set_option maxHeartbeats 1000000 in
theorem answer_q (q : Rat) (vq : Value) (w : World) (hq : RQ w vq q) (x y z : Int) (hx : Hid (x = M.aN q)) (hy : Hid (y = M.aD q)) (hz : Hid (z = M.aE q)) : Calls Try.prog 76 #[vq] w fun e w' => e = .returned (.tuple #[.agg #[.int .i64 x, .int .i64 y], .int .i64 z]) ∧ Below w.heap.size w w' := by
  have HQ := hide hq
  obtain ⟨ao, la, ca, bo, lb, cb, rfl, _, _⟩ := hq
  obtain ⟨g, hg⟩ : ∃ g, Hid (g = M.fits q) := ⟨_, rfl⟩
  have hf := f1_made w (decide (q.num < 0)) ao bo la ca lb cb
  generalize decide (q.num < 0) = s at *
  cases g
  · have HX : Hid (x = 0 ∧ y = 0 ∧ z = 5) := hide (by
      have h := hg.out; rw [hx.out, hy.out, hz.out]; unfold M.aN M.aD M.aE; rw [← h]; simp)
    go_enter Try.func76, Try.ntmps76
    go_wp2_with fail
    refine (frac_q q _ _ (HQ.out.below (ba (ba (Below.refl _ _) _) _)) x y false hx hy hg).mono ?_
    rintro e w1 ⟨rfl, hb1⟩
    have hf1 := f1_step hf hb1
    clear hb1
    obtain ⟨⟨c0, c1, c2⟩, ⟨d0, d1, f0, f1⟩, _⟩ := hf1.out
    have hz1 : w.heap.size + 1 < w1.heap.size := cell_lt d0
    have hz2 : w.heap.size < w1.heap.size := cell_lt c0
    go_wp2_with fail
    refine bodyPost_ret (v := .tuple #[.agg #[.int .i64 0, .int .i64 0], .int .i64 5]) (by simp [results, Try.results76, go_sem, d0, d1, hz1]) rfl ⟨by rw [HX.out.1, HX.out.2.1, HX.out.2.2], ?_⟩
    exact f1_end hf1 _ _ _
  · have HX : Hid (z = 0) := hide (by have h := hg.out; rw [hz.out]; unfold M.aE; rw [← h]; simp)
    go_enter Try.func76, Try.ntmps76
    go_wp2_with fail
    refine (frac_q q _ _ (HQ.out.below (ba (ba (Below.refl _ _) _) _)) x y true hx hy hg).mono ?_
    rintro e w1 ⟨rfl, hb1⟩
    have hf1 := f1_step hf hb1
    clear hb1
    obtain ⟨⟨c0, c1, c2⟩, ⟨d0, d1, f0, f1⟩, _⟩ := hf1.out
    have hz1 : w.heap.size + 1 < w1.heap.size := cell_lt d0
    have hz2 : w.heap.size < w1.heap.size := cell_lt c0
    go_wp2_with fail
    refine bodyPost_ret (v := .tuple #[.agg #[.int .i64 x, .int .i64 y], .int .i64 0]) (by simp [results, Try.results76, go_sem, d0, d1, hz1]) rfl ⟨by rw [HX.out], ?_⟩
    exact f1_end hf1 _ _ _
theorem over_is (k : Nat) (p q r : Rat) (vp vq : Value) (w : World) (hp : RQ w vp p) (hq : RQ w vq q) (bp : Bq k p) (bq : Bq k q) (hk : Half k) (h0 : q ≠ 0) (hr : Hid (r = p / q)) : Calls Try.prog 49 #[vp, vq] w (RetQ w r) := by
  rw [hr.out]; exact over_q k p q vp vq w hp hq bp bq hk h0
theorem bq_int {n : Int} (h : In64 n) : Bq 2 (n : Rat) := by
  have h1 : n.natAbs < B ^ 2 := by rw [Nat.pow_two]; unfold In64 at h; unfold B; omega
  exact ⟨by simpa using h1, by simp; decide⟩
theorem half2 : Half 2 := by unfold Half K; omega
theorem of_divInt (n d : Int) : (n : Rat) / (d : Rat) = Rat.divInt n d := (Rat.divInt_eq_div n d).symm
set_option maxRecDepth 20000 in
set_option maxHeartbeats 1000000 in
theorem of_q (n d : Int) (w : World) (hn : In64 n) (hd : In64 d) (hd0 : d ≠ 0) : Calls Try.prog 45 #[.agg #[.int .i64 n, .int .i64 d]] w (RetQ w (Rat.divInt n d)) := by
  have G := hide (And.intro hn hd)
  have HD0 : Hid ((d : Rat) ≠ 0) := hide (by intro c; exact hd0 (by exact_mod_cast c))
  clear hn hd hd0
  obtain ⟨r, hr⟩ : ∃ r, Hid (r = Rat.divInt n d) := ⟨_, rfl⟩
  rw [← hr.out]
  have HR : Hid (r = (n : Rat) / (d : Rat)) := by rw [hr.out]; exact hide (of_divInt n d).symm
  clear hr
  go_enter Try.func45, Try.ntmps45
  go_wp2_with fail
  obtain ⟨W, hW⟩ : ∃ W, W = (w.alloc (Obj.cells #[Value.int IntKind.i64 n, Value.int IntKind.i64 d] 23)).alloc (Obj.cells #[Value.bool false, Value.slice none 0 0, Value.slice none 0 0] 43) := ⟨_, rfl⟩
  have c1 : W.cell? ⟨w.heap.size, 0, none⟩ = some (.int .i64 n) := by rw [hW]; simp [go_sem]
  have c2 : W.cell? ⟨w.heap.size, 1, none⟩ = some (.int .i64 d) := by rw [hW]; simp [go_sem]
  have hR : Hid (R3 w (w.heap.size + 1) W) := by
    rw [hW]
    exact hide ⟨⟨⟨.bool false, by simp [go_sem], fun x h => by simp at h⟩, ⟨.slice none 0 0, by simp [go_sem], fun x h => by simp at h⟩, ⟨.slice none 0 0, by simp [go_sem], fun x h => by simp at h⟩⟩, ⟨by simp [go_sem], by simp [go_sem], by simp [go_sem]⟩, by omega, ba (ba (Below.refl _ _) _) _⟩
  rw [← hW]
  clear hW
  go_region_held3 (fun w' => w'.cell? ⟨w.heap.size, 0, none⟩ = some (.int .i64 n) ∧ w'.cell? ⟨w.heap.size, 1, none⟩ = some (.int .i64 d) ∧ Hid (R3 w (w.heap.size + 1) w'))
    ((go_split_ands; (first | dsimp only | skip); refine ⟨?_, ?_, ?_⟩ <;> first | with_reducible assumption | (simp only [World.cell?_drew]; with_reducible assumption) | (with_reducible exact kc hbw ‹_›) | (with_reducible exact r3_drew ‹_›) | (with_reducible exact r3_step ‹_› hbw) | (with_reducible exact r3_set ‹_› _ _ _ _ _ _ _) | (go_simp; done)))
    (first | (go_at_call_of 77 n; refine (int_q n _ G.out.1.1 G.out.1.2).mono ?_; rintro e w' ⟨x, rfl, hx, hbw⟩) | (go_at_call_of 77 d; refine (int_q d _ G.out.2.1 G.out.2.2).mono ?_; rintro e w' ⟨y, rfl, hy, hbw⟩; have hx := hx.below hbw) | (go_at_call 49; go_split_ands; refine (over_is 2 _ _ r _ _ _ hx hy (bq_int G.out.1) (bq_int G.out.2) half2 HD0.out HR).mono ?_; rintro e w' ⟨z, rfl, hzz, hbw⟩; have hr3 := r3_step ‹_› hbw; obtain ⟨⟨⟨u0, g0, _⟩, ⟨u1, g1, _⟩, ⟨u2, g2, _⟩⟩, ⟨g3, g4, g5⟩, _⟩ := hr3.out; obtain ⟨p1, p2, p3, p4, p5, p6, rfl, hz1, hz2⟩ := hzz))
  go_wp2_with fail
  refine bodyPost_ret (v := .agg #[.bool (decide (r.num < 0)), .slice p1 p2 p3, .slice p4 p5 p6]) (by simp [results, Try.results45, go_sem, g0, g1, g2]) rfl ⟨_, rfl, rq_stored ⟨p1, p2, p3, p4, p5, p6, rfl, hz1, hz2⟩ hr3, ?_⟩
  exact bs (bs (bs (r3_b hr3) (by first | omega | (simp only []; omega)) _) (by first | omega | (simp only []; omega)) _) (by first | omega | (simp only []; omega)) _
end Go.Proofs.Ytpgnbjlpkpmpcaa.R
