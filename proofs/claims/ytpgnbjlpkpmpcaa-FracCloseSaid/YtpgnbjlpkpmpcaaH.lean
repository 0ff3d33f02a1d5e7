import Derived.Test.YtpgnbjlpkpmpcaaG
import Derived.Deep.RegionWith
import Derived.Deep.RegionHeld3
namespace Go.Proofs.Ytpgnbjlpkpmpcaa
open Go.RowKit
theorem two_made {w w1 : World} {n d m q : Int} {t : TypeId} {o : Obj} (hb : Below (((w.alloc (.cells #[.int .i64 n, .int .i64 d] t)).alloc (.cells #[.int .i64 m, .int .i64 q] t)).alloc o).heap.size (((w.alloc (.cells #[.int .i64 n, .int .i64 d] t)).alloc (.cells #[.int .i64 m, .int .i64 q] t)).alloc o) w1) :
    (w1.cell? ⟨w.heap.size, 0, none⟩ = some (.int .i64 n) ∧ w1.cell? ⟨w.heap.size, 1, none⟩ = some (.int .i64 d) ∧ w1.cell? ⟨w.heap.size + 1, 0, none⟩ = some (.int .i64 m) ∧ w1.cell? ⟨w.heap.size + 1, 1, none⟩ = some (.int .i64 q)) ∧ Hid (Below w.heap.size w w1) :=
  ⟨⟨(hb.cell (by simp; omega)).trans (by simp [go_sem]), (hb.cell (by simp; omega)).trans (by simp [go_sem]), (hb.cell (by simp)).trans (by simp [go_sem]), (hb.cell (by simp)).trans (by simp [go_sem])⟩, hide (bt (ba (ba (ba (Below.refl _ _) _) _) _) hb)⟩
set_option maxHeartbeats 1000000 in
theorem cmp_no (n d m q : Int) (w : World) (i1 : In64 n) (i2 : In64 d) (i3 : In64 m) (i4 : In64 q) (h : (M.okB n d && M.okB m q) = false) : 
    Calls Try.prog 26 #[.agg #[.int .i64 n, .int .i64 d], .agg #[.int .i64 m, .int .i64 q]] w fun e w' => e = .returned (.tuple #[.int .i64 0, .int .i64 2]) ∧ Below w.heap.size w w' := by
  have HV := hide h; clear h
  have G := hide (And.intro (And.intro i1 i2) (And.intro i3 i4)); clear i1 i2 i3 i4
  go_enter Try.func26, Try.ntmps26
  go_wp2_with fail
  refine (all2 _ n d m q _ ⟨by simp [go_sem], by simp [go_sem]⟩ ⟨by simp [go_sem], by simp [go_sem]⟩ G.out.1.1 G.out.1.2 G.out.2.1 G.out.2.2 false HV).mono ?_
  rintro e w1 ⟨rfl, hb⟩
  obtain ⟨⟨r1, r2, r3, r4⟩, hk⟩ := two_made hb; clear hb
  go_wp2_with fail
  go_ret2
  exact ⟨rfl, hk.out⟩
set_option maxHeartbeats 1000000 in
theorem cmp_yes (n d m q : Int) (w : World) (h1 : M.okB n d = true) (h2 : M.okB m q = true) (s : Int) (hs : Hid (s = Int.sign (n * q - m * d))) : 
    Calls Try.prog 26 #[.agg #[.int .i64 n, .int .i64 d], .agg #[.int .i64 m, .int .i64 q]] w fun e w' => e = .returned (.tuple #[.int .i64 s, .int .i64 0]) ∧ Below w.heap.size w w' := by
  obtain ⟨a1, a2, a3, a4⟩ := okB_in h1
  obtain ⟨b1, b2, b3, b4⟩ := okB_in h2
  have HV : Hid ((M.okB n d && M.okB m q) = true) := hide (by rw [h1, h2]; rfl)
  clear h1 h2
  have G : Hid ((In64 n ∧ In64 d) ∧ (In64 m ∧ In64 q)) := hide ⟨⟨in64_of a1 a2, in64_of (by omega) a4⟩, ⟨in64_of b1 b2, in64_of (by omega) b4⟩⟩
  have G0 : Hid (0 < d ∧ 0 < q) := hide ⟨by omega, by omega⟩
  clear a1 a2 a3 a4 b1 b2 b3 b4
  go_enter Try.func26, Try.ntmps26
  go_wp2_with fail
  refine (all2 _ n d m q _ ⟨by simp [go_sem], by simp [go_sem]⟩ ⟨by simp [go_sem], by simp [go_sem]⟩ G.out.1.1 G.out.1.2 G.out.2.1 G.out.2.2 true HV).mono ?_
  rintro e w1 ⟨rfl, hb⟩
  obtain ⟨⟨c1, c2, c3, c4⟩, hK2⟩ := two_made hb; clear hb
  go_wp2_with fail
  go_region_held3 (fun w' => w'.cell? ⟨w.heap.size, 0, none⟩ = some (.int .i64 n) ∧ w'.cell? ⟨w.heap.size, 1, none⟩ = some (.int .i64 d) ∧ w'.cell? ⟨w.heap.size + 1, 0, none⟩ = some (.int .i64 m) ∧ w'.cell? ⟨w.heap.size + 1, 1, none⟩ = some (.int .i64 q) ∧ Hid (Below w.heap.size w w'))
      ((go_split_ands; (first | dsimp only | skip); refine ⟨?_, ?_, ?_, ?_, ?_⟩ <;> first | assumption | (simp only [World.cell?_drew]; assumption) | exact kc hbw ‹_› | exact kbd ‹_› | exact kb ‹_› hbw))
      (first | (go_at_call 79; refine (of_b _ _ _).mono ?_; rintro e w' ⟨rfl, hbw⟩) | (go_at_call 80; refine (compare_any n d m q _ G.out.1.1 G.out.1.2 G.out.2.1 G.out.2.2 G0.out.1 G0.out.2 s hs).mono ?_; rintro e w' ⟨rfl, hbw⟩))
  go_wp2_with fail
  go_ret2
  go_split_ands
  exact ⟨rfl, Hid.out ‹_›⟩
end Go.Proofs.Ytpgnbjlpkpmpcaa
