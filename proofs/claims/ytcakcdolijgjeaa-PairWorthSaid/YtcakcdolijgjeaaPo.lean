/- Pairs: the law. -/
import Derived.Test.YtcakcdolijgjeaaPn
import Derived.Test.YtcakcdolijgjeaaPc
set_option linter.unusedVariables false
namespace Go.Proofs.Ytcakcdolijgjeaa
open Go Go.RowKit Go.Ab
theorem goodB_min (gl gr : Nat → G4) (l r : Nat) (u um : G4) : goodB gl gr (min l 34) (min r 34) u um = goodB gl gr l r u um := by
  unfold goodB
  rw [handsB_min, handsB_min]
theorem pairsV_min (u um : G4) (gs : Nat → G4) (mm : Nat → Int) (l n : Nat) : pairsV u um gs mm (min l 34) n = pairsV u um gs mm l n := by
  by_cases h : l ≤ 34
  · rw [Nat.min_eq_left h]
  · have hb : goodB gs gs l l u um = false := by
      unfold goodB handsB
      rw [decide_eq_false (show ¬ l ≤ 32 by omega), Bool.and_false, Bool.false_and, Bool.false_and]
    rw [pairsV_bad hb, pairsV_bad (by rw [goodB_min]; exact hb)]
/-- the law's rule, in its box -/
def L8 (w W : World) (u0 u1 u2 u3 m0 m1 m2 m3 : Int) : Prop := Bx8 W w.heap.size u0 u1 u2 u3 m0 m1 m2 m3 ∧ Below w.heap.size w W
theorem L8.below {w W W' : World} {u0 u1 u2 u3 m0 m1 m2 m3 : Int} (h : L8 w W u0 u1 u2 u3 m0 m1 m2 m3) (hb : Below W.heap.size W W') : L8 w W' u0 u1 u2 u3 m0 m1 m2 m3 := ⟨h.1.below hb, bt h.2 hb⟩
theorem l8_new (w : World) (u0 u1 u2 u3 m0 m1 m2 m3 : Int) (t : Nat) : L8 w (w.alloc (.cells #[.int .i64 u0, .int .i64 u1, .int .i64 u2, .int .i64 u3, .int .i64 m0, .int .i64 m1, .int .i64 m2, .int .i64 m3] t)) u0 u1 u2 u3 m0 m1 m2 m3 := ⟨bx8_new _ _ _ _ _ _ _ _ _ _, ba _ _⟩
theorem l8_get {w W : World} {u0 u1 u2 u3 m0 m1 m2 m3 : Int} (H : Hid (L8 w W u0 u1 u2 u3 m0 m1 m2 m3)) : (((W.cell? ⟨w.heap.size, 0, none⟩ = some (.int .i64 u0) ∧ W.cell? ⟨w.heap.size, 1, none⟩ = some (.int .i64 u1)) ∧ (W.cell? ⟨w.heap.size, 2, none⟩ = some (.int .i64 u2) ∧ W.cell? ⟨w.heap.size, 3, none⟩ = some (.int .i64 u3))) ∧ (W.cell? ⟨w.heap.size, 4, none⟩ = some (.int .i64 m0) ∧ W.cell? ⟨w.heap.size, 5, none⟩ = some (.int .i64 m1)) ∧ (W.cell? ⟨w.heap.size, 6, none⟩ = some (.int .i64 m2) ∧ W.cell? ⟨w.heap.size, 7, none⟩ = some (.int .i64 m3))) ∧ Hid (L8 w W u0 u1 u2 u3 m0 m1 m2 m3) := ⟨H.out.1, H⟩
set_option maxRecDepth 20000 in
set_option maxHeartbeats 4000000 in
theorem pairs_law (a : Option Addr) (l c : Nat) (gs : Nat → G4) (u0 u1 u2 u3 m0 m1 m2 m3 : Int) (b : Option Addr) (n d : Nat) (mm : Nat → Int) (w : World) (hs : Gs w a l gs ∧ l ≤ maxLen) (hm : Ls w b n mm ∧ n ≤ maxLen) :
    Calls Try.prog 18 #[.slice a l c, .agg #[.int .i64 u0, .int .i64 u1, .int .i64 u2, .int .i64 u3, .int .i64 m0, .int .i64 m1, .int .i64 m2, .int .i64 m3], .slice b n d] w fun e w' => e = .returned (.bool true) ∧ Below w.heap.size w w' := by
  have H1 := hide hs.1
  have H2 := hide hm.1
  obtain ⟨x, y, hxy⟩ : ∃ (x y : Int), Hid (pairsV (u0, u1, u2, u3) (m0, m1, m2, m3) gs mm l n = .tuple #[.int .i64 x, .int .i64 y]) := by
    unfold pairsV
    split
    · exact ⟨_, _, hide rfl⟩
    · split
      · exact ⟨_, _, hide rfl⟩
      · split
        · exact ⟨_, _, hide rfl⟩
        · exact ⟨_, _, hide rfl⟩
  have K53 := hide (fun W a' c' h1 h2 => pairs_is a' b (min l 34) c' n d gs mm (u0, u1, u2, u3) (m0, m1, m2, m3) W h1 (by omega) h2 hm.2)
  have K51 := hide (fun W h1 h2 => rpairs_is a b l c n d gs mm (u0, u1, u2, u3) (m0, m1, m2, m3) W h1 hs.2 h2 hm.2)
  have K27 := hide (fun W h1 => side_is a l c gs W h1 hs.2)
  rw [pairsV_min, hxy.out] at K53
  rw [hxy.out] at K51
  unfold uVal at K53 K51
  simp only at K53 K51
  clear hs hm
  have HX := hide (l8_new w u0 u1 u2 u3 m0 m1 m2 m3 25)
  obtain ⟨f, _⟩ := l8_get HX
  obtain ⟨s, hsz⟩ : ∃ s, min l 34 = s := ⟨_, rfl⟩
  rw [hsz] at K53 K27
  go_enter Try.func18, Try.ntmps18
  go_wp2_with fail
  have HXd := hide (HX.out.below (Below.refl _ _).drew)
  go_region_held3 (fun W => (((W.cell? ⟨w.heap.size, 0, none⟩ = some (.int .i64 u0) ∧ W.cell? ⟨w.heap.size, 1, none⟩ = some (.int .i64 u1)) ∧ (W.cell? ⟨w.heap.size, 2, none⟩ = some (.int .i64 u2) ∧ W.cell? ⟨w.heap.size, 3, none⟩ = some (.int .i64 u3))) ∧ (W.cell? ⟨w.heap.size, 4, none⟩ = some (.int .i64 m0) ∧ W.cell? ⟨w.heap.size, 5, none⟩ = some (.int .i64 m1)) ∧ (W.cell? ⟨w.heap.size, 6, none⟩ = some (.int .i64 m2) ∧ W.cell? ⟨w.heap.size, 7, none⟩ = some (.int .i64 m3))) ∧ Hid (L8 w W u0 u1 u2 u3 m0 m1 m2 m3))
    ((go_split_ands; refine l8_get ?_; first | (with_reducible exact HX) | (with_reducible exact HXd) | (with_reducible exact hide (L8.below (Hid.out ‹_›) hbw))))
    ((first
      | (go_at_call 27; (with_reducible refine Calls.mono (K27.out _ ?_) ?_); exact H1.out.below HXd.out.2; rintro e w' ⟨a', c', rfl, hGs, hbw⟩; have hB27 := bt HXd.out.2 hbw)
      | (go_at_call 23; (with_reducible refine (rule_any _ _ _ _ _ _ _ _ _).mono ?_); rintro e w' ⟨rfl, hbw⟩; have hB23 := bt hB27 hbw; have hG23 := hGs.below hbw)
      | (go_at_call 53; (with_reducible refine Calls.mono (K53.out _ _ _ ?_ ?_) ?_); exact hG23; exact H2.out.below hB23; rintro e w' ⟨rfl, hbw⟩; have hB53 := bt hB23 hbw)))
  go_split_ands
  have HY : Hid (L8 w w' u0 u1 u2 u3 m0 m1 m2 m3) := ‹_›
  have HBb := hide hB53
  clear hB53 hB23 hB27 hG23 hGs hbw HX HXd
  go_wp2_with fail
  refine (K51.out _ (H1.out.below HBb.out) (H2.out.below HBb.out)).mono ?_
  rintro e W2 ⟨rfl, hb⟩
  have HB := hide (bt HBb.out hb)
  clear hb
  go_wp2_with fail
  refine (awake_any _).mono ?_
  rintro e W3 ⟨rfl, hb⟩
  have HC := hide (bt HB.out hb)
  clear hb
  go_wp2_with fail
  go_ret
  exact ⟨rfl, HC.out⟩
end Go.Proofs.Ytcakcdolijgjeaa
