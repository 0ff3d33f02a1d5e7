import Derived.Test.YtpgnbjlpkpmpcaaZi
namespace Go.Proofs.Ytpgnbjlpkpmpcaa.R
open Go.RowKit Go.Proofs.Ytpgnbjlpkpmpcaa.N
/-- a result: its fraction and its error, where both fractions are valid; else a bad argument -/
def Tri (ok : Bool) (a b c x y z : Int) : Prop := if ok = true then x = a ∧ y = b ∧ z = c else x = 0 ∧ y = 0 ∧ z = 2
theorem tri_ex (ok : Bool) (a b c : Int) : ∃ x y z, Hid (Tri ok a b c x y z) := by
  cases ok
  · exact ⟨0, 0, 2, hide ⟨rfl, rfl, rfl⟩⟩
  · exact ⟨a, b, c, hide ⟨rfl, rfl, rfl⟩⟩
theorem tri_no {ok : Bool} {a b c x y z : Int} (h : Hid (Tri ok a b c x y z)) (h0 : ok = false) : x = 0 ∧ y = 0 ∧ z = 2 := by
  have := h.out; unfold Tri at this; rw [h0] at this; simpa using this
theorem tri_yes {ok : Bool} {a b c x y z : Int} (h : Hid (Tri ok a b c x y z)) (h0 : ok = true) : Hid (x = a) ∧ Hid (y = b) ∧ Hid (z = c) := by
  have := h.out; unfold Tri at this; rw [if_pos h0] at this; exact ⟨hide this.1, hide this.2.1, hide this.2.2⟩
theorem both_no {a b : Bool} (h : (a && b) = false) : a = false ∨ (a = true ∧ b = false) := by cases a <;> simp_all
theorem both_yes {a b : Bool} (h : (a && b) = true) : a = true ∧ b = true := by cases a <;> simp_all
def Ins (n d m q : Int) : Prop := (In64 n ∧ In64 d) ∧ (In64 m ∧ In64 q)
theorem med_is (n d m q x y z : Int) (w : World) (i : Hid (Ins n d m q)) (h : Hid (Tri (M.okB n d && M.okB m q) (M.nN (n + m) (d + q)) (M.nD (n + m) (d + q)) (M.nE (n + m) (d + q)) x y z)) :
    Calls Try.prog 65 #[.agg #[.int .i64 n, .int .i64 d], .agg #[.int .i64 m, .int .i64 q]] w fun e w' => e = .returned (.tuple #[.agg #[.int .i64 x, .int .i64 y], .int .i64 z]) ∧ Below w.heap.size w w' := by
  cases c : (M.okB n d && M.okB m q)
  · obtain ⟨rfl, rfl, rfl⟩ := tri_no h c
    exact med_no n d m q w i.out.1.1 i.out.1.2 i.out.2.1 i.out.2.2 c
  · obtain ⟨e1, e2, e3⟩ := tri_yes h c
    obtain ⟨c1, c2⟩ := both_yes c
    exact med_yes n d m q x y z w c1 c2 e1 e2 e3
theorem rmed_is (n d m q x y z : Int) (w : World) (h : Hid (Tri (M.okB n d && M.okB m q) (M.nN (n + m) (d + q)) (M.nD (n + m) (d + q)) (M.nE (n + m) (d + q)) x y z)) :
    Calls Try.prog 66 #[.agg #[.int .i64 n, .int .i64 d], .agg #[.int .i64 m, .int .i64 q]] w fun e w' => e = .returned (.tuple #[.agg #[.int .i64 x, .int .i64 y], .int .i64 z]) ∧ Below w.heap.size w w' := by
  cases c : (M.okB n d && M.okB m q)
  · obtain ⟨rfl, rfl, rfl⟩ := tri_no h c
    rcases both_no c with c1 | ⟨c1, c2⟩
    · exact rmed_noa n d m q w (hide c1)
    · exact rmed_nob n d m q w (hide c1) (hide c2)
  · obtain ⟨e1, e2, e3⟩ := tri_yes h c
    obtain ⟨c1, c2⟩ := both_yes c
    exact rmed_yes n d m q x y z w (hide c1) (hide c2) e1 e2 e3
set_option maxRecDepth 20000 in
set_option maxHeartbeats 2000000 in
theorem law_mediants (n d m q : Int) (w : World) (i1 : In64 n) (i2 : In64 d) (i3 : In64 m) (i4 : In64 q) : Calls Try.prog 15 #[.agg #[.int .i64 n, .int .i64 d], .agg #[.int .i64 m, .int .i64 q]] w fun e w' => e = .returned (.bool true) ∧ Below w.heap.size w w' := by
  have G : Hid (Ins n d m q) := hide ⟨⟨i1, i2⟩, ⟨i3, i4⟩⟩; clear i1 i2 i3 i4
  obtain ⟨x, y, z, HT⟩ := tri_ex (M.okB n d && M.okB m q) (M.nN (n + m) (d + q)) (M.nD (n + m) (d + q)) (M.nE (n + m) (d + q))
  have HL := l2_start (w := w) (n := n) (d := d) (m := m) (q := q)
  go_enter Try.func15, Try.ntmps15
  go_wp2_with fail
  refine (med_is n d m q x y z _ G HT).mono ?_
  rintro e w1 ⟨rfl, hb1⟩
  have HL1 := l2_step HL (ba hb1 (Obj.cells #[.int .i64 x, .int .i64 y] 23))
  have HA1 := fx_new w1 x y
  have HL1' := l2_step HL hb1
  clear hb1
  obtain ⟨⟨r1, r2, r3, r4⟩, ⟨_, _⟩, _⟩ := HL1'.out
  go_wp2_with fail
  refine (rmed_is n d m q x y z _ HT).mono ?_
  rintro e w2 ⟨rfl, hb2⟩
  have HB2 := hide (bt HL1.out.2.2 hb2)
  have HA2 := fx_step HA1 hb2
  clear hb2
  obtain ⟨a1, a2, a3⟩ := HA2.out
  go_wp2_with fail
  refine (awake_any _).mono ?_
  rintro e w3 ⟨rfl, hb3⟩
  have HB3 := hide (bt (ba HB2.out _) hb3); clear hb3
  go_wp2_with fail
  go_ret
  exact ⟨rfl, HB3.out⟩
end Go.Proofs.Ytpgnbjlpkpmpcaa.R
