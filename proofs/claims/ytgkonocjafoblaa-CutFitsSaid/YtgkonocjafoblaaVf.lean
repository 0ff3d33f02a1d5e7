/- The library's sort by insertion, of indices by their strips; its stable sort of at most 19. -/
import Derived.Test.YtgkonocjafoblaaVe
import Derived.Shelf.RegionOpenPlain
set_option linter.unusedVariables false
namespace Go.Proofs.Ytgkonocjafoblaa
open Go Go.RowKit Go.Ab
/-- what the sort works in: the strips, their box, the row of indices -/
structure Sw (w : World) (bs g l N c cg : Nat) (a : Option Addr) (f : Nat → Int) (x p : Nat → Nat) : Prop where
  st : St w a l N f x
  bx : w.cell? ⟨bs, 0, none⟩ = some (.slice a l c)
  row : Rw w g l cg p
  nb : bs ≠ g
  na : ∀ b off, a = some ⟨b, off, none⟩ → b ≠ g
theorem Sw.ext {w : World} {bs g l N c cg : Nat} {a : Option Addr} {f : Nat → Int} {x p q : Nat → Nat} (h : Sw w bs g l N c cg a f x p) (e : ∀ i, i < l → p i = q i) : Sw w bs g l N c cg a f x q := ⟨h.st, h.bx, h.row.ext e, h.nb, h.na⟩
theorem Sw.lk {w w' : World} {bs g l N c cg : Nat} {a : Option Addr} {f : Nat → Int} {x p : Nat → Nat} (h : Sw w bs g l N c cg a f x p) (e : Lk w w') : Sw w' bs g l N c cg a f x p := ⟨h.st.lk e, e.cell h.bx, h.row.lk e, h.nb, h.na⟩
theorem Sw.set {w : World} {bs g l N c cg : Nat} {a : Option Addr} {f : Nat → Int} {x p : Nat → Nat} (h : Sw w bs g l N c cg a f x p) (j v : Nat) : Sw (w.setCell ⟨g, j, none⟩ (.int .i64 (v : Int))) bs g l N c cg a f x (fun i => if i = j then v else p i) :=
  have hb := (Ob.refl w g).set j (.int .i64 (v : Int))
  ⟨h.st.ob hb h.na, hb.cell h.bx h.nb, h.row.set j v, h.nb, h.na⟩
theorem drewN_two (w : World) (k n : Nat) : (w.drewN k).drewN n = w.drewN (k + n) := by simp [World.drewN, Nat.add_assoc]
theorem Lk.obj {w w' : World} (h : Lk w w') (g : Nat) : Ob w w' g := (Ob.refl w g).lk h
set_option maxRecDepth 20000 in
set_option maxHeartbeats 4000000 in
theorem insertion_is (bs g l N c cg : Nat) (a : Option Addr) (f : Nat → Int) (x p0 : Nat → Nat) (w : World) (HS : Hid (Sw w bs g l N c cg a f x p0)) (HP : Hid (∀ q, p0 q = q)) :
    Calls Try.prog 153 #[.slice (some ⟨g, 0, none⟩) l cg, .int .i64 0, .int .i64 l, .func (.func 102) #[] #[.pointer (some ⟨bs, 0, none⟩)]] w fun e w' => ∃ p, e = .returned (.tuple #[]) ∧ Sw w' bs g l N c cg a f x p ∧ Ord x p l ∧ Ob w w' g := by
  have hl := HS.out.st.hl
  go_enter Try.func153, Try.ntmps153
  go_wp2_with fail
  go_loopw [8] (fun vi wr => ∃ (wq : World) (i : Nat) (p : Nat → Nat), wq = wr ∧ vi = .int .i64 (i : Int) ∧ 1 ≤ i ∧ (i ≤ l ∨ i = 1) ∧ Ord x p i ∧ Sw wr bs g l N c cg a f x p ∧ Ob w wr g) (fun vi _ => l + 1 - (intOf vi).toNat)
  case atStart => exact ⟨_, 1, fun q => q, rfl, rfl, Nat.le_refl _, .inr rfl, Ord.one x, HS.out.ext (fun i _ => HP.out i), Ob.refl _ _⟩
  case round =>
    obtain ⟨wr, i, p, rfl, rfl, hi1, hi2, hord, hsw, hob⟩ := hrel
    have HO := hide hord
    have H1 := hide hsw
    have HB := hide hob
    clear hord hsw hob
    by_cases hlt : i < l
    · go_wp2_with fail
      go_loopw [9] (fun vj wx => ∃ (wq : World) (j : Nat), wq = wx ∧ vj = .int .i64 (j : Int) ∧ j ≤ i ∧ Sw wx bs g l N c cg a f x (insA p i j) ∧ (∀ b, j ≤ b → b < i → x (p b) < x i) ∧ Ob w wx g) (fun vj _ => (intOf vj).toNat)
      case atStart => exact ⟨_, i, rfl, rfl, Nat.le_refl _, H1.out.ext (fun q _ => (insA_start HO.out q).symm), fun b h1 h2 => by omega, HB.out⟩
      case round =>
        clear H1 HB
        obtain ⟨wx, j, rfl, rfl, hj, hsw, hup, hob⟩ := hrel
        have H1 := hide hsw
        have HU := hide hup
        have HB := hide hob
        clear hsw hup hob
        by_cases hj0 : 0 < j
        · obtain ⟨m, hm⟩ : ∃ m, m + 1 = j := ⟨j - 1, by omega⟩
          subst hm
          obtain ⟨Q, eQ⟩ : ∃ Q, Hid (Q = p m) := ⟨_, hide rfl⟩
          have hQl : Q < l := by rw [eQ.out]; have := HO.out.lt m (by omega); omega
          have c1 : wx.cell? ⟨g, m + 1, none⟩ = some (.int .i64 (i : Int)) := by have := H1.out.row.cell (j := m + 1) (by omega); rw [insA_at] at this; exact this
          have c2 : wx.cell? ⟨g, m, none⟩ = some (.int .i64 (Q : Int)) := by have := H1.out.row.cell (j := m) (by omega); rw [insA_low (by omega), ← eQ.out] at this; exact this
          have HST : Hid (St wx a l N f x) := hide H1.out.st
          obtain ⟨X, eX⟩ : ∃ X, Hid (X = x i) := ⟨_, hide rfl⟩
          obtain ⟨Y, eY⟩ : ∃ Y, Hid (Y = x Q) := ⟨_, hide rfl⟩
          have HC : Hid (∀ k, Calls Try.prog 102 #[.int .i64 i, .int .i64 Q, .pointer (some ⟨bs, 0, none⟩)] (wx.drewN k) fun e w' => e = .returned (.int .i64 ((Y : Int) - (X : Int))) ∧ ∃ n, w' = wx.drewN n) := hide (fun k => by
            rw [eX.out, eY.out]
            refine (cmp_is bs N l c i Q a f x (wx.drewN k) (hide (HST.out.lk ((Lk.refl wx).drewN k))) H1.out.bx hlt hQl).mono ?_
            rintro e w2 ⟨h1, n, rfl⟩
            exact ⟨h1, k + n, drewN_two wx k n⟩)
          have bx : X ≤ 2000 := by rw [eX.out]; have := H1.out.st.b i hlt; have := H1.out.st.n.2; omega
          have bY : Y ≤ 2000 := by rw [eY.out]; have := H1.out.st.b Q hQl; have := H1.out.st.n.2; omega
          by_cases hlv : Y < X
          · have hd : (Y : Int) - (X : Int) < 0 := by omega
            go_wp2_with fail
            refine wp_region_quiet_lit (by kernel_rfl) (by kernel_rfl) ?_
            repeat (go_big_quiet_step (exact HC.out _))
            refine wpQuiet_nil ?_
            intro w9 hw9
            obtain ⟨nq, rfl⟩ := hw9
            have H2 : Hid (Sw (wx.drewN nq) bs g l N c cg a f x (insA p i (m + 1))) := hide (H1.out.lk ((Lk.refl wx).drewN nq))
            have HB2 : Hid (Ob w (wx.drewN nq) g) := hide (HB.out.lk ((Lk.refl wx).drewN nq))
            have c1' : (wx.drewN nq).cell? ⟨g, m + 1, none⟩ = some (.int .i64 (i : Int)) := c1
            have c2' : (wx.drewN nq).cell? ⟨g, m, none⟩ = some (.int .i64 (Q : Int)) := c2
            have f1 := H2.out.row.frozen (m + 1)
            have f2 := H2.out.row.frozen m
            clear H1 HB HC HST c1 c2
            generalize wx.drewN nq = w2 at *
            go_wp2_with fail
            have c3 : (w2.setCell ⟨g, m + 1, none⟩ (.int .i64 (Q : Int))).cell? ⟨g, m, none⟩ = some (.int .i64 (Q : Int)) := (World.cell?_setCell_other _ _ _ _ (by intro e'; simp only [Addr.mk.injEq] at e'; omega)).trans c2'
            have mixed : Try.prog.follows .mixedOrders = true := by kernel_rfl
            go_big_region_o
            have H3 : Hid (Sw ((w2.setCell ⟨g, m + 1, none⟩ (.int .i64 (Q : Int))).setCell ⟨g, m, none⟩ (.int .i64 (i : Int))).drew bs g l N c cg a f x (insA p i m)) := hide (Sw.lk (((H2.out.set (m + 1) Q).set m i).ext (fun b _ => by
              have := insA_swap (p := p) (i := i) (j := m + 1) (by omega) hj b
              rw [Nat.add_sub_cancel] at this
              rw [this, eQ.out])) ⟨rfl, rfl, rfl, rfl⟩)
            have HB3 : Hid (Ob w ((w2.setCell ⟨g, m + 1, none⟩ (.int .i64 (Q : Int))).setCell ⟨g, m, none⟩ (.int .i64 (i : Int))).drew g) := hide (Ob.lk ((HB2.out.set (m + 1) _).set m _) ⟨rfl, rfl, rfl, rfl⟩)
            have HU2 : Hid (∀ b, m ≤ b → b < i → x (p b) < x i) := hide (fun b h1 h2 => by
              by_cases e : b = m
              · subst e; rw [← eQ.out, ← eX.out, ← eY.out]; exact hlv
              · exact HU.out b (by omega) h2)
            clear H2 HB2 HU c1' c2' c3 f1 f2
            generalize ((w2.setCell ⟨g, m + 1, none⟩ (.int .i64 (Q : Int))).setCell ⟨g, m, none⟩ (.int .i64 (i : Int))).drew = w3 at *
            go_wp2_with fail
            refine ⟨⟨_, m, rfl, by go_num, by omega, H3.out, HU2.out, HB3.out⟩, ?_⟩
            simp [intOf]
          · have hd : ¬ (Y : Int) - (X : Int) < 0 := by omega
            have HN := hide (HO.out.ins (by omega) HU.out (.inr (by rw [Nat.add_sub_cancel, ← eQ.out, ← eX.out, ← eY.out]; exact hlv)))
            go_wp2_with fail
            refine wp_region_quiet_lit (by kernel_rfl) (by kernel_rfl) ?_
            repeat (go_big_quiet_step (exact HC.out _))
            refine wpQuiet_nil ?_
            intro w9 hw9
            obtain ⟨nq, rfl⟩ := hw9
            have H2 : Hid (Sw (wx.drewN nq) bs g l N c cg a f x (insA p i (m + 1))) := hide (H1.out.lk ((Lk.refl wx).drewN nq))
            have HB2 : Hid (Ob w (wx.drewN nq) g) := hide (HB.out.lk ((Lk.refl wx).drewN nq))
            clear H1 HB HC HST c1 c2
            generalize wx.drewN nq = w2 at *
            go_wp2_with fail
            refine ⟨⟨_, i + 1, _, rfl, by go_num, by omega, .inl (by omega), HN.out, H2.out, HB2.out⟩, ?_⟩
            simp [intOf]; omega
        · obtain rfl : j = 0 := by omega
          have HN := hide (HO.out.ins (by omega) HU.out (.inl rfl))
          go_wp2_with fail
          refine wp_region_quiet_lit (by kernel_rfl) (by kernel_rfl) ?_
          repeat (go_big_quiet_step (fail))
          refine wpQuiet_nil ?_
          intro w9 hw9
          obtain ⟨nq, rfl⟩ := hw9
          have H2 : Hid (Sw (wx.drewN nq) bs g l N c cg a f x (insA p i 0)) := hide (H1.out.lk ((Lk.refl wx).drewN nq))
          have HB2 : Hid (Ob w (wx.drewN nq) g) := hide (HB.out.lk ((Lk.refl wx).drewN nq))
          clear H1 HB
          generalize wx.drewN nq = w2 at *
          go_wp2_with fail
          refine ⟨⟨_, i + 1, _, rfl, by go_num, by omega, .inl (by omega), HN.out, H2.out, HB2.out⟩, ?_⟩
          simp [intOf]; omega
    · go_wp2_with fail
      have HE : Hid (∃ q, Sw wr bs g l N c cg a f x q ∧ Ord x q l) := hide (by
        by_cases e : i = l
        · subst e; exact ⟨p, H1.out, HO.out⟩
        · obtain rfl : l = 0 := by omega
          exact ⟨fun q => q, H1.out.ext (fun i hi => by omega), Ord.zero x⟩)
      obtain ⟨q, hq1, hq2⟩ := HE.out
      go_end0
      exact ⟨q, rfl, hq1, hq2, HB.out⟩
end Go.Proofs.Ytgkonocjafoblaa
