import Derived.Test.YtpgnbjlpkpmpcaaJa
import Derived.Deep.AppendLies
set_option linter.unusedVariables false
namespace Go.Proofs.Ytpgnbjlpkpmpcaa.R
open Go.RowKit Go.Proofs.Ytpgnbjlpkpmpcaa.N
/-- a variable of two ints, of the call's own -/
def Rv (w0 w : World) (s : Nat) (x y : Int) : Prop := (w0.heap.size ≤ s ∧ Below w0.heap.size w0 w) ∧ (w.cell? ⟨s, 0, none⟩ = some (.int .i64 x) ∧ w.cell? ⟨s, 1, none⟩ = some (.int .i64 y)) ∧ (w.frozen? ⟨s, 0, none⟩ = false ∧ w.frozen? ⟨s, 1, none⟩ = false)
theorem rv_step {w0 w w' : World} {s : Nat} {x y : Int} (h : Hid (Rv w0 w s x y)) (hb : Below w.heap.size w w') : Hid (Rv w0 w' s x y) := by
  obtain ⟨⟨z, b⟩, ⟨c1, c2⟩, ⟨f1, f2⟩⟩ := h.out
  exact hide ⟨⟨z, bt b hb⟩, ⟨kc hb c1, kc hb c2⟩, ⟨kf hb c1 f1, kf hb c2 f2⟩⟩
theorem rv_set {w0 w : World} {s : Nat} {x y : Int} (h : Hid (Rv w0 w s x y)) (u v : Int) : Hid (Rv w0 ((w.setCell ⟨s, 0, none⟩ (.int .i64 u)).setCell ⟨s, 1, none⟩ (.int .i64 v)) s u v) := by
  obtain ⟨⟨z, b⟩, ⟨c1, c2⟩, ⟨f1, f2⟩⟩ := h.out
  refine hide ⟨⟨z, bs (bs b z _) z _⟩, ⟨?_, ?_⟩, ?_⟩
  · rw [World.cell?_setCell_other (h := by simp)]; exact World.cell?_setCell_same _ _ _ c1
  · exact World.cell?_setCell_same _ _ _ (by rw [World.cell?_setCell_other (h := by simp)]; exact c2)
  · simp only [frozen_set]; exact ⟨f1, f2⟩
theorem rv_new {w0 w : World} (h : Below w0.heap.size w0 w) (x y : Int) (t : TypeId) : Hid (Rv w0 (w.alloc (.cells #[.int .i64 x, .int .i64 y] t)) w.heap.size x y) :=
  hide ⟨⟨h.size, ba h _⟩, ⟨by simp [go_sem], by simp [go_sem]⟩, ⟨by simp [go_sem], by simp [go_sem]⟩⟩
/-- behind an append to a row above it -/
theorem rv_grown {w0 w w' : World} {s : Nat} {x y : Int} {v : Value} {n : Nat} {xs : List Value} (h : Hid (Rv w0 w s x y)) (hg : w.grownBy w' v.ownBlock) (ho : w.ownsRow (s + 1) 3 1 v n xs) : Hid (Rv w0 w' s x y) := by
  obtain ⟨⟨z, b⟩, ⟨c1, c2⟩, ⟨f1, f2⟩⟩ := h.out
  have ne : some s ≠ v.ownBlock := fun e => by have := ho.lt s e.symm; omega
  have hs := cell_lt c1
  refine hide ⟨⟨z, b.grown hg b.size (fun k hk => by have := ho.lt k hk; omega)⟩, ⟨hg.cell c1 ne, hg.cell c2 ne⟩, ⟨?_, ?_⟩⟩
  · rw [World.grownBy.frozen_far hg _ hs ne]; exact f1
  · exact (World.grownBy.frozen_far hg ⟨s, 1, none⟩ hs ne).trans f2
def lenOf : Value → Nat
  | .slice _ n _ => n
  | _ => 0
def TmRet (w : World) (n d : Int) (last : Nat) (e : Ending) (w' : World) : Prop := ∃ a cap, e = .returned (.tuple #[.slice a (last + 1) cap, .int .i64 0]) ∧ Ls w' a (last + 1) cap (M.eT n d) ∧ Below w.heap.size w w'
def TmRel (w0 : World) (s : Nat) (n d : Int) (last : Nat) (u v : Value) (wr : World) : Prop := ∃ k, k ≤ last ∧ u = .int .i64 (M.eT n d k) ∧ lenOf v = k + 1 ∧ Rv w0 wr s (M.eN n d k).1 (M.eN n d k).2 ∧ wr.ownsRow (s + 1) 3 1 v (k + 1) (i64s (M.eT n d) (k + 1))
theorem owns_len {w : World} {B n : Nat} {v : Value} {xs : List Value} (h : w.ownsRow B 3 1 v n xs) : lenOf v = n := by
  obtain ⟨hl, ⟨rfl, rfl⟩ | ⟨g, cap, cur, rfl, r⟩⟩ := h <;> rfl
set_option maxRecDepth 20000 in
set_option maxHeartbeats 2000000 in
theorem terms_bad (n d : Int) (w : World) (h1 : In64 n) (h2 : In64 d) (h : M.okB n d = false) : Calls Try.prog 52 #[.agg #[.int .i64 n, .int .i64 d]] w fun e w' => e = .returned (.tuple #[.slice none 0 0, .int .i64 2]) ∧ Below w.heap.size w w' := by
  have HV := hide h
  go_enter Try.func52, Try.ntmps52
  go_wp2_with fail
  refine (valid_is n d false _ h1 h2 HV).mono ?_
  rintro en w1 ⟨rfl, hb⟩
  go_wp2_with fail
  go_ret2
  exact ⟨rfl, bt (ba (Below.refl _ _) _) hb⟩
set_option maxRecDepth 20000 in
set_option maxHeartbeats 4000000 in
theorem terms_yes (n d : Int) (w : World) (h : M.okB n d = true) (last : Nat) (hg : Hid (M.Goes n d last)) (he : Hid ((M.eN n d last).2 = 1)) : Calls Try.prog 52 #[.agg #[.int .i64 n, .int .i64 d]] w (TmRet w n d last) := by
  obtain ⟨i0, hi, hz0, hz1, hz2⟩ := info_parts Try.info3
  have HV := hide h
  have H60 : Hid (last < 60) := hide (M.goes_lt h last hg.out)
  obtain ⟨i1, i2⟩ := okB_bd h
  obtain ⟨a1, a2, a3, a4⟩ := okB_in h
  have hd1 : 1 ≤ d := by have := M.okB_pos h; omega
  obtain ⟨t0, ht0⟩ : ∃ t, Hid (t = M.eT n d 0) := ⟨_, rfl⟩
  have HF : ∀ w, Calls Try.prog 97 #[.agg #[.int .i64 n, .int .i64 d]] w fun e w' => e = .returned (.int .i64 t0) ∧ Below w.heap.size w w' := by
    rw [ht0.out]; exact fun w => floor_any n d w i1.1 i1.2 hd1 i2.2
  have HF' := hide HF
  clear HF
  go_enter Try.func52, Try.ntmps52
  go_wp2_with fail
  refine (valid_is n d true _ i1 i2 HV).mono ?_
  rintro en w1 ⟨rfl, hb⟩
  have hb1 := hide (bt (ba (Below.refl w.heap.size w) (.cells #[.int .i64 n, .int .i64 d] 23)) hb)
  have c0 := kc hb (show (w.alloc (.cells #[.int .i64 n, .int .i64 d] 23)).cell? ⟨w.heap.size, 0, none⟩ = some (.int .i64 n) by simp [go_sem])
  have c1 := kc hb (show (w.alloc (.cells #[.int .i64 n, .int .i64 d] 23)).cell? ⟨w.heap.size, 1, none⟩ = some (.int .i64 d) by simp [go_sem])
  clear hb
  go_wp2_with fail
  refine (of_b n d _).mono ?_
  rintro en w2 ⟨rfl, hb⟩
  have hb2 := hide (bt hb1.out hb)
  have hrv := rv_new hb2.out n d 78
  clear hb c0 c1
  obtain ⟨s, hs⟩ : ∃ s, s = w2.heap.size := ⟨_, rfl⟩
  go_wp2_with fail
  refine (HF'.out _).mono ?_
  rintro en w3 ⟨rfl, hb⟩
  have hrv1 := rv_step hrv hb
  have hsz : s + 1 ≤ w3.heap.size := by have := hb.size; simp at this; omega
  rw [← hs] at hrv1 ⊢
  clear hb hrv hs
  have hown := World.ownsRow_lit (size := 1) (base := s + 1) (e := 3) w3 #[.int .i64 t0] 1 hsz (by unfold maxLen; omega) (by simp)
  have hrv2 := rv_step hrv1 (ba (Below.refl _ _) (.cells #[.int .i64 t0] 3))
  have HO := hide hown
  clear hown
  go_wp2_with fail
  go_loopw [5, 6] (fun u v wr => TmRel w s n d last u v wr) (fun _ v _ => last + 1 - lenOf v)
  case atStart => exact ⟨0, by omega, by rw [ht0.out], rfl, hrv2.out, by rw [ht0.out] at HO ⊢; exact HO.out⟩
  case round =>
    obtain ⟨k, hk, rfl, hlen, hR, hown⟩ := hrel
    have HR := hide hR
    have HOWN := hide hown
    clear hR hown
    obtain ⟨W, hW⟩ : ∃ W, Hid (W = M.eT n d k) := ⟨_, rfl⟩
    obtain ⟨N, hN⟩ : ∃ N, Hid (N = (M.eN n d k).1) := ⟨_, rfl⟩
    obtain ⟨D, hD⟩ : ∃ D, Hid (D = (M.eN n d k).2) := ⟨_, rfl⟩
    rw [← hN.out, ← hD.out] at HR
    rw [← hW.out]
    obtain ⟨⟨_, _⟩, ⟨p0, p1⟩, ⟨f0, f1⟩⟩ := HR.out
    by_cases hlt : k < last
    · have hne : D ≠ 1 := by rw [hD.out]; exact hg.out k hlt
      have hb1 : (D == 1) = false := by rw [beq_eq_false_iff_ne]; exact hne
      have hb2 : (D != 1) = true := by rw [bne_iff_ne]; exact hne
      obtain ⟨w1', w2'⟩ := M.eT_bd h k (hg.out.le (by omega))
      obtain ⟨n1, n2, n3⟩ := M.eN_bd h k (hg.out.le (by omega))
      obtain ⟨n4, _⟩ := M.eN_pos h k (hg.out.le (by omega))
      obtain ⟨m1, m2, m3⟩ := M.eN_bd h (k + 1) (hg.out.le (by omega))
      obtain ⟨m4, _⟩ := M.eN_pos h (k + 1) (hg.out.le (by omega))
      have HE : Hid (M.eN n d (k + 1) = (D, N % D)) := hide (by rw [M.eN_succ, hN.out, hD.out])
      rw [HE.out] at m1 m2 m3 m4
      simp only at m1 m2 m3 m4
      rw [← hW.out] at w1' w2'
      rw [← hN.out] at n2 n3
      rw [← hD.out] at n1 n4
      have hdm : N = D * W + N % D := by
        rw [hW.out]; unfold M.eT; rw [← hN.out, ← hD.out]; exact (Int.mul_ediv_add_emod N D).symm
      obtain ⟨R, hRr⟩ : ∃ R, Hid (R = N % D) := ⟨_, rfl⟩
      rw [← hRr.out] at HE m1 m4 hdm
      have hsx : Hid (R = N + -W * D) := hide (by rw [Int.neg_mul, Int.mul_comm W D]; omega)
      have G : Hid (In64 (-W * D) ∧ In64 (N + -W * D)) := hide (by
        have e1 : -W * D = R - N := by rw [hsx.out]; omega
        rw [← hsx.out, e1]
        exact ⟨⟨by omega, by omega⟩, ⟨by omega, by omega⟩⟩)
      obtain ⟨T, hT⟩ : ∃ T, Hid (T = M.eT n d (k + 1)) := ⟨_, rfl⟩
      have HFL : ∀ w, Calls Try.prog 97 #[.agg #[.int .i64 D, .int .i64 R]] w fun e w' => e = .returned (.int .i64 T) ∧ Below w.heap.size w w' := by
        have e : T = D / R := by rw [hT.out]; unfold M.eT; rw [HE.out]
        rw [e]; exact fun w => floor_any D R w (by omega) (by omega) m4 (by omega)
      have HFL' := hide HFL
      clear HFL hdm hne
      go_wp2_with fail
      (with_reducible refine (shift_b N D (-W) R _ G hsx).mono ?_)
      rintro en w4 ⟨rfl, hb⟩
      have HR1 := rv_step HR hb
      have HO1 := hide (owns_below HOWN.out hb)
      clear hb p0 p1 f0 f1
      go_wp2_with fail
      (with_reducible refine (inv_b R D _).mono ?_)
      rintro en w5 ⟨rfl, hb⟩
      have HR2 := rv_step HR1 hb
      have HO2 := hide (owns_below HO1.out hb)
      clear hb HR1 HO1 HR HOWN
      obtain ⟨⟨_, _⟩, ⟨p0, p1⟩, ⟨f0, f1⟩⟩ := HR2.out
      have HR3 := rv_set HR2 D R
      have HO3 := hide (ownsRow_setCell_below (ownsRow_setCell_below HO2.out (a := ⟨s, 0, none⟩) (by simp) (.int .i64 D)) (a := ⟨s, 1, none⟩) (by simp) (.int .i64 R))
      go_wp2_with fail
      refine (HFL'.out _).mono ?_
      rintro en w6 ⟨rfl, hb⟩
      have HR4 := rv_step HR3 hb
      have HO4 := hide (owns_below HO3.out hb)
      clear hb HR3 HO3 HR2 HO2 p0 p1 f0 f1
      have hsz6 : s + 1 ≤ w6.heap.size := by have := cell_lt HR4.out.2.1.1; simp only at this; omega
      have HR5 := rv_step HR4 (ba (Below.refl _ _) (.cells #[.int .i64 T] 3))
      have hk60 : k + 2 ≤ 61 := by have := H60.out; omega
      go_wp2_with (at_builtin; refine wpList_append_own _ rfl _ _ 51 rfl (s + 1) 3 i0 (.int .i64 0) 1 8 Try.underlying51 hi hz0 hz1 hz2 rfl (by decide) _ _ _ rfl (HO4.out.alloc _) ⟨w6.heap.size, 0, none⟩ 1 1 [.int .i64 T] rfl rfl ?c1 ?c2 ?c3 ?c4 ?c5 ?_)
      case c1 =>
        intro j u hj
        match j, hj with
        | 0, hj => simp at hj; subst hj; simp [Addr.add]
      case c2 => intro u hu; simp at hu; subst hu; rfl
      case c3 => unfold maxLen; omega
      case c4 => omega
      case c5 => simp; omega
      · intro v' w7 hown' hgrow _
        have HR6 := rv_grown HR5 hgrow (HO4.out.alloc _)
        go_wp2_with fail
        go_roundw
        case rel => exact ⟨k + 1, by omega, by rw [hT.out], owns_len hown', by rw [HE.out]; exact HR6.out, by rw [i64s_succ _ (k + 1), ← hT.out]; exact hown'⟩
        case measure => have := owns_len hown'; omega
    · obtain rfl : k = last := by omega
      have h1 : D = 1 := by rw [hD.out]; exact he.out
      subst h1
      go_wp2_with fail
      go_ret2
      obtain ⟨a, cap, e, hls⟩ := ls_of_owns HOWN.out (fun i hi => by
        have := M.eT_bd h i (hg.out.le (by omega)); exact ⟨by omega, by omega⟩)
      exact ⟨a, cap, by rw [e]; rfl, hls, HR.out.1.2⟩
end Go.Proofs.Ytpgnbjlpkpmpcaa.R
