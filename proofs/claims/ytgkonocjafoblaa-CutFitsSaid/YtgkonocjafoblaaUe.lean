/- Fill, of the program, of valid arguments. -/
import Derived.Test.YtgkonocjafoblaaUd
set_option linter.unusedVariables false
namespace Go.Proofs.Ytgkonocjafoblaa
open Go Go.RowKit Go.Ab
open Classical in
noncomputable def mst (f : Nat → Nat) (l w r : Nat) : Nat := if h : 0 < l then Classical.choose (most_some (f := f) (w := w) h r) else 0
theorem mst_ok {f : Nat → Nat} {l w r : Nat} (h : 0 < l) : Most f l w r (mst f l w r) := by
  unfold mst
  rw [dif_pos h]
  exact Classical.choose_spec (most_some (f := f) (w := w) h r)
/-- the room that is left ahead of number i -/
noncomputable def rm (L V : Nat → Nat) (l n : Nat) : Nat → Nat
  | 0 => n
  | i + 1 => rm L V l n i - mst (Bd L V l (l - 1 - i)) (L i) (V i) (rm L V l n i) * L i
noncomputable def cn (L V : Nat → Nat) (l n i : Nat) : Nat := mst (Bd L V l (l - 1 - i)) (L i) (V i) (rm L V l n i)
theorem rm_succ (L V : Nat → Nat) (l n i : Nat) : rm L V l n (i + 1) = rm L V l n i - cn L V l n i * L i := rfl
theorem rm_le (L V : Nat → Nat) (l n : Nat) : ∀ i, rm L V l n i ≤ n
  | 0 => Nat.le_refl _
  | i + 1 => by rw [rm_succ]; have := rm_le L V l n i; omega
theorem cn_ok {L V : Nat → Nat} {l n i : Nat} (h : 0 < L i) : Most (Bd L V l (l - 1 - i)) (L i) (V i) (rm L V l n i) (cn L V l n i) := mst_ok h
theorem bd_row {L V : Nat → Nat} {l i : Nat} (h : i < l) : Bd L V l (l - i) = up (Bd L V l (l - 1 - i)) (L i) (V i) := by
  have e : l - i = (l - 1 - i) + 1 := by omega
  have e2 : l - 1 - (l - 1 - i) = i := by omega
  rw [e]
  show up (Bd L V l (l - 1 - i)) (L (l - 1 - (l - 1 - i))) (V (l - 1 - (l - 1 - i))) = _
  rw [e2]
theorem Tbl.at {W : World} {O l n : Nat} {rb rc : Nat → Nat} {F : Nat → Nat → Nat} (h : Tbl W O l n l rb rc F) {j x : Nat} (hj : j ≤ l) (hx : x ≤ n) : W.cell? ⟨O, j, none⟩ = some (.slice (some ⟨rb j, 0, none⟩) (n + 1) (rc j)) ∧ W.cell? ⟨rb j, x, none⟩ = some (.int .i64 (F j x : Int)) := by
  refine ⟨?_, (h.row j (by omega) hj).cell (by omega)⟩
  have := h.outer.cell (show j < l + 1 by omega)
  rw [if_pos (by omega)] at this
  exact this
theorem Tbl.other {W : World} {O l n d : Nat} {rb rc : Nat → Nat} {F : Nat → Nat → Nat} (h : Tbl W O l n d rb rc F) {a : Addr} (h1 : O ≠ a.block) (h2 : ∀ j, l - d ≤ j → j ≤ l → rb j ≠ a.block) (v : Value) : Tbl (W.setCell a v) O l n d rb rc F :=
  ⟨h.outer.setOther h1 v, fun j g1 g2 => (h.row j g1 g2).other (h2 j g1 g2) v, h.apart⟩
/-- the same but for draws -/
def Lk (w w' : World) : Prop := w'.heap = w.heap ∧ w'.os = w.os ∧ w'.tape = w.tape ∧ w'.output = w.output
theorem Lk.refl (w : World) : Lk w w := ⟨rfl, rfl, rfl, rfl⟩
theorem Lk.drewN {w w' : World} (h : Lk w w') (n : Nat) : Lk w (w'.drewN n) := h
theorem Lk.cell {w w' : World} (h : Lk w w') {a : Addr} {v : Value} (hc : w.cell? a = some v) : w'.cell? a = some v := by
  unfold World.cell? at *; rw [h.1]; exact hc
theorem Lk.below {B : Nat} {w0 w w' : World} (h : Lk w w') (hb : Below B w0 w) : Below B w0 w' :=
  ⟨h.2.1.trans hb.os, h.2.2.1.trans hb.tape, h.2.2.2.trans hb.output, by rw [h.1]; exact hb.size, fun r hr => by rw [h.1]; exact hb.block r hr⟩
theorem Lk.row {w w' : World} (h : Lk w w') {b t n : Nat} {f : Nat → Value} (hr : w.rowIs b t n f) : w'.rowIs b t n f := hr.of_block (by rw [h.1])
theorem Lk.tbl {w w' : World} (h : Lk w w') {O l n d : Nat} {rb rc : Nat → Nat} {F : Nat → Nat → Nat} (ht : Tbl w O l n d rb rc F) : Tbl w' O l n d rb rc F :=
  ⟨h.row ht.outer, fun j g1 g2 => by obtain ⟨cap, f, k1, k2⟩ := ht.row j g1 g2; exact ⟨cap, f, h.row k1, k2⟩, ht.apart⟩
theorem lengths12_is (a : Option Addr) (l c : Nat) (f : Nat → Int) (w : World) (hs : Ls w a l f) (hl : l ≤ maxLen) :
    Calls Try.prog 96 #[.slice a l c, .int .i64 2000, .int .i64 12] w fun e w' => e = .returned (.bool (allB f 2000 l && decide (l ≤ 12))) ∧ w = w' := lengths_is a l c f 2000 12 w hs hl (by decide)
set_option maxRecDepth 20000 in
set_option maxHeartbeats 4000000 in
theorem fill_ok (n l c1 c2 : Nat) (a1 a2 : Option Addr) (fL fV : Nat → Int) (L V : Nat → Nat) (w : World) (ha : Fa w a1 a2 l n fL fV L V) (h1 : allB fL 2000 l = true) (h2 : allB fV 1000000 l = true) :
    Calls Try.prog 54 #[.int .i64 n, .slice a1 l c1, .slice a2 l c2] w fun e w' => ∃ c, e = .returned (.tuple #[.int .i64 (Bd L V l l n : Int), .slice (some ⟨c, 0, none⟩) l l, .int .i64 0]) ∧ (∀ j, j < l → w'.cell? ⟨c, j, none⟩ = some (.int .i64 (cn L V l n j : Int))) ∧ Below w.heap.size w w' := by
  have HA := hide ha
  have hn := ha.hn
  have hl := ha.hl
  have HL : Hid ((allB fL 2000 l && decide (l ≤ 12)) = true) := hide (by rw [h1, decide_eq_true hl]; rfl)
  have HV := hide h2
  have hmk : ∀ w, (Instr.makeSlice 57 (.int .i64 (l : Int)) (.int .i64 (l : Int))).run Try.prog w = .ok (.slice (some ⟨w.heap.size, 0, none⟩) l l) (w.alloc (.cells (madeCells #[.int .i64 0] l) 3)) := fun w => run_make_row' 57 3 _ 8 Try.underlying57 Try.info3 rfl .i64 .i64 l (by omega) (by omega) w
  have hml : l ≤ maxLen := by unfold maxLen; omega
  clear ha h1 h2
  go_enter Try.func54, Try.ntmps54
  go_wp2_with (first
    | (go_at_call 96; (with_reducible refine (lengths12_is a1 l c1 fL _ HA.out.s1 hml).mono ?_); rintro e w1 ⟨rfl, rfl⟩; rw [HL.out])
    | (go_at_call 97; (with_reducible refine (worths_is a2 l c2 fV _ HA.out.s2 hml).mono ?_); rintro e w1 ⟨rfl, rfl⟩; rw [HV.out]))
  refine (fills_is n l c1 c2 a1 a2 fL fV L V _ HA.out).mono ?_
  rintro e w1 ⟨O, rfl, hO, ⟨rb, rc, ht⟩, hb⟩
  have HO := hide hO
  have T1 := hide ht
  have B1 := hide hb
  clear hO ht hb
  obtain ⟨C, eC⟩ : ∃ C, Hid (C = w1.heap.size) := ⟨_, hide rfl⟩
  have R0 : Hid ((w1.alloc (.cells (madeCells #[.int .i64 0] l) 3)).rowIs C 3 l (fun j => if j < 0 then .int .i64 (cn L V l n j : Int) else .int .i64 0)) := hide (by
    rw [eC.out]
    exact (World.rowIs_made w1 (.int .i64 0) l 3).congr fun i hi => by rw [if_neg (by omega)])
  have HC : Hid (O < C ∧ (∀ j, j ≤ l → rb j < C) ∧ w.heap.size ≤ C) := hide ⟨by rw [eC.out]; exact T1.out.outer.lt, fun j hj => by rw [eC.out]; exact (T1.out.row j (by omega) hj).lt, by rw [eC.out]; exact B1.out.size⟩
  have b1 : Below w1.heap.size w1 (w1.alloc (.cells (madeCells #[.int .i64 0] l) 3)) := (Below.refl _ _).alloc (Nat.le_refl _) _
  have T2 := hide (T1.out.below b1)
  have B2 := hide (bt B1.out b1)
  clear b1 T1 B1
  go_wp2_with fail
  rw [← eC.out]
  go_loopw [11, 48] (fun v i wr => ∃ (wq : World) (k : Nat), wq = wr ∧ k ≤ l ∧ i = .int .i64 (k : Int) ∧ v = .int .i64 (rm L V l n k : Int) ∧ Tbl wr O l n l rb rc (fun j r => Bd L V l (l - j) r) ∧ wr.rowIs C 3 l (fun j => if j < k then .int .i64 (cn L V l n j : Int) else .int .i64 0) ∧ Below w.heap.size w wr) (fun _ i _ => l - (intOf i).toNat)
  case atStart => exact ⟨_, 0, rfl, Nat.zero_le _, rfl, rfl, T2.out, R0.out, B2.out⟩
  case round =>
    clear R0 T2 B2
    obtain ⟨wr, k, rfl, hk, rfl, rfl, ht, hr, hb⟩ := hrel
    have HT := hide ht
    have HR := hide hr
    have HB := hide hb
    clear ht hr hb
    by_cases hlt : k < l
    · obtain ⟨b1, o1, b2, o2, rfl, rfl, q1, q2, _, _⟩ := HA.out.at HB.out hlt
      obtain ⟨R, eR⟩ : ∃ R, Hid (R = rm L V l n k) := ⟨_, hide rfl⟩
      obtain ⟨N, eN⟩ : ∃ N, Hid (N = L k) := ⟨_, hide rfl⟩
      obtain ⟨M, eM⟩ : ∃ M, Hid (M = V k) := ⟨_, hide rfl⟩
      obtain ⟨T, eT⟩ : ∃ T, Hid (T = cn L V l n k) := ⟨_, hide rfl⟩
      rw [← eR.out]
      rw [← eN.out] at q1
      rw [← eM.out] at q2
      have hN1 : 1 ≤ N := by rw [eN.out]; exact (HA.out.eL k hlt).2.1
      have hN2 : N ≤ 2000 := by rw [eN.out]; exact (HA.out.eL k hlt).2.2
      have hM2 : M ≤ 1000000 := by rw [eM.out]; exact (HA.out.eV k hlt).2
      have hRn : R ≤ n := by rw [eR.out]; exact rm_le L V l n k
      have HMo : Hid (Most (Bd L V l (l - 1 - k)) N M R T) := hide (by rw [eN.out, eM.out, eR.out, eT.out]; exact cn_ok (HA.out.eL k hlt).2.1)
      obtain ⟨D, eD⟩ : ∃ D, Hid (D = R / N) := ⟨_, hide rfl⟩
      have hdiv : ((R : Int)).tdiv (N : Int) = (D : Int) := by
        rw [eD.out, Int.tdiv_eq_ediv_of_nonneg (by omega)]; exact (Int.natCast_ediv R N).symm
      have hD2 : D ≤ 2000 := by rw [eD.out]; exact Nat.le_trans (Nat.div_le_self _ _) (by omega)
      obtain ⟨c1A, c1B⟩ := HT.out.at (show k ≤ l by omega) hRn
      obtain ⟨g1, eg1⟩ : ∃ g1, Hid (g1 = rb k) := ⟨_, hide rfl⟩
      obtain ⟨d1, ed1⟩ : ∃ d1, Hid (d1 = rc k) := ⟨_, hide rfl⟩
      obtain ⟨g3, eg3⟩ : ∃ g3, Hid (g3 = rb (k + 1)) := ⟨_, hide rfl⟩
      obtain ⟨d3, ed3⟩ : ∃ d3, Hid (d3 = rc (k + 1)) := ⟨_, hide rfl⟩
      obtain ⟨X, eX⟩ : ∃ X, Hid (X = up (Bd L V l (l - 1 - k)) N M R) := ⟨_, hide rfl⟩
      have hrowk : Hid (Bd L V l (l - k) = up (Bd L V l (l - 1 - k)) N M) := hide (by rw [eN.out, eM.out]; exact bd_row hlt)
      rw [← eg1.out, ← ed1.out] at c1A
      simp only [hrowk.out] at c1B
      rw [← eg1.out, ← eX.out] at c1B
      have hbd : Hid (∀ x, Bd L V l (l - 1 - k) x ≤ 1000000 * x) := hide (bd_le (fun i hi => (HA.out.eL i hi).2.1) (fun i hi => (HA.out.eV i hi).2) _ (by omega))
      have hRow3 : Hid (∀ x, x ≤ n → wr.cell? ⟨O, k + 1, none⟩ = some (.slice (some ⟨g3, 0, none⟩) (n + 1) d3) ∧ wr.cell? ⟨g3, x, none⟩ = some (.int .i64 (Bd L V l (l - 1 - k) x : Int))) := hide (fun x hx => by
        have := HT.out.at (show k + 1 ≤ l by omega) hx
        have e : l - (k + 1) = l - 1 - k := by omega
        rw [← eg3.out, ← ed3.out] at this
        simp only [e] at this
        exact this)
      clear eg1 ed1 eg3 ed3
      go_wp2_with fail
      go_loopw [14] (fun v wx => ∃ (wq : World) (m : Nat), wq = wx ∧ Lk wr wx ∧ v = .int .i64 (m : Int) ∧ T ≤ m ∧ m ≤ D) (fun v _ => (intOf v).toNat)
      case atStart => exact ⟨_, D, rfl, Lk.refl _, rfl, by rw [eD.out]; exact HMo.out.1, Nat.le_refl _⟩
      case round =>
        obtain ⟨wx, m, rfl, hlk, rfl, hTm, hmD⟩ := hrel
        have HK := hide hlk
        clear hlk
        have hmR : m * N ≤ R := mul_le_of_le_div (by rw [← eD.out]; exact hmD)
        obtain ⟨u, eu⟩ : ∃ u, Hid (u = m * N) := ⟨_, hide rfl⟩
        rw [← eu.out] at hmR
        obtain ⟨q, eq⟩ : ∃ q, Hid (q = R - u) := ⟨_, hide rfl⟩
        have hqi : (R : Int) - (u : Int) = (q : Int) := by rw [eq.out]; omega
        have hqn : q ≤ n := by rw [eq.out]; omega
        obtain ⟨sw, es⟩ : ∃ sw, Hid (sw = m * M) := ⟨_, hide rfl⟩
        have hs2 : sw ≤ 2000000000 := by rw [es.out]; exact Nat.le_trans (Nat.mul_le_mul (Nat.le_trans hmD hD2) hM2) (by decide)
        have hu : (m : Int) * (N : Int) = (u : Int) := by rw [eu.out, ← Int.natCast_mul]
        have hs : (m : Int) * (M : Int) = (sw : Int) := by rw [es.out, ← Int.natCast_mul]
        obtain ⟨Y, eY⟩ : ∃ Y, Hid (Y = Bd L V l (l - 1 - k) q) := ⟨_, hide rfl⟩
        have hY : Y ≤ 2000000000 := by rw [eY.out]; have := hbd.out q; omega
        have x1 := HK.out.cell c1A
        have x2 := HK.out.cell c1B
        have x3 := HK.out.cell (hRow3.out q hqn).1
        have x4 := HK.out.cell (hRow3.out q hqn).2
        rw [← eY.out] at x4
        have x5 := HK.out.cell q1
        have x6 := HK.out.cell q2
        by_cases hx : X = sw + Y
        · have hmT : m = T := by
            rcases Nat.lt_or_ge T m with h | h
            · refine absurd ?_ (HMo.out.2.2 m h (by rw [← eD.out]; exact hmD))
              rw [← eX.out, ← es.out, ← eu.out, ← eq.out, ← eY.out]; exact hx
            · omega
          have hxi : (X : Int) = (sw : Int) + (Y : Int) := by omega
          have HmT := hide hmT
          clear hmT hx
          go_wp2_with fail
          refine wp_region_quiet_lit (by kernel_rfl) (by kernel_rfl) ?_
          repeat (go_big_quiet_step (fail))
          refine wpQuiet_nil ?_
          intro w9 hw9
          obtain ⟨nq, rfl⟩ := hw9
          have r9 : (wx.drewN nq).rowIs C 3 l (fun j => if j < k then .int .i64 (cn L V l n j : Int) else .int .i64 0) := (HK.out.drewN nq).row HR.out
          have cC : (wx.drewN nq).cell? ⟨C, k, none⟩ = some (.int .i64 0) := by
            have := r9.cell hlt
            rw [if_neg (by omega)] at this
            exact this
          have fC : (wx.drewN nq).frozen? ⟨C, k, none⟩ = false := r9.frozen k
          have HT9 : Hid (Tbl ((wx.drewN nq).setCell ⟨C, k, none⟩ (.int .i64 (m : Int))) O l n l rb rc (fun j r => Bd L V l (l - j) r)) := hide (((HK.out.drewN nq).tbl HT.out).other (by have := HC.out.1; show O ≠ C; omega) (fun j _ g2 => by have := HC.out.2.1 j g2; show rb j ≠ C; omega) _)
          have HR9 : Hid (((wx.drewN nq).setCell ⟨C, k, none⟩ (.int .i64 (m : Int))).rowIs C 3 l (fun j => if j < k + 1 then .int .i64 (cn L V l n j : Int) else .int .i64 0)) := hide ((r9.set k _).congr fun j hj => by
            by_cases e : j = k
            · subst e
              rw [if_pos rfl, if_pos (by omega), HmT.out, eT.out]
            · rw [if_neg e]
              by_cases e2 : j < k
              · rw [if_pos e2, if_pos (by omega)]
              · rw [if_neg e2, if_neg (by omega)])
          have HB9 : Hid (Below w.heap.size w ((wx.drewN nq).setCell ⟨C, k, none⟩ (.int .i64 (m : Int)))) := hide (((HK.out.drewN nq).below HB.out).setCell (p := ⟨C, k, none⟩) (HC.out.2.2) _)
          have HQ : Hid (q = rm L V l n (k + 1)) := hide (by rw [rm_succ, ← eR.out, ← eT.out, ← eN.out, eq.out, eu.out, HmT.out])
          clear r9
          go_wp2_with fail
          refine ⟨⟨_, k + 1, rfl, by omega, rfl, by rw [HQ.out], HT9.out, HR9.out, HB9.out⟩, ?_⟩
          show l - ((k : Int) + 1).toNat < l - (k : Int).toNat
          omega
        · have hTl : T < m := by
            rcases Nat.lt_or_ge T m with h | h
            · exact h
            · exfalso
              obtain rfl : m = T := by omega
              have := HMo.out.2.1
              rw [← eX.out, ← es.out, ← eu.out, ← eq.out, ← eY.out] at this
              exact hx this
          have hxi : ¬ (X : Int) = (sw : Int) + (Y : Int) := by omega
          clear hx
          go_wp2_with fail
          refine wp_region_quiet_lit (by kernel_rfl) (by kernel_rfl) ?_
          repeat (go_big_quiet_step (fail))
          refine wpQuiet_nil ?_
          intro w9 hw9
          obtain ⟨nq, rfl⟩ := hw9
          go_wp2_with fail
          refine ⟨⟨_, m - 1, rfl, HK.out.drewN nq, by congr 1; omega, by omega, by omega⟩, ?_⟩
          show ((m : Int) - 1).toNat < (m : Int).toNat
          omega
    · obtain rfl : k = l := by omega
      obtain ⟨cA, cB⟩ := HT.out.at (Nat.zero_le k) (Nat.le_refl n)
      obtain ⟨g, eg⟩ : ∃ g, g = rb 0 := ⟨_, rfl⟩
      obtain ⟨cg, ecg⟩ : ∃ cg, cg = rc 0 := ⟨_, rfl⟩
      obtain ⟨Z, eZ⟩ : ∃ Z, Hid (Z = Bd L V k k n) := ⟨_, hide rfl⟩
      rw [← eg, ← ecg] at cA
      rw [← eg, Nat.sub_zero, ← eZ.out] at cB
      have HCn : Hid (∀ j, j < k → wr.cell? ⟨C, j, none⟩ = some (.int .i64 (cn L V k n j : Int))) := hide (fun j hj => by
        have := HR.out.cell hj
        rw [if_pos hj] at this
        exact this)
      clear eg ecg
      go_wp2_with fail
      go_ret3
      exact ⟨C, by rw [eZ.out]; rfl, HCn.out, HB.out⟩
end Go.Proofs.Ytgkonocjafoblaa
