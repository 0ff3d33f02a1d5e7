/- The reference's table. -/
import Derived.Test.YtcakcdolijgjeaaPt
set_option linter.unusedVariables false
namespace Go.Proofs.Ytcakcdolijgjeaa
open Go Go.RowKit Go.Ab
def rwV (rb : Nat → Nat) (r i : Nat) : Value := .slice (some ⟨rb i, 0, none⟩) r r
def rwVs (rb : Nat → Nat) (r k : Nat) : List Value := (List.range k).map (rwV rb r)
theorem rwVs_get (rb : Nat → Nat) (r k i : Nat) (h : i < k) : (rwVs rb r k)[i]? = some (rwV rb r i) := by
  unfold rwVs; rw [List.getElem?_map, List.getElem?_range h]; rfl
theorem rwVs_succ (rb : Nat → Nat) (r k g : Nat) : rwVs rb r k ++ [.slice (some ⟨g, 0, none⟩) r r] = rwVs (fun i => if i = k then g else rb i) r (k + 1) := by
  unfold rwVs
  rw [List.range_succ, List.map_append]
  congr 1
  · apply List.map_congr_left
    intro i hi
    have : i ≠ k := by have := List.mem_range.1 hi; omega
    unfold rwV; simp [this]
  · unfold rwV; simp
def prow (P : Nat → Nat → Int) (i : Nat) (j : Nat) : Value := .int .i64 (P i j)
/-- rows of ints in memory -/
def Tr (w : World) (a : Option Addr) (l r : Nat) (P : Nat → Nat → Int) : Prop := l = 0 ∨ ∃ (g : Nat) (rb : Nat → Nat), a = some ⟨g, 0, none⟩ ∧ ∀ i, i < l → w.cell? ⟨g, i, none⟩ = some (.slice (some ⟨rb i, 0, none⟩) r r) ∧ ∀ j, j < r → w.cell? ⟨rb i, j, none⟩ = some (.int .i64 (P i j))
theorem Tr.below {w w' : World} {a : Option Addr} {l r : Nat} {P : Nat → Nat → Int} (h : Tr w a l r P) (hb : Below w.heap.size w w') : Tr w' a l r P := by
  rcases h with h | ⟨g, rb, e, h⟩
  · exact .inl h
  · exact .inr ⟨g, rb, e, fun i hi => ⟨kc hb (h i hi).1, fun j hj => kc hb ((h i hi).2 j hj)⟩⟩
theorem tr_of_owns {w : World} {B l r : Nat} {v : Value} {rb : Nat → Nat} {P : Nat → Nat → Int} (h : w.ownsRow B 38 1 v l (rwVs rb r l)) (hr : ∀ i, i < l → w.rowIs (rb i) 3 r (prow P i)) : ∃ a cap, v = .slice a l cap ∧ Tr w a l r P := by
  obtain ⟨hl, ⟨rfl, rfl⟩ | ⟨g, cap, cur, rfl, hg, hc, hn, hm, hs, ht⟩⟩ := h
  · exact ⟨none, 0, rfl, .inl rfl⟩
  · refine ⟨_, cap, rfl, .inr ⟨g, rb, rfl, fun i hlt => ?_⟩⟩
    have h' : w.ownsRow B 38 1 (.slice (some ⟨g, 0, none⟩) l cap) l (rwVs rb r l) := ⟨hl, .inr ⟨g, cap, cur, rfl, hg, hc, hn, hm, hs, ht⟩⟩
    exact ⟨by rw [h'.cellAt i (by omega), rwVs_get _ _ _ _ hlt]; rfl, fun j hj => by rw [World.rowIs.cell (hr i hlt) hj]; rfl⟩
theorem rowIs_own_ne {w : World} {B n b m : Nat} {v : Value} {xs : List Value} {f : Nat → Value} (h : w.ownsRow B 38 1 v n xs) (hr : w.rowIs b 3 m f) : some b ≠ v.ownBlock := by
  intro e
  obtain ⟨hl, ⟨rfl, rfl⟩ | ⟨g, cap, cur, rfl, hg, hc, _⟩⟩ := h
  · cases e
  · injection e with e
    subst e
    obtain ⟨c, hb, _⟩ := hr
    rw [hc] at hb
    cases hb
theorem Try.info3 : (Try.prog.info? 3).map (fun i => (i.zero, i.size, i.bytes)) = some (some (.int .i64 0), 1, 8) := by kernel_rfl
theorem Try.info38 : (Try.prog.info? 38).map (fun i => (i.zero, i.size, i.bytes)) = some (some (.slice none 0 0), 1, 24) := by kernel_rfl
theorem Bx8.keep {W W' : World} {n B : Nat} {a b c d p q r s : Int} (h : Bx8 W n a b c d p q r s) (hb : Below B W W') (hn : n < B) : Bx8 W' n a b c d p q r s := by
  have f : ∀ i, W'.cell? ⟨n, i, none⟩ = W.cell? ⟨n, i, none⟩ := fun i => hb.cell hn
  exact ⟨⟨⟨by rw [f]; exact h.1.1.1, by rw [f]; exact h.1.1.2⟩, by rw [f]; exact h.1.2.1, by rw [f]; exact h.1.2.2⟩, ⟨by rw [f]; exact h.2.1.1, by rw [f]; exact h.2.1.2⟩, by rw [f]; exact h.2.2.1, by rw [f]; exact h.2.2.2⟩
/-- a row that is filled up to j -/
def rowU (P : Nat → Int) (j : Nat) (x : Nat) : Value := .int .i64 (if x < j then P x else 0)
set_option maxRecDepth 20000 in
set_option maxHeartbeats 8000000 in
theorem table_is (a b : Option Addr) (l r c d : Nat) (gl gr : Nat → G4) (u m : G4) (w : World) (hs : Gs w a l gl) (ht : Gs w b r gr) (hg : goodB gl gr l r u m = true) :
    Calls Try.prog 67 #[.slice a l c, .slice b r d, uVal u m] w fun e w' => ∃ t cap, e = .returned (.slice t l cap) ∧ Tr w' t l r (fun i j => prc u m (gl i) (gr j)) ∧ Below w.heap.size w w' := by
  obtain ⟨i38, hi38, hz38, hs38, hb38⟩ := info_parts Try.info38
  have H1 := hide hs
  have H2 := hide ht
  have HG := hide (goodB_get hg)
  have h32 : l ≤ 32 := (handsB_get HG.out.1.1).2
  have r32 : r ≤ 32 := (handsB_get HG.out.1.2).2
  unfold uVal
  obtain ⟨w0, w1, w2, w3⟩ := u
  obtain ⟨m0, m1, m2, m3⟩ := m
  simp only at HG ⊢
  have H8 := hide (bx8_new w w0 w1 w2 w3 m0 m1 m2 m3 25)
  have HB0 := hide (ba w (.cells #[.int .i64 w0, .int .i64 w1, .int .i64 w2, .int .i64 w3, .int .i64 m0, .int .i64 m1, .int .i64 m2, .int .i64 m3] 25))
  have hmk : ∀ w, (Instr.makeSlice 38 (.int .i64 (r : Int)) (.int .i64 (r : Int))).run Try.prog w = .ok (.slice (some ⟨w.heap.size, 0, none⟩) r r) (w.alloc (.cells (madeCells #[.int .i64 0] r) 3)) := fun w => run_make_row' 38 3 _ 8 Try.underlying38 Try.info3 rfl .i64 .i64 r (by omega) (by omega) w
  have O0 : Hid ((w.alloc (.cells #[.int .i64 w0, .int .i64 w1, .int .i64 w2, .int .i64 w3, .int .i64 m0, .int .i64 m1, .int .i64 m2, .int .i64 m3] 25)).ownsRow (w.heap.size + 1) 38 1 (.slice none 0 0) 0 (rwVs (fun _ => 0) r 0)) := hide ⟨rfl, .inl ⟨rfl, rfl⟩⟩
  go_enter Try.func67, Try.ntmps67
  go_wp2_with fail
  go_loopw [7, 15] (fun v i wr => ∃ (v7 : Value) (wq : World) (k : Nat), v7 = v ∧ wq = wr ∧ k ≤ l ∧ i = .int .i64 k ∧ (∃ rb, Hid (wr.ownsRow (w.heap.size + 1) 38 1 v k (rwVs rb r k) ∧ ∀ i, i < k → wr.rowIs (rb i) 3 r (prow (fun i j => prc (w0, w1, w2, w3) (m0, m1, m2, m3) (gl i) (gr j)) i))) ∧ Bx8 wr w.heap.size w0 w1 w2 w3 m0 m1 m2 m3 ∧ Below w.heap.size w wr) (fun _ i _ => l - (intOf i).toNat)
  case atStart => exact ⟨_, _, 0, rfl, rfl, Nat.zero_le _, rfl, ⟨fun _ => 0, hide ⟨O0.out, fun i hi => by omega⟩⟩, H8.out, HB0.out⟩
  case round =>
    clear O0 H8 HB0
    obtain ⟨v7, wr, k, rfl, rfl, hk, rfl, ⟨rb, HO⟩, hX, hB⟩ := hrel
    have HX := hide hX
    have HB := hide hB
    clear hX hB
    by_cases hlt : k < l
    · obtain ⟨b1, off, rfl, hc⟩ : ∃ b off, a = some ⟨b, off, none⟩ ∧ GsAt w b off l gl := by
        rcases H1.out with h | h
        · omega
        · exact h
      have c0 := kc HB.out (hc k hlt).1.1
      have c1 := kc HB.out (hc k hlt).1.2
      have c2 := kc HB.out (hc k hlt).2.1
      have c3 := kc HB.out (hc k hlt).2.2
      have hgk : Hid (gOk (gl k) = true) := hide (allG_get (handsB_get HG.out.1.1).1 k hlt)
      clear hc
      have A4 := hide (bx4_new wr (gl k).1 (gl k).2.1 (gl k).2.2.1 (gl k).2.2.2 23)
      have HBa := hide (ba wr (.cells #[.int .i64 (gl k).1, .int .i64 (gl k).2.1, .int .i64 (gl k).2.2.1, .int .i64 (gl k).2.2.2] 23))
      go_wp2_with fail
      clear c0 c1 c2 c3
      have HRow : Hid (((wr.alloc (.cells #[.int .i64 (gl k).1, .int .i64 (gl k).2.1, .int .i64 (gl k).2.2.1, .int .i64 (gl k).2.2.2] 23)).alloc (.cells (madeCells #[.int .i64 0] r) 3)).rowIs (wr.heap.size + 1) 3 r (rowU (fun j => prc (w0, w1, w2, w3) (m0, m1, m2, m3) (gl k) (gr j)) 0)) := hide (by
        have := World.rowIs_made (wr.alloc (.cells #[.int .i64 (gl k).1, .int .i64 (gl k).2.1, .int .i64 (gl k).2.2.1, .int .i64 (gl k).2.2.2] 23)) (.int .i64 0) r 3
        rw [show (wr.alloc (.cells #[.int .i64 (gl k).1, .int .i64 (gl k).2.1, .int .i64 (gl k).2.2.1, .int .i64 (gl k).2.2.2] 23)).heap.size = wr.heap.size + 1 by simp] at this
        exact this.congr (fun i _ => by unfold rowU; rw [if_neg (by omega)]))
      have hba := ba (wr.alloc (.cells #[.int .i64 (gl k).1, .int .i64 (gl k).2.1, .int .i64 (gl k).2.2.1, .int .i64 (gl k).2.2.2] 23)) (.cells (madeCells #[.int .i64 0] r) 3)
      have HA5 := hide (A4.out.below hba)
      have HB5 := hide (bt HBa.out hba)
      clear hba A4 HBa
      generalize (wr.alloc (.cells #[.int .i64 (gl k).1, .int .i64 (gl k).2.1, .int .i64 (gl k).2.2.1, .int .i64 (gl k).2.2.2] 23)).alloc (.cells (madeCells #[.int .i64 0] r) 3) = W5 at *
      obtain ⟨A, hA⟩ : ∃ A, wr.heap.size = A := ⟨_, rfl⟩
      obtain ⟨R, hR⟩ : ∃ R, A + 1 = R := ⟨_, rfl⟩
      rw [hA] at HA5 HRow ⊢
      rw [hR] at HRow ⊢
      go_loopw [24] (fun i wx => ∃ (wq : World) (j : Nat), wq = wx ∧ j ≤ r ∧ i = .int .i64 j ∧ wx.rowIs R 3 r (rowU (fun j => prc (w0, w1, w2, w3) (m0, m1, m2, m3) (gl k) (gr j)) j) ∧ Bx4 wx A (gl k).1 (gl k).2.1 (gl k).2.2.1 (gl k).2.2.2 ∧ Below wr.heap.size wr wx) (fun i _ => r - (intOf i).toNat)
      case atStart => exact ⟨_, 0, rfl, Nat.zero_le _, rfl, HRow.out, HA5.out, HB5.out⟩
      case round =>
        clear HRow HA5 HB5
        obtain ⟨wx, j, rfl, hj, rfl, hRw, hA4, hB⟩ := hrel
        have HRw := hide hRw
        have HA := hide hA4
        have HBx := hide hB
        clear hRw hA4 hB
        by_cases hlj : j < r
        · obtain ⟨b2, off2, rfl, hd⟩ : ∃ b2 off, b = some ⟨b2, off, none⟩ ∧ GsAt w b2 off r gr := by
            rcases H2.out with h | h
            · omega
            · exact h
          have d0 := kc (bt HB.out HBx.out) (hd j hlj).1.1
          have d1 := kc (bt HB.out HBx.out) (hd j hlj).1.2
          have d2 := kc (bt HB.out HBx.out) (hd j hlj).2.1
          have d3 := kc (bt HB.out HBx.out) (hd j hlj).2.2
          have hgj : Hid (gOk (gr j) = true) := hide (allG_get (handsB_get HG.out.1.2).1 j hlj)
          have hjr : (j : Int) < (r : Int) := by omega
          have hb2 := ba wx (.cells #[.int .i64 (gr j).1, .int .i64 (gr j).2.1, .int .i64 (gr j).2.2.1, .int .i64 (gr j).2.2.2] 23)
          have HRw2 : Hid ((wx.alloc (.cells #[.int .i64 (gr j).1, .int .i64 (gr j).2.1, .int .i64 (gr j).2.2.1, .int .i64 (gr j).2.2.2] 23)).rowIs R 3 r (rowU (fun j => prc (w0, w1, w2, w3) (m0, m1, m2, m3) (gl k) (gr j)) j)) := hide (World.rowIs.alloc HRw.out _)
          have HA2 := hide (HA.out.below hb2)
          have HB2 := hide (bt HBx.out hb2)
          have HX2 := hide (HX.out.below HB2.out)
          clear HRw HA HBx hd hb2
          obtain ⟨⟨e0, e1⟩, e2, e3⟩ := HA2.out
          obtain ⟨⟨⟨q0, q1⟩, q2, q3⟩, ⟨r0, r1⟩, r2, r3⟩ := HX2.out
          have K48 := hide (fun W => price_is (w0, w1, w2, w3) (m0, m1, m2, m3) (gl k) (gr j) W HG.out.2.1 HG.out.2.2 hgk.out hgj.out)
          unfold uVal gVal at K48
          simp only at K48
          obtain ⟨P, hP⟩ : ∃ P, Hid (P = prc (w0, w1, w2, w3) (m0, m1, m2, m3) (gl k) (gr j)) := ⟨_, hide rfl⟩
          rw [← hP.out] at K48
          go_wp2_with fail
          refine (K48.out _).mono ?_
          rintro e W7 ⟨rfl, hb⟩
          have HRw3 : Hid (W7.rowIs R 3 r (rowU (fun j => prc (w0, w1, w2, w3) (m0, m1, m2, m3) (gl k) (gr j)) j)) := hide (World.rowIs.of_block HRw2.out (hb.block R (World.rowIs.lt HRw2.out)))
          have HA3 := hide (HA2.out.below hb)
          have HB3 := hide (bt HB2.out hb)
          clear hb e0 e1 e2 e3 q0 q1 q2 q3 r0 r1 r2 r3 d0 d1 d2 d3 HRw2 HA2 HB2 HX2
          have cr := World.rowIs.cell HRw3.out hlj
          have fr := World.rowIs.frozen HRw3.out j
          go_wp2_with fail
          go_roundw
          case rel =>
            refine ⟨_, j + 1, rfl, by omega, by go_num, World.rowIs.congr (World.rowIs.set HRw3.out j _) (fun x _ => ?_), HA3.out.put (by omega), HB3.out.setCell (by rw [hA]; show A ≤ R; omega) _⟩
            unfold rowU
            by_cases e : x = j
            · subst e
              rw [if_pos rfl, if_pos (by omega), hP.out]
            · rw [if_neg e]
              by_cases e2 : x < j
              · rw [if_pos e2, if_pos (by omega)]
              · rw [if_neg e2, if_neg (by omega)]
          case measure => simp [intOf]; omega
        · obtain rfl : j = r := by omega
          have hRn : wr.heap.size ≤ R := by omega
          have HO2 : Hid (wx.ownsRow (w.heap.size + 1) 38 1 v7 k (rwVs rb j k)) := hide (owns_below HO.out.1 HBx.out)
          have HR2 : Hid (∀ i, i < k → wx.rowIs (rb i) 3 j (prow (fun i j => prc (w0, w1, w2, w3) (m0, m1, m2, m3) (gl i) (gr j)) i)) := hide (fun i hi => World.rowIs.of_block (HO.out.2 i hi) (HBx.out.block _ (World.rowIs.lt (HO.out.2 i hi))))
          have HX2 := hide (HX.out.below HBx.out)
          have HBy := hide (bt HB.out HBx.out)
          have hbs : Hid (w.heap.size + 1 ≤ wx.heap.size) := hide (World.block_lt_of_cell? _ _ HX2.out.1.1.1)
          go_wp2_with (at_builtin; refine wpList_append_own _ rfl _ _ 88 rfl (w.heap.size + 1) 38 i38 (.slice none 0 0) 1 24 Try.underlying88 hi38 hz38 hs38 hb38 rfl (by decide) _ _ _ rfl (HO2.out.alloc _) ⟨wx.heap.size, 0, none⟩ 1 1 [.slice (some ⟨R, 0, none⟩) j j] rfl rfl ?f1 ?f2 ?f3 ?f4 ?f5 ?_)
          case f1 =>
            intro j u hj
            match j, hj with
            | 0, hj => simp at hj; subst hj; simp [Addr.add]
          case f2 => intro u hu; simp at hu; subst hu; rfl
          case f3 => unfold maxLen; omega
          case f4 => omega
          case f5 => simp; have := hbs.out; omega
          intro v' w8 hown' hgrow _
          have hfar : ∀ (bb mm : Nat) (ff : Nat → Value), wx.rowIs bb 3 mm ff → w8.rowIs bb 3 mm ff := fun bb mm ff h => by
            have h2 := World.rowIs.alloc h (.cells #[.slice (some ⟨R, 0, none⟩) j j] 38)
            exact World.rowIs.of_block h2 (hgrow.block bb (World.rowIs.lt h2) (rowIs_own_ne (HO2.out.alloc _) h2))
          have HO8 : Hid (w8.ownsRow (w.heap.size + 1) 38 1 v' (k + 1) (rwVs (fun i => if i = k then R else rb i) j (k + 1)) ∧ ∀ i, i < k + 1 → w8.rowIs ((fun i => if i = k then R else rb i) i) 3 j (prow (fun i j => prc (w0, w1, w2, w3) (m0, m1, m2, m3) (gl i) (gr j)) i)) := hide ⟨by rw [← rwVs_succ]; exact hown', fun i hi => by
            by_cases e : i = k
            · subst e
              simp only [if_true]
              exact World.rowIs.congr (hfar _ _ _ HRw.out) (fun x hx => by unfold rowU prow; rw [if_pos hx])
            · simp only [if_neg e]
              exact hfar _ _ _ (HR2.out i (by omega))⟩
          have hlt2 : w.heap.size ≤ wx.heap.size := by have := hbs.out; omega
          have HB8 := hide ((HBy.out.alloc hlt2 (.cells #[.slice (some ⟨R, 0, none⟩) j j] 38)).grown hgrow (by simp; omega) (fun q hq => by have := (HO2.out.lt q hq).1; omega))
          have HX8 : Hid (Bx8 w8 w.heap.size w0 w1 w2 w3 m0 m1 m2 m3) := hide (HX2.out.keep (((Below.refl (w.heap.size + 1) wx).alloc hbs.out (.cells #[.slice (some ⟨R, 0, none⟩) j j] 38)).grown hgrow (by simp; have := hbs.out; omega) (fun q hq => (HO2.out.lt q hq).1)) (Nat.lt_succ_self _))
          clear hown' hgrow hfar
          go_wp2_with fail
          go_roundw
          case rel => exact ⟨_, _, k + 1, rfl, rfl, by omega, by go_num, ⟨_, HO8⟩, HX8.out, HB8.out⟩
          case measure => simp [intOf]; omega
    · obtain rfl : k = l := by omega
      obtain ⟨t, cap, e, hT⟩ := tr_of_owns HO.out.1 HO.out.2
      subst e
      go_wp2_with fail
      go_ret
      exact ⟨t, cap, rfl, hT, HB.out⟩
end Go.Proofs.Ytcakcdolijgjeaa
