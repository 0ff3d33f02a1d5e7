/- The table of two sides: open. -/
import Derived.Test.YtcakcdolijgjeaaPj
import Derived.Deep.OwnRows
set_option linter.unusedVariables false
namespace Go.Proofs.Ytcakcdolijgjeaa
open Go Go.RowKit Go.Ab
/-- the worth of a pair; 0: it is not allowed -/
def wth (u m : G4) (gl gr : Nat → G4) (l r i j : Nat) : Int := if i < l ∧ j < r ∧ 0 ≤ prc u m (gl i) (gr j) then 1000000000 - prc u m (gl i) (gr j) else 0
/-- a table's cells -/
def tcel (l r : Nat) (f : Nat → Nat → Int) (o : Nat) : Value := if o = 0 then .int .i64 (l : Int) else if o = 1 then .int .i64 (r : Int) else .int .i64 (f ((o - 2) / 32) ((o - 2) % 32))
def Tb (w : World) (T l r : Nat) (f : Nat → Nat → Int) : Prop := w.rowIs T 108 1026 (tcel l r f)
theorem Tb.below {w w' : World} {T l r : Nat} {f : Nat → Nat → Int} (h : Tb w T l r f) (hb : Below w.heap.size w w') : Tb w' T l r f := World.rowIs.of_block h (hb.block T (World.rowIs.lt h))
theorem Tb.lefts {w : World} {T l r : Nat} {f : Nat → Nat → Int} (h : Tb w T l r f) : w.cell? ⟨T, 0, none⟩ = some (.int .i64 (l : Int)) := by rw [World.rowIs.cell h (by omega)]; rfl
theorem Tb.rights {w : World} {T l r : Nat} {f : Nat → Nat → Int} (h : Tb w T l r f) : w.cell? ⟨T, 1, none⟩ = some (.int .i64 (r : Int)) := by rw [World.rowIs.cell h (by omega)]; rfl
theorem tcel_at (l r : Nat) (f : Nat → Nat → Int) {i j : Nat} (hj : j < 32) : tcel l r f (2 + i * 32 + j) = .int .i64 (f i j) := by
  unfold tcel
  rw [if_neg (by omega), if_neg (by omega), show (2 + i * 32 + j - 2) / 32 = i by omega, show (2 + i * 32 + j - 2) % 32 = j by omega]
theorem Tb.at {w : World} {T l r : Nat} {f : Nat → Nat → Int} (h : Tb w T l r f) {i j : Nat} (hi : i < 32) (hj : j < 32) : w.cell? ⟨T, 2 + i * 32 + j, none⟩ = some (.int .i64 (f i j)) := by
  rw [World.rowIs.cell h (by omega), tcel_at l r f hj]
theorem Tb.frozen {w : World} {T l r : Nat} {f : Nat → Nat → Int} (h : Tb w T l r f) (o : Nat) : w.frozen? ⟨T, o, none⟩ = false := World.rowIs.frozen h o
theorem Tb.put {w : World} {T l r : Nat} {f : Nat → Nat → Int} (h : Tb w T l r f) {i j : Nat} (hj : j < 32) (v : Int) : Tb (w.setCell ⟨T, 2 + i * 32 + j, none⟩ (.int .i64 v)) T l r (fun x y => if x = i ∧ y = j then v else f x y) :=
  (World.rowIs.set h (2 + i * 32 + j) _).congr fun o ho => by
    by_cases e : o = 2 + i * 32 + j
    · subst e
      rw [if_pos rfl, tcel_at _ _ _ hj, if_pos ⟨rfl, rfl⟩]
    · rw [if_neg e]
      unfold tcel
      by_cases e0 : o = 0
      · rw [if_pos e0, if_pos e0]
      · rw [if_neg e0, if_neg e0]
        by_cases e1 : o = 1
        · rw [if_pos e1, if_pos e1]
        · rw [if_neg e1, if_neg e1]
          show _ = Value.int .i64 (if (o - 2) / 32 = i ∧ (o - 2) % 32 = j then v else f ((o - 2) / 32) ((o - 2) % 32))
          rw [if_neg (fun h => e (by omega))]
theorem Tb.ext {w : World} {T l r : Nat} {f g : Nat → Nat → Int} (h : Tb w T l r f) (e : ∀ i j, i < 32 → j < 32 → f i j = g i j) : Tb w T l r g :=
  World.rowIs.congr h fun o ho => by
    unfold tcel
    by_cases e0 : o = 0
    · rw [if_pos e0, if_pos e0]
    · by_cases e1 : o = 1
      · rw [if_neg e0, if_neg e0, if_pos e1, if_pos e1]
      · rw [if_neg e0, if_neg e0, if_neg e1, if_neg e1, e _ _ (by omega) (by omega)]
noncomputable abbrev tabA (l r : Int) : Array Value := (Try.zeroCells108.setIfInBounds 0 (.int .i64 l)).setIfInBounds 1 (.int .i64 r)
theorem zeros108 : Try.zeroCells108 = ⟨List.replicate 1026 (.int .i64 0)⟩ := by kernel_rfl
theorem tabA_size (l r : Int) : (tabA l r).size = 1026 := by
  unfold tabA
  rw [Array.size_setIfInBounds, Array.size_setIfInBounds, zeros108]
  show (List.replicate 1026 (Value.int .i64 0)).length = 1026
  rw [List.length_replicate]
theorem tabA_get (l r : Nat) (i : Nat) (hi : i < (tabA (l : Int) (r : Int)).size) : (tabA (l : Int) (r : Int))[i]? = some (tcel l r (fun _ _ => 0) i) := by
  rw [tabA_size] at hi
  have hz : Try.zeroCells108.size = 1026 := by
    rw [zeros108]
    show (List.replicate 1026 (Value.int .i64 0)).length = 1026
    rw [List.length_replicate]
  have hg : Try.zeroCells108[i]? = some (.int .i64 0) := by
    rw [zeros108, List.getElem?_toArray, List.getElem?_replicate, if_pos hi]
  unfold tabA tcel
  rw [Array.getElem?_setIfInBounds, Array.getElem?_setIfInBounds, Array.size_setIfInBounds, hz, hg]
  by_cases e0 : i = 0
  · subst e0; simp
  · by_cases e1 : i = 1
    · subst e1; simp
    · rw [if_neg (fun h => e1 h.symm), if_neg (fun h => e0 h.symm), if_neg e0, if_neg e1]
theorem tabA_tb (w : World) (l r : Nat) : Tb (w.alloc (.cells (tabA (l : Int) (r : Int)) 108)) w.heap.size l r (fun _ _ => 0) := by
  have := World.rowIs_alloc w (tabA (l : Int) (r : Int)) 108 (tcel l r fun _ _ => 0) (tabA_get l r)
  rw [tabA_size] at this
  exact this
theorem Bx4.put {W : World} {n T o : Nat} {a b c d : Int} {v : Value} (h : Bx4 W n a b c d) (hn : n ≠ T) : Bx4 (W.setCell ⟨T, o, none⟩ v) n a b c d := by
  have f : ∀ i, (W.setCell ⟨T, o, none⟩ v).cell? ⟨n, i, none⟩ = W.cell? ⟨n, i, none⟩ := fun i => World.cell?_setCell_other _ _ _ _ (fun e => hn (by injection e with e1; exact e1.symm))
  exact ⟨⟨by rw [f]; exact h.1.1, by rw [f]; exact h.1.2⟩, by rw [f]; exact h.2.1, by rw [f]; exact h.2.2⟩
theorem Bx8.put {W : World} {n T o : Nat} {a b c d p q r s : Int} {v : Value} (h : Bx8 W n a b c d p q r s) (hn : n ≠ T) : Bx8 (W.setCell ⟨T, o, none⟩ v) n a b c d p q r s := by
  have f : ∀ i, (W.setCell ⟨T, o, none⟩ v).cell? ⟨n, i, none⟩ = W.cell? ⟨n, i, none⟩ := fun i => World.cell?_setCell_other _ _ _ _ (fun e => hn (by injection e with e1; exact e1.symm))
  exact ⟨h.1.put hn, ⟨by rw [f]; exact h.2.1.1, by rw [f]; exact h.2.1.2⟩, by rw [f]; exact h.2.2.1, by rw [f]; exact h.2.2.2⟩
/-- a table that is filled up to a pair -/
def part (f : Nat → Nat → Int) (k j : Nat) (x y : Nat) : Int := if x < k ∨ (x = k ∧ y < j) then f x y else 0
set_option maxRecDepth 20000 in
set_option maxHeartbeats 4000000 in
theorem open_good (a b : Option Addr) (l r c d : Nat) (gl gr : Nat → G4) (u m : G4) (w : World) (hs : Gs w a l gl) (ht : Gs w b r gr) (hl : l ≤ 34) (hr : r ≤ 34) (hg : goodB gl gr l r u m = true) :
    Calls Try.prog 68 #[.slice a l c, .slice b r d, uVal u m] w fun e w' => ∃ T, e = .returned (.tuple #[.pointer (some ⟨T, 0, none⟩), .bool true]) ∧ Tb w' T l r (wth u m gl gr l r) ∧ Below w.heap.size w w' := by
  have H1 := hide hs
  have H2 := hide ht
  have HG := hide (goodB_get hg)
  clear hs ht hg
  unfold uVal
  obtain ⟨w0, w1, w2, w3⟩ := u
  obtain ⟨m0, m1, m2, m3⟩ := m
  have H8 := hide (bx8_new w w0 w1 w2 w3 m0 m1 m2 m3 32)
  have HB0 := hide (ba w (.cells #[.int .i64 w0, .int .i64 w1, .int .i64 w2, .int .i64 w3, .int .i64 m0, .int .i64 m1, .int .i64 m2, .int .i64 m3] 32))
  go_enter Try.func68, Try.ntmps68
  go_wp2_with fail
  refine (hands_is a l c gl _ (H1.out.below HB0.out) hl).mono ?_
  rintro e W1 ⟨rfl, hb⟩
  have HB := hide (bt HB0.out hb)
  have HX := hide (H8.out.below hb)
  clear hb H8 HB0
  rw [HG.out.1.1]
  go_wp2_with fail
  refine (hands_is b r d gr _ (H2.out.below HB.out) hr).mono ?_
  rintro e W2 ⟨rfl, hb⟩
  have HB2 := hide (bt HB.out hb)
  have HX2 := hide (HX.out.below hb)
  clear hb HX HB
  rw [HG.out.1.2]
  obtain ⟨⟨⟨q0, q1⟩, q2, q3⟩, ⟨r0, r1⟩, r2, r3⟩ := HX2.out
  go_wp2_with fail
  refine (ruleOk_is _ _ _ _ _ _ _ _ _).mono ?_
  rintro e W3 ⟨rfl, hb⟩
  have HB3 := hide (bt HB2.out hb)
  have HX3 := hide (HX2.out.below hb)
  clear hb HX2 HB2 q0 q1 q2 q3 r0 r1 r2 r3
  rw [show (okG w0 w1 w2 w3 && okG m0 m1 m2 m3) = true by have h1 := HG.out.2.1; have h2 := HG.out.2.2; unfold gOk at h1 h2; simp only at h1 h2; rw [h1, h2]; rfl]
  go_wp2_with fail
  have HT := hide (tabA_tb W3 l r)
  have HB4 := hide (bt HB3.out (ba W3 (.cells (tabA (l : Int) (r : Int)) 108)))
  have HX4 := hide (HX3.out.below (ba W3 (.cells (tabA (l : Int) (r : Int)) 108)))
  have hle : Hid (w.heap.size < W3.heap.size) := hide (World.block_lt_of_cell? W3 _ HX3.out.1.1.1)
  have h32 : l ≤ 32 := (handsB_get HG.out.1.1).2
  have r32 : r ≤ 32 := (handsB_get HG.out.1.2).2
  clear HB3 HX3
  generalize W3.alloc (.cells (tabA (l : Int) (r : Int)) 108) = W4 at *
  generalize W3.heap.size = T at *
  go_loopw [36] (fun i wr => ∃ (wq : World) (k : Nat), wq = wr ∧ k ≤ l ∧ i = .int .i64 k ∧ Tb wr T l r (part (wth (w0, w1, w2, w3) (m0, m1, m2, m3) gl gr l r) k 0) ∧ Bx8 wr w.heap.size w0 w1 w2 w3 m0 m1 m2 m3 ∧ Below w.heap.size w wr) (fun i _ => l - (intOf i).toNat)
  case atStart => exact ⟨_, 0, rfl, Nat.zero_le _, rfl, HT.out.ext (fun i j hi hj => by unfold part; rw [if_neg (by omega)]), HX4.out, HB4.out⟩
  case round =>
    clear HT HX4 HB4
    obtain ⟨wr, k, rfl, hk, rfl, hT, hX, hB⟩ := hrel
    have HT := hide hT
    have HX := hide hX
    have HB := hide hB
    clear hT hX hB
    by_cases hlt : k < l
    · obtain ⟨b1, off, rfl, hc⟩ : ∃ b off, a = some ⟨b, off, none⟩ ∧ GsAt w b off l gl := by
        rcases H1.out with h | h
        · omega
        · exact h
      have c0 := kc HB.out (hc k hlt).1.1
      have c1 := kc HB.out (hc k hlt).1.2
      have c2 := kc HB.out (hc k hlt).2.1
      have c3 := kc HB.out (hc k hlt).2.2
      have hgk : Hid (gOk (gl k) = true) := hide (allG_get (handsB_get HG.out.1.1).1 k hlt)
      have A4 := hide (bx4_new wr (gl k).1 (gl k).2.1 (gl k).2.2.1 (gl k).2.2.2 29)
      have HTa := hide (HT.out.below (ba wr (.cells #[.int .i64 (gl k).1, .int .i64 (gl k).2.1, .int .i64 (gl k).2.2.1, .int .i64 (gl k).2.2.2] 29)))
      have HXa := hide (HX.out.below (ba wr (.cells #[.int .i64 (gl k).1, .int .i64 (gl k).2.1, .int .i64 (gl k).2.2.1, .int .i64 (gl k).2.2.2] 29)))
      have HBa := hide (bt HB.out (ba wr (.cells #[.int .i64 (gl k).1, .int .i64 (gl k).2.1, .int .i64 (gl k).2.2.1, .int .i64 (gl k).2.2.2] 29)))
      have hTA : Hid (T < wr.heap.size) := hide (World.rowIs.lt HT.out)
      have hk32 : (k : Int) < 32 := by omega
      clear HT HX HB hc
      go_wp2_with fail
      clear c0 c1 c2 c3
      generalize wr.alloc (.cells #[.int .i64 (gl k).1, .int .i64 (gl k).2.1, .int .i64 (gl k).2.2.1, .int .i64 (gl k).2.2.2] 29) = W5 at *
      generalize wr.heap.size = A at *
      go_loopw [43] (fun i wx => ∃ (wq : World) (j : Nat), wq = wx ∧ j ≤ r ∧ i = .int .i64 j ∧ Tb wx T l r (part (wth (w0, w1, w2, w3) (m0, m1, m2, m3) gl gr l r) k j) ∧ Bx8 wx w.heap.size w0 w1 w2 w3 m0 m1 m2 m3 ∧ Bx4 wx A (gl k).1 (gl k).2.1 (gl k).2.2.1 (gl k).2.2.2 ∧ Below w.heap.size w wx) (fun i _ => r - (intOf i).toNat)
      case atStart => exact ⟨_, 0, rfl, Nat.zero_le _, rfl, HTa.out, HXa.out, A4.out, HBa.out⟩
      case round =>
        clear HTa HXa A4 HBa
        obtain ⟨wx, j, rfl, hj, rfl, hT, hX, hA, hB⟩ := hrel
        have HT := hide hT
        have HX := hide hX
        have HA := hide hA
        have HB := hide hB
        clear hT hX hA hB
        by_cases hlj : j < r
        · obtain ⟨b2, off2, rfl, hd⟩ : ∃ b2 off, b = some ⟨b2, off, none⟩ ∧ GsAt w b2 off r gr := by
            rcases H2.out with h | h
            · omega
            · exact h
          have d0 := kc HB.out (hd j hlj).1.1
          have d1 := kc HB.out (hd j hlj).1.2
          have d2 := kc HB.out (hd j hlj).2.1
          have d3 := kc HB.out (hd j hlj).2.2
          have hgj : Hid (gOk (gr j) = true) := hide (allG_get (handsB_get HG.out.1.2).1 j hlj)
          have hj32 : (j : Int) < 32 := by omega
          have B4 := hide (bx4_new wx (gr j).1 (gr j).2.1 (gr j).2.2.1 (gr j).2.2.2 29)
          have hb2 := ba wx (.cells #[.int .i64 (gr j).1, .int .i64 (gr j).2.1, .int .i64 (gr j).2.2.1, .int .i64 (gr j).2.2.2] 29)
          have HT2 := hide (HT.out.below hb2)
          have HX2 := hide (HX.out.below hb2)
          have HA2 := hide (HA.out.below hb2)
          have HB2 := hide (bt HB.out hb2)
          clear HT HX HA HB hd hb2
          obtain ⟨⟨e0, e1⟩, e2, e3⟩ := HA2.out
          obtain ⟨⟨⟨q0, q1⟩, q2, q3⟩, ⟨r0, r1⟩, r2, r3⟩ := HX2.out
          go_wp2_with fail
          generalize wx.alloc (.cells #[.int .i64 (gr j).1, .int .i64 (gr j).2.1, .int .i64 (gr j).2.2.1, .int .i64 (gr j).2.2.2] 29) = W6 at *
          clear e0 e1 e2 e3 q0 q1 q2 q3 r0 r1 r2 r3 d0 d1 d2 d3
          have HP := hide (prc_in (w := (w0, w1, w2, w3)) (m := (m0, m1, m2, m3)) HG.out.2.1 hgk.out hgj.out)
          by_cases h0 : 0 ≤ prc (w0, w1, w2, w3) (m0, m1, m2, m3) (gl k) (gr j)
          · have HC := hide (cost_yes (w0, w1, w2, w3) (m0, m1, m2, m3) (gl k) (gr j) W6 HG.out.2.1 HG.out.2.2 hgk.out hgj.out h0)
            obtain ⟨D, hD⟩ : ∃ D, Hid (D = prc (w0, w1, w2, w3) (m0, m1, m2, m3) (gl k) (gr j)) := ⟨_, hide rfl⟩
            rw [← hD.out] at HC HP h0
            have hw : IntKind.i64.wrap (1000000000 - D) = 1000000000 - D := IntWalk.i64_in _ (by have := HP.out; omega)
            refine HC.out.mono ?_
            rintro e w1' ⟨rfl, hb⟩
            have HT3 := hide (HT2.out.below hb)
            have HX3 := hide (HX2.out.below hb)
            have HA3 := hide (HA2.out.below hb)
            have HB3 := hide (bt HB2.out hb)
            clear hb HC
            have ct := HT3.out.at (i := k) (j := j) (by omega) (by omega)
            have ft := HT3.out.frozen (2 + k * 32 + j)
            go_wp2_with fail
            go_roundw
            case rel =>
              have hn1 : w.heap.size ≠ T := Nat.ne_of_lt hle.out
              have hn2 : A ≠ T := Nat.ne_of_gt hTA.out
              refine ⟨_, j + 1, rfl, by omega, by go_num, ((HT3.out.put (i := k) (j := j) (by omega) (1000000000 - D)).ext (fun x y hx hy => ?_)), ?_, ?_, ?_⟩
              · unfold part
                by_cases e1 : x = k ∧ y = j
                · rw [if_pos e1, if_pos (by omega)]
                  obtain ⟨rfl, rfl⟩ := e1
                  unfold wth
                  rw [if_pos ⟨by omega, by omega, by rw [← hD.out]; exact h0⟩, hD.out]
                · rw [if_neg e1]
                  by_cases e2 : x < k ∨ (x = k ∧ y < j)
                  · rw [if_pos e2, if_pos (by omega)]
                  · rw [if_neg e2, if_neg (by omega)]
              · exact HX3.out.put hn1
              · exact HA3.out.put hn2
              · exact HB3.out.setCell (Nat.le_of_lt hle.out) _
            case measure => simp [intOf]; omega
          · refine (cost_not (w0, w1, w2, w3) (m0, m1, m2, m3) (gl k) (gr j) W6 HG.out.2.1 HG.out.2.2 hgk.out hgj.out h0).mono ?_
            rintro e w1' ⟨rfl, hb⟩
            have HT3 := hide (HT2.out.below hb)
            have HX3 := hide (HX2.out.below hb)
            have HA3 := hide (HA2.out.below hb)
            have HB3 := hide (bt HB2.out hb)
            clear hb
            have HN := hide h0
            clear h0
            go_wp2_with fail
            go_roundw
            case rel =>
              refine ⟨_, j + 1, rfl, by omega, by go_num, (HT3.out.ext (fun x y hx hy => ?_)), HX3.out, HA3.out, HB3.out⟩
              unfold part
              by_cases e1 : x = k ∧ y = j
              · rw [if_neg (by omega), if_pos (by omega)]
                obtain ⟨rfl, rfl⟩ := e1
                unfold wth
                rw [if_neg (fun h => by have h1 := HN.out; have h2 := h.2.2; omega)]
              · by_cases e2 : x < k ∨ (x = k ∧ y < j)
                · rw [if_pos e2, if_pos (by omega)]
                · rw [if_neg e2, if_neg (by omega)]
            case measure => simp [intOf]; omega
        · obtain rfl : j = r := by omega
          go_wp2_with fail
          go_roundw
          case rel =>
            refine ⟨_, k + 1, rfl, by omega, by go_num, HT.out.ext (fun x y hx hy => ?_), HX.out, HB.out⟩
            unfold part
            by_cases e1 : x < k ∨ (x = k ∧ y < j)
            · rw [if_pos e1, if_pos (by omega)]
            · rw [if_neg e1]
              by_cases e2 : x = k
              · rw [if_pos (by omega)]
                unfold wth
                rw [if_neg (by omega)]
              · rw [if_neg (by omega)]
          case measure => simp [intOf]; omega
    · obtain rfl : k = l := by omega
      go_wp2_with fail
      go_ret2
      refine ⟨T, rfl, HT.out.ext (fun x y hx hy => ?_), HB.out⟩
      unfold part
      by_cases e1 : x < k
      · rw [if_pos (.inl e1)]
      · rw [if_neg (by omega)]
        unfold wth
        rw [if_neg (by omega)]
end Go.Proofs.Ytcakcdolijgjeaa
