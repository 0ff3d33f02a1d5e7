/- Fill, of the reference, of valid arguments. -/
import Derived.Test.YtgkonocjafoblaaUe
set_option linter.unusedVariables false
namespace Go.Proofs.Ytgkonocjafoblaa
open Go Go.RowKit Go.Ab
set_option maxRecDepth 20000 in
set_option maxHeartbeats 8000000 in
theorem rfill_ok (n l c1 c2 : Nat) (a1 a2 : Option Addr) (fL fV : Nat → Int) (L V : Nat → Nat) (w : World) (ha : Fa w a1 a2 l n fL fV L V) (hV1 : ∀ i, i < l → 1 ≤ V i) :
    Calls Try.prog 55 #[.int .i64 n, .slice a1 l c1, .slice a2 l c2] w fun e w' => ∃ c, e = .returned (.tuple #[.int .i64 (Bd L V l l n : Int), .slice (some ⟨c, 0, none⟩) l l, .int .i64 0]) ∧ (∀ j, j < l → w'.cell? ⟨c, j, none⟩ = some (.int .i64 (cn L V l n j : Int))) ∧ Below w.heap.size w w' := by
  obtain ⟨i3, hi3, hz3, hs3, hb3⟩ := info_parts Try.info3
  have HA := hide ha
  have hn := ha.hn
  have hl := ha.hl
  have HV1 := hide hV1
  clear ha hV1
  have hmk0 : ∀ w, (Instr.makeSlice 57 (.int .i64 (l : Int)) (.int .i64 (l : Int))).run Try.prog w = .ok (.slice (some ⟨w.heap.size, 0, none⟩) l l) (w.alloc (.cells (madeCells #[.int .i64 0] l) 3)) := fun w => run_make_row' 57 3 _ 8 Try.underlying57 Try.info3 rfl .i64 .i64 l (by omega) (by omega) w
  have hmk1 : ∀ w, (Instr.makeSlice 137 (.int .i64 ((l : Int) + 1)) (.int .i64 ((l : Int) + 1))).run Try.prog w = .ok (.slice (some ⟨w.heap.size, 0, none⟩) (l + 1) (l + 1)) (w.alloc (.cells (madeCells #[.slice none 0 0] (l + 1)) 57)) := fun w => run_make_row' 137 57 _ 24 Try.underlying137 Try.info57 rfl .i64 .i64 (l + 1) (by omega) (by omega) w
  have hmk2 : ∀ w, (Instr.makeSlice 57 (.int .i64 ((n : Int) + 1)) (.int .i64 ((n : Int) + 1))).run Try.prog w = .ok (.slice (some ⟨w.heap.size, 0, none⟩) (n + 1) (n + 1)) (w.alloc (.cells (madeCells #[.int .i64 0] (n + 1)) 3)) := fun w => run_make_row' 57 3 _ 8 Try.underlying57 Try.info3 rfl .i64 .i64 (n + 1) (by omega) (by omega) w
  have T0 : Hid (Tbl ((w.alloc (.cells ((madeCells #[.slice none 0 0] (l + 1)).setIfInBounds l (.slice (some ⟨w.heap.size + 1, 0, none⟩) (n + 1) (n + 1))) 57)).alloc (.cells (madeCells #[.int .i64 0] (n + 1)) 3)) w.heap.size l n 0 (fun _ => w.heap.size + 1) (fun _ => n + 1) (fun j r => Bd L V l (l - j) r)) := hide (tbl_start w l n _ fun r hr => by simp [Bd])
  have B0 : Hid (Below w.heap.size w ((w.alloc (.cells ((madeCells #[.slice none 0 0] (l + 1)).setIfInBounds l (.slice (some ⟨w.heap.size + 1, 0, none⟩) (n + 1) (n + 1))) 57)).alloc (.cells (madeCells #[.int .i64 0] (n + 1)) 3))) := hide (((Below.refl _ _).alloc (Nat.le_refl _) _).alloc (by simp) _)
  have hcO : ((w.alloc (.cells (madeCells #[.slice none 0 0] (l + 1)) 57)).alloc (.cells (madeCells #[.int .i64 0] (n + 1)) 3)).cell? ⟨w.heap.size, l, none⟩ = some (.slice none 0 0) := ((World.rowIs_made w (.slice none 0 0) (l + 1) 57).alloc _).cell (by omega)
  have hfO : ((w.alloc (.cells (madeCells #[.slice none 0 0] (l + 1)) 57)).alloc (.cells (madeCells #[.int .i64 0] (n + 1)) 3)).frozen? ⟨w.heap.size, l, none⟩ = false := ((World.rowIs_made w (.slice none 0 0) (l + 1) 57).alloc _).frozen l
  go_enter Try.func55, Try.ntmps55
  go_wp2_with fail
  go_loopw [38] (fun i wr => ∃ k : Nat, k ≤ l ∧ i = .int .i64 (k : Int) ∧ wr = w) (fun i _ => l - (intOf i).toNat)
  case atStart => exact ⟨0, Nat.zero_le _, rfl, rfl⟩
  case round =>
    obtain ⟨k, hk, rfl, hw⟩ := hrel
    obtain rfl : w = _ := hw.symm
    by_cases hlt : k < l
    · obtain ⟨b1, o1, b2, o2, rfl, rfl, q1, q2, _, _⟩ := HA.out.at (Below.refl _ _) hlt
      have e1 := (HA.out.eL k hlt).2
      have e2 := (HA.out.eV k hlt).2
      have e3 := HV1.out k hlt
      obtain ⟨g1, g2⟩ := e1
      go_wp2_with fail
      refine ⟨⟨k + 1, by omega, rfl, trivial⟩, ?_⟩
      show l - ((k : Int) + 1).toNat < l - (k : Int).toNat
      omega
    · obtain rfl : l = k := by omega
      clear hlt hk
      go_wp2_with fail
      go_loopw [11] (fun v wr => ∃ (wq : World) (d : Nat) (rb rc : Nat → Nat), wq = wr ∧ d ≤ l ∧ v = .int .i64 ((l : Int) - 1 - (d : Int)) ∧ Tbl wr w.heap.size l n d rb rc (fun j r => Bd L V l (l - j) r) ∧ Below w.heap.size w wr) (fun v _ => (intOf v + 1).toNat)
      case atStart => exact ⟨_, 0, _, _, rfl, Nat.zero_le _, by simp, T0.out, B0.out⟩
      case round =>
        clear T0 B0 hcO hfO
        obtain ⟨wr, d, rb, rc, rfl, hd, rfl, ht, hb⟩ := hrel
        have HT := hide ht
        have HB := hide hb
        clear ht hb
        by_cases hlt : d < l
        · obtain ⟨p, hp⟩ : ∃ p : Nat, Hid (p = l - 1 - d) := ⟨_, hide rfl⟩
          have hpl : p < l := by rw [hp.out]; omega
          have hpi : (l : Int) - 1 - (d : Int) = (p : Int) := by rw [hp.out]; omega
          obtain ⟨g, eg⟩ : ∃ g, Hid (g = rb (p + 1)) := ⟨_, hide rfl⟩
          obtain ⟨cc, ec⟩ : ∃ cc, Hid (cc = rc (p + 1)) := ⟨_, hide rfl⟩
          have bE : Below wr.heap.size wr (wr.alloc (.cells #[] 3)) := (Below.refl _ _).alloc (Nat.le_refl _) _
          have HO : Hid ((wr.alloc (.cells #[] 3)).ownsRow wr.heap.size 3 1 (.slice (some ⟨wr.heap.size, 0, none⟩) 0 0) 0 []) := hide (World.ownsRow_lit wr #[] 0 (Nat.le_refl _) (by unfold maxLen; omega) (by simp))
          have HTE := hide (HT.out.below bE)
          have cP : (wr.alloc (.cells #[] 3)).cell? ⟨w.heap.size, p + 1, none⟩ = some (.slice (some ⟨g, 0, none⟩) (n + 1) cc) := by
            have := HTE.out.outer.cell (show p + 1 < l + 1 by omega)
            rw [if_pos (by have := hp.out; omega)] at this
            rw [this, eg.out, ec.out]; rfl
          have HRow : Hid (Row (wr.alloc (.cells #[] 3)) g (n + 1) (Bd L V l d)) := hide (by
            have := HTE.out.row (p + 1) (by have := hp.out; omega) (by omega)
            rw [← eg.out] at this
            have e : l - (p + 1) = d := by have := hp.out; omega
            simp only [e] at this
            exact this)
          have HBE := hide bE
          clear bE
          go_wp2_with (at_builtin; refine wpList_append_own _ rfl _ _ 57 rfl wr.heap.size 3 i3 (.int .i64 0) 1 8 Try.underlying57 hi3 hz3 hs3 hb3 rfl (by decide) _ _ _ rfl HO.out ⟨g, 0, none⟩ (n + 1) cc (ints (Bd L V l d) (n + 1)) rfl (by rw [ints_len]; omega) ?d1 ?d2 ?d3 ?d4 ?d5 ?_)
          case d1 =>
            intro j u hj
            by_cases hjl : j < n + 1
            · rw [ints_get (Bd L V l d) (n + 1) j hjl] at hj
              cases hj
              rw [Go.WideShapes.add_plain, Nat.zero_add]
              exact HRow.out.cell hjl
            · rw [List.getElem?_eq_none (by rw [ints_len]; omega)] at hj; cases hj
          case d2 => intro u hu; unfold ints at hu; simp at hu; obtain ⟨_, _, rfl⟩ := hu; rfl
          case d3 => unfold maxLen; omega
          case d4 => omega
          case d5 => simp
          intro v' w2 hown hgrow _
          have HS : Hid (∃ g cap, v' = .slice (some ⟨g, 0, none⟩) (n + 1) cap ∧ wr.heap.size ≤ g ∧ Row w2 g (n + 1) (Bd L V l d)) := hide (row_of_owns (by simpa using hown))
          have HB2 : Hid (Below wr.heap.size wr w2) := hide (HBE.out.grown hgrow (by simp) (fun q hq => (HO.out.lt q hq).1))
          clear hown hgrow
          obtain ⟨g2, c3, rfl, hg2, hr2⟩ := HS.out
          have hb2 := HB2.out
          clear HS HBE HTE HRow HO cP
          have ht2 := HT.out.below hb2
          have cO2 : w2.cell? ⟨w.heap.size, p, none⟩ = some (.slice none 0 0) := by
            have := ht2.outer.cell (show p < l + 1 by omega)
            rw [if_neg (by have := hp.out; omega)] at this
            exact this
          have fO2 : w2.frozen? ⟨w.heap.size, p, none⟩ = false := ht2.outer.frozen p
          have HT3 : Hid (Tbl (w2.setCell ⟨w.heap.size, p, none⟩ (.slice (some ⟨g2, 0, none⟩) (n + 1) c3)) w.heap.size l n (d + 1) (fun j => if j = p then g2 else rb j) (fun j => if j = p then c3 else rc j) (fun j => if j = p then Bd L V l d else fun r => Bd L V l (l - j) r)) := hide (by
            have := HT.out.more (c := c3) hb2 hlt hg2 hr2
            rw [← hp.out] at this
            exact this)
          have HB3 : Hid (Below w.heap.size w (w2.setCell ⟨w.heap.size, p, none⟩ (.slice (some ⟨g2, 0, none⟩) (n + 1) c3))) := hide ((bt HB.out hb2).setCell (p := ⟨w.heap.size, p, none⟩) (Nat.le_refl _) _)
          obtain ⟨b1, o1, b2, o2, rfl, rfl, q1, q2, lt1, lt2⟩ := HA.out.at HB3.out hpl
          clear hr2 hb2 ht2 q2
          go_wp2_with fail
          have hLp : Hid (1 ≤ L p ∧ L p ≤ 2000) := hide (HA.out.eL p hpl).2
          have hVp : V p ≤ 1000000 := (HA.out.eV p hpl).2
          have hL0 : 0 < L p := hLp.out.1
          have hL2 : L p ≤ 2000 := hLp.out.2
          obtain ⟨rb', hrb'⟩ : ∃ rb', rb' = fun j => if j = p then g2 else rb j := ⟨_, rfl⟩
          obtain ⟨rc', hrc'⟩ : ∃ rc', rc' = fun j => if j = p then c3 else rc j := ⟨_, rfl⟩
          have erb : rb' p = g2 := by rw [hrb']; simp
          have erc : rc' p = c3 := by rw [hrc']; simp
          have HDis : Hid (∀ j, l - (d + 1) ≤ j → j ≤ l → j ≠ p → rb' j ≠ rb' p) := hide (fun j g1 g3 e => by
            rw [erb, hrb']
            simp only [if_neg e]
            have := (HT.out.row j (by have := hp.out; omega) g3).lt
            omega)
          rw [← hrb', ← hrc'] at HT3
          have T1 : Hid (Tbl (w2.setCell ⟨w.heap.size, p, none⟩ (.slice (some ⟨g2, 0, none⟩) (n + 1) c3)) w.heap.size l n (d + 1) rb' rc' (Gr L V l p d (L p))) := hide (HT3.out.congr fun j x g1 g3 hx => by
            unfold Gr
            by_cases e : j = p
            · simp only [if_pos e]
              by_cases e2 : x < L p
              · rw [if_pos e2, up_lt e2]
              · rw [if_neg e2]
            · simp only [if_neg e])
          clear HT3 hrb' hrc' cO2 fO2 q1
          go_loopw [12] (fun v wx => ∃ (wq : World) (r : Nat), wq = wx ∧ L p ≤ r ∧ (r ≤ n + 1 ∨ r = L p) ∧ v = .int .i64 (r : Int) ∧ Tbl wx w.heap.size l n (d + 1) rb' rc' (Gr L V l p d r) ∧ Below w.heap.size w wx) (fun v _ => n + 1 - (intOf v).toNat)
          case atStart => exact ⟨_, L p, rfl, Nat.le_refl _, .inr rfl, rfl, T1.out, HB3.out⟩
          case round =>
            clear T1 HB3
            obtain ⟨wx, r, rfl, hr1, hr2, rfl, ht, hb⟩ := hrel
            have HTx := hide ht
            have HBx := hide hb
            clear ht hb
            by_cases hrn : r ≤ n
            · have cO : wx.cell? ⟨w.heap.size, p, none⟩ = some (.slice (some ⟨g2, 0, none⟩) (n + 1) c3) := by
                have := HTx.out.outer.cell (show p < l + 1 by omega)
                rw [if_pos (by have := hp.out; omega)] at this
                unfold rwV at this
                rw [erb, erc] at this
                exact this
              have hrow := HTx.out.row p (by have := hp.out; omega) (by omega)
              rw [erb] at hrow
              obtain ⟨q, hq⟩ : ∃ q, Hid (q = r - L p) := ⟨_, hide rfl⟩
              have hqi : (r : Int) - (L p : Int) = (q : Int) := by rw [hq.out]; omega
              have hqn : q ≤ n := by rw [hq.out]; omega
              have hqr : q < r := by rw [hq.out]; omega
              obtain ⟨A, hA⟩ : ∃ A, Hid (A = Bd L V l d r) := ⟨_, hide rfl⟩
              obtain ⟨B, hB⟩ : ∃ B, Hid (B = up (Bd L V l d) (L p) (V p) q) := ⟨_, hide rfl⟩
              have cR : wx.cell? ⟨g2, r, none⟩ = some (.int .i64 (A : Int)) := by
                have := hrow.cell (show r < n + 1 by omega)
                rw [this, hA.out]; unfold Gr; rw [if_pos rfl, if_neg (by omega)]
              have cQ : wx.cell? ⟨g2, q, none⟩ = some (.int .i64 (B : Int)) := by
                have := hrow.cell (show q < n + 1 by omega)
                rw [this, hB.out]; unfold Gr; rw [if_pos rfl, if_pos hqr]
              have fR : wx.frozen? ⟨g2, r, none⟩ = false := hrow.frozen r
              obtain ⟨b1', o1', b2', o2', e1, e2, q1, q2, _, _⟩ := HA.out.at HBx.out hpl
              cases e1
              cases e2
              clear hrow
              go_wp2_with fail
              refine wp_region_tail_lit rfl (by kernel_rfl) (by kernel_rfl) (by kernel_rfl) ?_
              dsimp only [List.dropLast]
              repeat (go_big_quiet_step (fail))
              refine wpQuiet_nil ?_
              intro w9 hw9
              obtain ⟨nq, rfl⟩ := hw9
              have cR' : (wx.drewN nq).cell? ⟨g2, r, none⟩ = some (.int .i64 (A : Int)) := cR
              have fR' : (wx.drewN nq).frozen? ⟨g2, r, none⟩ = false := fR
              have hBn : B ≤ 1000000 * q := by
                rw [hB.out]
                exact up_le 1000000 hVp (bd_le (fun i hi => (HA.out.eL i hi).2.1) (fun i hi => (HA.out.eV i hi).2) d (by omega)) hL0 q
              have hB9 : B ≤ 2000000000 := by omega
              have HE : Hid ((if (A : Int) < wrap64 ((B : Int) + (V p : Int)) then wrap64 ((B : Int) + (V p : Int)) else (A : Int)) = ((max A (V p + B) : Nat) : Int)) := hide (by
                rw [IntWalk.wrap64_in _ (by omega)]
                split <;> omega)
              have HM : Hid (max A (V p + B) = up (Bd L V l d) (L p) (V p) r) := hide (by
                rw [up_ge hL0 hr1, ← hA.out, hB.out, hq.out])
              have HT9 : Hid (Tbl ((wx.drewN nq).setCell ⟨g2, r, none⟩ (.int .i64 ((max A (V p + B) : Nat) : Int))) w.heap.size l n (d + 1) rb' rc' (Gr L V l p d (r + 1))) := hide (by
                have t0 : Tbl (wx.drewN nq) w.heap.size l n (d + 1) rb' rc' (Gr L V l p d r) := ⟨HTx.out.outer, HTx.out.row, HTx.out.apart⟩
                have t1 := t0.put (p := p) (r := r) (v := max A (V p + B)) (by have := hp.out; omega) (by omega) HDis.out
                rw [erb] at t1
                refine t1.congr fun j x g1 g3 hx => ?_
                unfold Gr
                by_cases e : j = p
                · simp only [if_pos e]
                  by_cases e2 : x = r
                  · rw [if_pos e2, if_pos (by omega), HM.out, e2]
                  · rw [if_neg e2]
                    by_cases e3 : x < r
                    · rw [if_pos e3, if_pos (by omega)]
                    · rw [if_neg e3, if_neg (by omega)]
                · simp only [if_neg e])
              have HB9 : Hid (Below w.heap.size w ((wx.drewN nq).setCell ⟨g2, r, none⟩ (.int .i64 ((max A (V p + B) : Nat) : Int)))) := hide (by
                have b0 : Below w.heap.size w (wx.drewN nq) := ⟨HBx.out.os, HBx.out.tape, HBx.out.output, HBx.out.size, HBx.out.block⟩
                exact b0.setCell (p := ⟨g2, r, none⟩) (by have := HB.out.size; show w.heap.size ≤ g2; omega) _)
              go_wp2_with fail
              rw [HE.out]
              refine ⟨⟨_, r + 1, rfl, by omega, by omega, rfl, HT9.out, HB9.out⟩, ?_⟩
              show n + 1 - ((r : Int) + 1).toNat < n + 1 - (r : Int).toNat
              omega
            · have hT : Hid (Tbl wx w.heap.size l n (d + 1) rb' rc' (fun j r => Bd L V l (l - j) r)) := hide (HTx.out.congr fun j x g1 g3 hx => by
                unfold Gr
                by_cases e : j = p
                · subst e
                  have e3 : l - j = d + 1 := by have := hp.out; omega
                  have e4 : l - 1 - d = j := hp.out.symm
                  rw [if_pos rfl, e3]
                  show _ = up (Bd L V l d) (L (l - 1 - d)) (V (l - 1 - d)) x
                  rw [e4]
                  by_cases e2 : x < r
                  · rw [if_pos e2]
                  · rw [if_neg e2, up_lt (by omega)]
                · rw [if_neg e])
              go_wp2_with fail
              go_roundw
              case rel => exact ⟨_, d + 1, rb', rc', rfl, by omega, by congr 1; omega, hT.out, HBx.out⟩
              case measure => simp [intOf]; omega
        · obtain rfl : l = d := by omega
          have hneg : ¬ (0 : Int) ≤ (l : Int) - 1 - (l : Int) := by omega
          clear hlt hd
          obtain ⟨C, eC⟩ : ∃ C, Hid (C = wr.heap.size) := ⟨_, hide rfl⟩
          obtain ⟨O, eO⟩ : ∃ O, Hid (O = w.heap.size) := ⟨_, hide rfl⟩
          have R0 : Hid ((wr.alloc (.cells (madeCells #[.int .i64 0] l) 3)).rowIs C 3 l (fun j => if j < 0 then .int .i64 (cn L V l n j : Int) else .int .i64 0)) := hide (by
            rw [eC.out]
            exact (World.rowIs_made wr (.int .i64 0) l 3).congr fun i hi => by rw [if_neg (by omega)])
          have HC : Hid (O < C ∧ (∀ j, j ≤ l → rb j < C) ∧ w.heap.size ≤ C) := hide ⟨by rw [eC.out, eO.out]; exact HT.out.outer.lt, fun j hj => by rw [eC.out]; exact (HT.out.row j (by omega) hj).lt, by rw [eC.out]; exact HB.out.size⟩
          have b1 : Below wr.heap.size wr (wr.alloc (.cells (madeCells #[.int .i64 0] l) 3)) := (Below.refl _ _).alloc (Nat.le_refl _) _
          have T2 : Hid (Tbl (wr.alloc (.cells (madeCells #[.int .i64 0] l) 3)) O l n l rb rc (fun j r => Bd L V l (l - j) r)) := hide (by rw [eO.out]; exact HT.out.below b1)
          have B2 := hide (bt HB.out b1)
          clear b1 HT HB
          go_wp2_with fail
          rw [← eC.out, ← eO.out]
          go_loopw [141] (fun i wr => ∃ (wq : World) (k : Nat), wq = wr ∧ k ≤ l ∧ i = .int .i64 (k : Int) ∧ Tbl wr O l n l rb rc (fun j r => Bd L V l (l - j) r) ∧ wr.rowIs C 3 l (fun j => if j < k then .int .i64 (cn L V l n j : Int) else .int .i64 0) ∧ Below w.heap.size w wr) (fun i _ => l - (intOf i).toNat)
          case atStart => exact ⟨_, 0, rfl, Nat.zero_le _, rfl, T2.out, R0.out, B2.out⟩
          case round =>
            clear R0 T2 B2
            obtain ⟨wr, k, rfl, hk, rfl, ht, hr, hb⟩ := hrel
            have HT := hide ht
            have HR := hide hr
            have HB := hide hb
            clear ht hr hb
            by_cases hlt : k < l
            · go_wp2_with fail
              go_loopw [15, 146] (fun v i wx => ∃ (wq : World) (j : Nat), wq = wx ∧ Lk wr wx ∧ j ≤ k ∧ i = .int .i64 (j : Int) ∧ v = .int .i64 (rm L V l n j : Int)) (fun _ i _ => k - (intOf i).toNat)
              case atStart => exact ⟨_, 0, rfl, Lk.refl _, Nat.zero_le _, rfl, rfl⟩
              case round =>
                obtain ⟨wx, j, rfl, hlk, hj, rfl, rfl⟩ := hrel
                have HK := hide hlk
                clear hlk
                by_cases hjk : j < k
                · obtain ⟨b1, o1, b2, o2, rfl, rfl, q1, q2, _, _⟩ := HA.out.at (HK.out.below HB.out) (show j < l by omega)
                  obtain ⟨R, eR⟩ : ∃ R, Hid (R = rm L V l n j) := ⟨_, hide rfl⟩
                  obtain ⟨N, eN⟩ : ∃ N, Hid (N = L j) := ⟨_, hide rfl⟩
                  obtain ⟨T, eT⟩ : ∃ T, Hid (T = cn L V l n j) := ⟨_, hide rfl⟩
                  rw [← eR.out]
                  rw [← eN.out] at q1
                  have hRn : R ≤ n := by rw [eR.out]; exact rm_le L V l n j
                  have hTR : T * N ≤ R := by rw [eT.out, eN.out, eR.out]; exact mul_le_of_le_div (cn_ok (HA.out.eL j (by omega)).2.1).1
                  obtain ⟨u, eu⟩ : ∃ u, Hid (u = T * N) := ⟨_, hide rfl⟩
                  rw [← eu.out] at hTR
                  obtain ⟨q, eq⟩ : ∃ q, Hid (q = R - u) := ⟨_, hide rfl⟩
                  have hqi : (R : Int) - (u : Int) = (q : Int) := by rw [eq.out]; omega
                  have hu : (T : Int) * (N : Int) = (u : Int) := by rw [eu.out, ← Int.natCast_mul]
                  have hqn : q ≤ n := by rw [eq.out]; omega
                  have HQ : Hid (q = rm L V l n (j + 1)) := hide (by rw [rm_succ, ← eR.out, ← eT.out, ← eN.out, eq.out, eu.out])
                  have cT : wx.cell? ⟨C, j, none⟩ = some (.int .i64 (T : Int)) := by
                    have := (HK.out.row HR.out).cell (show j < l by omega)
                    rw [if_pos hjk, ← eT.out] at this
                    exact this
                  have hjl : (j : Int) < (l : Int) := by omega
                  go_wp2_with fail
                  refine wp_region_quiet_lit (by kernel_rfl) (by kernel_rfl) ?_
                  repeat (go_big_quiet_step (fail))
                  refine wpQuiet_nil ?_
                  intro w9 hw9
                  obtain ⟨nq, rfl⟩ := hw9
                  go_wp2_with fail
                  refine ⟨⟨_, j + 1, rfl, HK.out.drewN nq, by omega, rfl, by rw [HQ.out]⟩, ?_⟩
                  show k - ((j : Int) + 1).toNat < k - (j : Int).toNat
                  omega
                · obtain rfl : k = j := by omega
                  clear hjk hj
                  have HTx := hide (HK.out.tbl HT.out)
                  have HRx := hide (HK.out.row HR.out)
                  have HBx := hide (HK.out.below HB.out)
                  obtain ⟨R, eR⟩ : ∃ R, Hid (R = rm L V l n k) := ⟨_, hide rfl⟩
                  obtain ⟨N, eN⟩ : ∃ N, Hid (N = L k) := ⟨_, hide rfl⟩
                  obtain ⟨M, eM⟩ : ∃ M, Hid (M = V k) := ⟨_, hide rfl⟩
                  obtain ⟨T, eT⟩ : ∃ T, Hid (T = cn L V l n k) := ⟨_, hide rfl⟩
                  rw [← eR.out]
                  have hN1 : 1 ≤ N := by rw [eN.out]; exact (HA.out.eL k hlt).2.1
                  have hN2 : N ≤ 2000 := by rw [eN.out]; exact (HA.out.eL k hlt).2.2
                  have hM2 : M ≤ 1000000 := by rw [eM.out]; exact (HA.out.eV k hlt).2
                  have hRn : R ≤ n := by rw [eR.out]; exact rm_le L V l n k
                  have HMo : Hid (Most (Bd L V l (l - 1 - k)) N M R T) := hide (by rw [eN.out, eM.out, eR.out, eT.out]; exact cn_ok (HA.out.eL k hlt).2.1)
                  obtain ⟨D, eD⟩ : ∃ D, Hid (D = R / N) := ⟨_, hide rfl⟩
                  have hD2 : D ≤ 2000 := by rw [eD.out]; exact Nat.le_trans (Nat.div_le_self _ _) (by omega)
                  have hDR : Hid (D * N ≤ R ∧ R < D * N + N) := hide (by
                    have h1 := Nat.div_add_mod R N
                    have h2 := Nat.mod_lt R (show 0 < N by omega)
                    rw [eD.out, Nat.mul_comm (R / N) N]
                    omega)
                  have hTD : Hid (T ≤ D) := hide (by rw [eD.out]; exact HMo.out.1)
                  obtain ⟨g1, eg1⟩ : ∃ g1, Hid (g1 = rb k) := ⟨_, hide rfl⟩
                  obtain ⟨d1, ed1⟩ : ∃ d1, Hid (d1 = rc k) := ⟨_, hide rfl⟩
                  obtain ⟨g3, eg3⟩ : ∃ g3, Hid (g3 = rb (k + 1)) := ⟨_, hide rfl⟩
                  obtain ⟨d3, ed3⟩ : ∃ d3, Hid (d3 = rc (k + 1)) := ⟨_, hide rfl⟩
                  obtain ⟨X, eX⟩ : ∃ X, Hid (X = up (Bd L V l (l - 1 - k)) N M R) := ⟨_, hide rfl⟩
                  have hrowk : Hid (Bd L V l (l - k) = up (Bd L V l (l - 1 - k)) N M) := hide (by rw [eN.out, eM.out]; exact bd_row hlt)
                  have hbd : Hid (∀ x, Bd L V l (l - 1 - k) x ≤ 1000000 * x) := hide (bd_le (fun i hi => (HA.out.eL i hi).2.1) (fun i hi => (HA.out.eV i hi).2) _ (by omega))
                  have R0 : Hid (wx.rowIs C 3 l (fun j => if j < k then .int .i64 (cn L V l n j : Int) else if j = k then .int .i64 ((0 : Nat) : Int) else .int .i64 0)) := hide (HRx.out.congr fun j hj => by
                    by_cases e : j < k
                    · rw [if_pos e, if_pos e]
                    · rw [if_neg e, if_neg e]
                      split <;> rfl)
                  go_wp2_with fail
                  go_loopw [17] (fun v wy => ∃ (wq : World) (c z : Nat), wq = wy ∧ v = .int .i64 (c : Int) ∧ c ≤ D + 1 ∧ (T < c → z = T) ∧ Tbl wy O l n l rb rc (fun j r => Bd L V l (l - j) r) ∧ wy.rowIs C 3 l (fun j => if j < k then .int .i64 (cn L V l n j : Int) else if j = k then .int .i64 (z : Int) else .int .i64 0) ∧ Below w.heap.size w wy) (fun v _ => D + 2 - (intOf v).toNat)
                  case atStart => exact ⟨_, 0, 0, rfl, rfl, by omega, fun h => by omega, HTx.out, R0.out, HBx.out⟩
                  case round =>
                    clear R0 HTx HRx HBx
                    obtain ⟨wy, c, z, rfl, rfl, hc, hz, ht, hr, hb⟩ := hrel
                    have HTy := hide ht
                    have HRy := hide hr
                    have HBy := hide hb
                    have HZ := hide hz
                    clear ht hr hb hz
                    obtain ⟨b1, o1, b2, o2, rfl, rfl, q1, q2, _, _⟩ := HA.out.at HBy.out hlt
                    rw [← eN.out] at q1
                    rw [← eM.out] at q2
                    obtain ⟨u, eu⟩ : ∃ u, Hid (u = c * N) := ⟨_, hide rfl⟩
                    have hu : (c : Int) * (N : Int) = (u : Int) := by rw [eu.out, ← Int.natCast_mul]
                    by_cases hcD : c ≤ D
                    · have huR : u ≤ R := by rw [eu.out]; exact Nat.le_trans (Nat.mul_le_mul_right N hcD) hDR.out.1
                      obtain ⟨q, eq⟩ : ∃ q, Hid (q = R - u) := ⟨_, hide rfl⟩
                      have hqi : (R : Int) - (u : Int) = (q : Int) := by rw [eq.out]; omega
                      have hqn : q ≤ n := by rw [eq.out]; omega
                      obtain ⟨sw, es⟩ : ∃ sw, Hid (sw = c * M) := ⟨_, hide rfl⟩
                      have hs2 : sw ≤ 2000000000 := by rw [es.out]; exact Nat.le_trans (Nat.mul_le_mul (Nat.le_trans hcD hD2) hM2) (by decide)
                      have hs : (c : Int) * (M : Int) = (sw : Int) := by rw [es.out, ← Int.natCast_mul]
                      obtain ⟨Y, eY⟩ : ∃ Y, Hid (Y = Bd L V l (l - 1 - k) q) := ⟨_, hide rfl⟩
                      have hY : Y ≤ 2000000000 := by rw [eY.out]; have := hbd.out q; omega
                      obtain ⟨x1, x2⟩ := HTy.out.at (show k ≤ l by omega) hRn
                      rw [← eg1.out, ← ed1.out] at x1
                      simp only [hrowk.out] at x2
                      rw [← eg1.out, ← eX.out] at x2
                      obtain ⟨x3, x4⟩ := HTy.out.at (show k + 1 ≤ l by omega) hqn
                      rw [← eg3.out, ← ed3.out] at x3
                      have e0 : l - (k + 1) = l - 1 - k := by omega
                      simp only [e0] at x4
                      rw [← eg3.out, ← eY.out] at x4
                      clear e0
                      by_cases hx : sw + Y = X
                      · have HcT : Hid (c ≤ T) := hide (by
                          rcases Nat.lt_or_ge T c with h | h
                          · refine absurd ?_ (HMo.out.2.2 c h (by rw [← eD.out]; exact hcD))
                            rw [← eX.out, ← es.out, ← eu.out, ← eq.out, ← eY.out]; exact hx.symm
                          · exact h)
                        have hxi : (sw : Int) + (Y : Int) = (X : Int) := by omega
                        clear hx
                        have cC : wy.cell? ⟨C, k, none⟩ = some (.int .i64 (z : Int)) := by
                          have := HRy.out.cell hlt
                          rw [if_neg (by omega), if_pos rfl] at this
                          exact this
                        have fC : wy.frozen? ⟨C, k, none⟩ = false := HRy.out.frozen k
                        go_wp2_with fail
                        refine wp_region_quiet_lit (by kernel_rfl) (by kernel_rfl) ?_
                        repeat (go_big_quiet_step (fail))
                        refine wpQuiet_nil ?_
                        intro w9 hw9
                        obtain ⟨nq, rfl⟩ := hw9
                        have cC' : (wy.drewN nq).cell? ⟨C, k, none⟩ = some (.int .i64 (z : Int)) := cC
                        have fC' : (wy.drewN nq).frozen? ⟨C, k, none⟩ = false := fC
                        have lk : Lk wy (wy.drewN nq) := (Lk.refl wy).drewN nq
                        have HT9 : Hid (Tbl ((wy.drewN nq).setCell ⟨C, k, none⟩ (.int .i64 (c : Int))) O l n l rb rc (fun j r => Bd L V l (l - j) r)) := hide ((lk.tbl HTy.out).other (by have := HC.out.1; show O ≠ C; omega) (fun j _ g2 => by have := HC.out.2.1 j g2; show rb j ≠ C; omega) _)
                        have HR9 : Hid (((wy.drewN nq).setCell ⟨C, k, none⟩ (.int .i64 (c : Int))).rowIs C 3 l (fun j => if j < k then .int .i64 (cn L V l n j : Int) else if j = k then .int .i64 (c : Int) else .int .i64 0)) := hide (((lk.row HRy.out).set k _).congr fun j hj => by
                          by_cases e : j = k
                          · subst e; rw [if_pos rfl, if_neg (by omega), if_pos rfl]
                          · rw [if_neg e, if_neg e, if_neg e])
                        have HB9 : Hid (Below w.heap.size w ((wy.drewN nq).setCell ⟨C, k, none⟩ (.int .i64 (c : Int)))) := hide ((lk.below HBy.out).setCell (p := ⟨C, k, none⟩) (HC.out.2.2) _)
                        clear lk
                        go_wp2_with fail
                        refine ⟨⟨_, c + 1, c, rfl, rfl, by omega, fun h => by have := HcT.out; omega, HT9.out, HR9.out, HB9.out⟩, ?_⟩
                        show D + 2 - ((c : Int) + 1).toNat < D + 2 - (c : Int).toNat
                        omega
                      · have HcT : Hid (c ≠ T) := hide (fun e => by
                          have := HMo.out.2.1
                          rw [← e, ← eX.out, ← es.out, ← eu.out, ← eq.out, ← eY.out] at this
                          exact hx this.symm)
                        have hxi : ¬ (sw : Int) + (Y : Int) = (X : Int) := by omega
                        clear hx
                        go_wp2_with fail
                        refine wp_region_quiet_lit (by kernel_rfl) (by kernel_rfl) ?_
                        repeat (go_big_quiet_step (fail))
                        refine wpQuiet_nil ?_
                        intro w9 hw9
                        obtain ⟨nq, rfl⟩ := hw9
                        have lk : Lk wy (wy.drewN nq) := (Lk.refl wy).drewN nq
                        have HT9 := hide (lk.tbl HTy.out)
                        have HR9 := hide (lk.row HRy.out)
                        have HB9 := hide (lk.below HBy.out)
                        clear lk
                        go_wp2_with fail
                        refine ⟨⟨_, c + 1, z, rfl, rfl, by omega, fun h => HZ.out (by have := HcT.out; omega), HT9.out, HR9.out, HB9.out⟩, ?_⟩
                        show D + 2 - ((c : Int) + 1).toNat < D + 2 - (c : Int).toNat
                        omega
                    · have huR : R < u := by
                        have e : c = D + 1 := by omega
                        rw [eu.out, e, Nat.add_mul, Nat.one_mul]; exact hDR.out.2
                      have hu4 : u ≤ 4000 := by
                        have e : c = D + 1 := by omega
                        have := hDR.out.1
                        rw [eu.out, e, Nat.add_mul, Nat.one_mul]; omega
                      have HzT : Hid (z = T) := hide (HZ.out (by have := hTD.out; omega))
                      have HR9 : Hid (wy.rowIs C 3 l (fun j => if j < k + 1 then .int .i64 (cn L V l n j : Int) else .int .i64 0)) := hide (HRy.out.congr fun j hj => by
                        by_cases e : j < k
                        · rw [if_pos e, if_pos (by omega)]
                        · rw [if_neg e]
                          by_cases e2 : j = k
                          · rw [if_pos e2, if_pos (by omega), HzT.out, eT.out, e2]
                          · rw [if_neg e2, if_neg (by omega)])
                      go_wp2_with fail
                      refine ⟨⟨_, k + 1, rfl, by omega, rfl, HTy.out, HR9.out, HBy.out⟩, ?_⟩
                      show l - ((k : Int) + 1).toNat < l - (k : Int).toNat
                      omega
            · obtain rfl : l = k := by omega
              obtain ⟨cA, cB⟩ := HT.out.at (Nat.zero_le l) (Nat.le_refl n)
              obtain ⟨g, eg⟩ : ∃ g, g = rb 0 := ⟨_, rfl⟩
              obtain ⟨cg, ecg⟩ : ∃ cg, cg = rc 0 := ⟨_, rfl⟩
              obtain ⟨Z, eZ⟩ : ∃ Z, Hid (Z = Bd L V l l n) := ⟨_, hide rfl⟩
              rw [← eg, ← ecg] at cA
              rw [← eg, Nat.sub_zero, ← eZ.out] at cB
              have HCn : Hid (∀ j, j < l → wr.cell? ⟨C, j, none⟩ = some (.int .i64 (cn L V l n j : Int))) := hide (fun j hj => by
                have := HR.out.cell hj
                rw [if_pos hj] at this
                exact this)
              clear eg ecg hlt hk
              go_wp2_with fail
              go_ret3
              exact ⟨C, by rw [eZ.out]; rfl, HCn.out, HB.out⟩
end Go.Proofs.Ytgkonocjafoblaa
