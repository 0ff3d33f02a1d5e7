/- fills. -/
import Derived.Test.YtgkonocjafoblaaUc
import Derived.Test.YtgkonocjafoblaaUx
import Derived.Deep.RegionHeld3
set_option linter.unusedVariables false
namespace Go.Proofs.Ytgkonocjafoblaa
open Go Go.RowKit Go.Ab
/-- the arguments of fills -/
structure Fa (w : World) (a1 a2 : Option Addr) (l n : Nat) (fL fV : Nat → Int) (L V : Nat → Nat) : Prop where
  s1 : Ls w a1 l fL
  s2 : Ls w a2 l fV
  eL : ∀ i, i < l → fL i = L i ∧ 1 ≤ L i ∧ L i ≤ 2000
  eV : ∀ i, i < l → fV i = V i ∧ V i ≤ 1000000
  hn : n ≤ 2000
  hl : l ≤ 12
theorem Fa.at {w w' : World} {a1 a2 : Option Addr} {l n : Nat} {fL fV : Nat → Int} {L V : Nat → Nat} (h : Fa w a1 a2 l n fL fV L V) (hb : Below w.heap.size w w') {p : Nat} (hp : p < l) :
    ∃ b1 o1 b2 o2, a1 = some ⟨b1, o1, none⟩ ∧ a2 = some ⟨b2, o2, none⟩ ∧ w'.cell? ⟨b1, o1 + p, none⟩ = some (.int .i64 (L p : Int)) ∧ w'.cell? ⟨b2, o2 + p, none⟩ = some (.int .i64 (V p : Int)) ∧ b1 < w.heap.size ∧ b2 < w.heap.size := by
  obtain ⟨b1, o1, e1, h1⟩ : ∃ b off, a1 = some ⟨b, off, none⟩ ∧ LsAt w b off l fL := by
    rcases h.s1 with h | h
    · omega
    · exact h
  obtain ⟨b2, o2, e2, h2⟩ : ∃ b off, a2 = some ⟨b, off, none⟩ ∧ LsAt w b off l fV := by
    rcases h.s2 with h | h
    · omega
    · exact h
  have c1 := (h1 p hp).1
  have c2 := (h2 p hp).1
  have d1 := World.block_lt_of_cell? _ _ c1
  have d2 := World.block_lt_of_cell? _ _ c2
  rw [(h.eL p hp).1] at c1
  rw [(h.eV p hp).1] at c2
  exact ⟨b1, o1, b2, o2, e1, e2, kc hb c1, kc hb c2, d1, d2⟩
theorem tbl_start (w : World) (l n : Nat) (F : Nat → Nat → Nat) (h0 : ∀ r, r < n + 1 → F l r = 0) :
    Tbl ((w.alloc (.cells ((madeCells #[.slice none 0 0] (l + 1)).setIfInBounds l (.slice (some ⟨w.heap.size + 1, 0, none⟩) (n + 1) (n + 1))) 57)).alloc (.cells (madeCells #[.int .i64 0] (n + 1)) 3)) w.heap.size l n 0 (fun _ => w.heap.size + 1) (fun _ => n + 1) F := by
  have r0 := World.rowIs_alloc w ((madeCells #[.slice none 0 0] (l + 1)).setIfInBounds l (.slice (some ⟨w.heap.size + 1, 0, none⟩) (n + 1) (n + 1))) 57 (fun j => if l ≤ j then .slice (some ⟨w.heap.size + 1, 0, none⟩) (n + 1) (n + 1) else .slice none 0 0) (fun j hj => by
    simp only [Array.size_setIfInBounds, size_madeCells] at hj
    rw [Array.getElem?_setIfInBounds]
    by_cases e : j = l
    · subst e
      simp [size_madeCells]
    · rw [if_neg (fun h => e h.symm), if_neg (by omega)]
      simp [madeCells, hj, Nat.mod_one])
  have hs : (w.alloc (.cells ((madeCells #[.slice none 0 0] (l + 1)).setIfInBounds l (.slice (some ⟨w.heap.size + 1, 0, none⟩) (n + 1) (n + 1))) 57)).heap.size = w.heap.size + 1 := by simp
  have r1 := World.rowIs_made (w.alloc (.cells ((madeCells #[.slice none 0 0] (l + 1)).setIfInBounds l (.slice (some ⟨w.heap.size + 1, 0, none⟩) (n + 1) (n + 1))) 57)) (.int .i64 0) (n + 1) 3
  rw [hs] at r1
  have e0 : ((madeCells #[.slice none 0 0] (l + 1)).setIfInBounds l (.slice (some ⟨w.heap.size + 1, 0, none⟩) (n + 1) (n + 1))).size = l + 1 := by simp [size_madeCells]
  rw [e0] at r0
  refine ⟨(r0.alloc _).congr fun j hj => rfl, fun j h1 h2 => ?_, fun j h1 h2 => by omega⟩
  obtain rfl : j = l := by omega
  refine ⟨n + 1, _, r1, Nat.le_refl _, fun i hi => ?_⟩
  rw [h0 i hi]; rfl
theorem Tbl.congr {W : World} {O l n d : Nat} {rb rc : Nat → Nat} {F G : Nat → Nat → Nat} (h : Tbl W O l n d rb rc F) (e : ∀ j x, l - d ≤ j → j ≤ l → x < n + 1 → F j x = G j x) : Tbl W O l n d rb rc G :=
  ⟨h.outer, fun j h1 h2 => (h.row j h1 h2).congr fun i hi => e j i h1 h2 hi, h.apart⟩
/-- a store into a row -/
theorem Tbl.put {W : World} {O l n d p r v : Nat} {rb rc : Nat → Nat} {F : Nat → Nat → Nat} (h : Tbl W O l n d rb rc F) (h1 : l - d ≤ p) (h2 : p ≤ l) (hd : ∀ j, l - d ≤ j → j ≤ l → j ≠ p → rb j ≠ rb p) :
    Tbl (W.setCell ⟨rb p, r, none⟩ (.int .i64 (v : Int))) O l n d rb rc (fun j x => if j = p then (if x = r then v else F j x) else F j x) := by
  refine ⟨h.outer.setOther (by have := h.apart p h1 h2; show O ≠ rb p; omega) _, fun j g1 g2 => ?_, h.apart⟩
  by_cases e : j = p
  · subst e
    simp only [if_true]
    exact (h.row j g1 g2).set r v
  · simp only [if_neg e]
    exact (h.row j g1 g2).other (hd j g1 g2 e) _
/-- the row under way: done below r -/
def Gr (L V : Nat → Nat) (l p d r : Nat) (j x : Nat) : Nat := if j = p then (if x < r then up (Bd L V l d) (L p) (V p) x else Bd L V l d x) else Bd L V l (l - j) x
set_option maxRecDepth 20000 in
set_option maxHeartbeats 4000000 in
theorem fills_is (n l c1 c2 : Nat) (a1 a2 : Option Addr) (fL fV : Nat → Int) (L V : Nat → Nat) (w : World) (ha : Fa w a1 a2 l n fL fV L V) :
    Calls Try.prog 98 #[.int .i64 n, .slice a1 l c1, .slice a2 l c2] w fun e w' => ∃ O, e = .returned (.slice (some ⟨O, 0, none⟩) (l + 1) (l + 1)) ∧ w.heap.size ≤ O ∧ (∃ rb rc, Tbl w' O l n l rb rc (fun j r => Bd L V l (l - j) r)) ∧ Below w.heap.size w w' := by
  have HA := hide ha
  have hn := ha.hn
  have hl := ha.hl
  clear ha
  have hmk1 : ∀ w, (Instr.makeSlice 137 (.int .i64 ((l : Int) + 1)) (.int .i64 ((l : Int) + 1))).run Try.prog w = .ok (.slice (some ⟨w.heap.size, 0, none⟩) (l + 1) (l + 1)) (w.alloc (.cells (madeCells #[.slice none 0 0] (l + 1)) 57)) := fun w => run_make_row' 137 57 _ 24 Try.underlying137 Try.info57 rfl .i64 .i64 (l + 1) (by omega) (by omega) w
  have hmk2 : ∀ w, (Instr.makeSlice 57 (.int .i64 ((n : Int) + 1)) (.int .i64 ((n : Int) + 1))).run Try.prog w = .ok (.slice (some ⟨w.heap.size, 0, none⟩) (n + 1) (n + 1)) (w.alloc (.cells (madeCells #[.int .i64 0] (n + 1)) 3)) := fun w => run_make_row' 57 3 _ 8 Try.underlying57 Try.info3 rfl .i64 .i64 (n + 1) (by omega) (by omega) w
  have T0 : Hid (Tbl ((w.alloc (.cells ((madeCells #[.slice none 0 0] (l + 1)).setIfInBounds l (.slice (some ⟨w.heap.size + 1, 0, none⟩) (n + 1) (n + 1))) 57)).alloc (.cells (madeCells #[.int .i64 0] (n + 1)) 3)) w.heap.size l n 0 (fun _ => w.heap.size + 1) (fun _ => n + 1) (fun j r => Bd L V l (l - j) r)) := hide (tbl_start w l n _ fun r hr => by simp [Bd])
  have B0 : Hid (Below w.heap.size w ((w.alloc (.cells ((madeCells #[.slice none 0 0] (l + 1)).setIfInBounds l (.slice (some ⟨w.heap.size + 1, 0, none⟩) (n + 1) (n + 1))) 57)).alloc (.cells (madeCells #[.int .i64 0] (n + 1)) 3))) := hide (((Below.refl _ _).alloc (Nat.le_refl _) _).alloc (by simp) _)
  have hcO : ((w.alloc (.cells (madeCells #[.slice none 0 0] (l + 1)) 57)).alloc (.cells (madeCells #[.int .i64 0] (n + 1)) 3)).cell? ⟨w.heap.size, l, none⟩ = some (.slice none 0 0) := ((World.rowIs_made w (.slice none 0 0) (l + 1) 57).alloc _).cell (by omega)
  have hfO : ((w.alloc (.cells (madeCells #[.slice none 0 0] (l + 1)) 57)).alloc (.cells (madeCells #[.int .i64 0] (n + 1)) 3)).frozen? ⟨w.heap.size, l, none⟩ = false := ((World.rowIs_made w (.slice none 0 0) (l + 1) 57).alloc _).frozen l
  go_enter Try.func98, Try.ntmps98
  go_wp2_with fail
  go_loopw [8] (fun v wr => ∃ (wq : World) (d : Nat) (rb rc : Nat → Nat), wq = wr ∧ d ≤ l ∧ v = .int .i64 ((l : Int) - 1 - (d : Int)) ∧ Tbl wr w.heap.size l n d rb rc (fun j r => Bd L V l (l - j) r) ∧ Below w.heap.size w wr) (fun v _ => (intOf v + 1).toNat)
  case atStart => exact ⟨_, 0, _, _, rfl, Nat.zero_le _, by simp, T0.out, B0.out⟩
  case round =>
    clear T0 B0 hcO hfO
    obtain ⟨wr, d, rb, rc, rfl, hd, rfl, ht, hb⟩ := hrel
    have HT := hide ht
    have HB := hide hb
    clear ht hb
    by_cases hlt : d < l
    · obtain ⟨p, hp⟩ : ∃ p : Nat, Hid (p = l - 1 - d) := ⟨_, hide rfl⟩
      have hpl : p < l := by rw [hp.out]; omega
      have hpi : (l : Int) - 1 - (d : Int) = (p : Int) := by rw [hp.out]; omega
      obtain ⟨g, eg⟩ : ∃ g, Hid (g = rb (p + 1)) := ⟨_, hide rfl⟩
      obtain ⟨cc, ec⟩ : ∃ cc, Hid (cc = rc (p + 1)) := ⟨_, hide rfl⟩
      have cP : wr.cell? ⟨w.heap.size, p + 1, none⟩ = some (.slice (some ⟨g, 0, none⟩) (n + 1) cc) := by
        have := HT.out.outer.cell (show p + 1 < l + 1 by omega)
        rw [if_pos (by have := hp.out; omega)] at this
        rw [this, eg.out, ec.out]; rfl
      have HRow : Hid (Row wr g (n + 1) (Bd L V l d)) := hide (by
        have := HT.out.row (p + 1) (by have := hp.out; omega) (by omega)
        rw [← eg.out] at this
        have e : l - (p + 1) = d := by have := hp.out; omega
        simp only [e] at this
        exact this)
      go_wp2_with fail
      refine (clone_is g n cc (Bd L V l d) _ HRow.out hn).mono ?_
      rintro e w2 ⟨g2, c3, rfl, hg2, hr2, hb2⟩
      have ht2 := HT.out.below hb2
      have cO2 : w2.cell? ⟨w.heap.size, p, none⟩ = some (.slice none 0 0) := by
        have := ht2.outer.cell (show p < l + 1 by omega)
        rw [if_neg (by have := hp.out; omega)] at this
        exact this
      have fO2 : w2.frozen? ⟨w.heap.size, p, none⟩ = false := ht2.outer.frozen p
      have HT3 : Hid (Tbl (w2.setCell ⟨w.heap.size, p, none⟩ (.slice (some ⟨g2, 0, none⟩) (n + 1) c3)) w.heap.size l n (d + 1) (fun j => if j = p then g2 else rb j) (fun j => if j = p then c3 else rc j) (fun j => if j = p then Bd L V l d else fun r => Bd L V l (l - j) r)) := hide (by
        have := HT.out.more (c := c3) hb2 hlt hg2 hr2
        rw [← hp.out] at this
        exact this)
      have HB3 : Hid (Below w.heap.size w (w2.setCell ⟨w.heap.size, p, none⟩ (.slice (some ⟨g2, 0, none⟩) (n + 1) c3))) := hide ((bt HB.out hb2).setCell (p := ⟨w.heap.size, p, none⟩) (Nat.le_refl _) _)
      obtain ⟨b1, o1, b2, o2, rfl, rfl, q1, q2, lt1, lt2⟩ := HA.out.at HB3.out hpl
      clear hr2 hb2 ht2 q2
      go_wp2_with fail
      have hLp : Hid (1 ≤ L p ∧ L p ≤ 2000) := hide (HA.out.eL p hpl).2
      have hVp : V p ≤ 1000000 := (HA.out.eV p hpl).2
      have hL0 : 0 < L p := hLp.out.1
      have hL2 : L p ≤ 2000 := hLp.out.2
      obtain ⟨rb', hrb'⟩ : ∃ rb', rb' = fun j => if j = p then g2 else rb j := ⟨_, rfl⟩
      obtain ⟨rc', hrc'⟩ : ∃ rc', rc' = fun j => if j = p then c3 else rc j := ⟨_, rfl⟩
      have erb : rb' p = g2 := by rw [hrb']; simp
      have erc : rc' p = c3 := by rw [hrc']; simp
      have HDis : Hid (∀ j, l - (d + 1) ≤ j → j ≤ l → j ≠ p → rb' j ≠ rb' p) := hide (fun j g1 g3 e => by
        rw [erb, hrb']
        simp only [if_neg e]
        have := (HT.out.row j (by have := hp.out; omega) g3).lt
        omega)
      rw [← hrb', ← hrc'] at HT3
      have T1 : Hid (Tbl (w2.setCell ⟨w.heap.size, p, none⟩ (.slice (some ⟨g2, 0, none⟩) (n + 1) c3)) w.heap.size l n (d + 1) rb' rc' (Gr L V l p d (L p))) := hide (HT3.out.congr fun j x g1 g3 hx => by
        unfold Gr
        by_cases e : j = p
        · simp only [if_pos e]
          by_cases e2 : x < L p
          · rw [if_pos e2, up_lt e2]
          · rw [if_neg e2]
        · simp only [if_neg e])
      clear HT3 hrb' hrc' cP cO2 fO2 q1
      go_loopw [9] (fun v wx => ∃ (wq : World) (r : Nat), wq = wx ∧ L p ≤ r ∧ (r ≤ n + 1 ∨ r = L p) ∧ v = .int .i64 (r : Int) ∧ Tbl wx w.heap.size l n (d + 1) rb' rc' (Gr L V l p d r) ∧ Below w.heap.size w wx) (fun v _ => n + 1 - (intOf v).toNat)
      case atStart => exact ⟨_, L p, rfl, Nat.le_refl _, .inr rfl, rfl, T1.out, HB3.out⟩
      case round =>
        clear T1 HB3
        obtain ⟨wx, r, rfl, hr1, hr2, rfl, ht, hb⟩ := hrel
        have HTx := hide ht
        have HBx := hide hb
        clear ht hb
        by_cases hrn : r ≤ n
        · have cO : wx.cell? ⟨w.heap.size, p, none⟩ = some (.slice (some ⟨g2, 0, none⟩) (n + 1) c3) := by
            have := HTx.out.outer.cell (show p < l + 1 by omega)
            rw [if_pos (by have := hp.out; omega)] at this
            unfold rwV at this
            rw [erb, erc] at this
            exact this
          have hrow := HTx.out.row p (by have := hp.out; omega) (by omega)
          rw [erb] at hrow
          obtain ⟨q, hq⟩ : ∃ q, Hid (q = r - L p) := ⟨_, hide rfl⟩
          have hqi : (r : Int) - (L p : Int) = (q : Int) := by rw [hq.out]; omega
          have hqn : q ≤ n := by rw [hq.out]; omega
          have hqr : q < r := by rw [hq.out]; omega
          obtain ⟨A, hA⟩ : ∃ A, Hid (A = Bd L V l d r) := ⟨_, hide rfl⟩
          obtain ⟨B, hB⟩ : ∃ B, Hid (B = up (Bd L V l d) (L p) (V p) q) := ⟨_, hide rfl⟩
          have cR : wx.cell? ⟨g2, r, none⟩ = some (.int .i64 (A : Int)) := by
            have := hrow.cell (show r < n + 1 by omega)
            rw [this, hA.out]; unfold Gr; rw [if_pos rfl, if_neg (by omega)]
          have cQ : wx.cell? ⟨g2, q, none⟩ = some (.int .i64 (B : Int)) := by
            have := hrow.cell (show q < n + 1 by omega)
            rw [this, hB.out]; unfold Gr; rw [if_pos rfl, if_pos hqr]
          have fR : wx.frozen? ⟨g2, r, none⟩ = false := hrow.frozen r
          obtain ⟨b1', o1', b2', o2', e1, e2, q1, q2, _, _⟩ := HA.out.at HBx.out hpl
          cases e1
          cases e2
          clear hrow
          go_wp2_with fail
          refine wp_region_tail_lit rfl (by kernel_rfl) (by kernel_rfl) (by kernel_rfl) ?_
          dsimp only [List.dropLast]
          repeat (go_big_quiet_step (fail))
          refine wpQuiet_nil ?_
          intro w9 hw9
          obtain ⟨nq, rfl⟩ := hw9
          have cR' : (wx.drewN nq).cell? ⟨g2, r, none⟩ = some (.int .i64 (A : Int)) := cR
          have fR' : (wx.drewN nq).frozen? ⟨g2, r, none⟩ = false := fR
          have hBn : B ≤ 1000000 * q := by
            rw [hB.out]
            exact up_le 1000000 hVp (bd_le (fun i hi => (HA.out.eL i hi).2.1) (fun i hi => (HA.out.eV i hi).2) d (by omega)) hL0 q
          have hB9 : B ≤ 2000000000 := by omega
          have HE : Hid ((if (A : Int) < wrap64 ((V p : Int) + (B : Int)) then wrap64 ((V p : Int) + (B : Int)) else (A : Int)) = ((max A (V p + B) : Nat) : Int)) := hide (by
            rw [IntWalk.wrap64_in _ (by omega)]
            split <;> omega)
          have HM : Hid (max A (V p + B) = up (Bd L V l d) (L p) (V p) r) := hide (by
            rw [up_ge hL0 hr1, ← hA.out, hB.out, hq.out])
          have HT9 : Hid (Tbl ((wx.drewN nq).setCell ⟨g2, r, none⟩ (.int .i64 ((max A (V p + B) : Nat) : Int))) w.heap.size l n (d + 1) rb' rc' (Gr L V l p d (r + 1))) := hide (by
            have t0 : Tbl (wx.drewN nq) w.heap.size l n (d + 1) rb' rc' (Gr L V l p d r) := ⟨HTx.out.outer, HTx.out.row, HTx.out.apart⟩
            have t1 := t0.put (p := p) (r := r) (v := max A (V p + B)) (by have := hp.out; omega) (by omega) HDis.out
            rw [erb] at t1
            refine t1.congr fun j x g1 g3 hx => ?_
            unfold Gr
            by_cases e : j = p
            · simp only [if_pos e]
              by_cases e2 : x = r
              · rw [if_pos e2, if_pos (by omega), HM.out, e2]
              · rw [if_neg e2]
                by_cases e3 : x < r
                · rw [if_pos e3, if_pos (by omega)]
                · rw [if_neg e3, if_neg (by omega)]
            · simp only [if_neg e])
          have HB9 : Hid (Below w.heap.size w ((wx.drewN nq).setCell ⟨g2, r, none⟩ (.int .i64 ((max A (V p + B) : Nat) : Int)))) := hide (by
            have b0 : Below w.heap.size w (wx.drewN nq) := ⟨HBx.out.os, HBx.out.tape, HBx.out.output, HBx.out.size, HBx.out.block⟩
            exact b0.setCell (p := ⟨g2, r, none⟩) (by have := HB.out.size; show w.heap.size ≤ g2; omega) _)
          go_wp2_with fail
          rw [HE.out]
          refine ⟨⟨_, r + 1, rfl, by omega, by omega, rfl, HT9.out, HB9.out⟩, ?_⟩
          show n + 1 - ((r : Int) + 1).toNat < n + 1 - (r : Int).toNat
          omega
        · have hT : Hid (Tbl wx w.heap.size l n (d + 1) rb' rc' (fun j r => Bd L V l (l - j) r)) := hide (HTx.out.congr fun j x g1 g3 hx => by
            unfold Gr
            by_cases e : j = p
            · subst e
              have e3 : l - j = d + 1 := by have := hp.out; omega
              have e4 : l - 1 - d = j := hp.out.symm
              rw [if_pos rfl, e3]
              show _ = up (Bd L V l d) (L (l - 1 - d)) (V (l - 1 - d)) x
              rw [e4]
              by_cases e2 : x < r
              · rw [if_pos e2]
              · rw [if_neg e2, up_lt (by omega)]
            · rw [if_neg e])
          go_wp2_with fail
          go_roundw
          case rel => exact ⟨_, d + 1, rb', rc', rfl, by omega, by congr 1; omega, hT.out, HBx.out⟩
          case measure => simp [intOf]; omega
    · obtain rfl : d = l := by omega
      have hneg : ¬ (0 : Int) ≤ (d : Int) - 1 - (d : Int) := by omega
      go_wp2_with fail
      go_ret
      exact ⟨w.heap.size, rfl, Nat.le_refl _, ⟨rb, rc, HT.out⟩, HB.out⟩
end Go.Proofs.Ytgkonocjafoblaa
