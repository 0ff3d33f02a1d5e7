/- eachWidest: whatever the visit does. -/
import Derived.Test.YtkajcbjacjfhnaaIy
import Derived.Laws.EntriesVeiled
set_option linter.unusedVariables false
namespace Go.Proofs.Ytkajcbjacjfhnaa
open Go.RowKit Go.Ab
/-- what the walk over the cells has captured -/
def Cp (W : World) (b1 b2 b3 gv bb off l c n g L : Nat) (caps : Array Value) (f : Nat → Nat → UInt8) (rv : Value) : Prop :=
  (W.cell? ⟨b1, 0, none⟩ = some (.slice (some ⟨bb, off, none⟩) l c) ∧ W.cell? ⟨b2, 0, none⟩ = some rv ∧ W.cell? ⟨b3, 0, none⟩ = some (.func (.func gv) #[] caps)) ∧ ZsAt W bb off l (rowS f n) ∧ Rt W rv n l (rcF f g n) L
theorem Over.mono {B B' : Nat} {w w' : World} (h : Over B w w') (hB : B ≤ B') : Over B' w w' := ⟨h.size, fun k hk hl => h.block k (Nat.le_trans hB hk) hl⟩
theorem ret0 {P : Program} {fn : Func} {R : Ending → World → Prop} {a : Act} {w : World} (hr : (results fn a.tmps).run P w = .ok (.tuple #[]) w) (hd : a.defers = []) (h : R (.returned (.tuple #[])) w) : bodyPost P fn R .ret a w := bodyPost_ret hr hd h
theorem Blk.over {B : Nat} {w w' : World} {q : Nat} {vs : Array Value} {t : TypeId} (h : Blk w q vs t) (ho : Over B w w') (hB : B ≤ q) : Blk w' q vs t := (ho.block q hB h.lt).trans h
set_option maxRecDepth 20000 in
set_option maxHeartbeats 4000000 in
theorem widest1_is (b1 b2 b3 gv bb off l c n g B L x y : Nat) (caps : Array Value) (f : Nat → Nat → UInt8) (rv : Value) (Iv : Nat → Nat → World → Prop) (w : World) (hB : B ≤ w.heap.size) (hx : x < n) (hy : y < l) (hn : n ≤ 48) (hl : l ≤ 48)
    (eg : ∀ args w, (callFunc gv args).run Try.prog w = .ok (.enter gv args) w)
    (h0 : Hid (Iv (y * n + x) 0 w)) (hst : Hid (∀ k h W W', Iv k h W → Below W.heap.size W W' → Iv k h W'))
    (hcp : Hid (∀ k h W, Iv k h W → Cp W b1 b2 b3 gv bb off l c n g L caps f rv))
    (hv : Hid (∀ W h, B ≤ W.heap.size → y + (h + 1) ≤ l → 1 ≤ wid (usB f g) n x y (h + 1) → Iv (y * n + x) h W →
      Calls Try.prog gv (#[.agg #[.int .i64 x, .int .i64 y, .int .i64 (wid (usB f g) n x y (h + 1)), .int .i64 ((h : Int) + 1)]] ++ caps) W fun e w' => e = .returned (.tuple #[]) ∧ Iv (y * n + x) (h + 1) w' ∧ Over B W w'))
    (hend : Hid (∀ W h, y + h ≤ l → (y + h = l ∨ wid (usB f g) n x y (h + 1) = 0) → Iv (y * n + x) h W → Iv (y * n + x + 1) 0 W)) :
    Calls Try.prog 133 (#[.agg #[.int .i64 x, .int .i64 y]] ++ #[.pointer (some ⟨b1, 0, none⟩), .pointer (some ⟨b2, 0, none⟩), .pointer (some ⟨b3, 0, none⟩)]) w fun e w' => e = .returned (.tuple #[]) ∧ Iv (y * n + x + 1) 0 w' ∧ Over B w w' := by
  have hb0 : Below w.heap.size w (w.alloc (.cells #[.int .i64 x, .int .i64 y] 87)) := (Below.refl _ _).alloc (Nat.le_refl _) _
  have O0 : Hid (Over B w (w.alloc (.cells #[.int .i64 x, .int .i64 y] 87))) := hide (Over.of_below hb0)
  have I0 := hide (hst.out _ _ _ _ h0.out hb0)
  have K0 := hide (Blk.new w #[.int .i64 x, .int .i64 y] 87)
  have HBB := hide hB
  obtain ⟨⟨q1, q2, q3⟩, hz, hrt⟩ := hcp.out _ _ _ I0.out
  have cz := (hz 0 (by omega)).1
  rw [Nat.add_zero] at cz
  have hl0 : 0 < l := by omega
  have hl0i : (0 : Int) < (l : Int) := by omega
  have hsz : (rowS f n 0).size = n := rowS_size f n 0
  have k0 := K0.out.cell 0 (v := .int .i64 x) rfl
  have k1 := K0.out.cell 1 (v := .int .i64 y) rfl
  have bn : (n : Int) ≤ 48 := by omega
  have bl : (l : Int) ≤ 48 := by omega
  have HX := hide (And.intro hx hy)
  have H48 := hide (And.intro hn hl)
  clear h0 hB hz hrt hb0 hn hl
  show Calls Try.prog 133 #[.agg #[.int .i64 x, .int .i64 y], .pointer (some ⟨b1, 0, none⟩), .pointer (some ⟨b2, 0, none⟩), .pointer (some ⟨b3, 0, none⟩)] w _
  go_enter Try.func133, Try.ntmps133
  go_wp2_with fail
  go_loopw [5, 6] (fun s i wr => ∃ (wq : World) (h q : Nat) (W : Nat), wq = wr ∧ Hid (q = y + h ∧ q ≤ l) ∧ i = .int .i64 q ∧ s = .int .i64 W ∧ Hid (W = wid (usB f g) n x y h) ∧ Iv (y * n + x) h wr ∧ Blk wr w.heap.size #[.int .i64 x, .int .i64 y] 87 ∧ Over B w wr) (fun _ i _ => (l - intOf i).toNat)
  case atStart => exact ⟨_, 0, y, n, rfl, hide ⟨by omega, by omega⟩, rfl, rfl, hide rfl, I0.out, K0.out, O0.out⟩
  case round =>
    clear I0 K0 O0 q1 q2 q3 cz k0 k1
    obtain ⟨wr, h, q, W, rfl, hq, rfl, rfl, hW, hi, hk, ho⟩ := hrel
    have HI := hide hi
    have HK := hide hk
    have HO := hide ho
    obtain ⟨⟨q1, q2, q3⟩, hz, hrt⟩ := hcp.out _ _ _ hi
    obtain ⟨sb, sc, rb, rc, rfl, hsb, hrb, _, _⟩ := hrt
    have k0 := hk.cell 0 (v := .int .i64 x) rfl
    have k1 := hk.cell 1 (v := .int .i64 y) rfl
    clear hi hk ho hz
    by_cases hlt : q < l
    · have cs := hsb q hlt
      unfold rowV at cs
      obtain ⟨r, er⟩ : ∃ r, Hid (r = rb q) := ⟨_, hide rfl⟩
      rw [← er.out] at cs
      obtain ⟨R, eR⟩ : ∃ R : Nat, Hid (R = rcX (usB f g) n q x) := ⟨_, hide rfl⟩
      have cr : wr.cell? ⟨r, x, none⟩ = some (.int .i64 (R : Int)) := by
        rw [er.out, eR.out]; exact hrb q hlt x (by omega)
      obtain ⟨V, eV⟩ : ∃ V : Nat, Hid (V = wid (usB f g) n x y (h + 1)) := ⟨_, hide rfl⟩
      have eV2 : Hid (V = min W R) := hide (by
        rw [eV.out, hW.out, eR.out, hq.out.1]; rfl)
      have m1 : (if R < W then (R : Int) else (W : Int)) = (V : Int) := by have := eV2.out; split <;> omega
      have hxn : x < n + 1 := by omega
      have hxi : (x : Int) < (n : Int) + 1 := by omega
      have hqi : (q : Int) < (l : Int) := by omega
      have hqy : (q : Int) - (y : Int) = (h : Int) := by have := hq.out; omega
      have bh : (h : Int) ≤ 48 := by have := hq.out; have := H48.out; omega
      clear hsb hrb
      by_cases hV : V = 0
      · have HE := hide (hend.out (wr) h (by have := hq.out; omega) (.inr (by rw [← eV.out]; exact hV)) HI.out)
        have hV0 : ((V : Int) == 0) = true := by simp; omega
        have HV := hide hV
        clear hV
        go_wp2_with fail
        go_quiet (fail)
        go_wp2_with fail
        exact bodyPost_ret (results_none rfl _ _ _) rfl ⟨rfl, hst.out _ _ _ _ HE.out (bdn _ _ _), HO.out.trans (Over.of_below (bdn _ _ _))⟩
      · have hV0 : ((V : Int) == 0) = false := by simp; omega
        have HV := hide hV
        clear hV
        go_wp2_with fail
        go_quiet (fail)
        have bq1 := (hcp.out _ _ _ (hst.out _ _ _ _ HI.out (bdn wr.heap.size wr nq))).1.2.2
        have HC := hide (hv.out (wr.drewN nq) h (Nat.le_trans HBB.out (Nat.le_of_lt (by have := HK.out.lt; exact this))) (by have := hq.out; omega) (by rw [← eV.out]; have := HV.out; omega) (hst.out _ _ _ _ HI.out (bdn _ _ _)))
        rw [← eV.out] at HC
        go_wp2_with fail
        refine HC.out.mono ?_
        rintro e w4 ⟨rfl, hi, ho⟩
        have HI4 := hide hi
        have HO4 := hide ((HO.out.trans (Over.of_below (bdn _ _ _))).trans ho)
        have HK4 := hide (Blk.over (HK.out.below (bdn _ _ _)) ho HBB.out)
        clear hi ho HC
        go_wp2_with fail
        go_roundw
        case rel => exact ⟨_, h + 1, q + 1, V, rfl, hide (by have := hq.out; omega), by go_num, rfl, eV, HI4.out, HK4.out, HO4.out⟩
        case measure => simp [intOf]; omega
    · have HE := hide (hend.out wr h (by have := hq.out; omega) (.inl (by have := hq.out; omega)) HI.out)
      go_wp2_with fail
      go_end0
      exact ⟨rfl, HE.out, HO.out⟩
theorem ent133 : ∀ args w, (callFunc 133 args).run Try.prog w = .ok (.enter 133 args) w := fun args w => enters_of Try.func133 (by kernel_rfl) rfl args w
theorem rt_step {W W' : World} {v : Value} {n l L : Nat} {F : Nat → Nat → Int} (h : Rt W v n l F L) (hb : Below W.heap.size W W') : Rt W' v n l F L := by
  obtain ⟨sb, sc, rb, rc, e, h1, h2, h3, h4⟩ := h
  exact ⟨sb, sc, rb, rc, e, fun i hi => kc hb (h1 i hi), h2.below hb, h3, h4⟩
theorem rt_over {W W' : World} {v : Value} {n l L : Nat} {F : Nat → Nat → Int} (h : Rt W v n l F L) (ho : Over L W W') : Rt W' v n l F L := by
  obtain ⟨sb, sc, rb, rc, e, h1, h2, h3, h4⟩ := h
  exact ⟨sb, sc, rb, rc, e, fun i hi => ho.cell h3 (h1 i hi), fun i hi x hx => ho.cell (h4 i hi) (h2 i hi x hx), h3, h4⟩
theorem cp_step {W W' : World} {b1 b2 b3 gv bb off l c n g L : Nat} {caps : Array Value} {f : Nat → Nat → UInt8} {rv : Value} (h : Cp W b1 b2 b3 gv bb off l c n g L caps f rv) (hb : Below W.heap.size W W') : Cp W' b1 b2 b3 gv bb off l c n g L caps f rv :=
  ⟨⟨kc hb h.1.1, kc hb h.1.2.1, kc hb h.1.2.2⟩, h.2.1.below hb, rt_step h.2.2 hb⟩
theorem cp_over {W W' : World} {b1 b2 b3 gv bb off l c n g L : Nat} {caps : Array Value} {f : Nat → Nat → UInt8} {rv : Value} (h : Cp W b1 b2 b3 gv bb off l c n g L caps f rv) (ho : Over L W W') (h1 : L ≤ b1) (h2 : L ≤ b2) (h3 : L ≤ b3) (hz : ZsAt W' bb off l (rowS f n)) : Cp W' b1 b2 b3 gv bb off l c n g L caps f rv :=
  ⟨⟨ho.cell h1 h.1.1, ho.cell h2 h.1.2.1, ho.cell h3 h.1.2.2⟩, hz, rt_over h.2.2 ho⟩
set_option maxRecDepth 20000 in
set_option maxHeartbeats 4000000 in
theorem eachWidest_is (gv bb off l c n g : Nat) (caps : Array Value) (f : Nat → Nat → UInt8) (Ju : Nat → Nat → World → Prop) (w : World) (hz : ZsAt w bb off l (rowS f n)) (hd : Dim (n, l, f)) (h9 : g ≤ 9)
    (eg : ∀ args w, (callFunc gv args).run Try.prog w = .ok (.enter gv args) w)
    (h0 : Hid (Ju 0 0 w)) (hst : Hid (∀ k h W W', Ju k h W → Below W.heap.size W W' → Ju k h W')) (hzs : Hid (∀ k h W, Ju k h W → ZsAt W bb off l (rowS f n)))
    (hv : Hid (∀ W x y h, w.heap.size ≤ W.heap.size → x < n → y < l → y + (h + 1) ≤ l → 1 ≤ wid (usB f g) n x y (h + 1) → Ju (y * n + x) h W →
      Calls Try.prog gv (#[.agg #[.int .i64 x, .int .i64 y, .int .i64 (wid (usB f g) n x y (h + 1)), .int .i64 ((h : Int) + 1)]] ++ caps) W fun e w' => e = .returned (.tuple #[]) ∧ Ju (y * n + x) (h + 1) w' ∧ Over w.heap.size W w'))
    (hend : Hid (∀ W x y h, x < n → y < l → y + h ≤ l → (y + h = l ∨ wid (usB f g) n x y (h + 1) = 0) → Ju (y * n + x) h W → Ju (y * n + x + 1) 0 W)) :
    Calls Try.prog 104 #[.slice (some ⟨bb, off, none⟩) l c, .int .i64 g, .func (.func gv) #[] caps] w fun e w' => e = .returned (.tuple #[]) ∧ Ju (l * n) 0 w' := by
  have hb0 : Below w.heap.size w ((w.alloc (.cells #[.slice (some ⟨bb, off, none⟩) l c] 22)).alloc (.cells #[.func (.func gv) #[] caps] 119)) := ((Below.refl _ _).alloc (Nat.le_refl _) _).alloc (by simp) _
  have HB0 := hide hb0
  have d1 : ((w.alloc (.cells #[.slice (some ⟨bb, off, none⟩) l c] 22)).alloc (.cells #[.func (.func gv) #[] caps] 119)).cell? ⟨w.heap.size, 0, none⟩ = some (.slice (some ⟨bb, off, none⟩) l c) := by simp [go_sem]
  have d2 : ((w.alloc (.cells #[.slice (some ⟨bb, off, none⟩) l c] 22)).alloc (.cells #[.func (.func gv) #[] caps] 119)).cell? ⟨w.heap.size + 1, 0, none⟩ = some (.func (.func gv) #[] caps) := by simp [go_sem]
  have D := hide (And.intro d1 d2)
  have Z0 := hide (hz.below hb0)
  have HD := hide hd
  have H9 := hide h9
  have hmf : ∀ (fn : Fn) (first cap : Array Value) (w : World), (Instr.makeFunc fn first cap).run Try.prog w = .ok (.func fn first cap) w := fun _ _ _ _ => rfl
  have HEG : Hid (∀ args w, (callFunc gv args).run Try.prog w = .ok (.enter gv args) w) := hide eg
  clear hb0 hz hd h9 d1 d2 eg
  go_enter Try.func104, Try.ntmps104
  go_wp2_with fail
  refine (reaches_is bb off c n l g f _ Z0.out HD.out H9.out).mono ?_
  rintro e w1 ⟨rv, rfl, hrt, hb⟩
  have hbA : Below w1.heap.size w1 (w1.alloc (.cells #[rv] 45)) := (Below.refl _ _).alloc (Nat.le_refl _) _
  obtain ⟨sb, sc, rb, rc, rfl, _⟩ := id hrt
  have HSz : Hid (w.heap.size + 1 < w1.heap.size) := hide (by have := hb.size; simp at this; omega)
  have C1 : Hid (Cp (w1.alloc (.cells #[.slice (some ⟨sb, 0, none⟩) l sc] 45)) w.heap.size w1.heap.size (w.heap.size + 1) gv bb off l c n g w.heap.size caps f (.slice (some ⟨sb, 0, none⟩) l sc)) := hide
    ⟨⟨kc hbA (kc hb D.out.1), by simp [go_sem], kc hbA (kc hb D.out.2)⟩, (Z0.out.below hb).below hbA, by
      have h1 := rt_step hrt hbA
      obtain ⟨sb', sc', rb', rc', e, k1, k2, k3, k4⟩ := h1
      refine ⟨sb', sc', rb', rc', e, k1, k2, ?_, fun i hi => ?_⟩
      · simp at k3; omega
      · have := k4 i hi; simp at this; omega⟩
  have J1 : Hid (Ju 0 0 (w1.alloc (.cells #[.slice (some ⟨sb, 0, none⟩) l sc] 45))) := hide (hst.out _ _ _ _ h0.out (bt HB0.out (bt hb hbA)))
  clear hrt hb hbA h0 Z0
  have q1 := C1.out.1.1
  go_wp2_with fail
  refine (extent_is bb off l c n f _ C1.out.2.1 HD.out.2.1).mono ?_
  rintro e w3 ⟨rfl, hb⟩
  have C3 := hide (cp_step C1.out hb)
  have J3 := hide (hst.out _ _ _ _ J1.out hb)
  have HS3 : Hid (w.heap.size ≤ w3.heap.size) := hide (by have := hb.size; simp at this; have := HSz.out; omega)
  clear hb C1 J1 q1
  go_wp2_with fail
  refine (each_any 133 #[.pointer (some ⟨w.heap.size, 0, none⟩), .pointer (some ⟨w1.heap.size, 0, none⟩), .pointer (some ⟨w.heap.size + 1, 0, none⟩)] 0 0 n l
    (fun k W => Ju k 0 W ∧ Cp W w.heap.size w1.heap.size (w.heap.size + 1) gv bb off l c n g w.heap.size caps f (.slice (some ⟨sb, 0, none⟩) l sc)) _ ⟨by decide, by decide⟩ ⟨by decide, by decide⟩ (by have := HD.out.1.2; simp only at this; omega) (by have := HD.out.2.2; simp only at this; omega) ent133
    (hide ⟨J3.out, C3.out⟩) (hide fun k W W' h hb => ⟨hst.out _ _ _ _ h.1 hb, cp_step h.2 hb⟩)
    (hide fun W x y hw hx hy hi => by
      rw [Int.zero_add, Int.zero_add]
      refine (widest1_is w.heap.size w1.heap.size (w.heap.size + 1) gv bb off l c n g w.heap.size w.heap.size x y caps f (.slice (some ⟨sb, 0, none⟩) l sc)
        (fun k h W => Ju k h W ∧ Cp W w.heap.size w1.heap.size (w.heap.size + 1) gv bb off l c n g w.heap.size caps f (.slice (some ⟨sb, 0, none⟩) l sc)) W (Nat.le_trans HS3.out hw) hx hy HD.out.1.2 HD.out.2.2 HEG.out (hide hi)
        (hide fun k h W W' h1 hb => ⟨hst.out _ _ _ _ h1.1 hb, cp_step h1.2 hb⟩) (hide fun k h W h1 => h1.2)
        (hide fun W' h hB hl hw1 h1 => (hv.out W' x y h hB hx hy hl hw1 h1.1).mono fun e w' ⟨e1, e2, e3⟩ => ⟨e1, ⟨e2, cp_over h1.2 e3 (Nat.le_refl _) (by have := HSz.out; omega) (by omega) (hzs.out _ _ _ e2)⟩, e3⟩)
        (hide fun W' h hl h2 h1 => ⟨hend.out W' x y h hx hy hl h2 h1.1, h1.2⟩)).mono fun e w' ⟨e1, e2, e3⟩ => ⟨e1, e2, e3.mono HS3.out⟩)).mono ?_
  rintro e w4 ⟨rfl, hj, _⟩
  have J4 := hide hj
  clear hj
  go_wp2_with fail
  go_end0
  exact ⟨rfl, J4.out⟩
end Go.Proofs.Ytkajcbjacjfhnaa
