/- NewTable. -/
import Derived.Test.YtkajcbjacjfhnaaIh
set_option linter.unusedVariables false
namespace Go.Proofs.Ytkajcbjacjfhnaa
open Go.RowKit Go.Ab
def rowV (rb rc : Nat → Nat) (n i : Nat) : Value := .slice (some ⟨rb i, 0, none⟩) (n + 1) (rc i)
def rowVs (rb rc : Nat → Nat) (n k : Nat) : List Value := (List.range k).map (rowV rb rc n)
theorem rowVs_get (rb rc : Nat → Nat) (n k i : Nat) (h : i < k) : (rowVs rb rc n k)[i]? = some (rowV rb rc n i) := by
  unfold rowVs; rw [List.getElem?_map, List.getElem?_range h]; rfl
def Rws (W : World) (rb : Nat → Nat) (n k : Nat) (u : Nat → Nat → Bool) : Prop := ∀ i, i < k → ∀ x, x ≤ n → W.cell? ⟨rb i, x, none⟩ = some (.int .i64 (sumN u i x))
def Sm (W : World) (B : Nat) (v : Value) (n k : Nat) (u : Nat → Nat → Bool) : Prop := ∃ rb rc, W.ownsRow B 23 1 v k (rowVs rb rc n k) ∧ Rws W rb n k u ∧ ∀ i, i < k → n + 1 ≤ rc i
theorem Rws.below {W W' : World} {rb : Nat → Nat} {n k : Nat} {u : Nat → Nat → Bool} (h : Rws W rb n k u) (hb : Below W.heap.size W W') : Rws W' rb n k u := fun i hi x hx => kc hb (h i hi x hx)
theorem own_slice {W : World} {B e n : Nat} {v : Value} {xs : List Value} (h : W.ownsRow B e 1 v n xs) (hn : 1 ≤ n) : ∃ g cap, v = .slice (some ⟨g, 0, none⟩) n cap ∧ n ≤ cap ∧ B ≤ g ∧ g < W.heap.size ∧ ∀ j u, xs[j]? = some u → W.cell? ⟨g, j, none⟩ = some u := by
  have hc : ∀ g, v.ownBlock = some g → ∀ j u, xs[j]? = some u → W.cell? ((⟨g, 0, none⟩ : Addr).add j) = some u := fun g hg => h.cells hg
  obtain ⟨h1, ⟨_, h0⟩ | ⟨g, cap, cur, rfl, hg, hcc, hnc, hm, hs, ht⟩⟩ := h
  · omega
  · refine ⟨g, cap, rfl, hnc, hg, lt_of_block hcc, fun j u hu => ?_⟩
    have := hc g rfl j u hu
    have hadd : (⟨g, 0, none⟩ : Addr).add j = ⟨g, j, none⟩ := by unfold Addr.add; split <;> simp_all
    rwa [hadd] at this
theorem rowVs_succ (rb rc : Nat → Nat) (n k g c : Nat) : rowVs rb rc n k ++ [.slice (some ⟨g, 0, none⟩) (n + 1) c] = rowVs (fun i => if i = k then g else rb i) (fun i => if i = k then c else rc i) n (k + 1) := by
  unfold rowVs
  rw [List.range_succ, List.map_append]
  congr 1
  · apply List.map_congr_left
    intro i hi
    have : i ≠ k := by have := List.mem_range.1 hi; omega
    unfold rowV; simp [this]
  · unfold rowV; simp
theorem sm_append {W w7 : World} {B n k g9 c9 : Nat} {v v' : Value} {u : Nat → Nat → Bool} {rb rc : Nat → Nat} (ho : W.ownsRow B 23 1 v k (rowVs rb rc n k)) (hk : 1 ≤ k) (hr : Rws W rb n k u) (hc : ∀ i, i < k → n + 1 ≤ rc i)
    (h9 : ∀ x, x ≤ n → W.cell? ⟨g9, x, none⟩ = some (.int .i64 (sumN u k x))) (hc9 : n + 1 ≤ c9) (hown : w7.ownsRow B 23 1 v' (k + 1) (rowVs rb rc n k ++ [.slice (some ⟨g9, 0, none⟩) (n + 1) c9])) (hgrow : W.grownBy w7 v.ownBlock) : Sm w7 B v' n (k + 1) u := by
  obtain ⟨g, cap, rfl, _, _, _, hcell⟩ := own_slice ho hk
  have c0 := hcell 0 _ (rowVs_get rb rc n k 0 hk)
  have keep : ∀ b x z, (W.cell? ⟨b, 0, none⟩ = some (.int .i64 z)) → ∀ y, W.cell? ⟨b, x, none⟩ = some (.int .i64 y) → w7.cell? ⟨b, x, none⟩ = some (.int .i64 y) := by
    intro b x z h0 y hy
    refine hgrow.cell hy ?_
    intro e
    injection e with e
    subst e
    rw [h0] at c0
    cases c0
  refine ⟨_, _, by rw [← rowVs_succ]; exact hown, fun i hi x hx => ?_, fun i hi => ?_⟩
  · by_cases e : i = k
    · subst e
      simp only [if_true]
      exact keep _ x _ (h9 0 (Nat.zero_le _)) _ (h9 x hx)
    · simp only [if_neg e]
      exact keep _ x _ (hr i (by omega) 0 (Nat.zero_le _)) _ (hr i (by omega) x hx)
  · by_cases e : i = k
    · simp only [if_pos e]; exact hc9
    · simp only [if_neg e]; exact hc i (by omega)
theorem Try.info23 : (Try.prog.info? 23).map (fun i => (i.zero, i.size, i.bytes)) = some (some (.slice none 0 0), 1, 24) := by kernel_rfl
def Tb (W : World) (t n l : Nat) (u : Nat → Nat → Bool) : Prop := ∃ sb sc rb rc, W.cell? ⟨t, 0, none⟩ = some (.slice (some ⟨sb, 0, none⟩) (l + 1) sc) ∧ (∀ i, i ≤ l → W.cell? ⟨sb, i, none⟩ = some (rowV rb rc n i)) ∧ Rws W rb n (l + 1) u
theorem Tb.below {W W' : World} {t n l : Nat} {u : Nat → Nat → Bool} (h : Tb W t n l u) (hb : Below W.heap.size W W') : Tb W' t n l u := by
  obtain ⟨sb, sc, rb, rc, h1, h2, h3⟩ := h
  exact ⟨sb, sc, rb, rc, kc hb h1, fun i hi => kc hb (h2 i hi), h3.below hb⟩
theorem ent123 : ∀ args w, (callFunc 123 args).run Try.prog w = .ok (.enter 123 args) w := fun args w => enters_of Try.func123 (by kernel_rfl) rfl args w
theorem owns_one (w : World) (v : Value) (t : TypeId) : (w.alloc (.cells #[v] t)).ownsRow w.heap.size t 1 (.slice (some ⟨w.heap.size, 0, none⟩) 1 1) 1 [v] :=
  ⟨rfl, .inr ⟨w.heap.size, 1, #[v], rfl, Nat.le_refl _, heap_alloc_new w _, Nat.le_refl _, by decide, rfl, rfl⟩⟩
set_option maxRecDepth 20000 in
set_option maxHeartbeats 4000000 in
theorem newTable_is (bb off c n l g : Nat) (f : Nat → Nat → UInt8) (w : World) (hz : ZsAt w bb off l (rowS f n)) (hd : Dim (n, l, f)) (hgd : goodB l (rowS f n) g = true) :
    Calls Try.prog 26 #[.slice (some ⟨bb, off, none⟩) l c, .int .i64 g] w fun e w' => ∃ t, e = .returned (.tuple #[.pointer (some ⟨t, 0, none⟩), .int .i64 0]) ∧ Tb w' t n l (usB f g) ∧ Below w.heap.size w w' := by
  obtain ⟨i3, hi3, hz3, hs3, hb3⟩ := info_parts Try.info3
  obtain ⟨i23, hi23, hz23, hs23, hb23⟩ := info_parts Try.info23
  have HZ := hide hz
  have HN : Hid ((1 ≤ n ∧ 1 ≤ l) ∧ n ≤ 48 ∧ l ≤ 48) := hide ⟨⟨hd.1.1, hd.2.1⟩, hd.1.2, hd.2.2⟩
  have h9 : g ≤ 9 := by have := (goodB_get hgd).2.2; omega
  have H9 := hide h9
  have HGD := hide hgd
  have bn : (n : Int) ≤ 48 := by have := HN.out; omega
  have bl : (l : Int) ≤ 48 := by have := HN.out; omega
  have h1n : 0 < l := by have := HN.out; omega
  have hsz : (rowS f n 0).size = n := rowS_size f n 0
  have hmk : ∀ w, (Instr.makeSlice 23 (.int .i64 ((n : Int) + 1)) (.int .i64 ((n : Int) + 1))).run Try.prog w = .ok (.slice (some ⟨w.heap.size, 0, none⟩) (n + 1) (n + 1)) (w.alloc (.cells (madeCells #[.int .i64 0] (n + 1)) 3)) := fun w => run_make_row' 23 3 _ 8 Try.underlying23 Try.info3 rfl .i64 .i64 (n + 1) (by omega) (by omega) w
  clear hz hd h9 hgd
  go_enter Try.func26, Try.ntmps26
  go_wp2_with (go_at_call 69; refine (validAt_is _ l c g _ _ (.inr ⟨bb, off, rfl, HZ.out⟩)).mono ?_; rintro e w' ⟨rfl, rfl⟩; rw [HGD.out])
  refine (usableAt_is bb off l c n g f _ HZ.out HN.out.1.2 H9.out).mono ?_
  rintro e w1 ⟨b1, b2, b3, rfl, hu, hbs, hb⟩
  have HU := hide hu
  have HB1 := hide hb
  have c0 := (HZ.out.below HB1.out 0 h1n).1
  rw [Nat.add_zero] at c0
  clear hu hbs hb
  go_wp2_with fail
  have HBA : Hid (Below w1.heap.size w1 ((w1.alloc (.cells (madeCells #[.int .i64 0] (n + 1)) 3)).alloc (.cells #[.slice (some ⟨w1.heap.size, 0, none⟩) (n + 1) (n + 1)] 23))) := hide (((Below.refl _ _).alloc (Nat.le_refl _) _).alloc (by simp) _)
  have S0 : Hid (Sm ((w1.alloc (.cells (madeCells #[.int .i64 0] (n + 1)) 3)).alloc (.cells #[.slice (some ⟨w1.heap.size, 0, none⟩) (n + 1) (n + 1)] 23)) w1.heap.size (.slice (some ⟨w1.heap.size + 1, 0, none⟩) 1 1) n (0 + 1) (usB f g)) := hide (by
    refine ⟨fun _ => w1.heap.size, fun _ => n + 1, ?_, fun i hi x hx => ?_, fun _ _ => Nat.le_refl _⟩
    · have := owns_one (w1.alloc (.cells (madeCells #[.int .i64 0] (n + 1)) 3)) (.slice (some ⟨w1.heap.size, 0, none⟩) (n + 1) (n + 1)) 23
      rw [show (w1.alloc (.cells (madeCells #[.int .i64 0] (n + 1)) 3)).heap.size = w1.heap.size + 1 by simp] at this
      obtain ⟨e1, ⟨_, e2⟩ | ⟨g', cap, cur, e2, e3, e4⟩⟩ := this
      · cases e2
      · exact ⟨e1, .inr ⟨g', cap, cur, e2, by omega, e4⟩⟩
    · have e := (World.rowIs_made w1 (.int .i64 0) (n + 1) 3).cell (show x < n + 1 by omega)
      obtain rfl : i = 0 := by omega
      exact kc ((Below.refl _ _).alloc (Nat.le_refl _) _) e)
  go_loopw [7, 29] (fun v i wr => ∃ (v7 : Value) (wq : World) (k : Nat), v7 = v ∧ wq = wr ∧ k ≤ l ∧ i = .int .i64 k ∧ Sm wr w1.heap.size v n (k + 1) (usB f g) ∧ Below w1.heap.size w1 wr) (fun _ i _ => l - (intOf i).toNat)
  case atStart => exact ⟨_, _, 0, rfl, rfl, Nat.zero_le _, rfl, S0.out, HBA.out⟩
  case round =>
    clear S0 HBA c0
    obtain ⟨v7, wr, k, rfl, rfl, hk, rfl, ⟨rb, rc, ho, hr, hc⟩, hbel⟩ := hrel
    obtain ⟨g7, cap7, rfl, hcap7, hg7, hg7', hcell⟩ := own_slice ho (Nat.succ_pos k)
    have HB := hide hbel
    have HO := hide ho
    have HRw := hide hr
    have HCp := hide hc
    have HCl := hide hcell
    have HG7 := hide (And.intro hcap7 (And.intro hg7 hg7'))
    clear hbel ho hr hc hcell hcap7 hg7 hg7'
    by_cases hlt : k < l
    · have ck := HCl.out k _ (rowVs_get rb rc n (k + 1) k (Nat.lt_succ_self k))
      unfold rowV at ck
      obtain ⟨r, er⟩ : ∃ r, Hid (r = rb k) := ⟨_, hide rfl⟩
      obtain ⟨cr, ecr⟩ : ∃ cr, Hid (cr = rc k) := ⟨_, hide rfl⟩
      rw [← er.out, ← ecr.out] at ck
      have hcr : 1 < cr := by have := HCp.out k (Nat.lt_succ_self k); have := HN.out; rw [ecr.out]; omega
      have hcr2 : n + 1 ≤ cr := by have := HCp.out k (Nat.lt_succ_self k); rw [ecr.out]; omega
      have HRk : Hid (∀ x, x ≤ n → wr.cell? ⟨r, x, none⟩ = some (.int .i64 (sumN (usB f g) k x))) := hide (by rw [er.out]; exact HRw.out k (Nat.lt_succ_self k))
      have hk1 : k < k + 1 := Nat.lt_succ_self k
      have hki : (k : Int) < (k : Int) + 1 := by omega
      have hg7 : g7 < wr.heap.size := HG7.out.2.2
      have hr7 : r < wr.heap.size := World.block_lt_of_cell? _ _ (HRk.out 0 (Nat.zero_le _))
      go_wp2_with fail
      obtain ⟨B1, eB1⟩ : ∃ B1, Hid (B1 = wr.heap.size) := ⟨_, hide rfl⟩
      have R0 : Hid ((wr.alloc (.cells #[.int .i64 0] 3)).ownsRow B1 3 1 (.slice (some ⟨wr.heap.size, 0, none⟩) 1 1) (0 + 1) (i64s (sumN (usB f g) (k + 1)) (0 + 1))) := hide (by
        have := owns_one wr (.int .i64 0) 3
        rw [← eB1.out] at this ⊢
        have e : i64s (sumN (usB f g) (k + 1)) (0 + 1) = [.int .i64 0] := by
          show [Value.int .i64 (sumN (usB f g) (k + 1) 0)] = _
          rw [sumN_zero]
        rw [e]; exact this)
      have RB : Hid (Below B1 wr (wr.alloc (.cells #[.int .i64 0] 3))) := hide ((Below.refl _ _).alloc (by rw [eB1.out]; exact Nat.le_refl _) _)
      go_loopw [9, 10, 39] (fun v cn i wx => ∃ (v9 : Value) (wq : World) (j : Nat), v9 = v ∧ wq = wx ∧ j ≤ n ∧ i = .int .i64 j ∧ cn = .int .i64 (rowN (usB f g) k j) ∧ wx.ownsRow B1 3 1 v (j + 1) (i64s (sumN (usB f g) (k + 1)) (j + 1)) ∧ Below B1 wr wx ∧ B1 < wx.heap.size) (fun _ _ i _ => n - (intOf i).toNat)
      case atStart => exact ⟨_, _, 0, rfl, rfl, Nat.zero_le _, rfl, rfl, R0.out, RB.out, by rw [eB1.out]; simp⟩
      case round =>
        clear R0 RB ck
        obtain ⟨v9, wx, j, rfl, rfl, hj, rfl, rfl, ho9, hb9, hs9⟩ := hrel
        have HO9 := hide ho9
        have HB9 : Hid (Below wr.heap.size wr wx) := hide (by rw [← eB1.out]; exact hb9)
        have HS9 := hide hs9
        clear ho9 hb9 hs9
        have hU := us_step (us_step HU.out HB.out) HB9.out
        have HUx := hide hU
        clear hU
        by_cases hlj : j < n
        · obtain ⟨A, eA⟩ : ∃ A : Int, Hid (A = sumN (usB f g) k (j + 1)) := ⟨_, hide rfl⟩
          obtain ⟨C, eC⟩ : ∃ C : Int, Hid (C = rowN (usB f g) k j) := ⟨_, hide rfl⟩
          rw [← eC.out]
          have ca := kc HB9.out (HRk.out (j + 1) (by omega))
          rw [← eA.out, Nat.add_comm j 1] at ca
          have bA : 0 ≤ A ∧ A ≤ 48 * 48 := by
            have e1 := sumN_bd (usB f g) k (j + 1)
            rw [eA.out]
            refine ⟨e1.1, Int.le_trans e1.2 ?_⟩
            have e2 : k * (j + 1) ≤ 48 * 48 := Nat.mul_le_mul (by have := HN.out; omega) (by have := HN.out; omega)
            exact_mod_cast e2
          have bC : 0 ≤ C ∧ C ≤ 48 := by
            have e1 := rowN_bd (usB f g) k j
            rw [eC.out]; have := HN.out; omega
          obtain ⟨bA1, bA2⟩ := bA
          obtain ⟨bC1, bC2⟩ := bC
          have hent := ent123
          go_wp2_with fail
          refine (us_in b1 b2 b3 bb off l c n g j k f _ HUx.out HN.out.2.1 HN.out.2.2 hlj hlt).mono ?_
          rintro e w4 ⟨rfl, hb4⟩
          have HO4 := hide (owns_below HO9.out hb4)
          have HB4 := hide (bt HB9.out hb4)
          have HS4 : Hid (B1 < w4.heap.size) := hide (Nat.lt_of_lt_of_le HS9.out hb4.size)
          clear hb4 HO9 HB9 HUx ca hent
          cases hus : usB f g j k with
          | false =>
            have eD : Hid (sumN (usB f g) (k + 1) (j + 1) = A + C) := hide (by
              show sumN (usB f g) k (j + 1) + (rowN (usB f g) k j + if usB f g j k then 1 else 0) = _
              rw [hus, eA.out, eC.out]; simp)
            have eR : Hid (rowN (usB f g) k (j + 1) = C) := hide (by
              show rowN (usB f g) k j + (if usB f g j k then 1 else 0) = _
              rw [hus, eC.out]; simp)
            clear hus
            go_wp2_with (at_builtin; refine wpList_append_own _ rfl _ _ 23 rfl B1 3 i3 (.int .i64 0) 1 8 Try.underlying23 hi3 hz3 hs3 hb3 rfl (by decide) _ _ _ rfl (HO4.out.alloc _) ⟨w4.heap.size, 0, none⟩ 1 1 [.int .i64 (A + C)] rfl rfl ?d1 ?d2 ?d3 ?d4 ?d5 ?_)
            case d1 =>
              intro j u hj
              match j, hj with
              | 0, hj => simp at hj; subst hj; simp [Addr.add]
            case d2 => intro u hu; simp at hu; subst hu; rfl
            case d3 => unfold maxLen; have := HN.out; omega
            case d4 => have := HN.out; omega
            case d5 => simp; have := HS4.out; omega
            intro v' w7 hown' hgrow _
            have HO2 : Hid (w7.ownsRow B1 3 1 v' (j + 1 + 1) (i64s (sumN (usB f g) (k + 1)) (j + 1 + 1))) := hide (by rw [i64s_succ, eD.out]; exact hown')
            have HB2 : Hid (Below B1 wr w7) := hide (by
              have e1 : Below B1 wr w4 := by rw [eB1.out]; exact HB4.out
              exact (e1.alloc (by have := HS4.out; omega) (.cells #[.int .i64 (A + C)] 3)).grown hgrow (by simp; have := HS4.out; omega) (fun q hq => (HO4.out.lt q hq).1))
            have hs7 : Hid (B1 < w7.heap.size) := hide (by have := hgrow.size; simp at this; have := HS4.out; omega)
            clear hown' hgrow
            go_wp2_with fail
            go_roundw
            case rel => exact ⟨_, _, j + 1, rfl, rfl, by omega, by go_num, by rw [eR.out], HO2.out, HB2.out, hs7.out⟩
            case measure => simp [intOf]; omega
          | true =>
            have eD : Hid (sumN (usB f g) (k + 1) (j + 1) = A + (C + 1)) := hide (by
              show sumN (usB f g) k (j + 1) + (rowN (usB f g) k j + if usB f g j k then 1 else 0) = _
              rw [hus, eA.out, eC.out]; simp)
            have eR : Hid (rowN (usB f g) k (j + 1) = C + 1) := hide (by
              show rowN (usB f g) k j + (if usB f g j k then 1 else 0) = _
              rw [hus, eC.out]; simp)
            clear hus
            go_wp2_with (at_builtin; refine wpList_append_own _ rfl _ _ 23 rfl B1 3 i3 (.int .i64 0) 1 8 Try.underlying23 hi3 hz3 hs3 hb3 rfl (by decide) _ _ _ rfl (HO4.out.alloc _) ⟨w4.heap.size, 0, none⟩ 1 1 [.int .i64 (A + (C + 1))] rfl rfl ?e1 ?e2 ?e3 ?e4 ?e5 ?_)
            case e1 =>
              intro j u hj
              match j, hj with
              | 0, hj => simp at hj; subst hj; simp [Addr.add]
            case e2 => intro u hu; simp at hu; subst hu; rfl
            case e3 => unfold maxLen; have := HN.out; omega
            case e4 => have := HN.out; omega
            case e5 => simp; have := HS4.out; omega
            intro v' w7 hown' hgrow _
            have HO2 : Hid (w7.ownsRow B1 3 1 v' (j + 1 + 1) (i64s (sumN (usB f g) (k + 1)) (j + 1 + 1))) := hide (by rw [i64s_succ, eD.out]; exact hown')
            have HB2 : Hid (Below B1 wr w7) := hide (by
              have e1 : Below B1 wr w4 := by rw [eB1.out]; exact HB4.out
              exact (e1.alloc (by have := HS4.out; omega) (.cells #[.int .i64 (A + (C + 1))] 3)).grown hgrow (by simp; have := HS4.out; omega) (fun q hq => (HO4.out.lt q hq).1))
            have hs7 : Hid (B1 < w7.heap.size) := hide (by have := hgrow.size; simp at this; have := HS4.out; omega)
            clear hown' hgrow
            go_wp2_with fail
            go_roundw
            case rel => exact ⟨_, _, j + 1, rfl, rfl, by omega, by go_num, by rw [eR.out], HO2.out, HB2.out, hs7.out⟩
            case measure => simp [intOf]; omega
        · obtain rfl : j = n := by omega
          obtain ⟨g9, c9, rfl, hc9, hg9, hg9', hcell9⟩ := own_slice HO9.out (Nat.succ_pos j)
          have H9c : Hid (∀ x, x ≤ j → wx.cell? ⟨g9, x, none⟩ = some (.int .i64 (sumN (usB f g) (k + 1) x))) := hide (fun x hx => hcell9 x _ (i64s_get _ _ _ (by omega)))
          have H99 := hide (And.intro hc9 (And.intro hg9 hg9'))
          have hbW : Below wx.heap.size wx (wx.alloc (.cells #[.slice (some ⟨g9, 0, none⟩) (j + 1) c9] 23)) := (Below.refl _ _).alloc (Nat.le_refl _) _
          have HOW := hide (owns_below (owns_below HO.out HB9.out) hbW)
          have HRW := hide ((HRw.out.below HB9.out).below hbW)
          have H9W : Hid (∀ x, x ≤ j → (wx.alloc (.cells #[.slice (some ⟨g9, 0, none⟩) (j + 1) c9] 23)).cell? ⟨g9, x, none⟩ = some (.int .i64 (sumN (usB f g) (k + 1) x))) := hide (fun x hx => kc hbW (H9c.out x hx))
          have HBx := hide (bt HB.out HB9.out)
          have HSx : Hid (w1.heap.size ≤ wx.heap.size) := hide HBx.out.size
          clear hc9 hg9 hg9' hcell9 hbW HO9 HB9 HUx
          go_wp2_with (at_builtin; refine wpList_append_own _ rfl _ _ 45 rfl w1.heap.size 23 i23 (.slice none 0 0) 1 24 Try.underlying45 hi23 hz23 hs23 hb23 rfl (by decide) _ _ _ rfl HOW.out ⟨wx.heap.size, 0, none⟩ 1 1 [.slice (some ⟨g9, 0, none⟩) (j + 1) c9] rfl rfl ?f1 ?f2 ?f3 ?f4 ?f5 ?_)
          case f1 =>
            intro j u hj
            match j, hj with
            | 0, hj => simp at hj; subst hj; simp [Addr.add]
          case f2 => intro u hu; simp at hu; subst hu; rfl
          case f3 => unfold maxLen; have := HN.out; omega
          case f4 => have := HN.out; omega
          case f5 => simp; have := HSx.out; omega
          intro v' w7 hown' hgrow _
          have HS7 : Hid (Sm w7 w1.heap.size v' j (k + 1 + 1) (usB f g)) := hide (sm_append HOW.out (Nat.succ_pos k) HRW.out HCp.out H9W.out H99.out.1 hown' hgrow)
          have HB7 := hide ((HBx.out.alloc HSx.out (.cells #[.slice (some ⟨g9, 0, none⟩) (j + 1) c9] 23)).grown hgrow (by simp; have := HSx.out; omega) (fun q hq => (HOW.out.lt q hq).1))
          clear hown' hgrow
          go_wp2_with fail
          go_roundw
          case rel => exact ⟨_, _, k + 1, rfl, rfl, by omega, by go_num, HS7.out, HB7.out⟩
          case measure => simp [intOf]; omega
    · obtain rfl : k = l := by omega
      have hbT : Hid (Below wr.heap.size wr (wr.alloc (.cells #[.slice (some ⟨g7, 0, none⟩) (k + 1) cap7] 47))) := hide ((Below.refl _ _).alloc (Nat.le_refl _) _)
      have HT : Hid (Tb (wr.alloc (.cells #[.slice (some ⟨g7, 0, none⟩) (k + 1) cap7] 47)) wr.heap.size n k (usB f g)) := hide
        ⟨g7, cap7, rb, rc, by simp [go_sem], fun i hi => kc hbT.out (HCl.out i _ (rowVs_get rb rc n (k + 1) i (by omega))), HRw.out.below hbT.out⟩
      go_wp2_with fail
      go_ret2
      exact ⟨_, rfl, HT.out, bt (bt HB1.out HB.out) hbT.out⟩
end Go.Proofs.Ytkajcbjacjfhnaa
