/- reaches. -/
import Derived.Test.YtkajcbjacjfhnaaIx
import Derived.Test.YtkajcbjacjfhnaaIi
set_option linter.unusedVariables false
namespace Go.Proofs.Ytkajcbjacjfhnaa
open Go.RowKit Go.Ab
/-- rows of numbers in memory, made one by one -/
def Rwf (W : World) (rb : Nat → Nat) (n k : Nat) (F : Nat → Nat → Int) : Prop := ∀ i, i < k → ∀ x, x ≤ n → W.cell? ⟨rb i, x, none⟩ = some (.int .i64 (F i x))
theorem Rwf.below {W W' : World} {rb : Nat → Nat} {n k : Nat} {F : Nat → Nat → Int} (h : Rwf W rb n k F) (hb : Below W.heap.size W W') : Rwf W' rb n k F := fun i hi x hx => kc hb (h i hi x hx)
def Smf (W : World) (B : Nat) (v : Value) (n k : Nat) (F : Nat → Nat → Int) : Prop := (k = 0 → v = .slice none 0 0) ∧ ∃ rb rc, W.ownsRow B 23 1 v k (rowVs rb rc n k) ∧ Rwf W rb n k F ∧ ∀ i, i < k → B ≤ rb i
theorem smf_append {W w7 : World} {B n k g9 c9 : Nat} {v v' : Value} {F : Nat → Nat → Int} {rb rc : Nat → Nat} (h0 : k = 0 → v = .slice none 0 0) (ho : W.ownsRow B 23 1 v k (rowVs rb rc n k)) (hr : Rwf W rb n k F)
    (h9 : ∀ x, x ≤ n → W.cell? ⟨g9, x, none⟩ = some (.int .i64 (F k x))) (hown : w7.ownsRow B 23 1 v' (k + 1) (rowVs rb rc n k ++ [.slice (some ⟨g9, 0, none⟩) (n + 1) c9])) (hgrow : W.grownBy w7 v.ownBlock) (hlo : ∀ i, i < k → B ≤ rb i) (h9B : B ≤ g9) : Smf w7 B v' n (k + 1) F := by
  have keep : ∀ b x z, (W.cell? ⟨b, 0, none⟩ = some (.int .i64 z)) → ∀ y, W.cell? ⟨b, x, none⟩ = some (.int .i64 y) → w7.cell? ⟨b, x, none⟩ = some (.int .i64 y) := by
    intro b x z hz y hy
    refine hgrow.cell hy ?_
    by_cases hk : k = 0
    · rw [h0 hk]; intro e; cases e
    · obtain ⟨g, cap, rfl, _, _, _, hcell⟩ := own_slice ho (by omega)
      have c0 := hcell 0 _ (rowVs_get rb rc n k 0 (by omega))
      intro e
      injection e with e
      subst e
      rw [hz] at c0
      cases c0
  refine ⟨fun h => by omega, _, _, by rw [← rowVs_succ]; exact hown, fun i hi x hx => ?_, fun i hi => by
    by_cases e : i = k
    · simp only [if_pos e]; exact h9B
    · simp only [if_neg e]; exact hlo i (by omega)⟩
  by_cases e : i = k
  · subst e
    simp only [if_true]
    exact keep _ x _ (h9 0 (Nat.zero_le _)) _ (h9 x hx)
  · simp only [if_neg e]
    exact keep _ x _ (hr i (by omega) 0 (Nat.zero_le _)) _ (hr i (by omega) x hx)
theorem row_below {w w' : World} {b t n : Nat} {g : Nat → Value} (h : w.rowIs b t n g) (hb : Below w.heap.size w w') : w'.rowIs b t n g := by
  obtain ⟨c, h1, h2, h3⟩ := h
  exact ⟨c, (hb.block b (lt_of_block h1)).trans h1, h2, h3⟩
/-- rows of numbers in memory -/
def Rt (W : World) (v : Value) (n l : Nat) (F : Nat → Nat → Int) (L : Nat) : Prop := ∃ sb sc rb rc, v = .slice (some ⟨sb, 0, none⟩) l sc ∧ (∀ i, i < l → W.cell? ⟨sb, i, none⟩ = some (rowV rb rc n i)) ∧ Rwf W rb n l F ∧ L ≤ sb ∧ ∀ i, i < l → L ≤ rb i
def rcF (f : Nat → Nat → UInt8) (g n : Nat) (y x : Nat) : Int := (rcX (usB f g) n y x : Int)
theorem news2 (w : World) (v : Value) (t : TypeId) : ∀ j u, ([v] : List Value)[j]? = some u → (w.alloc (.cells #[v] t)).cell? ((⟨w.heap.size, 0, none⟩ : Addr).add j) = some u := by
  intro j u hj
  match j, hj with
  | 0, hj => simp at hj; subst hj; simp [Addr.add]
theorem one2 (v : Value) (h : v.oneCell' = true) : ∀ u ∈ ([v] : List Value), u.oneCell' = true := by
  intro u hu; simp at hu; subst hu; exact h
set_option maxRecDepth 20000 in
set_option maxHeartbeats 4000000 in
theorem reaches_is (bb off c n l g : Nat) (f : Nat → Nat → UInt8) (w : World) (hz : ZsAt w bb off l (rowS f n)) (hd : Dim (n, l, f)) (h9 : g ≤ 9) :
    Calls Try.prog 132 #[.slice (some ⟨bb, off, none⟩) l c, .int .i64 g] w fun e w' => ∃ v, e = .returned v ∧ Rt w' v n l (rcF f g n) w.heap.size ∧ Below w.heap.size w w' := by
  obtain ⟨i23, hi23, hz23, hs23, hb23⟩ := info_parts Try.info23
  have HZ := hide hz
  have HN : Hid ((1 ≤ n ∧ 1 ≤ l) ∧ n ≤ 48 ∧ l ≤ 48) := hide ⟨⟨hd.1.1, hd.2.1⟩, hd.1.2, hd.2.2⟩
  have H9 := hide h9
  have bn : (n : Int) ≤ 48 := by have := HN.out; omega
  have bl : (l : Int) ≤ 48 := by have := HN.out; omega
  have hmk : ∀ w, (Instr.makeSlice 23 (.int .i64 ((n : Int) + 1)) (.int .i64 ((n : Int) + 1))).run Try.prog w = .ok (.slice (some ⟨w.heap.size, 0, none⟩) (n + 1) (n + 1)) (w.alloc (.cells (madeCells #[.int .i64 0] (n + 1)) 3)) := fun w => run_make_row' 23 3 _ 8 Try.underlying23 Try.info3 rfl .i64 .i64 (n + 1) (by omega) (by omega) w
  clear hz hd h9
  go_enter Try.func132, Try.ntmps132
  go_wp2_with fail
  refine (usableAt_is bb off l c n g f _ HZ.out HN.out.1.2 H9.out).mono ?_
  rintro e w1 ⟨b1, b2, b3, rfl, hu, hbs, hb⟩
  have HU := hide hu
  have HB1 := hide hb
  have HZ1 := hide (HZ.out.below hb)
  clear hu hbs hb
  have S0 : Hid (Smf w1 w1.heap.size (.slice none 0 0) n 0 (rcF f g n)) := hide ⟨fun _ => rfl, fun _ => 0, fun _ => 0, ⟨rfl, .inl ⟨rfl, rfl⟩⟩, fun i hi => by omega, fun i hi => by omega⟩
  go_wp2_with fail
  go_loopw [6, 16] (fun v i wr => ∃ (v7 : Value) (wq : World) (k : Nat), v7 = v ∧ wq = wr ∧ k ≤ l ∧ i = .int .i64 k ∧ Smf wr w1.heap.size v n k (rcF f g n) ∧ Below w1.heap.size w1 wr) (fun _ i _ => l - (intOf i).toNat)
  case atStart => exact ⟨_, _, 0, rfl, rfl, Nat.zero_le _, rfl, S0.out, Below.refl _ _⟩
  case round =>
    clear S0
    obtain ⟨v7, wr, k, rfl, rfl, hk, rfl, ⟨h0, rb, rc, ho, hr, hlo⟩, hbel⟩ := hrel
    have HLo := hide hlo
    clear hlo
    have HB := hide hbel
    have HO := hide ho
    have HRw := hide hr
    have H0 := hide h0
    clear hbel ho hr h0
    by_cases hlt : k < l
    · have ck := (HZ1.out.below HB.out k hlt).1
      have zk : (rowS f n k).size = n := rowS_size _ _ _
      obtain ⟨B1, eB1⟩ : ∃ B1, Hid (B1 = wr.heap.size) := ⟨_, hide rfl⟩
      have R0 := hide (World.rowIs_made wr (.int .i64 0) (n + 1) 3)
      have RB : Hid (Below wr.heap.size wr (wr.alloc (.cells (madeCells #[.int .i64 0] (n + 1)) 3))) := hide ((Below.refl _ _).alloc (Nat.le_refl _) _)
      have bbw : bb < wr.heap.size := World.block_lt_of_cell? _ _ ck
      go_wp2_with fail
      rw [← eB1.out]
      go_loopw [10] (fun i wx => ∃ (wq : World) (d : Nat), wq = wx ∧ d ≤ n ∧ i = .int .i64 ((n : Int) - 1 - (d : Int)) ∧ wx.rowIs B1 3 (n + 1) (fun i => if n - d ≤ i then .int .i64 (rcF f g n k i) else .int .i64 0) ∧ Below B1 wr wx ∧ B1 < wx.heap.size) (fun i _ => (intOf i + 1).toNat)
      case atStart => exact ⟨_, 0, rfl, Nat.zero_le _, by simp, by
        rw [eB1.out]
        exact R0.out.congr fun i hi => by
          by_cases e : n - 0 ≤ i
          · rw [if_pos e]
            obtain rfl : i = n := by omega
            unfold rcF; rw [rcX_end]; rfl
          · rw [if_neg e], by rw [eB1.out]; exact RB.out, by rw [eB1.out]; simp⟩
      case round =>
        clear R0 RB
        obtain ⟨wx, d, rfl, hd, rfl, hri, hb9, hs9⟩ := hrel
        have HRr := hide hri
        have HB9 : Hid (Below wr.heap.size wr wx) := hide (by rw [← eB1.out]; exact hb9)
        have HS9 := hide hs9
        clear hri hb9 hs9
        have HUx := hide (us_step (us_step HU.out HB.out) HB9.out)
        by_cases hdn : d < n
        · obtain ⟨p, hp⟩ : ∃ p : Nat, Hid (p = n - 1 - d) := ⟨_, hide rfl⟩
          have hpn : p < n := by rw [hp.out]; omega
          have hpi : (n : Int) - 1 - (d : Int) = (p : Int) := by rw [hp.out]; omega
          have hp48 : (p : Int) ≤ 48 := by omega
          have hent := ent123
          go_wp2_with fail
          refine (us_in b1 b2 b3 bb off l c n g p k f _ HUx.out HN.out.2.1 HN.out.2.2 hpn hlt).mono ?_
          rintro e w4 ⟨rfl, hb4⟩
          have HR4 := hide (row_below HRr.out hb4)
          have HB4 := hide (bt HB9.out hb4)
          have HS4 : Hid (B1 < w4.heap.size) := hide (Nat.lt_of_lt_of_le HS9.out hb4.size)
          clear hb4 HRr HB9 HUx hent
          cases hus : usB f g p k with
          | false =>
            have HR5 : Hid (w4.rowIs B1 3 (n + 1) (fun i => if n - (d + 1) ≤ i then .int .i64 (rcF f g n k i) else .int .i64 0)) := hide (HR4.out.congr fun i hi => by
              by_cases e : n - d ≤ i
              · rw [if_pos e, if_pos (by omega)]
              · rw [if_neg e]
                by_cases e2 : n - (d + 1) ≤ i
                · rw [if_pos e2]
                  obtain rfl : i = p := by rw [hp.out]; omega
                  unfold rcF; rw [rcX_step _ _ _ _ hpn, hus]; rfl
                · rw [if_neg e2])
            clear hus
            go_wp2_with fail
            go_roundw
            case rel => exact ⟨_, d + 1, rfl, by omega, by congr 1; omega, HR5.out, by rw [eB1.out]; exact HB4.out, HS4.out⟩
            case measure => simp [intOf]; omega
          | true =>
            obtain ⟨A, eA⟩ : ∃ A : Nat, Hid (A = rcX (usB f g) n k (p + 1)) := ⟨_, hide rfl⟩
            have bA : (A : Int) ≤ 48 := by
              have := rcX_le (usB f g) n k _ (p + 1) rfl
              rw [eA.out]; omega
            have hcell : w4.cell? ⟨B1, p + 1, none⟩ = some (.int .i64 (A : Int)) := by
              have := HR4.out.cell (show p + 1 < n + 1 by omega)
              rw [if_pos (by rw [hp.out]; omega)] at this
              rw [this, eA.out]; rfl
            have hcp : w4.cell? ⟨B1, p, none⟩ = some (.int .i64 0) := by
              have := HR4.out.cell (show p < n + 1 by omega)
              rw [if_neg (by rw [hp.out]; omega)] at this
              exact this
            have hfz := HR4.out.frozen p
            have HR5 : Hid ((w4.setCell ⟨B1, p, none⟩ (.int .i64 ((A : Int) + 1))).rowIs B1 3 (n + 1) (fun i => if n - (d + 1) ≤ i then .int .i64 (rcF f g n k i) else .int .i64 0)) := hide ((HR4.out.set p (.int .i64 ((A : Int) + 1))).congr fun i hi => by
              by_cases e : i = p
              · subst e
                rw [if_pos rfl, if_pos (by rw [hp.out]; omega)]
                unfold rcF; rw [rcX_step _ _ _ _ hpn, hus, eA.out]; simp
              · rw [if_neg e]
                by_cases e2 : n - d ≤ i
                · rw [if_pos e2, if_pos (by omega)]
                · rw [if_neg e2, if_neg (by have := hp.out; omega)])
            have HB5 : Hid (Below B1 wr (w4.setCell ⟨B1, p, none⟩ (.int .i64 ((A : Int) + 1)))) := hide (by
              have e1 : Below B1 wr w4 := by rw [eB1.out]; exact HB4.out
              exact e1.setCell (p := ⟨B1, p, none⟩) (Nat.le_refl _) _)
            have hs5 : Hid (B1 < (w4.setCell ⟨B1, p, none⟩ (.int .i64 ((A : Int) + 1))).heap.size) := hide (by simp [World.setCell]; exact HS4.out)
            clear hus
            go_wp2_with fail
            go_roundw
            case rel => exact ⟨_, d + 1, rfl, by omega, by congr 1; omega, HR5.out, HB5.out, hs5.out⟩
            case measure => simp [intOf]; omega
        · obtain rfl : d = n := by omega
          have H9c : Hid (∀ x, x ≤ d → wx.cell? ⟨B1, x, none⟩ = some (.int .i64 (rcF f g d k x))) := hide (fun x hx => by
            have := HRr.out.cell (show x < d + 1 by omega)
            rw [if_pos (by omega)] at this
            exact this)
          have hbW : Below wx.heap.size wx (wx.alloc (.cells #[.slice (some ⟨B1, 0, none⟩) (d + 1) (d + 1)] 23)) := (Below.refl _ _).alloc (Nat.le_refl _) _
          have HOW := hide (owns_below (owns_below HO.out HB9.out) hbW)
          have HRW := hide ((HRw.out.below HB9.out).below hbW)
          have H9W : Hid (∀ x, x ≤ d → (wx.alloc (.cells #[.slice (some ⟨B1, 0, none⟩) (d + 1) (d + 1)] 23)).cell? ⟨B1, x, none⟩ = some (.int .i64 (rcF f g d k x))) := hide (fun x hx => kc hbW (H9c.out x hx))
          have HBx := hide (bt HB.out HB9.out)
          have HSx : Hid (w1.heap.size ≤ wx.heap.size) := hide HBx.out.size
          have hneg : ¬ (0 : Int) ≤ (d : Int) - 1 - (d : Int) := by omega
          have hA : Hid (k + 1 ≤ maxLen ∧ (k + 1) * 24 ≤ 140737488355328 ∧ w1.heap.size ≤ (wx.alloc (.cells #[.slice (some ⟨B1, 0, none⟩) (d + 1) (d + 1)] 23)).heap.size) := hide ⟨by unfold maxLen; have := HN.out; omega, by have := HN.out; omega, by simp; have := HSx.out; omega⟩
          clear hbW HB9 HUx
          go_wp2_with (at_builtin; refine wpList_append_own _ rfl _ _ 45 rfl w1.heap.size 23 i23 (.slice none 0 0) 1 24 Try.underlying45 hi23 hz23 hs23 hb23 rfl (by decide) _ _ _ rfl HOW.out ⟨wx.heap.size, 0, none⟩ 1 1 [.slice (some ⟨B1, 0, none⟩) (d + 1) (d + 1)] rfl rfl (news2 _ _ _) (one2 _ rfl) hA.out.1 hA.out.2.1 hA.out.2.2 ?_)
          intro v' w7 hown' hgrow _
          have HS7 : Hid (Smf w7 w1.heap.size v' d (k + 1) (rcF f g d)) := hide (smf_append H0.out HOW.out HRW.out H9W.out hown' hgrow HLo.out (by rw [eB1.out]; exact HB.out.size))
          have HB7 := hide ((HBx.out.alloc HSx.out (.cells #[.slice (some ⟨B1, 0, none⟩) (d + 1) (d + 1)] 23)).grown hgrow (by simp; have := HSx.out; omega) (fun q hq => (HOW.out.lt q hq).1))
          clear hown' hgrow
          go_wp2_with fail
          go_roundw
          case rel => exact ⟨_, _, k + 1, rfl, rfl, by omega, by go_num, HS7.out, HB7.out⟩
          case measure => simp [intOf]; omega
    · obtain rfl : k = l := by omega
      obtain ⟨g7, cap7, rfl, _, hg7, _, hcell⟩ := own_slice HO.out HN.out.1.2
      have HRt : Hid (Rt wr (.slice (some ⟨g7, 0, none⟩) k cap7) n k (rcF f g n) w.heap.size) := hide ⟨g7, cap7, rb, rc, rfl, fun i hi => hcell i _ (rowVs_get rb rc n k i hi), HRw.out, Nat.le_trans HB1.out.size hg7, fun i hi => Nat.le_trans HB1.out.size (HLo.out i hi)⟩
      clear hg7
      clear hcell
      go_wp2_with fail
      go_ret
      exact ⟨_, rfl, HRt.out, bt HB1.out HB.out⟩
end Go.Proofs.Ytkajcbjacjfhnaa
