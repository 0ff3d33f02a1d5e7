/- The reference's drawn. -/
import Derived.Test.YtkajcbjacjfhnaaHe
set_option linter.unusedVariables false
namespace Go.Proofs.Ytkajcbjacjfhnaa
open Go.RowKit Go.Ab
/-- the numbers of a skin's cells, row by row -/
def nums (p : Nat × Nat × (Nat → Nat → UInt8)) (i : Nat) : Int := ((p.2.2 (i % p.1) (i / p.1)).toNat : Int) - 48
/-- digits -/
def Dg (p : Nat × Nat × (Nat → Nat → UInt8)) : Prop := ∀ x y, x < p.1 → y < p.2.1 → 48 ≤ (p.2.2 x y).toNat ∧ (p.2.2 x y).toNat ≤ 57
theorem nums_at (p : Nat × Nat × (Nat → Nat → UInt8)) (x y : Nat) (h : x < p.1) : nums p (y * p.1 + x) = ((p.2.2 x y).toNat : Int) - 48 := by
  unfold nums
  rw [Nat.mul_comm, Nat.mul_add_mod, Nat.mod_eq_of_lt h, Nat.mul_add_div (by omega), Nat.div_eq_of_lt h, Nat.add_zero]
theorem row_conv (w : World) (b n : Nat) (l : List UInt8) (g : Nat → Value) (h : w.rowIs b 5 n g) (hl : l.length = n) (hg : ∀ j (hj : j < l.length), g j = .int .u8 (l[j].toNat : Int)) :
    (convert 140 9 (.slice (some ⟨b, 0, none⟩) n n)).run Try.prog w = .ok (.string ⟨l.toArray⟩) w := by
  subst hl
  refine run_convert_bytes_back w 140 9 5 ⟨b, 0, none⟩ l.length l Try.underlying140 Try.underlying5 Try.underlying9 fun j hj => ?_
  have hadd : (⟨b, 0, none⟩ : Addr).add j = ⟨b, j, none⟩ := by unfold Addr.add; split <;> simp_all
  rw [hadd, h.cell hj, hg j hj]
theorem grown_set (w : World) (b j : Nat) (u : Value) : w.grownBy (w.setCell ⟨b, j, none⟩ u) (some b) :=
  ⟨rfl, rfl, rfl, by simp [World.setCell], fun k hk hne => Below.heap_setCell _ _ _ _ (by intro e; exact hne (by rw [e]))⟩
set_option maxRecDepth 20000 in
set_option maxHeartbeats 4000000 in
theorem rdrawn_is (b off c L : Nat) (p : Nat × Nat × (Nat → Nat → UInt8)) (w : World) (hd : Dim p) (hg : Dg p) (hL : L = p.1 * p.2.1) (hp : PsAt w b off L (nums p)) :
    Calls Try.prog 74 #[.int .i64 p.1, .int .i64 p.2.1, .slice (some ⟨b, off, none⟩) L c] w fun e w' => ∃ v, e = .returned v ∧ Sp w' v p ∧ Below w.heap.size w w' := by
  obtain ⟨i9, hi9, hz9, hs9, hb9⟩ := info_parts Try.info9
  obtain ⟨wd, ht, f⟩ := p
  simp only at hL ⊢
  have h1 : wd ≤ 48 := hd.1.2
  have h2 : ht ≤ 48 := hd.2.2
  have hmk2 : ∀ w, (Instr.makeSlice 140 (.int .i64 wd) (.int .i64 wd)).run Try.prog w = .ok (.slice (some ⟨w.heap.size, 0, none⟩) wd wd) (w.alloc (.cells (madeCells #[.int .u8 0] wd) 5)) := fun w => run_make_row' 140 5 _ 1 Try.underlying140 Try.info5 rfl .i64 .i64 wd (by omega) (by omega) w
  have HL := hide hL; clear hL
  have hLi : (L : Int) ≤ 2304 := by
    have := Nat.mul_le_mul h1 h2
    rw [← HL.out] at this; omega
  have HP := hide hp; clear hp
  have HD := hide hd; clear hd
  have HG := hide hg; clear hg
  have H48 := hide (And.intro h1 h2); clear h1 h2
  have O0 : Hid (w.ownsRow w.heap.size 9 1 (.slice none 0 0) 0 (strs f wd 0)) := hide ⟨rfl, .inl ⟨rfl, rfl⟩⟩
  go_enter Try.func74, Try.ntmps74
  go_wp2_with fail
  go_loopw [7, 12] (fun v i wr => ∃ (v7 : Value) (wq : World) (k : Nat), v7 = v ∧ wq = wr ∧ k ≤ ht ∧ i = .int .i64 k ∧ wr.ownsRow w.heap.size 9 1 v k (strs f wd k) ∧ Below w.heap.size w wr) (fun _ i _ => ht - (intOf i).toNat)
  case atStart => exact ⟨_, _, 0, rfl, rfl, Nat.zero_le _, rfl, O0.out, Below.refl _ _⟩
  case round =>
    obtain ⟨v7, wr, k, rfl, rfl, hk, rfl, ho, hbel⟩ := hrel
    have HO := hide ho; clear ho
    have HB := hide hbel; clear hbel
    by_cases hlt : k < ht
    · have HR0 := hide (World.rowIs_made wr (.int .u8 0) wd 5)
      have HF : Hid (∀ g, v7.ownBlock = some g → g < wr.heap.size) := hide fun g hg => (HO.out.lt g hg).2
      have HS : Hid (w.heap.size ≤ wr.heap.size) := hide HB.out.size
      have HB1 := hide (HB.out.alloc HB.out.size (.cells (madeCells #[.int .u8 0] wd) 5))
      have HO1 := hide (HO.out.alloc (.cells (madeCells #[.int .u8 0] wd) 5))
      obtain ⟨B1, hB1⟩ : ∃ B1, Hid (B1 = wr.heap.size) := ⟨_, rfl⟩
      obtain ⟨m0, hm0⟩ : ∃ m0, Hid (m0 = k * wd) := ⟨_, rfl⟩
      have hmi : (k : Int) * (wd : Int) = (m0 : Int) := by rw [hm0.out, Int.natCast_mul]
      have HM : Hid (m0 + wd ≤ L) := hide (by
        rw [hm0.out, HL.out, Nat.mul_comm k wd]
        have : wd * k + wd = wd * (k + 1) := by rw [Nat.mul_add, Nat.mul_one]
        rw [this]; exact Nat.mul_le_mul_left _ hlt)
      have hm1 : (m0 : Int) ≤ 2304 := by have := HM.out; omega
      go_wp2_with fail
      go_loopw [18] (fun i wx => ∃ (wq : World) (j : Nat), wq = wx ∧ B1 < wx.heap.size ∧ j ≤ wd ∧ i = .int .i64 j ∧ wx.rowIs B1 5 wd (fun i => if i < j then .int .u8 ((f i k).toNat : Int) else .int .u8 0) ∧ wx.ownsRow w.heap.size 9 1 v7 k (strs f wd k) ∧ Below w.heap.size w wx) (fun i _ => wd - (intOf i).toNat)
      case atStart => exact ⟨_, 0, rfl, by rw [hB1.out]; simp, Nat.zero_le _, rfl, by rw [hB1.out]; exact HR0.out.congr fun i hi => by simp, HO1.out, HB1.out⟩
      case round =>
        clear HR0
        obtain ⟨wx, j, rfl, hsx, hj, rfl, hr, ho, hbel⟩ := hrel
        have HRr := hide hr; clear hr
        have HO := hide ho; clear ho
        have HB := hide hbel; clear hbel
        rw [← hB1.out]
        by_cases hlj : j < wd
        · obtain ⟨q, hq⟩ : ∃ q, Hid (q = m0 + j) := ⟨_, rfl⟩
          have hqi : (m0 : Int) + (j : Int) = (q : Int) := by rw [hq.out]; omega
          have hqL : q < L := by rw [hq.out]; have := HM.out; omega
          have cq := (HP.out.below HB.out q hqL).1
          have HE : Hid (nums (wd, ht, f) q = ((f j k).toNat : Int) - 48) := hide (by rw [hq.out, hm0.out]; exact nums_at (wd, ht, f) j k hlj)
          have HGG : Hid (48 ≤ (f j k).toNat ∧ (f j k).toNat ≤ 57) := hide (HG.out j k hlj hlt)
          obtain ⟨D, hD⟩ : ∃ D : Int, Hid (D = nums (wd, ht, f) q) := ⟨_, rfl⟩
          rw [← hD.out] at cq
          have d0 : 0 ≤ D := by rw [hD.out, HE.out]; have := HGG.out; omega
          have d1 : D ≤ 9 := by rw [hD.out, HE.out]; have := HGG.out; omega
          obtain ⟨F, hF⟩ : ∃ F : Int, Hid (F = ((f j k).toNat : Int)) := ⟨_, rfl⟩
          have hw8 : IntKind.u8.wrap (48 + D) = F := by
            rw [hF.out, hD.out, HE.out]; have := HGG.out
            simp [IntKind.wrap, IntKind.bits, IntKind.signed]; omega
          have hcell := HRr.out.cell hlj
          have hfz := HRr.out.frozen j
          have HR2 : Hid ((wx.setCell ⟨B1, j, none⟩ (.int .u8 F)).rowIs B1 5 wd (fun i => if i < j + 1 then .int .u8 ((f i k).toNat : Int) else .int .u8 0)) := hide ((HRr.out.set j (.int .u8 F)).congr fun i hi => by
            by_cases e : i = j
            · subst e; rw [if_pos rfl, if_pos (by omega), hF.out]
            · rw [if_neg e]
              by_cases e2 : i < j
              · rw [if_pos e2, if_pos (by omega)]
              · rw [if_neg e2, if_neg (by omega)])
          have HO2 : Hid ((wx.setCell ⟨B1, j, none⟩ (.int .u8 F)).ownsRow w.heap.size 9 1 v7 k (strs f wd k)) := hide (HO.out.kept (grown_set wx B1 j _) (by
            cases e7 : v7.ownBlock with
            | none => exact .inl rfl
            | some g7 =>
              refine .inr fun e => ?_
              have a1 := HF.out g7 e7
              rw [← hB1.out] at a1
              injection e with e
              omega))
          have HB2 := hide (HB.out.setCell (p := ⟨B1, j, none⟩) (by rw [hB1.out]; exact HS.out) (.int .u8 F))
          have hs2 : B1 < (wx.setCell ⟨B1, j, none⟩ (.int .u8 F)).heap.size := by simp [World.setCell]; exact hsx
          clear HRr HO HB
          go_wp2_with fail
          go_roundw
          case rel => exact ⟨_, j + 1, rfl, hs2, by omega, by go_num, HR2.out, HO2.out, HB2.out⟩
          case measure => simp [intOf]; omega
        · obtain rfl : j = wd := by omega
          have hconv := row_conv wx B1 j (rowL f k j) _ HRr.out (rowL_len f k j) (fun i hi => by
            have : i < j := by rwa [rowL_len] at hi
            rw [if_pos this]; simp [rowL])
          have hbs : Hid (w.heap.size ≤ wx.heap.size) := hide HB.out.size
          have hk48 : k + 1 ≤ 48 := by have := H48.out; omega
          clear HRr
          go_wp2_with (at_builtin; refine wpList_append_own _ rfl _ _ 22 rfl w.heap.size 9 i9 (.string ByteArray.empty) 1 16 Try.underlying22 hi9 hz9 hs9 hb9 rfl (by decide) _ _ _ rfl (HO.out.alloc _) ⟨wx.heap.size, 0, none⟩ 1 1 [.string (rowS f j k)] rfl rfl ?d1 ?d2 ?d3 ?d4 ?d5 ?_)
          case d1 =>
            intro j u hj
            match j, hj with
            | 0, hj => simp at hj; subst hj; simp [Addr.add]; rfl
          case d2 => intro u hu; simp at hu; subst hu; rfl
          case d3 => unfold maxLen; omega
          case d4 => omega
          case d5 => simp; have := hbs.out; omega
          intro v' w7 hown' hgrow _
          have HO2 : Hid (w7.ownsRow w.heap.size 9 1 v' (k + 1) (strs f j (k + 1))) := hide (by rw [strs_succ]; exact hown')
          have HB2 := hide ((HB.out.alloc hbs.out (.cells #[.string (rowS f j k)] 9)).grown hgrow (by simp; have := hbs.out; omega) (fun q hq => (HO.out.lt q hq).1))
          clear hown' hgrow
          go_wp2_with fail
          go_roundw
          case rel => exact ⟨_, _, k + 1, rfl, rfl, by omega, by go_num, HO2.out, HB2.out⟩
          case measure => simp [intOf]; omega
    · obtain rfl : k = ht := by omega
      go_wp2_with fail
      go_ret
      exact ⟨_, rfl, sk_of_owns HO.out HD.out.2.1 H48.out.1, HB.out⟩
end Go.Proofs.Ytkajcbjacjfhnaa
