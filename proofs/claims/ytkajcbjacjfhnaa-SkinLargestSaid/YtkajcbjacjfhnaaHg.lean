/- The reference's Mirror. -/
import Derived.Test.YtkajcbjacjfhnaaHf
set_option linter.unusedVariables false
namespace Go.Proofs.Ytkajcbjacjfhnaa
open Go.RowKit Go.Ab
theorem Try.info3 : (Try.prog.info? 3).map (fun i => (i.zero, i.size, i.bytes)) = some (some (.int .i64 0), 1, 8) := by kernel_rfl
def i64s (ns : Nat → Int) (k : Nat) : List Value := (List.range k).map fun i => Value.int .i64 (ns i)
theorem i64s_succ (ns : Nat → Int) (k : Nat) : i64s ns (k + 1) = i64s ns k ++ [.int .i64 (ns k)] := by
  unfold i64s; rw [List.range_succ, List.map_append]; rfl
theorem i64s_get (ns : Nat → Int) (k i : Nat) (h : i < k) : (i64s ns k)[i]? = some (.int .i64 (ns i)) := by
  unfold i64s; rw [List.getElem?_map, List.getElem?_range h]; rfl
theorem nums_in {p : Nat × Nat × (Nat → Nat → UInt8)} (i : Nat) : In64 (nums p i) := by
  unfold nums In64
  have : (p.2.2 (i % p.1) (i / p.1)).toNat < 256 := UInt8.toNat_lt _
  omega
theorem ps_of_owns {w : World} {B m : Nat} {v : Value} {p : Nat × Nat × (Nat → Nat → UInt8)} (h : w.ownsRow B 3 1 v m (i64s (nums p) m)) (hm : 1 ≤ m) : ∃ b c, v = .slice (some ⟨b, 0, none⟩) m c ∧ PsAt w b 0 m (nums p) := by
  obtain ⟨h1, ⟨rfl, h0⟩ | ⟨g, cap, cur, rfl, hg, hc, hnc, hx, hs, ht⟩⟩ := h
  · omega
  · refine ⟨g, cap, rfl, fun i hi => ⟨?_, nums_in i⟩⟩
    rw [Nat.zero_add, cell_of_row w g i cur 3 (0, 0) hc, ← Array.getElem?_toList]
    have : cur.toList[i]? = (cur.toList.take (m * 1))[i]? := by rw [List.getElem?_take, if_pos (by omega)]
    rw [this, ht, i64s_get _ _ _ hi]
theorem grade_sp (v : Value) (p : Nat × Nat × (Nat → Nat → UInt8)) (x y : Nat) (w : World) (hs : Sp w v p) (hd : Dim p) (hg : Dg p) (hx : x < p.1) (hy : y < p.2.1) :
    Calls Try.prog 63 #[v, .int .i64 x, .int .i64 y] w fun e w' => e = .returned (.int .i64 (((p.2.2 x y).toNat : Int) - 48)) ∧ w = w' := by
  obtain ⟨b, off, c, rfl, hz⟩ := hs
  obtain ⟨g1, g2⟩ := hg x y hx hy
  have hsz : (rowS p.2.2 p.1 y).size = p.1 := rowS_size _ _ _
  have hlt : x < (rowS p.2.2 p.1 y).size := by rw [hsz]; exact hx
  have := grade_in b off p.2.1 c x y (rowS p.2.2 p.1) w ((p.2.2 x y).toNat - 48) hz hd.2.2 hy hlt (by rw [hsz, rowS_size]) (by rw [get_in hlt, get_row _ _ _ _ hx]; omega) (by omega)
  refine this.mono fun e w' ⟨h1, h2⟩ => ⟨?_, h2⟩
  rw [h1]
  congr 2
  omega
theorem rvalid_sp (v : Value) (p : Nat × Nat × (Nat → Nat → UInt8)) (w : World) (hs : Sp w v p) (hv : validB p.2.1 (rowS p.2.2 p.1) = true) :
    Calls Try.prog 23 #[v] w fun e w' => e = .returned (.bool true) ∧ w = w' := by
  obtain ⟨b, off, c, rfl, hz⟩ := hs
  rw [← hv]
  exact rvalid_any b off p.2.1 c _ w hz
theorem Sp.below {w w' : World} {v : Value} {p : Nat × Nat × (Nat → Nat → UInt8)} (h : Sp w v p) (hb : Below w.heap.size w w') : Sp w' v p := Sk.below h hb
def mir (p : Nat × Nat × (Nat → Nat → UInt8)) : Nat × Nat × (Nat → Nat → UInt8) := (p.1, p.2.1, fun x y => p.2.2 (p.1 - 1 - x) y)
theorem mirror_sp (v : Value) (p : Nat × Nat × (Nat → Nat → UInt8)) (w : World) (hs : Sp w v p) (hd : Dim p) (hv : validB p.2.1 (rowS p.2.2 p.1) = true) :
    Calls Try.prog 34 #[v] w fun e w' => ∃ v, e = .returned (.tuple #[v, .int .i64 0]) ∧ Sp w' v (mir p) ∧ Below w.heap.size w w' := by
  obtain ⟨b, off, c, rfl, hz⟩ := hs
  exact mirror_is b off p.2.1 c p.1 p.2.2 w hz hd.2.1 hd.2.2 hd.1.2 hv
set_option maxRecDepth 20000 in
set_option maxHeartbeats 4000000 in
theorem rmirror_sp (b off c n l : Nat) (f : Nat → Nat → UInt8) (w : World) (hz : ZsAt w b off l (rowS f n)) (hd : Dim (n, l, f)) (hg : Dg (n, l, f)) (hv : validB l (rowS f n) = true) :
    Calls Try.prog 35 #[.slice (some ⟨b, off, none⟩) l c] w fun e w' => ∃ v, e = .returned (.tuple #[v, .int .i64 0]) ∧ Sp w' v (mir (n, l, f)) ∧ Below w.heap.size w w' := by
  obtain ⟨i3, hi3, hz3, hs3, hb3⟩ := info_parts Try.info3
  have hS : Hid (Sp w (.slice (some ⟨b, off, none⟩) l c) (n, l, f)) := hide ⟨b, off, c, rfl, hz⟩
  have c0 := (hz 0 hd.2.1).1
  rw [Nat.add_zero] at c0
  have hsz : (rowS f n 0).size = n := rowS_size f n 0
  have h1n : 0 < l := hd.2.1
  have h2 : l ≤ 48 := hd.2.2
  have h3 : n ≤ 48 := hd.1.2
  have HL : Hid (1 ≤ l ∧ l ≤ 48 ∧ 1 ≤ n ∧ n ≤ 48) := hide ⟨hd.2.1, hd.2.2, hd.1.1, hd.1.2⟩
  have HV := hide hv
  have HZ := hide hz
  have HD := hide hd
  have HG := hide hg
  clear hz hv hd hg
  have O0 : Hid (w.ownsRow w.heap.size 3 1 (.slice none 0 0) 0 (i64s (nums (mir (n, l, f))) 0)) := hide ⟨rfl, .inl ⟨rfl, rfl⟩⟩
  go_enter Try.func35, Try.ntmps35
  go_wp2_with (go_at_call 23; refine (rvalid_any b off l c _ _ HZ.out).mono ?_; rintro e w' ⟨rfl, rfl⟩; rw [HV.out])
  go_loopw [5, 17] (fun v i wr => ∃ (v5 : Value) (wq : World) (k : Nat), v5 = v ∧ wq = wr ∧ k ≤ l ∧ i = .int .i64 k ∧ wr.ownsRow w.heap.size 3 1 v (k * n) (i64s (nums (mir (n, l, f))) (k * n)) ∧ Below w.heap.size w wr) (fun _ i _ => l - (intOf i).toNat)
  case atStart => exact ⟨_, _, 0, rfl, rfl, Nat.zero_le _, rfl, by rw [Nat.zero_mul]; exact O0.out, Below.refl _ _⟩
  case round =>
    clear O0
    obtain ⟨v5, wr, k, rfl, rfl, hk, rfl, ho, hbel⟩ := hrel
    have HO := hide ho; clear ho
    have HB := hide hbel; clear hbel
    by_cases hlt : k < l
    · obtain ⟨m0, hm0⟩ : ∃ m0, Hid (m0 = k * n) := ⟨_, rfl⟩
      rw [← hm0.out] at HO
      have HM : Hid (m0 + n ≤ 48 * 48) := hide (by
        rw [hm0.out]
        have h5 := Nat.mul_le_mul (show k + 1 ≤ 48 by omega) h3
        rw [Nat.add_mul, Nat.one_mul] at h5; exact h5)
      go_wp2_with fail
      go_loopw [5, 21] (fun v i wx => ∃ (v5' : Value) (wq : World) (j : Nat), v5' = v ∧ wq = wx ∧ j ≤ n ∧ i = .int .i64 j ∧ wx.ownsRow w.heap.size 3 1 v (m0 + j) (i64s (nums (mir (n, l, f))) (m0 + j)) ∧ Below w.heap.size w wx) (fun _ i _ => n - (intOf i).toNat)
      case atStart => exact ⟨_, _, 0, rfl, rfl, Nat.zero_le _, rfl, HO.out, HB.out⟩
      case round =>
        clear HO HB
        obtain ⟨v9, wx, j, rfl, rfl, hj, rfl, ho, hbel⟩ := hrel
        have HO := hide ho; clear ho
        have HB := hide hbel; clear hbel
        by_cases hlj : j < n
        · obtain ⟨r, hr⟩ : ∃ r, Hid (r = n - 1 - j) := ⟨_, rfl⟩
          have hri : (n : Int) - 1 - (j : Int) = (r : Int) := by rw [hr.out]; omega
          have hrn : r < n := by rw [hr.out]; omega
          have hw64 : IntKind.i64.wrap (r : Int) = (r : Int) := IntWalk.i64_in _ (by omega)
          have hw64b : wrap64 (r : Int) = (r : Int) := IntWalk.wrap64_in _ (by omega)
          have HE : Hid (nums (mir (n, l, f)) (m0 + j) = ((f r k).toNat : Int) - 48) := hide (by rw [hm0.out, hr.out]; exact nums_at (mir (n, l, f)) j k hlj)
          have HC : Hid (Calls Try.prog 63 #[.slice (some ⟨b, off, none⟩) l c, .int .i64 r, .int .i64 k] wx fun e w' => e = .returned (.int .i64 (nums (mir (n, l, f)) (m0 + j))) ∧ wx = w') := hide (by rw [HE.out]; exact grade_sp _ (n, l, f) r k wx (hS.out.below HB.out) HD.out HG.out hrn hlt)
          obtain ⟨D, hD⟩ : ∃ D : Int, Hid (D = nums (mir (n, l, f)) (m0 + j)) := ⟨_, rfl⟩
          rw [← hD.out] at HC
          have hbs : Hid (w.heap.size ≤ wx.heap.size) := hide HB.out.size
          have hmj : m0 + j + 1 ≤ 2304 := by have := HM.out; omega
          go_wp2_with (first
            | (go_at_call 63; refine HC.out.mono ?_; rintro e w' ⟨rfl, rfl⟩)
            | (at_builtin; refine wpList_append_own _ rfl _ _ 23 rfl w.heap.size 3 i3 (.int .i64 0) 1 8 Try.underlying23 hi3 hz3 hs3 hb3 rfl (by decide) _ _ _ rfl (HO.out.alloc _) ⟨wx.heap.size, 0, none⟩ 1 1 [.int .i64 D] rfl rfl ?d1 ?d2 ?d3 ?d4 ?d5 ?_))
          case d1 =>
            intro j u hj
            match j, hj with
            | 0, hj => simp at hj; subst hj; simp [Addr.add]
          case d2 => intro u hu; simp at hu; subst hu; rfl
          case d3 => unfold maxLen; omega
          case d4 => omega
          case d5 => simp; have := hbs.out; omega
          intro v' w7 hown' hgrow _
          have HO2 : Hid (w7.ownsRow w.heap.size 3 1 v' (m0 + (j + 1)) (i64s (nums (mir (n, l, f))) (m0 + (j + 1)))) := hide (by rw [← Nat.add_assoc, i64s_succ, ← hD.out]; exact hown')
          have HB2 := hide ((HB.out.alloc hbs.out (.cells #[.int .i64 D] 3)).grown hgrow (by simp; have := hbs.out; omega) (fun q hq => (HO.out.lt q hq).1))
          clear hown' hgrow
          go_wp2_with fail
          go_roundw
          case rel => exact ⟨_, _, j + 1, rfl, rfl, by omega, by go_num, HO2.out, HB2.out⟩
          case measure => simp [intOf]; omega
        · obtain rfl : j = n := by omega
          go_wp2_with fail
          go_roundw
          case rel => exact ⟨_, _, k + 1, rfl, rfl, by omega, by go_num, by rw [Nat.add_mul, Nat.one_mul, ← hm0.out]; exact HO.out, HB.out⟩
          case measure => simp [intOf]; omega
    · obtain rfl : k = l := by omega
      have hm : 1 ≤ k * n := Nat.mul_pos HL.out.1 HL.out.2.2.1
      obtain ⟨cb, cc, rfl, hps⟩ := ps_of_owns HO.out hm
      have HPS := hide hps; clear hps
      obtain ⟨L, hL⟩ : ∃ L, Hid (L = k * n) := ⟨_, rfl⟩
      rw [← hL.out] at HPS ⊢
      have HDm : Hid (Dim (mir (n, k, f))) := HD
      have HGm : Hid (Dg (mir (n, k, f))) := hide fun x y hx hy => HG.out (n - 1 - x) y (by show n - 1 - x < n; have := HL.out; omega) hy
      go_wp2_with fail
      refine (rdrawn_is cb 0 cc L (mir (n, k, f)) _ HDm.out HGm.out (by rw [hL.out, Nat.mul_comm]; rfl) HPS.out).mono ?_
      rintro e w2 ⟨v2, rfl, hs2, hb2⟩
      have HS2 := hide hs2; clear hs2
      have HB2 := hide (bt HB.out hb2); clear hb2
      go_wp2_with fail
      exact bodyPost_ret (v := .tuple #[v2, .int .i64 0]) (by simp [results, Try.results35, go_sem]) rfl ⟨v2, rfl, HS2.out, HB2.out⟩
end Go.Proofs.Ytkajcbjacjfhnaa
