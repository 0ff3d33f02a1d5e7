/- The reference's usable. -/
import Derived.Test.YtkajcbjacjfhnaaIa
set_option linter.unusedVariables false
namespace Go.Proofs.Ytkajcbjacjfhnaa
open Go.RowKit Go.Ab
theorem Try.info111 : (Try.prog.info? 111).map (fun i => (i.zero, i.size, i.bytes)) = some (some (.agg #[.int .i64 0, .int .i64 0]), 2, 16) := by kernel_rfl
/-- cells in a row, two numbers each -/
def cells2 (cs : List (Nat × Nat)) : List Value := cs.flatMap fun c => [.int .i64 c.1, .int .i64 c.2]
theorem cells2_app (cs : List (Nat × Nat)) (c : Nat × Nat) : cells2 (cs ++ [c]) = cells2 cs ++ [.int .i64 c.1, .int .i64 c.2] := by unfold cells2; rw [List.flatMap_append]; simp
theorem cells2_get (cs : List (Nat × Nat)) (i : Nat) (h : i < cs.length) : (cells2 cs)[i * 2]? = some (.int .i64 (cs[i]).1) ∧ (cells2 cs)[i * 2 + 1]? = some (.int .i64 (cs[i]).2) := by
  induction cs generalizing i with
  | nil => simp at h
  | cons a t ih =>
    show ((.int .i64 (a.1 : Int)) :: (.int .i64 (a.2 : Int)) :: cells2 t)[i * 2]? = _ ∧ ((.int .i64 (a.1 : Int)) :: (.int .i64 (a.2 : Int)) :: cells2 t)[i * 2 + 1]? = _
    cases i with
    | zero => exact ⟨rfl, rfl⟩
    | succ i =>
      have := ih i (by simpa using h)
      rw [show (i + 1) * 2 = i * 2 + 1 + 1 by omega, show i * 2 + 1 + 1 + 1 = (i * 2 + 1) + 1 + 1 by omega]
      simpa using this
set_option maxRecDepth 20000 in
set_option maxHeartbeats 4000000 in
theorem rusable_is (bb off c n l g : Nat) (f : Nat → Nat → UInt8) (w : World) (hz : ZsAt w bb off l (rowS f n)) (hd : Dim (n, l, f)) (hg : Dg (n, l, f)) (h9 : g ≤ 9) :
    Calls Try.prog 88 #[.slice (some ⟨bb, off, none⟩) l c, .int .i64 g] w fun e w' => ∃ v, e = .returned v ∧ w'.ownsRow w.heap.size 111 2 v (usL f n g (l * n)).length (cells2 (usL f n g (l * n))) ∧ Below w.heap.size w w' := by
  obtain ⟨i3, hi3, hz3, hs3, hb3⟩ := info_parts Try.info111
  have HZ := hide hz
  have HN : Hid ((1 ≤ n ∧ 1 ≤ l) ∧ n ≤ 48 ∧ l ≤ 48) := hide ⟨⟨hd.1.1, hd.2.1⟩, hd.1.2, hd.2.2⟩
  have hsz : (rowS f n 0).size = n := rowS_size f n 0
  have h1n : 0 < l := hd.2.1
  have hn48 : (n : Int) ≤ 48 := by have := HN.out; omega
  have hl48 : (l : Int) ≤ 48 := by have := HN.out; omega
  have HD := hide hd
  have HG := hide hg
  have O0 : Hid (w.ownsRow w.heap.size 111 2 (.slice none 0 0) 0 (cells2 (usL f n g 0))) := hide ⟨rfl, .inl ⟨rfl, rfl⟩⟩
  clear hz hd hg h9
  go_enter Try.func88, Try.ntmps88
  go_wp2_with fail
  go_loopw [5, 10] (fun v i wr => ∃ (v5 : Value) (wq : World) (k : Nat), v5 = v ∧ wq = wr ∧ k ≤ l ∧ i = .int .i64 k ∧ wr.ownsRow w.heap.size 111 2 v (usL f n g (k * n)).length (cells2 (usL f n g (k * n))) ∧ Below w.heap.size w wr) (fun _ i _ => l - (intOf i).toNat)
  case atStart => exact ⟨_, _, 0, rfl, rfl, Nat.zero_le _, rfl, by rw [Nat.zero_mul]; exact O0.out, Below.refl _ _⟩
  case round =>
    clear O0
    obtain ⟨v5, wr, k, rfl, rfl, hk, rfl, ho, hbel⟩ := hrel
    have HO := hide ho; clear ho
    have HB := hide hbel; clear hbel
    have c0 := (HZ.out.below HB.out 0 h1n).1
    rw [Nat.add_zero] at c0
    by_cases hlt : k < l
    · obtain ⟨m0, hm0⟩ : ∃ m0, Hid (m0 = k * n) := ⟨_, rfl⟩
      rw [← hm0.out] at HO
      have HM : Hid (m0 + n ≤ 48 * 48) := hide (by
        rw [hm0.out]
        have h5 := Nat.mul_le_mul (show k + 1 ≤ 48 by have := HN.out; omega) HN.out.2.1
        rw [Nat.add_mul, Nat.one_mul] at h5; exact h5)
      go_wp2_with fail
      go_loopw [5, 17] (fun v i wx => ∃ (v5' : Value) (wq : World) (j : Nat), v5' = v ∧ wq = wx ∧ j ≤ n ∧ i = .int .i64 j ∧ wx.ownsRow w.heap.size 111 2 v (usL f n g (m0 + j)).length (cells2 (usL f n g (m0 + j))) ∧ Below w.heap.size w wx) (fun _ i _ => n - (intOf i).toNat)
      case atStart => exact ⟨_, _, 0, rfl, rfl, Nat.zero_le _, rfl, HO.out, HB.out⟩
      case round =>
        clear HO HB c0
        obtain ⟨v9, wx, j, rfl, rfl, hj, rfl, ho, hbel⟩ := hrel
        have HO := hide ho; clear ho
        have HB := hide hbel; clear hbel
        by_cases hlj : j < n
        · obtain ⟨D, hD⟩ : ∃ D : Int, Hid (D = ((f j k).toNat : Int) - 48) := ⟨_, rfl⟩
          have HC : Hid (Calls Try.prog 63 #[.slice (some ⟨bb, off, none⟩) l c, .int .i64 j, .int .i64 k] wx fun e w' => e = .returned (.int .i64 D) ∧ wx = w') := hide (by
            rw [hD.out]
            exact grade_sp _ (n, l, f) j k wx ⟨bb, off, c, rfl, HZ.out.below HB.out⟩ HD.out HG.out hlj hlt)
          have hbs : Hid (w.heap.size ≤ wx.heap.size) := hide HB.out.size
          cases hus : usB f g j k with
          | false =>
            have HM2 : Hid (usL f n g (m0 + (j + 1)) = usL f n g (m0 + j)) := hide (by rw [← Nat.add_assoc, hm0.out]; exact usL_no hlj hus)
            have hge : ¬ ((g : Int) ≤ D) := by
              have e := hus
              unfold usB at e
              rw [decide_eq_false_iff_not] at e
              have := hD.out; omega
            clear hus
            go_wp2_with (go_at_call 63; refine HC.out.mono ?_; rintro e w' ⟨rfl, rfl⟩)
            go_roundw
            case rel => exact ⟨_, _, j + 1, rfl, rfl, by omega, by go_num, by rw [HM2.out]; exact HO.out, HB.out⟩
            case measure => simp [intOf]; omega
          | true =>
            have HM2 : Hid (usL f n g (m0 + (j + 1)) = usL f n g (m0 + j) ++ [(j, k)]) := hide (by rw [← Nat.add_assoc, hm0.out]; exact usL_yes hlj hus)
            have hge : (g : Int) ≤ D := by
              have e := hus
              unfold usB at e
              rw [decide_eq_true_eq] at e
              have := hD.out; omega
            clear hus
            have hmj : (usL f n g (m0 + j)).length + 1 ≤ 2304 := by
              have := usL_le f n g (m0 + j)
              have := HM.out; omega
            go_wp2_with (first
              | (go_at_call 63; refine HC.out.mono ?_; rintro e w' ⟨rfl, rfl⟩)
              | (at_builtin; refine wpList_append_own _ rfl _ _ 100 rfl w.heap.size 111 i3 (.agg #[.int .i64 0, .int .i64 0]) 2 16 Try.underlying100 hi3 hz3 hs3 hb3 rfl (by decide) _ _ _ rfl (HO.out.alloc _) ⟨wx.heap.size, 0, none⟩ 1 1 [.int .i64 j, .int .i64 k] rfl rfl ?e1 ?e2 ?e3 ?e4 ?e5 ?_))
            case e1 =>
              intro j u hj
              match j, hj with
              | 0, hj => simp at hj; subst hj; simp [Addr.add]
              | 1, hj => simp at hj; subst hj; simp [Addr.add]
            case e2 => intro u hu; simp at hu; rcases hu with rfl | rfl <;> rfl
            case e3 => unfold maxLen; omega
            case e4 => omega
            case e5 => simp; have := hbs.out; omega
            intro v' w7 hown' hgrow _
            have HO3 : Hid (w7.ownsRow w.heap.size 111 2 v' (usL f n g (m0 + (j + 1))).length (cells2 (usL f n g (m0 + (j + 1))))) := hide (by rw [HM2.out, cells2_app, List.length_append]; exact hown')
            have HB3 := hide ((HB.out.alloc hbs.out (.cells #[.int .i64 j, .int .i64 k] 111)).grown hgrow (by simp; have := hbs.out; omega) (fun q hq => (HO.out.lt q hq).1))
            clear hown' hgrow
            go_wp2_with fail
            go_roundw
            case rel => exact ⟨_, _, j + 1, rfl, rfl, by omega, by go_num, HO3.out, HB3.out⟩
            case measure => simp [intOf]; omega
        · obtain rfl : j = n := by omega
          go_wp2_with fail
          go_roundw
          case rel => exact ⟨_, _, k + 1, rfl, rfl, by omega, by go_num, by rw [Nat.add_mul, Nat.one_mul, ← hm0.out]; exact HO.out, HB.out⟩
          case measure => simp [intOf]; omega
    · obtain rfl : k = l := by omega
      go_wp2_with fail
      go_ret
      exact ⟨_, rfl, HO.out, HB.out⟩
end Go.Proofs.Ytkajcbjacjfhnaa
