/- A skin drawn by a closure, cell by cell. -/
import Derived.Test.YtkajcbjacjfhnaaGj
import Derived.Deep.AppendLies
import Derived.Deep.OwnRows
import Derived.Lib.JoinLaws
import Derived.Laws.IdiomStrings
import Derived.OwnWalk
set_option linter.unusedVariables false
namespace Go.Proofs.Ytkajcbjacjfhnaa
open Go.RowKit Go.Ab
def rowL (f : Nat → Nat → UInt8) (y k : Nat) : List UInt8 := (List.range k).map fun x => f x y
def rowS (f : Nat → Nat → UInt8) (wd y : Nat) : ByteArray := ⟨(rowL f y wd).toArray⟩
def u8s (l : List UInt8) : List Value := l.map fun b => .int .u8 (b.toNat : Int)
def strs (f : Nat → Nat → UInt8) (wd k : Nat) : List Value := (List.range k).map fun y => .string (rowS f wd y)
theorem rowL_len (f : Nat → Nat → UInt8) (y k : Nat) : (rowL f y k).length = k := by unfold rowL; simp
theorem rowL_succ (f : Nat → Nat → UInt8) (y k : Nat) : rowL f y (k + 1) = rowL f y k ++ [f k y] := by unfold rowL; rw [List.range_succ, List.map_append]; rfl
theorem u8s_app (a : List UInt8) (b : UInt8) : u8s (a ++ [b]) = u8s a ++ [.int .u8 (b.toNat : Int)] := by unfold u8s; rw [List.map_append]; rfl
theorem strs_succ (f : Nat → Nat → UInt8) (wd k : Nat) : strs f wd (k + 1) = strs f wd k ++ [.string (rowS f wd k)] := by unfold strs; rw [List.range_succ, List.map_append]; rfl
theorem strs_len (f : Nat → Nat → UInt8) (wd k : Nat) : (strs f wd k).length = k := by unfold strs; simp
theorem owns_below {w w' : World} {B e k n : Nat} {v : Value} {xs : List Value} (h : w.ownsRow B e k v n xs) (hb : Below w.heap.size w w') : w'.ownsRow B e k v n xs := by
  obtain ⟨hl, h | ⟨g, cap, cur, hv, hg, hc, r⟩⟩ := h
  · exact ⟨hl, .inl h⟩
  · refine ⟨hl, .inr ⟨g, cap, cur, hv, hg, ?_, r⟩⟩
    have : g < w.heap.size := by
      rcases Nat.lt_or_ge g w.heap.size with h1 | h1
      · exact h1
      · simp [h1] at hc
    rw [hb.block g this]; exact hc
theorem Try.info5 : (Try.prog.info? 5).map (fun i => (i.zero, i.size, i.bytes)) = some (some (.int .u8 0), 1, 1) := by kernel_rfl
theorem Try.info9 : (Try.prog.info? 9).map (fun i => (i.zero, i.size, i.bytes)) = some (some (.string ByteArray.empty), 1, 16) := by kernel_rfl
/-- a new row with room and nothing in it -/
theorem owns_room (w : World) (z : Value) (c : Nat) (e : TypeId) (hm : c ≤ maxLen) : (w.alloc (.cells (madeCells #[z] c) e)).ownsRow w.heap.size e 1 (.slice (some ⟨w.heap.size, 0, none⟩) 0 c) 0 [] :=
  ⟨rfl, .inr ⟨w.heap.size, c, _, rfl, Nat.le_refl _, heap_alloc_new w _, Nat.zero_le _, hm, by rw [size_madeCells, Nat.mul_one], by simp⟩⟩
/-- a row of bytes becomes a string -/
theorem row_string (w : World) (B n : Nat) (v : Value) (l : List UInt8) (h : w.ownsRow B 5 1 v n (u8s l)) (hl : l.length = n) : (convert 140 9 v).run Try.prog w = .ok (.string ⟨l.toArray⟩) w := by
  obtain ⟨h1, ⟨rfl, rfl⟩ | ⟨g, cap, cur, rfl, hg, hc, hn, hm, hs, ht⟩⟩ := h
  · have : l = [] := List.length_eq_zero_iff.1 hl
    subst this
    rw [run_convert_bytes_nil 140 5 (w := w) Try.underlying140 Try.underlying5 0 0]
    · rfl
    · exact Try.underlying9
  · subst hl
    refine run_convert_bytes_back w 140 9 5 ⟨g, 0, none⟩ cap l Try.underlying140 Try.underlying5 Try.underlying9 fun j hj => ?_
    have hadd : (⟨g, 0, none⟩ : Addr).add j = ⟨g, j, none⟩ := by unfold Addr.add; split <;> simp_all
    rw [hadd, cell_of_row w g j cur 5 (0, 0) hc, ← Array.getElem?_toList]
    have : cur.toList[j]? = (cur.toList.take (l.length * 1))[j]? := by rw [List.getElem?_take, if_pos (by omega)]
    rw [this, ht]
    unfold u8s
    rw [List.getElem?_map, List.getElem?_eq_getElem hj]; rfl
set_option maxRecDepth 20000 in
set_option maxHeartbeats 4000000 in
/-- what drawn gives, whatever the closure -/
theorem drawn_any (g : Nat) (caps : Array Value) (wd ht : Nat) (f : Nat → Nat → UInt8) (w : World) (h1 : wd ≤ 48) (h2 : ht ≤ 48)
    (eg : ∀ args w, (callFunc g args).run Try.prog w = .ok (.enter g args) w)
    (hc : Hid (∀ W x y, Below w.heap.size w W → x < wd → y < ht → Calls Try.prog g (#[.agg #[.int .i64 x, .int .i64 y]] ++ caps) W fun e w' => e = .returned (.int .u8 ((f x y).toNat : Int)) ∧ Below W.heap.size W w')) :
    Calls Try.prog 75 #[.int .i64 wd, .int .i64 ht, .func (.func g) #[] caps] w fun e w' => ∃ v, e = .returned v ∧ w'.ownsRow w.heap.size 9 1 v ht (strs f wd ht) ∧ Below w.heap.size w w' := by
  obtain ⟨i5, hi5, hz5, hs5, hb5⟩ := info_parts Try.info5
  obtain ⟨i9, hi9, hz9, hs9, hb9⟩ := info_parts Try.info9
  have hmk1 : ∀ w, (Instr.makeSlice 22 (.int .i64 0) (.int .i64 ht)).run Try.prog w = .ok (.slice (some ⟨w.heap.size, 0, none⟩) 0 ht) (w.alloc (.cells (madeCells #[.string ByteArray.empty] ht) 9)) := fun w => run_make_room 22 9 _ 16 Try.underlying22 Try.info9 rfl .i64 .i64 ht (by omega) (by omega) w
  have hmk2 : ∀ w, (Instr.makeSlice 140 (.int .i64 0) (.int .i64 wd)).run Try.prog w = .ok (.slice (some ⟨w.heap.size, 0, none⟩) 0 wd) (w.alloc (.cells (madeCells #[.int .u8 0] wd) 5)) := fun w => run_make_room 140 5 _ 1 Try.underlying140 Try.info5 rfl .i64 .i64 wd (by omega) (by omega) w
  have O0 := hide (owns_room w (.string ByteArray.empty) ht 9 (by unfold maxLen; omega))
  have H48 := hide (And.intro h1 h2); clear h1 h2
  go_enter Try.func75, Try.ntmps75
  go_wp2_with fail
  go_loopw [7, 14] (fun v i wr => ∃ (v7 : Value) (wq : World) (k : Nat), v7 = v ∧ wq = wr ∧ k ≤ ht ∧ i = .int .i64 k ∧ wr.ownsRow w.heap.size 9 1 v k (strs f wd k) ∧ Below w.heap.size w wr) (fun _ i _ => ht - (intOf i).toNat)
  case atStart => exact ⟨_, _, 0, rfl, rfl, Nat.zero_le _, rfl, O0.out, (Below.refl _ _).alloc (Nat.le_refl _) _⟩
  case round =>
    obtain ⟨v7, wr, k, rfl, rfl, hk, rfl, ho, hbel⟩ := hrel
    have HO := hide ho; clear ho
    have HB := hide hbel; clear hbel
    by_cases hlt : k < ht
    · have HR0 := hide (owns_room wr (.int .u8 0) wd 5 (by unfold maxLen; have := H48.out; omega))
      have HF : Hid (∀ g, v7.ownBlock = some g → g < wr.heap.size) := hide fun g hg => (HO.out.lt g hg).2
      have HS : Hid (w.heap.size ≤ wr.heap.size) := hide HB.out.size
      have HB1 := hide (HB.out.alloc HB.out.size (.cells (madeCells #[.int .u8 0] wd) 5))
      have HO1 := hide (HO.out.alloc (.cells (madeCells #[.int .u8 0] wd) 5))
      obtain ⟨B1, hB1⟩ : ∃ B1, Hid (B1 = wr.heap.size) := ⟨_, rfl⟩
      go_wp2_with fail
      go_loopw [9, 20] (fun v i wx => ∃ (v9 : Value) (wq : World) (j : Nat), v9 = v ∧ wq = wx ∧ B1 ≤ wx.heap.size ∧ j ≤ wd ∧ i = .int .i64 j ∧ wx.ownsRow B1 5 1 v j (u8s (rowL f k j)) ∧ wx.ownsRow w.heap.size 9 1 v7 k (strs f wd k) ∧ Below w.heap.size w wx) (fun _ i _ => wd - (intOf i).toNat)
      case atStart => exact ⟨_, _, 0, rfl, rfl, by rw [hB1.out]; simp, Nat.zero_le _, rfl, by rw [hB1.out]; exact HR0.out, HO1.out, HB1.out⟩
      case round =>
        clear HR0
        obtain ⟨v9, wx, j, rfl, rfl, hsx, hj, rfl, hr, ho, hbel⟩ := hrel
        have HR := hide hr; clear hr
        have HO := hide ho; clear ho
        have HB := hide hbel; clear hbel
        by_cases hlj : j < wd
        · have HC := hide (hc.out wx j k HB.out hlj hlt)
          clear hc
          go_wp2_with fail
          refine HC.out.mono ?_
          rintro e w4 ⟨rfl, hb⟩
          have HR1 := hide (owns_below HR.out hb)
          have HO1 := hide (owns_below HO.out hb)
          have HB1 := hide (bt HB.out hb)
          have hs4 : B1 ≤ w4.heap.size := Nat.le_trans hsx hb.size
          have hbs4 : Hid (w.heap.size ≤ w4.heap.size) := hide HB1.out.size
          have hj48 : j + 1 ≤ 48 := by have := H48.out; omega
          clear hb HR HO HB HC hsx
          have HOne : Hid (v7.ownBlock = none ∨ v7.ownBlock ≠ v9.ownBlock) := hide (by
            cases e7 : v7.ownBlock with
            | none => exact .inl rfl
            | some g7 =>
              refine .inr fun e => ?_
              have a1 := HF.out g7 e7
              have a2 := (HR1.out.lt g7 e.symm).1
              rw [hB1.out] at a2
              omega)
          go_wp2_with (at_builtin; refine wpList_append_own _ rfl _ _ 140 rfl B1 5 i5 (.int .u8 0) 1 1 Try.underlying140 hi5 hz5 hs5 hb5 rfl (by decide) _ _ _ rfl (HR1.out.alloc _) ⟨w4.heap.size, 0, none⟩ 1 1 [.int .u8 ((f j k).toNat : Int)] rfl rfl ?c1 ?c2 ?c3 ?c4 ?c5 ?_)
          case c1 =>
            intro j u hj
            match j, hj with
            | 0, hj => simp at hj; subst hj; simp [Addr.add]
          case c2 => intro u hu; simp at hu; subst hu; rfl
          case c3 => unfold maxLen; omega
          case c4 => omega
          case c5 => simp; omega
          intro v' w7 hown' hgrow _
          have HR2 : Hid (w7.ownsRow B1 5 1 v' (j + 1) (u8s (rowL f k (j + 1)))) := hide (by rw [rowL_succ, u8s_app]; exact hown')
          have HO2 := hide ((HO1.out.alloc (.cells #[.int .u8 ((f j k).toNat : Int)] 5)).kept hgrow HOne.out)
          have HB2 := hide ((HB1.out.alloc hbs4.out (.cells #[.int .u8 ((f j k).toNat : Int)] 5)).grown hgrow (by simp; have := hbs4.out; omega) (fun q hq => by have a1 := (HR1.out.lt q hq).1; rw [hB1.out] at a1; have := HS.out; omega))
          have hs7 : B1 ≤ w7.heap.size := by have := hgrow.size; simp at this; omega
          clear hown' hgrow
          go_wp2_with fail
          go_roundw
          case rel => exact ⟨_, _, j + 1, rfl, rfl, hs7, by omega, by go_num, HR2.out, HO2.out, HB2.out⟩
          case measure => simp [intOf]; omega
        · obtain rfl : j = wd := by omega
          have hconv := row_string wx B1 j v9 (rowL f k j) HR.out (rowL_len f k j)
          have hbs : Hid (w.heap.size ≤ wx.heap.size) := hide HB.out.size
          have hk48 : k + 1 ≤ 48 := by have := H48.out; omega
          clear HR
          go_wp2_with (at_builtin; refine wpList_append_own _ rfl _ _ 22 rfl w.heap.size 9 i9 (.string ByteArray.empty) 1 16 Try.underlying22 hi9 hz9 hs9 hb9 rfl (by decide) _ _ _ rfl (HO.out.alloc _) ⟨wx.heap.size, 0, none⟩ 1 1 [.string (rowS f j k)] rfl rfl ?d1 ?d2 ?d3 ?d4 ?d5 ?_)
          case d1 =>
            intro j u hj
            match j, hj with
            | 0, hj => simp at hj; subst hj; simp [Addr.add]; rfl
          case d2 => intro u hu; simp at hu; subst hu; rfl
          case d3 => unfold maxLen; omega
          case d4 => omega
          case d5 => simp; have := hbs.out; omega
          intro v' w7 hown' hgrow _
          have HO2 : Hid (w7.ownsRow w.heap.size 9 1 v' (k + 1) (strs f j (k + 1))) := hide (by rw [strs_succ]; exact hown')
          have HB2 := hide ((HB.out.alloc hbs.out (.cells #[.string (rowS f j k)] 9)).grown hgrow (by simp; have := hbs.out; omega) (fun q hq => (HO.out.lt q hq).1))
          clear hown' hgrow
          go_wp2_with fail
          go_roundw
          case rel => exact ⟨_, _, k + 1, rfl, rfl, by omega, by go_num, HO2.out, HB2.out⟩
          case measure => simp [intOf]; omega
    · obtain rfl : k = ht := by omega
      go_wp2_with fail
      go_ret
      exact ⟨_, rfl, HO.out, HB.out⟩
end Go.Proofs.Ytkajcbjacjfhnaa
