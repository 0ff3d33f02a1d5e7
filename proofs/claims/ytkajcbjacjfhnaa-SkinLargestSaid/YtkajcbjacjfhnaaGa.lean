/- Skins: rows of grades (the program's own and the reference's). Valid, of the program and of the reference. Valid of the reference. -/
import Derived.Test.YtkajcbjacjfhnaaKs
import Derived.WalkKit
import Derived.WalkSpells
import Derived.WalkLawsBesides
import Derived.Handy
import Derived.BigQuiet
import Derived.Deep.QuietTactic
import Derived.Lib.Hide
namespace Go.Proofs.Ytkajcbjacjfhnaa
open Go.RowKit
theorem hide {p : Prop} (h : p) : Hid p := h
def okB (c : UInt8) : Bool := decide (48 ≤ (c.toNat : Int)) && decide ((c.toNat : Int) ≤ 57)
def gradesB (s : ByteArray) : Bool := s.data.toList.all okB
theorem all_take_snoc (s : ByteArray) (k : Nat) (h : k < s.size) : (s.data.toList.take (k + 1)).all okB = ((s.data.toList.take k).all okB && okB s[k]) := by
  rw [List.take_succ_eq_append_getElem (by simpa using h), List.all_append]
  simp; rfl
theorem not_all (s : ByteArray) (k : Nat) (h : k < s.size) (hb : okB s[k] = false) : gradesB s = false := by
  unfold gradesB
  rw [← Bool.not_eq_true, List.all_eq_true]
  intro hall
  have := hall s[k] (by
    have : s.data.toList[k]'(by simpa using h) ∈ s.data.toList := List.getElem_mem _
    exact this)
  rw [hb] at this; cases this
set_option maxHeartbeats 400000 in
theorem grades_any (s : ByteArray) (w : World) (hs : s.size ≤ maxLen) :
    Calls Try.prog 67 #[.string s] w fun e w' => e = .returned (.bool (gradesB s)) ∧ w = w' := by
  unfold maxLen at hs
  go_enter Try.func67, Try.ntmps67
  go_wp2
  go_loop [6] (fun i => ∃ k : Nat, k ≤ s.size ∧ i = .int .i64 k ∧ Hid ((s.data.toList.take k).all okB = true)) (fun i => s.size - (intOf i).toNat)
  case atStart => exact ⟨0, Nat.zero_le _, rfl, hide (by simp)⟩
  case round =>
    obtain ⟨k, hk, rfl, HK⟩ := hrel
    by_cases hlt : k < s.size
    · have HS : Hid ((s.data.toList.take (k + 1)).all okB = ((s.data.toList.take k).all okB && okB s[k])) := all_take_snoc s k hlt
      have HN : Hid (okB s[k] = false → gradesB s = false) := not_all s k hlt
      by_cases h1 : (s[k].toNat : Int) < 48
      · go_wp2
        go_ret
        exact ⟨by rw [HN.out (by unfold okB; simp; omega)]; rfl, rfl⟩
      · by_cases h2 : (57 : Int) < (s[k].toNat : Int)
        · go_wp2
          go_ret
          exact ⟨by rw [HN.out (by unfold okB; simp; omega)]; rfl, rfl⟩
        · go_wp2
          go_round
          case rel => exact ⟨k + 1, by omega, by go_num, hide (by rw [HS.out, HK.out]; unfold okB; simp; omega)⟩
          case measure => simp [intOf]; omega
    · have HG : Hid (gradesB s = true) := by
        have := HK.out
        rw [List.take_of_length_le (by simp; omega)] at this
        exact this
      go_wp2
      go_ret
      exact ⟨by rw [HG.out]; rfl, rfl⟩
end Go.Proofs.Ytkajcbjacjfhnaa
namespace Go.Proofs.Ytkajcbjacjfhnaa
open Go.RowKit
/-- rows of strings at a place -/
def ZsAt (w : World) (b off l : Nat) (ss : Nat → ByteArray) : Prop := ∀ i, i < l → w.cell? ⟨b, off + i, none⟩ = some (.string (ss i)) ∧ (ss i).size ≤ maxLen
def rowB (n : Nat) (s : ByteArray) : Bool := decide (s.size = n) && gradesB s
def rowsB (n l : Nat) (ss : Nat → ByteArray) : Bool := (List.range l).all fun i => rowB n (ss i)
def validB (l : Nat) (ss : Nat → ByteArray) : Bool := decide (1 ≤ l) && decide (l ≤ 48) && decide (1 ≤ (ss 0).size) && decide ((ss 0).size ≤ 48) && rowsB (ss 0).size l ss
theorem rowsB_succ (n k : Nat) (ss : Nat → ByteArray) : rowsB n (k + 1) ss = (rowsB n k ss && rowB n (ss k)) := by
  unfold rowsB
  rw [List.range_succ, List.all_append]
  simp
theorem rowsB_not {n l k : Nat} {ss : Nat → ByteArray} (h : k < l) (hb : rowB n (ss k) = false) : rowsB n l ss = false := by
  unfold rowsB
  rw [← Bool.not_eq_true, List.all_eq_true]
  intro hall
  have := hall k (by simpa using h)
  rw [hb] at this; cases this
theorem validB_no {l : Nat} {ss : Nat → ByteArray} (h : ¬ (1 ≤ l ∧ l ≤ 48 ∧ 1 ≤ (ss 0).size ∧ (ss 0).size ≤ 48)) : validB l ss = false := by
  unfold validB
  by_cases h1 : 1 ≤ l <;> by_cases h2 : l ≤ 48 <;> by_cases h3 : 1 ≤ (ss 0).size <;> by_cases h4 : (ss 0).size ≤ 48 <;> simp [h1, h2, h3, h4] at h ⊢
theorem validB_rows {l : Nat} {ss : Nat → ByteArray} (h1 : 1 ≤ l) (h2 : l ≤ 48) (h3 : 1 ≤ (ss 0).size) (h4 : (ss 0).size ≤ 48) : validB l ss = rowsB (ss 0).size l ss := by
  unfold validB; simp [h1, h2, h3, h4]

set_option maxHeartbeats 400000 in
theorem valid_none (a : Option Addr) (l c : Nat) (ss : Nat → ByteArray) (w : World) (h : l < 1) :
    Calls Try.prog 22 #[.slice a l c] w fun e w' => e = .returned (.bool (validB l ss)) ∧ w = w' := by
  have HV : Hid (validB l ss = false) := validB_no (by omega)
  obtain rfl : l = 0 := by omega
  clear h
  go_enter Try.func22, Try.ntmps22
  go_wp2
  go_ret
  exact ⟨by rw [HV.out]; rfl, rfl⟩
set_option maxHeartbeats 400000 in
theorem valid_long (a : Option Addr) (l c : Nat) (ss : Nat → ByteArray) (w : World) (h : 48 < l) :
    Calls Try.prog 22 #[.slice a l c] w fun e w' => e = .returned (.bool (validB l ss)) ∧ w = w' := by
  have HV : Hid (validB l ss = false) := validB_no (by omega)
  have hd : decide ((l : Int) < 1) = false := by simp; omega
  have hd2 : decide ((48 : Int) < (l : Int)) = true := by simp; omega
  go_enter Try.func22, Try.ntmps22
  go_wp2
  go_ret
  exact ⟨by rw [HV.out]; rfl, rfl⟩
set_option maxHeartbeats 1000000 in
theorem valid_mid (b off l c : Nat) (ss : Nat → ByteArray) (w : World) (h1 : 1 ≤ l) (h2 : l ≤ 48) (hz : ZsAt w b off l ss) :
    Calls Try.prog 22 #[.slice (some ⟨b, off, none⟩) l c] w fun e w' => e = .returned (.bool (validB l ss)) ∧ w = w' := by
  have HZ := hide hz; clear hz
  have c0 := (HZ.out 0 (by omega)).1
  have m0 := (HZ.out 0 (by omega)).2
  rw [Nat.add_zero] at c0
  unfold maxLen at m0
  have hd : decide ((l : Int) < 1) = false := by simp; omega
  have hd2 : decide ((48 : Int) < (l : Int)) = false := by simp; omega
  by_cases h3 : (ss 0).size < 1
  · have HV : Hid (validB l ss = false) := validB_no (by omega)
    have hd3 : decide (((ss 0).size : Int) < 1) = true := by simp; omega
    go_enter Try.func22, Try.ntmps22
    go_wp2
    go_ret
    exact ⟨by rw [HV.out]; rfl, rfl⟩
  have hd3 : decide (((ss 0).size : Int) < 1) = false := by simp; omega
  by_cases h4 : 48 < (ss 0).size
  · have HV : Hid (validB l ss = false) := validB_no (by omega)
    have hd4 : decide ((48 : Int) < ((ss 0).size : Int)) = true := by simp; omega
    go_enter Try.func22, Try.ntmps22
    go_wp2
    go_ret
    exact ⟨by rw [HV.out]; rfl, rfl⟩
  have hd4 : decide ((48 : Int) < ((ss 0).size : Int)) = false := by simp; omega
  have HV : Hid (validB l ss = rowsB (ss 0).size l ss) := validB_rows h1 h2 (by omega) (by omega)
  go_enter Try.func22, Try.ntmps22
  go_wp2
  go_loop [29] (fun i => ∃ k : Nat, k ≤ l ∧ i = .int .i64 k ∧ Hid (rowsB (ss 0).size k ss = true)) (fun i => l - (intOf i).toNat)
  case atStart => exact ⟨0, Nat.zero_le _, rfl, hide rfl⟩
  case round =>
    obtain ⟨k, hk, rfl, HK⟩ := hrel
    by_cases hlt : k < l
    · have ck := (HZ.out k hlt).1
      have mk := (HZ.out k hlt).2
      have HN : Hid (rowB (ss 0).size (ss k) = false → rowsB (ss 0).size l ss = false) := rowsB_not hlt
      by_cases he : (ss k).size = (ss 0).size
      · have he2 : decide (((ss k).size : Int) ≠ ((ss 0).size : Int)) = false := by simp; omega
        have he3 : (((ss k).size : Int) != ((ss 0).size : Int)) = false := by simp; omega
        have HE := hide he; clear he
        cases hg : gradesB (ss k)
        · have HG := hide hg; clear hg
          go_wp2_with (go_at_call 67; refine (grades_any _ _ mk).mono ?_; rintro e w' ⟨rfl, rfl⟩; rw [HG.out])
          go_ret
          exact ⟨by rw [HV.out, HN.out (by unfold rowB; rw [HG.out]; simp)]; rfl, rfl⟩
        · have HG := hide hg; clear hg
          go_wp2_with (go_at_call 67; refine (grades_any _ _ mk).mono ?_; rintro e w' ⟨rfl, rfl⟩; rw [HG.out])
          go_round
          case rel => exact ⟨k + 1, by omega, by go_num, hide (by rw [rowsB_succ, HK.out]; unfold rowB; rw [HG.out]; simp [HE.out])⟩
          case measure => simp [intOf]; omega
      · have he3 : (((ss k).size : Int) != ((ss 0).size : Int)) = true := by simp; omega
        have HE := hide he; clear he
        go_wp2_with fail
        go_ret
        exact ⟨by rw [HV.out, HN.out (by unfold rowB; simp [HE.out])]; rfl, rfl⟩
    · have HR : Hid (rowsB (ss 0).size l ss = true) := by
        obtain rfl : k = l := by omega
        exact HK
      go_wp2_with fail
      go_ret
      exact ⟨by rw [HV.out, HR.out]; rfl, rfl⟩
end Go.Proofs.Ytkajcbjacjfhnaa
namespace Go.Proofs.Ytkajcbjacjfhnaa
open Go.RowKit
set_option maxHeartbeats 400000 in
theorem rvalid_none (a : Option Addr) (l c : Nat) (ss : Nat → ByteArray) (w : World) (h : l < 1) :
    Calls Try.prog 23 #[.slice a l c] w fun e w' => e = .returned (.bool (validB l ss)) ∧ w = w' := by
  have HV : Hid (validB l ss = false) := validB_no (by omega)
  obtain rfl : l = 0 := by omega
  clear h
  go_enter Try.func23, Try.ntmps23
  go_wp2
  go_ret
  exact ⟨by rw [HV.out]; rfl, rfl⟩
set_option maxHeartbeats 400000 in
theorem rvalid_long (a : Option Addr) (l c : Nat) (ss : Nat → ByteArray) (w : World) (h : 48 < l) :
    Calls Try.prog 23 #[.slice a l c] w fun e w' => e = .returned (.bool (validB l ss)) ∧ w = w' := by
  have HV : Hid (validB l ss = false) := validB_no (by omega)
  have hd : decide ((l : Int) < 1) = false := by simp; omega
  have hd2 : decide ((48 : Int) < (l : Int)) = true := by simp; omega
  go_enter Try.func23, Try.ntmps23
  go_wp2
  go_ret
  exact ⟨by rw [HV.out]; rfl, rfl⟩
set_option maxHeartbeats 2000000 in
theorem rvalid_mid (b off l c : Nat) (ss : Nat → ByteArray) (w : World) (h1 : 1 ≤ l) (h2 : l ≤ 48) (hz : ZsAt w b off l ss) :
    Calls Try.prog 23 #[.slice (some ⟨b, off, none⟩) l c] w fun e w' => e = .returned (.bool (validB l ss)) ∧ w = w' := by
  have HZ := hide hz; clear hz
  have c0 := (HZ.out 0 (by omega)).1
  have m0 := (HZ.out 0 (by omega)).2
  rw [Nat.add_zero] at c0
  unfold maxLen at m0
  have hd : decide ((l : Int) < 1) = false := by simp; omega
  have hd2 : decide ((48 : Int) < (l : Int)) = false := by simp; omega
  by_cases h3 : (ss 0).size < 1
  · have HV : Hid (validB l ss = false) := validB_no (by omega)
    have hd3 : decide (((ss 0).size : Int) < 1) = true := by simp; omega
    go_enter Try.func23, Try.ntmps23
    go_wp2
    go_ret
    exact ⟨by rw [HV.out]; rfl, rfl⟩
  have hd3 : decide (((ss 0).size : Int) < 1) = false := by simp; omega
  by_cases h4 : 48 < (ss 0).size
  · have HV : Hid (validB l ss = false) := validB_no (by omega)
    have hd4 : decide ((48 : Int) < ((ss 0).size : Int)) = true := by simp; omega
    go_enter Try.func23, Try.ntmps23
    go_wp2
    go_ret
    exact ⟨by rw [HV.out]; rfl, rfl⟩
  have hd4 : decide ((48 : Int) < ((ss 0).size : Int)) = false := by simp; omega
  have HV : Hid (validB l ss = rowsB (ss 0).size l ss) := validB_rows h1 h2 (by omega) (by omega)
  go_enter Try.func23, Try.ntmps23
  go_wp2
  go_loop [30] (fun i => ∃ k : Nat, k ≤ l ∧ i = .int .i64 k ∧ Hid (rowsB (ss 0).size k ss = true)) (fun i => l - (intOf i).toNat)
  case atStart => exact ⟨0, Nat.zero_le _, rfl, hide rfl⟩
  case round =>
    obtain ⟨k, hk, rfl, HK⟩ := hrel
    by_cases hlt : k < l
    · have ck := (HZ.out k hlt).1
      have mk := (HZ.out k hlt).2
      unfold maxLen at mk
      have HN : Hid (rowB (ss 0).size (ss k) = false → rowsB (ss 0).size l ss = false) := rowsB_not hlt
      have HS := hide (rowsB_succ (ss 0).size k ss)
      by_cases he : (ss k).size = (ss 0).size
      · have he3 : (((ss k).size : Int) != ((ss 0).size : Int)) = false := by simp; omega
        have HE := hide he; clear he
        obtain ⟨sk, hsk⟩ : ∃ sk, sk = ss k := ⟨_, rfl⟩
        rw [← hsk] at ck mk he3 HN HS HE
        clear hsk
        go_wp2_with fail
        go_loop [43] (fun i => ∃ j : Nat, j ≤ sk.size ∧ i = .int .i64 j ∧ Hid ((sk.data.toList.take j).all okB = true)) (fun i => sk.size - (intOf i).toNat)
        case atStart => exact ⟨0, Nat.zero_le _, rfl, hide (by simp)⟩
        case round =>
          obtain ⟨j, hj, rfl, HJ⟩ := hrel
          by_cases hlj : j < sk.size
          · have HT : Hid ((sk.data.toList.take (j + 1)).all okB = ((sk.data.toList.take j).all okB && okB sk[j])) := all_take_snoc sk j hlj
            have HG : Hid (okB sk[j] = false → gradesB sk = false) := not_all sk j hlj
            by_cases g1 : (sk[j].toNat : Int) < 48
            · go_wp2_with fail
              go_ret
              exact ⟨by rw [HV.out, HN.out (by unfold rowB; rw [HG.out (by unfold okB; simp; omega)]; simp)]; rfl, rfl⟩
            · by_cases g2 : (57 : Int) < (sk[j].toNat : Int)
              · go_wp2_with fail
                go_ret
                exact ⟨by rw [HV.out, HN.out (by unfold rowB; rw [HG.out (by unfold okB; simp; omega)]; simp)]; rfl, rfl⟩
              · go_wp2_with fail
                go_round
                case rel => exact ⟨j + 1, by omega, by go_num, hide (by rw [HT.out, HJ.out]; unfold okB; simp; omega)⟩
                case measure => simp [intOf]; omega
          · have HG : Hid (gradesB sk = true) := by
              have := HJ.out
              rw [List.take_of_length_le (by simp; omega)] at this
              exact this
            go_wp2_with fail
            go_round
            case rel => exact ⟨k + 1, by omega, by go_num, hide (by rw [HS.out, HK.out]; unfold rowB; rw [HG.out]; simp [HE.out])⟩
            case measure => simp [intOf]; omega
      · have he3 : (((ss k).size : Int) != ((ss 0).size : Int)) = true := by simp; omega
        have HE := hide he; clear he
        go_wp2_with fail
        go_ret
        exact ⟨by rw [HV.out, HN.out (by unfold rowB; simp [HE.out])]; rfl, rfl⟩
    · have HR : Hid (rowsB (ss 0).size l ss = true) := by
        obtain rfl : k = l := by omega
        exact HK
      go_wp2_with fail
      go_ret
      exact ⟨by rw [HV.out, HR.out]; rfl, rfl⟩
end Go.Proofs.Ytkajcbjacjfhnaa
