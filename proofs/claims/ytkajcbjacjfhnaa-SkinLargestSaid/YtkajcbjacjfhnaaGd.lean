/- Counting grades: plain mathematics; the program's count. The program's count of grades. -/
import Derived.Test.YtkajcbjacjfhnaaGa
import Derived.Laws.NewBlocks
import Derived.Below
import Derived.Deep.LoopGhost
import Derived.IntWalk
namespace Go.Proofs.Ytkajcbjacjfhnaa
open Go.RowKit
def cntL (l : List UInt8) (g : Nat) : Nat := (l.filter fun c => c.toNat == 48 + g).length
theorem cntL_snoc (s : ByteArray) (j g : Nat) (h : j < s.size) : cntL (s.data.toList.take (j + 1)) g = cntL (s.data.toList.take j) g + if s[j].toNat = 48 + g then 1 else 0 := by
  unfold cntL
  rw [List.take_succ_eq_append_getElem (by simpa using h), List.filter_append]
  have : s.data.toList[j]'(by simpa using h) = s[j] := rfl
  rw [this]
  by_cases e : s[j].toNat = 48 + g <;> simp [e]
theorem cntL_le (l : List UInt8) (g : Nat) : cntL l g ≤ l.length := List.length_filter_le _ _
def rowsC (ss : Nat → ByteArray) : Nat → Nat → Nat
  | 0, _ => 0
  | k + 1, g => rowsC ss k g + cntL (ss k).data.toList g
theorem rowsC_le (ss : Nat → ByteArray) (m : Nat) : ∀ k g, (∀ i, i < k → (ss i).size ≤ m) → rowsC ss k g ≤ k * m
  | 0, _, _ => Nat.zero_le _
  | k + 1, g, h => by
    have h1 := rowsC_le ss m k g (fun i hi => h i (by omega))
    have h2 := cntL_le (ss k).data.toList g
    have h3 := h k (by omega)
    have : (ss k).data.toList.length = (ss k).size := by simp
    unfold rowsC
    rw [Nat.add_mul]; omega
/-- what has been counted: rows before k, and j cells of row k -/
def T (ss : Nat → ByteArray) (k j g : Nat) : Int := ((rowsC ss k g + cntL ((ss k).data.toList.take j) g : Nat) : Int)
theorem T_zero (ss : Nat → ByteArray) (g : Nat) : T ss 0 0 g = 0 := by simp [T, rowsC, cntL]
theorem T_next (ss : Nat → ByteArray) (k j g : Nat) (h : (ss k).size ≤ j) : T ss (k + 1) 0 g = T ss k j g := by
  have e : (ss k).data.toList.take j = (ss k).data.toList := List.take_of_length_le (by simpa using h)
  unfold T
  rw [e]
  simp [rowsC, cntL]
theorem T_same (ss : Nat → ByteArray) (k j g d : Nat) (h : j < (ss k).size) (hd : (ss k)[j].toNat = 48 + d) (hn : g ≠ d) : T ss k (j + 1) g = T ss k j g := by
  unfold T; rw [cntL_snoc _ _ _ h, if_neg (by omega)]; rfl
theorem T_more (ss : Nat → ByteArray) (k j d : Nat) (h : j < (ss k).size) (hd : (ss k)[j].toNat = 48 + d) : T ss k (j + 1) d = T ss k j d + 1 := by
  unfold T; rw [cntL_snoc _ _ _ h, if_pos hd]; omega
theorem T_bd (ss : Nat → ByteArray) (k j g : Nat) (hk : k ≤ 48) (hs : ∀ i, i ≤ k → (ss i).size ≤ 48) : 0 ≤ T ss k j g ∧ T ss k j g ≤ 2400 := by
  have h1 := rowsC_le ss 48 k g (fun i hi => hs i (by omega))
  have h2 := cntL_le ((ss k).data.toList.take j) g
  have h3 : ((ss k).data.toList.take j).length ≤ (ss k).size := by simp; omega
  have h4 := hs k (Nat.le_refl _)
  have h5 : k * 48 ≤ 48 * 48 := Nat.mul_le_mul_right 48 hk
  unfold T
  omega
theorem T_row (ss : Nat → ByteArray) (n l k j : Nat) (hv : rowsB n l ss = true) (hk : k < l) : (ss k).size = n ∧ ∀ h : j < (ss k).size, ∃ d, d < 10 ∧ (ss k)[j].toNat = 48 + d := by
  have := List.all_eq_true.1 hv k (by simpa using hk)
  unfold rowB at this
  simp only [Bool.and_eq_true, decide_eq_true_eq] at this
  refine ⟨this.1, fun h => ?_⟩
  have h2 := List.all_eq_true.1 this.2 (ss k)[j] (by
    have : (ss k).data.toList[j]'(by simpa using h) ∈ (ss k).data.toList := List.getElem_mem _
    exact this)
  unfold okB at h2
  simp at h2
  exact ⟨(ss k)[j].toNat - 48, by omega, by omega⟩
/-- ten numbers, as a row of cells -/
def vec (C : Nat → Int) : Array Value := #[.int .i64 (C 0), .int .i64 (C 1), .int .i64 (C 2), .int .i64 (C 3), .int .i64 (C 4), .int .i64 (C 5), .int .i64 (C 6), .int .i64 (C 7), .int .i64 (C 8), .int .i64 (C 9)]
theorem vec_zero (ss : Nat → ByteArray) : vec (T ss 0 0) = vec fun _ => 0 := by simp [vec, T_zero]
theorem vec_next (ss : Nat → ByteArray) (k j : Nat) (h : (ss k).size ≤ j) : vec (T ss (k + 1) 0) = vec (T ss k j) := by simp [vec, T_next ss k j _ h]
/-- one more of grade d -/
theorem vec_more (ss : Nat → ByteArray) (k j d : Nat) (h : j < (ss k).size) (hd : (ss k)[j].toNat = 48 + d) (hlt : d < 10) : vec (T ss k (j + 1)) = (vec (T ss k j)).setIfInBounds d (.int .i64 (T ss k j d + 1)) := by
  have hs := fun g hn => T_same ss k j g d h hd hn
  have hm := T_more ss k j d h hd
  have : d = 0 ∨ d = 1 ∨ d = 2 ∨ d = 3 ∨ d = 4 ∨ d = 5 ∨ d = 6 ∨ d = 7 ∨ d = 8 ∨ d = 9 := by omega
  rcases this with rfl | rfl | rfl | rfl | rfl | rfl | rfl | rfl | rfl | rfl <;> simp [vec, hm, hs]
theorem vec_get (C : Nat → Int) (d : Nat) (h : d < 10) : (vec C)[d]? = some (.int .i64 (C d)) := by
  have : d = 0 ∨ d = 1 ∨ d = 2 ∨ d = 3 ∨ d = 4 ∨ d = 5 ∨ d = 6 ∨ d = 7 ∨ d = 8 ∨ d = 9 := by omega
  rcases this with rfl | rfl | rfl | rfl | rfl | rfl | rfl | rfl | rfl | rfl <;> rfl
end Go.Proofs.Ytkajcbjacjfhnaa
namespace Go.Proofs.Ytkajcbjacjfhnaa
open Go.RowKit
theorem ba {B : Nat} {a w : World} (h : Below B a w) (hB : B ≤ w.heap.size) (o : Obj) : Below B a (w.alloc o) := h.alloc hB o
set_option maxHeartbeats 4000000 in
theorem counted_any (b off l c n : Nat) (ss : Nat → ByteArray) (w : World) (h2 : l ≤ 48) (hn : n ≤ 48) (hz : ZsAt w b off l ss) (hv : rowsB n l ss = true) :
    Calls Try.prog 65 #[.slice (some ⟨b, off, none⟩) l c] w fun e w' => e = .returned (.agg (vec (T ss l 0))) ∧ Below w.heap.size w w' := by
  have HB : Hid (∀ i, i < l → b < w.heap.size) := fun i hi => World.block_lt_of_cell? _ _ (hz i hi).1
  have HZ := hide hz; clear hz
  have HV := hide hv; clear hv
  have HL := hide h2; clear h2
  have HN := hide hn; clear hn
  have l48 : (l : Int) ≤ 48 := by have := HL.out; omega
  go_enter Try.func65, Try.ntmps65
  go_wp2
  go_loopw [9] (fun i wr => ∃ k : Nat, k ≤ l ∧ i = .int .i64 k ∧ wr = (w.alloc (.cells (vec fun _ => 0) 79)).alloc (.cells (vec (T ss k 0)) 79)) (fun i _ => l - (intOf i).toNat)
  case atStart => exact ⟨0, Nat.zero_le _, rfl, by rw [vec_zero]; rfl⟩
  case round =>
    obtain ⟨k, hk, rfl, rfl⟩ := hrel
    by_cases hlt : k < l
    · have ck := (HZ.out k hlt).1
      obtain ⟨hsz, hrow⟩ : (ss k).size = n ∧ True := ⟨(T_row ss n l k 0 HV.out hlt).1, trivial⟩
      have mk : ((ss k).size : Int) ≤ 48 := by have := HN.out; omega
      have bk := HB.out k hlt
      clear hrow
      have HS := hide hsz; clear hsz
      go_wp2_with fail
      go_loopw [15] (fun i wr => ∃ j : Nat, j ≤ (ss k).size ∧ i = .int .i64 j ∧ wr = (w.alloc (.cells (vec fun _ => 0) 79)).alloc (.cells (vec (T ss k j)) 79)) (fun i _ => (ss k).size - (intOf i).toNat)
      case atStart => exact ⟨0, Nat.zero_le _, rfl, rfl⟩
      case round =>
        obtain ⟨j, hj, rfl, rfl⟩ := hrel
        by_cases hlj : j < (ss k).size
        · obtain ⟨d, hd, hdb⟩ : ∃ d, d < 10 ∧ (ss k)[j].toNat = 48 + d := (T_row ss n l k j HV.out hlt).2 hlj
          have HM : Hid (vec (T ss k (j + 1)) = (vec (T ss k j)).setIfInBounds d (.int .i64 (T ss k j d + 1))) := vec_more ss k j d hlj hdb hd
          have hbd : 0 ≤ T ss k j d ∧ T ss k j d ≤ 2400 := T_bd ss k j d (by have := HL.out; omega) (fun i hi => by have := (T_row ss n l i 0 HV.out (by omega)).1; have := HN.out; omega)
          obtain ⟨hb0, hb1⟩ := hbd
          have hbyte : ((ss k)[j].toNat : Int) = 48 + (d : Int) := by omega
          have HBY := hide hbyte; clear hbyte hdb
          have hw8 : IntKind.u8.wrap (((ss k)[j].toNat : Int) - 48) = (d : Int) := by rw [HBY.out]; simp [IntKind.wrap, IntKind.bits, IntKind.signed]; omega
          have hcell : ((w.alloc (.cells (vec fun _ => 0) 79)).alloc (.cells (vec (T ss k j)) 79)).cell? ⟨w.heap.size + 1, d, none⟩ = some (.int .i64 (T ss k j d)) := by
            have e : w.heap.size + 1 = (w.alloc (.cells (vec fun _ => 0) 79)).heap.size := by simp
            rw [e, World.cell?_alloc_new]; exact vec_get _ d hd
          go_wp2_with fail
          go_roundw
          case rel => exact ⟨j + 1, by omega, by go_num, by rw [HM.out]⟩
          case measure => simp [intOf]; omega
        · have hge : (ss k).size ≤ j := by omega
          have HX : Hid (vec (T ss (k + 1) 0) = vec (T ss k j)) := vec_next ss k j hge
          go_wp2_with fail
          go_roundw
          case rel => exact ⟨k + 1, by omega, by go_num, by rw [HX.out]⟩
          case measure => simp [intOf]; omega
    · obtain rfl : k = l := by omega
      unfold vec
      go_wp2_with fail
      exact bodyPost_ret (v := .agg (vec (T ss k 0))) (by simp [results, Try.results65, go_sem, vec]) rfl ⟨rfl, ((Below.refl _ _).alloc (Nat.le_refl _) _).alloc (by simp) _⟩
theorem valid_any (b off l c : Nat) (ss : Nat → ByteArray) (w : World) (hz : ZsAt w b off l ss) :
    Calls Try.prog 22 #[.slice (some ⟨b, off, none⟩) l c] w fun e w' => e = .returned (.bool (validB l ss)) ∧ w = w' := by
  by_cases h1 : l < 1
  · exact valid_none _ l c ss w h1
  · by_cases h2 : 48 < l
    · exact valid_long _ l c ss w h2
    · exact valid_mid b off l c ss w (by omega) (by omega) hz
theorem rvalid_any (b off l c : Nat) (ss : Nat → ByteArray) (w : World) (hz : ZsAt w b off l ss) :
    Calls Try.prog 23 #[.slice (some ⟨b, off, none⟩) l c] w fun e w' => e = .returned (.bool (validB l ss)) ∧ w = w' := by
  by_cases h1 : l < 1
  · exact rvalid_none _ l c ss w h1
  · by_cases h2 : 48 < l
    · exact rvalid_long _ l c ss w h2
    · exact rvalid_mid b off l c ss w (by omega) (by omega) hz
theorem validB_parts {l : Nat} {ss : Nat → ByteArray} (h : validB l ss = true) : 1 ≤ l ∧ l ≤ 48 ∧ 1 ≤ (ss 0).size ∧ (ss 0).size ≤ 48 ∧ rowsB (ss 0).size l ss = true := by
  unfold validB at h
  simp only [Bool.and_eq_true, decide_eq_true_eq] at h
  exact ⟨h.1.1.1.1, h.1.1.1.2, h.1.1.2, h.1.2, h.2⟩
/-- a row of ten numbers in memory -/
def Ten (w : World) (B : Nat) (C : Nat → Int) : Prop := ∀ d, d < 10 → w.cell? ⟨B, d, none⟩ = some (.int .i64 (C d))
theorem ten_new (w : World) (C : Nat → Int) (t : TypeId) : Ten (w.alloc (.cells (vec C) t)) w.heap.size C := fun d hd => by rw [World.cell?_alloc_new]; exact vec_get C d hd
set_option maxHeartbeats 1000000 in
theorem grades_yes (b off l c : Nat) (ss : Nat → ByteArray) (w : World) (hz : ZsAt w b off l ss) (hv : validB l ss = true) :
    Calls Try.prog 18 #[.slice (some ⟨b, off, none⟩) l c] w fun e w' => ∃ B, e = .returned (.tuple #[.slice (some ⟨B, 0, none⟩) 10 10, .int .i64 0]) ∧ w.heap.size ≤ B ∧ Ten w' B (T ss l 0) ∧ Below w.heap.size w w' := by
  have HP := hide (validB_parts hv)
  have HZ := hide hz; clear hz
  have HV := hide hv; clear hv
  go_enter Try.func18, Try.ntmps18
  go_wp2_with (go_at_call 22; refine (valid_any b off l c ss _ HZ.out).mono ?_; rintro e w' ⟨rfl, rfl⟩; rw [HV.out])
  refine (counted_any b off l c (ss 0).size ss _ HP.out.2.1 HP.out.2.2.2.1 HZ.out HP.out.2.2.2.2).mono ?_
  rintro e w1 ⟨rfl, hb⟩
  have HB := hide hb; clear hb
  unfold vec
  go_wp2_with fail
  exact bodyPost_ret (v := .tuple #[.slice (some ⟨w1.heap.size, 0, none⟩) 10 10, .int .i64 0]) (by simp [results, Try.results18, go_sem]) rfl ⟨w1.heap.size, rfl, HB.out.size, ten_new w1 (T ss l 0) 79, HB.out.alloc HB.out.size _⟩
/-- strings in memory, or none -/
def Zs (w : World) (a : Option Addr) (l : Nat) (ss : Nat → ByteArray) : Prop := l = 0 ∨ ∃ b off, a = some ⟨b, off, none⟩ ∧ ZsAt w b off l ss
theorem validB_zero (ss : Nat → ByteArray) : validB 0 ss = false := rfl
theorem valid_all (a : Option Addr) (l c : Nat) (ss : Nat → ByteArray) (w : World) (hz : Zs w a l ss) :
    Calls Try.prog 22 #[.slice a l c] w fun e w' => e = .returned (.bool (validB l ss)) ∧ w = w' := by
  rcases hz with rfl | ⟨b, off, rfl, hz⟩
  · exact valid_none a 0 c ss w (by omega)
  · exact valid_any b off l c ss w hz
theorem rvalid_all (a : Option Addr) (l c : Nat) (ss : Nat → ByteArray) (w : World) (hz : Zs w a l ss) :
    Calls Try.prog 23 #[.slice a l c] w fun e w' => e = .returned (.bool (validB l ss)) ∧ w = w' := by
  rcases hz with rfl | ⟨b, off, rfl, hz⟩
  · exact rvalid_none a 0 c ss w (by omega)
  · exact rvalid_any b off l c ss w hz
set_option maxHeartbeats 1000000 in
theorem grades_no (a : Option Addr) (l c : Nat) (ss : Nat → ByteArray) (w : World) (hz : Zs w a l ss) (hv : validB l ss = false) :
    Calls Try.prog 18 #[.slice a l c] w fun e w' => e = .returned (.tuple #[.slice none 0 0, .int .i64 2]) ∧ w = w' := by
  have HZ := hide hz; clear hz
  have HV := hide hv; clear hv
  go_enter Try.func18, Try.ntmps18
  go_wp2_with (go_at_call 22; refine (valid_all a l c ss _ HZ.out).mono ?_; rintro e w' ⟨rfl, rfl⟩; rw [HV.out])
  go_ret2
  exact ⟨rfl, rfl⟩
set_option maxHeartbeats 1000000 in
theorem rgrades_no (a : Option Addr) (l c : Nat) (ss : Nat → ByteArray) (w : World) (hz : Zs w a l ss) (hv : validB l ss = false) :
    Calls Try.prog 19 #[.slice a l c] w fun e w' => e = .returned (.tuple #[.slice none 0 0, .int .i64 2]) ∧ w = w' := by
  have HZ := hide hz; clear hz
  have HV := hide hv; clear hv
  go_enter Try.func19, Try.ntmps19
  go_wp2_with (go_at_call 23; refine (rvalid_all a l c ss _ HZ.out).mono ?_; rintro e w' ⟨rfl, rfl⟩; rw [HV.out])
  go_ret2
  exact ⟨rfl, rfl⟩
end Go.Proofs.Ytkajcbjacjfhnaa
