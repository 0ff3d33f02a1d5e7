/- The reference's count of grades. -/
import Derived.Test.YtkajcbjacjfhnaaGd
import Derived.KernelRfl
namespace Go.Proofs.Ytkajcbjacjfhnaa
open Go.RowKit
set_option maxHeartbeats 1000000 in
theorem grade_in (b off l c x y : Nat) (ss : Nat → ByteArray) (w : World) (d : Nat) (hz : ZsAt w b off l ss) (hl : l ≤ 48) (hy : y < l) (hx : x < (ss y).size) (hn : (ss y).size = (ss 0).size) (hd : (ss y)[x].toNat = 48 + d) (h10 : d < 10) :
    Calls Try.prog 63 #[.slice (some ⟨b, off, none⟩) l c, .int .i64 x, .int .i64 y] w fun e w' => e = .returned (.int .i64 d) ∧ w = w' := by
  have c0 := (hz 0 (by omega)).1
  rw [Nat.add_zero] at c0
  have cy := (hz y hy).1
  have my := (hz y hy).2
  unfold maxLen at my
  clear hz
  have t1 : decide ((y : Int) < 0) = false := by simp
  have t2 : decide ((l : Int) ≤ (y : Int)) = false := by simp; omega
  have t2b : decide (l ≤ y) = false := by simp; omega
  have t3 : decide ((x : Int) < 0) = false := by simp
  have t4 : decide (((ss 0).size : Int) ≤ (x : Int)) = false := by simp; omega
  have t4b : decide ((ss 0).size ≤ x) = false := by simp; omega
  have HN := hide hn; clear hn
  have HBY : Hid (((ss y)[x].toNat : Int) = 48 + (d : Int)) := hide (by omega)
  have hw8 : IntKind.u8.wrap (((ss y)[x].toNat : Int) - 48) = (d : Int) := by rw [HBY.out]; simp [IntKind.wrap, IntKind.bits, IntKind.signed]; omega
  have hw64 : IntKind.i64.wrap (d : Int) = (d : Int) := IntWalk.i64_in _ (by omega)
  clear hd
  go_enter Try.func63, Try.ntmps63
  go_wp2
  go_ret
  exact ⟨rfl, rfl⟩
set_option maxRecDepth 100000 in
set_option maxHeartbeats 4000000 in
theorem rgrades_yes (b off l c : Nat) (ss : Nat → ByteArray) (w : World) (hz : ZsAt w b off l ss) (hv : validB l ss = true) :
    Calls Try.prog 19 #[.slice (some ⟨b, off, none⟩) l c] w fun e w' => ∃ B, e = .returned (.tuple #[.slice (some ⟨B, 0, none⟩) 10 10, .int .i64 0]) ∧ w.heap.size ≤ B ∧ Ten w' B (T ss l 0) ∧ Below w.heap.size w w' := by
  obtain ⟨h1, h2, h3, h4, hr⟩ := validB_parts hv
  have hbl : b < w.heap.size := World.block_lt_of_cell? _ _ (hz 0 (by omega)).1
  have c0 := (hz 0 (by omega)).1
  rw [Nat.add_zero] at c0
  have l48 : (l : Int) ≤ 48 := by omega
  have n48 : ((ss 0).size : Int) ≤ 48 := by omega
  have HZ := hide hz; clear hz
  have HV := hide hv; clear hv
  have HR := hide hr; clear hr
  have HP := hide (And.intro h1 (And.intro h2 (And.intro h3 h4))); clear h1 h2 h3 h4
  have hmk : ∀ w, (Instr.makeSlice 23 (.int .i64 10) (.int .i64 10)).run Try.prog w = .ok (.slice (some ⟨w.heap.size, 0, none⟩) 10 10) (w.alloc (.cells (vec fun _ => 0) 3)) := fun _ => by kernel_rfl
  go_enter Try.func19, Try.ntmps19
  go_wp2_with (go_at_call 23; refine (rvalid_any b off l c ss _ HZ.out).mono ?_; rintro e w' ⟨rfl, rfl⟩; rw [HV.out])
  go_loopw [13] (fun i wr => ∃ k : Nat, k ≤ l ∧ i = .int .i64 k ∧ wr = w.alloc (.cells (vec (T ss k 0)) 3)) (fun i _ => l - (intOf i).toNat)
  case atStart => exact ⟨0, Nat.zero_le _, rfl, by rw [vec_zero]⟩
  case round =>
    obtain ⟨k, hk, rfl, rfl⟩ := hrel
    by_cases hlt : k < l
    · have HS : Hid ((ss k).size = (ss 0).size) := (T_row ss _ l k 0 HR.out hlt).1
      go_wp2_with fail
      go_loopw [20] (fun i wr => ∃ j : Nat, j ≤ (ss 0).size ∧ i = .int .i64 j ∧ wr = w.alloc (.cells (vec (T ss k j)) 3)) (fun i _ => (ss 0).size - (intOf i).toNat)
      case atStart => exact ⟨0, Nat.zero_le _, rfl, rfl⟩
      case round =>
        obtain ⟨j, hj, rfl, rfl⟩ := hrel
        by_cases hlj : j < (ss 0).size
        · have hlj2 : j < (ss k).size := by rw [HS.out]; exact hlj
          obtain ⟨d, hd, hdb⟩ : ∃ d, d < 10 ∧ (ss k)[j].toNat = 48 + d := (T_row ss _ l k j HR.out hlt).2 hlj2
          have HM : Hid (vec (T ss k (j + 1)) = (vec (T ss k j)).setIfInBounds d (.int .i64 (T ss k j d + 1))) := vec_more ss k j d hlj2 hdb hd
          have hbd : 0 ≤ T ss k j d ∧ T ss k j d ≤ 2400 := T_bd ss k j d (by have := HP.out; omega) (fun i hi => by have := (T_row ss _ l i 0 HR.out (by omega)).1; have := HP.out; omega)
          obtain ⟨hb0, hb1⟩ := hbd
          have HG : Hid (∀ w', ZsAt w' b off l ss → Calls Try.prog 63 #[.slice (some ⟨b, off, none⟩) l c, .int .i64 j, .int .i64 k] w' fun e w2 => e = .returned (.int .i64 d) ∧ w' = w2) := hide fun w' hz' => grade_in b off l c j k ss w' d hz' HP.out.2.1 hlt hlj2 HS.out hdb hd
          have HZ2 : Hid (ZsAt (w.alloc (.cells (vec (T ss k j)) 3)) b off l ss) := hide fun i hi => ⟨by rw [World.cell?_alloc_lt _ _ _ hbl]; exact (HZ.out i hi).1, (HZ.out i hi).2⟩
          clear hdb
          have hcell : (w.alloc (.cells (vec (T ss k j)) 3)).cell? ⟨w.heap.size, d, none⟩ = some (.int .i64 (T ss k j d)) := by
            rw [World.cell?_alloc_new]; exact vec_get _ d hd
          go_wp2_with (go_at_call 63; refine (HG.out _ HZ2.out).mono ?_; rintro e w' ⟨rfl, rfl⟩)
          go_roundw
          case rel => exact ⟨j + 1, by omega, by go_num, by rw [HM.out]⟩
          case measure => simp [intOf]; omega
        · have hge : (ss k).size ≤ j := by rw [HS.out]; omega
          have HX : Hid (vec (T ss (k + 1) 0) = vec (T ss k j)) := vec_next ss k j hge
          clear hge
          go_wp2_with fail
          go_roundw
          case rel => exact ⟨k + 1, by omega, by go_num, by rw [HX.out]⟩
          case measure => simp [intOf]; omega
    · obtain rfl : k = l := by omega
      go_wp2_with fail
      refine bodyPost_ret (v := .tuple #[.slice (some ⟨w.heap.size, 0, none⟩) 10 10, .int .i64 0]) (by simp [results, Try.results19, go_sem]) rfl ⟨w.heap.size, rfl, Nat.le_refl _, ten_new w _ 3, (Below.refl _ _).alloc (Nat.le_refl _) _⟩
end Go.Proofs.Ytkajcbjacjfhnaa
