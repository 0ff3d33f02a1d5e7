/- SkinGrades' walk. -/
import Derived.Test.YtkajcbjacjfhnaaGi
import Derived.Test.YtkajcbjacjfhnaaKs
namespace Go.Proofs.Ytkajcbjacjfhnaa
open Go.RowKit Go.Ab
theorem bt {a b c : World} (h : Below a.heap.size a b) (h' : Below b.heap.size b c) : Below a.heap.size a c := h.trans (h'.mono h.size)
set_option maxHeartbeats 1000000 in
theorem law_no (a a' : Option Addr) (l c m c' : Nat) (ss : Nat → ByteArray) (w : World) (hz : Zs w a l ss) (hv : validB l ss = false) :
    Calls Try.prog 3 #[.slice a l c, .slice a' m c'] w fun e w' => e = .returned (.bool true) ∧ Below w.heap.size w w' := by
  have HZ := hide hz; clear hz
  have HV := hide hv; clear hv
  go_enter Try.func3, Try.ntmps3
  go_wp2_with (first | (go_at_call 18; refine (grades_no a l c ss _ HZ.out HV.out).mono ?_; rintro e w' ⟨rfl, rfl⟩) | (go_at_call 19; refine (rgrades_no a l c ss _ HZ.out HV.out).mono ?_; rintro e w' ⟨rfl, rfl⟩) | (go_at_call 20; refine (worth_no1 a a' l c m c' ss _ HZ.out HV.out).mono ?_; rintro e w' ⟨rfl, rfl⟩))
  refine (rworth_no1 a a' l c m c' ss _ HZ.out HV.out).mono ?_
  rintro e w1 ⟨rfl, hb⟩
  have HB := hide hb; clear hb
  have HZ1 := hide (HZ.out.below HB.out)
  go_wp2_with (first | (go_at_call 22; refine (valid_all a l c ss _ HZ1.out).mono ?_; rintro e w' ⟨rfl, rfl⟩; rw [HV.out]) | (go_at_call 23; refine (rvalid_all a l c ss _ HZ1.out).mono ?_; rintro e w' ⟨rfl, rfl⟩; rw [HV.out]))
  refine (equal_nil _).mono ?_
  rintro e w2 ⟨rfl, hb⟩
  have HB2 := hide (bt HB.out hb); clear hb
  go_wp2_with fail
  refine (awake_any _).mono ?_
  rintro e w3 ⟨rfl, hb⟩
  have HB3 := hide (bt HB2.out hb); clear hb
  go_wp2_with fail
  go_ret
  exact ⟨rfl, HB3.out⟩
theorem worth_bad (a a' : Option Addr) (l c m c' : Nat) (ss : Nat → ByteArray) (ns : Nat → Int) (w : World) (hm : m ≤ maxLen) (hz : Zs w a l ss) (hp : Ps w a' m ns) (hv : validB l ss = true) (hb : pricesB m ns = false) :
    Calls Try.prog 20 #[.slice a l c, .slice a' m c'] w fun e w' => e = .returned (.tuple #[.int .i64 0, .int .i64 2]) ∧ Below w.heap.size w w' := (worth_no2 a a' l c m c' ss ns w hm hz hp hv hb).mono fun _ _ ⟨h1, h2⟩ => ⟨h1, h2 ▸ Below.refl _ _⟩
theorem rworth_yes (b off l c b' off' c' : Nat) (ss : Nat → ByteArray) (ns : Nat → Int) (w : World) (hz : ZsAt w b off l ss) (hp : PsAt w b' off' 10 ns) (hv : validB l ss = true) (hb : pricesB 10 ns = true) :
    Calls Try.prog 21 #[.slice (some ⟨b, off, none⟩) l c, .slice (some ⟨b', off', none⟩) 10 c'] w fun e w' => e = .returned (.tuple #[.int .i64 (sumW (T ss l 0) ns 10), .int .i64 0]) ∧ Below w.heap.size w w' := by
  have h : pricesA 10 ns = true := by unfold pricesB at hb; simpa using hb
  exact (rworth_ten b off l c b' off' c' ss ns w hz hp hv).mono fun e w' ⟨h1, h2⟩ => ⟨by rw [h1, worthV_yes h], h2⟩
theorem rworth_bad (b off l c b' off' c' : Nat) (ss : Nat → ByteArray) (ns : Nat → Int) (w : World) (hz : ZsAt w b off l ss) (hp : PsAt w b' off' 10 ns) (hv : validB l ss = true) (hb : pricesB 10 ns = false) :
    Calls Try.prog 21 #[.slice (some ⟨b, off, none⟩) l c, .slice (some ⟨b', off', none⟩) 10 c'] w fun e w' => e = .returned (.tuple #[.int .i64 0, .int .i64 2]) ∧ Below w.heap.size w w' := by
  have h : pricesA 10 ns = false := by unfold pricesB at hb; simpa using hb
  exact (rworth_ten b off l c b' off' c' ss ns w hz hp hv).mono fun e w' ⟨h1, h2⟩ => ⟨by rw [h1, worthV_no h], h2⟩
set_option maxHeartbeats 2000000 in
theorem law_len (b off l c : Nat) (a' : Option Addr) (m c' : Nat) (ss : Nat → ByteArray) (ns : Nat → Int) (w : World) (hz : ZsAt w b off l ss) (hv : validB l ss = true) (hm : m ≤ maxLen) (hp : Ps w a' m ns) (he : pricesB m ns = false ∧ m ≠ 10) :
    Calls Try.prog 3 #[.slice (some ⟨b, off, none⟩) l c, .slice a' m c'] w fun e w' => e = .returned (.bool true) ∧ Below w.heap.size w w' := by
  have HZ := hide hz; clear hz
  have HV := hide hv; clear hv
  have HP := hide hp; clear hp
  have HE := hide he; clear he
  go_enter Try.func3, Try.ntmps3
  go_wp2_with fail
  refine (grades_yes b off l c ss _ HZ.out HV.out).mono ?_
  rintro e w1 ⟨B, rfl, hB, hT, hb⟩
  have HB1 := hide hb; clear hb hB
  have HT1 := hide hT; clear hT
  have HZ1 := hide (HZ.out.below HB1.out)
  have HP1 := hide (HP.out.below HB1.out)
  go_wp2_with fail
  refine (rgrades_yes b off l c ss _ HZ1.out HV.out).mono ?_
  rintro e w2 ⟨B', rfl, hB, hT, hb⟩
  have HT2 := hide hT; clear hT
  have HT2a := hide (HT1.out.below hb)
  have HZ2 := hide (HZ1.out.below hb)
  have HP2 := hide (HP1.out.below hb)
  have HB2 := hide (bt HB1.out hb); clear hb hB
  go_wp2_with fail
  refine (worth_bad _ a' l c m c' ss ns _ hm (.inr ⟨b, off, rfl, HZ2.out⟩) HP2.out HV.out HE.out.1).mono ?_
  rintro e w3 ⟨rfl, hb⟩
  have HT3 := hide (HT2.out.below hb)
  have HT3a := hide (HT2a.out.below hb)
  have HZ3 := hide (HZ2.out.below hb)
  have HP3 := hide (HP2.out.below hb)
  have HB3 := hide (bt HB2.out hb); clear hb
  go_wp2_with fail
  refine (rworth_no2 b off l c a' m c' ss _ HZ3.out HV.out HE.out.2).mono ?_
  rintro e w4 ⟨rfl, hb⟩
  have HT4 := hide (HT3.out.below hb)
  have HT4a := hide (HT3a.out.below hb)
  have HZ4 := hide (HZ3.out.below hb)
  have HB4 := hide (bt HB3.out hb); clear hb
  go_wp2_with (first | (go_at_call 22; refine (valid_any b off l c ss _ HZ4.out).mono ?_; rintro e w' ⟨rfl, rfl⟩; rw [HV.out]) | (go_at_call 23; refine (rvalid_any b off l c ss _ HZ4.out).mono ?_; rintro e w' ⟨rfl, rfl⟩; rw [HV.out]))
  refine (equal_ten B B' _ _ HT4a.out HT4.out).mono ?_
  rintro e w5 ⟨rfl, hb⟩
  have HB5 := hide (bt HB4.out hb); clear hb
  go_wp2_with fail
  refine (awake_any _).mono ?_
  rintro e w6 ⟨rfl, hb⟩
  have HB6 := hide (bt HB5.out hb); clear hb
  go_wp2_with fail
  go_ret
  exact ⟨rfl, HB6.out⟩
set_option maxHeartbeats 2000000 in
theorem law_bad (b off l c : Nat) (b' off' c' : Nat) (ss : Nat → ByteArray) (ns : Nat → Int) (w : World) (hz : ZsAt w b off l ss) (hv : validB l ss = true) (hp : PsAt w b' off' 10 ns) (he : pricesB 10 ns = false) :
    Calls Try.prog 3 #[.slice (some ⟨b, off, none⟩) l c, .slice (some ⟨b', off', none⟩) 10 c'] w fun e w' => e = .returned (.bool true) ∧ Below w.heap.size w w' := by
  have HZ := hide hz; clear hz
  have HV := hide hv; clear hv
  have HP := hide hp; clear hp
  have HE := hide he; clear he
  go_enter Try.func3, Try.ntmps3
  go_wp2_with fail
  refine (grades_yes b off l c ss _ HZ.out HV.out).mono ?_
  rintro e w1 ⟨B, rfl, hB, hT, hb⟩
  have HB1 := hide hb; clear hb hB
  have HT1 := hide hT; clear hT
  have HZ1 := hide (HZ.out.below HB1.out)
  have HP1 := hide (HP.out.below HB1.out)
  go_wp2_with fail
  refine (rgrades_yes b off l c ss _ HZ1.out HV.out).mono ?_
  rintro e w2 ⟨B', rfl, hB, hT, hb⟩
  have HT2 := hide hT; clear hT
  have HT2a := hide (HT1.out.below hb)
  have HZ2 := hide (HZ1.out.below hb)
  have HP2 := hide (HP1.out.below hb)
  have HB2 := hide (bt HB1.out hb); clear hb hB
  go_wp2_with fail
  refine (worth_bad _ _ l c 10 c' ss ns _ (by unfold maxLen; omega) (.inr ⟨b, off, rfl, HZ2.out⟩) (.inr ⟨b', off', rfl, HP2.out⟩) HV.out HE.out).mono ?_
  rintro e w3 ⟨rfl, hb⟩
  have HT3 := hide (HT2.out.below hb)
  have HT3a := hide (HT2a.out.below hb)
  have HZ3 := hide (HZ2.out.below hb)
  have HP3 := hide (HP2.out.below hb)
  have HB3 := hide (bt HB2.out hb); clear hb
  go_wp2_with fail
  refine (rworth_bad b off l c b' off' c' ss ns _ HZ3.out HP3.out HV.out HE.out).mono ?_
  rintro e w4 ⟨rfl, hb⟩
  have HT4 := hide (HT3.out.below hb)
  have HT4a := hide (HT3a.out.below hb)
  have HZ4 := hide (HZ3.out.below hb)
  have HB4 := hide (bt HB3.out hb); clear hb
  go_wp2_with (first | (go_at_call 22; refine (valid_any b off l c ss _ HZ4.out).mono ?_; rintro e w' ⟨rfl, rfl⟩; rw [HV.out]) | (go_at_call 23; refine (rvalid_any b off l c ss _ HZ4.out).mono ?_; rintro e w' ⟨rfl, rfl⟩; rw [HV.out]))
  refine (equal_ten B B' _ _ HT4a.out HT4.out).mono ?_
  rintro e w5 ⟨rfl, hb⟩
  have HB5 := hide (bt HB4.out hb); clear hb
  go_wp2_with fail
  refine (awake_any _).mono ?_
  rintro e w6 ⟨rfl, hb⟩
  have HB6 := hide (bt HB5.out hb); clear hb
  go_wp2_with fail
  go_ret
  exact ⟨rfl, HB6.out⟩
set_option maxHeartbeats 2000000 in
theorem law_yes (b off l c : Nat) (b' off' c' : Nat) (ss : Nat → ByteArray) (ns : Nat → Int) (w : World) (hz : ZsAt w b off l ss) (hv : validB l ss = true) (hp : PsAt w b' off' 10 ns) (he : pricesB 10 ns = true) :
    Calls Try.prog 3 #[.slice (some ⟨b, off, none⟩) l c, .slice (some ⟨b', off', none⟩) 10 c'] w fun e w' => e = .returned (.bool true) ∧ Below w.heap.size w w' := by
  have HZ := hide hz; clear hz
  have HV := hide hv; clear hv
  have HP := hide hp; clear hp
  have HE := hide he; clear he
  go_enter Try.func3, Try.ntmps3
  go_wp2_with fail
  refine (grades_yes b off l c ss _ HZ.out HV.out).mono ?_
  rintro e w1 ⟨B, rfl, hB, hT, hb⟩
  have HB1 := hide hb; clear hb hB
  have HT1 := hide hT; clear hT
  have HZ1 := hide (HZ.out.below HB1.out)
  have HP1 := hide (HP.out.below HB1.out)
  go_wp2_with fail
  refine (rgrades_yes b off l c ss _ HZ1.out HV.out).mono ?_
  rintro e w2 ⟨B', rfl, hB, hT, hb⟩
  have HT2 := hide hT; clear hT
  have HT2a := hide (HT1.out.below hb)
  have HZ2 := hide (HZ1.out.below hb)
  have HP2 := hide (HP1.out.below hb)
  have HB2 := hide (bt HB1.out hb); clear hb hB
  go_wp2_with fail
  refine (worth_yes b off l c b' off' c' ss ns _ HZ2.out HP2.out HV.out HE.out).mono ?_
  rintro e w3 ⟨rfl, hb⟩
  have HT3 := hide (HT2.out.below hb)
  have HT3a := hide (HT2a.out.below hb)
  have HZ3 := hide (HZ2.out.below hb)
  have HP3 := hide (HP2.out.below hb)
  have HB3 := hide (bt HB2.out hb); clear hb
  go_wp2_with fail
  refine (rworth_yes b off l c b' off' c' ss ns _ HZ3.out HP3.out HV.out HE.out).mono ?_
  rintro e w4 ⟨rfl, hb⟩
  have HT4 := hide (HT3.out.below hb)
  have HT4a := hide (HT3a.out.below hb)
  have HZ4 := hide (HZ3.out.below hb)
  have HB4 := hide (bt HB3.out hb); clear hb
  go_wp2_with (first | (go_at_call 22; refine (valid_any b off l c ss _ HZ4.out).mono ?_; rintro e w' ⟨rfl, rfl⟩; rw [HV.out]) | (go_at_call 23; refine (rvalid_any b off l c ss _ HZ4.out).mono ?_; rintro e w' ⟨rfl, rfl⟩; rw [HV.out]))
  refine (equal_ten B B' _ _ HT4a.out HT4.out).mono ?_
  rintro e w5 ⟨rfl, hb⟩
  have HB5 := hide (bt HB4.out hb); clear hb
  go_wp2_with fail
  refine (awake_any _).mono ?_
  rintro e w6 ⟨rfl, hb⟩
  have HB6 := hide (bt HB5.out hb); clear hb
  go_wp2_with fail
  go_ret
  exact ⟨rfl, HB6.out⟩
theorem grades_law (a : Option Addr) (l c : Nat) (ss : Nat → ByteArray) (a' : Option Addr) (m c' : Nat) (ns : Nat → Int) (w : World) (hz : Zs w a l ss) (hp : Ps w a' m ns ∧ m ≤ maxLen) :
    Calls Try.prog 3 #[.slice a l c, .slice a' m c'] w fun e w' => e = .returned (.bool true) ∧ Below w.heap.size w w' := by
  cases hv : validB l ss with
  | false => exact law_no a a' l c m c' ss w hz hv
  | true =>
    rcases hz with h0 | ⟨b, off, rfl, hz⟩
    · rw [h0, validB_zero] at hv; cases hv
    by_cases h10 : m = 10
    · subst h10
      obtain ⟨hp | ⟨b', off', rfl, hp⟩, hm⟩ := hp
      · omega
      cases he : pricesB 10 ns with
      | true => exact law_yes b off l c b' off' c' ss ns w hz hv hp he
      | false => exact law_bad b off l c b' off' c' ss ns w hz hv hp he
    · exact law_len b off l c a' m c' ss ns w hz hv hp.2 hp.1 ⟨by unfold pricesB; simp [h10], h10⟩
end Go.Proofs.Ytkajcbjacjfhnaa
