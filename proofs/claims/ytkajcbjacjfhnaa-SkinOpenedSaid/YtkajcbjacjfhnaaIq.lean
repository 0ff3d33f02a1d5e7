/- Erode, Dilate, Open: refusals, and what they hand on. -/
import Derived.Test.YtkajcbjacjfhnaaIp
import Derived.Test.YtkajcbjacjfhnaaIe
set_option linter.unusedVariables false
namespace Go.Proofs.Ytkajcbjacjfhnaa
open Go.RowKit Go.Ab
/-- how a function of a skin answers -/
def Ans (Q : World → Value → Prop) (er : Int) (w : World) (e : Ending) (w' : World) : Prop := ∃ u, e = .returned (.tuple #[u, .int .i64 er]) ∧ Q w' u ∧ Below w.heap.size w w'
theorem swept_no (a : Option Addr) (l c gk : Nat) (k : Int) (ss : Nat → ByteArray) (w : World) (hz : Zs w a l ss) (hv : validB l ss = false) :
    Calls Try.prog 89 #[.slice a l c, .int .i64 k, .func (.func gk) #[] #[]] w (Ans QNil 2 w) := by
  have HZ := hide hz; clear hz
  have HV := hide hv; clear hv
  go_enter Try.func89, Try.ntmps89
  go_wp2_with (go_at_call 22; refine (valid_all a l c ss _ HZ.out).mono ?_; rintro e w' ⟨rfl, rfl⟩; rw [HV.out])
  go_ret2
  exact ⟨_, rfl, rfl, Below.refl _ _⟩
theorem swept_low (v : Value) (p : Nat × Nat × (Nat → Nat → UInt8)) (gk : Nat) (k : Int) (w : World) (hs : Sp w v p) (hv : validB p.2.1 (rowS p.2.2 p.1) = true) (hk : k < 0) :
    Calls Try.prog 89 #[v, .int .i64 k, .func (.func gk) #[] #[]] w (Ans QNil 2 w) := by
  have HS := hide hs; clear hs
  have HV := hide hv; clear hv
  go_enter Try.func89, Try.ntmps89
  go_wp2_with (go_at_call 22; refine (valid_sp v p _ HS.out HV.out).mono ?_; rintro e w' ⟨rfl, rfl⟩)
  go_ret2
  exact ⟨_, rfl, rfl, Below.refl _ _⟩
theorem swept_high (v : Value) (p : Nat × Nat × (Nat → Nat → UInt8)) (gk : Nat) (k : Int) (w : World) (hs : Sp w v p) (hv : validB p.2.1 (rowS p.2.2 p.1) = true) (hk : 48 < k) :
    Calls Try.prog 89 #[v, .int .i64 k, .func (.func gk) #[] #[]] w (Ans QNil 2 w) := by
  have HS := hide hs; clear hs
  have HV := hide hv; clear hv
  have hd : decide ((48 : Int) < k) = true := by simp; omega
  have hd0 : ¬ k < 0 := by omega
  go_enter Try.func89, Try.ntmps89
  go_wp2_with (go_at_call 22; refine (valid_sp v p _ HS.out HV.out).mono ?_; rintro e w' ⟨rfl, rfl⟩)
  go_ret2
  exact ⟨_, rfl, rfl, Below.refl _ _⟩
theorem erode_of (v : Value) (k er : Int) (Q : World → Value → Prop) (w : World) (h : Calls Try.prog 89 #[v, .int .i64 k, .func (.func 90) #[] #[]] w (Ans Q er w)) :
    Calls Try.prog 43 #[v, .int .i64 k] w (Ans Q er w) := by
  have H := hide h; clear h
  go_enter Try.func43, Try.ntmps43
  go_wp2_with fail
  refine H.out.mono ?_
  rintro e w1 ⟨u, rfl, hq, hb⟩
  have HQ := hide hq
  have HB := hide hb
  clear hq hb H
  go_wp2_with fail
  go_ret2
  exact ⟨_, rfl, HQ.out, HB.out⟩
theorem dilate_of (v : Value) (k er : Int) (Q : World → Value → Prop) (w : World) (h : Calls Try.prog 89 #[v, .int .i64 k, .func (.func 92) #[] #[]] w (Ans Q er w)) :
    Calls Try.prog 45 #[v, .int .i64 k] w (Ans Q er w) := by
  have H := hide h; clear h
  go_enter Try.func45, Try.ntmps45
  go_wp2_with fail
  refine H.out.mono ?_
  rintro e w1 ⟨u, rfl, hq, hb⟩
  have HQ := hide hq
  have HB := hide hb
  clear hq hb H
  go_wp2_with fail
  go_ret2
  exact ⟨_, rfl, HQ.out, HB.out⟩
theorem open_err (v : Value) (k : Int) (w : World) (h : Calls Try.prog 43 #[v, .int .i64 k] w (Ans QNil 2 w)) :
    Calls Try.prog 47 #[v, .int .i64 k] w (Ans QNil 2 w) := by
  have H := hide h; clear h
  go_enter Try.func47, Try.ntmps47
  go_wp2_with fail
  refine H.out.mono ?_
  rintro e w1 ⟨u, rfl, rfl, hb⟩
  have HB := hide hb
  clear hb H
  go_wp2_with fail
  go_ret2
  exact ⟨_, rfl, rfl, HB.out⟩
theorem open_of (v : Value) (k : Int) (Q Q' : World → Value → Prop) (w : World) (h : Calls Try.prog 43 #[v, .int .i64 k] w (Ans Q 0 w))
    (h2 : ∀ W u, Q W u → Calls Try.prog 45 #[u, .int .i64 k] W (Ans Q' 0 W)) : Calls Try.prog 47 #[v, .int .i64 k] w (Ans Q' 0 w) := by
  have H := hide h; clear h
  have H2 := hide h2; clear h2
  go_enter Try.func47, Try.ntmps47
  go_wp2_with fail
  refine H.out.mono ?_
  rintro e w1 ⟨u, rfl, hq, hb⟩
  have HC := hide (H2.out w1 u hq)
  have HB := hide hb
  clear hq hb H H2
  go_wp2_with fail
  refine HC.out.mono ?_
  rintro e w2 ⟨u2, rfl, hq, hb⟩
  have HQ := hide hq
  have HB2 := hide (bt HB.out hb)
  clear hq hb HC
  go_wp2_with fail
  go_ret2
  exact ⟨_, rfl, HQ.out, HB2.out⟩
theorem ropen_err (v : Value) (k : Int) (w : World) (h : Calls Try.prog 44 #[v, .int .i64 k] w (Ans QNil 2 w)) :
    Calls Try.prog 48 #[v, .int .i64 k] w (Ans QNil 2 w) := by
  have H := hide h; clear h
  go_enter Try.func48, Try.ntmps48
  go_wp2_with fail
  refine H.out.mono ?_
  rintro e w1 ⟨u, rfl, rfl, hb⟩
  have HB := hide hb
  clear hb H
  go_wp2_with fail
  go_ret2
  exact ⟨_, rfl, rfl, HB.out⟩
theorem ropen_of (v : Value) (k : Int) (Q Q' : World → Value → Prop) (w : World) (h : Calls Try.prog 44 #[v, .int .i64 k] w (Ans Q 0 w))
    (h2 : ∀ W u, Q W u → Calls Try.prog 46 #[u, .int .i64 k] W (Ans Q' 0 W)) : Calls Try.prog 48 #[v, .int .i64 k] w (Ans Q' 0 w) := by
  have H := hide h; clear h
  have H2 := hide h2; clear h2
  go_enter Try.func48, Try.ntmps48
  go_wp2_with fail
  refine H.out.mono ?_
  rintro e w1 ⟨u, rfl, hq, hb⟩
  have HC := hide (H2.out w1 u hq)
  have HB := hide hb
  clear hq hb H H2
  go_wp2_with fail
  refine HC.out.mono ?_
  rintro e w2 ⟨u2, rfl, hq, hb⟩
  have HQ := hide hq
  have HB2 := hide (bt HB.out hb)
  clear hq hb HC
  go_wp2_with fail
  go_ret2
  exact ⟨_, rfl, HQ.out, HB2.out⟩
theorem rerode_no (a : Option Addr) (l c : Nat) (k : Int) (ss : Nat → ByteArray) (w : World) (hz : Zs w a l ss) (hv : validB l ss = false) :
    Calls Try.prog 44 #[.slice a l c, .int .i64 k] w (Ans QNil 2 w) := by
  have HZ := hide hz; clear hz
  have HV := hide hv; clear hv
  go_enter Try.func44, Try.ntmps44
  go_wp2_with (go_at_call 23; refine (rvalid_all a l c ss _ HZ.out).mono ?_; rintro e w' ⟨rfl, rfl⟩; rw [HV.out])
  go_ret2
  exact ⟨_, rfl, rfl, Below.refl _ _⟩
theorem rdilate_no (a : Option Addr) (l c : Nat) (k : Int) (ss : Nat → ByteArray) (w : World) (hz : Zs w a l ss) (hv : validB l ss = false) :
    Calls Try.prog 46 #[.slice a l c, .int .i64 k] w (Ans QNil 2 w) := by
  have HZ := hide hz; clear hz
  have HV := hide hv; clear hv
  go_enter Try.func46, Try.ntmps46
  go_wp2_with (go_at_call 23; refine (rvalid_all a l c ss _ HZ.out).mono ?_; rintro e w' ⟨rfl, rfl⟩; rw [HV.out])
  go_ret2
  exact ⟨_, rfl, rfl, Below.refl _ _⟩
theorem rerode_bad (v : Value) (p : Nat × Nat × (Nat → Nat → UInt8)) (k : Int) (w : World) (hs : Sp w v p) (hv : validB p.2.1 (rowS p.2.2 p.1) = true) (hk : k < 0 ∨ 48 < k) :
    Calls Try.prog 44 #[v, .int .i64 k] w (Ans QNil 2 w) := by
  have HS := hide hs; clear hs
  have HV := hide hv; clear hv
  by_cases h0 : k < 0
  · clear hk
    go_enter Try.func44, Try.ntmps44
    go_wp2_with (go_at_call 23; refine (rvalid_sp v p _ HS.out HV.out).mono ?_; rintro e w' ⟨rfl, rfl⟩)
    go_ret2
    exact ⟨_, rfl, rfl, Below.refl _ _⟩
  · have hd : decide ((48 : Int) < k) = true := by simp; omega
    clear hk
    go_enter Try.func44, Try.ntmps44
    go_wp2_with (go_at_call 23; refine (rvalid_sp v p _ HS.out HV.out).mono ?_; rintro e w' ⟨rfl, rfl⟩)
    go_ret2
    exact ⟨_, rfl, rfl, Below.refl _ _⟩
theorem rdilate_bad (v : Value) (p : Nat × Nat × (Nat → Nat → UInt8)) (k : Int) (w : World) (hs : Sp w v p) (hv : validB p.2.1 (rowS p.2.2 p.1) = true) (hk : k < 0 ∨ 48 < k) :
    Calls Try.prog 46 #[v, .int .i64 k] w (Ans QNil 2 w) := by
  have HS := hide hs; clear hs
  have HV := hide hv; clear hv
  by_cases h0 : k < 0
  · clear hk
    go_enter Try.func46, Try.ntmps46
    go_wp2_with (go_at_call 23; refine (rvalid_sp v p _ HS.out HV.out).mono ?_; rintro e w' ⟨rfl, rfl⟩)
    go_ret2
    exact ⟨_, rfl, rfl, Below.refl _ _⟩
  · have hd : decide ((48 : Int) < k) = true := by simp; omega
    clear hk
    go_enter Try.func46, Try.ntmps46
    go_wp2_with (go_at_call 23; refine (rvalid_sp v p _ HS.out HV.out).mono ?_; rintro e w' ⟨rfl, rfl⟩)
    go_ret2
    exact ⟨_, rfl, rfl, Below.refl _ _⟩
theorem rerode_of (v : Value) (p : Nat × Nat × (Nat → Nat → UInt8)) (k : Nat) (Q : World → Value → Prop) (w : World) (hs : Sp w v p) (hv : validB p.2.1 (rowS p.2.2 p.1) = true) (hk : k ≤ 48)
    (h : Calls Try.prog 91 #[v, .int .i64 k, .bool true] w fun e w' => ∃ u, e = .returned u ∧ Q w' u ∧ Below w.heap.size w w') : Calls Try.prog 44 #[v, .int .i64 k] w (Ans Q 0 w) := by
  have HS := hide hs; clear hs
  have HV := hide hv; clear hv
  have H := hide h; clear h
  have bk : (k : Int) ≤ 48 := by omega
  clear hk
  go_enter Try.func44, Try.ntmps44
  go_wp2_with (go_at_call 23; refine (rvalid_sp v p _ HS.out HV.out).mono ?_; rintro e w' ⟨rfl, rfl⟩)
  refine H.out.mono ?_
  rintro e w1 ⟨u, rfl, hq, hb⟩
  have HQ := hide hq
  have HB := hide hb
  clear hq hb H
  go_wp2_with fail
  go_ret2
  exact ⟨_, rfl, HQ.out, HB.out⟩
theorem rdilate_of (v : Value) (p : Nat × Nat × (Nat → Nat → UInt8)) (k : Nat) (Q : World → Value → Prop) (w : World) (hs : Sp w v p) (hv : validB p.2.1 (rowS p.2.2 p.1) = true) (hk : k ≤ 48)
    (h : Calls Try.prog 91 #[v, .int .i64 k, .bool false] w fun e w' => ∃ u, e = .returned u ∧ Q w' u ∧ Below w.heap.size w w') : Calls Try.prog 46 #[v, .int .i64 k] w (Ans Q 0 w) := by
  have HS := hide hs; clear hs
  have HV := hide hv; clear hv
  have H := hide h; clear h
  have bk : (k : Int) ≤ 48 := by omega
  clear hk
  go_enter Try.func46, Try.ntmps46
  go_wp2_with (go_at_call 23; refine (rvalid_sp v p _ HS.out HV.out).mono ?_; rintro e w' ⟨rfl, rfl⟩)
  refine H.out.mono ?_
  rintro e w1 ⟨u, rfl, hq, hb⟩
  have HQ := hide hq
  have HB := hide hb
  clear hq hb H
  go_wp2_with fail
  go_ret2
  exact ⟨_, rfl, HQ.out, HB.out⟩
end Go.Proofs.Ytkajcbjacjfhnaa
