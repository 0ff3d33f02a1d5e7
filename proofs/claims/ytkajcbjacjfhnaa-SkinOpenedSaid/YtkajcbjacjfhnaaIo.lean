/- The closure of sweptRows. -/
import Derived.Test.YtkajcbjacjfhnaaIn
set_option linter.unusedVariables false
namespace Go.Proofs.Ytkajcbjacjfhnaa
open Go.RowKit Go.Ab
/-- what the closure has captured -/
def Sc (W : World) (b1 b2 b3 b4 bb off l c n k gk : Nat) (f : Nat → Nat → UInt8) : Prop :=
  (W.cell? ⟨b1, 0, none⟩ = some (.slice (some ⟨bb, off, none⟩) l c) ∧ W.cell? ⟨b2, 0, none⟩ = some (.int .i64 k)) ∧ (W.cell? ⟨b3, 0, none⟩ = some (.int .i64 n) ∧ W.cell? ⟨b4, 0, none⟩ = some (.func (.func gk) #[] #[])) ∧ ZsAt W bb off l (rowS f n)
theorem sc_step {W W' : World} {b1 b2 b3 b4 bb off l c n k gk : Nat} {f : Nat → Nat → UInt8} (H : Sc W b1 b2 b3 b4 bb off l c n k gk f) (hb : Below W.heap.size W W') : Sc W' b1 b2 b3 b4 bb off l c n k gk f :=
  ⟨⟨kc hb H.1.1, kc hb H.1.2⟩, ⟨kc hb H.2.1.1, kc hb H.2.1.2⟩, H.2.2.below hb⟩
set_option maxRecDepth 20000 in
set_option maxHeartbeats 4000000 in
theorem swept1_is (b1 b2 b3 b4 bb off l c n k gk x y : Nat) (mn : Bool) (f : Nat → Nat → UInt8) (w : World) (hs : Sc w b1 b2 b3 b4 bb off l c n k gk f) (hp : Pick gk mn) (hx : x < n) (hy : y < l) (hn : n ≤ 48) (hl : l ≤ 48) (hk : k ≤ 48) :
    Calls Try.prog 149 #[.agg #[.int .i64 x, .int .i64 y], .pointer (some ⟨b1, 0, none⟩), .pointer (some ⟨b2, 0, none⟩), .pointer (some ⟨b3, 0, none⟩), .pointer (some ⟨b4, 0, none⟩)] w fun e w' => e = .returned (.int .u8 ((sw mn f n k x y).toNat : Int)) ∧ Below w.heap.size w w' := by
  have hb0 : Below w.heap.size w (w.alloc (.cells #[.int .i64 x, .int .i64 y] 87)) := (Below.refl _ _).alloc (Nat.le_refl _) _
  have HB0 := hide hb0
  have HS := hide (sc_step hs hb0)
  have d0 : (w.alloc (.cells #[.int .i64 x, .int .i64 y] 87)).cell? ⟨w.heap.size, 0, none⟩ = some (.int .i64 x) := by simp [go_sem]
  have d1 : (w.alloc (.cells #[.int .i64 x, .int .i64 y] 87)).cell? ⟨w.heap.size, 1, none⟩ = some (.int .i64 y) := by simp [go_sem]
  have D := hide (And.intro d0 d1)
  have HP := hide hp
  have hpe := hp.1
  have HN := hide (And.intro (And.intro hx hy) (And.intro hn (And.intro hl hk)))
  have bx : (x : Int) ≤ 48 := by omega
  have bn : (n : Int) ≤ 48 := by omega
  have bk : (k : Int) ≤ 48 := by omega
  obtain ⟨lo, elo⟩ : ∃ lo, Hid (lo = loK x k) := ⟨_, hide rfl⟩
  obtain ⟨hi, ehi⟩ : ∃ hi, Hid (hi = hiK x k n) := ⟨_, hide rfl⟩
  have m1 : (if (x : Int) - (k : Int) < -1 then (-1 : Int) else (x : Int) - (k : Int)) = lo := by rw [elo.out]; unfold loK; split <;> omega
  have m2 : (if (n : Int) < (x : Int) + (k : Int) then (n : Int) else (x : Int) + (k : Int)) = hi := by rw [ehi.out]; unfold hiK; split <;> omega
  have l1 : -1 ≤ lo := by rw [elo.out]; unfold loK; omega
  have l2 : lo ≤ 48 := by rw [elo.out]; unfold loK; omega
  have l3 : hi ≤ 48 := by rw [ehi.out]; unfold hiK; omega
  have l4 : lo ≤ hi := by rw [elo.out, ehi.out]; unfold loK hiK; omega
  have HM : Hid (cntK x k n = (hi - lo + 1).toNat) := hide (by rw [elo.out, ehi.out]; rfl)
  obtain ⟨⟨q1, q2⟩, ⟨q3, q4⟩, hz⟩ := HS.out
  have cy := (hz y hy).1
  have hlt : x < (rowS f n y).size := by rw [rowS_size]; exact hx
  obtain ⟨s, es⟩ : ∃ s, Hid (s = rowS f n y) := ⟨_, hide rfl⟩
  rw [← es.out] at cy hlt
  have HG : Hid (s[x] = f x y) := by rw [get_in hlt, es.out, get_row f n _ y hx]; exact hide rfl
  have hyi : (y : Int) < (l : Int) := by omega
  have hxi : (x : Int) < (s.size : Int) := by omega
  clear hs hp hx hn hl hk hb0 hz
  go_enter Try.func149, Try.ntmps149
  go_wp2_with fail
  go_quiet (fail)
  go_wp2_with fail
  obtain ⟨W0, eW0⟩ : ∃ W0, Hid (W0 = w.alloc (.cells #[.int .i64 x, .int .i64 y] 87)) := ⟨_, hide rfl⟩
  rw [← eW0.out] at HB0 HS D
  have HP48 : Hid (∀ W (a : UInt8), Calls Try.prog gk #[.int .u8 (a.toNat : Int), .int .u8 48] W fun e w' => e = .returned (.int .u8 ((pkU mn a 48).toNat : Int)) ∧ W = w') := hide fun W a => HP.out.2 W a 48
  have hend : Hid (W0.heap.size = w.heap.size + 1) := hide (by rw [eW0.out]; simp)
  go_loopw [7, 8] (fun a i wr => ∃ (wq : World) (j : Nat) (q : Int) (A : UInt8), wq = wr ∧ j ≤ cntK x k n ∧ i = .int .i64 q ∧ Hid (q = lo + (j : Int)) ∧ a = .int .u8 (A.toNat : Int) ∧ Hid (A = swK mn f n k x y j) ∧ Below W0.heap.size W0 wr) (fun _ i _ => (49 - intOf i).toNat)
  case atStart => exact ⟨_, 0, lo, f x y, rfl, Nat.zero_le _, rfl, hide (by simp), by rw [HG.out], hide rfl, by rw [← eW0.out]; exact bdn _ _ _⟩
  case round =>
    clear q1 q2 q3 q4 cy d0 d1
    obtain ⟨wr, j, q, A, rfl, hj, rfl, hq, rfl, hA, hb⟩ := hrel
    have HB := hide hb
    have hS := sc_step HS.out hb
    obtain ⟨⟨q1, q2⟩, ⟨q3, q4⟩, hz⟩ := hS
    have cy := (hz y HN.out.1.2).1
    rw [← es.out] at cy
    have d0 := kc hb D.out.1
    have d1 := kc hb D.out.2
    have hq1 : -1 ≤ q := by have := hq.out; omega
    have hwb : w.heap.size < wr.heap.size := by have := hb.size; have := hend.out; omega
    clear hb hz
    by_cases hle : q ≤ hi
    · have hjc : Hid (j < cntK x k n) := hide (by have := HM.out; have := hq.out; omega)
      have HSw : Hid (swK mn f n k x y (j + 1) = pkU mn A (el f n y q)) := hide (by rw [swK_succ, hA.out, hq.out, elo.out])
      by_cases h0 : 0 ≤ q
      · by_cases hqn : q < (n : Int)
        · obtain ⟨p, rfl⟩ := Int.eq_ofNat_of_zero_le h0
          have hps : p < s.size := by rw [es.out, rowS_size]; omega
          have hpi : (p : Int) < (s.size : Int) := by omega
          have hpn : p < n := by omega
          have HE : Hid (el f n y p = s[p]) := hide (by
            unfold el
            rw [if_pos ⟨h0, hqn⟩, get_in hps, es.out, get_row f n _ y hpn]; rfl)
          rw [HE.out] at HSw
          have hw1 : IntKind.i64.wrap (p : Int) = (p : Int) := IntWalk.i64_in _ (by omega)
          go_wp2_with fail
          go_quiet ((exact (HP.out.2 _ A s[p]).mono fun e w2 ⟨h1, h2⟩ => ⟨h1, _, h2.symm⟩))
          go_wp2_with fail
          go_roundw
          case rel => exact ⟨_, j + 1, _, pkU mn A s[p], rfl, hjc.out, rfl, hide (by have := hq.out; omega), rfl, hide HSw.out.symm, HB.out.trans (bdn _ _ _)⟩
          case measure => simp [intOf]; omega
        · have HE : Hid (el f n y q = 48) := hide (by unfold el; rw [if_neg (by omega)])
          rw [HE.out] at HSw
          go_wp2_with fail
          refine (HP48.out _ A).mono ?_
          rintro e w' ⟨rfl, rfl⟩
          go_wp2_with fail
          go_roundw
          case rel => exact ⟨_, j + 1, _, pkU mn A 48, rfl, hjc.out, rfl, hide (by have := hq.out; omega), rfl, hide HSw.out.symm, HB.out⟩
          case measure => simp [intOf]; omega
      · have HE : Hid (el f n y q = 48) := hide (by unfold el; rw [if_neg (by omega)])
        rw [HE.out] at HSw
        go_wp2_with fail
        refine (HP48.out _ A).mono ?_
        rintro e w' ⟨rfl, rfl⟩
        go_wp2_with fail
        go_roundw
        case rel => exact ⟨_, j + 1, _, pkU mn A 48, rfl, hjc.out, rfl, hide (by have := hq.out; omega), rfl, hide HSw.out.symm, HB.out⟩
        case measure => simp [intOf]; omega
    · have hjc : Hid (j = cntK x k n) := hide (by have := HM.out; have := hq.out; omega)
      go_wp2_with fail
      go_ret
      exact ⟨by rw [hA.out, hjc.out]; rfl, bt HB0.out HB.out⟩
end Go.Proofs.Ytkajcbjacjfhnaa
