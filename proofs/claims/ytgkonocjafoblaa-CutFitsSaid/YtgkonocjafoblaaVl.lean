/- CutFits' walk. -/
import Derived.Test.YtgkonocjafoblaaUh
import Derived.Test.YtgkonocjafoblaaVc
import Derived.Test.YtgkonocjafoblaaVd
import Derived.Test.YtgkonocjafoblaaVj
import Derived.Test.YtgkonocjafoblaaVk
set_option linter.unusedVariables false
namespace Go.Proofs.Ytgkonocjafoblaa
open Go Go.RowKit Go.Ab
set_option maxHeartbeats 1000000 in
theorem firstFit_all (N l c : Nat) (a : Option Addr) (f : Nat → Int) (x : Nat → Nat) (w : World) (HS : Hid (St w a l N f x)) (HB : Hid (stB N f l = true)) :
    Calls Try.prog 59 #[.int .i64 N, .slice a l c] w fun e w' => ∃ p C, e = .returned (.tuple #[.slice (some ⟨C, 0, none⟩) l l, .int .i64 0]) ∧ Ord x p l ∧ (∀ i, i < l → w'.cell? ⟨C, i, none⟩ = some (.int .i64 ((ffs x p N l).o i : Int))) ∧ Below w.heap.size w w' := by
  by_cases h : 1 ≤ l
  · exact firstFit_ok N l c a f x w HS HB h
  · obtain rfl : l = 0 := by omega
    refine (firstFit_none N c a f w HS.out.s HB).mono ?_
    rintro e w' ⟨C, h1, h2⟩
    exact ⟨fun q => q, C, h1, Ord.zero x, fun i hi => by omega, h2⟩
set_option maxRecDepth 20000 in
set_option maxHeartbeats 1000000 in
theorem equal_fits (b b' l : Nat) (f : Nat → Nat) (w : World) (hl : l ≤ 14) (HC : Hid (∀ i, i < l → w.cell? ⟨b, i, none⟩ = some (.int .i64 (f i : Int)))) (HD : Hid (∀ i, i < l → w.cell? ⟨b', i, none⟩ = some (.int .i64 (f i : Int)))) :
    Calls Try.prog 38 #[.slice (some ⟨b, 0, none⟩) l l, .slice (some ⟨b', 0, none⟩) l l] w fun e w' => e = .returned (.bool true) ∧ Lk w w' := by
  go_enter Try.func38, Try.ntmps38
  go_wp2_with fail
  go_loopw [13] (fun i wr => ∃ (wq : World) (k : Nat), wq = wr ∧ k ≤ l ∧ i = .int .i64 (k : Int) ∧ Lk w wr) (fun i _ => l - (intOf i).toNat)
  case atStart => exact ⟨_, 0, rfl, by omega, rfl, Lk.refl _⟩
  case round =>
    obtain ⟨wr, k, rfl, hk, rfl, hlk⟩ := hrel
    have HK := hide hlk
    clear hlk
    by_cases hlt : k < l
    · have c1 := HK.out.cell (HC.out k hlt)
      have c2 := HK.out.cell (HD.out k hlt)
      have hki : (k : Int) < (l : Int) := by omega
      go_wp2_with fail
      refine wp_region_quiet_lit (by kernel_rfl) (by kernel_rfl) ?_
      repeat (go_big_quiet_step (fail))
      refine wpQuiet_nil ?_
      intro w9 hw9
      obtain ⟨nq, rfl⟩ := hw9
      go_wp2_with fail
      refine ⟨⟨_, k + 1, rfl, by omega, rfl, HK.out.drewN nq⟩, ?_⟩
      show l - ((k : Int) + 1).toNat < l - (k : Int).toNat
      omega
    · obtain rfl : l = k := by omega
      go_wp2_with fail
      go_ret
      exact ⟨rfl, HK.out⟩
set_option maxRecDepth 20000 in
set_option maxHeartbeats 1000000 in
theorem fits_law (n : Int) (a : Option Addr) (l c : Nat) (f : Nat → Int) (w : World) (_ : In64 n) (h1 : Ls w a l f ∧ l ≤ maxLen) :
    Calls Try.prog 15 #[.int .i64 n, .slice a l c] w fun e w' => e = .returned (.bool true) ∧ Below w.heap.size w w' := by
  cases hok : stB n f l with
  | false =>
    have H1 := hide h1
    have HO := hide hok
    clear h1 hok
    go_enter Try.func15, Try.ntmps15
    go_wp2_with fail
    refine (firstFit_no n l c a f w H1.out.1 H1.out.2 HO.out).mono ?_
    rintro e w1 ⟨rfl, hb⟩
    have HB := hide hb
    have H2 := hide (H1.out.1.below hb)
    have HL := hide H1.out.2
    clear hb
    go_wp2_with (first
      | (go_at_call 60; (with_reducible refine (rfirstFit_no n l c a f _ H2.out HL.out HO.out).mono ?_); rintro e w2 ⟨rfl, rfl⟩)
      | (go_at_call 61; (with_reducible refine (floor_no n l c a f _ H2.out HL.out HO.out).mono ?_); rintro e w2 ⟨rfl, rfl⟩)
      | (go_at_call 62; (with_reducible refine (rfloor_no n l c a f _ H2.out HL.out HO.out).mono ?_); rintro e w2 ⟨rfl, rfl⟩)
      | (go_at_call 38; (with_reducible refine (equal_none _).mono ?_); rintro e w2 ⟨rfl, hk⟩; have HK := hide hk; clear hk)
      | (go_at_call 23; (with_reducible refine (awake_any _).mono ?_); rintro e w3 ⟨rfl, hb⟩; have HB3 := hide hb; clear hb))
    go_ret
    exact ⟨rfl, bt (bt HB.out (lk_below HK.out)) HB3.out⟩
  | true =>
    obtain ⟨⟨g1, g2⟩, g3, g4⟩ := stB_get hok
    obtain ⟨N, rfl⟩ : ∃ N : Nat, n = N := ⟨n.toNat, by omega⟩
    have bL := allB_get l g3
    obtain ⟨x, hx⟩ : ∃ x : Nat → Nat, x = fun i => (f i).toNat := ⟨_, rfl⟩
    have HS : Hid (St w a l N f x) := hide ⟨h1.1, fun i hi => by have := bL i hi; rw [hx]; show f i = ((f i).toNat : Int); omega, fun i hi => by have := bL i hi; rw [hx]; show 1 ≤ (f i).toNat ∧ (f i).toNat ≤ N; omega, by omega, g4⟩
    have HO := hide hok
    clear hok g3 bL h1 hx
    go_enter Try.func15, Try.ntmps15
    go_wp2_with fail
    refine (firstFit_all N l c a f x w HS HO).mono ?_
    rintro e w1 ⟨p, C, rfl, hp, hc, hb⟩
    have HP := hide hp
    have HC := hide hc
    have HB := hide hb
    have HS1 := hide (HS.out.below hb)
    clear hp hc hb
    go_wp2_with fail
    refine (rfirstFit_ok N l c a f x p w1 HS1 HO HP).mono ?_
    rintro e w2 ⟨C', rfl, hc, hb⟩
    have HC' := hide hc
    have HB2 := hide (bt HB.out hb)
    have HS2 := hide (HS1.out.below hb)
    have HC2 : Hid (∀ i, i < l → w2.cell? ⟨C, i, none⟩ = some (.int .i64 ((ffs x p N l).o i : Int))) := hide (fun i hi => kc hb (HC.out i hi))
    clear hc hb
    obtain ⟨Z, hZ⟩ : ∃ Z, Hid (Z = flTop x N l (N / 2 + 1)) := ⟨_, hide rfl⟩
    go_wp2_with (first
      | (go_at_call 61; (with_reducible refine (floor_ok N l c a f x _ HS2 HO).mono ?_); rintro e w3 ⟨rfl, rfl⟩; rw [← hZ.out])
      | (go_at_call 62; (with_reducible refine (rfloor_ok N l c a f x _ HS2 HO).mono ?_); rintro e w3 ⟨rfl, rfl⟩; rw [← hZ.out])
      | (go_at_call 38; (with_reducible refine (equal_fits C C' l _ _ g4 HC2 HC').mono ?_); rintro e w3 ⟨rfl, hk⟩; have HK := hide hk; clear hk)
      | (go_at_call 23; (with_reducible refine (awake_any _).mono ?_); rintro e w4 ⟨rfl, hb⟩; have HB4 := hide hb; clear hb))
    go_ret
    exact ⟨rfl, bt (bt HB2.out (lk_below HK.out)) HB4.out⟩
end Go.Proofs.Ytgkonocjafoblaa
