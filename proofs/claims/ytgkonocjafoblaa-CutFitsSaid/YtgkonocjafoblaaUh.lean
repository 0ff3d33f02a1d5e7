/- CutFill's walk; slices of ints among a law's arguments, opened. -/
import Derived.Test.YtgkonocjafoblaaUg
import Derived.ProofKit
import Derived.OpenShut
import Derived.SliceStrings
import Derived.Deep.SlicePairs
set_option linter.unusedVariables false
namespace Go.Proofs.Ytgkonocjafoblaa
open Go Go.RowKit Go.Ab
set_option maxHeartbeats 1000000 in
theorem equal_none (w : World) : Calls Try.prog 38 #[.slice none 0 0, .slice none 0 0] w fun e w' => e = .returned (.bool true) ∧ Lk w w' := by
  go_enter Try.func38, Try.ntmps38
  go_wp2_with fail
  go_rounds 1
  all_goals go_ret
  all_goals exact ⟨rfl, Lk.refl _⟩
set_option maxRecDepth 20000 in
set_option maxHeartbeats 1000000 in
theorem equal_same (b b' l : Nat) (f : Nat → Nat) (w : World) (hl : l ≤ 12) (HC : Hid (∀ i, i < l → w.cell? ⟨b, i, none⟩ = some (.int .i64 (f i : Int)))) (HD : Hid (∀ i, i < l → w.cell? ⟨b', i, none⟩ = some (.int .i64 (f i : Int)))) :
    Calls Try.prog 38 #[.slice (some ⟨b, 0, none⟩) l l, .slice (some ⟨b', 0, none⟩) l l] w fun e w' => e = .returned (.bool true) ∧ Lk w w' := by
  go_enter Try.func38, Try.ntmps38
  go_wp2_with fail
  go_loopw [13] (fun i wr => ∃ (wq : World) (k : Nat), wq = wr ∧ k ≤ l ∧ i = .int .i64 (k : Int) ∧ Lk w wr) (fun i _ => l - (intOf i).toNat)
  case atStart => exact ⟨_, 0, rfl, by omega, rfl, Lk.refl _⟩
  case round =>
    obtain ⟨wr, k, rfl, hk, rfl, hlk⟩ := hrel
    have HK := hide hlk
    clear hlk
    by_cases hlt : k < l
    · have c1 := HK.out.cell (HC.out k hlt)
      have c2 := HK.out.cell (HD.out k hlt)
      have hki : (k : Int) < (l : Int) := by omega
      go_wp2_with fail
      refine wp_region_quiet_lit (by kernel_rfl) (by kernel_rfl) ?_
      repeat (go_big_quiet_step (fail))
      refine wpQuiet_nil ?_
      intro w9 hw9
      obtain ⟨nq, rfl⟩ := hw9
      go_wp2_with fail
      refine ⟨⟨_, k + 1, rfl, by omega, rfl, HK.out.drewN nq⟩, ?_⟩
      show l - ((k : Int) + 1).toNat < l - (k : Int).toNat
      omega
    · obtain rfl : l = k := by omega
      go_wp2_with fail
      go_ret
      exact ⟨rfl, HK.out⟩
theorem lk_below {w w' : World} (h : Lk w w') : Below w.heap.size w w' := h.below (Below.refl _ _)
theorem okF_get {n : Int} {l m : Nat} {fL fV : Nat → Int} (h : okF n l m fL fV = true) : (0 ≤ n ∧ n ≤ 2000) ∧ (allB fL 2000 l = true ∧ l ≤ 12) ∧ allB fV 1000000 m = true ∧ l = m := by
  unfold okF at h
  simp only [Bool.and_eq_true, decide_eq_true_eq] at h
  exact ⟨h.1.1.1, h.1.1.2, h.1.2, h.2⟩
set_option maxRecDepth 20000 in
set_option maxHeartbeats 1000000 in
theorem fill_law (n : Int) (a1 : Option Addr) (l c1 : Nat) (fL : Nat → Int) (a2 : Option Addr) (m c2 : Nat) (fV : Nat → Int) (w : World) (_ : In64 n) (h1 : Ls w a1 l fL ∧ l ≤ maxLen) (h2 : Ls w a2 m fV ∧ m ≤ maxLen) :
    Calls Try.prog 13 #[.int .i64 n, .slice a1 l c1, .slice a2 m c2] w fun e w' => e = .returned (.bool true) ∧ Below w.heap.size w w' := by
  cases hok : okF n l m fL fV with
  | false =>
    have H1 := hide h1
    have H2 := hide h2
    have HO := hide hok
    clear h1 h2 hok
    go_enter Try.func13, Try.ntmps13
    go_wp2_with (first
      | (go_at_call 54; (with_reducible refine (fill_no n l m c1 c2 a1 a2 fL fV _ H1.out.1 H2.out.1 H1.out.2 H2.out.2 HO.out).mono ?_); rintro e w1 ⟨rfl, rfl⟩)
      | (go_at_call 55; (with_reducible refine (rfill_no n l m c1 c2 a1 a2 fL fV _ H1.out.1 H2.out.1 H1.out.2 H2.out.2 HO.out).mono ?_); rintro e w1 ⟨rfl, rfl⟩)
      | (go_at_call 38; (with_reducible refine (equal_none _).mono ?_); rintro e w2 ⟨rfl, hk⟩; have HK := hide hk; clear hk)
      | (go_at_call 23; (with_reducible refine (awake_any _).mono ?_); rintro e w3 ⟨rfl, hb⟩; have HB := hide hb; clear hb))
    go_ret
    exact ⟨rfl, bt (lk_below HK.out) HB.out⟩
  | true =>
    obtain ⟨⟨g1, g2⟩, ⟨g3, g4⟩, g5, rfl⟩ := okF_get hok
    obtain ⟨N, rfl⟩ : ∃ N : Nat, n = N := ⟨n.toNat, by omega⟩
    have bL := allB_get l g3
    have bV := allB_get l g5
    have HA : Hid (Fa w a1 a2 l N fL fV (fun i => (fL i).toNat) (fun i => (fV i).toNat)) := hide ⟨h1.1, h2.1, fun i hi => by have := bL i hi; omega, fun i hi => by have := bV i hi; omega, by omega, g4⟩
    have HV1 : Hid (∀ i, i < l → 1 ≤ (fV i).toNat) := hide (fun i hi => by have := bV i hi; omega)
    have G3 := hide g3
    have G5 := hide g5
    clear hok g3 g5 bL bV h1 h2
    go_enter Try.func13, Try.ntmps13
    go_wp2_with fail
    refine (fill_ok N l c1 c2 a1 a2 fL fV (fun i => (fL i).toNat) (fun i => (fV i).toNat) _ HA.out G3.out G5.out).mono ?_
    rintro e w1 ⟨b, rfl, hc, hb⟩
    have HC := hide hc
    have HB := hide hb
    clear hc hb
    have HA1 : Hid (Fa w1 a1 a2 l N fL fV (fun i => (fL i).toNat) (fun i => (fV i).toNat)) := hide ⟨HA.out.s1.below HB.out, HA.out.s2.below HB.out, HA.out.eL, HA.out.eV, HA.out.hn, HA.out.hl⟩
    go_wp2_with fail
    refine (rfill_ok N l c1 c2 a1 a2 fL fV (fun i => (fL i).toNat) (fun i => (fV i).toNat) _ HA1.out HV1.out).mono ?_
    rintro e w2 ⟨b', rfl, hc, hb⟩
    have HC2 := hide hc
    have HB2 := hide (bt HB.out hb)
    have HC1 : Hid (∀ j, j < l → w2.cell? ⟨b, j, none⟩ = some (.int .i64 (cn (fun i => (fL i).toNat) (fun i => (fV i).toNat) l N j : Int))) := hide (fun j hj => kc hb (HC.out j hj))
    clear hc hb
    obtain ⟨Z, hZ⟩ : ∃ Z, Z = Bd (fun i => (fL i).toNat) (fun i => (fV i).toNat) l l N := ⟨_, rfl⟩
    rw [← hZ]
    clear hZ
    go_wp2_with (first
      | (go_at_call 38; (with_reducible refine (equal_same b b' l _ _ g4 HC1 HC2).mono ?_); rintro e w3 ⟨rfl, hk⟩; have HK := hide hk; clear hk)
      | (go_at_call 23; (with_reducible refine (awake_any _).mono ?_); rintro e w4 ⟨rfl, hb⟩; have HB4 := hide hb; clear hb))
    go_ret
    exact ⟨rfl, bt (bt HB2.out (lk_below HK.out)) HB4.out⟩
end Go.Proofs.Ytgkonocjafoblaa
set_option linter.unusedVariables false
namespace Go.Proofs.Ytgkonocjafoblaa
open Go.ChangeShapes Go.WideShapes Go.RowKit
theorem in64_wf' {n : Int} (h : (Lit.int .i64 n).wf = true) : In64 n := by
  have := bounds_i64 h; exact ⟨by omega, by omega⟩
section
variable {H : Type} {enc : TypeId × Value → H} {P : Program} {w : World} {base : Nat} {held : Bool}
theorem open_ls {r : Reach} {b0 : Nat} {t e : TypeId} {v : Value} {d : DataW H} {ps : List MemPlace} (ht : P.underlying t = some (.slice e)) (he : P.underlying e = some (.int .i64)) (ce : P.cellsOf e = 1)
    (hval : Value.okWide P w r b0 t v) (hd : DataW.Trod enc P w base (fun _ => true) held t v d ps) :
    ∃ (a : Option Addr) (len cap : Nat) (ns : Nat → Int), v = .slice a len cap ∧ (Ls w a len ns ∧ len ≤ maxLen) ∧ len ≤ cap := by
  obtain ⟨a0, len0, cap0, rfl⟩ := okWide_slice ht hval
  obtain ⟨fuel, hf⟩ := hd
  rcases open_ints ht he ce hf with ⟨hcs, _⟩ | ⟨a, len, cap, zs, hcs, _, hl, hm, hmm, _, hc, hw⟩
  · simp [Value.cells] at hcs
    obtain ⟨rfl, rfl, rfl⟩ := hcs
    exact ⟨none, 0, 0, fun _ => 0, rfl, ⟨.inl rfl, by simp [maxLen]⟩, Nat.le_refl _⟩
  · simp [Value.cells] at hcs
    obtain ⟨rfl, rfl, rfl⟩ := hcs
    simp only [if_true] at hmm
    refine ⟨some a, len0, cap0, fun i => zs.getD i 0, rfl, ⟨?_, by omega⟩, hl⟩
    by_cases h0 : len0 = 0
    · exact .inl h0
    · obtain ⟨b, off, rfl, hcc⟩ := ints_at hc (by omega)
      refine .inr ⟨b, off, rfl, fun i hi => ⟨hcc i (by omega), in64_wf' (hw _ ?_)⟩⟩
      simp only [List.getD_eq_getElem?_getD]
      rw [List.getElem?_eq_getElem (by omega)]
      exact List.getElem_mem _
end
end Go.Proofs.Ytgkonocjafoblaa
