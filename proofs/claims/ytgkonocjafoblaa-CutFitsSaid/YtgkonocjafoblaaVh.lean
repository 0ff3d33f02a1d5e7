/- How strips fit, plain; the library's index by a function, here: the first bar with room. -/
import Derived.Test.YtgkonocjafoblaaVg
set_option linter.unusedVariables false
namespace Go.Proofs.Ytgkonocjafoblaa
open Go Go.RowKit Go.Ab
/-- the first bar from b on, of b + n, with room for y; else b + n -/
def fitF (u : Nat → Nat) (N y : Nat) : Nat → Nat → Nat
  | b, 0 => b
  | b, n + 1 => if u b + y ≤ N then b else fitF u N y (b + 1) n
def Fit (u : Nat → Nat) (N y m b : Nat) : Prop := b ≤ m ∧ (∀ c, c < b → N < u c + y) ∧ (b < m → u b + y ≤ N)
theorem fitF_spec (u : Nat → Nat) (N y : Nat) : ∀ n b, (∀ c, c < b → N < u c + y) → Fit u N y (b + n) (fitF u N y b n)
  | 0, b, h => ⟨by simp [fitF], by simpa [fitF] using h, fun e => by simp [fitF] at e⟩
  | n + 1, b, h => by
    unfold fitF
    by_cases e : u b + y ≤ N
    · rw [if_pos e]; exact ⟨by omega, h, fun _ => e⟩
    · rw [if_neg e]
      have := fitF_spec u N y n (b + 1) (fun c hc => by
        by_cases e2 : c = b
        · subst e2; omega
        · exact h c (by omega))
      rw [show b + (n + 1) = b + 1 + n by omega]; exact this
theorem Fit.uniq {u : Nat → Nat} {N y m b c : Nat} (h : Fit u N y m b) (k : Fit u N y m c) : b = c := by
  rcases Nat.lt_trichotomy b c with e | e | e
  · have h1 := k.2.1 b e; have h2 := h.2.2 (by have := k.1; omega); omega
  · exact e
  · have h1 := h.2.1 c e; have h2 := k.2.2 (by have := h.1; omega); omega
def fit (u : Nat → Nat) (N y m : Nat) : Nat := fitF u N y 0 m
theorem fit_spec (u : Nat → Nat) (N y m : Nat) : Fit u N y m (fit u N y m) := by have := fitF_spec u N y m 0 (fun c hc => by omega); rw [Nat.zero_add] at this; exact this
theorem fit_is {u : Nat → Nat} {N y m b : Nat} (h : Fit u N y m b) : fit u N y m = b := (fit_spec u N y m).uniq h
/-- bars, what is used of each, each strip's bar -/
structure Fs where
  m : Nat
  u : Nat → Nat
  o : Nat → Nat
def ffs (x p : Nat → Nat) (N : Nat) : Nat → Fs
  | 0 => ⟨0, fun _ => 0, fun _ => 0⟩
  | k + 1 =>
    let s := ffs x p N k
    let b := fit s.u N (x (p k)) s.m
    ⟨if b < s.m then s.m else s.m + 1, fun c => if c = b then s.u c + x (p k) else s.u c, fun i => if i = p k then b else s.o i⟩
structure FsOk (s : Fs) (N k : Nat) : Prop where
  m : s.m ≤ k
  u : ∀ c, s.u c ≤ N
  z : ∀ c, s.m ≤ c → s.u c = 0
  o : ∀ i, s.o i ≤ k
theorem ffs_ok {x p : Nat → Nat} {N : Nat} : ∀ {k : Nat}, (∀ i, i < k → x (p i) ≤ N) → FsOk (ffs x p N k) N k
  | 0, _ => ⟨Nat.le_refl _, fun _ => Nat.zero_le _, fun _ _ => rfl, fun _ => Nat.zero_le _⟩
  | k + 1, h => by
    have ih := ffs_ok (x := x) (p := p) (N := N) (k := k) (fun i hi => h i (by omega))
    have hx := h k (by omega)
    have hf := fit_spec (ffs x p N k).u N (x (p k)) (ffs x p N k).m
    refine ⟨?_, fun c => ?_, fun c hc => ?_, fun i => ?_⟩
    · unfold ffs; dsimp only; have := ih.m; split <;> omega
    · unfold ffs; dsimp only
      split
      · rename_i e
        subst e
        by_cases e2 : fit (ffs x p N k).u N (x (p k)) (ffs x p N k).m < (ffs x p N k).m
        · exact hf.2.2 e2
        · rw [ih.z _ (by omega)]; omega
      · exact ih.u c
    · unfold ffs at hc ⊢; dsimp only at hc ⊢
      have h1 := hf.1
      split at hc
      · rw [if_neg (by omega)]; exact ih.z c hc
      · rw [if_neg (by omega)]; exact ih.z c (by omega)
    · unfold ffs; dsimp only
      have := ih.m; have := hf.1; have := ih.o i
      split <;> omega
set_option maxRecDepth 20000 in
set_option maxHeartbeats 1000000 in
theorem room_is (bs is N l c i t : Nat) (a : Option Addr) (f : Nat → Int) (x : Nat → Nat) (w : World) (HS : Hid (St w a l N f x)) (hb : w.cell? ⟨bs, 0, none⟩ = some (.slice a l c)) (hc : w.cell? ⟨is, 0, none⟩ = some (.int .i64 (i : Int))) (hi : i < l) :
    Calls Try.prog 104 #[.int .i64 t, .pointer (some ⟨bs, 0, none⟩), .pointer (some ⟨is, 0, none⟩)] w fun e w' => e = .returned (.bool (decide (x i ≤ t))) ∧ w = w' := by
  have hl := HS.out.hl
  obtain ⟨b, off, rfl, ci, i1, i2⟩ := HS.out.at hi
  obtain ⟨X, eX⟩ : ∃ X, Hid (X = x i) := ⟨_, hide rfl⟩
  rw [← eX.out] at ci i1 i2
  rw [← eX.out]
  by_cases g : X ≤ t
  · have HD : Hid (decide (X ≤ t) = true) := hide (decide_eq_true g)
    go_enter Try.func104, Try.ntmps104
    go_wp2_with fail
    go_ret
    exact ⟨by rw [HD.out]; rfl, rfl⟩
  · have HD : Hid (decide (X ≤ t) = false) := hide (decide_eq_false g)
    go_enter Try.func104, Try.ntmps104
    go_wp2_with fail
    go_ret
    exact ⟨by rw [HD.out]; rfl, rfl⟩
def idxV (g m : Nat) : Int := if g < m then (g : Int) else -1
set_option maxRecDepth 20000 in
set_option maxHeartbeats 1000000 in
theorem index_is (bs is N l c i m cr : Nat) (a ar : Option Addr) (f fr : Nat → Int) (x u : Nat → Nat) (w : World) (HS : Hid (St w a l N f x)) (HB : Hid (w.cell? ⟨bs, 0, none⟩ = some (.slice a l c))) (HC : Hid (w.cell? ⟨is, 0, none⟩ = some (.int .i64 (i : Int)))) (hi : i < l)
    (HR : Hid (Ls w ar m fr)) (HF : Hid (∀ b, b < m → fr b = ((N - u b : Nat) : Int))) (HU : Hid (∀ b, u b ≤ N)) (hm : m ≤ 14) (g : Nat) (HG : Hid (g = fit u N (x i) m)) :
    Calls Try.prog 103 #[.slice ar m cr, .func (.func 104) #[] #[.pointer (some ⟨bs, 0, none⟩), .pointer (some ⟨is, 0, none⟩)]] w fun e w' => e = .returned (.int .i64 (idxV g m)) ∧ w = w' := by
  go_enter Try.func103, Try.ntmps103
  go_wp2_with fail
  go_loop [8] (fun v => ∃ k : Nat, k ≤ m ∧ v = .int .i64 (k : Int) ∧ Hid (∀ b, b < k → N < u b + x i)) (fun v => m - (intOf v).toNat)
  case atStart => exact ⟨0, Nat.zero_le _, rfl, hide (fun b hb => by omega)⟩
  case round =>
    obtain ⟨k, hk, rfl, HK⟩ := hrel
    by_cases hlt : k < m
    · obtain ⟨rb, ro, rfl, hc⟩ : ∃ b off, ar = some ⟨b, off, none⟩ ∧ LsAt w b off m fr := by
        rcases HR.out with h | h
        · omega
        · exact h
      have ck := (hc k hlt).1
      rw [HF.out k hlt] at ck
      clear hc
      have hu := HU.out k
      obtain ⟨T, eT⟩ : ∃ T, Hid (T = N - u k) := ⟨_, hide rfl⟩
      rw [← eT.out] at ck
      by_cases hr : x i ≤ T
      · have hg : g = k := by rw [HG.out]; exact fit_is ⟨by omega, HK.out, fun _ => by have := eT.out; omega⟩
        have HD : Hid (decide (x i ≤ T) = true) := hide (decide_eq_true hr)
        have HV : Hid (idxV g m = (k : Int)) := hide (by unfold idxV; rw [hg, if_pos hlt])
        clear hr hg
        go_wp2_with fail
        refine (room_is bs is N l c i T a f x w HS HB.out HC.out hi).mono ?_
        rintro e w1 ⟨rfl, rfl⟩
        rw [HD.out]
        go_wp2_with fail
        go_ret
        exact ⟨by rw [HV.out]; rfl, rfl⟩
      · have HD : Hid (decide (x i ≤ T) = false) := hide (decide_eq_false hr)
        have HK2 : Hid (∀ b, b < k + 1 → N < u b + x i) := hide (fun b hb => by
          by_cases e : b = k
          · subst e; have := eT.out; omega
          · exact HK.out b (by omega))
        clear hr
        go_wp2_with fail
        refine (room_is bs is N l c i T a f x w HS HB.out HC.out hi).mono ?_
        rintro e w1 ⟨rfl, rfl⟩
        rw [HD.out]
        go_wp2_with fail
        go_round
        case rel => exact ⟨k + 1, by omega, by go_num, HK2⟩
        case measure => simp [intOf]; omega
    · obtain rfl : k = m := by omega
      have HV : Hid (idxV g k = -1) := hide (by unfold idxV; rw [if_neg]; rw [HG.out, fit_is ⟨Nat.le_refl _, HK.out, fun h => by omega⟩]; omega)
      go_wp2_with fail
      go_ret
      exact ⟨by rw [HV.out]; rfl, rfl⟩
end Go.Proofs.Ytgkonocjafoblaa
