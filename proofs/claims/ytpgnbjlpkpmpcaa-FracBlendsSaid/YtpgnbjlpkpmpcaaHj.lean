import Derived.Test.YtpgnbjlpkpmpcaaHg
set_option linter.unusedVariables false
namespace Go.Proofs.Ytpgnbjlpkpmpcaa.R
open Go.RowKit Go.Proofs.Ytpgnbjlpkpmpcaa.N
set_option maxRecDepth 20000 in
set_option maxHeartbeats 2000000 in
theorem rblend_long1 (a a' : Option Addr) (l c l' c' : Nat) (w : World) (h : 64 < l) : Calls Try.prog 70 #[.slice a l c, .slice a' l' c'] w (BlRet w 0 0 3) := by
  have hl : (64 : Int) < (l : Int) := by omega
  clear h
  go_enter Try.func70, Try.ntmps70
  go_wp2_with fail
  refine bodyPost_ret (v := .tuple #[.agg #[.int .i64 0, .int .i64 0], .int .i64 3]) (by simp [results, Try.results70, go_sem]) rfl ⟨rfl, ba (Below.refl _ _) _⟩
set_option maxRecDepth 20000 in
set_option maxHeartbeats 2000000 in
theorem rblend_long2 (a a' : Option Addr) (l c l' c' : Nat) (w : World) (h : l ≤ 64) (h' : 64 < l') : Calls Try.prog 70 #[.slice a l c, .slice a' l' c'] w (BlRet w 0 0 3) := by
  have hl : (l : Int) ≤ 64 := by omega
  have hl' : (64 : Int) < (l' : Int) := by omega
  clear h h'
  go_enter Try.func70, Try.ntmps70
  go_wp2_with fail
  refine bodyPost_ret (v := .tuple #[.agg #[.int .i64 0, .int .i64 0], .int .i64 3]) (by simp [results, Try.results70, go_sem]) rfl ⟨rfl, ba (Below.refl _ _) _⟩
set_option maxRecDepth 20000 in
set_option maxHeartbeats 2000000 in
theorem rblend_lens (a a' : Option Addr) (l c l' c' : Nat) (w : World) (h : l ≤ 64) (h' : l' ≤ 64) (hne : l ≠ l') : Calls Try.prog 70 #[.slice a l c, .slice a' l' c'] w (BlRet w 0 0 2) := by
  have hl : (l : Int) ≤ 64 := by omega
  have hl' : (l' : Int) ≤ 64 := by omega
  have e1 : ((l : Int) == (l' : Int)) = false := by rw [beq_eq_false_iff_ne]; omega
  have e2 : ((l : Int) != (l' : Int)) = true := by rw [bne_iff_ne]; omega
  clear h h' hne
  go_enter Try.func70, Try.ntmps70
  go_wp2_with fail
  refine bodyPost_ret (v := .tuple #[.agg #[.int .i64 0, .int .i64 0], .int .i64 2]) (by simp [results, Try.results70, go_sem]) rfl ⟨rfl, ba (Below.refl _ _) _⟩
set_option maxRecDepth 20000 in
set_option maxHeartbeats 2000000 in
theorem rblend_bad (a a' : Option Addr) (l c c' : Nat) (ns ds : Nat → Int) (w : World) (h : l ≤ 64) (HF : Hid (FrSl w a l ns ds)) (ha : Hid (allOk ns ds l = false)) : Calls Try.prog 70 #[.slice a l c, .slice a' l c'] w (BlRet w 0 0 2) := by
  have hl : (l : Int) ≤ 64 := by omega
  have hr := r2_start w
  go_enter Try.func70, Try.ntmps70
  go_wp2_with fail
  refine (rall_sl a l c ns ds false _ h (hide (frsl_below HF.out (ba (Below.refl _ _) _))) ha).mono ?_
  rintro en w1 ⟨rfl, hb⟩
  have hr1 := r2_step hr hb
  clear hb hr
  obtain ⟨⟨⟨u0, g0⟩, ⟨u1, g1⟩⟩, ⟨g2, g3⟩, _⟩ := hr1.out
  go_wp2_with fail
  refine bodyPost_ret (v := .tuple #[.agg #[.int .i64 0, .int .i64 0], .int .i64 2]) (by simp [results, Try.results70, go_sem, g0, g1]) rfl ⟨rfl, ?_⟩
  exact bs (bs hr1.out.2.2.2 (Nat.le_refl _) _) (Nat.le_refl _) _
set_option maxRecDepth 20000 in
set_option maxHeartbeats 2000000 in
theorem rblend_range (a a' : Option Addr) (l c c' : Nat) (ns ds ws : Nat → Int) (w : World) (h : l ≤ 64) (HF : Hid (FrSl w a l ns ds)) (ha : Hid (allOk ns ds l = true)) (HW : Hid (InSl w a' l ws)) (hg : Hid (rngB 1000000 ws l = false)) : Calls Try.prog 70 #[.slice a l c, .slice a' l c'] w (BlRet w 0 0 2) := by
  have hl : (l : Int) ≤ 64 := by omega
  have hr := r2_start w
  go_enter Try.func70, Try.ntmps70
  go_wp2_with fail
  refine (rall_sl a l c ns ds true _ h (hide (frsl_below HF.out (ba (Below.refl _ _) _))) ha).mono ?_
  rintro en w1 ⟨rfl, hb⟩
  have hr1 := r2_step hr hb
  clear hb hr
  obtain ⟨⟨⟨u0, g0⟩, ⟨u1, g1⟩⟩, ⟨g2, g3⟩, _⟩ := hr1.out
  go_wp2_with fail
  go_loop [6, 36] (fun s i => ∃ k : Nat, k ≤ l ∧ i = .int .i64 k ∧ s = .int .i64 (tot ws k) ∧ Hid (rngB 1000000 ws k = true)) (fun _ i => l - (intOf i).toNat)
  case atStart => exact ⟨0, by omega, rfl, rfl, rfl⟩
  case round =>
    obtain ⟨k, hk, rfl, rfl, hq⟩ := hrel
    by_cases hlt : k < l
    · obtain ⟨b, off, rfl, hc, hi⟩ := HW.out.resolve_left (by omega)
      have c1 := kc hr1.out.2.2.2 (hc k hlt)
      clear hc hi
      by_cases hv : 0 ≤ ws k ∧ ws k ≤ 1000000
      · have HV : Hid (rngB 1000000 ws (k + 1) = true) := hide (by rw [rngB_succ, hq.out]; simpa using hv)
        have HS : Hid (tot ws (k + 1) = tot ws k + ws k) := hide rfl
        have hb1 : 0 ≤ tot ws k ∧ tot ws k ≤ 64000000 := by
          have h1 := tot_bd (by decide) hq.out k (Nat.le_refl _)
          omega
        obtain ⟨h1, h2⟩ := hv
        obtain ⟨h3, h4⟩ := hb1
        go_wp2_with fail
        go_round
        case rel => exact ⟨k + 1, by omega, by go_num, by rw [HS.out], HV⟩
        case measure => simp [intOf]; omega
      · by_cases h1 : ws k < 0
        · clear hv
          go_wp2_with fail
          refine bodyPost_ret (v := .tuple #[.agg #[.int .i64 0, .int .i64 0], .int .i64 2]) (by simp [results, Try.results70, go_sem, g0, g1]) rfl ⟨rfl, ?_⟩
          exact bs (bs hr1.out.2.2.2 (Nat.le_refl _) _) (Nat.le_refl _) _
        · have h2 : 1000000 < ws k := by omega
          have h3 : 0 ≤ ws k := by omega
          clear hv h1
          go_wp2_with fail
          refine bodyPost_ret (v := .tuple #[.agg #[.int .i64 0, .int .i64 0], .int .i64 2]) (by simp [results, Try.results70, go_sem, g0, g1]) rfl ⟨rfl, ?_⟩
          exact bs (bs hr1.out.2.2.2 (Nat.le_refl _) _) (Nat.le_refl _) _
    · exfalso
      have hkl : k = l := by omega
      subst hkl
      have := hg.out; rw [hq.out] at this; exact absurd this (by decide)
theorem top_alloc {W w' : World} (hb : Below (W.alloc (.cells #[.int .i64 0, .int .i64 0] 23)).heap.size (W.alloc (.cells #[.int .i64 0, .int .i64 0] 23)) w') :
    (w'.cell? ⟨W.heap.size, 0, none⟩ = some (.int .i64 0) ∧ w'.cell? ⟨W.heap.size, 1, none⟩ = some (.int .i64 0)) ∧ (w'.frozen? ⟨W.heap.size, 0, none⟩ = false ∧ w'.frozen? ⟨W.heap.size, 1, none⟩ = false) := by
  have c0 : (W.alloc (.cells #[.int .i64 0, .int .i64 0] 23)).cell? ⟨W.heap.size, 0, none⟩ = some (.int .i64 0) := by simp [go_sem]
  have c1 : (W.alloc (.cells #[.int .i64 0, .int .i64 0] 23)).cell? ⟨W.heap.size, 1, none⟩ = some (.int .i64 0) := by simp [go_sem]
  exact ⟨⟨kc hb c0, kc hb c1⟩, ⟨kf hb c0 (by simp [go_sem]), kf hb c1 (by simp [go_sem])⟩⟩
end Go.Proofs.Ytpgnbjlpkpmpcaa.R
set_option linter.unusedVariables false
namespace Go.Proofs.Ytpgnbjlpkpmpcaa.R
open Go.RowKit Go.Proofs.Ytpgnbjlpkpmpcaa.N
theorem top_alloc_d {W w' : World} {f : Nat} (hb : Below (W.alloc (.cells #[.int .i64 0, .int .i64 0] 23)).drew.heap.size (W.alloc (.cells #[.int .i64 0, .int .i64 0] 23)).drew w') (hf : f = W.heap.size) :
    (w'.cell? ⟨f, 0, none⟩ = some (.int .i64 0) ∧ w'.cell? ⟨f, 1, none⟩ = some (.int .i64 0)) ∧ (w'.frozen? ⟨f, 0, none⟩ = false ∧ w'.frozen? ⟨f, 1, none⟩ = false) := by
  subst hf
  have c0 : (W.alloc (.cells #[.int .i64 0, .int .i64 0] 23)).drew.cell? ⟨W.heap.size, 0, none⟩ = some (.int .i64 0) := by simp [go_sem]
  have c1 : (W.alloc (.cells #[.int .i64 0, .int .i64 0] 23)).drew.cell? ⟨W.heap.size, 1, none⟩ = some (.int .i64 0) := by simp [go_sem]
  exact ⟨⟨kc hb c0, kc hb c1⟩, ⟨kf hb c0 (by simp [go_sem]), kf hb c1 (by simp [go_sem])⟩⟩
/-- the sum so far, an element's variable and its weight's cell -/
def SB (w0 w : World) (s7 : Nat) (X Y : Int) (eb : Nat) (n d : Int) (a : Addr) (m : Int) : Prop := Su w0 w s7 X Y ∧ (w.cell? ⟨eb, 0, none⟩ = some (.int .i64 n) ∧ w.cell? ⟨eb, 1, none⟩ = some (.int .i64 d)) ∧ w.cell? a = some (.int .i64 m)
theorem sb_new {w0 w : World} {s7 : Nat} {X Y : Int} {eb : Nat} {n d : Int} {a : Addr} {m : Int} (h : Hid (Su w0 w s7 X Y)) (c1 : w.cell? ⟨eb, 0, none⟩ = some (.int .i64 n)) (c2 : w.cell? ⟨eb, 1, none⟩ = some (.int .i64 d)) (c3 : w.cell? a = some (.int .i64 m)) : Hid (SB w0 w s7 X Y eb n d a m) := hide ⟨h.out, ⟨c1, c2⟩, c3⟩
theorem sb_all {w0 w : World} {s7 : Nat} {X Y : Int} {eb : Nat} {n d : Int} {a : Addr} {m : Int} (h : Hid (SB w0 w s7 X Y eb n d a m)) : ((w.cell? ⟨eb, 0, none⟩ = some (.int .i64 n) ∧ w.cell? ⟨eb, 1, none⟩ = some (.int .i64 d)) ∧ w.cell? a = some (.int .i64 m)) ∧ Hid (SB w0 w s7 X Y eb n d a m) := ⟨h.out.2, h⟩
theorem sb_drew {w0 w : World} {s7 : Nat} {X Y : Int} {eb : Nat} {n d : Int} {a : Addr} {m : Int} (h : Hid (SB w0 w s7 X Y eb n d a m)) : Hid (SB w0 w.drew s7 X Y eb n d a m) := hide ⟨(su_drew (hide h.out.1)).out, h.out.2⟩
theorem sb_step {w0 w w' : World} {s7 : Nat} {X Y : Int} {eb : Nat} {n d : Int} {a : Addr} {m : Int} (h : Hid (SB w0 w s7 X Y eb n d a m)) (hb : Below w.heap.size w w') : Hid (SB w0 w' s7 X Y eb n d a m) := hide ⟨(su_step (hide h.out.1) hb).out, ⟨kc hb h.out.2.1.1, kc hb h.out.2.1.2⟩, kc hb h.out.2.2⟩
theorem sb_alloc {w0 w : World} {s7 : Nat} {X Y : Int} {eb : Nat} {n d : Int} {a : Addr} {m : Int} (h : Hid (SB w0 w s7 X Y eb n d a m)) (o : Obj) : Hid (SB w0 (w.alloc o) s7 X Y eb n d a m) := sb_step h (ba (Below.refl _ _) o)
theorem sb_su {w0 w : World} {s7 : Nat} {X Y : Int} {eb : Nat} {n d : Int} {a : Addr} {m : Int} (h : Hid (SB w0 w s7 X Y eb n d a m)) : Hid (Su w0 w s7 X Y) := hide h.out.1
/-- f is none of its variables -/
def Free (w0 : World) (s7 eb : Nat) (a : Addr) (f : Nat) : Prop := w0.heap.size < f ∧ s7 < f ∧ eb < f ∧ a.block < f
theorem sb_free {w0 w : World} {s7 : Nat} {X Y : Int} {eb : Nat} {n d : Int} {a : Addr} {m : Int} (h : Hid (SB w0 w s7 X Y eb n d a m)) : Hid (Free w0 s7 eb a w.heap.size) := by
  obtain ⟨⟨⟨⟨⟨u0, q0⟩, ⟨u1, q1⟩⟩, ⟨g2, g3⟩, hs, b⟩, ⟨c1, c2⟩, ⟨f1, f2⟩, z⟩, ⟨e1, e2⟩, e3⟩ := h.out
  have := cell_lt c1
  exact hide ⟨by simp only at *; omega, this, cell_lt e1, cell_lt e3⟩
theorem cell_put2 {w : World} {f : Nat} {a : Addr} {x : Value} (h : w.cell? a = some x) (hne : a.block < f) (u v : Value) : ((w.setCell ⟨f, 0, none⟩ u).setCell ⟨f, 1, none⟩ v).cell? a = some x := by
  rw [World.cell?_setCell_other (h := by intro e; rw [← e] at hne; simp at hne), World.cell?_setCell_other (h := by intro e; rw [← e] at hne; simp at hne)]; exact h
theorem sb_put {w0 w : World} {s7 : Nat} {X Y : Int} {eb : Nat} {n d : Int} {a : Addr} {m : Int} {f : Nat} (h : Hid (SB w0 w s7 X Y eb n d a m)) (hf : Hid (Free w0 s7 eb a f)) (u v : Value) : Hid (SB w0 ((w.setCell ⟨f, 0, none⟩ u).setCell ⟨f, 1, none⟩ v) s7 X Y eb n d a m) := by
  obtain ⟨⟨⟨⟨⟨u0, q0⟩, ⟨u1, q1⟩⟩, ⟨g2, g3⟩, hs, b⟩, ⟨c1, c2⟩, ⟨f1, f2⟩, z⟩, ⟨e1, e2⟩, e3⟩ := h.out
  obtain ⟨k0, k1, k2, k3⟩ := hf.out
  refine hide ⟨⟨⟨⟨⟨u0, cell_put2 q0 k0 u v⟩, ⟨u1, cell_put2 q1 k0 u v⟩⟩, ?_, hs, bs (bs b (by simp only []; omega) _) (by simp only []; omega) _⟩, ⟨cell_put2 c1 k1 u v, cell_put2 c2 k1 u v⟩, ?_, z⟩, ⟨cell_put2 e1 k2 u v, cell_put2 e2 k2 u v⟩, cell_put2 e3 k3 u v⟩
  · simp only [frozen_set]; exact ⟨g2, g3⟩
  · simp only [frozen_set]; exact ⟨f1, f2⟩
theorem sb_real {w0 w : World} {s7 : Nat} {X Y : Int} {eb : Nat} {n d : Int} {a : Addr} {m : Int} {f : Nat} {o : Obj} (h : Hid (SB w0 (w.alloc o) s7 X Y eb n d a m)) (hf : Hid (Free w0 s7 eb a f)) (hN : f ≤ w.heap.size) (o' : Obj) : Hid (SB w0 (w.alloc o') s7 X Y eb n d a m) := by
  have key : ∀ (p : Addr), p.block < w.heap.size → (w.alloc o').cell? p = (w.alloc o).cell? p ∧ (w.alloc o').frozen? p = (w.alloc o).frozen? p := by
    intro p hp
    have b1 : Below w.heap.size w (w.alloc o) := ba (Below.refl _ _) o
    have b2 : Below w.heap.size w (w.alloc o') := ba (Below.refl _ _) o'
    exact ⟨(b2.cell hp).trans (b1.cell hp).symm, (b2.frozen hp).trans (b1.frozen hp).symm⟩
  obtain ⟨⟨⟨⟨⟨u0, q0⟩, ⟨u1, q1⟩⟩, ⟨g2, g3⟩, hs, b⟩, ⟨c1, c2⟩, ⟨f1, f2⟩, z⟩, ⟨e1, e2⟩, e3⟩ := h.out
  obtain ⟨k0, k1, k2, k3⟩ := hf.out
  have b' : Below w0.heap.size w0 (w.alloc o') := by
    refine ⟨b.os, b.tape, b.output, ?_, ?_⟩
    · have := b.size; simp at this ⊢; omega
    · intro j hj
      have b1 : Below w.heap.size w (w.alloc o) := ba (Below.refl _ _) o
      have b2 : Below w.heap.size w (w.alloc o') := ba (Below.refl _ _) o'
      exact (b2.block j (by omega)).trans ((b1.block j (by omega)).symm.trans (b.block j hj))
  refine hide ⟨⟨⟨⟨⟨u0, (key _ (by simp only []; omega)).1.trans q0⟩, ⟨u1, (key _ (by simp only []; omega)).1.trans q1⟩⟩, ⟨(key _ (by simp only []; omega)).2.trans g2, (key _ (by simp only []; omega)).2.trans g3⟩, hs, b'⟩, ⟨(key _ (by simp only []; omega)).1.trans c1, (key _ (by simp only []; omega)).1.trans c2⟩, ⟨(key _ (by simp only []; omega)).2.trans f1, (key _ (by simp only []; omega)).2.trans f2⟩, z⟩, ⟨(key _ (by simp only []; omega)).1.trans e1, (key _ (by simp only []; omega)).1.trans e2⟩, (key _ (by omega)).1.trans e3⟩
set_option maxRecDepth 20000 in
set_option maxHeartbeats 8000000 in
theorem rblend_yes (a a' : Option Addr) (len c c' : Nat) (ns ds ws : Nat → Int) (w : World) (h : len ≤ 64) (HF : Hid (FrSl w a len ns ds)) (ha : Hid (allOk ns ds len = true)) (HW : Hid (InSl w a' len ws)) (hg : Hid (rngB 1000000 ws len = true)) (t : Int) (ht : Hid (t = tot ws len)) (ht0 : t ≠ 0)
    (x y z : Int) (hx : Hid (BlRel ns ds ws len x y z)) : Calls Try.prog 70 #[.slice a len c, .slice a' len c'] w (BlRet w x y z) := by
  have hl : (len : Int) ≤ 64 := by omega
  have htb : (t == 0) = false := by simpa using ht0
  have htb2 : (t != 0) = true := by simpa using ht0
  have hr := r2_start w
  clear ht0
  go_enter Try.func70, Try.ntmps70
  go_wp2_with fail
  refine (rall_sl a len c ns ds true _ h (hide (frsl_below HF.out (ba (Below.refl _ _) _))) ha).mono ?_
  rintro en w1 ⟨rfl, hb⟩
  have hr1 := r2_step hr hb
  clear hb hr
  obtain ⟨⟨⟨u0, g0⟩, ⟨u1, g1⟩⟩, ⟨g2, g3⟩, _⟩ := hr1.out
  go_wp2_with fail
  go_loop [6, 36] (fun s i => ∃ k : Nat, k ≤ len ∧ i = .int .i64 k ∧ s = .int .i64 (tot ws k)) (fun _ i => len - (intOf i).toNat)
  case atStart => exact ⟨0, by omega, rfl, rfl⟩
  case round =>
    obtain ⟨k, hk, rfl, rfl⟩ := hrel
    by_cases hlt : k < len
    · obtain ⟨b, off, rfl, hc, hi⟩ := HW.out.resolve_left (by omega)
      have c1 := kc hr1.out.2.2.2 (hc k hlt)
      clear hc hi
      have HS : Hid (tot ws (k + 1) = tot ws k + ws k) := hide rfl
      have hb1 : 0 ≤ tot ws k ∧ tot ws k ≤ 64000000 := by
        have h1 := tot_bd (by decide) hg.out k hk
        omega
      obtain ⟨h1, h2⟩ := rngB_get hg.out hlt
      obtain ⟨h3, h4⟩ := hb1
      go_wp2_with fail
      go_round
      case rel => exact ⟨k + 1, by omega, by go_num, by rw [HS.out]⟩
      case measure => simp [intOf]; omega
    · have hkl : k = len := by omega
      subst hkl
      rw [← ht.out]
      have hsu := su_new hr1 0 1
      clear g0 g1 g2 g3
      go_wp2_with fail
      obtain ⟨s7, hs7⟩ : ∃ s7, s7 = w1.heap.size := ⟨_, rfl⟩
      rw [← hs7] at hsu ⊢
      clear hs7 hlt hk
      go_loopw [57] (fun i wr => ∃ j : Nat, j ≤ k ∧ i = .int .i64 j ∧ BRel w s7 ns ds ws j wr) (fun i _ => k - (intOf i).toNat)
      case atStart => exact ⟨0, by omega, rfl, rfl, hsu.out⟩
      case round =>
        obtain ⟨j, hj, rfl, h0, hS⟩ := hrel
        have HS := hide hS
        have H0 := hide h0
        clear hS h0
        by_cases hlt : j < k
        · obtain ⟨b, off, rfl, hcc⟩ := HF.out.resolve_left (by omega)
          obtain ⟨b', off', rfl, hcw, hiw⟩ := HW.out.resolve_left (by omega)
          obtain ⟨c1, c2⟩ := (hcc.1 j hlt).below HS.out.1.2.2.2
          have c3 := kc HS.out.1.2.2.2 (hcw j hlt)
          clear hcw hiw hcc
          obtain ⟨X, hX⟩ : ∃ X, Hid (X = (accB ns ds ws j).1) := ⟨_, rfl⟩
          obtain ⟨Y, hY⟩ : ∃ Y, Hid (Y = (accB ns ds ws j).2.1) := ⟨_, rfl⟩
          rw [← hX.out, ← hY.out] at HS
          obtain ⟨p, hp⟩ : ∃ v, Hid (v = (mulT (ns j) (ds j) (ws j) 1).1) := ⟨_, rfl⟩
          obtain ⟨q, hq⟩ : ∃ v, Hid (v = (mulT (ns j) (ds j) (ws j) 1).2.1) := ⟨_, rfl⟩
          obtain ⟨r, hr⟩ : ∃ v, Hid (v = (mulT (ns j) (ds j) (ws j) 1).2.2) := ⟨_, rfl⟩
          have HM : Hid (Ans (ns j) (ds j) (ws j) 1 (Rat.divInt (ns j) (ds j) * Rat.divInt (ws j) 1) p q r) := hide (by rw [hp.out, hq.out, hr.out]; exact mulT_ans _ _ _ _)
          obtain ⟨x', hx'⟩ : ∃ v, Hid (v = (atT X Y (ns j) (ds j) (ws j)).1) := ⟨_, rfl⟩
          obtain ⟨y', hy'⟩ : ∃ v, Hid (v = (atT X Y (ns j) (ds j) (ws j)).2.1) := ⟨_, rfl⟩
          obtain ⟨z', hz'⟩ : ∃ v, Hid (v = (atT X Y (ns j) (ds j) (ws j)).2.2) := ⟨_, rfl⟩
          have HAN : Hid ((x', y', z') = if r = 0 then addT X Y p q else (0, 0, r)) := hide (by rw [hx'.out, hy'.out, hz'.out, hp.out, hq.out, hr.out]; rfl)
          have HAC : Hid (accB ns ds ws (j + 1) = (x', y', z')) := hide (by rw [accB_succ, if_pos H0.out, ← hX.out, ← hY.out, hx'.out, hy'.out, hz'.out])
          have hs1 := su_step HS (ba (Below.refl _ _) (.cells #[.int .i64 (ns j), .int .i64 (ds j)] 23))
          have hs1d := su_drew hs1
          obtain ⟨_, ⟨p1, p2⟩, _, _⟩ := HS.out
          have z1 := cell_lt p1
          have z3 := cell_lt c3
          have hk0 : (0 : Int) ≤ (j : Int) := by omega
          have hk1 : (j : Int) < (k : Int) := by omega
          have c1' : (wr.alloc (.cells #[.int .i64 (ns j), .int .i64 (ds j)] 23)).cell? ⟨wr.heap.size, 0, none⟩ = some (.int .i64 (ns j)) := by simp [go_sem]
          have c2' : (wr.alloc (.cells #[.int .i64 (ns j), .int .i64 (ds j)] 23)).cell? ⟨wr.heap.size, 1, none⟩ = some (.int .i64 (ds j)) := by simp [go_sem]
          have c3' := kc (ba (Below.refl _ _) (.cells #[.int .i64 (ns j), .int .i64 (ds j)] 23)) c3
          go_wp2_with fail
          have hsb := sb_new hs1 c1' c2' c3'
          have hfree : Hid (Free w s7 wr.heap.size ⟨b', off' + j, none⟩ (wr.heap.size + 1)) := hide (by have := (sb_free hsb).out; simpa using this)
          go_region_held3 (fun w' => ((w'.cell? ⟨wr.heap.size, 0, none⟩ = some (.int .i64 (ns j)) ∧ w'.cell? ⟨wr.heap.size, 1, none⟩ = some (.int .i64 (ds j))) ∧ w'.cell? ⟨b', off' + j, none⟩ = some (.int .i64 (ws j))) ∧ Hid (SB w w' s7 X Y wr.heap.size (ns j) (ds j) ⟨b', off' + j, none⟩ (ws j)))
            ((go_split_ands; refine sb_all ?_; first | (with_reducible exact hsb) | (with_reducible exact sb_drew ‹_›) | (with_reducible exact sb_drew (sb_alloc hsb _)) | (with_reducible exact sb_step ‹_› hbw) | (with_reducible exact sb_alloc ‹_› _) | (with_reducible exact sb_put ‹_› hfree _ _) | (with_reducible exact sb_real ‹_› hfree hN _)))
            (first | (go_at_call 33; go_split_ands; (with_reducible refine (rmul_is (ns j) (ds j) (ws j) 1 p q r _ HM).mono ?_); rintro en w' ⟨rfl, hbw⟩; have hN : wr.heap.size + 1 ≤ w'.heap.size := (by have := hbw.size; simp at this; omega); (first | (obtain ⟨⟨e0, e1⟩, ⟨e2, e3⟩⟩ := top_alloc_d (f := wr.heap.size + 1) hbw (by simp)) | skip)))
          all_goals go_split_ands
          all_goals have hs3 := sb_su ‹_›
          all_goals obtain ⟨⟨⟨⟨u0, g0⟩, ⟨u1, g1⟩⟩, ⟨g2, g3⟩, _, _⟩, ⟨q1, q2⟩, ⟨f1, f2⟩, hz⟩ := hs3.out
          all_goals have hne1 : w.heap.size ≠ s7 := by omega
          all_goals have hne2 : s7 ≠ w.heap.size := by omega
          all_goals (
            by_cases hr0 : r = 0
            · have hA := HAN.out
              rw [if_pos hr0] at hA
              have HA : Hid (Ans X Y p q (Rat.divInt X Y + Rat.divInt p q) x' y' z') := hide (by
                have h := addT_ans X Y p q
                rw [← hA] at h; exact h)
              subst hr0
              clear hA
              go_wp2_with fail
              (with_reducible refine (radd_is X Y p q x' y' z' _ HA).mono ?_)
              rintro en w5 ⟨rfl, hb⟩
              have hs4 := su_step hs3 hb
              clear hb g0 g1 g2 g3 q1 q2 f1 f2
              obtain ⟨⟨⟨⟨u0, g0⟩, ⟨u1, g1⟩⟩, ⟨g2, g3⟩, _, _⟩, ⟨q1, q2⟩, ⟨f1, f2⟩, hz⟩ := hs4.out
              by_cases hz0 : z' = 0
              · subst hz0
                have hs5 := su_set hs4 x' y'
                go_wp2_with fail
                go_roundw
                case rel => exact ⟨j + 1, by omega, by go_num, by rw [HAC.out], by rw [HAC.out]; exact hs5.out⟩
                case measure => simp [intOf]; omega
              · have hzb : (z' == 0) = false := by simpa using hz0
                have hzb2 : (z' != 0) = true := by simpa using hz0
                have HE : Hid ((x, y, z) = (0, 0, z')) := hide (by
                  have h1 : (accB ns ds ws (j + 1)).2.2 ≠ 0 := by rw [HAC.out]; exact hz0
                  have h2 := accB_stays ns ds ws (j + 1) (k - (j + 1)) h1
                  rw [show j + 1 + (k - (j + 1)) = k by omega] at h2
                  have h3 := hx.out
                  unfold BlRel at h3
                  rw [h2, if_neg h1, HAC.out] at h3
                  exact h3)
                clear hz0
                go_wp2_with fail
                have e3 := HE.out
                simp only [Prod.mk.injEq] at e3
                obtain ⟨rfl, rfl, rfl⟩ := e3
                refine bodyPost_ret (v := .tuple #[.agg #[.int .i64 0, .int .i64 0], .int .i64 z]) (by simp [results, Try.results70, go_sem, *]) rfl ⟨rfl, ?_⟩
                exact bs (bs (su_set hs4 x' y').out.1.2.2.2 (Nat.le_refl _) _) (Nat.le_refl _) _
            · have hzb : (r == 0) = false := by simpa using hr0
              have hzb2 : (r != 0) = true := by simpa using hr0
              have HE : Hid ((x, y, z) = (0, 0, r)) := hide (by
                have hA := HAN.out
                rw [if_neg hr0] at hA
                have h1 : (accB ns ds ws (j + 1)).2.2 ≠ 0 := by rw [HAC.out, hA]; exact hr0
                have h2 := accB_stays ns ds ws (j + 1) (k - (j + 1)) h1
                rw [show j + 1 + (k - (j + 1)) = k by omega] at h2
                have h3 := hx.out
                unfold BlRel at h3
                rw [h2, if_neg h1, HAC.out, hA] at h3
                exact h3)
              clear hr0
              go_wp2_with fail
              have e3 := HE.out
              simp only [Prod.mk.injEq] at e3
              obtain ⟨rfl, rfl, rfl⟩ := e3
              refine bodyPost_ret (v := .tuple #[.agg #[.int .i64 0, .int .i64 0], .int .i64 z]) (by simp [results, Try.results70, go_sem, *]) rfl ⟨rfl, ?_⟩
              exact bs (bs hs3.out.1.2.2.2 (Nat.le_refl _) _) (Nat.le_refl _) _)
        · have hkl : j = k := by omega
          subst hkl
          obtain ⟨X, hX⟩ : ∃ X, Hid (X = (accB ns ds ws j).1) := ⟨_, rfl⟩
          obtain ⟨Y, hY⟩ : ∃ Y, Hid (Y = (accB ns ds ws j).2.1) := ⟨_, rfl⟩
          have HOK : Hid (M.okB X Y = true) := hide (by rw [hX.out, hY.out]; exact accB_ok ns ds ws j H0.out)
          have HD : Hid (DivAns X Y t 1 x y z) := hide (by
            have h3 := hx.out
            unfold BlRel at h3
            rw [if_pos H0.out, ← hX.out, ← hY.out, ← ht.out] at h3
            exact h3)
          rw [← hX.out, ← hY.out] at HS
          obtain ⟨⟨⟨⟨u0, g0⟩, ⟨u1, g1⟩⟩, ⟨g2, g3⟩, _, _⟩, ⟨p1, p2⟩, ⟨f1, f2⟩, hz⟩ := HS.out
          go_wp2_with fail
          (with_reducible refine (rdiv_is X Y t 1 x y z _ HD).mono ?_)
          rintro en w2 ⟨rfl, hb⟩
          have hs2 := su_step HS hb
          clear hb g0 g1 g2 g3 p1 p2 f1 f2
          obtain ⟨⟨⟨⟨u0, g0⟩, ⟨u1, g1⟩⟩, ⟨g2, g3⟩, _, _⟩, ⟨p1, p2⟩, ⟨f1, f2⟩, hz⟩ := hs2.out
          go_wp2_with fail
          refine bodyPost_ret (v := .tuple #[.agg #[.int .i64 x, .int .i64 y], .int .i64 z]) (by simp [results, Try.results70, go_sem, *]) rfl ⟨rfl, ?_⟩
          exact bs (bs hs2.out.1.2.2.2 (Nat.le_refl _) _) (Nat.le_refl _) _
end Go.Proofs.Ytpgnbjlpkpmpcaa.R
set_option linter.unusedVariables false
namespace Go.Proofs.Ytpgnbjlpkpmpcaa.R
open Go.RowKit Go.Proofs.Ytpgnbjlpkpmpcaa.N
set_option maxRecDepth 20000 in
set_option maxHeartbeats 2000000 in
theorem rblend_zero (a a' : Option Addr) (l c c' : Nat) (ns ds ws : Nat → Int) (w : World) (h : l ≤ 64) (HF : Hid (FrSl w a l ns ds)) (ha : Hid (allOk ns ds l = true)) (HW : Hid (InSl w a' l ws)) (hg : Hid (rngB 1000000 ws l = true)) (ht : Hid (0 = tot ws l)) : Calls Try.prog 70 #[.slice a l c, .slice a' l c'] w (BlRet w 0 0 4) := by
  have hl : (l : Int) ≤ 64 := by omega
  have hr := r2_start w
  go_enter Try.func70, Try.ntmps70
  go_wp2_with fail
  refine (rall_sl a l c ns ds true _ h (hide (frsl_below HF.out (ba (Below.refl _ _) _))) ha).mono ?_
  rintro en w1 ⟨rfl, hb⟩
  have hr1 := r2_step hr hb
  clear hb hr
  obtain ⟨⟨⟨u0, g0⟩, ⟨u1, g1⟩⟩, ⟨g2, g3⟩, _⟩ := hr1.out
  go_wp2_with fail
  go_loop [6, 36] (fun s i => ∃ k : Nat, k ≤ l ∧ i = .int .i64 k ∧ s = .int .i64 (tot ws k)) (fun _ i => l - (intOf i).toNat)
  case atStart => exact ⟨0, by omega, rfl, rfl⟩
  case round =>
    obtain ⟨k, hk, rfl, rfl⟩ := hrel
    by_cases hlt : k < l
    · obtain ⟨b, off, rfl, hc, hi⟩ := HW.out.resolve_left (by omega)
      have c1 := kc hr1.out.2.2.2 (hc k hlt)
      clear hc hi
      have HS : Hid (tot ws (k + 1) = tot ws k + ws k) := hide rfl
      have hb1 : 0 ≤ tot ws k ∧ tot ws k ≤ 64000000 := by
        have h1 := tot_bd (by decide) hg.out k hk
        omega
      obtain ⟨h1, h2⟩ := rngB_get hg.out hlt
      obtain ⟨h3, h4⟩ := hb1
      go_wp2_with fail
      go_round
      case rel => exact ⟨k + 1, by omega, by go_num, by rw [HS.out]⟩
      case measure => simp [intOf]; omega
    · have hkl : k = l := by omega
      subst hkl
      rw [← ht.out]
      go_wp2_with fail
      refine bodyPost_ret (v := .tuple #[.agg #[.int .i64 0, .int .i64 0], .int .i64 4]) (by simp [results, Try.results70, go_sem, g0, g1]) rfl ⟨rfl, ?_⟩
      exact bs (bs hr1.out.2.2.2 (Nat.le_refl _) _) (Nat.le_refl _) _
/-- Blend of the program and of the reference answer alike -/
theorem blend_both (a a' : Option Addr) (l c l' c' : Nat) (ns ds ws : Nat → Int) : ∃ x y z : Int, ∀ w : World, Hid (FrSl w a l ns ds) → Hid (InSl w a' l' ws) →
    Calls Try.prog 69 #[.slice a l c, .slice a' l' c'] w (BlRet w x y z) ∧ Calls Try.prog 70 #[.slice a l c, .slice a' l' c'] w (BlRet w x y z) := by
  by_cases h1 : l ≤ 64
  · by_cases h2 : l' ≤ 64
    · by_cases h3 : l = l'
      · subst h3
        cases ha : allOk ns ds l
        · exact ⟨0, 0, 2, fun w hf hi => ⟨blend_bad a a' l c c' ns ds w h1 hf (hide ha), rblend_bad a a' l c c' ns ds w h1 hf (hide ha)⟩⟩
        · cases hg : rngB 1000000 ws l
          · exact ⟨0, 0, 2, fun w hf hi => ⟨blend_range a a' l c c' ns ds ws w h1 hf (hide ha) hi (hide hg), rblend_range a a' l c c' ns ds ws w h1 hf (hide ha) hi (hide hg)⟩⟩
          · by_cases h0 : tot ws l = 0
            · exact ⟨0, 0, 4, fun w hf hi => ⟨blend_zero a a' l c c' ns ds ws w h1 hf (hide ha) hi (hide hg) (hide h0.symm), rblend_zero a a' l c c' ns ds ws w h1 hf (hide ha) hi (hide hg) (hide h0.symm)⟩⟩
            · obtain ⟨x, y, z, hx⟩ := blrel_ex ns ds ws l
              exact ⟨x, y, z, fun w hf hi => ⟨blend_yes a a' l c c' ns ds ws w h1 hf (hide ha) hi (hide hg) _ (hide rfl) h0 x y z hx, rblend_yes a a' l c c' ns ds ws w h1 hf (hide ha) hi (hide hg) _ (hide rfl) h0 x y z hx⟩⟩
      · exact ⟨0, 0, 2, fun w _ _ => ⟨blend_lens a a' l c l' c' w h1 h2 h3, rblend_lens a a' l c l' c' w h1 h2 h3⟩⟩
    · exact ⟨0, 0, 3, fun w _ _ => ⟨blend_long2 a a' l c l' c' w h1 (by omega), rblend_long2 a a' l c l' c' w h1 (by omega)⟩⟩
  · exact ⟨0, 0, 3, fun w _ _ => ⟨blend_long1 a a' l c l' c' w (by omega), rblend_long1 a a' l c l' c' w (by omega)⟩⟩
set_option maxRecDepth 20000 in
set_option maxHeartbeats 2000000 in
theorem law_blends (a : Option Addr) (l c : Nat) (ns ds : Nat → Int) (a' : Option Addr) (l' c' : Nat) (ws : Nat → Int) (w : World) (hf : FrSl w a l ns ds) (hi : InSl w a' l' ws) : Calls Try.prog 17 #[.slice a l c, .slice a' l' c'] w fun e w' => e = .returned (.bool true) ∧ Below w.heap.size w w' := by
  have HF := hide hf
  have HW := hide hi
  clear hf hi
  obtain ⟨x, y, z, hs⟩ := blend_both a a' l c l' c' ns ds ws
  have HS := hide hs
  clear hs
  go_enter Try.func17, Try.ntmps17
  go_wp2_with fail
  refine (HS.out _ HF HW).1.mono ?_
  rintro e w1 ⟨rfl, hb⟩
  have HB1 := hide (ba hb (.cells #[.int .i64 x, .int .i64 y] 23))
  have HX1 := fx_new w1 x y
  have HC1 := hide (frsl_below HF.out HB1.out)
  have HC2 := hide (insl_below HW.out HB1.out)
  clear hb
  go_wp2_with fail
  refine (HS.out _ HC1 HC2).2.mono ?_
  rintro e w2 ⟨rfl, hb⟩
  have HB2 := hide (bt HB1.out hb)
  have HX2 := fx_step HX1 hb
  clear hb
  obtain ⟨a1, a2, a3⟩ := HX2.out
  go_wp2_with fail
  refine (awake_any _).mono ?_
  rintro e w3 ⟨rfl, hb⟩
  have HB3 := hide (bt (ba HB2.out _) hb); clear hb
  go_wp2_with fail
  go_ret
  exact ⟨rfl, HB3.out⟩
end Go.Proofs.Ytpgnbjlpkpmpcaa.R
