/- Code, with ranges over a function; rounds; calls. -/
import Derived.Test.YtcakcdolijgjeaaYn
namespace Go.Ab
open Go Go.RowKit

def Ex.toExit : Ex → Exit
  | .norm => .normal
  | .exit id => .exit id
  | .ret => .ret

section
variable {P : Program} {w0 : World} {nt : Nat}

/-- the marks that a frame has put off -/
def Marks (ρ : Ren) : List Nat → List Deferred → Prop
  | [], [] => True
  | k :: ks, d :: ds => (∃ p, ρ k = some p ∧ d = { target := .collected p.real, args := #[] }) ∧ Marks ρ ks ds
  | _, _ => False

theorem Marks.ext {ρ ρ' : Ren} (he : Ext ρ ρ') : ∀ {ks : List Nat} {ds : List Deferred}, Marks ρ ks ds → Marks ρ' ks ds
  | [], [], _ => trivial
  | _ :: _, _ :: _, ⟨⟨p, hp, e⟩, h⟩ => ⟨⟨p, he _ _ hp, e⟩, Marks.ext he h⟩
  | [], _ :: _, h => h.elim
  | _ :: _, [], h => h.elim

def StM (P : Program) (w0 : World) (nt : Nat) (ρ : Ren) (s : CS) (a : Act) (w : World) : Prop := ∃ D, Marks ρ s.2 D ∧ St P w0 D nt ρ s.1 a w

def EndsC (P : Program) (w0 : World) (nt : Nat) (ρ : Ren) (x : Ex) (s : CS) : Exit → Act → World → Prop := fun e a w => e = x.toExit ∧ ∃ ρ', Ext ρ ρ' ∧ StM P w0 nt ρ' s a w

/-- what is known of a piece of code that was reckoned -/
def Good (P : Program) (w0 : World) (r : Option Nat) (nt : Nat) (c : Code) (f : CS → Option (Ex × CS)) : Prop := ∀ (ρ : Ren) (s s' : CS) (x : Ex) (a : Act) (w : World), StM P w0 nt ρ s a w → f s = some (x, s') →
  c.wpIn (Wd r) 0 P (EndsC P w0 nt ρ x s') a w ∧ Keeps s.1.h s'.1.h ∧ ∃ ρ' a' w', Ext ρ ρ' ∧ StM P w0 nt ρ' s' a' w'

variable {r : Option Nat}

theorem good_seq {a b : Code} {f g : CS → Option (Ex × CS)} (ha : Good P w0 r nt a f) (hb : Good P w0 r nt b g) : Good P w0 r nt (.seq a b) (fun s => match f s with | some (.norm, s') => g s' | r => r) := by
  intro ρ s s' x ac w hS h
  simp only [] at h
  split at h
  · rename_i s1 h1
    obtain ⟨w1, k1, ρ1, a1, w1', e1, S1⟩ := ha ρ s s1 .norm ac w hS h1
    obtain ⟨_, k2, ρ2, a2, w2, e2, S2⟩ := hb ρ1 s1 s' x a1 w1' S1 h
    refine ⟨wpIn_seq (wpIn_mono w1 fun e a' w' hq => ?_), k1.trans k2, ρ2, a2, w2, e1.trans e2, S2⟩
    obtain ⟨rfl, ρ', he, hS'⟩ := hq
    obtain ⟨hw, _⟩ := hb ρ' s1 s' x a' w' hS' h
    exact wpIn_mono hw fun e a2 w2 ⟨h1, ρ2, h2, h3⟩ => ⟨h1, ρ2, he.trans h2, h3⟩
  · rename_i hne
    obtain ⟨w1, k1, hx⟩ := ha ρ s s' x ac w hS h
    refine ⟨wpIn_seq (wpIn_mono w1 fun e a' w' hq => ?_), k1, hx⟩
    obtain ⟨rfl, hq⟩ := hq
    cases x with
    | norm => exact absurd h (hne s')
    | exit id => exact ⟨rfl, hq⟩
    | ret => exact ⟨rfl, hq⟩

theorem good_block {id : Nat} {c : Code} {f : CS → Option (Ex × CS)} (hc : Good P w0 r nt c f) : Good P w0 r nt (.block id c) (fun s => match f s with | some (.exit j, s') => if j = id then some (.norm, s') else some (.exit j, s') | r => r) := by
  intro ρ s s' x ac w hS h
  simp only [] at h
  split at h
  · rename_i j s1 h1
    obtain ⟨w1, k1, hx⟩ := hc ρ s s1 (.exit j) ac w hS h1
    split at h
    · rename_i e
      cases h
      refine ⟨wpIn_block (wpIn_mono w1 fun e' a' w' hq => ?_), k1, hx⟩
      obtain ⟨rfl, hq⟩ := hq
      show Exit.inBlock id _ (Exit.exit j) a' w'
      simp only [Exit.inBlock, e, if_true]
      exact ⟨rfl, hq⟩
    · rename_i e
      cases h
      refine ⟨wpIn_block (wpIn_mono w1 fun e' a' w' hq => ?_), k1, hx⟩
      obtain ⟨rfl, hq⟩ := hq
      show Exit.inBlock id _ (Exit.exit j) a' w'
      simp only [Exit.inBlock, e, if_false]
      exact ⟨rfl, hq⟩
  · rename_i hne
    obtain ⟨w1, k1, hx⟩ := hc ρ s s' x ac w hS h
    refine ⟨wpIn_block (wpIn_mono w1 fun e' a' w' hq => ?_), k1, hx⟩
    obtain ⟨rfl, hq⟩ := hq
    cases x with
    | norm => exact ⟨rfl, hq⟩
    | exit j => exact absurd h (hne j s')
    | ret => exact ⟨rfl, hq⟩

theorem exists_min {p : Nat → Prop} (h : ∃ k, p k) : ∃ k, p k ∧ ∀ j, p j → k ≤ j := by
  obtain ⟨k, hk⟩ := h
  induction k using Nat.strongRecOn with
  | _ k ih =>
    by_cases hj : ∃ j, j < k ∧ p j
    · obtain ⟨j, hlt, hpj⟩ := hj; exact ih j hlt hpj
    · exact ⟨k, hk, fun j hpj => Nat.le_of_not_lt fun hlt => hj ⟨j, hlt, hpj⟩⟩

theorem good_loop {c : Code} {f : CS → Option (Ex × CS)} (hc : Good P w0 r nt c f) (n : Nat) : Good P w0 r nt (.loop c) (fun s => iterA f n s) := by
  intro ρ s s' x ac w hS h
  simp only [] at h
  -- what the rounds come to
  have some : ∀ (n : Nat) (ρ : Ren) (s : CS) (ac : Act) (w : World), StM P w0 nt ρ s ac w → iterA f n s = some (x, s') → Keeps s.1.h s'.1.h ∧ ∃ ρ' a' w', Ext ρ ρ' ∧ StM P w0 nt ρ' s' a' w' := by
    intro n
    induction n with
    | zero => intro ρ s ac w _ h; simp [iterA] at h
    | succ n ih =>
      intro ρ s ac w hS h
      simp only [iterA] at h
      split at h
      · rename_i s1 h1
        obtain ⟨_, k1, ρ1, a1, w1, e1, S1⟩ := hc ρ s s1 .norm ac w hS h1
        obtain ⟨k2, ρ2, a2, w2, e2, S2⟩ := ih ρ1 s1 a1 w1 S1 h
        exact ⟨k1.trans k2, ρ2, a2, w2, e1.trans e2, S2⟩
      · obtain ⟨_, k1, hx⟩ := hc ρ s s' x ac w hS h
        exact ⟨k1, hx⟩
  refine ⟨?_, some n ρ s ac w hS h⟩
  let J : Nat → Act → World → Prop := fun k a w => ∃ s1 ρ1, iterA f k s1 = .some (x, s') ∧ Ext ρ ρ1 ∧ StM P w0 nt ρ1 s1 a w
  classical
  let μ : Act → World → Nat := fun a w => if h : ∃ k, J k a w then Classical.choose (exists_min h) else 0
  have hmin : ∀ a w (h : ∃ k, J k a w), J (μ a w) a w ∧ ∀ j, J j a w → μ a w ≤ j := fun a w h => by
    have e : μ a w = Classical.choose (exists_min h) := dif_pos h
    rw [e]
    exact Classical.choose_spec (exists_min h)
  refine wpIn_loop (fun a w => ∃ k, J k a w) μ ⟨n, s, ρ, h, Ext.refl ρ, hS⟩ fun a w hI => ?_
  obtain ⟨⟨s1, ρ1, hit, he1, hS1⟩, _⟩ := hmin a w hI
  cases hk : μ a w with
  | zero => rw [hk] at hit; simp [iterA] at hit
  | succ k =>
    rw [hk] at hit
    simp only [iterA] at hit
    split at hit
    · rename_i s2 h2
      obtain ⟨hw, _⟩ := hc ρ1 s1 s2 .norm a w hS1 h2
      refine wpIn_mono hw fun e a' w' hq => ?_
      obtain ⟨rfl, ρ2, he2, hS2⟩ := hq
      have hJ : J k a' w' := ⟨s2, ρ2, hit, he1.trans he2, hS2⟩
      exact ⟨⟨k, hJ⟩, Nat.lt_of_le_of_lt ((hmin a' w' ⟨k, hJ⟩).2 k hJ) (Nat.lt_succ_self k)⟩
    · rename_i hne
      obtain ⟨hw, _⟩ := hc ρ1 s1 s' x a w hS1 hit
      refine wpIn_mono hw fun e a' w' hq => ?_
      obtain ⟨rfl, ρ2, he2, hS2⟩ := hq
      cases x with
      | norm => exact absurd hit (hne s')
      | exit id => exact ⟨rfl, ρ2, he1.trans he2, hS2⟩
      | ret => exact ⟨rfl, ρ2, he1.trans he2, hS2⟩

/-! ### a block that is no cells turns -/

/-- a loop's or a hull's block becomes another -/
theorem Rel.turn {ρ : Ren} {H : Hp} {w : World} (h : Rel P w0 ρ H w) {k : Nat} {p : Place} {b0 : Blk} (b : Blk) (o : Obj) (hg : H.get k = some b0) (hd : b0 ≠ .dead) (hst : ∀ x, statB b = some x → statB b0 = some x) (hk : k < 2 ^ 39) (hlo : H.lo ≤ k) (hp : ρ k = some p)
    (hsoft : ∀ c E fz, o ≠ .cells c E fz) (hb : p.real < w.heap.size → BlkOk P ρ k (w.putObj p.real o) b) : Rel P w0 ρ (H.set k b) (w.putObj p.real o) ∧ Keeps H (H.set k b) := by
  have hlive : Live H k := live_of hg hd
  have hbase := (h.own k p hlive hlo hp).1
  obtain ⟨q, hq, hlt⟩ := h.live hlive
  rw [hp] at hq; cases hq
  have hupd : upd ρ k p = ρ := upd_self hp
  have hput := h.put (w' := w.putObj p.real o) k p b hk hlo (n := H.next)
    (by rcases Nat.lt_or_ge k H.next with h' | h'
        · exact h'
        · rw [h.top _ h'] at hg; cases hg) (Nat.le_refl _)
    (fun q hq => by rw [hp] at hq; cases hq; rfl) hbase
    (fun j q hj hl hq => by
      by_cases hjl : j < H.lo
      · have := h.old j q hl hjl hq; omega
      · exact h.inj j k q p hj (by omega) hlo hl hlive hq hp)
    rfl rfl rfl (by simp) (fun r _ hr => World.putObj_heap_other hr)
    (fun c E fz hc => by rw [World.putObj_heap_same hlt] at hc; exact absurd (Option.some.inj hc) (hsoft c E fz))
    (by rw [hupd]; exact hb hlt)
  rw [hupd] at hput
  exact ⟨hput, kill_keeps hlo hk fun x hx => ⟨b0, hg, hst x hx⟩⟩


theorem Wd_none : Wd none = Fence.wide := rfl

theorem jump_ok {ρ : Ren} {s : CS} {x : Ex} {pe : Option Code} (h : jumpA pe = some x) {a : Act} {w : World} (hS : StM P w0 nt ρ s a w) {ρ0 : Ren} (he : Ext ρ0 ρ) :
    match (generalizing := false) pe with
    | none => EndsC P w0 nt ρ0 x s .normal a w
    | some c => c.wpIn (Wd r) 0 P (EndsC P w0 nt ρ0 x s) a w := by
  unfold jumpA at h
  split at h
  · cases h; exact ⟨rfl, ρ, he, hS⟩
  · cases h; exact wpIn_exit ⟨rfl, ρ, he, hS⟩
  · cases h; exact wpIn_ret ⟨rfl, ρ, he, hS⟩
  · cases h

/-- a range over a function, out of any round -/
theorem range_ok {cf : CF} (hcf : CFok P cf) {g : Operand} {ps : Array Tmp} {assign body : Code} {ρ : Ren} {s s' : CS} {x : Ex} {a : Act} {w : World} {v : Value} (hS : StM P w0 nt ρ s a w) (hv : VR ρ v (a.eval g))
    (h : rangeA P cf nt v ps assign body s = some (x, s')) :
    (Code.rangeFunc g ps assign body).wpIn (Wd none) 0 P (EndsC P w0 nt ρ x s') a w ∧ Keeps s.1.h s'.1.h ∧ ∃ ρ' a' w', Ext ρ ρ' ∧ StM P w0 nt ρ' s' a' w' := by
  obtain ⟨D, hM, hS⟩ := hS
  unfold rangeA at h
  split at h
  case h_2 => cases h
  rename_i gf f c
  split at h
  case h_2 => cases h
  rename_i h1 hen ha1
  split at h
  case h_2 => cases h
  rename_i h2 ha2
  split at h
  case h_2 => cases h
  rename_i v3 h3 hcall
  split at h
  case h_2 => cases h
  rename_i st pe nt3 t3 ps3 as3 bo3 hl3 hlo3
  have hlo3 := Nat.ble_eq.mp hlo3
  split at h
  · cases h
  case h_3 => cases h
  rename_i x' hbusy hj
  simp only [Option.some.injEq, Prod.mk.injEq] at h
  obtain ⟨rfl, rfl⟩ := h
  obtain ⟨f', c', ef, hf, hc⟩ := hv.func_inv rfl
  obtain ⟨g1, i1, l1, e1⟩ := anew_spec ha1
  obtain ⟨g2, i2, l2, e2⟩ := anew_spec ha2
  -- the two blocks
  have hnew1 := hS.rel.new s.1.h.next none .hull (.deferred (some [])) i1 l1 (n := max s.1.h.next (s.1.h.next + 1)) (by omega) (by omega) g1 (fun c E fz e => by cases e)
    ⟨_, upd_same _ _ _, World.alloc_heap_new w _⟩
  obtain ⟨R1, E1⟩ := hnew1
  rw [← e1] at R1
  have hn1 : h1.next = s.1.h.next + 1 := by rw [e1]; show max _ _ = _; omega
  have loop_new : ∀ fn : FuncId, Rel P w0 (upd (upd ρ s.1.h.next ⟨w.heap.size, 0, none⟩) h1.next ⟨(w.alloc (.deferred (some []))).heap.size, 0, none⟩) h2
      ((w.alloc (.deferred (some []))).alloc (.loop { state := .ready, pending := none, fn := fn, tmps := a.tmps, params := ps, assign := assign, body := body, defers := w.heap.size })) ∧
      Ext (upd ρ s.1.h.next ⟨w.heap.size, 0, none⟩) (upd (upd ρ s.1.h.next ⟨w.heap.size, 0, none⟩) h1.next ⟨(w.alloc (.deferred (some []))).heap.size, 0, none⟩) := fun fn => by
    have := R1.new h1.next none (.loop .ready none nt s.1.t ps assign body) (.loop { state := .ready, pending := none, fn := fn, tmps := a.tmps, params := ps, assign := assign, body := body, defers := w.heap.size })
      i2 l2 (n := max h1.next (h1.next + 1)) (by omega) (by omega) g2 (fun c E fz e => by cases e)
      ⟨_, fn, a.tmps, w.heap.size, upd_same _ _ _, World.alloc_heap_new _ _, (hS.tm.ext E1).ext (upd_ext fun q hq => by rw [R1.fresh _ g2] at hq; cases hq)⟩
    rw [← e2] at this
    exact this
  obtain ⟨ρ2, hρ2⟩ : ∃ ρ2, ρ2 = upd (upd ρ s.1.h.next ⟨w.heap.size, 0, none⟩) h1.next ⟨(w.alloc (.deferred (some []))).heap.size, 0, none⟩ := ⟨_, rfl⟩
  rw [← hρ2] at loop_new
  have hL : ρ2 h1.next = some ⟨(w.alloc (.deferred (some []))).heap.size, 0, none⟩ := by rw [hρ2]; exact upd_same _ _ _
  have E12 : Ext (upd ρ s.1.h.next ⟨w.heap.size, 0, none⟩) ρ2 := (loop_new 0).2
  have E2 : Ext ρ ρ2 := E1.trans E12
  have hD : ρ2 s.1.h.next = some ⟨w.heap.size, 0, none⟩ := E12 _ _ (upd_same _ _ _)
  have hsz : (w.alloc (.deferred (some []))).heap.size = w.heap.size + 1 := by simp
  have hargs : VRs ρ2 (f.toList ++ [.func (.yield h1.next) #[] #[]] ++ c.toList) (f'.toList ++ [.func (.yield (w.heap.size + 1)) #[] #[]] ++ c'.toList) := by
    refine ((hf.ext E2).append (.cons ?_ .nil)).append (hc.ext E2)
    have := VR.yield hL
    rw [hsz] at this
    exact this
  have hL39 : h1.next < 2 ^ 39 := i2
  have hkeep1 : Keeps s.1.h h1 := by rw [e1]; exact put_keeps l1 (by omega) i1 (fun x h => by cases h)
  have h2other : ∀ k, k ≠ h1.next → h2.get k = h1.get k := fun k hk => by rw [e2]; exact Hp.get_other h1 _ hk
  have h2lo : h2.lo = h1.lo := by rw [e2]; rfl
  have h2next : h1.next ≤ h2.next := by rw [e2]; show h1.next ≤ max h1.next (h1.next + 1); omega
  have hcallR := fun fn => hcf gf _ h2 v3 h3 hcall w0 ρ2 _ _ (loop_new fn).1 hargs
  have hk3 := (hcallR 0).1
  -- what stands behind the call
  have fin : ∀ (v' : Value) (ρ' : Ren) (w3 : World), Ext ρ2 ρ' → Rel P w0 ρ' h3 w3 → ∃ w4, (Instr.endLoop (w.heap.size + 1)).run P w3 = .ok pe w4 ∧
      StM P w0 nt ρ' (⟨s.1.t, h3.set h1.next .dead⟩, s.1.h.next :: s.2) { a with defers := { target := .collected w.heap.size, args := #[] } :: a.defers } w4 ∧ Keeps h3 (h3.set h1.next .dead) := fun v' ρ' w3 he hR => by
    obtain ⟨p, fn, tm, D', hp, hheap, _⟩ := hR.blk _ _ hl3
    have := he _ _ hL
    rw [hp] at this
    cases this
    have hreal : (⟨(w.alloc (.deferred (some []))).heap.size, 0, none⟩ : Place).real = w.heap.size + 1 := hsz
    rw [hreal] at hheap
    have hturn := hR.turn .dead (.loop { state := .exhausted, pending := pe, fn := fn, tmps := tm, params := ps3, assign := as3, body := bo3, defers := D' }) hl3 (by simp) (fun x h => by cases h) hL39 hlo3 hp (fun c E fz e => by cases e) (fun _ => trivial)
    rw [hreal] at hturn
    refine ⟨_, run_endLoop hheap hbusy, ⟨{ target := .collected w.heap.size, args := #[] } :: D, ⟨⟨_, he _ _ hD, rfl⟩, (hM.ext E2).ext he⟩, hturn.1, ?_, ?_⟩, hturn.2⟩
    · exact (hS.tm.ext E2).ext he
    · rw [hS.defers]
  refine ⟨wpIn_rangeFunc fun fn _ => ?_, ?_⟩
  · obtain ⟨W1, hW1⟩ : ∃ W1, W1 = (w.alloc (.deferred (some []))).alloc (.loop { state := .ready, pending := none, fn := fn, tmps := a.tmps, params := ps, assign := assign, body := body, defers := w.heap.size }) := ⟨_, rfl⟩
    refine ⟨w.heap.size + 1, [{ target := .collected w.heap.size, args := #[] }], W1, { target := .fn (.func gf) c', args := f' ++ #[.func (.yield (w.heap.size + 1)) #[] #[]] }, W1, gf,
      ⟨f'.toList ++ [.func (.yield (w.heap.size + 1)) #[] #[]] ++ c'.toList⟩, W1, hW1 ▸ run_enterLoop_outer fn a.tmps ps assign body, ?_, fun _ _ => trivial, ?_, fun he => by simp [Wd, Fence.wide] at he, ?_⟩
    · simp [resolve, ef, Deferred.ofValue]
      rfl
    · unfold enters at hen
      cases hfn : P.funcs[gf]? with
      | none => simp [hfn] at hen
      | some fn' =>
        simp only [hfn, Bool.and_eq_true, bne_iff_ne, ne_eq] at hen
        obtain ⟨hname, hbody⟩ := hen
        have hnone : fn'.body.isNone = false := by cases hb : fn'.body <;> simp [hb] at hbody ⊢
        have hargs' : f' ++ #[Value.func (.yield (w.heap.size + 1)) #[] #[]] ++ c' = ⟨f'.toList ++ [.func (.yield (w.heap.size + 1)) #[] #[]] ++ c'.toList⟩ := by apply Array.ext'; simp
        simp only [invoke, callFunc, Sem.run_bind, Result.andThen_ok, run_program, hfn, beq_iff_eq, hname, if_false, hnone, Bool.false_eq_true, hargs', Sem.run_pure]
    · rw [hW1]
      refine calls_in ((hcallR fn).2.mono ?_)
      rintro e w3 ⟨v', ρ', rfl, _, he, hR⟩
      obtain ⟨w4, hend, hSt, _⟩ := fin v' ρ' w3 he hR
      refine ⟨pe, w4, hend, ?_⟩
      exact jump_ok (r := none) hj hSt (E2.trans he)
  · obtain ⟨e, w3, fr, ⟨v', ρ', _, _, he, hR⟩, _⟩ := (hcallR 0).2 []
    obtain ⟨w4, _, hSt, hk4⟩ := fin v' ρ' w3 he hR
    refine ⟨⟨?_, ?_, ?_, ?_⟩, ρ', _, w4, E2.trans he, hSt⟩
    · rw [hk4.lo, hk3.lo, h2lo, hkeep1.lo]
    · exact Nat.le_trans hkeep1.next (Nat.le_trans h2next (Nat.le_trans hk3.next hk4.next))
    · intro k hk
      have hk1 : k < h1.lo := by rw [hkeep1.lo]; exact hk
      rw [hk4.get k (by rw [hk3.lo, h2lo]; exact hk1), hk3.get k (by rw [h2lo]; exact hk1), h2other k (by omega), hkeep1.get k hk]
    · intro k b x hb hx
      by_cases e : k = h1.next
      · subst e
        rw [Hp.get_same h3 _ hL39] at hb
        cases hb
        cases hx
      · rw [Hp.get_other h3 _ e] at hb
        obtain ⟨b0, hb0, hx0⟩ := hk3.stat k b x hb hx
        rw [h2other k e] at hb0
        exact hkeep1.stat k b0 x hb0 hx0

theorem codeA_ok {cf : CF} {yf : YF} (hcf : CFok P cf) (hyf : YFok P yf) {rd : Bool} (hr : rd = false → r = none) (n : Nat) : ∀ c : Code, Good P w0 r nt c (codeA P cf yf rd nt n c)
  | .skip => fun ρ s s' x a w hS h => by
    simp [codeA] at h; obtain ⟨rfl, rfl⟩ := h
    exact ⟨wpIn_skip ⟨rfl, ρ, Ext.refl ρ, hS⟩, Keeps.refl _, ρ, a, w, Ext.refl ρ, hS⟩
  | .label l => fun ρ s s' x a w hS h => by
    simp [codeA] at h; obtain ⟨rfl, rfl⟩ := h
    exact ⟨wpIn_label ⟨rfl, ρ, Ext.refl ρ, hS⟩, Keeps.refl _, ρ, a, w, Ext.refl ρ, hS⟩
  | .region id ops draw => fun ρ s s' x a w hS h => by
    simp only [codeA] at h
    obtain ⟨D, hM, hS⟩ := hS
    cases hr : regionY P cf yf nt ops draw s.1 with
    | none => simp [hr] at h
    | some s1 =>
      simp only [hr, Option.map_some, Option.some.injEq, Prod.mk.injEq] at h
      obtain ⟨rfl, rfl⟩ := h
      obtain ⟨h1, h2, ρ', a', w', he, hS'⟩ := region_ok hcf hyf (r := r) (id := id) hS hr
      refine ⟨wpIn_mono h1 ?_, h2, ρ', a', w', he, D, hM.ext he, hS'⟩
      rintro e a w ⟨h1, ρ2, he2, hS2⟩
      exact ⟨h1, ρ2, he2, D, hM.ext he2, hS2⟩
  | .seq a b => good_seq (codeA_ok hcf hyf hr n a) (codeA_ok hcf hyf hr n b)
  | .cond c x y => fun ρ s s' ex a w hS h => by
    simp only [codeA] at h
    split at h
    case h_2 => cases h
    rename_i hok
    have hv : VR ρ (aev s.1.t c) (a.eval c) := by
      obtain ⟨D, _, hS⟩ := hS
      cases c with
      | tmp i => exact hS.tm.2 i (by simpa [okOpd] using hok)
      | const v => exact plain_refl 3 v hok
      | global g => simp [okOpd] at hok
      | func f => exact .func _ rfl .nil .nil
    split at h
    · rename_i hb
      rw [hb] at hv
      obtain ⟨h1, h2⟩ := codeA_ok hcf hyf hr n x ρ s s' ex a w hS h
      exact ⟨wpIn_cond_true hv.bool_inv h1, h2⟩
    · rename_i hb
      rw [hb] at hv
      obtain ⟨h1, h2⟩ := codeA_ok hcf hyf hr n y ρ s s' ex a w hS h
      exact ⟨wpIn_cond_false hv.bool_inv h1, h2⟩
    · cases h
  | .block id c => good_block (codeA_ok hcf hyf hr n c)
  | .loop c => good_loop (codeA_ok hcf hyf hr n c) n
  | .exit id => fun ρ s s' x a w hS h => by
    simp [codeA] at h; obtain ⟨rfl, rfl⟩ := h
    exact ⟨wpIn_exit ⟨rfl, ρ, Ext.refl ρ, hS⟩, Keeps.refl _, ρ, a, w, Ext.refl ρ, hS⟩
  | .ret => fun ρ s s' x a w hS h => by
    simp [codeA] at h; obtain ⟨rfl, rfl⟩ := h
    exact ⟨wpIn_ret ⟨rfl, ρ, Ext.refl ρ, hS⟩, Keeps.refl _, ρ, a, w, Ext.refl ρ, hS⟩
  | .rangeFunc g ps assign body => fun ρ s s' x a w hS h => by
    simp only [codeA] at h
    split at h
    case h_2 => cases h
    rename_i hrd
    simp only [Bool.or_eq_false_iff, Bool.not_eq_eq_eq_not, Bool.not_false] at hrd
    obtain ⟨hrd, hok⟩ := hrd
    have hv : VR ρ (aev s.1.t g) (a.eval g) := by
      obtain ⟨D, _, hS⟩ := hS
      cases g with
      | tmp i => exact hS.tm.2 i (by simpa [okOpd] using hok)
      | const v => exact plain_refl 3 v hok
      | global g => simp [okOpd] at hok
      | func f => exact .func _ rfl .nil .nil
    obtain rfl := hr hrd
    exact range_ok hcf hS hv h
  | .scope _ => fun ρ s s' x a w hS h => by simp [codeA] at h
  | .goto _ => fun ρ s s' x a w hS h => by simp [codeA] at h
  | .refuse _ => fun ρ s s' x a w hS h => by simp [codeA] at h


/-! ### a round -/

theorem set_tm {ρ : Ren} {t : Tm} {arr : Array Value} (h : TmR ρ nt t arr) {p : Nat} {v v' : Value} (hv : VR ρ v v') (h1 : p < nt) (h2 : p < 2 ^ 15) : TmR ρ nt (Tre.set 16 t p v) (arr.setIfInBounds p v') := by
  have := TmR.put (a := { tmps := arr, defers := [] }) h (dst := some p) hv (fun d e => by cases e; exact ⟨h1, h2⟩)
  exact this

theorem params_ok {ρ : Ren} : ∀ (ps : List Tmp) (vs vs' : List Value) (t t1 : Tm) (arr : Array Value), paramsA nt ps vs t = some t1 → TmR ρ nt t arr → VRs ρ vs vs' →
    TmR ρ nt t1 ((ps.zip vs').foldl (fun tmps (p, v) => tmps.setIfInBounds p v) arr) ∧ vs'.length = ps.length
  | [], [], vs', t, t1, arr, h, ht, hv => by
    cases hv
    simp only [paramsA, Option.some.injEq] at h
    subst h
    exact ⟨ht, rfl⟩
  | p :: ps, v :: vs, vs', t, t1, arr, h, ht, hv => by
    cases hv with
    | @cons _ v' _ l' hx hs =>
      simp only [paramsA] at h
      split at h
      case isFalse => cases h
      rename_i hp
      obtain ⟨h1, h2⟩ := params_ok ps vs l' _ t1 _ h (set_tm ht hx hp.1 hp.2) hs
      exact ⟨h1, by simp [h2]⟩
  | [], v :: vs, _, _, _, _, h, _, _ => by simp [paramsA] at h
  | p :: ps, [], _, _, _, _, h, _, _ => by simp [paramsA] at h

theorem back_ok {ρ : Ren} {h h' : Hp} {w : World} {l : Nat} {x : Ex} {v : Value} {p : Place} (hl : l < 2 ^ 39) (hp : ρ l = some p) (hR : Rel P w0 ρ h w) (hb : backA l x h = some (v, h')) :
    Keeps h h' ∧ ∃ w', (Instr.endRound p.real (match x with | .norm => none | .ret => some .ret | .exit id => some (.exit id))).run P w = .ok v w' ∧ VR ρ v v ∧ Rel P w0 ρ h' w' := by
  unfold backA at hb
  split at hb
  case h_2 => cases hb
  rename_i pe nt' t' ps' as' bo' hg hlo
  have hlo := Nat.ble_eq.mp hlo
  obtain ⟨q, fn, tm, D, hq, hheap, htm⟩ := hR.blk _ _ hg
  rw [hp] at hq
  cases hq
  have key : ∀ (st : LoopState) (j : Option Code), st = (if j.isNone then LoopState.ready else .done) → Keeps h (h.set l (.loop st j nt' t' ps' as' bo')) ∧ ∃ w', (Instr.endRound p.real j).run P w = .ok (.bool j.isNone) w' ∧ Rel P w0 ρ (h.set l (.loop st j nt' t' ps' as' bo')) w' := fun st j hst => by
    subst hst
    obtain ⟨h1, h2⟩ := hR.turn (.loop (if j.isNone then LoopState.ready else .done) j nt' t' ps' as' bo') (.loop { state := (if j.isNone then LoopState.ready else .done), pending := j, fn := fn, tmps := tm, params := ps', assign := as', body := bo', defers := D }) hg (by simp) (fun x h => h) hl hlo hp
      (fun c E fz e => by cases e) fun hlt => ⟨p, fn, tm, D, hp, World.putObj_heap_same hlt, htm⟩
    exact ⟨h2, _, run_endRound j hheap, h1⟩
  cases x with
  | norm =>
    simp only [Option.some.injEq, Prod.mk.injEq] at hb
    obtain ⟨rfl, rfl⟩ := hb
    obtain ⟨h1, w', h2, h3⟩ := key .ready none rfl
    exact ⟨h1, w', h2, .bool _, h3⟩
  | ret =>
    simp only [Option.some.injEq, Prod.mk.injEq] at hb
    obtain ⟨rfl, rfl⟩ := hb
    obtain ⟨h1, w', h2, h3⟩ := key .done (some .ret) rfl
    exact ⟨h1, w', h2, .bool _, h3⟩
  | exit id =>
    simp only [Option.some.injEq, Prod.mk.injEq] at hb
    obtain ⟨rfl, rfl⟩ := hb
    obtain ⟨h1, w', h2, h3⟩ := key .done (some (.exit id)) rfl
    exact ⟨h1, w', h2, .bool _, h3⟩

theorem round_ok {cf : CF} {yf : YF} (hcf : CFok P cf) (hyf : YFok P yf) (n : Nat) : YFok P (roundA P cf yf n) := by
  intro l args h v h' hr w0 ρ w args' p hR hargs hp
  unfold roundA at hr
  split at hr
  case h_2 => cases hr
  rename_i pe nt t ps assign body hg
  split at hr
  · cases hr
  rename_i t1 hps
  split at hr
  case h_2 => cases hr
  rename_i s1 hassign
  split at hr
  case h_2 => cases hr
  rename_i pe1 nt1 t1' ps1 as1 bo1 hg1 hc1
  simp only [Bool.and_eq_true, decide_eq_true_eq] at hc1
  obtain ⟨hl39, hlo1⟩ := hc1
  have hlo1 := Nat.ble_eq.mp hlo1
  split at hr
  case h_2 => cases hr
  rename_i x s2 hbody
  obtain ⟨q, fn, tm, D, hq, hheap, htm⟩ := hR.blk _ _ hg
  rw [hp] at hq
  cases hq
  obtain ⟨ht1, hlen⟩ := params_ok ps.toList args args' t t1 tm hps htm hargs
  have hy := run_yield (P := P) (args := ⟨args'⟩) hheap (by simp [hlen])
  have efold : ((ps.zip ⟨args'⟩).foldl (fun tmps (t, a) => tmps.setIfInBounds t a) tm) = ((ps.toList.zip args').foldl (fun tmps (p, v) => tmps.setIfInBounds p v) tm) := by
    rw [← Array.foldl_toList]
    simp
  simp only [efold] at hy
  have hS0 : StM P w0 nt ρ (⟨t1, h⟩, []) { tmps := (ps.toList.zip args').foldl (fun tmps (p, v) => tmps.setIfInBounds p v) tm, defers := [] } w := ⟨[], trivial, hR, ht1, rfl⟩
  have good := fun (c : Code) => codeA_ok (w0 := w0) (nt := nt) (r := some p.real) hcf hyf (rd := true) (fun e => by cases e) n c
  obtain ⟨hwa, hka, ρa, aa, wa, hea, hSa⟩ := good assign ρ _ _ _ _ w hS0 hassign
  -- between the assignment and the body
  have begin_ : ∀ (ρ1 : Ren) (a1 : Act) (w1 : World), Ext ρ ρ1 → StM P w0 nt ρ1 s1 a1 w1 → ∃ w2, (Instr.beginRound p.real).run P w1 = .ok () w2 ∧ StM P w0 nt ρ1 (⟨s1.1.t, s1.1.h.set l (.loop .busy pe1 nt1 t1' ps1 as1 bo1)⟩, s1.2) a1 w2 ∧ Keeps s1.1.h (s1.1.h.set l (.loop .busy pe1 nt1 t1' ps1 as1 bo1)) := fun ρ1 a1 w1 he ⟨D1, hM1, hS1⟩ => by
    obtain ⟨q, fn1, tm1, D1', hq, hheap1, htm1⟩ := hS1.rel.blk _ _ hg1
    rw [he _ _ hp] at hq
    cases hq
    obtain ⟨h1, h2⟩ := hS1.rel.turn (.loop .busy pe1 nt1 t1' ps1 as1 bo1) (.loop { state := .busy, pending := pe1, fn := fn1, tmps := tm1, params := ps1, assign := as1, body := bo1, defers := D1' }) hg1 (by simp) (fun x h => h) hl39 hlo1 (he _ _ hp)
      (fun c E fz e => by cases e) fun hlt => ⟨p, fn1, tm1, D1', he _ _ hp, World.putObj_heap_same hlt, htm1⟩
    exact ⟨_, run_beginRound hheap1 rfl, ⟨D1, hM1, h1, hS1.tm, hS1.defers⟩, h2⟩
  obtain ⟨wb, _, hSb, hkb⟩ := begin_ ρa aa wa hea hSa
  obtain ⟨_, hkbody, ρc, ac, wc, hec, Dc, hMc, hSc⟩ := good body ρa _ _ _ _ wb hSb hbody
  obtain ⟨hkend, _⟩ := back_ok hl39 (hec _ _ (hea _ _ hp)) hSc.rel hr
  refine ⟨((hka.trans hkb).trans hkbody).trans hkend, fn, _, assign, body, hy, roundIn_of_wpIn trivial (wpIn_mono hwa ?_)⟩
  rintro e a1 w1 ⟨rfl, ρ1, he1, hS1⟩
  obtain ⟨w2, hbeg, hS2, _⟩ := begin_ ρ1 a1 w1 he1 hS1
  refine ⟨w2, hbeg, wpIn_mono (good body ρ1 _ _ _ _ w2 hS2 hbody).1 ?_⟩
  rintro e a3 w3 ⟨rfl, ρ3, he3, D3, _, hS3⟩
  have he13 := he1.trans he3
  obtain ⟨_, w4, hend, hvv, hR4⟩ := back_ok hl39 (he13 _ _ hp) hS3.rel hr
  cases x with
  | norm => exact ⟨v, w4, hend, v, ρ3, rfl, hvv, he13, hR4⟩
  | ret => exact ⟨v, w4, hend, v, ρ3, rfl, hvv, he13, hR4⟩
  | exit id => exact ⟨v, w4, hend, v, ρ3, rfl, hvv, he13, hR4⟩

/-! ### a call -/

theorem fromList_get : ∀ (l : List Value) (k : Nat) (t : Tre Value) (i : Nat), k + l.length ≤ 2 ^ 15 → (fromList k l t).get 16 i = if k ≤ i ∧ i < k + l.length then l[i - k]? else t.get 16 i
  | [], k, t, i, _ => by simp [fromList]; omega
  | x :: l, k, t, i, h => by
    simp only [List.length_cons] at h
    rw [fromList, fromList_get l (k + 1) _ i (by omega)]
    by_cases hi : i = k
    · subst hi
      rw [if_neg (by omega), if_pos (by simp), Nat.sub_self, Tre.get_set_same 15 t i x (by omega)]
      rfl
    · by_cases h2 : k + 1 ≤ i ∧ i < k + 1 + l.length
      · rw [if_pos h2, if_pos (by simp; omega), show i - k = (i - (k + 1)) + 1 by omega]
        rfl
      · rw [if_neg h2, if_neg (by simp; omega), Tre.get_set_other 16 t k i x hi]

theorem fromList_ok {ρ : Ren} {args args' : List Value} (h : VRs ρ args args') {m : Nat} (hl : args.length ≤ m) (hm : m ≤ 2 ^ 15) : TmR ρ m (fromList 0 args .e) (⟨args'⟩ ++ Array.replicate (m - args'.length) undef) := by
  have hlen := h.length
  refine ⟨by simp [hlen]; omega, fun i hi => ?_⟩
  have e : getT (fromList 0 args .e) i = (args[i]?).getD undef := by
    unfold getT
    simp only [fromList_get args 0 .e i (by omega)]
    by_cases h1 : i < args.length
    · rw [if_pos ⟨Nat.zero_le _, by omega⟩]
      simp [h1]
    · rw [if_neg (by omega), Tre.get_e]
      simp [List.getElem?_eq_none (Nat.le_of_not_lt h1)]
  rw [e]
  by_cases h1 : i < args.length
  · obtain ⟨v', hv', r⟩ := h.get i _ (List.getElem?_eq_getElem h1)
    have : ((⟨args'⟩ : Array Value) ++ Array.replicate (m - args'.length) undef).getD i undef = v' := by
      rw [Array.getD_eq_getD_getElem?, Array.getElem?_append_left (by simp [hlen]; exact h1)]
      simp [hv']
    rw [this, List.getElem?_eq_getElem h1]
    exact r
  · have : ((⟨args'⟩ : Array Value) ++ Array.replicate (m - args'.length) undef).getD i undef = undef := by
      rw [Array.getD_eq_getD_getElem?, Array.getElem?_append_right (by simp [hlen]; omega)]
      simp
      rw [Array.getElem?_replicate]
      split <;> rfl
    rw [this, List.getElem?_eq_none (Nat.le_of_not_lt h1)]
    exact vr_undef _

def rvar (t : Array Value) : ResultVar → Sem Value
  | .tmp i => pure (t.getD i undef)
  | .cell b t' => do loadVar t' (← asAddr (t.getD b undef))

theorem result_ok {ρ : Ren} {s : AS} {tm : Array Value} {w : World} (hR : Rel P w0 ρ s.h w) (ht : TmR ρ nt s.t tm) {r : ResultVar} {v : Value} (h : resultA P nt s r = some v) :
    ∃ v', VR ρ v v' ∧ (rvar tm r).run P w = .ok v' w := by
  unfold resultA at h
  split at h
  · rename_i t
    split at h
    case h_2 => cases h
    rename_i hd
    cases h
    exact ⟨_, ht.2 t (by simpa using hd), rfl⟩
  · rename_i b t
    split at h
    case h_2 => cases h
    rename_i ad hd hv
    have hb := ht.2 b (by simpa using hd)
    rw [hv] at hb
    obtain ⟨a', e, har⟩ := hb.ptr_inv
    obtain ⟨v', r, q⟩ := loadA_ok hR har h
    refine ⟨v', r, ?_⟩
    simp only [rvar]
    rw [e]
    simp [asAddr, q w (near_refl _ _ _ _)]

theorem results_ok {ρ : Ren} {s : AS} {tm : Array Value} {w : World} (hR : Rel P w0 ρ s.h w) (ht : TmR ρ nt s.t tm) : ∀ (l : List ResultVar) (vs : List Value), resultsA P nt s l = some vs →
    ∃ vs', VRs ρ vs vs' ∧ (l.mapM (rvar tm)).run P w = .ok vs' w
  | [], vs, h => by simp [resultsA] at h; subst h; exact ⟨[], .nil, rfl⟩
  | r :: l, vs, h => by
    simp only [resultsA] at h
    split at h
    case h_2 => cases h
    rename_i v vs1 h1 h2
    cases h
    obtain ⟨v', r1, q1⟩ := result_ok hR ht h1
    obtain ⟨vs', r2, q2⟩ := results_ok hR ht l vs1 h2
    refine ⟨v' :: vs', .cons r1 r2, ?_⟩
    rw [List.mapM_cons, Sem.run_bind, q1, Result.andThen_ok, Sem.run_bind, q2]
    rfl

theorem Rel.step {ρ : Ren} {H : Hp} {w w' : World} (h : Rel P w0 ρ H w) (hb : Below w.heap.size w w') : Rel P w0 ρ H w' := by
  have keep : ∀ k p, Live H k → ρ k = some p → w'.heap[p.real]? = w.heap[p.real]? := fun k p hl hp => by
    obtain ⟨q, hq, hlt⟩ := h.live hl
    rw [hp] at hq; cases hq
    exact hb.block _ hlt
  exact ⟨h.below.trans (hb.mono h.below.size), h.fresh, h.top, h.lo, fun k b hk => (h.blk k b hk).move (Ext.refl ρ) fun hd p hp => keep k p (live_of hk hd) hp, h.old,
    fun k p hl hk hp => ⟨(h.own k p hl hk hp).1, (h.own k p hl hk hp).2.move (keep k p hl hp)⟩, h.inj⟩

theorem killA_small : ∀ (ds : List Nat) (h h' : Hp), killA ds h = some h' → ∀ k ∈ ds, k < 2 ^ 39
  | [], _, _, _, k, hk => by cases hk
  | d :: ds, h, h', e, k, hk => by
    simp only [killA] at e
    split at e
    case h_2 => cases e
    rename_i hc hlo
    simp only [Bool.and_eq_true, decide_eq_true_eq] at hlo
    rcases List.mem_cons.1 hk with rfl | hk
    · exact hlo.2
    · exact killA_small ds _ h' e k hk

/-- on the way out: the marks -/
theorem leaves_ok {fn : Func} {tm : Array Value} {R : Ending → World → Prop} : ∀ (ds : List Nat) (D : List Deferred) (ρ : Ren) (h h' : Hp) (w : World), killA ds h = some h' → Marks ρ ds D → Rel P w0 ρ h w → (∀ k ∈ ds, k < 2 ^ 39) →
    (∀ w', Rel P w0 ρ h' w' → ∃ v, (results fn tm).run P w' = .ok v w' ∧ R (.returned v) w') → LeavesInM (Wd none) 0 P fn tm R D .returning w
  | [], [], ρ, h, h', w, hk, _, hR, _, hq => by
    simp only [killA, Option.some.injEq] at hk
    subst hk
    exact hq w hR
  | d :: ds, e :: D, ρ, h, h', w, hk, hM, hR, hb, hq => by
    simp only [killA] at hk
    split at hk
    case h_2 => cases hk
    rename_i hg hlo
    simp only [Bool.and_eq_true, decide_eq_true_eq] at hlo
    replace hlo := hlo.1
    obtain ⟨⟨p, hp, he⟩, hM⟩ := hM
    obtain ⟨q, hq', hheap⟩ := hR.blk _ _ hg
    rw [hp] at hq'
    cases hq'
    obtain ⟨h1, _⟩ := hR.turn .dead (.deferred none) hg (by simp) (fun x h => by cases h) (hb d (by simp)) (Nat.ble_eq.mp hlo) hp (fun c E fz e => by cases e) (fun _ => trivial)
    refine ⟨by simp, .inl ⟨p.real, _, by rw [he], run_takeDeferred hheap, ?_⟩⟩
    exact leaves_ok ds D ρ _ h' _ hk hM h1 (fun k hk => hb k (by simp [hk])) hq
  | [], _ :: _, _, _, _, _, _, h, _, _, _ => h.elim
  | _ :: _, [], _, _, _, _, _, h, _, _, _ => h.elim

theorem kill_ok : ∀ (ds : List Nat) (D : List Deferred) (ρ : Ren) (h h' : Hp) (w : World), killA ds h = some h' → Marks ρ ds D → Rel P w0 ρ h w → (∀ k ∈ ds, k < 2 ^ 39) → Keeps h h' ∧ ∃ w', Rel P w0 ρ h' w'
  | [], _, ρ, h, h', w, hk, _, hR, _ => by
    simp only [killA, Option.some.injEq] at hk
    subst hk
    exact ⟨Keeps.refl _, w, hR⟩
  | d :: ds, e :: D, ρ, h, h', w, hk, hM, hR, hb => by
    simp only [killA] at hk
    split at hk
    case h_2 => cases hk
    rename_i hg hlo
    simp only [Bool.and_eq_true, decide_eq_true_eq] at hlo
    replace hlo := hlo.1
    obtain ⟨⟨p, hp, he⟩, hM⟩ := hM
    obtain ⟨h1, h2⟩ := hR.turn .dead (.deferred none) hg (by simp) (fun x h => by cases h) (hb d (by simp)) (Nat.ble_eq.mp hlo) hp (fun c E fz e => by cases e) (fun _ => trivial)
    obtain ⟨k3, h3⟩ := kill_ok ds D ρ _ h' _ hk hM h1 (fun k hk => hb k (by simp [hk]))
    exact ⟨h2.trans k3, h3⟩
  | _ :: _, [], _, _, _, _, _, h, _, _ => h.elim

def PrimOk (P : Program) (pr : Prim) : Prop := ∀ f args v, pr f args = some v → args.all (plain 3) = true ∧ plain 3 v = true ∧ ∀ w, Calls P f ⟨args⟩ w fun e w' => e = .returned v ∧ Below w.heap.size w w'

theorem body_ok {r : CF × YF} (ih1 : CFok P r.1) (ih2 : YFok P r.2) {n : Nat} {f : FuncId} {fn : Func} {c : Code} (hfn : P.funcs[f]? = some fn) (hc : fn.body = some c) {args : List Value} {h : Hp} {v : Value} {h' : Hp}
    (e : bodyA P r n fn c args h = some (v, h')) {w0 : World} {ρ : Ren} {w : World} {args' : List Value} (hR : Rel P w0 ρ h w) (hargs : VRs ρ args args') :
    Keeps h h' ∧ Calls P f ⟨args'⟩ w fun e w' => ∃ v' ρ', e = .returned v' ∧ VR ρ' v v' ∧ Ext ρ ρ' ∧ Rel P w0 ρ' h' w' := by
  unfold bodyA at e
  split at e
  · cases e
  rename_i hlen
  simp only [Bool.and_eq_true, decide_eq_true_eq] at hlen
  split at e
  case h_2 => cases e
  rename_i s hrun
  split at e
  case h_2 => cases e
  rename_i hK hkill
  cases hres : resultsA P fn.ntmps ⟨s.1.t, hK⟩ fn.results.toList with
  | none => simp [hres] at e
  | some vs =>
  simp only [hres, Option.map_some, Option.some.injEq, Prod.mk.injEq] at e
  obtain ⟨hv, hh⟩ := e
  subst hh
  obtain ⟨x, hx, hcode⟩ : ∃ x, (x = .norm ∨ x = .ret) ∧ codeA P r.1 r.2 false fn.ntmps n c (⟨fromList 0 args .e, h⟩, []) = some (x, s) := by
    split at hrun
    · rename_i s1 h1; cases hrun; exact ⟨.norm, .inl rfl, h1⟩
    · rename_i s1 h1; cases hrun; exact ⟨.ret, .inr rfl, h1⟩
    · cases hrun
  have hS : StM P w0 fn.ntmps ρ (⟨fromList 0 args .e, h⟩, []) { tmps := ⟨args'⟩ ++ Array.replicate (fn.ntmps - (⟨args'⟩ : Array Value).size) undef, defers := [] } w := ⟨[], trivial, hR, fromList_ok hargs hlen.1 hlen.2, rfl⟩
  obtain ⟨hwp, hk, ρe, ae, we, hee, De, hMe, hSe⟩ := codeA_ok (w0 := w0) (nt := fn.ntmps) (r := none) ih1 ih2 (rd := false) (fun _ => rfl) n c ρ _ s x _ w hS hcode
  have hb39 : ∀ k ∈ s.2, k < 2 ^ 39 := killA_small _ _ _ hkill
  obtain ⟨hk2, _⟩ := kill_ok s.2 De ρe _ _ we hkill hMe hSe.rel hb39
  refine ⟨hk.trans hk2, in_calls (callsIn_of_wp_marks hfn hc trivial (wpIn_mono hwp ?_))⟩
  rintro e a' w' ⟨rfl, ρ', he, D', hM', hS'⟩
  have fin : LeavesInM (Wd none) 0 P fn a'.tmps (fun e w' => ∃ v' ρ', e = .returned v' ∧ VR ρ' v v' ∧ Ext ρ ρ' ∧ Rel P w0 ρ' hK w') a'.defers .returning w' := by
    rw [hS'.defers]
    refine leaves_ok s.2 D' ρ' _ hK w' hkill hM' hS'.rel hb39 fun w2 hR2 => ?_
    obtain ⟨vs', hvs, hrunR⟩ := results_ok (s := ⟨s.1.t, hK⟩) hR2 hS'.tm _ _ hres
    have hresults : (results fn a'.tmps).run P w2 = .ok (packA vs') w2 := by
      have e0 : results fn a'.tmps = (do let vs ← fn.results.mapM (rvar a'.tmps); pure (if h : vs.size = 1 then vs[0] else .tuple vs)) := by
        unfold results
        congr 2
      rw [e0, Array.mapM_eq_mapM_toList]
      simp only [Sem.run_bind, Sem.run_map, hrunR]
      simp only [Result.andThen_ok, Sem.run_pure]
      congr 1
      cases vs' with
      | nil => rfl
      | cons a l => cases l <;> rfl
    have hvv : VR ρ' v (packA vs') := by
      rw [← hv]
      cases hvs with
      | nil => exact .tuple .nil
      | cons a b =>
        cases b with
        | nil => exact a
        | cons b c => exact .tuple (.cons a (.cons b c))
    exact ⟨_, hresults, _, ρ', rfl, hvv, he, hR2⟩
  rcases hx with rfl | rfl
  · exact fin
  · exact fin

def MemOk (P : Program) (m : FuncId → List Value → Hp → Option Value) : Prop := ∀ f args h v, m f args h = some v → plain 3 v = true ∧
  ∀ (w0 : World) (ρ : Ren) (w : World) (args' : List Value), Rel P w0 ρ h w → VRs ρ args args' → Calls P f ⟨args'⟩ w fun e w' => e = .returned v ∧ Below w.heap.size w w'
def KnOk (P : Program) (kn : Known) : Prop := PrimOk P kn.pr ∧ MemOk P kn.mem

theorem allA_ok {kn : Known} (hpr : KnOk P kn) (n : Nat) : ∀ d, CFok P (allA P kn n d).1 ∧ YFok P (allA P kn n d).2
  | 0 => ⟨fun f args h v h' e => by simp [allA] at e, fun l args h v h' e => by simp [allA] at e⟩
  | d + 1 => by
    obtain ⟨ih1, ih2⟩ := allA_ok hpr n d
    refine ⟨?_, round_ok ih1 ih2 n⟩
    intro f args h v h' e w0 ρ w args' hR hargs
    simp only [allA] at e
    split at e
    · rename_i u hu
      simp only [Option.some.injEq, Prod.mk.injEq] at e
      obtain ⟨rfl, rfl⟩ := e
      obtain ⟨h1, h2, h3⟩ := hpr.1 f args u hu
      have : args' = args := plains_eq 3 h1 hargs
      subst this
      refine ⟨Keeps.refl _, (h3 w).mono ?_⟩
      rintro e w' ⟨rfl, hb⟩
      exact ⟨u, ρ, rfl, plain_refl 3 u h2, Ext.refl ρ, hR.step hb⟩
    split at e
    · rename_i u hu
      simp only [Option.some.injEq, Prod.mk.injEq] at e
      obtain ⟨rfl, rfl⟩ := e
      obtain ⟨h2, h3⟩ := hpr.2 f args h u hu
      refine ⟨Keeps.refl _, (h3 w0 ρ w args' hR hargs).mono ?_⟩
      rintro e w' ⟨rfl, hb⟩
      exact ⟨u, ρ, rfl, plain_refl 3 u h2, Ext.refl ρ, hR.step hb⟩
    split at e
    · cases e
    rename_i fn hfn
    split at e
    · cases e
    rename_i c hc
    split at e
    · split at e
      case h_2 => cases e
      rename_i v1 h1 hb
      simp only [Option.some.injEq, Prod.mk.injEq] at e
      obtain ⟨rfl, rfl⟩ := e
      have hRb := hR.rebase 0
      obtain ⟨hk, hcall⟩ := body_ok ih1 ih2 hfn hc hb hRb hargs
      have back : ∀ (ρ' : Ren) (w' : World), Ext ρ ρ' → Rel P w ρ' h1 w' → Rel P w0 ρ' { h1 with lo := h.lo } w' ∧ Keeps h { h1 with lo := h.lo } := fun ρ' w' he hR' =>
        hR.back hR' he hk.lo (fun k hk' => hk.get k hk') hk.stat
      refine ⟨?_, hcall.mono ?_⟩
      · obtain ⟨e, w', fr, ⟨v', ρ', _, _, he, hR'⟩, _⟩ := hcall []
        exact (back ρ' w' he hR').2
      · rintro e w' ⟨v', ρ', rfl, hvv, he, hR'⟩
        exact ⟨v', ρ', rfl, hvv, he, (back ρ' w' he hR').1⟩
    · exact body_ok ih1 ih2 hfn hc e hR hargs

theorem callA_ok {kn : Known} (hpr : KnOk P kn) (n d : Nat) : CFok P (callA P kn n d) := (allA_ok hpr n d).1

theorem rel_empty (P : Program) (w : World) : Rel P w (fun _ => none) Hp.empty w :=
  ⟨Below.refl _ _, (fun _ _ => rfl), (fun k _ => Hp.get_empty k), Nat.le_refl _, (fun k b h => by rw [Hp.get_empty] at h; cases h), (fun _ _ _ _ h => by cases h), (fun _ _ _ _ h => by cases h), (fun _ _ _ _ _ _ _ _ _ h => by cases h)⟩

def saysA (b : Bool) : Option (Value × Hp) → Bool
  | some (.bool x, _) => x == b
  | _ => false

/-- **A CALL WITHOUT ARGUMENTS THAT IS RECKONED: it answers so in whatever world.** -/
theorem closed_call {kn : Known} (hpr : KnOk P kn) {n d : Nat} {f : FuncId} {b : Bool} (h : saysA b (callA P kn n d f [] Hp.empty) = true) (w : World) :
    Calls P f #[] w fun e w' => e = .returned (.bool b) ∧ Below w.heap.size w w' := by
  cases hc : callA P kn n d f [] Hp.empty with
  | none => rw [hc] at h; simp [saysA] at h
  | some r =>
    obtain ⟨v, h'⟩ := r
    rw [hc] at h
    cases v <;> simp [saysA] at h
    subst h
    refine (callA_ok hpr n d f [] Hp.empty _ h' hc w _ w [] (rel_empty P w) .nil).2.mono ?_
    rintro e w' ⟨v', ρ', rfl, hv, _, hR⟩
    exact ⟨by rw [hv.bool_inv], hR.below⟩
end
end Go.Ab
