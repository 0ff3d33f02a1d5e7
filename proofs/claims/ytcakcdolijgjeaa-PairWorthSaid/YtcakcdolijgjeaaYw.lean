/- Calls whose tests are told ahead: what was told is left to be shown. -/
import Derived.Test.YtcakcdolijgjeaaYq
namespace Go.Ab
open Go Go.RowKit
/-! ### a region that draws: two states at which the same is listed are left to be shown equal -/
abbrev LS := Array Bool × AS
abbrev Eqs := List (AS × AS)

def putP (x : LS) : List LS → List LS × Eqs
  | [] => ([x], [])
  | y :: l =>
    match y.1.toList == x.1.toList with
    | true => (y :: l, [(y.2, x.2)])
    | false => (match putP x l with | (l', E) => (y :: l', E))

def putsP : List LS → List LS → List LS × Eqs
  | [], l => (l, [])
  | x :: xs, l => (match putP x l with | (l', E) => (match putsP xs l' with | (l2, E2) => (l2, E ++ E2)))

def levelP (P : Program) (cf : CF) (ops : Array Oper) (base : Nat) : List LS → List LS → Option (List LS × Eqs)
  | [], acc => some (acc, [])
  | x :: l, acc =>
    match succC P cf ops base x with
    | some ys => (match putsP ys acc with | (acc', E) => (match levelP P cf ops base l acc' with | some (l', E2) => some (l', E ++ E2) | none => none))
    | none => none

def drawP (P : Program) (cf : CF) (ops : Array Oper) (base : Nat) : Nat → List LS → Option (AS × Eqs)
  | 0, l => (match l with | [x] => (match Region.ready .any ops x.1 with | [] => some (x.2, []) | _ => none) | _ => none)
  | f + 1, l => (match levelP P cf ops base l [] with | some (l', E) => (match drawP P cf ops base f l' with | some (s, E2) => some (s, E ++ E2) | none => none) | none => none)

def Holds (E : Eqs) : Prop := ∀ p ∈ E, p.1 = p.2
theorem Holds.left {E F : Eqs} (h : Holds (E ++ F)) : Holds E := fun p hp => h p (List.mem_append_left _ hp)
theorem Holds.right {E F : Eqs} (h : Holds (E ++ F)) : Holds F := fun p hp => h p (List.mem_append_right _ hp)

def CovP (l : List LS) (x : LS) : Prop := ∃ y ∈ l, y.1 = x.1 ∧ y.2 = x.2
theorem CovP.mono {l l' : List LS} (h : ∀ z ∈ l, z ∈ l') {x : LS} (c : CovP l x) : CovP l' x := by
  obtain ⟨y, hy, r⟩ := c
  exact ⟨y, h y hy, r⟩

theorem putP_spec {x : LS} : ∀ {l l' : List LS} {E : Eqs}, putP x l = (l', E) → Holds E → (∀ z ∈ l, z ∈ l') ∧ CovP l' x ∧ ∀ z ∈ l', z ∈ l ∨ z = x
  | [], l', E, h, hE => by
    simp [putP] at h
    obtain ⟨rfl, rfl⟩ := h
    exact ⟨fun z hz => by simp at hz, ⟨x, by simp, rfl, rfl⟩, fun z hz => .inr (by simpa using hz)⟩
  | y :: l, l', E, h, hE => by
    unfold putP at h
    split at h
    · rename_i he
      cases h
      refine ⟨fun z hz => hz, ⟨y, by simp, Array.toList_inj.1 (eq_of_beq he), hE (y.2, x.2) (by simp)⟩, fun z hz => .inl hz⟩
    · cases hp : putP x l with
      | mk l1 E1 =>
        rw [hp] at h
        cases h
        obtain ⟨a, ⟨u, hu, b⟩, c⟩ := putP_spec hp hE
        refine ⟨fun z hz => ?_, ⟨u, by simp [hu], b⟩, fun z hz => ?_⟩
        · rcases List.mem_cons.1 hz with rfl | hz
          · simp
          · simp [a z hz]
        · rcases List.mem_cons.1 hz with rfl | hz
          · exact .inl (by simp)
          · rcases c z hz with h | h
            · exact .inl (by simp [h])
            · exact .inr h

theorem putsP_spec : ∀ {xs l l' : List LS} {E : Eqs}, putsP xs l = (l', E) → Holds E → (∀ z ∈ l, z ∈ l') ∧ (∀ x ∈ xs, CovP l' x) ∧ ∀ z ∈ l', z ∈ l ∨ z ∈ xs
  | [], l, l', E, h, hE => by
    simp [putsP] at h
    obtain ⟨rfl, rfl⟩ := h
    exact ⟨fun z hz => hz, fun x hx => by simp at hx, fun z hz => .inl hz⟩
  | x :: xs, l, l', E, h, hE => by
    unfold putsP at h
    cases hp : putP x l with
    | mk l1 E1 =>
      simp only [hp] at h
      cases hp2 : putsP xs l1 with
      | mk l2 E2 =>
        simp only [hp2] at h
        cases h
        obtain ⟨a, b, c⟩ := putP_spec hp hE.left
        obtain ⟨a2, b2, c2⟩ := putsP_spec hp2 hE.right
        refine ⟨fun z hz => a2 z (a z hz), fun y hy => ?_, fun z hz => ?_⟩
        · rcases List.mem_cons.1 hy with rfl | hy
          · exact b.mono a2
          · exact b2 y hy
        · rcases c2 z hz with h | h
          · rcases c z h with h | h
            · exact .inl h
            · exact .inr (by simp [h])
          · exact .inr (by simp [h])

theorem levelP_spec {P : Program} {cf : CF} {ops : Array Oper} {base : Nat} : ∀ {l acc l' : List LS} {E : Eqs}, levelP P cf ops base l acc = some (l', E) → Holds E →
    (∀ z ∈ acc, z ∈ l') ∧ (∀ x ∈ l, ∃ ys, succC P cf ops base x = some ys ∧ ∀ y ∈ ys, CovP l' y) ∧ ∀ z ∈ l', z ∈ acc ∨ ∃ x ∈ l, ∃ ys, succC P cf ops base x = some ys ∧ z ∈ ys
  | [], acc, l', E, h, hE => by
    simp [levelP] at h
    obtain ⟨rfl, rfl⟩ := h
    exact ⟨fun z hz => hz, fun x hx => by simp at hx, fun z hz => .inl hz⟩
  | x :: l, acc, l', E, h, hE => by
    unfold levelP at h
    split at h
    · rename_i ys hy
      cases hp : putsP ys acc with
      | mk acc1 E1 =>
        simp only [hp] at h
        cases hl : levelP P cf ops base l acc1 with
        | none => rw [hl] at h; cases h
        | some r =>
          obtain ⟨l2, E2⟩ := r
          rw [hl] at h
          cases h
          obtain ⟨a, b, c⟩ := putsP_spec hp hE.left
          obtain ⟨a2, b2, c2⟩ := levelP_spec hl hE.right
          refine ⟨fun z hz => a2 z (a z hz), fun y hyl => ?_, fun z hz => ?_⟩
          · rcases List.mem_cons.1 hyl with rfl | hyl
            · exact ⟨ys, hy, fun u hu => (b u hu).mono a2⟩
            · exact b2 y hyl
          · rcases c2 z hz with h | ⟨u, hu, r⟩
            · rcases c z h with h | h
              · exact .inl h
              · exact .inr ⟨x, by simp, ys, hy, h⟩
            · exact .inr ⟨u, by simp [hu], r⟩
    · cases h

section
variable {P : Program} {w0 : World} {D : List Deferred} {nt : Nat}
theorem levelP_inv {cf : CF} (hcf : CFok P cf) {ops : Array Oper} {base : Nat} {ρ0 : Ren} {H : Hp} (hok : okOps nt ops = true) {l l' : List LS} {E : Eqs} (hl : ∀ x ∈ l, Inv P w0 D nt ρ0 H x) (h : levelP P cf ops base l [] = some (l', E)) (hE : Holds E) : ∀ x ∈ l', Inv P w0 D nt ρ0 H x := by
  intro x hx
  rcases (levelP_spec h hE).2.2 x hx with hx | ⟨u, hu, ys, hy, hm⟩
  · simp at hx
  · exact succC_inv hcf hok (hl u hu) hy x hm

theorem drawP_some {cf : CF} (hcf : CFok P cf) {ops : Array Oper} {base : Nat} {ρ0 : Ren} {H : Hp} (hok : okOps nt ops = true) : ∀ (f : Nat) (l : List LS) (s' : AS) (E : Eqs), (∀ x ∈ l, Inv P w0 D nt ρ0 H x) → drawP P cf ops base f l = some (s', E) → Holds E →
    Keeps H s'.h ∧ ∃ ρ' a' w', Ext ρ0 ρ' ∧ St P w0 D nt ρ' s' a' w'
  | 0, l, s', E, hl, h, hE => by
    unfold drawP at h
    split at h
    · split at h
      · cases h
        exact hl _ (by simp)
      · cases h
    · cases h
  | f + 1, l, s', E, hl, h, hE => by
    unfold drawP at h
    split at h
    · rename_i l' E1 hl'
      split at h
      · rename_i s2 E2 hd
        cases h
        exact drawP_some hcf hok f l' s' E2 (levelP_inv hcf hok hl hl' hE.left) hd hE.right
      · cases h
    · cases h

theorem drawP_ok {cf : CF} (hcf : CFok P cf) {ops : Array Oper} (hsel : Region.noSelect ops = true) {base : Nat} {ρ0 : Ren} {H : Hp} (hok : okOps nt ops = true) : ∀ (f : Nat) (l : List LS) (s' : AS) (E : Eqs), (∀ x ∈ l, Inv P w0 D nt ρ0 H x) →
    drawP P cf ops base f l = some (s', E) → Holds E → ∀ (L : Array Bool) (s : AS), (L, s) ∈ l → ∀ (ρ : Ren) (a : Act) (w : World), St P w0 D nt ρ s a w → Ext ρ0 ρ → wpAnyH P .any ops (Ends P w0 D nt ρ0 s') (Below w0.heap.size w0) f L a w
  | 0, l, s', E, hl, h, hE0, L, s, hm, ρ, a, w, hS, hE => by
    unfold drawP at h
    split at h
    · split at h
      · rename_i hr
        cases h
        simp at hm
        subst hm
        exact ⟨hr, rfl, ρ, hE, hS⟩
      · cases h
    · cases h
  | f + 1, l, s', E, hl, h, hE0, L, s, hm, ρ, a, w, hS, hE => by
    unfold drawP at h
    split at h
    case h_2 => cases h
    rename_i l' E1 hl'
    split at h
    case h_2 => cases h
    rename_i s2' E2 hd
    cases h
    have hinv := levelP_inv hcf hok hl hl' hE0.left
    obtain ⟨ys, hy, hcov⟩ := (levelP_spec hl' hE0.left).2.1 _ hm
    unfold succC at hy
    simp only at hy
    split at hy
    · cases hy
    rename_i i0 rs hr
    split at hy
    · rename_i j hfind
      have hfind := pick1_some hfind
      have hjm : j ∈ Region.ready .any ops L := by rw [hr]; exact List.mem_of_find?_eq_some hfind
      have hfree : Region.free .any ops L j = true := by
        have := List.find?_some hfind
        simp only [firstA, Bool.and_eq_true] at this
        exact this.1
      split at hy
      · rename_i s2 hq
        cases hy
        obtain ⟨o, v', ho, hyi, hS1, hh⟩ := quickA_ok hS hok hq
        obtain ⟨⟨L1, t⟩, htm, e1, e2⟩ := hcov (L.setIfInBounds j true, s2) (by simp)
        simp only at e1 e2
        subst e1 e2
        exact wpAnyH_take ho hsel hfree (by simpa using hjm) (fun c a w h => by cases h.1) hyi hS.rel.below (drawP_ok hcf hsel hok f l' s' E2 hinv hd hE0.right _ _ htm ρ _ w hS1 hE)
      · cases hy
    · refine wpAnyH_all hr (by simp) fun i hi => ?_
      obtain ⟨y, hym, hye⟩ := (mapM_mem hy).1 i hi
      split at hye
      · rename_i s1 hs1
        cases hye
        refine stepA_ok hcf hS hok hs1 fun a' w' ρ' he hS' => ⟨hS'.rel.below, ?_⟩
        obtain ⟨⟨L1, t⟩, htm, e1, e2⟩ := hcov _ hym
        simp only at e1 e2
        subst e1 e2
        exact drawP_ok hcf hsel hok f l' s' E2 hinv hd hE0.right _ _ htm ρ' a' w' hS' (hE.trans he)
      · cases hye

/-- a region that draws, and what is left to be shown equal -/
def regionP (P : Program) (cf : CF) (nt : Nat) (ops : Array Oper) (s : AS) : Option (AS × Eqs) :=
  match noDefer ops && okOps nt ops with
  | false => none
  | true =>
    match P.follows .mixedOrders && Region.noSelect ops with
    | false => none
    | true =>
      match drawP P cf ops s.h.next ops.size [(Array.replicate ops.size false, ⟨s.t, { s.h with lo := s.h.next, next := s.h.next + ops.size }⟩)] with
      | some (s', E) => some (⟨s'.t, { s'.h with lo := s.h.lo }⟩, E)
      | none => none

theorem regionP_ok {cf : CF} (hcf : CFok P cf) {r : Option Nat} {id : Nat} {ops : Array Oper} {s s' : AS} {E : Eqs} {a : Act} {w : World} {ρ : Ren} (hS : St P w0 D nt ρ s a w) (h : regionP P cf nt ops s = some (s', E)) (hE : Holds E) :
    (Code.region id ops true).wpIn (Wd r) 0 P (Ends P w0 D nt ρ s') a w ∧ Keeps s.h s'.h ∧ ∃ ρ' a' w', Ext ρ ρ' ∧ St P w0 D nt ρ' s' a' w' := by
  unfold regionP at h
  split at h
  case h_1 => cases h
  rename_i hno
  simp only [Bool.and_eq_true] at hno
  obtain ⟨hnd, hok⟩ := hno
  split at h
  case h_1 => cases h
  rename_i hms
  simp only [Bool.and_eq_true] at hms
  split at h
  case h_2 => cases h
  rename_i s1 E1 hd
  cases h
  have hSd : St P w0 D nt ρ s a w.drew := ⟨hS.rel.drew, hS.tm, hS.defers⟩
  have hSb : St P w.drew D nt ρ ⟨s.t, { s.h with lo := s.h.next, next := s.h.next + ops.size }⟩ a w.drew := ⟨hSd.rel.rebase ops.size, hS.tm, hS.defers⟩
  have hin : ∀ x ∈ [(Array.replicate ops.size false, (⟨s.t, { s.h with lo := s.h.next, next := s.h.next + ops.size }⟩ : AS))], Inv P w.drew D nt ρ { s.h with lo := s.h.next, next := s.h.next + ops.size } x := fun x hx => by
    simp at hx
    subst hx
    exact ⟨Keeps.refl _, ρ, a, w.drew, Ext.refl _, hSb⟩
  obtain ⟨hk, ρ1, a1, w1, he1, hS1⟩ := drawP_some hcf hok ops.size _ s1 E hin hd hE
  have hwp := drawP_ok hcf hms.2 hok ops.size _ s1 E hin hd hE _ _ (List.mem_singleton.2 rfl) ρ a w.drew hSb (Ext.refl ρ)
  refine ⟨wpIn_mono (wpIn_region_any hms.1 (wpAny_in hnd (fun ⟨_, _, hx⟩ => by cases hx.1) _ _ _ _ (wpAny_of_held _ _ _ _ hwp))) fun e a2 w2 h => ?_, ?_⟩
  · obtain ⟨rfl, ρ2, he, hS2⟩ := h
    exact ⟨rfl, ρ2, he, (region_back hSd hS2 he hk).1⟩
  · obtain ⟨x, y⟩ := region_back hSd hS1 he1 hk
    exact ⟨y, ρ1, a1, w1, he1, x⟩
end

/-- a frame's state, the tests told, and what was told of the ones behind -/
structure OS where
  s : CS
  o : List Bool
  ob : List (Value × Bool)
  eq : Eqs
def OS.Ok (x : OS) : Prop := (∀ p ∈ x.ob, p.1 = .bool p.2) ∧ Holds x.eq

def iterO (f : OS → Option (Ex × OS)) : Nat → OS → Option (Ex × OS)
  | 0, _ => none
  | n + 1, s =>
    match f s with
    | some (.norm, s') => iterO f n s'
    | r => r

def condO (nt : Nat) (c : Operand) (f g : OS → Option (Ex × OS)) (s : OS) : Option (Ex × OS) :=
  match okOpd nt c with
  | true => (match s.o with
    | true :: o => f ⟨s.s, o, (aev s.s.1.t c, true) :: s.ob, s.eq⟩
    | false :: o => g ⟨s.s, o, (aev s.s.1.t c, false) :: s.ob, s.eq⟩
    | [] => none)
  | false => none

/-- a region: one that draws and lays memory leaves its states to be shown equal -/
def regO (P : Program) (cf : CF) (yf : YF) (nt n : Nat) (id : Nat) (ops : Array Oper) (draw : Bool) (s : OS) : Option (Ex × OS) :=
  match draw && !(Region.lexB .any ops && ops.toList.all mayQuick) with
  | true => (match regionP P cf nt ops s.s.1 with | some (s', E) => some (.norm, ⟨(s', s.s.2), s.o, s.ob, E ++ s.eq⟩) | none => none)
  | false => (codeA P cf yf false nt n (.region id ops draw) s.s).map fun r => (r.1, ⟨r.2, s.o, s.ob, s.eq⟩)

def codeO (P : Program) (cf : CF) (yf : YF) (nt n : Nat) : Code → OS → Option (Ex × OS)
  | .skip, s => some (.norm, s)
  | .region id ops draw, s => regO P cf yf nt n id ops draw s
  | .seq a b, s =>
    match codeO P cf yf nt n a s with
    | some (.norm, s') => codeO P cf yf nt n b s'
    | r => r
  | .cond c x y, s => condO nt c (codeO P cf yf nt n x) (codeO P cf yf nt n y) s
  | .block id body, s =>
    match codeO P cf yf nt n body s with
    | some (.exit j, s') => if j = id then some (.norm, s') else some (.exit j, s')
    | r => r
  | .loop body, s => iterO (codeO P cf yf nt n body) n s
  | .exit id, s => some (.exit id, s)
  | .ret, s => some (.ret, s)
  | _, _ => none

section
variable {P : Program} {w0 : World} {nt : Nat}
def GoodO (P : Program) (w0 : World) (nt : Nat) (c : Code) (f : OS → Option (Ex × OS)) : Prop := ∀ (s s' : OS) (x : Ex), f s = some (x, s') → s'.Ok → s.Ok ∧ ∀ (ρ : Ren) (a : Act) (w : World), StM P w0 nt ρ s.s a w →
  c.wpIn (Wd none) 0 P (EndsC P w0 nt ρ x s'.s) a w ∧ Keeps s.s.1.h s'.s.1.h ∧ ∃ ρ' a' w', Ext ρ ρ' ∧ StM P w0 nt ρ' s'.s a' w'

theorem goodO_seq {a b : Code} {f g : OS → Option (Ex × OS)} (ha : GoodO P w0 nt a f) (hb : GoodO P w0 nt b g) : GoodO P w0 nt (.seq a b) (fun s => match f s with | some (.norm, s') => g s' | r => r) := by
  intro s s' x h hO
  simp only [] at h
  split at h
  · rename_i s1 h1
    obtain ⟨hO1, hb1⟩ := hb s1 s' x h hO
    obtain ⟨hO0, ha1⟩ := ha s s1 .norm h1 hO1
    refine ⟨hO0, fun ρ ac w hS => ?_⟩
    obtain ⟨w1, k1, ρ1, a1, w1', e1, S1⟩ := ha1 ρ ac w hS
    obtain ⟨_, k2, ρ2, a2, w2, e2, S2⟩ := hb1 ρ1 a1 w1' S1
    refine ⟨wpIn_seq (wpIn_mono w1 fun e a' w' hq => ?_), k1.trans k2, ρ2, a2, w2, e1.trans e2, S2⟩
    obtain ⟨rfl, ρ', he, hS'⟩ := hq
    obtain ⟨hw, _⟩ := hb1 ρ' a' w' hS'
    exact wpIn_mono hw fun e a2 w2 ⟨h1, ρ2, h2, h3⟩ => ⟨h1, ρ2, he.trans h2, h3⟩
  · rename_i hne
    obtain ⟨hO0, ha1⟩ := ha s s' x h hO
    refine ⟨hO0, fun ρ ac w hS => ?_⟩
    obtain ⟨w1, k1, hx⟩ := ha1 ρ ac w hS
    refine ⟨wpIn_seq (wpIn_mono w1 fun e a' w' hq => ?_), k1, hx⟩
    obtain ⟨rfl, hq⟩ := hq
    cases x with
    | norm => exact absurd h (hne s')
    | exit id => exact ⟨rfl, hq⟩
    | ret => exact ⟨rfl, hq⟩

theorem goodO_block {id : Nat} {c : Code} {f : OS → Option (Ex × OS)} (hc : GoodO P w0 nt c f) : GoodO P w0 nt (.block id c) (fun s => match f s with | some (.exit j, s') => if j = id then some (.norm, s') else some (.exit j, s') | r => r) := by
  intro s s' x h hO
  simp only [] at h
  split at h
  · rename_i j s1 h1
    split at h
    · rename_i e
      cases h
      obtain ⟨hO0, hc1⟩ := hc s s' (.exit j) h1 hO
      refine ⟨hO0, fun ρ ac w hS => ?_⟩
      obtain ⟨w1, k1, hx⟩ := hc1 ρ ac w hS
      refine ⟨wpIn_block (wpIn_mono w1 fun e' a' w' hq => ?_), k1, hx⟩
      obtain ⟨rfl, hq⟩ := hq
      show Exit.inBlock id _ (Exit.exit j) a' w'
      simp only [Exit.inBlock, e, if_true]
      exact ⟨rfl, hq⟩
    · rename_i e
      cases h
      obtain ⟨hO0, hc1⟩ := hc s s' (.exit j) h1 hO
      refine ⟨hO0, fun ρ ac w hS => ?_⟩
      obtain ⟨w1, k1, hx⟩ := hc1 ρ ac w hS
      refine ⟨wpIn_block (wpIn_mono w1 fun e' a' w' hq => ?_), k1, hx⟩
      obtain ⟨rfl, hq⟩ := hq
      show Exit.inBlock id _ (Exit.exit j) a' w'
      simp only [Exit.inBlock, e, if_false]
      exact ⟨rfl, hq⟩
  · rename_i hne
    obtain ⟨hO0, hc1⟩ := hc s s' x h hO
    refine ⟨hO0, fun ρ ac w hS => ?_⟩
    obtain ⟨w1, k1, hx⟩ := hc1 ρ ac w hS
    refine ⟨wpIn_block (wpIn_mono w1 fun e' a' w' hq => ?_), k1, hx⟩
    obtain ⟨rfl, hq⟩ := hq
    cases x with
    | norm => exact ⟨rfl, hq⟩
    | exit j => exact absurd h (hne j s')
    | ret => exact ⟨rfl, hq⟩

theorem goodO_loop {c : Code} {f : OS → Option (Ex × OS)} (hc : GoodO P w0 nt c f) (n : Nat) : GoodO P w0 nt (.loop c) (fun s => iterO f n s) := by
  intro s s' x h hO
  simp only [] at h
  have back : ∀ (n : Nat) (s : OS), iterO f n s = some (x, s') → s.Ok := by
    intro n
    induction n with
    | zero => intro s h; simp [iterO] at h
    | succ n ih =>
      intro s h
      simp only [iterO] at h
      split at h
      · rename_i s1 h1
        exact (hc s s1 .norm h1 (ih s1 h)).1
      · exact (hc s s' x h hO).1
  refine ⟨back n s h, fun ρ ac w hS => ?_⟩
  have some : ∀ (n : Nat) (ρ : Ren) (s : OS) (ac : Act) (w : World), StM P w0 nt ρ s.s ac w → iterO f n s = some (x, s') → Keeps s.s.1.h s'.s.1.h ∧ ∃ ρ' a' w', Ext ρ ρ' ∧ StM P w0 nt ρ' s'.s a' w' := by
    intro n
    induction n with
    | zero => intro ρ s ac w _ h; simp [iterO] at h
    | succ n ih =>
      intro ρ s ac w hS h
      simp only [iterO] at h
      split at h
      · rename_i s1 h1
        obtain ⟨_, k1, ρ1, a1, w1, e1, S1⟩ := (hc s s1 .norm h1 (back n s1 h)).2 ρ ac w hS
        obtain ⟨k2, ρ2, a2, w2, e2, S2⟩ := ih ρ1 s1 a1 w1 S1 h
        exact ⟨k1.trans k2, ρ2, a2, w2, e1.trans e2, S2⟩
      · obtain ⟨_, k1, hx⟩ := (hc s s' x h hO).2 ρ ac w hS
        exact ⟨k1, hx⟩
  refine ⟨?_, some n ρ s ac w hS h⟩
  let J : Nat → Act → World → Prop := fun k a w => ∃ s1 ρ1, iterO f k s1 = .some (x, s') ∧ Ext ρ ρ1 ∧ StM P w0 nt ρ1 s1.s a w
  classical
  let μ : Act → World → Nat := fun a w => if h : ∃ k, J k a w then Classical.choose (exists_min h) else 0
  have hmin : ∀ a w (h : ∃ k, J k a w), J (μ a w) a w ∧ ∀ j, J j a w → μ a w ≤ j := fun a w h => by
    have e : μ a w = Classical.choose (exists_min h) := dif_pos h
    rw [e]
    exact Classical.choose_spec (exists_min h)
  refine wpIn_loop (fun a w => ∃ k, J k a w) μ ⟨n, s, ρ, h, Ext.refl ρ, hS⟩ fun a w hI => ?_
  obtain ⟨⟨s1, ρ1, hit, he1, hS1⟩, _⟩ := hmin a w hI
  cases hk : μ a w with
  | zero => rw [hk] at hit; simp [iterO] at hit
  | succ k =>
    rw [hk] at hit
    simp only [iterO] at hit
    split at hit
    · rename_i s2 h2
      obtain ⟨hw, _⟩ := (hc s1 s2 .norm h2 (back k s2 hit)).2 ρ1 a w hS1
      refine wpIn_mono hw fun e a' w' hq => ?_
      obtain ⟨rfl, ρ2, he2, hS2⟩ := hq
      have hJ : J k a' w' := ⟨s2, ρ2, hit, he1.trans he2, hS2⟩
      exact ⟨⟨k, hJ⟩, Nat.lt_of_le_of_lt ((hmin a' w' ⟨k, hJ⟩).2 k hJ) (Nat.lt_succ_self k)⟩
    · rename_i hne
      obtain ⟨hw, _⟩ := (hc s1 s' x hit hO).2 ρ1 a w hS1
      refine wpIn_mono hw fun e a' w' hq => ?_
      obtain ⟨rfl, ρ2, he2, hS2⟩ := hq
      cases x with
      | norm => exact absurd hit (hne s')
      | exit id => exact ⟨rfl, ρ2, he1.trans he2, hS2⟩
      | ret => exact ⟨rfl, ρ2, he1.trans he2, hS2⟩

theorem goodO_cond {c : Operand} {x y : Code} {f g : OS → Option (Ex × OS)} (hx : GoodO P w0 nt x f) (hy : GoodO P w0 nt y g) : GoodO P w0 nt (.cond c x y) (condO nt c f g) := by
  intro s s' ex h hO
  unfold condO at h
  split at h
  case h_2 => cases h
  rename_i hok
  have hv : ∀ (ρ : Ren) (a : Act) (w : World), StM P w0 nt ρ s.s a w → VR ρ (aev s.s.1.t c) (a.eval c) := fun ρ a w hS => by
    obtain ⟨D, _, hS⟩ := hS
    cases c with
    | tmp i => exact hS.tm.2 i (by simpa [okOpd] using hok)
    | const v => exact plain_refl 3 v hok
    | global g => simp [okOpd] at hok
    | func f => exact .func _ rfl .nil .nil
  split at h
  · obtain ⟨hO1, h1⟩ := hx _ s' ex h hO
    refine ⟨⟨fun p hp => hO1.1 p (List.mem_cons_of_mem _ hp), hO1.2⟩, fun ρ a w hS => ?_⟩
    have hb : aev s.s.1.t c = .bool true := hO1.1 (aev s.s.1.t c, true) (List.mem_cons_self ..)
    have hv := hv ρ a w hS
    rw [hb] at hv
    obtain ⟨h2, h3⟩ := h1 ρ a w hS
    exact ⟨wpIn_cond_true hv.bool_inv h2, h3⟩
  · obtain ⟨hO1, h1⟩ := hy _ s' ex h hO
    refine ⟨⟨fun p hp => hO1.1 p (List.mem_cons_of_mem _ hp), hO1.2⟩, fun ρ a w hS => ?_⟩
    have hb : aev s.s.1.t c = .bool false := hO1.1 (aev s.s.1.t c, false) (List.mem_cons_self ..)
    have hv := hv ρ a w hS
    rw [hb] at hv
    obtain ⟨h2, h3⟩ := h1 ρ a w hS
    exact ⟨wpIn_cond_false hv.bool_inv h2, h3⟩
  · cases h

theorem codeO_ok {cf : CF} {yf : YF} (hcf : CFok P cf) (hyf : YFok P yf) (n : Nat) : ∀ c : Code, GoodO P w0 nt c (codeO P cf yf nt n c)
  | .skip => fun s s' x h hO => by
    simp [codeO] at h; obtain ⟨rfl, rfl⟩ := h
    exact ⟨hO, fun ρ a w hS => ⟨wpIn_skip ⟨rfl, ρ, Ext.refl ρ, hS⟩, Keeps.refl _, ρ, a, w, Ext.refl ρ, hS⟩⟩
  | .region id ops draw => fun s s' x h hO => by
    simp only [codeO] at h
    unfold regO at h
    split at h
    · rename_i hd
      simp only [Bool.and_eq_true] at hd
      obtain rfl := hd.1
      split at h
      · rename_i s1 E h1
        cases h
        refine ⟨⟨hO.1, hO.2.right⟩, fun ρ a w hS => ?_⟩
        obtain ⟨D, hM, hS⟩ := hS
        obtain ⟨h1, h2, ρ', a', w', he, hS'⟩ := regionP_ok hcf (r := none) (id := id) hS h1 hO.2.left
        refine ⟨wpIn_mono h1 ?_, h2, ρ', a', w', he, D, hM.ext he, hS'⟩
        rintro e a w ⟨h1, ρ2, he2, hS2⟩
        exact ⟨h1, ρ2, he2, D, hM.ext he2, hS2⟩
      · cases h
    · cases hr : codeA P cf yf false nt n (.region id ops draw) s.s with
      | none => simp [hr] at h
      | some r =>
        simp only [hr, Option.map_some, Option.some.injEq, Prod.mk.injEq] at h
        obtain ⟨rfl, rfl⟩ := h
        exact ⟨hO, fun ρ a w hS => codeA_ok hcf hyf (fun _ => rfl) n (.region id ops draw) ρ s.s r.2 r.1 a w hS hr⟩
  | .seq a b => goodO_seq (codeO_ok hcf hyf n a) (codeO_ok hcf hyf n b)
  | .cond c x y => goodO_cond (codeO_ok hcf hyf n x) (codeO_ok hcf hyf n y)
  | .block id c => goodO_block (codeO_ok hcf hyf n c)
  | .loop c => goodO_loop (codeO_ok hcf hyf n c) n
  | .exit id => fun s s' x h hO => by
    simp [codeO] at h; obtain ⟨rfl, rfl⟩ := h
    exact ⟨hO, fun ρ a w hS => ⟨wpIn_exit ⟨rfl, ρ, Ext.refl ρ, hS⟩, Keeps.refl _, ρ, a, w, Ext.refl ρ, hS⟩⟩
  | .ret => fun s s' x h hO => by
    simp [codeO] at h; obtain ⟨rfl, rfl⟩ := h
    exact ⟨hO, fun ρ a w hS => ⟨wpIn_ret ⟨rfl, ρ, Ext.refl ρ, hS⟩, Keeps.refl _, ρ, a, w, Ext.refl ρ, hS⟩⟩
  | .label _ => fun s s' x h hO => by simp [codeO] at h
  | .rangeFunc _ _ _ _ => fun s s' x h hO => by simp [codeO] at h
  | .scope _ => fun s s' x h hO => by simp [codeO] at h
  | .goto _ => fun s s' x h hO => by simp [codeO] at h
  | .refuse _ => fun s s' x h hO => by simp [codeO] at h

def bodyO (P : Program) (r : CF × YF) (n : Nat) (fn : Func) (c : Code) (args : List Value) (o : List Bool) : Option (Value × List (Value × Bool) × Eqs) :=
  match decide (args.length ≤ fn.ntmps) && decide (fn.ntmps ≤ 2 ^ 15) with
  | false => none
  | true =>
  match (match codeO P r.1 r.2 fn.ntmps n c ⟨(⟨fromList 0 args .e, Hp.empty⟩, []), o, [], []⟩ with
    | some (.norm, s) => some s
    | some (.ret, s) => some s
    | _ => none) with
  | some s => (match killA s.s.2 s.s.1.h with | some h' => (resultsA P fn.ntmps ⟨s.s.1.t, h'⟩ fn.results.toList).map fun vs => (packA vs, s.ob, s.eq) | none => none)
  | none => none

/-- a call with plain arguments whose tests are told -/
def callO (P : Program) (kn : Known) (n d : Nat) (f : FuncId) (args : List Value) (o : List Bool) : Option (Value × List (Value × Bool) × Eqs) :=
  match P.funcs[f]? with
  | none => none
  | some fn => (match fn.body with
    | none => none
    | some c => bodyO P (allA P kn n d) n fn c args o)

theorem callO_ok {kn : Known} (hpr : KnOk P kn) {n d : Nat} {f : FuncId} {args : List Value} {o : List Bool} {v : Value} {ob : List (Value × Bool)} {E : Eqs} (ha : args.all (plain 3) = true) (hv : plain 3 v = true)
    (h : callO P kn n d f args o = some (v, ob, E)) (hob : ∀ p ∈ ob, p.1 = .bool p.2) (hE : Holds E) (w : World) : Calls P f ⟨args⟩ w fun e w' => e = .returned v ∧ Below w.heap.size w w' := by
  unfold callO at h
  split at h
  · cases h
  rename_i fn hfn
  split at h
  · cases h
  rename_i c hc
  unfold bodyO at h
  split at h
  · cases h
  rename_i hlen
  simp only [Bool.and_eq_true, decide_eq_true_eq] at hlen
  split at h
  case h_2 => cases h
  rename_i s hrun
  split at h
  case h_2 => cases h
  rename_i hK hkill
  cases hres : resultsA P fn.ntmps ⟨s.s.1.t, hK⟩ fn.results.toList with
  | none => simp [hres] at h
  | some vs =>
  simp only [hres, Option.map_some, Option.some.injEq, Prod.mk.injEq] at h
  obtain ⟨hvv0, hob', hE'⟩ := h
  obtain ⟨ih1, ih2⟩ := allA_ok hpr n d
  obtain ⟨x, hx, hcode⟩ : ∃ x, (x = .norm ∨ x = .ret) ∧ codeO P (allA P kn n d).1 (allA P kn n d).2 fn.ntmps n c ⟨(⟨fromList 0 args .e, Hp.empty⟩, []), o, [], []⟩ = some (x, s) := by
    split at hrun
    · rename_i s1 h1; cases hrun; exact ⟨.norm, .inl rfl, h1⟩
    · rename_i s1 h1; cases hrun; exact ⟨.ret, .inr rfl, h1⟩
    · cases hrun
  have hargs : VRs (fun _ => none) args args := VRs.of_all (fun v h => plain_refl 3 v h) args ha
  have hS : StM P w fn.ntmps (fun _ => none) (⟨fromList 0 args .e, Hp.empty⟩, []) { tmps := ⟨args⟩ ++ Array.replicate (fn.ntmps - (⟨args⟩ : Array Value).size) undef, defers := [] } w := ⟨[], trivial, rel_empty P w, fromList_ok hargs hlen.1 hlen.2, rfl⟩
  obtain ⟨hwp, hk, ρe, ae, we, hee, De, hMe, hSe⟩ := (codeO_ok (w0 := w) (nt := fn.ntmps) ih1 ih2 n c _ s x hcode ⟨by intro p hp; rw [hob'] at hp; exact hob p hp, by rw [hE']; exact hE⟩).2 _ _ _ hS
  have hb39 : ∀ k ∈ s.s.2, k < 2 ^ 39 := killA_small _ _ _ hkill
  refine in_calls (callsIn_of_wp_marks hfn hc trivial (wpIn_mono hwp ?_))
  rintro e a' w' ⟨rfl, ρ', he, D', hM', hS'⟩
  have fin : LeavesInM (Wd none) 0 P fn a'.tmps (fun e w' => e = .returned v ∧ Below w.heap.size w w') a'.defers .returning w' := by
    rw [hS'.defers]
    refine leaves_ok s.s.2 D' ρ' _ hK w' hkill hM' hS'.rel hb39 fun w2 hR2 => ?_
    obtain ⟨vs', hvs, hrunR⟩ := results_ok (s := ⟨s.s.1.t, hK⟩) hR2 hS'.tm _ _ hres
    have hresults : (results fn a'.tmps).run P w2 = .ok (packA vs') w2 := by
      have e0 : results fn a'.tmps = (do let vs ← fn.results.mapM (rvar a'.tmps); pure (if h : vs.size = 1 then vs[0] else .tuple vs)) := by
        unfold results
        congr 2
      rw [e0, Array.mapM_eq_mapM_toList]
      simp only [Sem.run_bind, Sem.run_map, hrunR]
      simp only [Result.andThen_ok, Sem.run_pure]
      congr 1
      cases vs' with
      | nil => rfl
      | cons a l => cases l <;> rfl
    have hvv : VR ρ' v (packA vs') := by
      rw [← hvv0]
      cases hvs with
      | nil => exact .tuple .nil
      | cons a b =>
        cases b with
        | nil => exact a
        | cons b c => exact .tuple (.cons a (.cons b c))
    exact ⟨_, hresults, by rw [plain_eq 3 hv hvv], hR2.below⟩
  rcases hx with rfl | rfl
  · exact fin
  · exact fin
/-- a call that was reckoned so, its answer and what was told written out; what was to be shown equal is shown by its reckoning -/
def reckons (r : Option (Value × List (Value × Bool) × Eqs)) (v : Value) (ob : List (Value × Bool)) : Prop := r = some (v, ob, match r with | some x => x.2.2.map fun p => (p.1, p.1) | none => [])
theorem told_call {kn : Known} (hpr : KnOk P kn) {n d : Nat} {f : FuncId} {args : List Value} {o : List Bool} {v : Value} {ob : List (Value × Bool)} (ha : args.all (plain 3) = true) (hv : plain 3 v = true)
    (h : reckons (callO P kn n d f args o) v ob) (hob : ∀ p ∈ ob, p.1 = .bool p.2) (w : World) : Calls P f ⟨args⟩ w fun e w' => e = .returned v ∧ Below w.heap.size w w' := by
  refine callO_ok hpr ha hv h hob ?_ w
  intro p hp
  split at hp
  · obtain ⟨q, _, rfl⟩ := List.mem_map.1 hp
    rfl
  · simp at hp
end
end Go.Ab
