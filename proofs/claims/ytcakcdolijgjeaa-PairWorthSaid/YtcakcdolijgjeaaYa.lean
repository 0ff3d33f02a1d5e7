/- An abstract reading of memory, over which a closed call is reckoned: values, renamings, the heap. The relation between an abstract heap and a world. The operations over the abstract heap. Regions, code, calls over the abstract heap. -/
import Derived.Calls
import Derived.Below
import Derived.Laws.Sem
import Derived.Laws.World
import Derived.OrdersHeld
import Derived.Still
namespace Go.Ab
open Go Go.RowKit

/-- where an abstract block lies: the real block, how far its cells are shifted there; of a row whose end is open: the cells of an element, the abstract end, the real end -/
structure Place where
  real : Nat
  shift : Nat
  tl : Option (Nat × Nat × Nat)

abbrev Ren := Nat → Option Place

def AR (ρ : Ren) (a a' : Addr) : Prop :=
  a.spot = none ∧ a'.spot = none ∧ ∃ p, ρ a.block = some p ∧ a'.block = p.real ∧ a'.off = a.off + p.shift

def CapOk (ρ : Ren) (a a' : Addr) (c c' : Nat) : Prop :=
  c' = c ∨ ∃ p es N M, ρ a.block = some p ∧ p.tl = some (es, N, M) ∧ a.off + c * es = N ∧ a'.off + c' * es = M ∧ c ≤ c'

/-- a function's value that names no loop -/
def named : Fn → Bool
  | .yield _ => false
  | _ => true

mutual
inductive VR (ρ : Ren) : Value → Value → Prop
  | bool (b) : VR ρ (.bool b) (.bool b)
  | int (k n) : VR ρ (.int k n) (.int k n)
  | float (k n) : VR ρ (.float k n) (.float k n)
  | complex (k n m) : VR ρ (.complex k n m) (.complex k n m)
  | string (s) : VR ρ (.string s) (.string s)
  | ptr0 : VR ρ (.pointer none) (.pointer none)
  | ptr {a a'} : AR ρ a a' → VR ρ (.pointer (some a)) (.pointer (some a'))
  | sl0 (n c) : VR ρ (.slice none n c) (.slice none n c)
  | sl {a a' n c c'} : AR ρ a a' → CapOk ρ a a' c c' → VR ρ (.slice (some a) n c) (.slice (some a') n c')
  | sle (a a') : VR ρ (.slice (some a) 0 0) (.slice (some a') 0 0)
  | map0 : VR ρ (.map none) (.map none)
  | map {r p} : ρ r = some p → VR ρ (.map (some r)) (.map (some p.real))
  | func (fn) {f f' c c'} : named fn = true → VRs ρ f f' → VRs ρ c c' → VR ρ (.func fn ⟨f⟩ ⟨c⟩) (.func fn ⟨f'⟩ ⟨c'⟩)
  | yield {l p} : ρ l = some p → VR ρ (.func (.yield l) #[] #[]) (.func (.yield p.real) #[] #[])
  | nilFunc : VR ρ .nilFunc .nilFunc
  | nilIface : VR ρ .nilIface .nilIface
  | iface (t) {v v'} : VR ρ v v' → VR ρ (.iface t v) (.iface t v')
  | agg {c c'} : VRs ρ c c' → VR ρ (.agg ⟨c⟩) (.agg ⟨c'⟩)
  | tuple {c c'} : VRs ρ c c' → VR ρ (.tuple ⟨c⟩) (.tuple ⟨c'⟩)
inductive VRs (ρ : Ren) : List Value → List Value → Prop
  | nil : VRs ρ [] []
  | cons {v v' l l'} : VR ρ v v' → VRs ρ l l' → VRs ρ (v :: l) (v' :: l')
end

/-- no address in it -/
def plain : Nat → Value → Bool
  | _, .bool _ => true
  | _, .int _ _ => true
  | _, .float _ _ => true
  | _, .complex _ _ _ => true
  | _, .string _ => true
  | _, .pointer none => true
  | _, .slice none _ _ => true
  | _, .map none => true
  | _, .nilFunc => true
  | _, .nilIface => true
  | n + 1, .agg cs => cs.toList.all (plain n)
  | n + 1, .tuple cs => cs.toList.all (plain n)
  | n + 1, .iface _ v => plain n v
  | n + 1, .func g f c => named g && (f.toList.all (plain n) && c.toList.all (plain n))
  | _, _ => false

theorem VRs.length {ρ : Ren} : ∀ {l l' : List Value}, VRs ρ l l' → l'.length = l.length
  | _, _, .nil => rfl
  | _, _, .cons _ h => by simp [VRs.length h]

theorem VRs.get {ρ : Ren} : ∀ {l l' : List Value}, VRs ρ l l' → ∀ (i : Nat) (v : Value), l[i]? = some v → ∃ v', l'[i]? = some v' ∧ VR ρ v v'
  | _, _, .nil, i, v, h => by simp at h
  | _, _, .cons (v := x) (v' := x') h hs, i, v, e => by
    cases i with
    | zero => simp at e; subst e; exact ⟨x', by simp, h⟩
    | succ i => simp at e; obtain ⟨v', e', r⟩ := VRs.get hs i v e; exact ⟨v', by simpa using e', r⟩

theorem VRs.of_get {ρ : Ren} : ∀ {l l' : List Value}, l'.length = l.length → (∀ (i : Nat) (v v' : Value), l[i]? = some v → l'[i]? = some v' → VR ρ v v') → VRs ρ l l'
  | [], [], _, _ => .nil
  | [], _ :: _, h, _ => by simp at h
  | _ :: _, [], h, _ => by simp at h
  | x :: l, y :: l', h, hr => .cons (hr 0 x y rfl rfl) (VRs.of_get (by simpa using h) fun i v v' e e' => hr (i + 1) v v' (by simpa using e) (by simpa using e'))

theorem VRs.append {ρ : Ren} : ∀ {l l' m m' : List Value}, VRs ρ l l' → VRs ρ m m' → VRs ρ (l ++ m) (l' ++ m')
  | _, _, _, _, .nil, h => h
  | _, _, _, _, .cons a b, h => .cons a (VRs.append b h)

theorem VRs.take {ρ : Ren} : ∀ {l l' : List Value} (n : Nat), VRs ρ l l' → VRs ρ (l.take n) (l'.take n)
  | _, _, _, .nil => by simp; exact .nil
  | _, _, 0, .cons _ _ => by simp; exact .nil
  | _, _, n + 1, .cons a b => by simp; exact .cons a (VRs.take n b)
theorem VRs.drop {ρ : Ren} : ∀ {l l' : List Value} (n : Nat), VRs ρ l l' → VRs ρ (l.drop n) (l'.drop n)
  | _, _, _, .nil => by simp; exact .nil
  | _, _, 0, .cons a b => by simp; exact .cons a b
  | _, _, n + 1, .cons _ b => by simp; exact VRs.drop n b

theorem VRs.set {ρ : Ren} : ∀ {l l' : List Value} (i : Nat) {v v' : Value}, VRs ρ l l' → VR ρ v v' → VRs ρ (l.set i v) (l'.set i v')
  | _, _, _, _, _, .nil, _ => by simp; exact .nil
  | _, _, 0, _, _, .cons _ b, h => by simp; exact .cons h b
  | _, _, i + 1, _, _, .cons a b, h => by simp; exact .cons a (VRs.set i b h)

theorem VRs.replicate {ρ : Ren} {v v' : Value} (h : VR ρ v v') : ∀ n, VRs ρ (List.replicate n v) (List.replicate n v')
  | 0 => .nil
  | n + 1 => by simp only [List.replicate_succ]; exact .cons h (VRs.replicate h n)

mutual
theorem plain_eq {ρ : Ren} : ∀ {v v' : Value} (n : Nat), plain n v = true → VR ρ v v' → v' = v
  | _, _, n, hp, .bool _ => rfl
  | _, _, n, hp, .int _ _ => rfl
  | _, _, n, hp, .float _ _ => rfl
  | _, _, n, hp, .complex _ _ _ => rfl
  | _, _, n, hp, .string _ => rfl
  | _, _, n, hp, .ptr0 => rfl
  | _, _, n, hp, .ptr _ => by cases n <;> simp [plain] at hp
  | _, _, n, hp, .sl0 _ _ => rfl
  | _, _, n, hp, .sl _ _ => by cases n <;> simp [plain] at hp
  | _, _, n, hp, .sle _ _ => by cases n <;> simp [plain] at hp
  | _, _, n, hp, .map0 => rfl
  | _, _, n, hp, .map _ => by cases n <;> simp [plain] at hp
  | _, _, n, hp, .nilFunc => rfl
  | _, _, n, hp, .nilIface => rfl
  | _, _, 0, hp, .func _ _ _ _ => by simp [plain] at hp
  | _, _, n + 1, hp, .func _ _ a b => by simp only [plain, Bool.and_eq_true] at hp; rw [plains_eq n hp.2.1 a, plains_eq n hp.2.2 b]
  | _, _, n, hp, .yield _ => by cases n <;> simp [plain, named] at hp
  | _, _, 0, hp, .iface _ _ => by simp [plain] at hp
  | _, _, n + 1, hp, .iface _ a => by simp only [plain] at hp; rw [plain_eq n hp a]
  | _, _, 0, hp, .agg _ => by simp [plain] at hp
  | _, _, n + 1, hp, .agg a => by simp only [plain] at hp; rw [plains_eq n hp a]
  | _, _, 0, hp, .tuple _ => by simp [plain] at hp
  | _, _, n + 1, hp, .tuple a => by simp only [plain] at hp; rw [plains_eq n hp a]
theorem plains_eq {ρ : Ren} : ∀ {l l' : List Value} (n : Nat), l.all (plain n) = true → VRs ρ l l' → l' = l
  | _, _, _, _, .nil => rfl
  | _, _, n, hp, .cons a b => by simp only [List.all_cons, Bool.and_eq_true] at hp; rw [plain_eq n hp.1 a, plains_eq n hp.2 b]
end

theorem VRs.of_all {ρ : Ren} {p : Value → Bool} (h : ∀ v, p v = true → VR ρ v v) : ∀ (l : List Value), l.all p = true → VRs ρ l l
  | [], _ => .nil
  | x :: l, hl => by simp only [List.all_cons, Bool.and_eq_true] at hl; exact .cons (h x hl.1) (VRs.of_all h l hl.2)

theorem plain_refl {ρ : Ren} : ∀ (n : Nat) (v : Value), plain n v = true → VR ρ v v := by
  intro n
  induction n with
  | zero =>
    intro v h
    cases v with
    | bool b => exact .bool b
    | int k m => exact .int k m
    | float k m => exact .float k m
    | complex k a b => exact .complex k a b
    | string s => exact .string s
    | pointer a => cases a with | none => exact .ptr0 | some a => simp [plain] at h
    | slice a m c => cases a with | none => exact .sl0 m c | some a => simp [plain] at h
    | map r => cases r with | none => exact .map0 | some a => simp [plain] at h
    | chan r => simp [plain] at h
    | func fn f c => simp [plain] at h
    | nilFunc => exact .nilFunc
    | iface t v => simp [plain] at h
    | nilIface => exact .nilIface
    | agg cs => simp [plain] at h
    | tuple cs => simp [plain] at h
  | succ n ih =>
    intro v h
    cases v with
    | bool b => exact .bool b
    | int k m => exact .int k m
    | float k m => exact .float k m
    | complex k a b => exact .complex k a b
    | string s => exact .string s
    | pointer a => cases a with | none => exact .ptr0 | some a => simp [plain] at h
    | slice a m c => cases a with | none => exact .sl0 m c | some a => simp [plain] at h
    | map r => cases r with | none => exact .map0 | some a => simp [plain] at h
    | chan r => simp [plain] at h
    | func fn f c => simp only [plain, Bool.and_eq_true] at h; exact .func fn h.1 (VRs.of_all ih _ h.2.1) (VRs.of_all ih _ h.2.2)
    | nilFunc => exact .nilFunc
    | iface t v => simp only [plain] at h; exact .iface t (ih v h)
    | nilIface => exact .nilIface
    | agg cs => simp only [plain] at h; exact .agg (VRs.of_all ih _ h)
    | tuple cs => simp only [plain] at h; exact .tuple (VRs.of_all ih _ h)

def Ext (ρ ρ' : Ren) : Prop := ∀ k p, ρ k = some p → ρ' k = some p
theorem Ext.refl (ρ : Ren) : Ext ρ ρ := fun _ _ h => h
theorem Ext.trans {a b c : Ren} (h : Ext a b) (k : Ext b c) : Ext a c := fun i p e => k i p (h i p e)

theorem AR.ext {ρ ρ' : Ren} (h : Ext ρ ρ') {a a' : Addr} (r : AR ρ a a') : AR ρ' a a' := by
  obtain ⟨s, s', p, hp, e1, e2⟩ := r
  exact ⟨s, s', p, h _ _ hp, e1, e2⟩
theorem CapOk.ext {ρ ρ' : Ren} (h : Ext ρ ρ') {a a' : Addr} {c c' : Nat} (r : CapOk ρ a a' c c') : CapOk ρ' a a' c c' := by
  rcases r with r | ⟨p, es, N, M, hp, r⟩
  · exact .inl r
  · exact .inr ⟨p, es, N, M, h _ _ hp, r⟩
mutual
theorem VR.ext {ρ ρ' : Ren} (h : Ext ρ ρ') : ∀ {v v' : Value}, VR ρ v v' → VR ρ' v v'
  | _, _, .bool b => .bool b
  | _, _, .int k n => .int k n
  | _, _, .float k n => .float k n
  | _, _, .complex k a b => .complex k a b
  | _, _, .string s => .string s
  | _, _, .ptr0 => .ptr0
  | _, _, .ptr a => .ptr (a.ext h)
  | _, _, .sl0 n c => .sl0 n c
  | _, _, .sl a c => .sl (a.ext h) (c.ext h)
  | _, _, .sle a b => .sle a b
  | _, _, .map0 => .map0
  | _, _, .map e => .map (h _ _ e)
  | _, _, .func fn k a b => .func fn k (VRs.ext h a) (VRs.ext h b)
  | _, _, .yield e => .yield (h _ _ e)
  | _, _, .nilFunc => .nilFunc
  | _, _, .nilIface => .nilIface
  | _, _, .iface t a => .iface t (VR.ext h a)
  | _, _, .agg a => .agg (VRs.ext h a)
  | _, _, .tuple a => .tuple (VRs.ext h a)
theorem VRs.ext {ρ ρ' : Ren} (h : Ext ρ ρ') : ∀ {l l' : List Value}, VRs ρ l l' → VRs ρ' l l'
  | _, _, .nil => .nil
  | _, _, .cons a b => .cons (VR.ext h a) (VRs.ext h b)
end

inductive Tre (α : Type) where
  | e
  | n (v : Option α) (l r : Tre α)

def Tre.get {α : Type} : Nat → Tre α → Nat → Option α
  | 0, _, _ => none
  | _ + 1, .e, _ => none
  | f + 1, .n v l r, k => match k with | 0 => v | k + 1 => match k % 2 with | 0 => Tre.get f l (k / 2) | _ => Tre.get f r (k / 2)

def Tre.set {α : Type} : Nat → Tre α → Nat → α → Tre α
  | 0, t, _, _ => t
  | f + 1, .e, k, b => match k with | 0 => .n (some b) .e .e | k + 1 => match k % 2 with | 0 => .n none (Tre.set f .e (k / 2) b) .e | _ => .n none .e (Tre.set f .e (k / 2) b)
  | f + 1, .n v l r, k, b => match k with | 0 => .n (some b) l r | k + 1 => match k % 2 with | 0 => .n v (Tre.set f l (k / 2) b) r | _ => .n v l (Tre.set f r (k / 2) b)

theorem Tre.get_e {α : Type} (f k : Nat) : Tre.get f (.e : Tre α) k = none := by cases f <;> rfl

theorem Tre.get_set_same {α : Type} : ∀ (f : Nat) (t : Tre α) (k : Nat) (b : α), k < 2 ^ f → Tre.get (f + 1) (Tre.set (f + 1) t k b) k = some b := by
  intro f
  induction f with
  | zero =>
    intro t k b h
    obtain rfl : k = 0 := by simpa using h
    cases t <;> simp [Tre.set, Tre.get]
  | succ f ih =>
    intro t k b h
    cases k with
    | zero => cases t <;> simp [Tre.set, Tre.get]
    | succ k =>
      have hk : k / 2 < 2 ^ f := by rw [Nat.pow_succ] at h; omega
      have key : ∀ t : Tre α, Tre.get (f + 1) (Tre.set (f + 1) t (k / 2) b) (k / 2) = some b := fun t => ih t (k / 2) b hk
      rcases Nat.mod_two_eq_zero_or_one k with h2 | h2 <;> cases t <;> rw [Tre.set] <;> simp [Tre.get, h2, key]

theorem Tre.get_set_other {α : Type} : ∀ (f : Nat) (t : Tre α) (k j : Nat) (b : α), j ≠ k → Tre.get f (Tre.set f t k b) j = Tre.get f t j := by
  intro f
  induction f with
  | zero => intro t k j b h; rfl
  | succ f ih =>
    intro t k j b h
    cases k with
    | zero =>
      cases j with
      | zero => exact absurd rfl h
      | succ j => rcases Nat.mod_two_eq_zero_or_one j with j2 | j2 <;> cases t <;> simp [Tre.set, Tre.get, Tre.get_e, j2]
    | succ k =>
      cases j with
      | zero => rcases Nat.mod_two_eq_zero_or_one k with h2 | h2 <;> cases t <;> simp [Tre.set, Tre.get, h2]
      | succ j =>
        have key : ∀ t : Tre α, j % 2 = k % 2 → Tre.get f (Tre.set f t (k / 2) b) (j / 2) = Tre.get f t (j / 2) := fun t h2 => ih t _ _ b (by omega)
        rcases Nat.mod_two_eq_zero_or_one k with h2 | h2 <;> rcases Nat.mod_two_eq_zero_or_one j with j2 | j2 <;> cases t <;> simp [Tre.set, Tre.get, h2, j2, Tre.get_e] <;>
          (rw [key _ (by omega)]; try rw [Tre.get_e])

/-- the temporaries -/
abbrev Tm := Tre Value
def getT (t : Tm) (i : Nat) : Value := match Tre.get 16 t i with | some v => v | none => undef

/-- an abstract block; 'loop': a range over a function, by its frame's temporaries; 'hull': what the rounds of one put off (nothing) -/
inductive Blk where
  | dead
  | cells (c : List Value) (elem : TypeId)
  | map (es : List MapEntry) (clock : Nat)
  | iter (s : ByteArray) (pos : Nat)
  | loop (st : LoopState) (pe : Option Code) (nt : Nat) (t : Tm) (ps : Array Tmp) (assign body : Code)
  | hull

/-- the heap: its blocks; those below 'lo' are only read; none stands from 'next' on -/
structure Hp where
  tr : Tre Blk
  lo : Nat
  next : Nat

def Hp.get (H : Hp) (k : Nat) : Option Blk := H.tr.get 40 k
def Hp.set (H : Hp) (k : Nat) (b : Blk) : Hp := ⟨H.tr.set 40 k b, H.lo, H.next⟩
def Hp.empty : Hp := ⟨.e, 0, 0⟩
theorem Hp.get_empty (k : Nat) : Hp.empty.get k = none := Tre.get_e 40 k
theorem Hp.get_same (H : Hp) {k : Nat} (b : Blk) (h : k < 2 ^ 39) : (H.set k b).get k = some b := Tre.get_set_same 39 H.tr k b h
theorem Hp.get_other (H : Hp) {k j : Nat} (b : Blk) (h : j ≠ k) : (H.set k b).get j = H.get j := Tre.get_set_other 40 H.tr k j b h

end Go.Ab
namespace Go.Ab
open Go Go.RowKit

inductive Ents (ρ : Ren) : List MapEntry → List MapEntry → Prop
  | nil : Ents ρ [] []
  | cons {k k' v v' b l l'} : VR ρ k k' → VR ρ v v' → Ents ρ l l' → Ents ρ (⟨k, v, b⟩ :: l) (⟨k', v', b⟩ :: l')

theorem Ents.ext {ρ ρ' : Ren} (h : Ext ρ ρ') : ∀ {l l'}, Ents ρ l l' → Ents ρ' l l'
  | _, _, .nil => .nil
  | _, _, .cons a b c => .cons (a.ext h) (b.ext h) (Ents.ext h c)

def TmR (ρ : Ren) (nt : Nat) (t : Tm) (a : Array Value) : Prop := nt = a.size ∧ ∀ i, i < nt → VR ρ (getT t i) (a.getD i undef)

theorem TmR.ext {ρ ρ' : Ren} {nt : Nat} (h : Ext ρ ρ') {t : Tm} {a : Array Value} (r : TmR ρ nt t a) : TmR ρ' nt t a := ⟨r.1, fun i hi => (r.2 i hi).ext h⟩

def BlkOk (P : Program) (ρ : Ren) (k : Nat) (w : World) : Blk → Prop
  | .dead => True
  | .cells c E => ∃ p c' fz, ρ k = some p ∧ w.heap[p.real]? = some (.cells c' E fz) ∧
      (∀ i v, c[i]? = some v → ∃ v', c'[i + p.shift]? = some v' ∧ VR ρ v v') ∧
      (∀ es N M, p.tl = some (es, N, M) → N = c.length ∧ M = c'.size ∧ 0 < es ∧ (P.info? E).map (·.size) = some es)
  | .map es clock => ∃ p es', ρ k = some p ∧ w.heap[p.real]? = some (.map es' clock) ∧ Ents ρ es es'.toList
  | .iter s pos => ∃ p, ρ k = some p ∧ w.heap[p.real]? = some (.stringIter s pos) ∧ p.shift = 0
  | .loop st pe nt t ps assign body => ∃ p fn tm D, ρ k = some p ∧ w.heap[p.real]? = some (.loop { state := st, pending := pe, fn := fn, tmps := tm, params := ps, assign := assign, body := body, defers := D }) ∧ TmR ρ nt t tm
  | .hull => ∃ p, ρ k = some p ∧ w.heap[p.real]? = some (.deferred (some []))

/-- a live block -/
def Live (H : Hp) (k : Nat) : Prop := ∃ b, H.get k = some b ∧ match b with | .dead => False | _ => True

/-- nothing of a block is frozen -/
def Soft (w : World) (r : Nat) : Prop := ∀ c E fz, w.heap[r]? = some (.cells c E fz) → fz = (0, 0)

structure Rel (P : Program) (w0 : World) (ρ : Ren) (H : Hp) (w : World) : Prop where
  below : Below w0.heap.size w0 w
  fresh : ∀ k, H.get k = none → ρ k = none
  top : ∀ k, H.next ≤ k → H.get k = none
  lo : H.lo ≤ H.next
  blk : ∀ k b, H.get k = some b → BlkOk P ρ k w b
  old : ∀ k p, Live H k → k < H.lo → ρ k = some p → p.real < w0.heap.size
  own : ∀ k p, Live H k → H.lo ≤ k → ρ k = some p → w0.heap.size ≤ p.real ∧ Soft w p.real
  inj : ∀ i j p q, i ≠ j → H.lo ≤ i → H.lo ≤ j → Live H i → Live H j → ρ i = some p → ρ j = some q → p.real ≠ q.real

/-- a loop's text and temporaries, which do not turn -/
def statB : Blk → Option (Nat × Tm × Array Tmp × Code × Code)
  | .loop _ _ nt t ps a b => some (nt, t, ps, a, b)
  | _ => none

/-- what an operation leaves alone of the heap -/
structure Keeps (H H' : Hp) : Prop where
  lo : H'.lo = H.lo
  next : H.next ≤ H'.next
  get : ∀ k, k < H.lo → H'.get k = H.get k
  stat : ∀ k b x, H'.get k = some b → statB b = some x → ∃ b0, H.get k = some b0 ∧ statB b0 = some x
theorem Keeps.refl (H : Hp) : Keeps H H := ⟨rfl, Nat.le_refl _, fun _ _ => rfl, fun _ b _ h hx => ⟨b, h, hx⟩⟩
theorem Keeps.trans {a b c : Hp} (h : Keeps a b) (k : Keeps b c) : Keeps a c :=
  ⟨k.lo.trans h.lo, Nat.le_trans h.next k.next, fun i hi => (k.get i (by rw [h.lo]; exact hi)).trans (h.get i hi), fun i b x hb hx => let ⟨b1, h1, hx1⟩ := k.stat i b x hb hx; h.stat i b1 x h1 hx1⟩

def upd (ρ : Ren) (k : Nat) (p : Place) : Ren := fun j => if j = k then some p else ρ j
theorem upd_same (ρ : Ren) (k : Nat) (p : Place) : upd ρ k p k = some p := by simp [upd]
theorem upd_other (ρ : Ren) {k j : Nat} (p : Place) (h : j ≠ k) : upd ρ k p j = ρ j := by simp [upd, h]
theorem upd_ext {ρ : Ren} {k : Nat} {p : Place} (h : ∀ q, ρ k = some q → q = p) : Ext ρ (upd ρ k p) := by
  intro j q e
  by_cases hj : j = k
  · subst hj; rw [upd_same, h q e]
  · rw [upd_other _ _ hj]; exact e

theorem BlkOk.place {P : Program} {ρ : Ren} {k : Nat} {w : World} {b : Blk} (h : BlkOk P ρ k w b) (hd : b ≠ .dead) : ∃ p, ρ k = some p ∧ p.real < w.heap.size := by
  cases b with
  | dead => exact absurd rfl hd
  | cells c E => obtain ⟨q, c', fz, hq, hb, _⟩ := h; exact ⟨q, hq, (Array.getElem?_eq_some_iff.1 hb).1⟩
  | map es clock => obtain ⟨q, es', hq, hb, _⟩ := h; exact ⟨q, hq, (Array.getElem?_eq_some_iff.1 hb).1⟩
  | iter s pos => obtain ⟨q, hq, hb, _⟩ := h; exact ⟨q, hq, (Array.getElem?_eq_some_iff.1 hb).1⟩
  | loop st pe nt t ps assign body => obtain ⟨q, fn, tm, D, hq, hb, _⟩ := h; exact ⟨q, hq, (Array.getElem?_eq_some_iff.1 hb).1⟩
  | hull => obtain ⟨q, hq, hb⟩ := h; exact ⟨q, hq, (Array.getElem?_eq_some_iff.1 hb).1⟩

theorem live_of {H : Hp} {k : Nat} {b : Blk} (h : H.get k = some b) (hd : b ≠ .dead) : Live H k :=
  ⟨b, h, by cases b <;> first | trivial | exact absurd rfl hd⟩
theorem Live.ne {H : Hp} {k : Nat} (h : Live H k) : ∃ b, H.get k = some b ∧ b ≠ .dead := by
  obtain ⟨b, hb, hl⟩ := h
  exact ⟨b, hb, fun e => by subst e; exact hl⟩

theorem Rel.live {P : Program} {w0 : World} {ρ : Ren} {H : Hp} {w : World} (h : Rel P w0 ρ H w) {k : Nat} (hk : Live H k) : ∃ p, ρ k = some p ∧ p.real < w.heap.size := by
  obtain ⟨b, hb, hd⟩ := hk.ne
  exact (h.blk k b hb).place hd

theorem BlkOk.move {P : Program} {ρ ρ' : Ren} {k : Nat} {w w' : World} {b : Blk} (h : BlkOk P ρ k w b) (he : Ext ρ ρ')
    (hw : b ≠ .dead → ∀ p, ρ k = some p → w'.heap[p.real]? = w.heap[p.real]?) : BlkOk P ρ' k w' b := by
  cases b with
  | dead => trivial
  | cells c E =>
    obtain ⟨p, c', fz, hp, hb, hc, ht⟩ := h
    exact ⟨p, c', fz, he _ _ hp, by rw [hw (by simp) p hp]; exact hb, fun i v hi => (hc i v hi).imp fun v' x => ⟨x.1, x.2.ext he⟩, ht⟩
  | map es clock =>
    obtain ⟨p, es', hp, hb, hc⟩ := h
    exact ⟨p, es', he _ _ hp, by rw [hw (by simp) p hp]; exact hb, hc.ext he⟩
  | iter s pos =>
    obtain ⟨p, hp, hb, hr⟩ := h
    exact ⟨p, he _ _ hp, by rw [hw (by simp) p hp]; exact hb, hr⟩
  | loop st pe nt t ps assign body =>
    obtain ⟨p, fn, tm, D, hp, hb, hr⟩ := h
    exact ⟨p, fn, tm, D, he _ _ hp, by rw [hw (by simp) p hp]; exact hb, hr.ext he⟩
  | hull =>
    obtain ⟨p, hp, hb⟩ := h
    exact ⟨p, he _ _ hp, by rw [hw (by simp) p hp]; exact hb⟩

theorem Soft.move {w w' : World} {r : Nat} (h : Soft w r) (e : w'.heap[r]? = w.heap[r]?) : Soft w' r := fun c E fz hb => h c E fz (by rw [← e]; exact hb)

/-- one block of the heap becomes another; its place is the call's own and no other live block's -/
theorem Rel.put {P : Program} {w0 : World} {ρ : Ren} {H : Hp} {w w' : World} (h : Rel P w0 ρ H w) (k : Nat) (p : Place) (b : Blk) (hk : k < 2 ^ 39) (hlo : H.lo ≤ k) {n : Nat} (hn : k < n) (hnn : H.next ≤ n)
    (hp : ∀ q, ρ k = some q → q = p) (hbase : w0.heap.size ≤ p.real)
    (hother : ∀ j q, j ≠ k → Live H j → ρ j = some q → q.real ≠ p.real)
    (hos : w'.os = w.os) (htape : w'.tape = w.tape) (hout : w'.output = w.output) (hsize : w.heap.size ≤ w'.heap.size)
    (hheap : ∀ r, r < w.heap.size → r ≠ p.real → w'.heap[r]? = w.heap[r]?) (hsoft : Soft w' p.real)
    (hb : BlkOk P (upd ρ k p) k w' b) : Rel P w0 (upd ρ k p) { H.set k b with next := n } w' := by
  have he : Ext ρ (upd ρ k p) := upd_ext hp
  have gs : ({ H.set k b with next := n } : Hp).get k = some b := Hp.get_same H b hk
  have go : ∀ j, j ≠ k → ({ H.set k b with next := n } : Hp).get j = H.get j := fun j hj => Hp.get_other H b hj
  have keep : ∀ j q, j ≠ k → Live H j → ρ j = some q → w'.heap[q.real]? = w.heap[q.real]? := fun j q hj hl hq => by
    obtain ⟨q', hq', hlt⟩ := h.live hl
    rw [hq] at hq'; cases hq'
    exact hheap q.real hlt (hother j q hj hl hq)
  have oldL : ∀ j, j ≠ k → Live { H.set k b with next := n } j → Live H j := fun j hj ⟨x, hx, hl⟩ => ⟨x, by rw [← go j hj]; exact hx, hl⟩
  refine ⟨h.below.trans ⟨hos, htape, hout, hsize, fun r hr => hheap r (Nat.lt_of_lt_of_le hr h.below.size) (by omega)⟩, ?_, ?_, Nat.le_trans h.lo hnn, ?_, ?_, ?_, ?_⟩
  · intro j hj
    by_cases e : j = k
    · subst e; rw [gs] at hj; cases hj
    · rw [go j e] at hj; rw [upd_other _ _ e]; exact h.fresh j hj
  · intro j hj
    have hj : n ≤ j := hj
    rw [go j (by omega)]; exact h.top j (by omega)
  · intro j bj hj
    by_cases e : j = k
    · subst e; rw [gs] at hj; cases hj; exact hb
    · rw [go j e] at hj
      exact (h.blk j bj hj).move he fun hd q hq => keep j q e (live_of hj hd) hq
  · intro j q hl hj hq
    have hj : j < H.lo := hj
    have e : j ≠ k := by omega
    rw [upd_other _ _ e] at hq
    exact h.old j q (oldL j e hl) hj hq
  · intro j q hl hj hq
    have hj : H.lo ≤ j := hj
    by_cases e : j = k
    · subst e; rw [upd_same] at hq; cases hq; exact ⟨hbase, hsoft⟩
    · rw [upd_other _ _ e] at hq
      obtain ⟨h1, h2⟩ := h.own j q (oldL j e hl) hj hq
      exact ⟨h1, h2.move (keep j q e (oldL j e hl) hq)⟩
  · intro i j pi pj hij hi' hj' hi hj hpi hpj
    by_cases ei : i = k
    · subst ei
      have ej : j ≠ i := fun e => hij e.symm
      rw [upd_same] at hpi; cases hpi
      rw [upd_other _ _ ej] at hpj
      exact fun e => hother j pj ej (oldL j ej hj) hpj e.symm
    · by_cases ej : j = k
      · subst ej
        rw [upd_same] at hpj; cases hpj
        rw [upd_other _ _ ei] at hpi
        exact hother i pi ei (oldL i ei hi) hpi
      · rw [upd_other _ _ ei] at hpi
        rw [upd_other _ _ ej] at hpj
        exact h.inj i j pi pj hij hi' hj' (oldL i ei hi) (oldL j ej hj) hpi hpj

theorem set_stat {H : Hp} {k : Nat} {b : Blk} (hk : k < 2 ^ 39) (hs : ∀ x, statB b = some x → ∃ b0, H.get k = some b0 ∧ statB b0 = some x) :
    ∀ j c x, (H.set k b).get j = some c → statB c = some x → ∃ b0, H.get j = some b0 ∧ statB b0 = some x := fun j c x hc hx => by
  by_cases e : j = k
  · subst e
    rw [Hp.get_same H b hk] at hc
    cases hc
    exact hs x hx
  · rw [Hp.get_other H b e] at hc
    exact ⟨c, hc, hx⟩

theorem put_keeps {H : Hp} {k : Nat} {b : Blk} (hlo : H.lo ≤ k) {n : Nat} (hnn : H.next ≤ n) (hk : k < 2 ^ 39) (hs : ∀ x, statB b = some x → ∃ b0, H.get k = some b0 ∧ statB b0 = some x) : Keeps H { H.set k b with next := n } :=
  ⟨rfl, hnn, fun j hj => Hp.get_other H b (by omega), set_stat hk hs⟩

/-- a block of the call's own is forgotten -/
theorem Rel.kill {P : Program} {w0 : World} {ρ : Ren} {H : Hp} {w : World} (h : Rel P w0 ρ H w) (k : Nat) (hk : k < 2 ^ 39) {b : Blk} (hb : H.get k = some b) : Rel P w0 ρ (H.set k .dead) w := by
  have gs : (H.set k .dead).get k = some .dead := Hp.get_same H _ hk
  have go : ∀ j, j ≠ k → (H.set k .dead).get j = H.get j := fun j hj => Hp.get_other H _ hj
  have oldL : ∀ j, Live (H.set k .dead) j → Live H j := fun j ⟨x, hx, hl⟩ => by
    by_cases e : j = k
    · subst e; rw [gs] at hx; cases hx; exact hl.elim
    · exact ⟨x, by rw [← go j e]; exact hx, hl⟩
  refine ⟨h.below, ?_, ?_, h.lo, ?_, fun j p hl => h.old j p (oldL j hl), fun j p hl => h.own j p (oldL j hl), fun i j pi pj hij h1 h2 hi hj => h.inj i j pi pj hij h1 h2 (oldL i hi) (oldL j hj)⟩
  · intro j hj
    by_cases e : j = k
    · subst e; rw [gs] at hj; cases hj
    · rw [go j e] at hj; exact h.fresh j hj
  · intro j hj
    by_cases e : j = k
    · subst e; rw [h.top j hj] at hb; cases hb
    · rw [go j e]; exact h.top j hj
  · intro j bj hj
    by_cases e : j = k
    · subst e; rw [gs] at hj; cases hj; trivial
    · rw [go j e] at hj; exact h.blk j bj hj

theorem kill_keeps {H : Hp} {k : Nat} {b : Blk} (hlo : H.lo ≤ k) (hk : k < 2 ^ 39) (hs : ∀ x, statB b = some x → ∃ b0, H.get k = some b0 ∧ statB b0 = some x) : Keeps H (H.set k b) := ⟨rfl, Nat.le_refl _, fun j hj => Hp.get_other H b (by omega), set_stat hk hs⟩

/-- a draw -/
theorem Rel.drew {P : Program} {w0 : World} {ρ : Ren} {H : Hp} {w : World} (h : Rel P w0 ρ H w) : Rel P w0 ρ H w.drew :=
  ⟨h.below.drew, h.fresh, h.top, h.lo, fun k b hb => (h.blk k b hb).move (Ext.refl ρ) fun _ _ _ => rfl, h.old, h.own, h.inj⟩

/-- a new block -/
theorem Rel.new {P : Program} {w0 : World} {ρ : Ren} {H : Hp} {w : World} (h : Rel P w0 ρ H w) (k : Nat) (tl : Option (Nat × Nat × Nat)) (b : Blk) (o : Obj) (hk : k < 2 ^ 39) (hlo : H.lo ≤ k) {n : Nat} (hkn : k < n) (hnn : H.next ≤ n)
    (hn : H.get k = none) (hsoft : ∀ c E fz, o = .cells c E fz → fz = (0, 0)) (hb : BlkOk P (upd ρ k ⟨w.heap.size, 0, tl⟩) k (w.alloc o) b) :
    Rel P w0 (upd ρ k ⟨w.heap.size, 0, tl⟩) { H.set k b with next := n } (w.alloc o) ∧ Ext ρ (upd ρ k ⟨w.heap.size, 0, tl⟩) := by
  have hf := h.fresh k hn
  have hp : ∀ q, ρ k = some q → q = ⟨w.heap.size, 0, tl⟩ := fun q hq => by rw [hf] at hq; cases hq
  refine ⟨h.put k ⟨w.heap.size, 0, tl⟩ b hk hlo hkn hnn hp h.below.size ?_ rfl rfl rfl (by simp) ?_ ?_ hb, upd_ext hp⟩
  · intro j q _ hj hq
    obtain ⟨p, hp, hlt⟩ := h.live hj
    rw [hq] at hp; cases hp
    exact Nat.ne_of_lt hlt
  · intro r hr _
    exact Below.heap_alloc w o r hr
  · intro c E fz he
    have : (w.alloc o).heap[w.heap.size]? = some o := by show (w.heap.push o)[w.heap.size]? = some o; simp
    rw [this] at he
    injection he with he
    exact hsoft c E fz he

/-! ### reading all that stands as given -/

theorem Rel.rebase {P : Program} {w0 : World} {ρ : Ren} {H : Hp} {w : World} (h : Rel P w0 ρ H w) (m : Nat) : Rel P w ρ { H with lo := H.next, next := H.next + m } w := by
  refine ⟨Below.refl _ _, h.fresh, fun k hk => h.top k (by have hk : H.next + m ≤ k := hk; omega), by show H.next ≤ H.next + m; omega, h.blk, ?_, ?_, ?_⟩
  · intro k p hl _ hp
    obtain ⟨q, hq, hlt⟩ := h.live (H := H) hl
    rw [hp] at hq; cases hq; exact hlt
  · intro k p hl hk _
    have hk : H.next ≤ k := hk
    obtain ⟨b, hb, _⟩ := hl
    have := h.top k hk
    have hb : H.get k = some b := hb
    rw [this] at hb; cases hb
  · intro i j p q _ hi _ hl
    have hi : H.next ≤ i := hi
    obtain ⟨b, hb, _⟩ := hl
    have := h.top i hi
    have hb : H.get i = some b := hb
    rw [this] at hb; cases hb

theorem Rel.back {P : Program} {w0 : World} {ρ ρ' : Ren} {H H' : Hp} {w w' : World} (h : Rel P w0 ρ H w) (h' : Rel P w ρ' H' w') (he : Ext ρ ρ') (hlo : H'.lo = H.next)
    (hget : ∀ k, k < H.next → H'.get k = H.get k) (hstat : ∀ k b x, H'.get k = some b → statB b = some x → ∃ b0, H.get k = some b0 ∧ statB b0 = some x) : Rel P w0 ρ' { H' with lo := H.lo } w' ∧ Keeps H { H' with lo := H.lo } := by
  have hge : ∀ k, ({ H' with lo := H.lo } : Hp).get k = H'.get k := fun _ => rfl
  have liveLt : ∀ k, k < H.next → Live { H' with lo := H.lo } k → Live H k := fun k hk ⟨b, hb, hl⟩ => ⟨b, by rw [← hget k hk]; exact hb, hl⟩
  have liveGe : ∀ k, Live { H' with lo := H.lo } k → Live H' k := fun k hl => hl
  have place : ∀ k p, k < H.next → Live H k → ρ' k = some p → ρ k = some p ∧ p.real < w.heap.size := fun k p _ hl hp => by
    obtain ⟨q, hq, hlt⟩ := h.live hl
    have := he _ _ hq
    rw [hp] at this; cases this
    exact ⟨hq, hlt⟩
  have hnx : H.next ≤ H'.next := by have := h'.lo; rw [hlo] at this; exact this
  refine ⟨⟨h.below.trans (h'.below.mono h.below.size), h'.fresh, h'.top, Nat.le_trans h.lo hnx, ?_, ?_, ?_, ?_⟩, ⟨rfl, hnx, fun k hk => hget k (Nat.lt_of_lt_of_le hk h.lo), hstat⟩⟩
  · exact h'.blk
  · intro k p hl hk hp
    have hk : k < H.lo := hk
    have hk' : k < H.next := Nat.lt_of_lt_of_le hk h.lo
    obtain ⟨hq, _⟩ := place k p hk' (liveLt k hk' hl) hp
    exact h.old k p (liveLt k hk' hl) hk hq
  · intro k p hl hk hp
    have hk : H.lo ≤ k := hk
    by_cases hkn : k < H.next
    · obtain ⟨hq, hlt⟩ := place k p hkn (liveLt k hkn hl) hp
      obtain ⟨h1, h2⟩ := h.own k p (liveLt k hkn hl) hk hq
      exact ⟨h1, h2.move (h'.below.block p.real hlt)⟩
    · obtain ⟨h1, h2⟩ := h'.own k p (liveGe k hl) (by rw [hlo]; omega) hp
      exact ⟨Nat.le_trans h.below.size h1, h2⟩
  · intro i j p q hij hi hj li lj hp hq
    have hi : H.lo ≤ i := hi
    have hj : H.lo ≤ j := hj
    by_cases hin : i < H.next
    · obtain ⟨hp', hlt⟩ := place i p hin (liveLt i hin li) hp
      by_cases hjn : j < H.next
      · obtain ⟨hq', _⟩ := place j q hjn (liveLt j hjn lj) hq
        exact h.inj i j p q hij hi hj (liveLt i hin li) (liveLt j hjn lj) hp' hq'
      · have := (h'.own j q (liveGe j lj) (by rw [hlo]; omega) hq).1
        omega
    · have h1 := (h'.own i p (liveGe i li) (by rw [hlo]; omega) hp).1
      by_cases hjn : j < H.next
      · obtain ⟨_, hlt⟩ := place j q hjn (liveLt j hjn lj) hq
        omega
      · exact h'.inj i j p q hij (by rw [hlo]; omega) (by rw [hlo]; omega) (liveGe i li) (liveGe j lj) hp hq

theorem Rel.congr {P : Program} {w0 : World} {ρ : Ren} {H H' : Hp} {w : World} (h : Rel P w0 ρ H w) (hlo : H'.lo = H.lo) (hn : H'.next = H.next) (hg : ∀ k, H'.get k = H.get k) : Rel P w0 ρ H' w := by
  have hl : ∀ k, Live H' k → Live H k := fun k ⟨b, hb, x⟩ => ⟨b, by rw [← hg]; exact hb, x⟩
  refine ⟨h.below, fun k hk => h.fresh k (by rw [← hg]; exact hk), fun k hk => by rw [hg]; exact h.top k (by rw [← hn]; exact hk), by rw [hlo, hn]; exact h.lo, fun k b hb => h.blk k b (by rw [← hg]; exact hb), ?_, ?_, ?_⟩
  · rw [hlo]; exact fun k p x => h.old k p (hl k x)
  · rw [hlo]; exact fun k p x => h.own k p (hl k x)
  · rw [hlo]; exact fun i j p q a b c x y => h.inj i j p q a b c (hl i x) (hl j y)

end Go.Ab
namespace Go.Ab
open Go Go.RowKit

def pureRun {α : Type} (P : Program) : Sem α → Option α
  | .pure a => some a
  | .program k => pureRun P (k P)
  | .mark _ k => pureRun P k
  | _ => none

theorem pureRun_run {α : Type} {P : Program} {a : α} : ∀ (s : Sem α), pureRun P s = some a → ∀ w, s.run P w = .ok a w := by
  intro s
  induction s with
  | pure b => intro h w; simp [pureRun] at h; subst h; rfl
  | program k ih => intro h w; simp only [pureRun] at h; simp only [Sem.run]; exact ih P h w
  | mark m k ih => intro h w; simp only [pureRun] at h; simp only [Sem.run]; exact ih h w
  | _ => intro h; simp [pureRun] at h

def bad : Value := .chan (some 0)

def aev (t : Tm) : Operand → Value
  | .tmp i => getT t i
  | .const v => v
  | .global _ => bad
  | .func f => .func (.func f) #[] #[]

def okOpd (n : Nat) : Operand → Bool
  | .tmp i => decide (i < n)
  | .func _ => true
  | .const v => plain 3 v
  | .global _ => false

def agg? (P : Program) (t : TypeId) : Option Bool :=
  match P.underlying t with
  | some (.struct _) => some true
  | some (.array _ _) => some true
  | some _ => some false
  | none => none

def size? (P : Program) (t : TypeId) : Option Nat := (P.info? t).map (·.size)
def zero? (P : Program) (t : TypeId) : Option Value := match (P.info? t).bind (·.zero) with | some z => if plain 3 z then some z else none | none => none

def partA (P : Program) (t : TypeId) (cs : Array Value) (off : Nat) : Option Value :=
  match agg? P t, size? P t with
  | some true, some n => some (.agg ⟨(cs.toList.drop off).take n⟩)
  | some false, _ => cs[off]?
  | _, _ => none

/-- the first n -/
def takeA : Nat → List Value → Option (List Value)
  | 0, _ => some []
  | _ + 1, [] => none
  | n + 1, x :: l => match takeA n l with | some r => some (x :: r) | none => none

def blockAt (H : Hp) (lim : Nat) (a : Addr) : Option (List Value) :=
  match a.spot with
  | some _ => none
  | none =>
    match Nat.blt a.block lim with
    | true => match H.get a.block with | some (.cells c _) => some c | _ => none
    | false => none

/-- n cells from an address -/
def readN (H : Hp) (lim : Nat) (a : Addr) (n : Nat) : Option (List Value) :=
  match n with
  | 0 => some []
  | n + 1 =>
    match blockAt H lim a with
    | some c => takeA (n + 1) (c.drop a.off)
    | none => none

def loadA (P : Program) (H : Hp) (lim : Nat) (t : TypeId) (a : Addr) : Option Value :=
  match agg? P t with
  | some true =>
    match size? P t with
    | some n => match readN H lim a n with | some l => some (.agg ⟨l⟩) | none => none
    | none => none
  | some false => match blockAt H lim a with | some c => c[a.off]? | none => none
  | none => none

def one : Value → Bool
  | .agg _ => false
  | .tuple _ => false
  | _ => true

/-- vs over the cells from off on -/
def over (c : List Value) (off : Nat) (vs : List Value) : List Value := c.take off ++ (vs ++ c.drop (off + vs.length))

def writeN (H : Hp) (a : Addr) (vs : List Value) : Option Hp :=
  match vs with
  | [] => some H
  | _ =>
  match a.spot with
  | some _ => none
  | none =>
    match H.get a.block with
    | some (.cells c E) => if H.lo ≤ a.block ∧ a.off + vs.length ≤ c.length ∧ a.block < 2 ^ 39 ∧ vs.all one = true then some (H.set a.block (.cells (over c a.off vs) E)) else none
    | _ => none

def storeA (P : Program) (H : Hp) (t : TypeId) (a : Addr) (v : Value) : Option Hp :=
  match size? P t with
  | some n => if v.cells.size = n then writeN H a v.cells.toList else none
  | none => none

/-- no block from here on, behind a new one at 'id' -/
def nextA (n id : Nat) : Nat :=
  match Nat.blt id n with
  | true => n
  | false => id + 1

/-- a new block -/
def anew (H : Hp) (id : Nat) (b : Blk) : Option Hp :=
  match H.get id with
  | none => (match Nat.blt id (2 ^ 39) && Nat.ble H.lo id with
    | true => some { H.set id b with next := nextA H.next id }
    | false => none)
  | some _ => none

def allPlain (ev : Operand → Value) (o : Oper) : Bool := o.op.operands.toList.all fun x => plain 3 (ev x)

def asValue : Option Next → Option Value
  | some (.value v) => some v
  | _ => none

def regPlain (P : Program) (ev : Operand → Value) (o : Oper) : Option Value :=
  match allPlain ev o with
  | true => match asValue (pureRun P (execOp ev o)) with | some v => (match plain 3 v with | true => some v | false => none) | none => none
  | false => none

def intOfA : Value → Option Int
  | .int _ n => some n
  | _ => none

/-- the bounds of a slice expression: low, high, and whether the end of the capacity is the operand's own -/
def bnd (y : Nat) (v : Option Value) (d : Option Nat) : Option Nat :=
  match v with
  | some (.int _ i) => if 0 ≤ i ∧ i ≤ (y : Int) then some i.toNat else none
  | some _ => none
  | none => d

def boundsA (len cap : Nat) (lo hi mx : Option Value) : Option (Nat × Nat × Nat) :=
  match bnd cap mx (some cap) with
  | none => none
  | some m =>
    match bnd m hi (match mx with | none => some len | some _ => none) with
    | none => none
    | some h =>
      match bnd h lo (some 0) with
      | none => none
      | some l => some (l, h, m)

/-- two integers -/
def intBin (op : BinOp) (k k' : IntKind) (x y : Int) : Option Value :=
  match decide (k = k') with
  | true =>
    match op with
    | .add => some (.int k (k.wrap (x + y)))
    | .sub => some (.int k (k.wrap (x - y)))
    | .mul => some (.int k (k.wrap (x * y)))
    | .eql => some (.bool (x == y))
    | .neq => some (.bool (x != y))
    | .lss => some (.bool (x < y))
    | .leq => some (.bool (x ≤ y))
    | .gtr => some (.bool (x > y))
    | .geq => some (.bool (x ≥ y))
    | _ => none
  | false => none

/-- what is not nil, held against nil -/
def eqNil (op : BinOp) : Option Value :=
  match op with
  | .eql => some (.bool false)
  | .neq => some (.bool true)
  | _ => none

def regPick (ev : Operand → Value) (c a b : Operand) : Option Value :=
  match ev c with
  | .bool t => some (match t with | true => ev a | false => ev b)
  | _ => none

def regExtract (v : Value) (ix : Nat) : Option Value :=
  match v with
  | .tuple vs => vs[ix]?
  | _ => none

def regField (P : Program) (xT : TypeId) (v : Value) (f : Nat) : Option Value :=
  match v with
  | .agg cs =>
    match P.underlying xT with
    | some (.struct fs) => match fs[f]? with | some fd => partA P fd.type cs fd.offset | none => none
    | _ => none
  | _ => none

def placesOf (P : Program) (fs : Array Field) : Option (Array (Nat × Nat)) := pureRun P (fs.mapM fun f => do pure (f.offset, ← sizeOf f.type))

def regBuild (P : Program) (ev : Operand → Value) (t : TypeId) (parts : Array (Nat × Operand)) : Option Value :=
  match P.underlying t, zero? P t with
  | some (.struct fs), some z =>
    match placesOf P fs with
    | some places => (Instr.fill (places[·]?) z.cells (parts.toList.map fun ix => (ix.1, ev ix.2))).map .agg
    | none => none
  | some (.array _ e), some z =>
    match size? P e with
    | some n => (Instr.fill (fun i => some (i * n, n)) z.cells (parts.toList.map fun ix => (ix.1, ev ix.2))).map .agg
    | none => none
  | _, _ => none

def regFieldAddr (P : Program) (s : TypeId) (v : Value) (f : Nat) : Option Value :=
  match v with
  | .pointer (some a) =>
    match P.underlying s with
    | some (.struct fs) =>
      match fs[f]? with
      | some fd => match size? P fd.type with | some (_ + 1) => some (.pointer (some (a.add fd.offset))) | _ => none
      | none => none
    | _ => none
  | _ => none

def regElem (P : Program) (a : Addr) (n : Nat) (e : TypeId) (v : Value) : Option Value :=
  match v with
  | .int _ i =>
    match decide (0 ≤ i) && decide (i < (n : Int)) with
    | true => match size? P e with | some s => some (.pointer (some (a.add (i.toNat * s)))) | none => none
    | false => none
  | _ => none

def regIndexAddr (P : Program) (t : TypeId) (v i : Value) : Option Value :=
  match v with
  | .slice (some a) n _ => match P.underlying t with | some (.slice e) => regElem P a n e i | _ => none
  | .pointer (some a) => match P.underlying t with | some (.array n e) => regElem P a n e i | _ => none
  | _ => none

def regSlice (P : Program) (H : Hp) (ev : Operand → Value) (o : Oper) (t : TypeId) (x : Operand) (lo hi mx : Option Operand) : Option Value :=
  match P.underlying t, ev x with
  | some (.slice e), .slice (some a) len cap =>
    match size? P e, H.get a.block, boundsA len cap (lo.map ev) (hi.map ev) (mx.map ev) with
    | some s, some (.cells _ E), some (l, h, m) => if E = e ∧ h ≤ m then some (.slice (some (a.add (l * s))) (h - l) (m - l)) else none
    | _, _, _ => none
  | some (.slice e), .slice none 0 0 =>
    match size? P e, boundsA 0 0 (lo.map ev) (hi.map ev) (mx.map ev) with | some _, some (0, 0, 0) => some (.slice none 0 0) | _, _ => none
  | some (.array n e), .pointer (some a) =>
    match size? P e, boundsA n n (lo.map ev) (hi.map ev) (mx.map ev) with
    | some s, some (l, h, m) => if m = l then none else some (.slice (some (a.add (l * s))) (h - l) (m - l))
    | _, _ => none
  | some .string, _ => regPlain P ev o
  | _, _ => none

def regNilCheck (v : Value) : Option Value :=
  match v with
  | .pointer (some a) => some (.pointer (some a))
  | .func (.func f) a b => some (.func (.func f) a b)
  | .func (.yield l) a b => some (.func (.yield l) a b)
  | _ => none

def regLen (P : Program) (t : TypeId) (v : Value) : Option Value :=
  match v with
  | .slice _ n _ => match P.underlying t with | some (.slice _) => some (.int .i64 n) | _ => none
  | .string s => match P.underlying t with | some .string => some (.int .i64 s.size) | _ => none
  | _ => match P.underlying t with | some (.array n _) => some (.int .i64 n) | _ => none

def regMin (l : List Value) : Option Value :=
  match l with
  | [.int k x, .int _ y] => some (.int k (match decide (y < x) with | true => y | false => x))
  | _ => none
def regMax (l : List Value) : Option Value :=
  match l with
  | [.int k x, .int _ y] => some (.int k (match decide (y > x) with | true => y | false => x))
  | [.int k x, .int _ y, .int _ z] => some (.int k (match decide (z > (match decide (y > x) with | true => y | false => x)) with | true => z | false => (match decide (y > x) with | true => y | false => x)))
  | _ => none

def regCall (P : Program) (ev : Operand → Value) (c : Call) : Option Value :=
  match c.callee with
  | .builtin b =>
    match b with
    | .len =>
      match c.argTypes[0]?, c.args[0]? with
      | some t, some x => regLen P t (ev x)
      | _, _ => none
    | .min => regMin (c.args.toList.map ev)
    | .max => regMax (c.args.toList.map ev)
    | _ => none
  | _ => none


def regBin (P : Program) (ev : Operand → Value) (o : Oper) (op : BinOp) (t : TypeId) (v u : Value) : Option Value :=
  match v with
  | .int k a =>
    match u with
    | .int k' b => match intBin op k k' a b with | some v => some v | none => regPlain P ev o
    | _ => none
  | .pointer (some _) => match u, P.underlying t with | .pointer none, some (.pointer _) => eqNil op | _, _ => none
  | .slice (some _) _ _ => match u, P.underlying t with | .slice none _ _, some (.slice _) => eqNil op | _, _ => none
  | .map (some _) => match u, P.underlying t with | .map none, some (.map _ _) => eqNil op | _, _ => none
  | .func _ _ _ => match u, P.underlying t with | .nilFunc, some (.func _ _ _) => eqNil op | _, _ => none
  | _ => regPlain P ev o

def regUn (P : Program) (ev : Operand → Value) (o : Oper) (op : UnOp) (v : Value) : Option Value :=
  match op, v with
  | .not, .bool b => some (.bool !b)
  | _, _ => regPlain P ev o

def regIndex (P : Program) (ev : Operand → Value) (o : Oper) (t : TypeId) (v i : Value) : Option Value :=
  match v, i with
  | .string s, .int _ n =>
    match P.underlying t, decide (0 ≤ n), s[n.toNat]? with
    | some .string, true, some b => some (.int .u8 b.toNat)
    | _, _, _ => none
  | _, _ => regPlain P ev o

def regConvert (P : Program) (ev : Operand → Value) (o : Oper) (src dst : TypeId) (v : Value) : Option Value :=
  match v with
  | .int _ n =>
    match P.underlying src, P.underlying dst with
    | some _, some (.int k) => some (.int k (k.wrap n))
    | _, _ => regPlain P ev o
  | _ => regPlain P ev o

/-- an operation that looks at no memory -/
def regOp (P : Program) (H : Hp) (ev : Operand → Value) (o : Oper) : Option Value :=
  match o.op with
  | .move x => some (ev x)
  | .assign x => some (ev x)
  | .pick c a b => regPick ev c a b
  | .makeFunc fn first captured => (match named fn with | true => some (.func fn ⟨first.toList.map ev⟩ ⟨captured.toList.map ev⟩) | false => none)
  | .extract t ix => regExtract (ev t) ix
  | .field xT x f => regField P xT (ev x) f
  | .build t parts => regBuild P ev t parts
  | .fieldAddr s x f => regFieldAddr P s (ev x) f
  | .indexAddr t x ix => regIndexAddr P t (ev x) (ev ix)
  | .slice t x lo hi mx => regSlice P H ev o t x lo hi mx
  | .nilCheck x => regNilCheck (ev x)
  | .call c => regCall P ev c
  | .binOp op t x y _ => regBin P ev o op t (ev x) (ev y)
  | .unOp op _ x => regUn P ev o op (ev x)
  | .convert src dst x => regConvert P ev o src dst (ev x)
  | .index t x i => regIndex P ev o t (ev x) (ev i)
  | .makeInterface _ _ => regPlain P ev o
  | _ => none

def keysPlain (es : List MapEntry) : Bool := es.all fun e => plain 3 e.key

def mapAt (H : Hp) (lim : Nat) (v : Value) : Option (List MapEntry) :=
  match v with
  | .map none => some []
  | .map (some r) =>
    match decide (r < lim) with
    | true => match H.get r with | some (.map es _) => some es | _ => none
    | false => none
  | _ => none

def found (z : Value) (ok : Bool) (r : Option (Nat × Value)) : Value :=
  match r with
  | some (_, v) => (match ok with | true => .tuple ⟨[v, .bool true]⟩ | false => v)
  | none => (match ok with | true => .tuple ⟨[z, .bool false]⟩ | false => z)

def rdLookup (P : Program) (H : Hp) (lim : Nat) (xT : TypeId) (m k : Value) (ok : Bool) : Option Value :=
  match P.underlying xT with
  | some (.map key elem) =>
    match mapAt H lim m, zero? P elem with
    | some es, some z =>
      match plain 3 k && keysPlain es with
      | true =>
        match pureRun P (Instr.checkKey es.isEmpty 10000 key k), pureRun P (Instr.findKey key k es) with
        | some (), some r => some (found z ok r)
        | _, _ => none
      | false => none
    | _, _ => none
  | _ => none

def rdLen (P : Program) (H : Hp) (lim : Nat) (t : TypeId) (v : Value) : Option Value :=
  match P.underlying t with
  | some (.map _ _) => match mapAt H lim v with | some es => some (.int .i64 es.length) | none => none
  | _ => none

def rdCall (P : Program) (H : Hp) (lim : Nat) (ev : Operand → Value) (c : Call) : Option Value :=
  match c.callee with
  | .builtin b =>
    match b with
    | .len =>
      match c.argTypes[0]?, c.args[0]? with
      | some t, some x => rdLen P H lim t (ev x)
      | _, _ => none
    | _ => none
  | _ => none

def rdLoad (P : Program) (H : Hp) (lim : Nat) (t : TypeId) (v : Value) : Option Value :=
  match v with
  | .pointer (some a) => loadA P H lim t a
  | _ => none

/-- an operation that reads memory, of the blocks below 'lim' -/
def rdOp (P : Program) (H : Hp) (lim : Nat) (ev : Operand → Value) (o : Oper) : Option Value :=
  match o.op with
  | .load t x => rdLoad P H lim t (ev x)
  | .lookup xT x ix ok => rdLookup P H lim xT (ev x) (ev ix) ok
  | .call c => rdCall P H lim ev c
  | _ => none

def newCells (H : Hp) (id : Nat) (l : List Value) (e : TypeId) : Option (Value × Hp) :=
  match anew H id (.cells l e) with
  | some H' => some (.pointer (some ⟨id, 0, none⟩), H')
  | none => none

def newRowA (H : Hp) (id : Nat) (l : List Value) (e : TypeId) (n : Nat) : Option (Value × Hp) :=
  match anew H id (.cells l e) with
  | some H' => some (.slice (some ⟨id, 0, none⟩) n n, H')
  | none => none

def wrAlloc (P : Program) (H : Hp) (id : Nat) (elem : TypeId) : Option (Value × Hp) :=
  match zero? P elem with
  | some z => newCells H id z.cells.toList elem
  | none => none

def zerosOf (n : Nat) (z : Value) (m : Nat) : Array Value := (Array.range m).map ((if n = 0 then #[] else z.cells)[· % (if n = 0 then #[] else z.cells).size]!)

def wrBuildSlice (P : Program) (H : Hp) (id : Nat) (ev : Operand → Value) (t : TypeId) (len : Nat) (parts : Array (Nat × Operand)) : Option (Value × Hp) :=
  match P.underlying t with
  | some (.slice e) =>
    match size? P e, zero? P e with
    | some n, some z =>
      if len * n > 2 ^ 24 then none else
      match Instr.fill (fun i => some (i * n, n)) (zerosOf (len * n) z (len * n)) (parts.toList.map fun ix => (ix.1, ev ix.2)) with
      | some cells => newRowA H id cells.toList e len
      | none => none
    | _, _ => none
  | _ => none

def wrStore (P : Program) (H : Hp) (t : TypeId) (x v : Value) : Option (Value × Hp) :=
  match x with
  | .pointer (some a) => match storeA P H t a v with | some H' => some (undef, H') | none => none
  | _ => none

def wrMakeMap (H : Hp) (id : Nat) : Option (Value × Hp) :=
  match anew H id (.map [] 0) with
  | some H' => some (.map (some id), H')
  | none => none

def putKey (H : Hp) (r : Nat) (es : List MapEntry) (clock : Nat) (k v : Value) (at_ : Option (Nat × Value)) : Option (Value × Hp) :=
  match at_ with
  | some (i, _) =>
    match es[i]? with
    | some e => if Instr.sameBits 10000 e.key k then some (undef, H.set r (.map (es.set i { e with key := k, val := v }) clock)) else none
    | none => none
  | none => some (undef, H.set r (.map (es ++ [⟨k, v, clock⟩]) (clock + 1)))

def wrMapUpdate (P : Program) (H : Hp) (t : TypeId) (m k v : Value) : Option (Value × Hp) :=
  match m with
  | .map (some r) =>
    match P.underlying t, H.get r with
    | some (.map key _), some (.map es clock) =>
      match decide (H.lo ≤ r) && decide (r < 2 ^ 39) && plain 3 k && keysPlain es with
      | true =>
        match pureRun P (Instr.checkKey false 10000 key k), pureRun P (Instr.findKey key k es) with
        | some (), some at_ => putKey H r es clock k v at_
        | _, _ => none
      | false => none
    | _, _ => none
  | _ => none

def wrMakeSlice (P : Program) (H : Hp) (id : Nat) (t : TypeId) (l m : Value) : Option (Value × Hp) :=
  match l, m with
  | .int _ x, .int _ y =>
    match P.underlying t with
    | some (.slice e) =>
      match P.info? e, zero? P e with
      | some i, some z =>
        if 0 ≤ x ∧ x ≤ y ∧ y < 2 ^ 40 ∧ i.bytes * y.toNat ≤ 2 ^ 48 then
          match anew H id (.cells (zerosOf (y.toNat * i.size) z (y.toNat * i.size)).toList e) with
          | some H' => some (.slice (some ⟨id, 0, none⟩) x.toNat y.toNat, H')
          | none => none
        else none
      | _, _ => none
    | _ => none
  | _, _ => none

/-- what is appended: how many, and their cells -/
def source (H : Hp) (size : Nat) (v : Value) : Option (Nat × List Value) :=
  match v with
  | .slice (some a) n _ => match readN H H.next a (n * size) with | some l => some (n, l) | none => none
  | .slice none 0 _ => some (0, [])
  | .string b => if size = 1 then some (b.size, b.data.toList.map fun u => Value.int .u8 u.toNat) else none
  | _ => none

def appendTo (H : Hp) (id : Nat) (e : TypeId) (size bytes : Nat) (s : Value) (n : Nat) (new : List Value) : Option (Value × Hp) :=
  match s with
  | .slice none 0 0 =>
    if n = 0 then some (.slice none 0 0, H)
    else if n * bytes > 2 ^ 46 then none
    else newRowA H id new e n
  | .slice (some a) len cap =>
    if n = 0 then (if len ≤ cap then some (.slice (some a) len cap, H) else none)
    else if len + n ≤ cap then (if new.all one then match writeN H (a.add (len * size)) new with | some H' => some (.slice (some a) (len + n) cap, H') | none => none else none)
    else if (len + n) * bytes > 2 ^ 46 then none
    else if a.spot.isSome then none
    else
      match H.get a.block, readN H H.next a (len * size) with
      | some (.cells cs E), some old =>
        if E = e then
          if a.off + cap * size ≠ cs.length then newRowA H id (old ++ new) e (len + n)
          else if H.lo ≤ a.block ∧ a.block < 2 ^ 39 ∧ a.block ≠ id ∧ new.all one = true then newRowA (H.set a.block .dead) id (old ++ new) e (len + n)
          else none
        else none
      | _, _ => none
  | _ => none

def wrAppend (P : Program) (H : Hp) (id : Nat) (t : TypeId) (u : Option TypeId) (s x : Value) : Option (Value × Hp) :=
  match P.underlying t with
  | some (.slice e) =>
    match (match u with | some u => (match P.underlying u with | some (.int _) => false | some _ => true | none => false) | none => true), P.info? e, zero? P e with
    | true, some i, some z =>
      if i.size = 0 ∨ i.bytes = 0 ∨ z.cells.size ≠ i.size then none else
      match source H i.size x with
      | some (n, new) => appendTo H id e i.size i.bytes s n new
      | none => none
    | _, _, _ => none
  | _ => none

def wrCall (P : Program) (H : Hp) (id : Nat) (ev : Operand → Value) (c : Call) : Option (Value × Hp) :=
  match c.callee with
  | .builtin b =>
    match b with
    | .append =>
      match c.argTypes[0]?, c.args[0]?, c.args[1]? with
      | some t, some s, some x => wrAppend P H id t c.argTypes[1]? (ev s) (ev x)
      | _, _, _ => none
    | _ => none
  | _ => none

/-- an operation that makes or writes memory -/
def wrOp (P : Program) (H : Hp) (id : Nat) (ev : Operand → Value) (o : Oper) : Option (Value × Hp) :=
  match o.op with
  | .alloc elem => wrAlloc P H id elem
  | .box elem x => newCells H id (ev x).cells.toList elem
  | .buildSlice t len parts => wrBuildSlice P H id ev t len parts
  | .store t x v => wrStore P H t (ev x) (ev v)
  | .makeMap _ none => wrMakeMap H id
  | .mapUpdate t m k v => wrMapUpdate P H t (ev m) (ev k) (ev v)
  | .makeSlice t l m => wrMakeSlice P H id t (ev l) (ev m)
  | .call c => wrCall P H id ev c
  | _ => none

end Go.Ab
namespace Go.Ab
open Go Go.RowKit

structure AS where
  t : Tm
  h : Hp

def aput (t : Tm) (dst : Option Tmp) (v : Value) : Tm :=
  match dst with
  | some d => Tre.set 16 t d v
  | none => t

def ayielded (ops : Array Oper) (t : Tm) (j : Nat) : Option Bool :=
  match (ops[j]?).bind (·.dst) with
  | some d => (match getT t d with | .bool b => some b | _ => none)
  | none => none

/-- what is asked of a region's text: its operands, its temporaries -/
def okOps (n : Nat) (ops : Array Oper) : Bool :=
  ops.toList.all fun o => o.op.operands.toList.all (okOpd n) && (match o.dst with | some d => decide (d < n) && decide (d < 2 ^ 15) | none => true) &&
    (match o.guard with | some (j, _) => (match (ops[j]?).bind (·.dst) with | some d => decide (d < n) | none => true) | none => true)

/-- the function that a call enters, and its arguments -/
def callee? (ev : Operand → Value) (o : Oper) : Option (FuncId × List Value) :=
  match o.op with
  | .call c =>
    match c.callee with
    | .value f =>
      match ev f with
      | .func (.func g) first captured => some (g, first.toList ++ c.args.toList.map ev ++ captured.toList)
      | _ => none
    | _ => none
  | _ => none

abbrev CF := FuncId → List Value → Hp → Option (Value × Hp)

/-- a function with a body that is entered -/
def enters (P : Program) (f : FuncId) : Bool :=
  match P.funcs[f]? with
  | some fn => fn.name != "runtime.NumGoroutine" && fn.body.isSome
  | none => false

/-- operation number i, whatever it is -/
def opA (P : Program) (cf : CF) (lim : Nat) (id : Nat) (o : Oper) (s : AS) : Option AS :=
  match regOp P s.h (aev s.t) o with
  | some v => some ⟨aput s.t o.dst v, s.h⟩
  | none =>
    match rdOp P s.h lim (aev s.t) o with
    | some v => some ⟨aput s.t o.dst v, s.h⟩
    | none =>
      match wrOp P s.h id (aev s.t) o with
      | some (v, h) => some ⟨aput s.t o.dst v, h⟩
      | none =>
        match callee? (aev s.t) o with
        | some (f, args) =>
          match enters P f with
          | true => (match cf f args s.h with | some (v, h) => some ⟨aput s.t o.dst v, h⟩ | none => none)
          | false => none
        | none => none

def stepA (P : Program) (cf : CF) (ops : Array Oper) (lim : Nat) (id : Nat) (i : Nat) (s : AS) : Option AS :=
  match ops[i]? with
  | none => some s
  | some o =>
    if Region.wanted o (ayielded ops s.t) then opA P cf lim id o s
    else some ⟨aput s.t o.dst undef, s.h⟩

def seqA (P : Program) (cf : CF) (ops : Array Oper) : List Nat → AS → Option AS
  | [], s => some s
  | i :: rest, s =>
    match stepA P cf ops s.h.next s.h.next i s with
    | some s' => seqA P cf ops rest s'
    | none => none

/-- a quick one: what it yields hangs on the frame and on old blocks alone -/
def quickA (P : Program) (ops : Array Oper) (i : Nat) (s : AS) : Option AS :=
  match ops[i]? with
  | none => none
  | some o =>
    if Region.wanted o (ayielded ops s.t) then
      match regOp P s.h (aev s.t) o with
      | some v => some ⟨aput s.t o.dst v, s.h⟩
      | none =>
        match rdOp P s.h s.h.lo (aev s.t) o with
        | some v => some ⟨aput s.t o.dst v, s.h⟩
        | none => none
    else some ⟨aput s.t o.dst undef, s.h⟩

/-- a quick one that looks at no memory -/
def quickR (P : Program) (ops : Array Oper) (i : Nat) (s : AS) : Option AS :=
  match ops[i]? with
  | none => none
  | some o =>
    if Region.wanted o (ayielded ops s.t) then
      match regOp P s.h (aev s.t) o with
      | some v => some ⟨aput s.t o.dst v, s.h⟩
      | none => none
    else some ⟨aput s.t o.dst undef, s.h⟩

def veq : Nat → Value → Value → Bool
  | _, .bool a, .bool b => a == b
  | _, .int j a, .int k b => j == k && a == b
  | _, .string a, .string b => a.data.toList == b.data.toList
  | _, .pointer a, .pointer b => a == b
  | _, .slice a m c, .slice b n d => a == b && m == n && c == d
  | _, .map a, .map b => a == b
  | _, .nilFunc, .nilFunc => true
  | _, .nilIface, .nilIface => true
  | n + 1, .iface t v, .iface u w => t == u && veq n v w
  | n + 1, .agg a, .agg b => veqs n a.toList b.toList
  | n + 1, .tuple a, .tuple b => veqs n a.toList b.toList
  | n + 1, .func f a b, .func g c d => f == g && veqs n a.toList c.toList && veqs n b.toList d.toList
  | _, _, _ => false
where
  veqs (n : Nat) : List Value → List Value → Bool
    | [], [] => true
    | x :: l, y :: m => veq n x y && veqs n l m
    | _, _ => false

def eeq : List MapEntry → List MapEntry → Bool
  | [], [] => true
  | x :: l, y :: m => veq 4 x.key y.key && veq 4 x.val y.val && x.born == y.born && eeq l m
  | _, _ => false

def beqB : Option Blk → Option Blk → Bool
  | none, none => true
  | some .dead, some .dead => true
  | some (.cells c E), some (.cells d F) => E == F && veq.veqs 4 c d
  | some (.map a c), some (.map b d) => eeq a b && c == d
  | some (.iter a c), some (.iter b d) => a.data.toList == b.data.toList && c == d
  | some .hull, some .hull => true
  | some (.loop s none _ _ _ _ _), some (.loop t none _ _ _ _ _) => s == t
  | _, _ => false

def heapEq (H H' : Hp) : Bool :=
  H.lo == H'.lo && H.next == H'.next && (List.range (H.next - H.lo)).all fun j => beqB (H.get (H.lo + j)) (H'.get (H.lo + j))

def teq : Tm → Tm → Bool
  | .e, .e => true
  | .n (some v) l r, .n (some u) l' r' => veq 4 v u && teq l l' && teq r r'
  | .n none l r, .n none l' r' => teq l l' && teq r r'
  | _, _ => false

def asEq (s s' : AS) : Bool := teq s.t s'.t && heapEq s.h s'.h

/-- may be quick, by its kind -/
def mayQuick (o : Oper) : Bool :=
  match o.op with
  | .alloc _ => false
  | .box _ _ => false
  | .buildSlice _ _ _ => false
  | .store _ _ _ => false
  | .makeMap _ _ => false
  | .makeSlice _ _ _ => false
  | .mapUpdate _ _ _ _ => false
  | .call c => (match c.callee with | .builtin .len => true | .builtin .min => true | .builtin .max => true | _ => false)
  | _ => true

/-- in which orders a region's operations are tried: one first, or each -/
inductive Plan where
  | done
  | take (i : Nat) (rest : Plan)
  | takeR (i : Nat) (rest : Plan)
  | each (l : List (Nat × Plan))
  | stop

/-- may be taken first -/
def firstA (ops : Array Oper) (listed : Array Bool) (j : Nat) : Bool := Region.free .any ops listed j && (match ops[j]? with | some o => mayQuick o | none => false)

/-- one of several -/
def pick1 (p : Nat → Bool) : List Nat → Option Nat
  | [_] => none
  | l => l.find? p

def planA (ops : Array Oper) : Nat → Array Bool → Plan
  | 0, listed => match Region.ready .any ops listed with | [] => .done | _ => .stop
  | f + 1, listed =>
    match Region.ready .any ops listed with
    | [] => .done
    | i :: rs =>
      match pick1 (firstA ops listed) (i :: rs) with
      | some j => .take j (planA ops f (listed.setIfInBounds j true))
      | none => .each ((i :: rs).map fun j => (j, planA ops f (listed.setIfInBounds j true)))

/-- whatever order a region draws: the quick ones first; the others in every order, all to one end -/
def drawA (P : Program) (cf : CF) (ops : Array Oper) (base : Nat) : Nat → Plan → AS → Option AS
  | 0, p, s => match p with | .done => some s | _ => none
  | f + 1, p, s =>
    match p with
    | .done => some s
    | .stop => none
    | .take i rest =>
      match quickA P ops i s with
      | some s' => drawA P cf ops base f rest s'
      | none => none
    | .takeR i rest =>
      match quickR P ops i s with
      | some s' => drawA P cf ops base f rest s'
      | none => none
    | .each l =>
      match l.map fun ip => match stepA P cf ops s.h.next (base + ip.1) ip.1 s with
        | some s' => drawA P cf ops base f ip.2 s'
        | none => none with
      | some e :: more => match more.all (fun x => match x with | some e' => asEq e e' | none => false) with | true => some e | false => none
      | _ => none

/-- all quick, in the order of the text -/
def lexA (P : Program) (ops : Array Oper) : Nat → Nat → AS → Option AS
  | 0, _, s => some s
  | f + 1, k, s =>
    match quickA P ops k s with
    | some s' => lexA P ops f (k + 1) s'
    | none => none

/-! a region whose last operation writes old blocks -/

def depsOf (ops : Array Oper) (j : Nat) : List Nat :=
  match ops[j]? with
  | some o => (o.after.toList.filter (Region.binds .any)).map (·.on)
  | none => []

def passA (ops : Array Oper) : Nat → List Nat → List Nat
  | 0, l => l
  | j + 1, l => if l.contains j then passA ops j (depsOf ops j ++ l) else passA ops j l

/-- what stands before the last -/
def under (ops : Array Oper) (last : Nat) : List Nat := passA ops (last + 1) [last]

/-- looks at no memory, by its kind -/
def memless (o : Oper) : Bool :=
  match o.op with
  | .load _ _ => false
  | .lookup _ _ _ _ => false
  | .call _ => false
  | _ => true

def isWrite (o : Oper) : Bool :=
  match o.op with
  | .store _ _ _ => true
  | .mapUpdate _ _ _ _ => true
  | _ => false

def tailOk (ops : Array Oper) : Bool :=
  match ops[ops.size - 1]? with
  | some o => isWrite o && (List.range (ops.size - 1)).all fun j => match ops[j]? with | some o => !isWrite o | none => true
  | none => false

def firstT (ops : Array Oper) (below : List Nat) (listed : Array Bool) (j : Nat) : Bool :=
  firstA ops listed j && (below.contains j || (match ops[j]? with | some o => memless o | none => false))

def planT (ops : Array Oper) (last : Nat) (below : List Nat) : Nat → Array Bool → Plan
  | 0, _ => .stop
  | f + 1, listed =>
    match Region.ready .any ops listed with
    | [] => .stop
    | i :: rs =>
      match (i == last && rs.isEmpty) && (Region.ready .any ops (listed.setIfInBounds last true)).isEmpty with
      | true => .done
      | false =>
        match pick1 (firstT ops below listed) (i :: rs) with
        | some j =>
          match below.contains j with
          | true => .take j (planT ops last below f (listed.setIfInBounds j true))
          | false => .takeR j (planT ops last below f (listed.setIfInBounds j true))
        | none => if (i :: rs).contains last then .stop else .each ((i :: rs).map fun j => (j, planT ops last below f (listed.setIfInBounds j true)))

/-- nothing is taken first that looks at memory -/
def planF (ops : Array Oper) : Nat → Array Bool → Plan
  | 0, listed => match Region.ready .any ops listed with | [] => .done | _ => .stop
  | f + 1, listed =>
    match Region.ready .any ops listed with
    | [] => .done
    | i :: rs =>
      match pick1 (firstT ops [] listed) (i :: rs) with
      | some j => .takeR j (planF ops f (listed.setIfInBounds j true))
      | none => .each ((i :: rs).map fun j => (j, planF ops f (listed.setIfInBounds j true)))

/-- the states behind one more operation, and what is listed there -/
def succC (P : Program) (cf : CF) (ops : Array Oper) (base : Nat) (x : Array Bool × AS) : Option (List (Array Bool × AS)) :=
  match Region.ready .any ops x.1 with
  | [] => none
  | i :: rs =>
    match pick1 (firstA ops x.1) (i :: rs) with
    | some j => (match quickA P ops j x.2 with | some s => some [(x.1.setIfInBounds j true, s)] | none => none)
    | none => (i :: rs).mapM fun j => match stepA P cf ops x.2.h.next (base + j) j x.2 with | some s => some (x.1.setIfInBounds j true, s) | none => none

/-- one more state; two at which the same is listed must be the same -/
def putC (x : Array Bool × AS) : List (Array Bool × AS) → Option (List (Array Bool × AS))
  | [] => some [x]
  | y :: l =>
    match y.1.toList == x.1.toList with
    | true => (match asEq y.2 x.2 with | true => some (y :: l) | false => none)
    | false => (match putC x l with | some l' => some (y :: l') | none => none)

def putsC : List (Array Bool × AS) → List (Array Bool × AS) → Option (List (Array Bool × AS))
  | [], l => some l
  | x :: xs, l => (match putC x l with | some l' => putsC xs l' | none => none)

def levelC (P : Program) (cf : CF) (ops : Array Oper) (base : Nat) : List (Array Bool × AS) → List (Array Bool × AS) → Option (List (Array Bool × AS))
  | [], acc => some acc
  | x :: l, acc =>
    match succC P cf ops base x with
    | some ys => (match putsC ys acc with | some acc' => levelC P cf ops base l acc' | none => none)
    | none => none

/-- every order of a region that draws: orders that come to one state are walked on once -/
def drawC (P : Program) (cf : CF) (ops : Array Oper) (base : Nat) : Nat → List (Array Bool × AS) → Option AS
  | 0, l => (match l with | [x] => (match Region.ready .any ops x.1 with | [] => some x.2 | _ => none) | _ => none)
  | f + 1, l => (match levelC P cf ops base l [] with | some l' => drawC P cf ops base f l' | none => none)

def regionA (P : Program) (cf : CF) (nt : Nat) (ops : Array Oper) (draw : Bool) (s : AS) : Option AS :=
  match okOps nt ops with
  | false => none
  | true =>
    match draw with
    | false => seqA P cf ops (List.range ops.size) s
    | true =>
      match P.follows .mixedOrders && Region.noSelect ops with
      | false => none
      | true =>
        match Region.lexB .any ops && ops.toList.all mayQuick with
        | true =>
          match lexA P ops ops.size 0 ⟨s.t, { s.h with lo := s.h.next }⟩ with
          | some s' => some ⟨s'.t, { s'.h with lo := s.h.lo }⟩
          | none => none
        | false =>
          match tailOk ops with
          | true =>
            match drawA P cf ops s.h.next ops.size (planT ops (ops.size - 1) (under ops (ops.size - 1)) ops.size (Array.replicate ops.size false)) ⟨s.t, { s.h with lo := s.h.next, next := s.h.next + ops.size }⟩ with
            | some s' => stepA P cf ops s'.h.next s'.h.next (ops.size - 1) ⟨s'.t, { s'.h with lo := s.h.lo }⟩
            | none => none
          | false =>
            match drawC P cf ops s.h.next ops.size [(Array.replicate ops.size false, ⟨s.t, { s.h with lo := s.h.next, next := s.h.next + ops.size }⟩)] with
            | some s' => some ⟨s'.t, { s'.h with lo := s.h.lo }⟩
            | none => drawA P cf ops s.h.next ops.size (planF ops ops.size (Array.replicate ops.size false)) ⟨s.t, { s.h with next := s.h.next + ops.size }⟩

inductive Ex where
  | norm
  | exit (id : Nat)
  | ret

def fromList : Nat → List Value → Tre Value → Tre Value
  | _, [], t => t
  | k, x :: l, t => fromList (k + 1) l (t.set 16 k x)

/-- a frame's state, and its marks -/
abbrev CS := AS × List Nat

def iterA (f : CS → Option (Ex × CS)) : Nat → CS → Option (Ex × CS)
  | 0, _ => none
  | n + 1, s =>
    match f s with
    | some (.norm, s') => iterA f n s'
    | r => r

/-- the loop of a call of a round, and its arguments -/
def yield? (ev : Operand → Value) (o : Oper) : Option (Nat × List Value) :=
  match o.op with
  | .call c =>
    match c.callee with
    | .value f =>
      match ev f with
      | .func (.yield l) _ _ => some (l, c.args.toList.map ev)
      | _ => none
    | _ => none
  | _ => none

abbrev YF := Nat → List Value → Hp → Option (Value × Hp)

/-- a region in the order of its text, rounds among its calls -/
def seqY (P : Program) (cf : CF) (yf : YF) (ops : Array Oper) : List Nat → AS → Option AS
  | [], s => some s
  | i :: rest, s =>
    match ops[i]? with
    | none => none
    | some o =>
      match (if Region.wanted o (ayielded ops s.t) then yield? (aev s.t) o else none) with
      | some (l, args) => (match yf l args s.h with | some (v, h) => seqY P cf yf ops rest ⟨aput s.t o.dst v, h⟩ | none => none)
      | none => (match stepA P cf ops s.h.next s.h.next i s with | some s' => seqY P cf yf ops rest s' | none => none)

def noDefer (ops : Array Oper) : Bool := ops.toList.all fun o => match o.op with | .defer _ => false | _ => true

def regionY (P : Program) (cf : CF) (yf : YF) (nt : Nat) (ops : Array Oper) (draw : Bool) (s : AS) : Option AS :=
  match noDefer ops with
  | false => none
  | true =>
    match draw with
    | false => (match okOps nt ops with | true => seqY P cf yf ops (List.range ops.size) s | false => none)
    | true => regionA P cf nt ops true s

/-- behind a range over a function: the jump that a round has left -/
def jumpA (pe : Option Code) : Option Ex :=
  match pe with
  | none => some .norm
  | some (.exit id) => some (.exit id)
  | some .ret => some .ret
  | _ => none

def rangeA (P : Program) (cf : CF) (nt : Nat) (v : Value) (ps : Array Tmp) (assign body : Code) (s : CS) : Option (Ex × CS) :=
  match v with
  | .func (.func gf) f c =>
    match enters P gf, anew s.1.h s.1.h.next .hull with
    | true, some h1 =>
      match anew h1 h1.next (.loop .ready none nt s.1.t ps assign body) with
      | some h2 =>
        match cf gf (f.toList ++ [.func (.yield h1.next) #[] #[]] ++ c.toList) h2 with
        | some (_, h3) =>
          match h3.get h1.next, Nat.ble h3.lo h1.next with
          | some (.loop st pe _ _ _ _ _), true =>
            match st, jumpA pe with
            | .busy, _ => none
            | _, some x => some (x, ⟨s.1.t, h3.set h1.next .dead⟩, s.1.h.next :: s.2)
            | _, none => none
          | _, _ => none
        | none => none
      | none => none
    | _, _ => none
  | _ => none

/-- 'rd': in a round -/
def codeA (P : Program) (cf : CF) (yf : YF) (rd : Bool) (nt n : Nat) : Code → CS → Option (Ex × CS)
  | .skip, s => some (.norm, s)
  | .label _, s => some (.norm, s)
  | .region _ ops draw, s => (regionY P cf yf nt ops draw s.1).map fun s' => (.norm, s', s.2)
  | .seq a b, s =>
    match codeA P cf yf rd nt n a s with
    | some (.norm, s') => codeA P cf yf rd nt n b s'
    | r => r
  | .cond c x y, s =>
    match okOpd nt c with
    | true =>
      match aev s.1.t c with
      | .bool true => codeA P cf yf rd nt n x s
      | .bool false => codeA P cf yf rd nt n y s
      | _ => none
    | false => none
  | .block id body, s =>
    match codeA P cf yf rd nt n body s with
    | some (.exit j, s') => if j = id then some (.norm, s') else some (.exit j, s')
    | r => r
  | .loop body, s => iterA (codeA P cf yf rd nt n body) n s
  | .exit id, s => some (.exit id, s)
  | .ret, s => some (.ret, s)
  | .rangeFunc g ps assign body, s =>
    match rd || !okOpd nt g with
    | false => rangeA P cf nt (aev s.1.t g) ps assign body s
    | true => none
  | _, _ => none

def resultA (P : Program) (nt : Nat) (s : AS) : ResultVar → Option Value
  | .tmp t => (match decide (t < nt) with | true => some (getT s.t t) | false => none)
  | .cell a t =>
    match decide (a < nt), getT s.t a with
    | true, .pointer (some a) => loadA P s.h s.h.next t a
    | _, _ => none

def resultsA (P : Program) (nt : Nat) (s : AS) : List ResultVar → Option (List Value)
  | [] => some []
  | r :: rest =>
    match resultA P nt s r, resultsA P nt s rest with
    | some v, some vs => some (v :: vs)
    | _, _ => none

def packA : List Value → Value
  | [v] => v
  | vs => .tuple ⟨vs⟩

/-- functions whose answer is known: no memory is touched but new one -/
abbrev Prim := FuncId → List Value → Option Value

/-- the marks are come to -/
def killA : List Nat → Hp → Option Hp
  | [], h => some h
  | d :: ds, h =>
    match h.get d, Nat.ble h.lo d && decide (d < 2 ^ 39) with
    | some .hull, true => killA ds (h.set d .dead)
    | _, _ => none

/-- yield's arguments in a round's temporaries -/
def paramsA (nt : Nat) : List Tmp → List Value → Tm → Option Tm
  | [], [], t => some t
  | p :: ps, v :: vs, t => if p < nt ∧ p < 2 ^ 15 then paramsA nt ps vs (Tre.set 16 t p v) else none
  | _, _, _ => none

def backA (l : Nat) (x : Ex) (h : Hp) : Option (Value × Hp) :=
  match h.get l, Nat.ble h.lo l with
  | some (.loop .busy _ nt t ps assign body), true =>
    match x with
    | .norm => some (.bool true, h.set l (.loop .ready none nt t ps assign body))
    | .ret => some (.bool false, h.set l (.loop .done (some .ret) nt t ps assign body))
    | .exit id => some (.bool false, h.set l (.loop .done (some (.exit id)) nt t ps assign body))
  | _, _ => none

/-- a round -/
def roundA (P : Program) (cf : CF) (yf : YF) (n : Nat) : YF := fun l args h =>
  match h.get l with
  | some (.loop .ready _ nt t ps assign body) =>
    match paramsA nt ps.toList args t with
    | none => none
    | some t1 =>
      match codeA P cf yf true nt n assign (⟨t1, h⟩, []) with
      | some (.norm, s1) =>
        match s1.1.h.get l, decide (l < 2 ^ 39) && Nat.ble s1.1.h.lo l with
        | some (.loop .ready pe nt' t' ps' assign' body'), true =>
          match codeA P cf yf true nt n body (⟨s1.1.t, s1.1.h.set l (.loop .busy pe nt' t' ps' assign' body')⟩, s1.2) with
          | some (x, s2) => backA l x s2.1.h
          | none => none
        | _, _ => none
      | _ => none
  | _ => none

/-- a function's body -/
def bodyA (P : Program) (r : CF × YF) (n : Nat) (fn : Func) (c : Code) (args : List Value) (h : Hp) : Option (Value × Hp) :=
  match decide (args.length ≤ fn.ntmps) && decide (fn.ntmps ≤ 2 ^ 15) with
  | false => none
  | true =>
  match (match codeA P r.1 r.2 false fn.ntmps n c (⟨fromList 0 args .e, h⟩, []) with
    | some (.norm, s) => some s
    | some (.ret, s) => some s
    | _ => none) with
  | some s => (match killA s.2 s.1.h with | some h' => (resultsA P fn.ntmps ⟨s.1.t, h'⟩ fn.results.toList).map fun vs => (packA vs, h') | none => none)
  | none => none

/-- the functions whose answer is known, those that write no memory but their own, and those whose answer is known of the memory -/
structure Known where
  pr : Prim
  own : FuncId → Bool
  mem : FuncId → List Value → Hp → Option Value := fun _ _ _ => none

/-- a call, or a round -/
def allA (P : Program) (kn : Known) (n : Nat) : Nat → CF × YF
  | 0 => (fun _ _ _ => none, fun _ _ _ => none)
  | d + 1 =>
    let r := allA P kn n d
    (fun f args h =>
      match kn.pr f args with
      | some v => some (v, h)
      | none =>
      match kn.mem f args h with
      | some v => some (v, h)
      | none =>
      match P.funcs[f]? with
      | none => none
      | some fn =>
        match fn.body with
        | none => none
        | some c =>
          match kn.own f with
          | true => (match bodyA P r n fn c args { h with lo := h.next, next := h.next + 0 } with | some (v, h') => some (v, { h' with lo := h.lo }) | none => none)
          | false => bodyA P r n fn c args h,
     roundA P r.1 r.2 n)

def callA (P : Program) (kn : Known) (n d : Nat) : CF := (allA P kn n d).1

end Go.Ab
