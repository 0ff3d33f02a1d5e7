/- An abstract reading of memory, over which a closed call is reckoned: values, renamings, the heap. -/
import Derived.Calls
import Derived.Below
import Derived.Laws.Sem
import Derived.Laws.World
namespace Go.Ab
open Go Go.RowKit

/-- where an abstract block lies: the real block, how far its cells are shifted there; of a row whose end is open: the cells of an element, the abstract end, the real end -/
structure Place where
  real : Nat
  shift : Nat
  tl : Option (Nat × Nat × Nat)

abbrev Ren := Nat → Option Place

def AR (ρ : Ren) (a a' : Addr) : Prop :=
  a.spot = none ∧ a'.spot = none ∧ ∃ p, ρ a.block = some p ∧ a'.block = p.real ∧ a'.off = a.off + p.shift

def CapOk (ρ : Ren) (a a' : Addr) (c c' : Nat) : Prop :=
  c' = c ∨ ∃ p es N M, ρ a.block = some p ∧ p.tl = some (es, N, M) ∧ a.off + c * es = N ∧ a'.off + c' * es = M ∧ c ≤ c'

mutual
inductive VR (ρ : Ren) : Value → Value → Prop
  | bool (b) : VR ρ (.bool b) (.bool b)
  | int (k n) : VR ρ (.int k n) (.int k n)
  | float (k n) : VR ρ (.float k n) (.float k n)
  | complex (k n m) : VR ρ (.complex k n m) (.complex k n m)
  | string (s) : VR ρ (.string s) (.string s)
  | ptr0 : VR ρ (.pointer none) (.pointer none)
  | ptr {a a'} : AR ρ a a' → VR ρ (.pointer (some a)) (.pointer (some a'))
  | sl0 (n c) : VR ρ (.slice none n c) (.slice none n c)
  | sl {a a' n c c'} : AR ρ a a' → CapOk ρ a a' c c' → VR ρ (.slice (some a) n c) (.slice (some a') n c')
  | sle (a a') : VR ρ (.slice (some a) 0 0) (.slice (some a') 0 0)
  | map0 : VR ρ (.map none) (.map none)
  | map {r p} : ρ r = some p → VR ρ (.map (some r)) (.map (some p.real))
  | func (fn) {f f' c c'} : VRs ρ f f' → VRs ρ c c' → VR ρ (.func fn ⟨f⟩ ⟨c⟩) (.func fn ⟨f'⟩ ⟨c'⟩)
  | nilFunc : VR ρ .nilFunc .nilFunc
  | nilIface : VR ρ .nilIface .nilIface
  | iface (t) {v v'} : VR ρ v v' → VR ρ (.iface t v) (.iface t v')
  | agg {c c'} : VRs ρ c c' → VR ρ (.agg ⟨c⟩) (.agg ⟨c'⟩)
  | tuple {c c'} : VRs ρ c c' → VR ρ (.tuple ⟨c⟩) (.tuple ⟨c'⟩)
inductive VRs (ρ : Ren) : List Value → List Value → Prop
  | nil : VRs ρ [] []
  | cons {v v' l l'} : VR ρ v v' → VRs ρ l l' → VRs ρ (v :: l) (v' :: l')
end

/-- no address in it -/
def plain : Nat → Value → Bool
  | _, .bool _ => true
  | _, .int _ _ => true
  | _, .float _ _ => true
  | _, .complex _ _ _ => true
  | _, .string _ => true
  | _, .pointer none => true
  | _, .slice none _ _ => true
  | _, .map none => true
  | _, .nilFunc => true
  | _, .nilIface => true
  | n + 1, .agg cs => cs.toList.all (plain n)
  | n + 1, .tuple cs => cs.toList.all (plain n)
  | n + 1, .iface _ v => plain n v
  | n + 1, .func _ f c => f.toList.all (plain n) && c.toList.all (plain n)
  | _, _ => false

theorem VRs.length {ρ : Ren} : ∀ {l l' : List Value}, VRs ρ l l' → l'.length = l.length
  | _, _, .nil => rfl
  | _, _, .cons _ h => by simp [VRs.length h]

theorem VRs.get {ρ : Ren} : ∀ {l l' : List Value}, VRs ρ l l' → ∀ (i : Nat) (v : Value), l[i]? = some v → ∃ v', l'[i]? = some v' ∧ VR ρ v v'
  | _, _, .nil, i, v, h => by simp at h
  | _, _, .cons (v := x) (v' := x') h hs, i, v, e => by
    cases i with
    | zero => simp at e; subst e; exact ⟨x', by simp, h⟩
    | succ i => simp at e; obtain ⟨v', e', r⟩ := VRs.get hs i v e; exact ⟨v', by simpa using e', r⟩

theorem VRs.of_get {ρ : Ren} : ∀ {l l' : List Value}, l'.length = l.length → (∀ (i : Nat) (v v' : Value), l[i]? = some v → l'[i]? = some v' → VR ρ v v') → VRs ρ l l'
  | [], [], _, _ => .nil
  | [], _ :: _, h, _ => by simp at h
  | _ :: _, [], h, _ => by simp at h
  | x :: l, y :: l', h, hr => .cons (hr 0 x y rfl rfl) (VRs.of_get (by simpa using h) fun i v v' e e' => hr (i + 1) v v' (by simpa using e) (by simpa using e'))

theorem VRs.append {ρ : Ren} : ∀ {l l' m m' : List Value}, VRs ρ l l' → VRs ρ m m' → VRs ρ (l ++ m) (l' ++ m')
  | _, _, _, _, .nil, h => h
  | _, _, _, _, .cons a b, h => .cons a (VRs.append b h)

theorem VRs.take {ρ : Ren} : ∀ {l l' : List Value} (n : Nat), VRs ρ l l' → VRs ρ (l.take n) (l'.take n)
  | _, _, _, .nil => by simp; exact .nil
  | _, _, 0, .cons _ _ => by simp; exact .nil
  | _, _, n + 1, .cons a b => by simp; exact .cons a (VRs.take n b)
theorem VRs.drop {ρ : Ren} : ∀ {l l' : List Value} (n : Nat), VRs ρ l l' → VRs ρ (l.drop n) (l'.drop n)
  | _, _, _, .nil => by simp; exact .nil
  | _, _, 0, .cons a b => by simp; exact .cons a b
  | _, _, n + 1, .cons _ b => by simp; exact VRs.drop n b

theorem VRs.set {ρ : Ren} : ∀ {l l' : List Value} (i : Nat) {v v' : Value}, VRs ρ l l' → VR ρ v v' → VRs ρ (l.set i v) (l'.set i v')
  | _, _, _, _, _, .nil, _ => by simp; exact .nil
  | _, _, 0, _, _, .cons _ b, h => by simp; exact .cons h b
  | _, _, i + 1, _, _, .cons a b, h => by simp; exact .cons a (VRs.set i b h)

theorem VRs.replicate {ρ : Ren} {v v' : Value} (h : VR ρ v v') : ∀ n, VRs ρ (List.replicate n v) (List.replicate n v')
  | 0 => .nil
  | n + 1 => by simp only [List.replicate_succ]; exact .cons h (VRs.replicate h n)

mutual
theorem plain_eq {ρ : Ren} : ∀ {v v' : Value} (n : Nat), plain n v = true → VR ρ v v' → v' = v
  | _, _, n, hp, .bool _ => rfl
  | _, _, n, hp, .int _ _ => rfl
  | _, _, n, hp, .float _ _ => rfl
  | _, _, n, hp, .complex _ _ _ => rfl
  | _, _, n, hp, .string _ => rfl
  | _, _, n, hp, .ptr0 => rfl
  | _, _, n, hp, .ptr _ => by cases n <;> simp [plain] at hp
  | _, _, n, hp, .sl0 _ _ => rfl
  | _, _, n, hp, .sl _ _ => by cases n <;> simp [plain] at hp
  | _, _, n, hp, .sle _ _ => by cases n <;> simp [plain] at hp
  | _, _, n, hp, .map0 => rfl
  | _, _, n, hp, .map _ => by cases n <;> simp [plain] at hp
  | _, _, n, hp, .nilFunc => rfl
  | _, _, n, hp, .nilIface => rfl
  | _, _, 0, hp, .func _ _ _ => by simp [plain] at hp
  | _, _, n + 1, hp, .func _ a b => by simp only [plain, Bool.and_eq_true] at hp; rw [plains_eq n hp.1 a, plains_eq n hp.2 b]
  | _, _, 0, hp, .iface _ _ => by simp [plain] at hp
  | _, _, n + 1, hp, .iface _ a => by simp only [plain] at hp; rw [plain_eq n hp a]
  | _, _, 0, hp, .agg _ => by simp [plain] at hp
  | _, _, n + 1, hp, .agg a => by simp only [plain] at hp; rw [plains_eq n hp a]
  | _, _, 0, hp, .tuple _ => by simp [plain] at hp
  | _, _, n + 1, hp, .tuple a => by simp only [plain] at hp; rw [plains_eq n hp a]
theorem plains_eq {ρ : Ren} : ∀ {l l' : List Value} (n : Nat), l.all (plain n) = true → VRs ρ l l' → l' = l
  | _, _, _, _, .nil => rfl
  | _, _, n, hp, .cons a b => by simp only [List.all_cons, Bool.and_eq_true] at hp; rw [plain_eq n hp.1 a, plains_eq n hp.2 b]
end

theorem VRs.of_all {ρ : Ren} {p : Value → Bool} (h : ∀ v, p v = true → VR ρ v v) : ∀ (l : List Value), l.all p = true → VRs ρ l l
  | [], _ => .nil
  | x :: l, hl => by simp only [List.all_cons, Bool.and_eq_true] at hl; exact .cons (h x hl.1) (VRs.of_all h l hl.2)

theorem plain_refl {ρ : Ren} : ∀ (n : Nat) (v : Value), plain n v = true → VR ρ v v := by
  intro n
  induction n with
  | zero =>
    intro v h
    cases v with
    | bool b => exact .bool b
    | int k m => exact .int k m
    | float k m => exact .float k m
    | complex k a b => exact .complex k a b
    | string s => exact .string s
    | pointer a => cases a with | none => exact .ptr0 | some a => simp [plain] at h
    | slice a m c => cases a with | none => exact .sl0 m c | some a => simp [plain] at h
    | map r => cases r with | none => exact .map0 | some a => simp [plain] at h
    | chan r => simp [plain] at h
    | func fn f c => simp [plain] at h
    | nilFunc => exact .nilFunc
    | iface t v => simp [plain] at h
    | nilIface => exact .nilIface
    | agg cs => simp [plain] at h
    | tuple cs => simp [plain] at h
  | succ n ih =>
    intro v h
    cases v with
    | bool b => exact .bool b
    | int k m => exact .int k m
    | float k m => exact .float k m
    | complex k a b => exact .complex k a b
    | string s => exact .string s
    | pointer a => cases a with | none => exact .ptr0 | some a => simp [plain] at h
    | slice a m c => cases a with | none => exact .sl0 m c | some a => simp [plain] at h
    | map r => cases r with | none => exact .map0 | some a => simp [plain] at h
    | chan r => simp [plain] at h
    | func fn f c => simp only [plain, Bool.and_eq_true] at h; exact .func fn (VRs.of_all ih _ h.1) (VRs.of_all ih _ h.2)
    | nilFunc => exact .nilFunc
    | iface t v => simp only [plain] at h; exact .iface t (ih v h)
    | nilIface => exact .nilIface
    | agg cs => simp only [plain] at h; exact .agg (VRs.of_all ih _ h)
    | tuple cs => simp only [plain] at h; exact .tuple (VRs.of_all ih _ h)

def Ext (ρ ρ' : Ren) : Prop := ∀ k p, ρ k = some p → ρ' k = some p
theorem Ext.refl (ρ : Ren) : Ext ρ ρ := fun _ _ h => h
theorem Ext.trans {a b c : Ren} (h : Ext a b) (k : Ext b c) : Ext a c := fun i p e => k i p (h i p e)

theorem AR.ext {ρ ρ' : Ren} (h : Ext ρ ρ') {a a' : Addr} (r : AR ρ a a') : AR ρ' a a' := by
  obtain ⟨s, s', p, hp, e1, e2⟩ := r
  exact ⟨s, s', p, h _ _ hp, e1, e2⟩
theorem CapOk.ext {ρ ρ' : Ren} (h : Ext ρ ρ') {a a' : Addr} {c c' : Nat} (r : CapOk ρ a a' c c') : CapOk ρ' a a' c c' := by
  rcases r with r | ⟨p, es, N, M, hp, r⟩
  · exact .inl r
  · exact .inr ⟨p, es, N, M, h _ _ hp, r⟩
mutual
theorem VR.ext {ρ ρ' : Ren} (h : Ext ρ ρ') : ∀ {v v' : Value}, VR ρ v v' → VR ρ' v v'
  | _, _, .bool b => .bool b
  | _, _, .int k n => .int k n
  | _, _, .float k n => .float k n
  | _, _, .complex k a b => .complex k a b
  | _, _, .string s => .string s
  | _, _, .ptr0 => .ptr0
  | _, _, .ptr a => .ptr (a.ext h)
  | _, _, .sl0 n c => .sl0 n c
  | _, _, .sl a c => .sl (a.ext h) (c.ext h)
  | _, _, .sle a b => .sle a b
  | _, _, .map0 => .map0
  | _, _, .map e => .map (h _ _ e)
  | _, _, .func fn a b => .func fn (VRs.ext h a) (VRs.ext h b)
  | _, _, .nilFunc => .nilFunc
  | _, _, .nilIface => .nilIface
  | _, _, .iface t a => .iface t (VR.ext h a)
  | _, _, .agg a => .agg (VRs.ext h a)
  | _, _, .tuple a => .tuple (VRs.ext h a)
theorem VRs.ext {ρ ρ' : Ren} (h : Ext ρ ρ') : ∀ {l l' : List Value}, VRs ρ l l' → VRs ρ' l l'
  | _, _, .nil => .nil
  | _, _, .cons a b => .cons (VR.ext h a) (VRs.ext h b)
end

/-- an abstract block -/
inductive Blk where
  | dead
  | cells (c : List Value) (elem : TypeId)
  | map (es : List MapEntry) (clock : Nat)
  | iter (s : ByteArray) (pos : Nat)

inductive Tre (α : Type) where
  | e
  | n (v : Option α) (l r : Tre α)

def Tre.get {α : Type} : Nat → Tre α → Nat → Option α
  | 0, _, _ => none
  | _ + 1, .e, _ => none
  | f + 1, .n v l r, k => match k with | 0 => v | k + 1 => match k % 2 with | 0 => Tre.get f l (k / 2) | _ => Tre.get f r (k / 2)

def Tre.set {α : Type} : Nat → Tre α → Nat → α → Tre α
  | 0, t, _, _ => t
  | f + 1, .e, k, b => match k with | 0 => .n (some b) .e .e | k + 1 => match k % 2 with | 0 => .n none (Tre.set f .e (k / 2) b) .e | _ => .n none .e (Tre.set f .e (k / 2) b)
  | f + 1, .n v l r, k, b => match k with | 0 => .n (some b) l r | k + 1 => match k % 2 with | 0 => .n v (Tre.set f l (k / 2) b) r | _ => .n v l (Tre.set f r (k / 2) b)

theorem Tre.get_e {α : Type} (f k : Nat) : Tre.get f (.e : Tre α) k = none := by cases f <;> rfl

theorem Tre.get_set_same {α : Type} : ∀ (f : Nat) (t : Tre α) (k : Nat) (b : α), k < 2 ^ f → Tre.get (f + 1) (Tre.set (f + 1) t k b) k = some b := by
  intro f
  induction f with
  | zero =>
    intro t k b h
    obtain rfl : k = 0 := by simpa using h
    cases t <;> simp [Tre.set, Tre.get]
  | succ f ih =>
    intro t k b h
    cases k with
    | zero => cases t <;> simp [Tre.set, Tre.get]
    | succ k =>
      have hk : k / 2 < 2 ^ f := by rw [Nat.pow_succ] at h; omega
      have key : ∀ t : Tre α, Tre.get (f + 1) (Tre.set (f + 1) t (k / 2) b) (k / 2) = some b := fun t => ih t (k / 2) b hk
      rcases Nat.mod_two_eq_zero_or_one k with h2 | h2 <;> cases t <;> rw [Tre.set] <;> simp [Tre.get, h2, key]

theorem Tre.get_set_other {α : Type} : ∀ (f : Nat) (t : Tre α) (k j : Nat) (b : α), j ≠ k → Tre.get f (Tre.set f t k b) j = Tre.get f t j := by
  intro f
  induction f with
  | zero => intro t k j b h; rfl
  | succ f ih =>
    intro t k j b h
    cases k with
    | zero =>
      cases j with
      | zero => exact absurd rfl h
      | succ j => rcases Nat.mod_two_eq_zero_or_one j with j2 | j2 <;> cases t <;> simp [Tre.set, Tre.get, Tre.get_e, j2]
    | succ k =>
      cases j with
      | zero => rcases Nat.mod_two_eq_zero_or_one k with h2 | h2 <;> cases t <;> simp [Tre.set, Tre.get, h2]
      | succ j =>
        have key : ∀ t : Tre α, j % 2 = k % 2 → Tre.get f (Tre.set f t (k / 2) b) (j / 2) = Tre.get f t (j / 2) := fun t h2 => ih t _ _ b (by omega)
        rcases Nat.mod_two_eq_zero_or_one k with h2 | h2 <;> rcases Nat.mod_two_eq_zero_or_one j with j2 | j2 <;> cases t <;> simp [Tre.set, Tre.get, h2, j2, Tre.get_e] <;>
          (rw [key _ (by omega)]; try rw [Tre.get_e])

/-- the heap: its blocks; those below 'lo' are only read; none stands from 'next' on -/
structure Hp where
  tr : Tre Blk
  lo : Nat
  next : Nat

def Hp.get (H : Hp) (k : Nat) : Option Blk := H.tr.get 40 k
def Hp.set (H : Hp) (k : Nat) (b : Blk) : Hp := ⟨H.tr.set 40 k b, H.lo, H.next⟩
def Hp.empty : Hp := ⟨.e, 0, 0⟩
theorem Hp.get_empty (k : Nat) : Hp.empty.get k = none := Tre.get_e 40 k
theorem Hp.get_same (H : Hp) {k : Nat} (b : Blk) (h : k < 2 ^ 39) : (H.set k b).get k = some b := Tre.get_set_same 39 H.tr k b h
theorem Hp.get_other (H : Hp) {k j : Nat} (b : Blk) (h : j ≠ k) : (H.set k b).get j = H.get j := Tre.get_set_other 40 H.tr k j b h

end Go.Ab
