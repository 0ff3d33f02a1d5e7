/- The operations over the abstract heap. -/
import Derived.Test.YtkajcbjacjfhnaaXb
namespace Go.Ab
open Go Go.RowKit

def pureRun {α : Type} (P : Program) : Sem α → Option α
  | .pure a => some a
  | .program k => pureRun P (k P)
  | .mark _ k => pureRun P k
  | _ => none

theorem pureRun_run {α : Type} {P : Program} {a : α} : ∀ (s : Sem α), pureRun P s = some a → ∀ w, s.run P w = .ok a w := by
  intro s
  induction s with
  | pure b => intro h w; simp [pureRun] at h; subst h; rfl
  | program k ih => intro h w; simp only [pureRun] at h; simp only [Sem.run]; exact ih P h w
  | mark m k ih => intro h w; simp only [pureRun] at h; simp only [Sem.run]; exact ih h w
  | _ => intro h; simp [pureRun] at h

def bad : Value := .chan (some 0)

/-- the temporaries -/
abbrev Tm := Tre Value
def getT (t : Tm) (i : Nat) : Value := match Tre.get 16 t i with | some v => v | none => undef

def aev (t : Tm) : Operand → Value
  | .tmp i => getT t i
  | .const v => v
  | .global _ => bad
  | .func f => .func (.func f) #[] #[]

def okOpd (n : Nat) : Operand → Bool
  | .tmp i => decide (i < n)
  | .func _ => true
  | .const v => plain 3 v
  | .global _ => false

def agg? (P : Program) (t : TypeId) : Option Bool :=
  match P.underlying t with
  | some (.struct _) => some true
  | some (.array _ _) => some true
  | some _ => some false
  | none => none

def size? (P : Program) (t : TypeId) : Option Nat := (P.info? t).map (·.size)
def zero? (P : Program) (t : TypeId) : Option Value := match (P.info? t).bind (·.zero) with | some z => if plain 3 z then some z else none | none => none

def partA (P : Program) (t : TypeId) (cs : Array Value) (off : Nat) : Option Value :=
  match agg? P t, size? P t with
  | some true, some n => some (.agg ⟨(cs.toList.drop off).take n⟩)
  | some false, _ => cs[off]?
  | _, _ => none

/-- the first n -/
def takeA : Nat → List Value → Option (List Value)
  | 0, _ => some []
  | _ + 1, [] => none
  | n + 1, x :: l => match takeA n l with | some r => some (x :: r) | none => none

def blockAt (H : Hp) (lim : Nat) (a : Addr) : Option (List Value) :=
  match a.spot with
  | some _ => none
  | none =>
    match Nat.blt a.block lim with
    | true => match H.get a.block with | some (.cells c _) => some c | _ => none
    | false => none

/-- n cells from an address -/
def readN (H : Hp) (lim : Nat) (a : Addr) (n : Nat) : Option (List Value) :=
  match n with
  | 0 => some []
  | n + 1 =>
    match blockAt H lim a with
    | some c => takeA (n + 1) (c.drop a.off)
    | none => none

def loadA (P : Program) (H : Hp) (lim : Nat) (t : TypeId) (a : Addr) : Option Value :=
  match agg? P t with
  | some true =>
    match size? P t with
    | some n => match readN H lim a n with | some l => some (.agg ⟨l⟩) | none => none
    | none => none
  | some false => match blockAt H lim a with | some c => c[a.off]? | none => none
  | none => none

def one : Value → Bool
  | .agg _ => false
  | .tuple _ => false
  | _ => true

/-- vs over the cells from off on -/
def over (c : List Value) (off : Nat) (vs : List Value) : List Value := c.take off ++ (vs ++ c.drop (off + vs.length))

def writeN (H : Hp) (a : Addr) (vs : List Value) : Option Hp :=
  match vs with
  | [] => some H
  | _ =>
  match a.spot with
  | some _ => none
  | none =>
    match H.get a.block with
    | some (.cells c E) => if H.lo ≤ a.block ∧ a.off + vs.length ≤ c.length ∧ a.block < 2 ^ 39 ∧ vs.all one = true then some (H.set a.block (.cells (over c a.off vs) E)) else none
    | _ => none

def storeA (P : Program) (H : Hp) (t : TypeId) (a : Addr) (v : Value) : Option Hp :=
  match size? P t with
  | some n => if v.cells.size = n then writeN H a v.cells.toList else none
  | none => none

/-- no block from here on, behind a new one at 'id' -/
def nextA (n id : Nat) : Nat :=
  match Nat.blt id n with
  | true => n
  | false => id + 1

/-- a new block -/
def anew (H : Hp) (id : Nat) (b : Blk) : Option Hp :=
  match H.get id with
  | none => (match Nat.blt id (2 ^ 39) && Nat.ble H.lo id with
    | true => some { H.set id b with next := nextA H.next id }
    | false => none)
  | some _ => none

def allPlain (ev : Operand → Value) (o : Oper) : Bool := o.op.operands.toList.all fun x => plain 3 (ev x)

def asValue : Option Next → Option Value
  | some (.value v) => some v
  | _ => none

def regPlain (P : Program) (ev : Operand → Value) (o : Oper) : Option Value :=
  match allPlain ev o with
  | true => match asValue (pureRun P (execOp ev o)) with | some v => (match plain 3 v with | true => some v | false => none) | none => none
  | false => none

def intOfA : Value → Option Int
  | .int _ n => some n
  | _ => none

/-- the bounds of a slice expression: low, high, and whether the end of the capacity is the operand's own -/
def bnd (y : Nat) (v : Option Value) (d : Option Nat) : Option Nat :=
  match v with
  | some (.int _ i) => if 0 ≤ i ∧ i ≤ (y : Int) then some i.toNat else none
  | some _ => none
  | none => d

def boundsA (len cap : Nat) (lo hi mx : Option Value) : Option (Nat × Nat × Nat) :=
  match bnd cap mx (some cap) with
  | none => none
  | some m =>
    match bnd m hi (match mx with | none => some len | some _ => none) with
    | none => none
    | some h =>
      match bnd h lo (some 0) with
      | none => none
      | some l => some (l, h, m)

/-- two integers -/
def intBin (op : BinOp) (k k' : IntKind) (x y : Int) : Option Value :=
  match decide (k = k') with
  | true =>
    match op with
    | .add => some (.int k (k.wrap (x + y)))
    | .sub => some (.int k (k.wrap (x - y)))
    | .mul => some (.int k (k.wrap (x * y)))
    | .eql => some (.bool (x == y))
    | .neq => some (.bool (x != y))
    | .lss => some (.bool (x < y))
    | .leq => some (.bool (x ≤ y))
    | .gtr => some (.bool (x > y))
    | .geq => some (.bool (x ≥ y))
    | _ => none
  | false => none

/-- what is not nil, held against nil -/
def eqNil (op : BinOp) : Option Value :=
  match op with
  | .eql => some (.bool false)
  | .neq => some (.bool true)
  | _ => none

def regPick (ev : Operand → Value) (c a b : Operand) : Option Value :=
  match ev c with
  | .bool t => some (match t with | true => ev a | false => ev b)
  | _ => none

def regExtract (v : Value) (ix : Nat) : Option Value :=
  match v with
  | .tuple vs => vs[ix]?
  | _ => none

def regField (P : Program) (xT : TypeId) (v : Value) (f : Nat) : Option Value :=
  match v with
  | .agg cs =>
    match P.underlying xT with
    | some (.struct fs) => match fs[f]? with | some fd => partA P fd.type cs fd.offset | none => none
    | _ => none
  | _ => none

def placesOf (P : Program) (fs : Array Field) : Option (Array (Nat × Nat)) := pureRun P (fs.mapM fun f => do pure (f.offset, ← sizeOf f.type))

def regBuild (P : Program) (ev : Operand → Value) (t : TypeId) (parts : Array (Nat × Operand)) : Option Value :=
  match P.underlying t, zero? P t with
  | some (.struct fs), some z =>
    match placesOf P fs with
    | some places => (Instr.fill (places[·]?) z.cells (parts.toList.map fun ix => (ix.1, ev ix.2))).map .agg
    | none => none
  | some (.array _ e), some z =>
    match size? P e with
    | some n => (Instr.fill (fun i => some (i * n, n)) z.cells (parts.toList.map fun ix => (ix.1, ev ix.2))).map .agg
    | none => none
  | _, _ => none

def regFieldAddr (P : Program) (s : TypeId) (v : Value) (f : Nat) : Option Value :=
  match v with
  | .pointer (some a) =>
    match P.underlying s with
    | some (.struct fs) =>
      match fs[f]? with
      | some fd => match size? P fd.type with | some (_ + 1) => some (.pointer (some (a.add fd.offset))) | _ => none
      | none => none
    | _ => none
  | _ => none

def regElem (P : Program) (a : Addr) (n : Nat) (e : TypeId) (v : Value) : Option Value :=
  match v with
  | .int _ i =>
    match decide (0 ≤ i) && decide (i < (n : Int)) with
    | true => match size? P e with | some s => some (.pointer (some (a.add (i.toNat * s)))) | none => none
    | false => none
  | _ => none

def regIndexAddr (P : Program) (t : TypeId) (v i : Value) : Option Value :=
  match v with
  | .slice (some a) n _ => match P.underlying t with | some (.slice e) => regElem P a n e i | _ => none
  | .pointer (some a) => match P.underlying t with | some (.array n e) => regElem P a n e i | _ => none
  | _ => none

def regSlice (P : Program) (H : Hp) (ev : Operand → Value) (o : Oper) (t : TypeId) (x : Operand) (lo hi mx : Option Operand) : Option Value :=
  match P.underlying t, ev x with
  | some (.slice e), .slice (some a) len cap =>
    match size? P e, H.get a.block, boundsA len cap (lo.map ev) (hi.map ev) (mx.map ev) with
    | some s, some (.cells _ E), some (l, h, m) => if E = e ∧ h ≤ m then some (.slice (some (a.add (l * s))) (h - l) (m - l)) else none
    | _, _, _ => none
  | some (.slice e), .slice none 0 0 =>
    match size? P e, boundsA 0 0 (lo.map ev) (hi.map ev) (mx.map ev) with | some _, some (0, 0, 0) => some (.slice none 0 0) | _, _ => none
  | some (.array n e), .pointer (some a) =>
    match size? P e, boundsA n n (lo.map ev) (hi.map ev) (mx.map ev) with
    | some s, some (l, h, m) => if m = l then none else some (.slice (some (a.add (l * s))) (h - l) (m - l))
    | _, _ => none
  | some .string, _ => regPlain P ev o
  | _, _ => none

def regNilCheck (v : Value) : Option Value :=
  match v with
  | .pointer (some a) => some (.pointer (some a))
  | .func (.func f) a b => some (.func (.func f) a b)
  | _ => none

def regLen (P : Program) (t : TypeId) (v : Value) : Option Value :=
  match v with
  | .slice _ n _ => match P.underlying t with | some (.slice _) => some (.int .i64 n) | _ => none
  | .string s => match P.underlying t with | some .string => some (.int .i64 s.size) | _ => none
  | _ => match P.underlying t with | some (.array n _) => some (.int .i64 n) | _ => none

def regMin (l : List Value) : Option Value :=
  match l with
  | [.int k x, .int _ y] => some (.int k (match decide (y < x) with | true => y | false => x))
  | _ => none
def regMax (l : List Value) : Option Value :=
  match l with
  | [.int k x, .int _ y] => some (.int k (match decide (y > x) with | true => y | false => x))
  | _ => none

def regCall (P : Program) (ev : Operand → Value) (c : Call) : Option Value :=
  match c.callee with
  | .builtin b =>
    match b with
    | .len =>
      match c.argTypes[0]?, c.args[0]? with
      | some t, some x => regLen P t (ev x)
      | _, _ => none
    | .min => regMin (c.args.toList.map ev)
    | .max => regMax (c.args.toList.map ev)
    | _ => none
  | _ => none


def regBin (P : Program) (ev : Operand → Value) (o : Oper) (op : BinOp) (t : TypeId) (v u : Value) : Option Value :=
  match v with
  | .int k a =>
    match u with
    | .int k' b => match intBin op k k' a b with | some v => some v | none => regPlain P ev o
    | _ => none
  | .pointer (some _) => match u, P.underlying t with | .pointer none, some (.pointer _) => eqNil op | _, _ => none
  | .slice (some _) _ _ => match u, P.underlying t with | .slice none _ _, some (.slice _) => eqNil op | _, _ => none
  | .map (some _) => match u, P.underlying t with | .map none, some (.map _ _) => eqNil op | _, _ => none
  | .func _ _ _ => match u, P.underlying t with | .nilFunc, some (.func _ _ _) => eqNil op | _, _ => none
  | _ => regPlain P ev o

def regUn (P : Program) (ev : Operand → Value) (o : Oper) (op : UnOp) (v : Value) : Option Value :=
  match op, v with
  | .not, .bool b => some (.bool !b)
  | _, _ => regPlain P ev o

def regIndex (P : Program) (ev : Operand → Value) (o : Oper) (t : TypeId) (v i : Value) : Option Value :=
  match v, i with
  | .string s, .int _ n =>
    match P.underlying t, decide (0 ≤ n), s[n.toNat]? with
    | some .string, true, some b => some (.int .u8 b.toNat)
    | _, _, _ => none
  | _, _ => regPlain P ev o

def regConvert (P : Program) (ev : Operand → Value) (o : Oper) (src dst : TypeId) (v : Value) : Option Value :=
  match v with
  | .int _ n =>
    match P.underlying src, P.underlying dst with
    | some _, some (.int k) => some (.int k (k.wrap n))
    | _, _ => regPlain P ev o
  | _ => regPlain P ev o

/-- an operation that looks at no memory -/
def regOp (P : Program) (H : Hp) (ev : Operand → Value) (o : Oper) : Option Value :=
  match o.op with
  | .move x => some (ev x)
  | .assign x => some (ev x)
  | .pick c a b => regPick ev c a b
  | .makeFunc fn first captured => some (.func fn ⟨first.toList.map ev⟩ ⟨captured.toList.map ev⟩)
  | .extract t ix => regExtract (ev t) ix
  | .field xT x f => regField P xT (ev x) f
  | .build t parts => regBuild P ev t parts
  | .fieldAddr s x f => regFieldAddr P s (ev x) f
  | .indexAddr t x ix => regIndexAddr P t (ev x) (ev ix)
  | .slice t x lo hi mx => regSlice P H ev o t x lo hi mx
  | .nilCheck x => regNilCheck (ev x)
  | .call c => regCall P ev c
  | .binOp op t x y _ => regBin P ev o op t (ev x) (ev y)
  | .unOp op _ x => regUn P ev o op (ev x)
  | .convert src dst x => regConvert P ev o src dst (ev x)
  | .index t x i => regIndex P ev o t (ev x) (ev i)
  | .makeInterface _ _ => regPlain P ev o
  | _ => none

def keysPlain (es : List MapEntry) : Bool := es.all fun e => plain 3 e.key

def mapAt (H : Hp) (lim : Nat) (v : Value) : Option (List MapEntry) :=
  match v with
  | .map none => some []
  | .map (some r) =>
    match decide (r < lim) with
    | true => match H.get r with | some (.map es _) => some es | _ => none
    | false => none
  | _ => none

def found (z : Value) (ok : Bool) (r : Option (Nat × Value)) : Value :=
  match r with
  | some (_, v) => (match ok with | true => .tuple ⟨[v, .bool true]⟩ | false => v)
  | none => (match ok with | true => .tuple ⟨[z, .bool false]⟩ | false => z)

def rdLookup (P : Program) (H : Hp) (lim : Nat) (xT : TypeId) (m k : Value) (ok : Bool) : Option Value :=
  match P.underlying xT with
  | some (.map key elem) =>
    match mapAt H lim m, zero? P elem with
    | some es, some z =>
      match plain 3 k && keysPlain es with
      | true =>
        match pureRun P (Instr.checkKey es.isEmpty 10000 key k), pureRun P (Instr.findKey key k es) with
        | some (), some r => some (found z ok r)
        | _, _ => none
      | false => none
    | _, _ => none
  | _ => none

def rdLen (P : Program) (H : Hp) (lim : Nat) (t : TypeId) (v : Value) : Option Value :=
  match P.underlying t with
  | some (.map _ _) => match mapAt H lim v with | some es => some (.int .i64 es.length) | none => none
  | _ => none

def rdCall (P : Program) (H : Hp) (lim : Nat) (ev : Operand → Value) (c : Call) : Option Value :=
  match c.callee with
  | .builtin b =>
    match b with
    | .len =>
      match c.argTypes[0]?, c.args[0]? with
      | some t, some x => rdLen P H lim t (ev x)
      | _, _ => none
    | _ => none
  | _ => none

def rdLoad (P : Program) (H : Hp) (lim : Nat) (t : TypeId) (v : Value) : Option Value :=
  match v with
  | .pointer (some a) => loadA P H lim t a
  | _ => none

/-- an operation that reads memory, of the blocks below 'lim' -/
def rdOp (P : Program) (H : Hp) (lim : Nat) (ev : Operand → Value) (o : Oper) : Option Value :=
  match o.op with
  | .load t x => rdLoad P H lim t (ev x)
  | .lookup xT x ix ok => rdLookup P H lim xT (ev x) (ev ix) ok
  | .call c => rdCall P H lim ev c
  | _ => none

def newCells (H : Hp) (id : Nat) (l : List Value) (e : TypeId) : Option (Value × Hp) :=
  match anew H id (.cells l e) with
  | some H' => some (.pointer (some ⟨id, 0, none⟩), H')
  | none => none

def newRowA (H : Hp) (id : Nat) (l : List Value) (e : TypeId) (n : Nat) : Option (Value × Hp) :=
  match anew H id (.cells l e) with
  | some H' => some (.slice (some ⟨id, 0, none⟩) n n, H')
  | none => none

def wrAlloc (P : Program) (H : Hp) (id : Nat) (elem : TypeId) : Option (Value × Hp) :=
  match zero? P elem with
  | some z => newCells H id z.cells.toList elem
  | none => none

def zerosOf (n : Nat) (z : Value) (m : Nat) : Array Value := (Array.range m).map ((if n = 0 then #[] else z.cells)[· % (if n = 0 then #[] else z.cells).size]!)

def wrBuildSlice (P : Program) (H : Hp) (id : Nat) (ev : Operand → Value) (t : TypeId) (len : Nat) (parts : Array (Nat × Operand)) : Option (Value × Hp) :=
  match P.underlying t with
  | some (.slice e) =>
    match size? P e, zero? P e with
    | some n, some z =>
      if len * n > 2 ^ 24 then none else
      match Instr.fill (fun i => some (i * n, n)) (zerosOf (len * n) z (len * n)) (parts.toList.map fun ix => (ix.1, ev ix.2)) with
      | some cells => newRowA H id cells.toList e len
      | none => none
    | _, _ => none
  | _ => none

def wrStore (P : Program) (H : Hp) (t : TypeId) (x v : Value) : Option (Value × Hp) :=
  match x with
  | .pointer (some a) => match storeA P H t a v with | some H' => some (undef, H') | none => none
  | _ => none

def wrMakeMap (H : Hp) (id : Nat) : Option (Value × Hp) :=
  match anew H id (.map [] 0) with
  | some H' => some (.map (some id), H')
  | none => none

def putKey (H : Hp) (r : Nat) (es : List MapEntry) (clock : Nat) (k v : Value) (at_ : Option (Nat × Value)) : Option (Value × Hp) :=
  match at_ with
  | some (i, _) =>
    match es[i]? with
    | some e => if Instr.sameBits 10000 e.key k then some (undef, H.set r (.map (es.set i { e with key := k, val := v }) clock)) else none
    | none => none
  | none => some (undef, H.set r (.map (es ++ [⟨k, v, clock⟩]) (clock + 1)))

def wrMapUpdate (P : Program) (H : Hp) (t : TypeId) (m k v : Value) : Option (Value × Hp) :=
  match m with
  | .map (some r) =>
    match P.underlying t, H.get r with
    | some (.map key _), some (.map es clock) =>
      match decide (H.lo ≤ r) && decide (r < 2 ^ 39) && plain 3 k && keysPlain es with
      | true =>
        match pureRun P (Instr.checkKey false 10000 key k), pureRun P (Instr.findKey key k es) with
        | some (), some at_ => putKey H r es clock k v at_
        | _, _ => none
      | false => none
    | _, _ => none
  | _ => none

def wrMakeSlice (P : Program) (H : Hp) (id : Nat) (t : TypeId) (l m : Value) : Option (Value × Hp) :=
  match l, m with
  | .int _ x, .int _ y =>
    match P.underlying t with
    | some (.slice e) =>
      match P.info? e, zero? P e with
      | some i, some z =>
        if 0 ≤ x ∧ x ≤ y ∧ y < 2 ^ 40 ∧ i.bytes * y.toNat ≤ 2 ^ 48 then
          match anew H id (.cells (zerosOf (y.toNat * i.size) z (y.toNat * i.size)).toList e) with
          | some H' => some (.slice (some ⟨id, 0, none⟩) x.toNat y.toNat, H')
          | none => none
        else none
      | _, _ => none
    | _ => none
  | _, _ => none

/-- what is appended: how many, and their cells -/
def source (H : Hp) (size : Nat) (v : Value) : Option (Nat × List Value) :=
  match v with
  | .slice (some a) n _ => match readN H H.next a (n * size) with | some l => some (n, l) | none => none
  | .slice none 0 _ => some (0, [])
  | .string b => if size = 1 then some (b.size, b.data.toList.map fun u => Value.int .u8 u.toNat) else none
  | _ => none

def appendTo (H : Hp) (id : Nat) (e : TypeId) (size bytes : Nat) (s : Value) (n : Nat) (new : List Value) : Option (Value × Hp) :=
  match s with
  | .slice none 0 0 =>
    if n = 0 then some (.slice none 0 0, H)
    else if n * bytes > 2 ^ 46 then none
    else newRowA H id new e n
  | .slice (some a) len cap =>
    if n = 0 then (if len ≤ cap then some (.slice (some a) len cap, H) else none)
    else if len + n ≤ cap then (if new.all one then match writeN H (a.add (len * size)) new with | some H' => some (.slice (some a) (len + n) cap, H') | none => none else none)
    else if (len + n) * bytes > 2 ^ 46 then none
    else if a.spot.isSome then none
    else
      match H.get a.block, readN H H.next a (len * size) with
      | some (.cells cs E), some old =>
        if E = e then
          if a.off + cap * size ≠ cs.length then newRowA H id (old ++ new) e (len + n)
          else if H.lo ≤ a.block ∧ a.block < 2 ^ 39 ∧ a.block ≠ id ∧ new.all one = true then newRowA (H.set a.block .dead) id (old ++ new) e (len + n)
          else none
        else none
      | _, _ => none
  | _ => none

def wrAppend (P : Program) (H : Hp) (id : Nat) (t : TypeId) (u : Option TypeId) (s x : Value) : Option (Value × Hp) :=
  match P.underlying t with
  | some (.slice e) =>
    match (match u with | some u => (match P.underlying u with | some (.int _) => false | some _ => true | none => false) | none => true), P.info? e, zero? P e with
    | true, some i, some z =>
      if i.size = 0 ∨ i.bytes = 0 ∨ z.cells.size ≠ i.size then none else
      match source H i.size x with
      | some (n, new) => appendTo H id e i.size i.bytes s n new
      | none => none
    | _, _, _ => none
  | _ => none

def wrCall (P : Program) (H : Hp) (id : Nat) (ev : Operand → Value) (c : Call) : Option (Value × Hp) :=
  match c.callee with
  | .builtin b =>
    match b with
    | .append =>
      match c.argTypes[0]?, c.args[0]?, c.args[1]? with
      | some t, some s, some x => wrAppend P H id t c.argTypes[1]? (ev s) (ev x)
      | _, _, _ => none
    | _ => none
  | _ => none

/-- an operation that makes or writes memory -/
def wrOp (P : Program) (H : Hp) (id : Nat) (ev : Operand → Value) (o : Oper) : Option (Value × Hp) :=
  match o.op with
  | .alloc elem => wrAlloc P H id elem
  | .box elem x => newCells H id (ev x).cells.toList elem
  | .buildSlice t len parts => wrBuildSlice P H id ev t len parts
  | .store t x v => wrStore P H t (ev x) (ev v)
  | .makeMap _ none => wrMakeMap H id
  | .mapUpdate t m k v => wrMapUpdate P H t (ev m) (ev k) (ev v)
  | .makeSlice t l m => wrMakeSlice P H id t (ev l) (ev m)
  | .call c => wrCall P H id ev c
  | _ => none

end Go.Ab
