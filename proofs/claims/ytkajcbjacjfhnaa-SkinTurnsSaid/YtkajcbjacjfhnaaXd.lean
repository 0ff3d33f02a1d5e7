/- Regions, code, calls over the abstract heap. -/
import Derived.Test.YtkajcbjacjfhnaaXc
import Derived.OrdersHeld
import Derived.Still
namespace Go.Ab
open Go Go.RowKit

structure AS where
  t : Tm
  h : Hp

def aput (t : Tm) (dst : Option Tmp) (v : Value) : Tm :=
  match dst with
  | some d => Tre.set 16 t d v
  | none => t

def ayielded (ops : Array Oper) (t : Tm) (j : Nat) : Option Bool :=
  match (ops[j]?).bind (·.dst) with
  | some d => (match getT t d with | .bool b => some b | _ => none)
  | none => none

/-- what is asked of a region's text: its operands, its temporaries -/
def okOps (n : Nat) (ops : Array Oper) : Bool :=
  ops.toList.all fun o => o.op.operands.toList.all (okOpd n) && (match o.dst with | some d => decide (d < n) && decide (d < 2 ^ 15) | none => true) &&
    (match o.guard with | some (j, _) => (match (ops[j]?).bind (·.dst) with | some d => decide (d < n) | none => true) | none => true)

/-- the function that a call enters, and its arguments -/
def callee? (ev : Operand → Value) (o : Oper) : Option (FuncId × List Value) :=
  match o.op with
  | .call c =>
    match c.callee with
    | .value f =>
      match ev f with
      | .func (.func g) first captured => some (g, first.toList ++ c.args.toList.map ev ++ captured.toList)
      | _ => none
    | _ => none
  | _ => none

abbrev CF := FuncId → List Value → Hp → Option (Value × Hp)

/-- a function with a body that is entered -/
def enters (P : Program) (f : FuncId) : Bool :=
  match P.funcs[f]? with
  | some fn => fn.name != "runtime.NumGoroutine" && fn.body.isSome
  | none => false

/-- operation number i, whatever it is -/
def opA (P : Program) (cf : CF) (lim : Nat) (id : Nat) (o : Oper) (s : AS) : Option AS :=
  match regOp P s.h (aev s.t) o with
  | some v => some ⟨aput s.t o.dst v, s.h⟩
  | none =>
    match rdOp P s.h lim (aev s.t) o with
    | some v => some ⟨aput s.t o.dst v, s.h⟩
    | none =>
      match wrOp P s.h id (aev s.t) o with
      | some (v, h) => some ⟨aput s.t o.dst v, h⟩
      | none =>
        match callee? (aev s.t) o with
        | some (f, args) =>
          match enters P f with
          | true => (match cf f args s.h with | some (v, h) => some ⟨aput s.t o.dst v, h⟩ | none => none)
          | false => none
        | none => none

def stepA (P : Program) (cf : CF) (ops : Array Oper) (lim : Nat) (id : Nat) (i : Nat) (s : AS) : Option AS :=
  match ops[i]? with
  | none => some s
  | some o =>
    if Region.wanted o (ayielded ops s.t) then opA P cf lim id o s
    else some ⟨aput s.t o.dst undef, s.h⟩

def seqA (P : Program) (cf : CF) (ops : Array Oper) : List Nat → AS → Option AS
  | [], s => some s
  | i :: rest, s =>
    match stepA P cf ops s.h.next s.h.next i s with
    | some s' => seqA P cf ops rest s'
    | none => none

/-- a quick one: what it yields hangs on the frame and on old blocks alone -/
def quickA (P : Program) (ops : Array Oper) (i : Nat) (s : AS) : Option AS :=
  match ops[i]? with
  | none => none
  | some o =>
    if Region.wanted o (ayielded ops s.t) then
      match regOp P s.h (aev s.t) o with
      | some v => some ⟨aput s.t o.dst v, s.h⟩
      | none =>
        match rdOp P s.h s.h.lo (aev s.t) o with
        | some v => some ⟨aput s.t o.dst v, s.h⟩
        | none => none
    else some ⟨aput s.t o.dst undef, s.h⟩

def veq : Nat → Value → Value → Bool
  | _, .bool a, .bool b => a == b
  | _, .int j a, .int k b => j == k && a == b
  | _, .string a, .string b => a.data.toList == b.data.toList
  | _, .pointer a, .pointer b => a == b
  | _, .slice a m c, .slice b n d => a == b && m == n && c == d
  | _, .map a, .map b => a == b
  | _, .nilFunc, .nilFunc => true
  | _, .nilIface, .nilIface => true
  | n + 1, .iface t v, .iface u w => t == u && veq n v w
  | n + 1, .agg a, .agg b => veqs n a.toList b.toList
  | n + 1, .tuple a, .tuple b => veqs n a.toList b.toList
  | n + 1, .func f a b, .func g c d => f == g && veqs n a.toList c.toList && veqs n b.toList d.toList
  | _, _, _ => false
where
  veqs (n : Nat) : List Value → List Value → Bool
    | [], [] => true
    | x :: l, y :: m => veq n x y && veqs n l m
    | _, _ => false

def eeq : List MapEntry → List MapEntry → Bool
  | [], [] => true
  | x :: l, y :: m => veq 4 x.key y.key && veq 4 x.val y.val && x.born == y.born && eeq l m
  | _, _ => false

def beqB : Option Blk → Option Blk → Bool
  | none, none => true
  | some .dead, some .dead => true
  | some (.cells c E), some (.cells d F) => E == F && veq.veqs 4 c d
  | some (.map a c), some (.map b d) => eeq a b && c == d
  | some (.iter a c), some (.iter b d) => a.data.toList == b.data.toList && c == d
  | _, _ => false

def heapEq (H H' : Hp) : Bool :=
  H.lo == H'.lo && H.next == H'.next && (List.range (H.next - H.lo)).all fun j => beqB (H.get (H.lo + j)) (H'.get (H.lo + j))

def teq : Tm → Tm → Bool
  | .e, .e => true
  | .n (some v) l r, .n (some u) l' r' => veq 4 v u && teq l l' && teq r r'
  | .n none l r, .n none l' r' => teq l l' && teq r r'
  | _, _ => false

def asEq (s s' : AS) : Bool := teq s.t s'.t && heapEq s.h s'.h

/-- may be quick, by its kind -/
def mayQuick (o : Oper) : Bool :=
  match o.op with
  | .alloc _ => false
  | .box _ _ => false
  | .buildSlice _ _ _ => false
  | .store _ _ _ => false
  | .makeMap _ _ => false
  | .makeSlice _ _ _ => false
  | .mapUpdate _ _ _ _ => false
  | .call c => (match c.callee with | .builtin .len => true | .builtin .min => true | .builtin .max => true | _ => false)
  | _ => true

/-- in which orders a region's operations are tried: one first, or each -/
inductive Plan where
  | done
  | take (i : Nat) (rest : Plan)
  | each (l : List (Nat × Plan))
  | stop

/-- may be taken first -/
def firstA (ops : Array Oper) (listed : Array Bool) (j : Nat) : Bool := Region.free .any ops listed j && (match ops[j]? with | some o => mayQuick o | none => false)

def planA (ops : Array Oper) : Nat → Array Bool → Plan
  | 0, listed => match Region.ready .any ops listed with | [] => .done | _ => .stop
  | f + 1, listed =>
    match Region.ready .any ops listed with
    | [] => .done
    | i :: rs =>
      match (i :: rs).find? (firstA ops listed) with
      | some j => .take j (planA ops f (listed.setIfInBounds j true))
      | none => .each ((i :: rs).map fun j => (j, planA ops f (listed.setIfInBounds j true)))

/-- whatever order a region draws: the quick ones first; the others in every order, all to one end -/
def drawA (P : Program) (cf : CF) (ops : Array Oper) (base : Nat) : Nat → Plan → AS → Option AS
  | 0, p, s => match p with | .done => some s | _ => none
  | f + 1, p, s =>
    match p with
    | .done => some s
    | .stop => none
    | .take i rest =>
      match quickA P ops i s with
      | some s' => drawA P cf ops base f rest s'
      | none => none
    | .each l =>
      match l.map fun ip => match stepA P cf ops s.h.next (base + ip.1) ip.1 s with
        | some s' => drawA P cf ops base f ip.2 s'
        | none => none with
      | some e :: more => match more.all (fun x => match x with | some e' => asEq e e' | none => false) with | true => some e | false => none
      | _ => none

/-- all quick, in the order of the text -/
def lexA (P : Program) (ops : Array Oper) : Nat → Nat → AS → Option AS
  | 0, _, s => some s
  | f + 1, k, s =>
    match quickA P ops k s with
    | some s' => lexA P ops f (k + 1) s'
    | none => none

def regionA (P : Program) (cf : CF) (nt : Nat) (ops : Array Oper) (draw : Bool) (s : AS) : Option AS :=
  match okOps nt ops with
  | false => none
  | true =>
    match draw with
    | false => seqA P cf ops (List.range ops.size) s
    | true =>
      match P.follows .mixedOrders && Region.noSelect ops with
      | false => none
      | true =>
        match Region.lexB .any ops && ops.toList.all mayQuick with
        | true =>
          match lexA P ops ops.size 0 ⟨s.t, { s.h with lo := s.h.next }⟩ with
          | some s' => some ⟨s'.t, { s'.h with lo := s.h.lo }⟩
          | none => none
        | false =>
          match drawA P cf ops s.h.next ops.size (planA ops ops.size (Array.replicate ops.size false)) ⟨s.t, { s.h with lo := s.h.next, next := s.h.next + ops.size }⟩ with
          | some s' => some ⟨s'.t, { s'.h with lo := s.h.lo }⟩
          | none => none

inductive Ex where
  | norm
  | exit (id : Nat)
  | ret

def fromList : Nat → List Value → Tre Value → Tre Value
  | _, [], t => t
  | k, x :: l, t => fromList (k + 1) l (t.set 16 k x)

def iterA (f : AS → Option (Ex × AS)) : Nat → AS → Option (Ex × AS)
  | 0, _ => none
  | n + 1, s =>
    match f s with
    | some (.norm, s') => iterA f n s'
    | r => r

def codeA (P : Program) (cf : CF) (nt n : Nat) : Code → AS → Option (Ex × AS)
  | .skip, s => some (.norm, s)
  | .label _, s => some (.norm, s)
  | .region _ ops draw, s => (regionA P cf nt ops draw s).map fun s' => (.norm, s')
  | .seq a b, s =>
    match codeA P cf nt n a s with
    | some (.norm, s') => codeA P cf nt n b s'
    | r => r
  | .cond c x y, s =>
    match okOpd nt c with
    | true =>
      match aev s.t c with
      | .bool true => codeA P cf nt n x s
      | .bool false => codeA P cf nt n y s
      | _ => none
    | false => none
  | .block id body, s =>
    match codeA P cf nt n body s with
    | some (.exit j, s') => if j = id then some (.norm, s') else some (.exit j, s')
    | r => r
  | .loop body, s => iterA (codeA P cf nt n body) n s
  | .exit id, s => some (.exit id, s)
  | .ret, s => some (.ret, s)
  | _, _ => none

def resultA (P : Program) (nt : Nat) (s : AS) : ResultVar → Option Value
  | .tmp t => (match decide (t < nt) with | true => some (getT s.t t) | false => none)
  | .cell a t =>
    match decide (a < nt), getT s.t a with
    | true, .pointer (some a) => loadA P s.h s.h.next t a
    | _, _ => none

def resultsA (P : Program) (nt : Nat) (s : AS) : List ResultVar → Option (List Value)
  | [] => some []
  | r :: rest =>
    match resultA P nt s r, resultsA P nt s rest with
    | some v, some vs => some (v :: vs)
    | _, _ => none

def packA : List Value → Value
  | [v] => v
  | vs => .tuple ⟨vs⟩

/-- functions whose answer is known: no memory is touched but new one -/
abbrev Prim := FuncId → List Value → Option Value

def callA (P : Program) (pr : Prim) (n : Nat) : Nat → CF
  | 0, _, _, _ => none
  | d + 1, f, args, h =>
    match pr f args with
    | some v => some (v, h)
    | none =>
    match P.funcs[f]? with
    | none => none
    | some fn =>
      match fn.body with
      | none => none
      | some c =>
        match decide (args.length ≤ fn.ntmps) && decide (fn.ntmps ≤ 2 ^ 15) with
        | false => none
        | true =>
        match codeA P (callA P pr n d) fn.ntmps n c ⟨fromList 0 args .e, h⟩ with
        | some (.norm, s) => (resultsA P fn.ntmps s fn.results.toList).map fun vs => (packA vs, s.h)
        | some (.ret, s) => (resultsA P fn.ntmps s fn.results.toList).map fun vs => (packA vs, s.h)
        | _ => none

end Go.Ab
