/- Go's functions, as the translation has them, written in the plain machine's lowered code: what it cannot say it says as 'bad'. -/
import Derived.Test.YtojkmobfhkjfnaaHxA
set_option linter.all false
namespace Go.Hx

def lowV1 : Value → Option HV
  | .bool b => some (.bool b)
  | .int k n => some (.int k n)
  | .string s => some (.str s)
  | .pointer none => some (.ptr none)
  | .slice none 0 0 => some (.slice none 0 0)
  | .map none => some (.map none)
  | .nilFunc => some .nilFunc
  | .nilIface => some .nilIface
  | _ => none
def lowVs : List Value → Option (List HV)
  | [] => some []
  | v :: vs =>
    match lowV1 v, lowVs vs with
    | some x, some xs => some (x :: xs)
    | _, _ => none
def lowV : Value → Option HV
  | .agg cs => (lowVs cs.toList).map .agg
  | v => lowV1 v
def lowX : Operand → Option Lo
  | .tmp t => some (.t t)
  | .const v => (lowV v).map .c
  | .func f => some (.c (.func f [] []))
  | .global _ => none
def lowXs : List Operand → Option (List Lo)
  | [] => some []
  | v :: vs =>
    match lowX v, lowXs vs with
    | some x, some xs => some (x :: xs)
    | _, _ => none

section
variable (P : Program)
def szOf (t : TypeId) : Option Nat := (P.info? t).map (·.size)
def byOf (t : TypeId) : Option Nat := (P.info? t).map (·.bytes)
def zeroV (t : TypeId) : Option HV := ((P.info? t).bind (·.zero)).bind lowV
def aggOf (t : TypeId) : Option Bool :=
  match P.underlying t with
  | some (.struct _) | some (.array _ _) => some true
  | some _ => some false
  | none => none
def leavesF (lv : TypeId → Option (List Leaf)) : List Field → Nat → Option (List Leaf)
  | [], _ => some []
  | f :: fs, off =>
    match lv f.type, szOf P f.type with
    | some ks, some n => bif f.name != "_" && Nat.beq f.offset off && Nat.beq n ks.length then (leavesF lv fs (off + n)).map (ks ++ ·) else none
    | _, _ => none
/-- The cells of a type that holds plain kinds alone. -/
def leaves : Nat → TypeId → Option (List Leaf)
  | 0, _ => none
  | d + 1, t =>
    match P.underlying t with
    | some .bool => some [.b]
    | some (.int k) => some [.i k]
    | some .string => some [.s]
    | some (.struct fs) => bif P.stoodInHeld t then none else leavesF P (leaves d) fs.toList 0
    | _ => none
def edOf (t : TypeId) : Option ED :=
  match P.underlying t with
  | some (.pointer _) => some .nilPtr
  | some (.slice _) => some .nilSlice
  | some (.map _ _) => some .nilMap
  | some (.func _ _ _) => some .nilFunc
  | some .bool => some (.cell .b)
  | some (.int k) => some (.cell (.i k))
  | some .string => some (.cell .s)
  | some (.struct _) => bif Nat.ble 20 P.depth then (leaves P 20 t).map .row else none
  | _ => none
def keyEd (t : TypeId) : Option ED :=
  match edOf P t with
  | some (.cell k) => some (.cell k)
  | some (.row ks) => some (.row ks)
  | _ => none
def lowParts (place : Nat → Option (Nat × Nat)) : List (Nat × Operand) → Option (List (Nat × Nat × Lo))
  | [] => some []
  | (i, x) :: ps =>
    match place i, lowX x, lowParts place ps with
    | some (o, s), some x, some ps => some ((o, s, x) :: ps)
    | _, _, _ => none
def lowO : Option Operand → Option (Option Lo)
  | none => some none
  | some x => (lowX x).map some

def lowOp (op : Op) : Option LOp :=
  match op with
  | .move x | .assign x => (lowX x).map .move
  | .pick c a b =>
    match lowX c, lowX a, lowX b with
    | some c, some a, some b => some (.pick c a b)
    | _, _, _ => none
  | .alloc t => (zeroV P t).map fun z => .alloc z.cells
  | .box _ x => (lowX x).map .box
  | .build t parts =>
    match P.underlying t, zeroV P t with
    | some (.struct fs), some (.agg z) => bif !fs.toList.all (fun f => (szOf P f.type).isSome) then none else (lowParts (fun i => (fs[i]?).bind fun f => (szOf P f.type).map (f.offset, ·)) parts.toList).map (.build z)
    | some (.array _ e), some (.agg z) =>
      match szOf P e with
      | some s => (lowParts (fun i => some (i * s, s)) parts.toList).map (.build z)
      | none => none
    | _, _ => none
  | .buildSlice t len parts =>
    match P.underlying t with
    | some (.slice e) =>
      match szOf P e, zeroV P e with
      | some s, some z => bif Nat.ble (len * s) 100000 && Nat.beq z.cells.length s then (lowParts (fun i => some (i * s, s)) parts.toList).map (.buildSlice len z.cells) else none
      | _, _ => none
    | _ => none
  | .load t a =>
    match aggOf P t, szOf P t, lowX a with
    | some true, some n, some a => some (.load true n a)
    | some false, some _, some a => some (.load false 1 a)
    | _, _, _ => none
  | .store t a x =>
    match szOf P t, lowX a, lowX x with
    | some n, some a, some x => some (.store n a x)
    | _, _, _ => none
  | .nilCheck x => (lowX x).map .nilCheck
  | .binOp op t x y _ =>
    match lowX x, lowX y with
    | some x, some y =>
      match op with
      | .eql => (edOf P t).map fun d => .eq d false x y
      | .neq => (edOf P t).map fun d => .eq d true x y
      | _ => some (.bin op x y)
    | _, _ => none
  | .unOp op _ x => (lowX x).map (.un op)
  | .convert s d x =>
    match P.underlying s, P.underlying d, lowX x with
    | some (.int _), some (.int k), some x => some (.convInt k x)
    | _, _, _ => none
  | .makeFunc (.func f) first captured =>
    match lowXs first.toList, lowXs captured.toList with
    | some a, some b => some (.makeFunc f a b)
    | _, _ => none
  | .makeMap _ none => some .makeMap
  | .makeSlice t l c =>
    match P.underlying t with
    | some (.slice e) =>
      match byOf P e, szOf P e, zeroV P e, lowX l, lowX c with
      | some b, some s, some z, some l, some c => bif Nat.beq z.cells.length s then some (.makeSlice z.cells b l c) else none
      | _, _, _, _, _ => none
    | _ => none
  | .slice t x lo hi none =>
    match P.underlying t with
    | some (.slice e) =>
      match szOf P e, lowX x, lowO lo, lowO hi with
      | some s, some x, some lo, some hi => some (.sliceS s x lo hi)
      | _, _, _, _ => none
    | _ => none
  | .fieldAddr t x f =>
    match P.underlying t with
    | some (.struct fs) =>
      match fs[f]? with
      | some fd =>
        match szOf P fd.type, lowX x with
        | some (_ + 1), some x => some (.fieldAddr fd.offset x)
        | _, _ => none
      | none => none
    | _ => none
  | .field t x f =>
    match P.underlying t with
    | some (.struct fs) =>
      match fs[f]? with
      | some fd =>
        match aggOf P fd.type, szOf P fd.type, lowX x with
        | some g, some n, some x => some (.field g n fd.offset x)
        | _, _, _ => none
      | none => none
    | _ => none
  | .indexAddr t x i =>
    match P.underlying t with
    | some (.slice e) =>
      match szOf P e, lowX x, lowX i with
      | some s, some x, some i => some (.indexAddrS s x i)
      | _, _, _ => none
    | some (.array len e) =>
      match szOf P e, lowX x, lowX i with
      | some s, some x, some i => some (.indexAddrA len s x i)
      | _, _, _ => none
    | _ => none
  | .index t x i =>
    match P.underlying t with
    | some (.array len e) =>
      match szOf P e, aggOf P e, lowX x, lowX i with
      | some s, some g, some x, some i => some (.indexA len s g x i)
      | _, _, _, _ => none
    | _ => none
  | .lookup t m k ok =>
    match P.underlying t with
    | some (.map kt e) =>
      match keyEd P kt, zeroV P e, lowX m, lowX k with
      | some d, some z, some m, some k => some (.lookup d z ok m k)
      | _, _, _, _ => none
    | _ => none
  | .mapUpdate t m k v | .insert t m k v =>
    match P.underlying t with
    | some (.map kt _) =>
      match keyEd P kt, lowX m, lowX k, lowX v with
      | some d, some m, some k, some v => some (.mapUpdate d m k v)
      | _, _, _, _ => none
    | _ => none
  | .extract x i => (lowX x).map (.extract · i)
  | .call { callee := .value f, args := args, argTypes := _ } =>
    match lowX f, lowXs args.toList with
    | some f, some args => some (.call f args)
    | _, _ => none
  | .call { callee := .builtin b, args := args, argTypes := ts } =>
    match b, lowXs args.toList, ts[0]? with
    | .len, some [x], some t =>
      match P.underlying t with
      | some .string => some (.len .str x)
      | some (.slice _) => some (.len .slice x)
      | some (.map _ _) => some (.len .map x)
      | _ => none
    | .cap, some [x], some t =>
      match P.underlying t with
      | some (.slice _) => some (.cap x)
      | _ => none
    | .min, some xs, _ => some (.min xs)
    | .max, some xs, _ => some (.max xs)
    | .append, some [s, x], some t =>
      match P.underlying t, (ts[1]?).bind P.underlying with
      | some (.slice e), some (.slice _) =>
        match szOf P e, byOf P e, zeroV P e with
        | some sz, some by_, some z => bif Nat.beq z.cells.length sz then some (.append sz by_ s x) else none
        | _, _, _ => none
      | some (.slice e), some (.int _) =>
        match szOf P e, byOf P e, zeroV P e with
        | some sz, some by_, some z => bif Nat.beq z.cells.length sz then some (.appendZ z.cells by_ s x) else none
        | _, _, _ => none
      | _, _ => none
    | _, _, _ => none
  | _ => none

/-! regions that draw their order -/
def Lo.tmps : Lo → List Nat
  | .t n => [n]
  | .c _ => []
def tmpsOf (l : List Lo) : List Nat := l.flatMap Lo.tmps
def oTmps : Option Lo → List Nat
  | none => []
  | some x => x.tmps
def LOp.tmps : LOp → List Nat
  | .move x | .box x | .load _ _ x | .fieldAddr _ x | .field _ _ _ x | .un _ x | .convInt _ x | .extract x _ | .len _ x | .cap x | .nilCheck x => x.tmps
  | .pick c a b => c.tmps ++ a.tmps ++ b.tmps
  | .alloc _ | .makeMap | .bad => []
  | .build _ ps | .buildSlice _ _ ps => ps.flatMap fun (_, _, x) => x.tmps
  | .store _ a x | .indexAddrS _ a x | .indexAddrA _ _ a x | .indexA _ _ _ a x | .bin _ a x | .eq _ _ a x | .makeSlice _ _ a x | .lookup _ _ _ a x | .append _ _ a x | .appendZ _ _ a x => a.tmps ++ x.tmps
  | .makeFunc _ f c => tmpsOf f ++ tmpsOf c
  | .sliceS _ x lo hi => x.tmps ++ oTmps lo ++ oTmps hi
  | .mapUpdate _ m k v => m.tmps ++ k.tmps ++ v.tmps
  | .min xs | .max xs => tmpsOf xs
  | .call f xs => f.tmps ++ tmpsOf xs
def LOp.touches : LOp → Bool
  | .move _ | .pick .. | .build .. | .fieldAddr .. | .indexAddrS .. | .indexAddrA .. | .field .. | .indexA .. | .bin .. | .eq .. | .un .. | .convInt .. | .makeFunc .. | .extract .. | .nilCheck _ => false
  | _ => true
def LOp.makes : LOp → Bool
  | .alloc _ | .box _ | .buildSlice .. | .makeMap | .makeSlice .. | .append .. | .appendZ .. | .call .. => true
  | _ => false
def LOper.names (o : LOper) : List Nat := o.dst.toList ++ o.op.tmps ++ (match o.g with | some (t, _) => [t] | none => [])
/-- What has to be listed ahead of an operation, as a number's bits. -/
def edgeMask (masks : List Nat) : List Edge → Nat
  | [] => 0
  | e :: es => bif Region.binds .any e then (1 <<< e.on) ||| masks.getD e.on 0 ||| edgeMask masks es else edgeMask masks es
def masksOf : List Oper → List Nat → List Nat
  | [], ms => ms
  | o :: os, ms => masksOf os (ms ++ [edgeMask ms o.after.toList])
def lowGuard (ops : Array Oper) : Option (Nat × Bool) → Option (Option (Nat × Bool))
  | none => some none
  | some (j, want) => ((ops[j]?).bind (·.dst)).map fun d => some (d, want)
def lowOper (ops : Array Oper) (o : Oper) : LOper :=
  match lowGuard ops o.guard with
  | some g => ⟨o.dst, (lowOp P o.op).getD .bad, g, []⟩
  | none => ⟨o.dst, .bad, none, []⟩
def bitsOf (m : Nat) (ops : List LOper) (i : Nat) : Nat → List Nat
  | 0 => []
  | j + 1 => bif m.testBit j && (match ops[j]? with | some o => o.op.makes | none => false) then j :: bitsOf m ops i j else bitsOf m ops i j
def withAnc (all : List LOper) (masks : List Nat) : List LOper → Nat → List LOper
  | [], _ => []
  | o :: os, i => { o with anc := bitsOf (masks.getD i 0) all i i } :: withAnc all masks os (i + 1)
def clash (x y : LOper) : Bool :=
  (match x.dst with | some d => y.names.contains d | none => false) || (match y.dst with | some d => x.names.contains d | none => false)
def drawOk1 (all : List LOper) (m i : Nat) (o : LOper) : Nat → Bool
  | 0 => true
  | j + 1 => (match all[j]? with | some x => m.testBit j || !clash x o | none => true) && drawOk1 all m i o j
def zoneOk (all : List LOper) (m i : Nat) (o : LOper) : Nat → Bool
  | 0 => true
  | j + 1 => (match all[j]? with | some x => m.testBit j || !(x.op.touches && o.op.touches) | none => true) && zoneOk all m i o j
def drawOk (all : List LOper) (masks : List Nat) : List LOper → Nat → Bool
  | [], _ => true
  | o :: os, i => drawOk1 all (masks.getD i 0) i o i && drawOk all masks os (i + 1)
/-- From where on each operation on memory has all those before it behind it. -/
def zoneAt (all : List LOper) (masks : List Nat) : List LOper → Nat → Nat → Nat
  | [], _, s => s
  | o :: os, i, s => zoneAt all masks os (i + 1) (bif zoneOk all (masks.getD i 0) i o i then s else i + 1)
def edgesOk (o : Oper) (i : Nat) : Bool := o.after.toList.all fun e => !Region.binds .any e || Nat.blt e.on i
def edgesOks : List Oper → Nat → Bool
  | [], _ => true
  | o :: os, i => edgesOk o i && edgesOks os (i + 1)
def lowDraw (ops : Array Oper) : LCode :=
  let all := ops.toList.map (lowOper P ops)
  let masks := masksOf ops.toList []
  bif drawOk all masks all 0 && edgesOks ops.toList 0 then .draw (zoneAt all masks all 0 0) (withAnc all masks all 0) else .bad

def lowC : Code → LCode
  | .skip => .skip
  | .region _ ops false => .reg (ops.toList.map (lowOper P ops))
  | .region _ ops true => lowDraw P ops
  | .seq a b => .seq (lowC a) (lowC b)
  | .cond c a b =>
    match lowX c with
    | some c => .cond c (lowC a) (lowC b)
    | none => .bad
  | .block id b => .block id (lowC b)
  | .loop b => .loop (lowC b)
  | .rangeFunc f ps a b =>
    match lowX f with
    | some f => .rangeFunc f ps.toList (lowC a) (lowC b)
    | none => .bad
  | .exit id => .exit id
  | .scope b => .scope (lowC b)
  | .label _ => .skip
  | .goto _ => .bad
  | .ret => .ret
  | .refuse _ => .bad
def lowRes : List ResultVar → Option (List LRes)
  | [] => some []
  | .tmp t :: rs => (lowRes rs).map (.t t :: ·)
  | .cell a t :: rs =>
    match aggOf P t, szOf P t, lowRes rs with
    | some true, some n, some rs => some (.cell a true n :: rs)
    | some false, some _, some rs => some (.cell a false 1 :: rs)
    | _, _, _ => none
def lowF (imp : Bool) (f : Func) : Option LFunc :=
  match f.body, lowRes P f.results.toList with
  | some c, some rs => bif f.name == "runtime.NumGoroutine" then none else some ⟨f.ntmps, lowC P c, rs, imp, none⟩
  | _, _ => none
/-- The functions of a program; those of a list may write what is their caller's. -/
def lowP (imps : List Nat) (f : Nat) : Option LFunc := (P.funcs[f]?).bind (lowF P (imps.contains f))
end
end Go.Hx
