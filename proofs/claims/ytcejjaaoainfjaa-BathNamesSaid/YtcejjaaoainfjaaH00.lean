import Derived.OrdersIn
import Derived.RangeFuncLeaves
import Derived.LoopNIn
set_option linter.all false
namespace Go.Hx
noncomputable section
inductive HV where
 | bool (b : Bool)
 | int (k : IntKind) (n : Int)
 | str (s : ByteArray)
 | ptr (a : Option (Nat × Nat))
 | slice (a : Option (Nat × Nat)) (len cap : Nat)
 | map (r : Option Nat)
 | func (f : Nat) (first captured : List HV)
 | yield (l : Nat)
 | nilFunc
 | nilIface
 | via (t : Nat) (name : String) (f : Nat)
 | agg (cs : List HV)
 | tuple (vs : List HV)
 deriving Inhabited
def HV.undef : HV := .tuple []
def HV.cells : HV → List HV
 | .agg cs => cs
 | v => [v]
def HV.one : HV → Bool
 | .agg _ | .tuple _ => false
 | _ => true
inductive Pa where
 | z
 | a (p : Pa)
 | b (p : Pa)
 | c (p : Pa)
 | d (p : Pa)
def paDigit (q : Pa) (r : Nat) : Pa :=
 Nat.rec (motive := fun _ => Pa) (.a q) (fun r1 _ => Nat.rec (motive := fun _ => Pa) (.b q) (fun r2 _ => Nat.rec (motive := fun _ => Pa) (.c q) (fun _ _ => .d q) r2) r1) r
def paF (f : Nat) : Nat → Pa :=
 Nat.rec (motive := fun _ => Nat → Pa) (fun _ => .z) (fun _ ih k => Nat.rec (motive := fun _ => Pa) .z (fun j _ => paDigit (ih (Nat.div j 4)) (Nat.mod j 4)) k) f
def pa (k : Nat) : Pa := paF (Nat.succ k) k
inductive Tr (α : Type) where
 | e
 | n (v : Option α) (a b c d : Tr α)
def Tr.getP {α : Type} (p : Pa) : Tr α → Option α :=
 Pa.rec (motive := fun _ => Tr α → Option α)
  (fun t => Tr.rec (motive := fun _ => Option α) none (fun v _ _ _ _ _ _ _ _ => v) t)
  (fun _ ih t => Tr.rec (motive := fun _ => Option α) none (fun _ a _ _ _ _ _ _ _ => ih a) t)
  (fun _ ih t => Tr.rec (motive := fun _ => Option α) none (fun _ _ b _ _ _ _ _ _ => ih b) t)
  (fun _ ih t => Tr.rec (motive := fun _ => Option α) none (fun _ _ _ c _ _ _ _ _ => ih c) t)
  (fun _ ih t => Tr.rec (motive := fun _ => Option α) none (fun _ _ _ _ d _ _ _ _ => ih d) t) p
def Tr.setP {α : Type} (x : Option α) (p : Pa) : Tr α → Tr α :=
 Pa.rec (motive := fun _ => Tr α → Tr α)
  (fun t => Tr.rec (motive := fun _ => Tr α) (.n x .e .e .e .e) (fun _ a b c d _ _ _ _ => .n x a b c d) t)
  (fun _ ih t => Tr.rec (motive := fun _ => Tr α) (.n none (ih .e) .e .e .e) (fun v a b c d _ _ _ _ => .n v (ih a) b c d) t)
  (fun _ ih t => Tr.rec (motive := fun _ => Tr α) (.n none .e (ih .e) .e .e) (fun v a b c d _ _ _ _ => .n v a (ih b) c d) t)
  (fun _ ih t => Tr.rec (motive := fun _ => Tr α) (.n none .e .e (ih .e) .e) (fun v a b c d _ _ _ _ => .n v a b (ih c) d) t)
  (fun _ ih t => Tr.rec (motive := fun _ => Tr α) (.n none .e .e .e (ih .e)) (fun v a b c d _ _ _ _ => .n v a b c (ih d)) t) p
def Tr.get {α : Type} (t : Tr α) (k : Nat) : Option α := Tr.getP (pa k) t
def Tr.set {α : Type} (t : Tr α) (k : Nat) (x : Option α) : Tr α := Tr.setP x (pa k) t
inductive Lo where
 | t (n : Nat)
 | c (v : HV)
inductive Leaf where
 | b
 | i (k : IntKind)
 | s
inductive ED where
 | cell (k : Leaf)
 | row (ks : List Leaf)
 | nilSlice
 | nilPtr
 | nilMap
 | nilFunc
inductive LK where
 | slice
 | str
 | map
inductive LOp where
 | move (x : Lo)
 | pick (c a b : Lo)
 | alloc (zero : List HV)
 | box (x : Lo)
 | build (zero : List HV) (parts : List (Nat × Nat × Lo))
 | buildSlice (len : Nat) (zero : List HV) (parts : List (Nat × Nat × Lo))
 | load (agg : Bool) (n : Nat) (a : Lo)
 | store (n : Nat) (a x : Lo)
 | fieldAddr (off : Nat) (x : Lo)
 | indexAddrS (size : Nat) (x i : Lo)
 | indexAddrA (len size : Nat) (x i : Lo)
 | field (agg : Bool) (n off : Nat) (x : Lo)
 | indexA (len size : Nat) (agg : Bool) (x i : Lo)
 | bin (op : BinOp) (x y : Lo)
 | eq (d : ED) (neg : Bool) (x y : Lo)
 | un (op : UnOp) (x : Lo)
 | convInt (k : IntKind) (x : Lo)
 | makeFunc (f : Nat) (first captured : List Lo)
 | makeMap
 | makeSlice (zero : List HV) (bytes : Nat) (l c : Lo)
 | sliceS (size : Nat) (x : Lo) (lo hi : Option Lo)
 | sliceA (n size : Nat) (x : Lo) (lo hi : Option Lo)
 | copy (size : Nat) (d s : Lo)
 | lookup (d : ED) (zero : HV) (commaOk : Bool) (m k : Lo)
 | mapUpdate (d : ED) (m k v : Lo)
 | extract (x : Lo) (i : Nat)
 | len (k : LK) (x : Lo)
 | cap (x : Lo)
 | min (xs : List Lo)
 | max (xs : List Lo)
 | append (size bytes : Nat) (s x : Lo)
 | appendZ (zero : List HV) (bytes : Nat) (s n : Lo)
 | nilCheck (x : Lo)
 | call (f : Lo) (args : List Lo)
 | callC (f : Lo) (args : List Lo) (cs : List (Bool × Nat × Lo × Nat))
 | bad
structure zb where
 dst : Option Nat
 op : LOp
 g : Option (Nat × Bool)
 anc : List Nat
inductive zk where
 | skip
 | seq (a b : zk)
 | cond (c : Lo) (x y : zk)
 | block (id : Nat) (b : zk)
 | loop (b : zk)
 | scope (b : zk)
 | exit (id : Nat)
 | ret
 | reg (ops : List zb)
 | draw (s : Nat) (ops : List zb)
 | rangeFunc (f : Lo) (params : List Nat) (assign body : zk)
 | bad
inductive LRes where
 | t (n : Nat)
 | cell (a : Nat) (agg : Bool) (n : Nat)
inductive BK where
 | ro
 | exact
 | opn (esz : Nat)
inductive HExit where
 | normal
 | exit (id : Nat)
 | ret
inductive LState where
 | ready
 | busy
 | done
 | exhausted
structure HLoop where
 state : LState
 pending : HExit
 nt : Nat
 tmps : Tr HV
 params : List Nat
 assign : zk
 body : zk
 marks : Nat
inductive HBlk where
 | cells (cs : List HV) (k : BK)
 | map (es : List (HV × HV))
 | loop (l : HLoop)
 | marks
structure HS where
 h : Tr HBlk
 nx : Nat
structure ze where
 nt : Nat
 body : zk
 res : List LRes
 imp : Bool
 spec : Option (List HV → HS → Option (HV × HS))
 via : Nat → String → Option (Nat × Nat)
structure HAct where
 nt : Nat
 tmps : Tr HV
 defers : List Nat
def HAct.tmp (a : HAct) (t : Nat) : HV := (a.tmps.get t).getD .undef
def HAct.ev (a : HAct) : Lo → HV
 | .t n => a.tmp n
 | .c v => v
def HAct.put (a : HAct) (dst : Option Nat) (v : HV) : HAct :=
 match dst with
 | none => a
 | some d => bif Nat.blt d a.nt then { a with tmps := a.tmps.set d (some v) } else a
def HS.cells (σ : HS) (b : Nat) : Option (List HV) :=
 match σ.h.get b with
 | some (.cells cs _) => some cs
 | _ => none
def HS.new (σ : HS) (blk : HBlk) : HS := ⟨σ.h.set σ.nx (some blk), σ.nx + 1⟩
def HS.upd (σ : HS) (b : Nat) (blk : Option HBlk) : HS := ⟨σ.h.set b blk, σ.nx⟩
def takeN (n : Nat) (l : List HV) : Option (List HV) :=
 match n, l with
 | 0, _ => some []
 | _ + 1, [] => none
 | n + 1, v :: l => (takeN n l).map (v :: ·)
def HS.read (σ : HS) (a : Nat × Nat) (n : Nat) : Option (List HV) := do
 let cs ← σ.cells a.1
 takeN n (cs.drop a.2)
def overwrite (l : List HV) (o : Nat) (vs : List HV) : Option (List HV) :=
 match l, o, vs with
 | l, _, [] => some l
 | [], _, _ :: _ => none
 | _ :: l, 0, v :: vs => (overwrite l 0 vs).map (v :: ·)
 | x :: l, o + 1, vs => (overwrite l o vs).map (x :: ·)
def HS.write (σ : HS) (fl : Nat) (a : Nat × Nat) (vs : List HV) : Option HS :=
 match σ.h.get a.1 with
 | some (.cells _ .ro) => none
 | some (.cells cs k) => bif Nat.ble fl a.1 && vs.all HV.one then (overwrite cs a.2 vs).map fun cs => σ.upd a.1 (some (.cells cs k)) else none
 | _ => none
def small (n : Int) : Bool :=
 match n with
 | .ofNat a => Nat.blt a 9223372036854775808
 | .negSucc a => Nat.blt a 9223372036854775808
def wr (k : IntKind) (n : Int) : Int :=
 match k with
 | .i64 => bif small n then n else IntKind.wrap .i64 n
 | k => k.wrap n
def ltI (a b : Int) : Bool :=
 match a, b with
 | .ofNat x, .ofNat y => Nat.blt x y
 | .ofNat _, .negSucc _ => false
 | .negSucc _, .ofNat _ => true
 | .negSucc x, .negSucc y => Nat.blt y x
def eqI (a b : Int) : Bool :=
 match a, b with
 | .ofNat x, .ofNat y => Nat.beq x y
 | .negSucc x, .negSucc y => Nat.beq x y
 | _, _ => false
def sameK : IntKind → IntKind → Bool
 | .i64, .i64 => true
 | a, b => decide (a = b)
def intArith (op : BinOp) (k : IntKind) (a b : Int) : Option HV :=
 match op with
 | .add => some (.int k (k.wrap (a + b)))
 | .sub => some (.int k (k.wrap (a - b)))
 | .mul => some (.int k (k.wrap (a * b)))
 | .quo => if b = 0 then none else some (.int k (k.wrap (a.tdiv b)))
 | .rem => if b = 0 then none else some (.int k (a.tmod b))
 | .eql => some (.bool (a == b))
 | .neq => some (.bool (a != b))
 | .lss => some (.bool (decide (a < b)))
 | .leq => some (.bool (decide (a ≤ b)))
 | .gtr => some (.bool (decide (a > b)))
 | .geq => some (.bool (decide (a ≥ b)))
 | .and => some (.int k (k.wrap (BitVec.ofInt k.bits a &&& BitVec.ofInt k.bits b).toNat))
 | .or => some (.int k (k.wrap (BitVec.ofInt k.bits a ||| BitVec.ofInt k.bits b).toNat))
 | .xor => some (.int k (k.wrap (BitVec.ofInt k.bits a ^^^ BitVec.ofInt k.bits b).toNat))
 | .andNot => some (.int k (k.wrap (BitVec.ofInt k.bits a &&& ~~~ BitVec.ofInt k.bits b).toNat))
 | _ => none
def intFast (op : BinOp) (k : IntKind) (a b : Int) : Option HV :=
 match op with
 | .add => some (.int k (wr k (Int.add a b)))
 | .sub => some (.int k (wr k (Int.sub a b)))
 | .mul => some (.int k (wr k (Int.mul a b)))
 | .eql => some (.bool (eqI a b))
 | .neq => some (.bool (!eqI a b))
 | .lss => some (.bool (ltI a b))
 | .leq => some (.bool (!ltI b a))
 | .gtr => some (.bool (ltI b a))
 | .geq => some (.bool (!ltI a b))
 | op => intArith op k a b
def shiftH (op : BinOp) (k : IntKind) (a b : Int) : Option HV :=
 if b < 0 then none else
 match op with
 | .shl => some (.int k (k.wrap (a * 2 ^ (Nat.min b.toNat k.bits))))
 | .shr => some (.int k (a.fdiv (2 ^ (Nat.min b.toNat k.bits))))
 | _ => none
def eqLeaf : Leaf → HV → HV → Option Bool
 | .b, .bool a, .bool b => some (a == b)
 | .i k, .int k1 a, .int k2 b => if k1 = k ∧ k2 = k then some (a == b) else none
 | .s, .str a, .str b => some (a == b)
 | _, _, _ => none
def eqRow : List Leaf → List HV → List HV → Option Bool
 | [], [], [] => some true
 | k :: ks, x :: xs, y :: ys =>
  match eqLeaf k x y, eqRow ks xs ys with
  | some a, some b => some (a && b)
  | _, _ => none
 | _, _, _ => none
def nilEq : Bool → Bool → Option Bool
 | true, b => some b
 | false, true => some false
 | false, false => none
def eqH : ED → HV → HV → Option Bool
 | .cell k, x, y => eqLeaf k x y
 | .row ks, .agg xs, .agg ys => eqRow ks xs ys
 | .nilSlice, .slice p _ _, .slice q _ _ => nilEq p.isNone q.isNone
 | .nilPtr, .ptr p, .ptr q => nilEq p.isNone q.isNone
 | .nilMap, .map p, .map q => nilEq p.isNone q.isNone
 | .nilFunc, .nilFunc, .nilFunc => some true
 | .nilFunc, .nilFunc, .func _ _ _ => some false
 | .nilFunc, .func _ _ _, .nilFunc => some false
 | _, _, _ => none
def isShift : BinOp → Bool
 | .shl | .shr => true
 | _ => false
def binH0 (op : BinOp) (x y : HV) : Option HV :=
 match x, y with
 | .int k a, .int k' b => bif isShift op then shiftH op k a b else if k = k' then intArith op k a b else none
 | _, _ => none
def binH (op : BinOp) (x y : HV) : Option HV :=
 match x, y with
 | .int k a, .int k' b => bif isShift op then shiftH op k a b else bif sameK k k' then intFast op k a b else none
 | _, _ => none
def unH (op : UnOp) (x : HV) : Option HV :=
 match op, x with
 | .neg, .int k n => some (.int k (k.wrap (0 - n)))
 | .not, .bool b => some (.bool !b)
 | _, _ => none
def fillH : List HV → List (Nat × Nat × HV) → Option (List HV)
 | cells, [] => some cells
 | cells, (off, size, v) :: rest => bif Nat.beq v.cells.length size && Nat.ble (off + size) cells.length then (overwrite cells off v.cells).bind (fillH · rest) else none
def repl (n : Nat) (zero : List HV) : List HV := ((List.replicate n zero).flatten : List HV)
def partH (agg : Bool) (n off : Nat) (cs : List HV) : Option HV :=
 bif agg then (takeN n (cs.drop off)).map .agg else cs[off]?
def natOf : HV → Option Nat
 | .int _ (.ofNat a) => some a
 | _ => none
def findH (d : ED) (k : HV) : List (HV × HV) → Option (Option HV)
 | [] => some none
 | (x, v) :: es =>
  match eqH d k x with
  | some true => some (some v)
  | some false => findH d k es
  | none => none
def updH (d : ED) (k v : HV) : List (HV × HV) → Option (List (HV × HV))
 | [] => some [(k, v)]
 | (x, u) :: es =>
  match eqH d k x with
  | some true => some ((k, v) :: es)
  | some false => (updH d k v es).map ((x, u) :: ·)
  | none => none
def foldInt (f : Int → Int → Int) (k : IntKind) : Int → List HV → Option HV
 | a, [] => some (.int k a)
 | a, .int _ b :: l => foldInt f k (f a b) l
 | _, _ => none
def minmax (f : Int → Int → Int) : List HV → Option HV
 | .int k a :: l => foldInt f k a l
 | _ => none
def readS (σ : HS) (a : Nat × Nat) (n : Nat) : Option (List HV) := bif Nat.beq n 0 then some [] else σ.read a n
def appendH (fl : Nat) (σ : HS) (size bytes : Nat) (s x : HV) : Option (HV × HS) :=
 match s, x with
 | .slice sa sl sc, .slice xa xl _ =>
  match (match xa with | none => some [] | some a => readS σ a (xl * size)) with
  | none => none
  | some news =>
   bif Nat.ble (sl + xl) sc then
    match sa, news with
    | _, [] => some (.slice sa (sl + xl) sc, σ)
    | none, _ => none
    | some a, news => (σ.write fl (a.1, a.2 + sl * size) news).map fun σ => (.slice sa (sl + xl) sc, σ)
   else bif Nat.ble ((sl + xl) * bytes) 35184372088832 && Nat.ble (sl + xl) 35184372088832 && Nat.blt 0 size then
    match sa with
    | none => bif Nat.beq sl 0 then some (.slice (some (σ.nx, 0)) (sl + xl) (sl + xl), σ.new (.cells news (.opn size))) else none
    | some a =>
     match σ.h.get a.1, σ.read a (sl * size) with
     | some (.cells _ .exact), some old => some (.slice (some (σ.nx, 0)) (sl + xl) (sl + xl), σ.new (.cells (old ++ news) (.opn size)))
     | some (.cells cs (.opn z)), some old =>
      bif Nat.ble fl a.1 && Nat.beq z size && Nat.beq (a.2 + sc * size) cs.length && news.all HV.one then
       some (.slice (some (σ.nx, 0)) (sl + xl) (sl + xl), (σ.upd a.1 none).new (.cells (old ++ news) (.opn size)))
      else none
     | _, _ => none
   else none
 | _, _ => none
def boundH (d : Nat) : Option HV → Option Nat
 | none => some d
 | some v => natOf v
def cutH (σ : HS) (size : Nat) (p : Option (Nat × Nat)) (cap l h : Nat) : Option HV :=
 match p with
 | none => some (.slice none (h - l) (cap - l))
 | some (b, o) =>
  if l < cap ∨ l = 0 then some (.slice (some (b, o + l * size)) (h - l) (cap - l)) else
  match σ.h.get b with
  | some (.cells _ .exact) => some (.slice (some (b, o)) (h - l) (cap - l))
  | _ => none
def sliceH (σ : HS) (size : Nat) (x : HV) (lo hi : Option HV) : Option HV :=
 match x with
 | .slice p len cap =>
  match boundH len hi, boundH 0 lo with
  | some h, some l => if l ≤ h ∧ h ≤ cap then cutH σ size p cap l h else none
  | _, _ => none
 | _ => none
def lenH (σ : HS) : LK → HV → Option HV
 | .slice, .slice _ n _ => some (.int .i64 n)
 | .str, .str s => some (.int .i64 s.size)
 | .map, .map none => some (.int .i64 0)
 | .map, .map (some r) =>
  match σ.h.get r with
  | some (.map es) => some (.int .i64 es.length)
  | _ => none
 | _, _ => none
def capH (σ : HS) : HV → Option HV
 | .slice none _ n => some (.int .i64 n)
 | .slice (some a) _ n =>
  match σ.h.get a.1 with
  | some (.cells _ .exact) => some (.int .i64 n)
  | _ => none
 | _ => none
abbrev Ex := Nat → Option Nat → zk → HAct → HS → Option (HExit × HAct × HS)
def putAll (tmps : Tr HV) : Nat → List HV → Tr HV
 | _, [] => tmps
 | i, v :: vs => putAll (tmps.set i (some v)) (i + 1) vs
def takeMarks (fl : Nat) : List Nat → HS → Option HS
 | [], σ => some σ
 | m :: ms, σ =>
  match σ.h.get m with
  | some .marks => bif Nat.ble fl m then takeMarks fl ms (σ.upd m none) else none
  | _ => none
def whole (agg : Bool) (cs : List HV) : Option HV :=
 match agg, cs with
 | true, cs => some (.agg cs)
 | false, [v] => some v
 | _, _ => none
def resH (a : HAct) (σ : HS) : List LRes → Option (List HV)
 | [] => some []
 | .t n :: rs =>
  match resH a σ rs with
  | some vs => some (a.tmp n :: vs)
  | none => none
 | .cell t agg n :: rs =>
  match a.tmp t with
  | .ptr (some p) =>
   match σ.read p n, resH a σ rs with
   | some cs, some vs =>
    match whole agg cs with
    | some v => some (v :: vs)
    | none => none
   | _, _ => none
  | _ => none
def oneOf : List HV → HV
 | [v] => v
 | vs => .tuple vs
def leaveH (fl : Nat) (a : HAct) (res : List LRes) (σ : HS) : Option (HV × HS) :=
 match takeMarks fl a.defers σ with
 | some σ =>
  match resH a σ res with
  | some vs => some (oneOf vs, σ)
  | none => none
 | none => none
def callB (ex : Ex) (fl : Nat) (lf : ze) (args : List HV) (σ : HS) : Option (HV × HS) :=
 match ex fl none lf.body ⟨Nat.max lf.nt args.length, putAll .e 0 args, []⟩ σ with
 | some (.normal, a, σ') => leaveH fl a lf.res σ'
 | some (.ret, a, σ') => leaveH fl a lf.res σ'
 | _ => none
def keepV (h1 : Tr HBlk) (nx : Nat) (k : List HV → Tr HBlk → Tr HBlk) (h : Tr HBlk) (v : HV) : Tr HBlk :=
 match v with
 | .slice (some (b, _)) _ _ | .ptr (some (b, _)) =>
  bif Nat.blt b nx then h else
  match h1.get b with
  | some (.cells cs bk) => k cs (h.set b (some (.cells cs bk)))
  | _ => h
 | .map (some b) =>
  bif Nat.blt b nx then h else
  match h1.get b with
  | some (.map es) => k (es.map Prod.snd) (h.set b (some (.map es)))
  | _ => h
 | .agg cs => k cs h
 | .tuple cs => k cs h
 | .func _ f c => k (f ++ c) h
 | _ => h
def keepD (h1 : Tr HBlk) (nx : Nat) : Nat → List HV → Tr HBlk → Tr HBlk
 | 0, _, h => h
 | d + 1, vs, h => vs.foldl (keepV h1 nx (keepD h1 nx d)) h
def gcH (σ σ' : HS) (v : HV) : HS := ⟨keepD σ'.h σ.nx 5 [v] σ.h, σ'.nx⟩
def specH (g : List HV → HS → Option (HV × HS)) (args : List HV) (σ : HS) : Option (HV × HS) :=
 match g args σ with
 | some (v, σ') => bif Nat.ble σ.nx σ'.nx then some (v, σ') else none
 | none => none
def callF (lp : Nat → Option ze) (ex : Ex) (fl f : Nat) (args : List HV) (σ : HS) : Option (HV × HS) :=
 match lp f with
 | none => none
 | some lf =>
  match lf.spec with
  | some g => specH g args σ
  | none =>
  bif lf.imp then callB ex fl lf args σ else
  match callB ex σ.nx lf args σ with
  | some (v, σ') => some (v, gcH σ σ' v)
  | none => none
def zipPut (nt : Nat) (tmps : Tr HV) : List Nat → List HV → Option (Tr HV)
 | [], [] => some tmps
 | p :: ps, v :: vs => zipPut nt (bif Nat.blt p nt then tmps.set p (some v) else tmps) ps vs
 | _, _ => none
def endRoundH (l : Nat) (e : HExit) (σ : HS) : Option (HV × HS) :=
 match σ.h.get l with
 | some (.loop r) =>
  match e with
  | .normal => some (.bool true, σ.upd l (some (.loop { r with state := .ready, pending := .normal })))
  | e => some (.bool false, σ.upd l (some (.loop { r with state := .done, pending := e })))
 | _ => none
def beginRoundH (fl l : Nat) (σ : HS) : Option HS :=
 match σ.h.get l with
 | some (.loop r) =>
  match r.state with
  | .ready => bif Nat.ble fl l then some (σ.upd l (some (.loop { r with state := .busy }))) else none
  | _ => none
 | _ => none
def roundH (ex : Ex) (fl l : Nat) (args : List HV) (σ : HS) : Option (HV × HS) :=
 match σ.h.get l with
 | some (.loop r) =>
  match zipPut r.nt r.tmps r.params args with
  | some tmps =>
   match ex fl (some l) r.assign ⟨r.nt, tmps, []⟩ σ with
   | some (.normal, a, σ) =>
    match beginRoundH fl l σ with
    | some σ =>
     match ex fl (some l) r.body a σ with
     | some (e, _, σ) => endRoundH l e σ
     | none => none
    | none => none
   | _ => none
  | none => none
 | _ => none
def viaOf (lp : Nat → Option ze) (f t : Nat) (name : String) : Option Nat :=
 match lp f with
 | some lf =>
  match lf.via t name with
  | some (g, off) => bif Nat.beq g f then some off else none
  | none => none
 | none => none
def callV (lp : Nat → Option ze) (ex : Ex) (fl t : Nat) (name : String) (f : Nat) (args : List HV) (σ : HS) : Option (HV × HS) :=
 match viaOf lp f t name, args with
 | some off, .ptr (some (b, o)) :: rest => callF lp ex fl f (.ptr (some (b, o + off)) :: rest) σ
 | _, _ => none
def callH (lp : Nat → Option ze) (ex : Ex) (fl : Nat) (f : HV) (args : List HV) (σ : HS) : Option (HV × HS) :=
 match f with
 | .func f first captured => callF lp ex fl f (first ++ args ++ captured) σ
 | .yield l => roundH ex fl l args σ
 | .via t name f => callV lp ex fl t name f args σ
 | _ => none
def evParts (a : HAct) (ps : List (Nat × Nat × Lo)) : List (Nat × Nat × HV) := ps.map fun (o, s, x) => (o, s, a.ev x)
abbrev OpF := HAct → HS → Option (HV × HS)
def keep (σ : HS) (r : Option HV) : Option (HV × HS) :=
 match r with
 | some v => some (v, σ)
 | none => none
def oMove (x : Lo) : OpF := fun a σ => some (a.ev x, σ)
def oPick (c x y : Lo) : OpF := fun a σ =>
 match a.ev c with
 | .bool b => some (bif b then a.ev x else a.ev y, σ)
 | _ => none
def oNew (v : HS → HV) (cs : List HV) (k : BK) (σ : HS) : Option (HV × HS) := some (v σ, σ.new (.cells cs k))
def atNew (σ : HS) : HV := .ptr (some (σ.nx, 0))
def rowNew (l c : Nat) (σ : HS) : HV := .slice (some (σ.nx, 0)) l c
def oAlloc (zero : List HV) : OpF := fun _ σ => oNew atNew zero .exact σ
def oBox (x : Lo) : OpF := fun a σ => oNew atNew (a.ev x).cells .exact σ
def oBuild (zero : List HV) (parts : List (Nat × Nat × Lo)) : OpF := fun a σ =>
 match fillH zero (evParts a parts) with
 | some cs => some (.agg cs, σ)
 | none => none
def oBuildSlice (len : Nat) (zero : List HV) (parts : List (Nat × Nat × Lo)) : OpF := fun a σ =>
 match fillH (repl len zero) (evParts a parts) with
 | some cs => oNew (rowNew len len) cs .exact σ
 | none => none
def oLoad (agg : Bool) (n : Nat) (x : Lo) : OpF := fun a σ =>
 match a.ev x with
 | .ptr (some p) =>
  match σ.read p n with
  | some cs => keep σ (whole agg cs)
  | none => none
 | _ => none
def oStore (fl n : Nat) (x v : Lo) : OpF := fun a σ =>
 match a.ev x with
 | .ptr (some p) =>
  bif Nat.beq (a.ev v).cells.length n then
   match σ.write fl p (a.ev v).cells with
   | some σ => some (.undef, σ)
   | none => none
  else none
 | _ => none
def oFieldAddr (off : Nat) (x : Lo) : OpF := fun a σ =>
 match a.ev x with
 | .ptr (some (b, o)) => some (.ptr (some (b, Nat.add o off)), σ)
 | _ => none
def stepTo (b o size : Nat) (len : Nat) (i : Option Nat) (σ : HS) : Option (HV × HS) :=
 match i with
 | some i => bif Nat.blt i len then some (.ptr (some (b, Nat.add o (Nat.mul i size))), σ) else none
 | none => none
def oIndexAddrS (size : Nat) (x i : Lo) : OpF := fun a σ =>
 match a.ev x with
 | .slice (some (b, o)) len _ => stepTo b o size len (natOf (a.ev i)) σ
 | _ => none
def oIndexAddrA (len size : Nat) (x i : Lo) : OpF := fun a σ =>
 match a.ev x with
 | .ptr (some (b, o)) => stepTo b o size len (natOf (a.ev i)) σ
 | _ => none
def oField (agg : Bool) (n off : Nat) (x : Lo) : OpF := fun a σ =>
 match a.ev x with
 | .agg cs => keep σ (partH agg n off cs)
 | _ => none
def oIndexA (len size : Nat) (agg : Bool) (x i : Lo) : OpF := fun a σ =>
 match a.ev x, natOf (a.ev i) with
 | .agg cs, some i => bif Nat.blt i len then keep σ (partH agg size (Nat.mul i size) cs) else none
 | _, _ => none
def oBin (op : BinOp) (x y : Lo) : OpF := fun a σ => keep σ (binH op (a.ev x) (a.ev y))
def oEq (d : ED) (neg : Bool) (x y : Lo) : OpF := fun a σ =>
 match eqH d (a.ev x) (a.ev y) with
 | some b => some (.bool (b != neg), σ)
 | none => none
def oUn (op : UnOp) (x : Lo) : OpF := fun a σ => keep σ (unH op (a.ev x))
def oConvInt (k : IntKind) (x : Lo) : OpF := fun a σ =>
 match a.ev x with
 | .int _ n => some (.int k (k.wrap n), σ)
 | _ => none
def oMakeFunc (f : Nat) (first captured : List Lo) : OpF := fun a σ => some (.func f (first.map a.ev) (captured.map a.ev), σ)
def oMakeMap : OpF := fun _ σ => some (.map (some σ.nx), σ.new (.map []))
def oMakeSlice (zero : List HV) (bytes : Nat) (l c : Lo) : OpF := fun a σ =>
 match natOf (a.ev l), natOf (a.ev c) with
 | some l, some c => bif Nat.ble l c && Nat.ble (c * bytes) 35184372088832 && Nat.ble c 35184372088832 then oNew (rowNew l c) (repl c zero) .exact σ else none
 | _, _ => none
def endH (x : HV) (lo hi : Option HV) : Bool :=
 match x with
 | .slice (some _) len cap =>
  match boundH len hi, boundH 0 lo with
  | some h, some l => Nat.beq l cap && Nat.beq h cap
  | _, _ => false
 | _ => false
def oSliceS (size : Nat) (x : Lo) (lo hi : Option Lo) : OpF := fun a σ =>
 match sliceH σ size (a.ev x) (lo.map a.ev) (hi.map a.ev) with
 | some v => some (v, σ)
 | none => bif endH (a.ev x) (lo.map a.ev) (hi.map a.ev) then some (.slice (some (σ.nx, 0)) 0 0, ⟨σ.h, σ.nx + 1⟩) else none
def sliceArrH (σ : HS) (n size : Nat) (x : HV) (lo hi : Option HV) : Option HV :=
 match x with
 | .ptr (some (b, o)) =>
  match σ.h.get b, boundH n hi, boundH 0 lo with
  | some (.cells _ .exact), some h, some l => bif Nat.ble l h && Nat.ble h n && Nat.blt l n then some (.slice (some (b, o + l * size)) (h - l) (n - l)) else none
  | _, _, _ => none
 | _ => none
def oSliceA (n size : Nat) (x : Lo) (lo hi : Option Lo) : OpF := fun a σ => keep σ (sliceArrH σ n size (a.ev x) (lo.map a.ev) (hi.map a.ev))
def copyH (fl : Nat) (σ : HS) (size : Nat) (d s : HV) : Option (HV × HS) :=
 match d, s with
 | .slice da dl _, .slice sa sl _ =>
  match (match sa with | none => some [] | some a => readS σ a (Nat.min sl dl * size)) with
  | none => none
  | some news =>
   match da, news with
   | _, [] => some (.int .i64 (Nat.min sl dl : Nat), σ)
   | none, _ => none
   | some a, news => (σ.write fl a news).map fun σ => (.int .i64 (Nat.min sl dl : Nat), σ)
 | _, _ => none
def oCopy (fl size : Nat) (d s : Lo) : OpF := fun a σ => copyH fl σ size (a.ev d) (a.ev s)
def found (ok : Bool) (v : HV) (is : Bool) (σ : HS) : Option (HV × HS) := some (bif ok then .tuple [v, .bool is] else v, σ)
def keyOk (d : ED) (k : HV) : Bool := (eqH d k k).isSome
def oLookup (d : ED) (zero : HV) (ok : Bool) (m k : Lo) : OpF := fun a σ =>
 bif keyOk d (a.ev k) then
  match a.ev m with
  | .map none => found ok zero false σ
  | .map (some r) =>
   match σ.h.get r with
   | some (.map es) =>
    match findH d (a.ev k) es with
    | some (some v) => found ok v true σ
    | some none => found ok zero false σ
    | none => none
   | _ => none
  | _ => none
 else none
def oMapUpdate (fl : Nat) (d : ED) (m k v : Lo) : OpF := fun a σ =>
 bif keyOk d (a.ev k) then
  match a.ev m with
  | .map (some r) =>
   match σ.h.get r with
   | some (.map es) =>
    bif Nat.ble fl r then
     match updH d (a.ev k) (a.ev v) es with
     | some es => some (.undef, σ.upd r (some (.map es)))
     | none => none
    else none
   | _ => none
  | _ => none
 else none
def oExtract (x : Lo) (i : Nat) : OpF := fun a σ =>
 match a.ev x with
 | .tuple vs => keep σ (vs[i]?)
 | _ => none
def oLen (k : LK) (x : Lo) : OpF := fun a σ => keep σ (lenH σ k (a.ev x))
def oCap (x : Lo) : OpF := fun a σ => keep σ (capH σ (a.ev x))
def oMin (xs : List Lo) : OpF := fun a σ => keep σ (minmax (fun x y => if y < x then y else x) (xs.map a.ev))
def oMax (xs : List Lo) : OpF := fun a σ => keep σ (minmax (fun x y => if y > x then y else x) (xs.map a.ev))
def oAppend (fl size bytes : Nat) (s x : Lo) : OpF := fun a σ => appendH fl σ size bytes (a.ev s) (a.ev x)
def oAppendZ (zero : List HV) (bytes : Nat) (s n : Lo) : OpF := fun a σ =>
 match a.ev s, natOf (a.ev n) with
 | .slice none 0 0, some n => bif Nat.blt 0 n && Nat.ble (n * bytes) 35184372088832 && Nat.ble n 35184372088832 && Nat.blt 0 zero.length then oNew (rowNew n n) (repl n zero) (.opn zero.length) σ else none
 | _, _ => none
def oNilCheck (x : Lo) : OpF := fun a σ =>
 match a.ev x with
 | .ptr (some p) => some (.ptr (some p), σ)
 | .func f first captured => some (.func f first captured, σ)
 | _ => none
def oCall (lp : Nat → Option ze) (ex : Ex) (fl : Nat) (f : Lo) (args : List Lo) : OpF := fun a σ => callH lp ex fl (a.ev f) (args.map a.ev) σ
def hvEq1 : HV → HV → Bool
 | .bool a, .bool b => a == b
 | .int k a, .int k' b => sameK k k' && eqI a b
 | .ptr (some (a, b)), .ptr (some (c, d)) => Nat.beq a c && Nat.beq b d
 | .slice none a b, .slice none c d => Nat.beq a c && Nat.beq b d
 | .slice (some (a, b)) l c, .slice (some (d, e)) m n => (Nat.beq a d && Nat.beq b e) && (Nat.beq l m && Nat.beq c n)
 | .map none, .map none => true
 | .map (some a), .map (some b) => Nat.beq a b
 | .func f [] [], .func g [] [] => Nat.beq f g
 | .nilFunc, .nilFunc => true
 | _, _ => false
def hvEqs : List HV → List HV → Bool
 | [], [] => true
 | x :: xs, y :: ys => hvEq1 x y && hvEqs xs ys
 | _, _ => false
def hvEq : HV → HV → Bool
 | .agg a, .agg b => hvEqs a b
 | a, b => hvEq1 a b
def chkH (a : HAct) (σ : HS) : List (Bool × Nat × Lo × Nat) → Bool
 | [] => true
 | (g, n, x, t) :: cs => (match oLoad g n x a σ with | some (u, _) => Nat.blt t a.nt && hvEq u (a.tmp t) | none => false) && chkH a σ cs
def oCallC (lp : Nat → Option ze) (ex : Ex) (fl : Nat) (f : Lo) (args : List Lo) (cs : List (Bool × Nat × Lo × Nat)) : OpF := fun a σ =>
 match callH lp ex fl (a.ev f) (args.map a.ev) σ with
 | some (v, σ') => bif chkH a σ' cs then some (v, σ') else none
 | none => none
def oBad : OpF := fun _ _ => none
def opH (lp : Nat → Option ze) (ex : Ex) (fl : Nat) : LOp → OpF
 | .move x => oMove x
 | .pick c x y => oPick c x y
 | .alloc zero => oAlloc zero
 | .box x => oBox x
 | .build zero parts => oBuild zero parts
 | .buildSlice len zero parts => oBuildSlice len zero parts
 | .load agg n x => oLoad agg n x
 | .store n x v => oStore fl n x v
 | .fieldAddr off x => oFieldAddr off x
 | .indexAddrS size x i => oIndexAddrS size x i
 | .indexAddrA len size x i => oIndexAddrA len size x i
 | .field agg n off x => oField agg n off x
 | .indexA len size agg x i => oIndexA len size agg x i
 | .bin op x y => oBin op x y
 | .eq d neg x y => oEq d neg x y
 | .un op x => oUn op x
 | .convInt k x => oConvInt k x
 | .makeFunc f first captured => oMakeFunc f first captured
 | .makeMap => oMakeMap
 | .makeSlice zero bytes l c => oMakeSlice zero bytes l c
 | .sliceS size x lo hi => oSliceS size x lo hi
 | .sliceA n size x lo hi => oSliceA n size x lo hi
 | .copy size d s => oCopy fl size d s
 | .lookup d zero ok m k => oLookup d zero ok m k
 | .mapUpdate d m k v => oMapUpdate fl d m k v
 | .extract x i => oExtract x i
 | .len k x => oLen k x
 | .cap x => oCap x
 | .min xs => oMin xs
 | .max xs => oMax xs
 | .append size bytes s x => oAppend fl size bytes s x
 | .appendZ zero bytes s n => oAppendZ zero bytes s n
 | .nilCheck x => oNilCheck x
 | .call f args => oCall lp ex fl f args
 | .callC f args cs => oCallC lp ex fl f args cs
 | .bad => oBad
def wantedH (g : Option (Nat × Bool)) (a : HAct) : Bool :=
 match g with
 | none => true
 | some (t, want) =>
  match a.tmp t with
  | .bool b => b == want
  | _ => false
def stepOp (lp : Nat → Option ze) (ex : Ex) (fl : Nat) (o : zb) (a : HAct) (σ : HS) : Option (HAct × HS) :=
 bif wantedH o.g a then
  match opH lp ex fl o.op a σ with
  | some (v, σ) => some (a.put o.dst v, σ)
  | none => none
 else some (a.put o.dst .undef, σ)
def runOps (lp : Nat → Option ze) (ex : Ex) (fl : Nat) : List zb → HAct → HS → Option (HAct × HS)
 | [], a, σ => some (a, σ)
 | o :: os, a, σ =>
  match stepOp lp ex fl o a σ with
  | some (a, σ) => runOps lp ex fl os a σ
  | none => none
def newFrom (h : Tr HBlk) : Nat → Nat → List (Nat × HBlk)
 | _, 0 => []
 | lo, n + 1 =>
  match h.get lo with
  | some b => (lo, b) :: newFrom h (lo + 1) n
  | none => newFrom h (lo + 1) n
def addAll (h : Tr HBlk) : List (Nat × HBlk) → Tr HBlk
 | [] => h
 | (b, x) :: l => addAll (h.set b (some x)) l
def merge (h : Tr HBlk) (anc : Option (List Nat)) : List (Nat × List (Nat × HBlk)) → Tr HBlk
 | [] => h
 | (j, l) :: ds => merge (bif (match anc with | none => true | some anc => anc.contains j) then addAll h l else h) anc ds
def dropAll (anc : List Nat) : List (Nat × List (Nat × HBlk)) → List (Nat × List (Nat × HBlk))
 | [] => []
 | (j, l) :: ds => bif anc.contains j then dropAll anc ds else (j, l) :: dropAll anc ds
def drawOps (lp : Nat → Option ze) (ex : Ex) (fl s n0 : Nat) (h0 : Tr HBlk) : List zb → Nat → List (Nat × List (Nat × HBlk)) → HAct → Nat → Option (HAct × HS)
 | [], _, done, a, nx => some (a, ⟨merge h0 none done, nx⟩)
 | o :: os, i, done, a, nx =>
  bif Nat.blt i s then
   bif o.anc.contains i then
    match stepOp lp ex (Nat.max fl n0) o a ⟨merge h0 (some o.anc) done, nx⟩ with
    | some (a, σ) => bif !Nat.ble nx σ.nx then none else drawOps lp ex fl s n0 h0 os (i + 1) ((i, newFrom σ.h n0 (σ.nx - n0)) :: dropAll o.anc done) a σ.nx
    | none => none
   else
    match stepOp lp ex (Nat.max fl nx) o a ⟨merge h0 (some o.anc) done, nx⟩ with
    | some (a, σ) => bif !Nat.ble nx σ.nx then none else drawOps lp ex fl s n0 h0 os (i + 1) (bif Nat.beq nx σ.nx then done else (i, newFrom σ.h nx (σ.nx - nx)) :: done) a σ.nx
    | none => none
  else runOps lp ex fl (o :: os) a ⟨merge h0 none done, nx⟩
def xSeq (ex : Ex) (fl : Nat) (rd : Option Nat) (x y : zk) (a : HAct) (σ : HS) : Option (HExit × HAct × HS) :=
 match ex fl rd x a σ with
 | some (.normal, a, σ) => ex fl rd y a σ
 | r => r
def xCond (ex : Ex) (fl : Nat) (rd : Option Nat) (c : Lo) (x y : zk) (a : HAct) (σ : HS) : Option (HExit × HAct × HS) :=
 match a.ev c with
 | .bool b => bif b then ex fl rd x a σ else ex fl rd y a σ
 | _ => none
def xBlock (ex : Ex) (fl : Nat) (rd : Option Nat) (id : Nat) (x : zk) (a : HAct) (σ : HS) : Option (HExit × HAct × HS) :=
 match ex fl rd x a σ with
 | some (.exit i, a, σ) => some (bif Nat.beq i id then .normal else .exit i, a, σ)
 | r => r
def xNormal (r : Option (HAct × HS)) : Option (HExit × HAct × HS) :=
 match r with
 | some (a, σ) => some (.normal, a, σ)
 | none => none
def marksOf (rd : Option Nat) (σ : HS) : Option (Nat × List Nat × HS) :=
 match rd with
 | none => some (σ.nx, [σ.nx], σ.new .marks)
 | some l =>
  match σ.h.get l with
  | some (.loop r) => some (r.marks, [], σ)
  | _ => none
def endLoopH (fl l : Nat) (ms : List Nat) (a : HAct) (σ : HS) : Option (HExit × HAct × HS) :=
 match σ.h.get l with
 | some (.loop r) =>
  match r.state with
  | .busy => none
  | _ => bif Nat.ble fl l then some (r.pending, { a with defers := ms ++ a.defers }, σ.upd l (some (.loop { r with state := .exhausted }))) else none
 | _ => none
def xRange (lp : Nat → Option ze) (ex : Ex) (fl : Nat) (rd : Option Nat) (f : Lo) (ps : List Nat) (assign body : zk) (a : HAct) (σ : HS) : Option (HExit × HAct × HS) :=
 match a.ev f, marksOf rd σ with
 | .func g first captured, some (mk, ms, σ) =>
  match callF lp ex fl g (first ++ [.yield σ.nx] ++ captured) (σ.new (.loop ⟨.ready, .normal, a.nt, a.tmps, ps, assign, body, mk⟩)) with
  | some (_, σ') => endLoopH fl σ.nx ms a σ'
  | none => none
 | _, _ => none
def xRegion (lp : Nat → Option ze) (ex : Ex) (fl : Nat) (ops : List zb) (a : HAct) (σ : HS) : Option (HExit × HAct × HS) := xNormal (runOps lp ex fl ops a σ)
def xDraw (lp : Nat → Option ze) (ex : Ex) (fl s : Nat) (ops : List zb) (a : HAct) (σ : HS) : Option (HExit × HAct × HS) := bif Nat.ble fl σ.nx then xNormal (drawOps lp ex fl s σ.nx σ.h ops 0 [] a σ.nx) else none
def xCode (lp : Nat → Option ze) (ex : Ex) (fl : Nat) (rd : Option Nat) : zk → HAct → HS → Option (HExit × HAct × HS)
 | .skip => fun a σ => some (.normal, a, σ)
 | .seq x y => xSeq ex fl rd x y
 | .cond c x y => xCond ex fl rd c x y
 | .block id x => xBlock ex fl rd id x
 | .loop x => xSeq ex fl rd x (.loop x)
 | .scope x => ex fl rd x
 | .exit id => fun a σ => some (.exit id, a, σ)
 | .ret => fun a σ => some (.ret, a, σ)
 | .reg ops => xRegion lp ex fl ops
 | .draw s ops => xDraw lp ex fl s ops
 | .rangeFunc f ps assign body => xRange lp ex fl rd f ps assign body
 | .bad => fun _ _ => none
def exec (lp : Nat → Option ze) : Nat → Ex
 | 0 => fun _ _ _ _ _ => none
 | n + 1 => fun fl rd c => xCode lp (exec lp n) fl rd c
end
end Go.Hx

namespace Go.Hx
def lowV1 : Value → Option HV
 | .bool b => some (.bool b)
 | .int k n => some (.int k n)
 | .string s => some (.str s)
 | .pointer none => some (.ptr none)
 | .slice none 0 0 => some (.slice none 0 0)
 | .map none => some (.map none)
 | .nilFunc => some .nilFunc
 | .nilIface => some .nilIface
 | _ => none
def lowVs : List Value → Option (List HV)
 | [] => some []
 | v :: vs =>
  match lowV1 v, lowVs vs with
  | some x, some xs => some (x :: xs)
  | _, _ => none
def lowV : Value → Option HV
 | .agg cs => (lowVs cs.toList).map .agg
 | v => lowV1 v
def lowX : Operand → Option Lo
 | .tmp t => some (.t t)
 | .const v => (lowV v).map .c
 | .func f => some (.c (.func f [] []))
 | .global _ => none
def lowXs : List Operand → Option (List Lo)
 | [] => some []
 | v :: vs =>
  match lowX v, lowXs vs with
  | some x, some xs => some (x :: xs)
  | _, _ => none
section
variable (P : Program)
def szOf (t : TypeId) : Option Nat := (P.info? t).map (·.size)
def byOf (t : TypeId) : Option Nat := (P.info? t).map (·.bytes)
def zeroV (t : TypeId) : Option HV := ((P.info? t).bind (·.zero)).bind lowV
def aggOf (t : TypeId) : Option Bool :=
 match P.underlying t with
 | some (.struct _) | some (.array _ _) => some true
 | some _ => some false
 | none => none
def leavesF (lv : TypeId → Option (List Leaf)) : List Field → Nat → Option (List Leaf)
 | [], _ => some []
 | f :: fs, off =>
  match lv f.type, szOf P f.type with
  | some ks, some n => bif f.name != "_" && Nat.beq f.offset off && Nat.beq n ks.length then (leavesF lv fs (off + n)).map (ks ++ ·) else none
  | _, _ => none
def repL : Nat → List Leaf → List Leaf
 | 0, _ => []
 | n + 1, ks => ks ++ repL n ks
def leaves : Nat → TypeId → Option (List Leaf)
 | 0, _ => none
 | d + 1, t =>
  match P.underlying t with
  | some .bool => some [.b]
  | some (.int k) => some [.i k]
  | some .string => some [.s]
  | some (.struct fs) => bif P.stoodInHeld t then none else leavesF P (leaves d) fs.toList 0
  | some (.array n e) =>
   match leaves d e, szOf P e with
   | some ks, some s => bif Nat.beq s ks.length && Nat.ble 1 s then some (repL n ks) else none
   | _, _ => none
  | _ => none
def edOf (t : TypeId) : Option ED :=
 match P.underlying t with
 | some (.pointer _) => some .nilPtr
 | some (.slice _) => some .nilSlice
 | some (.map _ _) => some .nilMap
 | some (.func _ _ _) => some .nilFunc
 | some .bool => some (.cell .b)
 | some (.int k) => some (.cell (.i k))
 | some .string => some (.cell .s)
 | some (.struct _) => bif Nat.ble 20 P.depth then (leaves P 20 t).map .row else none
 | some (.array _ _) => bif Nat.ble 20 P.depth then (leaves P 20 t).map .row else none
 | _ => none
def keyEd (t : TypeId) : Option ED :=
 match edOf P t with
 | some (.cell k) => some (.cell k)
 | some (.row ks) => some (.row ks)
 | _ => none
def lowParts (place : Nat → Option (Nat × Nat)) : List (Nat × Operand) → Option (List (Nat × Nat × Lo))
 | [] => some []
 | (i, x) :: ps =>
  match place i, lowX x, lowParts place ps with
  | some (o, s), some x, some ps => some ((o, s, x) :: ps)
  | _, _, _ => none
def lowO : Option Operand → Option (Option Lo)
 | none => some none
 | some x => (lowX x).map some
def viaRest : List FieldStep → TypeId → Nat → Option Nat
 | [], t, o =>
  match P.underlying t with
  | some (.pointer _) => none
  | some _ => some o
  | none => none
 | s :: rest, _, o =>
  bif s.deref then none else
  match P.underlying s.struct with
  | some (.struct fs) =>
   match fs[s.index]? with
   | some fd =>
    match szOf P fd.type with
    | some (_ + 1) => viaRest rest fd.type (o + fd.offset)
    | _ => none
   | none => none
  | _ => none
def viaPath : List FieldStep → Option Nat
 | [] => none
 | s :: rest =>
  bif s.deref then
   match P.underlying s.struct with
   | some (.struct fs) =>
    match fs[s.index]? with
    | some fd =>
     match szOf P fd.type with
     | some (_ + 1) => viaRest P rest fd.type fd.offset
     | _ => none
    | none => none
   | _ => none
  else none
def viaOff (t : TypeId) (name : String) : Option (Nat × Nat) :=
 match P.underlying t with
 | some (.pointer _) =>
  match (P.info? t).bind fun i => i.methods.find? fun m => m.name == name with
  | some m =>
   match m.func with
   | some (f, true) => (viaPath P m.path.toList).map fun o => (f, o)
   | _ => none
  | none => none
 | _ => none
def lowOp (op : Op) : Option LOp :=
 match op with
 | .move x | .assign x => (lowX x).map .move
 | .pick c a b =>
  match lowX c, lowX a, lowX b with
  | some c, some a, some b => some (.pick c a b)
  | _, _, _ => none
 | .alloc t => (zeroV P t).map fun z => .alloc z.cells
 | .box _ x => (lowX x).map .box
 | .build t parts =>
  match P.underlying t, zeroV P t with
  | some (.struct fs), some (.agg z) => bif !fs.toList.all (fun f => (szOf P f.type).isSome) then none else (lowParts (fun i => (fs[i]?).bind fun f => (szOf P f.type).map (f.offset, ·)) parts.toList).map (.build z)
  | some (.array _ e), some (.agg z) =>
   match szOf P e with
   | some s => (lowParts (fun i => some (i * s, s)) parts.toList).map (.build z)
   | none => none
  | _, _ => none
 | .buildSlice t len parts =>
  match P.underlying t with
  | some (.slice e) =>
   match szOf P e, zeroV P e with
   | some s, some z => bif Nat.ble (len * s) 100000 && Nat.beq z.cells.length s then (lowParts (fun i => some (i * s, s)) parts.toList).map (.buildSlice len z.cells) else none
   | _, _ => none
  | _ => none
 | .load t a =>
  match aggOf P t, szOf P t, lowX a with
  | some true, some n, some a => some (.load true n a)
  | some false, some _, some a => some (.load false 1 a)
  | _, _, _ => none
 | .store t a x =>
  match szOf P t, lowX a, lowX x with
  | some n, some a, some x => some (.store n a x)
  | _, _, _ => none
 | .nilCheck x => (lowX x).map .nilCheck
 | .binOp op t x y _ =>
  match lowX x, lowX y with
  | some x, some y =>
   match op with
   | .eql => (edOf P t).map fun d => .eq d false x y
   | .neq => (edOf P t).map fun d => .eq d true x y
   | _ => some (.bin op x y)
  | _, _ => none
 | .unOp op _ x => (lowX x).map (.un op)
 | .convert s d x =>
  match P.underlying s, P.underlying d, lowX x with
  | some (.int _), some (.int k), some x => some (.convInt k x)
  | _, _, _ => none
 | .makeFunc (.func f) first captured =>
  match lowXs first.toList, lowXs captured.toList with
  | some a, some b => some (.makeFunc f a b)
  | _, _ => none
 | .makeFunc (.methodOf t name) first captured =>
  match viaOff P t name, first.toList, captured.toList with
  | some (f, _), [], [] => some (.move (.c (.via t name f)))
  | _, _, _ => none
 | .makeMap _ none => some .makeMap
 | .makeSlice t l c =>
  match P.underlying t with
  | some (.slice e) =>
   match byOf P e, szOf P e, zeroV P e, lowX l, lowX c with
   | some b, some s, some z, some l, some c => bif Nat.beq z.cells.length s then some (.makeSlice z.cells b l c) else none
   | _, _, _, _, _ => none
  | _ => none
 | .slice t x lo hi none =>
  match P.underlying t with
  | some (.slice e) =>
   match szOf P e, lowX x, lowO lo, lowO hi with
   | some s, some x, some lo, some hi => some (.sliceS s x lo hi)
   | _, _, _, _ => none
  | some (.array n e) =>
   match szOf P e, lowX x, lowO lo, lowO hi with
   | some s, some x, some lo, some hi => some (.sliceA n s x lo hi)
   | _, _, _, _ => none
  | _ => none
 | .fieldAddr t x f =>
  match P.underlying t with
  | some (.struct fs) =>
   match fs[f]? with
   | some fd =>
    match szOf P fd.type, lowX x with
    | some (_ + 1), some x => some (.fieldAddr fd.offset x)
    | _, _ => none
   | none => none
  | _ => none
 | .field t x f =>
  match P.underlying t with
  | some (.struct fs) =>
   match fs[f]? with
   | some fd =>
    match aggOf P fd.type, szOf P fd.type, lowX x with
    | some g, some n, some x => some (.field g n fd.offset x)
    | _, _, _ => none
   | none => none
  | _ => none
 | .indexAddr t x i =>
  match P.underlying t with
  | some (.slice e) =>
   match szOf P e, lowX x, lowX i with
   | some s, some x, some i => some (.indexAddrS s x i)
   | _, _, _ => none
  | some (.array len e) =>
   match szOf P e, lowX x, lowX i with
   | some s, some x, some i => some (.indexAddrA len s x i)
   | _, _, _ => none
  | _ => none
 | .index t x i =>
  match P.underlying t with
  | some (.array len e) =>
   match szOf P e, aggOf P e, lowX x, lowX i with
   | some s, some g, some x, some i => some (.indexA len s g x i)
   | _, _, _, _ => none
  | _ => none
 | .lookup t m k ok =>
  match P.underlying t with
  | some (.map kt e) =>
   match keyEd P kt, zeroV P e, lowX m, lowX k with
   | some d, some z, some m, some k => some (.lookup d z ok m k)
   | _, _, _, _ => none
  | _ => none
 | .mapUpdate t m k v | .insert t m k v =>
  match P.underlying t with
  | some (.map kt _) =>
   match keyEd P kt, lowX m, lowX k, lowX v with
   | some d, some m, some k, some v => some (.mapUpdate d m k v)
   | _, _, _, _ => none
  | _ => none
 | .extract x i => (lowX x).map (.extract · i)
 | .call { callee := .value f, args := args, argTypes := _ } =>
  match lowX f, lowXs args.toList with
  | some f, some args => some (.call f args)
  | _, _ => none
 | .call { callee := .builtin b, args := args, argTypes := ts } =>
  match b, lowXs args.toList, ts[0]? with
  | .len, some [x], some t =>
   match P.underlying t with
   | some .string => some (.len .str x)
   | some (.slice _) => some (.len .slice x)
   | some (.map _ _) => some (.len .map x)
   | _ => none
  | .cap, some [x], some t =>
   match P.underlying t with
   | some (.slice _) => some (.cap x)
   | _ => none
  | .min, some xs, _ => some (.min xs)
  | .max, some xs, _ => some (.max xs)
  | .append, some [s, x], some t =>
   match P.underlying t, (ts[1]?).bind P.underlying with
   | some (.slice e), some (.slice _) =>
    match szOf P e, byOf P e, zeroV P e with
    | some sz, some by_, some z => bif Nat.beq z.cells.length sz then some (.append sz by_ s x) else none
    | _, _, _ => none
   | some (.slice e), some (.int _) =>
    match szOf P e, byOf P e, zeroV P e with
    | some sz, some by_, some z => bif Nat.beq z.cells.length sz then some (.appendZ z.cells by_ s x) else none
    | _, _, _ => none
   | _, _ => none
  | .copy, some [d, s], some t =>
   match P.underlying t with
   | some (.slice e) => (szOf P e).map fun sz => .copy sz d s
   | _ => none
  | _, _, _ => none
 | _ => none
def Lo.tmps : Lo → List Nat
 | .t n => [n]
 | .c _ => []
def tmpsOf (l : List Lo) : List Nat := l.flatMap Lo.tmps
def oTmps : Option Lo → List Nat
 | none => []
 | some x => x.tmps
def LOp.tmps : LOp → List Nat
 | .move x | .box x | .load _ _ x | .fieldAddr _ x | .field _ _ _ x | .un _ x | .convInt _ x | .extract x _ | .len _ x | .cap x | .nilCheck x => x.tmps
 | .pick c a b => c.tmps ++ a.tmps ++ b.tmps
 | .alloc _ | .makeMap | .bad => []
 | .build _ ps | .buildSlice _ _ ps => ps.flatMap fun (_, _, x) => x.tmps
 | .store _ a x | .indexAddrS _ a x | .indexAddrA _ _ a x | .indexA _ _ _ a x | .bin _ a x | .eq _ _ a x | .makeSlice _ _ a x | .lookup _ _ _ a x | .append _ _ a x | .appendZ _ _ a x | .copy _ a x => a.tmps ++ x.tmps
 | .makeFunc _ f c => tmpsOf f ++ tmpsOf c
 | .sliceS _ x lo hi | .sliceA _ _ x lo hi => x.tmps ++ oTmps lo ++ oTmps hi
 | .mapUpdate _ m k v => m.tmps ++ k.tmps ++ v.tmps
 | .min xs | .max xs => tmpsOf xs
 | .call f xs => f.tmps ++ tmpsOf xs
 | .callC f xs cs => (f.tmps ++ tmpsOf xs) ++ cs.flatMap fun (_, _, x, t) => t :: x.tmps
def LOp.touches : LOp → Bool
 | .move _ | .pick .. | .build .. | .fieldAddr .. | .indexAddrS .. | .indexAddrA .. | .field .. | .indexA .. | .bin .. | .eq .. | .un .. | .convInt .. | .makeFunc .. | .extract .. | .nilCheck _ => false
 | _ => true
def LOp.reads : LOp → Bool
 | .load .. | .lookup .. | .len .. => true
 | _ => false
def LOp.chg (o : LOp) : Bool := o.touches && !o.reads
def LOp.makes : LOp → Bool
 | .alloc _ | .box _ | .buildSlice .. | .makeMap | .makeSlice .. | .append .. | .appendZ .. | .call .. => true
 | _ => false
def zb.names (o : zb) : List Nat := o.dst.toList ++ o.op.tmps ++ (match o.g with | some (t, _) => [t] | none => [])
def edgeMask (masks : List Nat) : List Edge → Nat
 | [] => 0
 | e :: es => bif Region.binds .any e then (1 <<< e.on) ||| masks.getD e.on 0 ||| edgeMask masks es else edgeMask masks es
def masksOf : List Oper → List Nat → List Nat
 | [], ms => ms
 | o :: os, ms => masksOf os (ms ++ [edgeMask ms o.after.toList])
def lowGuard (ops : Array Oper) : Option (Nat × Bool) → Option (Option (Nat × Bool))
 | none => some none
 | some (j, want) => ((ops[j]?).bind (·.dst)).map fun d => some (d, want)
def lowOper (ops : Array Oper) (o : Oper) : zb :=
 match lowGuard ops o.guard with
 | some g => ⟨o.dst, (lowOp P o.op).getD .bad, g, []⟩
 | none => ⟨o.dst, .bad, none, []⟩
def LOp.writes : LOp → Bool
 | .store .. | .mapUpdate .. | .append .. | .copy .. => true
 | _ => false
def aloneOk (all : List zb) (masks : List Nat) (i k : Nat) : Nat → Bool
 | 0 => true
 | j + 1 => (Nat.beq j i || (match all[j]? with | some x => !x.op.touches | none => true) || !(masks.getD j 0).testBit k || (masks.getD i 0).testBit j || (masks.getD j 0).testBit i) && aloneOk all masks i k j
def ancOk (all : List zb) (masks : List Nat) (i : Nat) : Nat → Bool
 | 0 => true
 | k + 1 => (!(masks.getD i 0).testBit k || (match all[k]? with | some o => !(o.op.makes || o.op.writes) | none => true) || aloneOk all masks i k all.length) && ancOk all masks i k
def mayAll (all : List zb) (masks : List Nat) (s : Nat) : List zb → Nat → List Bool
 | [], _ => []
 | o :: os, i => (Nat.blt i s && o.op.writes && ancOk all masks i i) :: mayAll all masks s os (i + 1)
def bitsOf (m : Nat) (ops : List zb) (ws : List Bool) (i : Nat) : Nat → List Nat
 | 0 => []
 | j + 1 => bif m.testBit j && (match ops[j]? with | some o => o.op.makes || ws.getD j false | none => false) then j :: bitsOf m ops ws i j else bitsOf m ops ws i j
def withOwn (i : Nat) (w : Bool) : List Nat → List Nat
 | [] => []
 | j :: l => bif w then i :: j :: l else j :: l
def withAnc (all : List zb) (masks : List Nat) (ws : List Bool) : List zb → Nat → List zb
 | [], _ => []
 | o :: os, i => { o with anc := withOwn i (ws.getD i false) (bitsOf (masks.getD i 0) all ws i i) } :: withAnc all masks ws os (i + 1)
def clash (x y : zb) : Bool :=
 (match x.dst with | some d => y.names.contains d | none => false) || (match y.dst with | some d => x.names.contains d | none => false)
def drawOk1 (all : List zb) (m i : Nat) (o : zb) : Nat → Bool
 | 0 => true
 | j + 1 => (match all[j]? with | some x => m.testBit j || !clash x o | none => true) && drawOk1 all m i o j
def noOver (all : List zb) (ns : List Nat) (j : Nat) : Nat → Bool
 | 0 => true
 | k + 1 => (Nat.ble k j || (match all[k]? with | some x => (match x.dst with | some d => !ns.contains d | none => true) | none => true)) && noOver all ns j k
def pairOf (all : List zb) (i j : Nat) : Option (Bool × Nat × Lo × Nat) :=
 match all[j]? with
 | some ⟨some t, .load g n x, none, _⟩ => bif !x.tmps.contains t && noOver all (t :: x.tmps) j i then some (g, n, x, t) else none
 | _ => none
def isCallO (o : zb) : Bool :=
 match o.op, o.g with
 | .call (.t _) _, none => true
 | _, _ => false
def zoneOk (all : List zb) (m i s : Nat) (o : zb) : Nat → Bool
 | 0 => true
 | j + 1 => (match all[j]? with | some x => m.testBit j || !(x.op.touches && o.op.touches) || (x.op.reads && o.op.reads) || (isCallO o && Nat.ble s j && (pairOf all i j).isSome) | none => true) && zoneOk all m i s o j
def chksOf (all : List zb) (m i s : Nat) : Nat → List (Bool × Nat × Lo × Nat)
 | 0 => []
 | j + 1 => bif Nat.ble s j && !m.testBit j then (match pairOf all i j with | some p => p :: chksOf all m i s j | none => chksOf all m i s j) else chksOf all m i s j
def withCall (o : zb) (cs : List (Bool × Nat × Lo × Nat)) : zb :=
 match o.op with
 | .call f xs => { o with op := .callC f xs cs }
 | _ => o
def withChk1 (all : List zb) (m i s : Nat) (o : zb) : zb :=
 bif Nat.ble s i && isCallO o then
  match chksOf all m i s i with
  | [] => o
  | c :: cs => withCall o (c :: cs)
 else o
def withChk (all : List zb) (masks : List Nat) (s : Nat) : List zb → Nat → List zb
 | [], _ => []
 | o :: os, i => withChk1 all (masks.getD i 0) i s o :: withChk all masks s os (i + 1)
def drawOk (all : List zb) (masks : List Nat) : List zb → Nat → Bool
 | [], _ => true
 | o :: os, i => drawOk1 all (masks.getD i 0) i o i && drawOk all masks os (i + 1)
def zoneAt (all : List zb) (masks : List Nat) : List zb → Nat → Nat → Nat
 | [], _, s => s
 | o :: os, i, s => zoneAt all masks os (i + 1) (bif zoneOk all (masks.getD i 0) i s o i then s else i + 1)
def edgesOk (o : Oper) (i : Nat) : Bool := o.after.toList.all fun e => !Region.binds .any e || Nat.blt e.on i
def edgesOks : List Oper → Nat → Bool
 | [], _ => true
 | o :: os, i => edgesOk o i && edgesOks os (i + 1)
def lowDraw (ops : Array Oper) : zk :=
 let all := ops.toList.map (lowOper P ops)
 let masks := masksOf ops.toList []
 let s := zoneAt all masks all 0 0
 bif drawOk all masks all 0 && edgesOks ops.toList 0 then .draw s (withChk all masks s (withAnc all masks (mayAll all masks s all 0) all 0) 0) else .bad
def lowC : Code → zk
 | .skip => .skip
 | .region _ ops false => .reg (ops.toList.map (lowOper P ops))
 | .region _ ops true => lowDraw P ops
 | .seq a b => .seq (lowC a) (lowC b)
 | .cond c a b =>
  match lowX c with
  | some c => .cond c (lowC a) (lowC b)
  | none => .bad
 | .block id b => .block id (lowC b)
 | .loop b => .loop (lowC b)
 | .rangeFunc f ps a b =>
  match lowX f with
  | some f => .rangeFunc f ps.toList (lowC a) (lowC b)
  | none => .bad
 | .exit id => .exit id
 | .scope b => .scope (lowC b)
 | .label _ => .skip
 | .goto _ => .bad
 | .ret => .ret
 | .refuse _ => .bad
def lowRes : List ResultVar → Option (List LRes)
 | [] => some []
 | .tmp t :: rs => (lowRes rs).map (.t t :: ·)
 | .cell a t :: rs =>
  match aggOf P t, szOf P t, lowRes rs with
  | some true, some n, some rs => some (.cell a true n :: rs)
  | some false, some _, some rs => some (.cell a false 1 :: rs)
  | _, _, _ => none
def lowF (imp : Bool) (f : Func) : Option ze :=
 match f.body, lowRes P f.results.toList with
 | some c, some rs => bif f.name == "runtime.NumGoroutine" then none else some ⟨f.ntmps, lowC P c, rs, imp, none, viaOff P⟩
 | _, _ => none
def lowP (imps : List Nat) (f : Nat) : Option ze := (P.funcs[f]?).bind (lowF P (imps.contains f))
end
end Go.Hx

