import Derived.Test.YtjjnncelpnijiaaGreatH00
import Derived.Test.YtjjnncelpnijiaaGreatH02
import Derived.Test.YtjjnncelpnijiaaGreatH01
import Derived.Test.YtjjnncelpnijiaaGreatH04
import Derived.Test.YtjjnncelpnijiaaGreatH05
import Derived.OpenShut
import Derived.ChangeSlices
import Derived.Test.YtjjnncelpnijiaaGreatRows
set_option linter.all false
namespace Go.Hx
noncomputable section
abbrev Kt := Tr HV → List Nat → Tr HBlk → Nat → Option (HV × HS)
abbrev Kv := HV → Tr HBlk → Nat → Option (HV × HS)
abbrev Ko := Nat → Tr HV → Tr HBlk → Nat → Kv → Option (HV × HS)
abbrev Kc := Nat → Option Nat → Kt → (Nat → Kt) → Kt → Kt
abbrev Kf := Nat → List HV → Tr HBlk → Nat → Kv → Option (HV × HS)
def Pa.tmp (p : Pa) (a : Tr HV) : HV := Option.rec (motive := fun _ => HV) .undef (fun v => v) (Tr.getP p a)
inductive Bx (α : Type) where
  | mk (f : α)
def Bx.run {α : Type} (b : Bx α) : α := Bx.rec (motive := fun _ => α) (fun f => f) b
def Bx.then {α β : Type} (b : Bx α) (g : α → Bx β) : Bx β := Bx.rec (motive := fun _ => Bx β) g b
def Pa.then {β : Type} (p : Pa) (g : Pa → Bx β) : Bx β := Pa.rec (motive := fun _ => Bx β) (g .z) (fun q _ => g (.a q)) (fun q _ => g (.b q)) (fun q _ => g (.c q)) (fun q _ => g (.d q)) p
def evK (x : Lo) : Bx (Tr HV → HV) :=
  match x with
  | .t n => .mk (Pa.tmp (pa n))
  | .c v => .mk (fun _ => v)
def evL (x : Lo) (a : Tr HV) : HV := (evK x).run a
def slowK (lp : Nat → Option zr) (nt : Nat) (o : LOp) : Ko := fun fl a h nx k =>
  match opH lp (exec lp 0) fl o ⟨nt, a, []⟩ ⟨h, nx⟩ with
  | some (v, σ) => k v σ.h σ.nx
  | none => none
def viaK (lp : Nat → Option zr) (fn : Nat → Bx Kf) (t : Nat) (name : String) (g : Nat) (args : List HV) : Nat → Tr HBlk → Nat → Kv → Option (HV × HS) := fun fl h nx k =>
  match viaOf lp g t name, args with
  | some off, .ptr (some (b, o)) :: rest => (fn g).run fl (.ptr (some (b, Nat.add o off)) :: rest) h nx k
  | _, _ => none
def callK (lp : Nat → Option zr) (fn : Nat → Bx Kf) (ro : Nat → Nat → List HV → Tr HBlk → Nat → Kv → Option (HV × HS)) (f : Tr HV → HV) (xs : List Lo) : Ko := fun fl a h nx k =>
  match f a with
  | .func g first captured => (fn g).run fl (first ++ xs.map (fun x => evL x a) ++ captured) h nx k
  | .yield l => ro fl l (xs.map fun x => evL x a) h nx k
  | .via t name g => viaK lp fn t name g (xs.map fun x => evL x a) fl h nx k
  | _ => none
def binK (g : IntKind → Int → Int → Option HV) (x y : HV) (h : Tr HBlk) (nx : Nat) (k : Kv) : Option (HV × HS) :=
  match x, y with
  | .int k1 m, .int k2 n => bif sameK k1 k2 then (match g k1 m n with | some v => k v h nx | none => none) else none
  | _, _ => none
def addrK (off : Nat) (x : HV) (h : Tr HBlk) (nx : Nat) (k : Kv) : Option (HV × HS) :=
  match x with
  | .ptr (some (b, o)) => k (.ptr (some (b, Nat.add o off))) h nx
  | _ => none
def idxK (len size : Nat) (x i : HV) (h : Tr HBlk) (nx : Nat) (k : Kv) : Option (HV × HS) :=
  match x, i with
  | .ptr (some (b, o)), .int _ (.ofNat i) => bif Nat.blt i len then k (.ptr (some (b, Nat.add o (Nat.mul i size)))) h nx else none
  | _, _ => none
def nilK (x : HV) (h : Tr HBlk) (nx : Nat) (k : Kv) : Option (HV × HS) :=
  match x with
  | .ptr (some p) => k (.ptr (some p)) h nx
  | .func f first captured => k (.func f first captured) h nx
  | _ => none
def nthK (i : Nat) : List HV → Option HV :=
  Nat.rec (motive := fun _ => List HV → Option HV) (fun l => List.rec (motive := fun _ => Option HV) none (fun v _ _ => some v) l) (fun _ ih l => List.rec (motive := fun _ => Option HV) none (fun _ t _ => ih t) l) i
def setR (i : Nat) (v : HV) : List HV → List HV :=
  Nat.rec (motive := fun _ => List HV → List HV) (fun l => List.rec (motive := fun _ => List HV) [] (fun _ t _ => v :: t) l) (fun _ ih l => List.rec (motive := fun _ => List HV) [] (fun x t _ => x :: ih t) l) i
def loadK (x : HV) (h : Tr HBlk) (nx : Nat) (k : Kv) : Option (HV × HS) :=
  match x with
  | .ptr (some (b, o)) =>
    match h.get b with
    | some (.cells cs _) =>
      match nthK o cs with
      | some v => k v h nx
      | none => none
    | _ => none
  | _ => none
def wrOk : BK → Bool
  | .ro => false
  | _ => true
def storeK (fl : Nat) (x v : HV) (h : Tr HBlk) (nx : Nat) (k : Kv) : Option (HV × HS) :=
  match x with
  | .ptr (some (b, o)) =>
    match h.get b with
    | some (.cells cs bk) =>
      bif Nat.ble fl b && v.one && wrOk bk then
        match nthK o cs with
        | some _ => k .undef (h.set b (some (.cells (setR o v cs) bk))) nx
        | none => none
      else none
    | _ => none
  | _ => none
def compOp (lp : Nat → Option zr) (fn : Nat → Bx Kf) (ro : Nat → Nat → List HV → Tr HBlk → Nat → Kv → Option (HV × HS)) (nt : Nat) (o : LOp) : Bx Ko :=
  match o with
  | .move x => (evK x).then fun e => .mk fun _ a h nx k => k (e a) h nx
  | .bin op x y => (evK x).then fun e => (evK y).then fun f => .mk fun _ a h nx k => binK (bif isShift op then shiftH op else intFast op) (e a) (f a) h nx k
  | .fieldAddr off x => (evK x).then fun e => .mk fun _ a h nx k => addrK off (e a) h nx k
  | .indexAddrA len size x i => (evK x).then fun e => (evK i).then fun f => .mk fun _ a h nx k => idxK len size (e a) (f a) h nx k
  | .nilCheck x => (evK x).then fun e => .mk fun _ a h nx k => nilK (e a) h nx k
  | .load false 1 x => (evK x).then fun e => .mk fun _ a h nx k => loadK (e a) h nx k
  | .store 1 x v => (evK x).then fun e => (evK v).then fun f => .mk fun fl a h nx k => bif (f a).one then storeK fl (e a) (f a) h nx k else slowK lp nt (.store 1 x v) fl a h nx k
  | .call f xs => (evK f).then fun e => .mk (callK lp fn ro e xs)
  | o => .mk (slowK lp nt o)
def putK (nt : Nat) (dst : Option Nat) : Bx (Tr HV → HV → Tr HV) :=
  match dst with
  | none => .mk fun a _ => a
  | some d => bif Nat.blt d nt then (pa d).then fun p => .mk (fun a v => Tr.setP (some v) p a) else .mk fun a _ => a
def isB (want : Bool) : HV → Bool
  | .bool b => b == want
  | _ => false
def guardK (g : Option (Nat × Bool)) (o : Bx Ko) : Bx Ko :=
  match g with
  | none => o
  | some (t, want) => (evK (.t t)).then fun e => o.then fun o => .mk fun fl a h nx k =>
      bif isB want (e a) then o fl a h nx k else k .undef h nx
def compOps (op : LOp → Bx Ko) (nt : Nat) : List zo → Bx (Nat → Kt → Kt)
  | [] => .mk fun _ k => k
  | o :: os => (guardK o.g (op o.op)).then fun f => (putK nt o.dst).then fun p => (compOps op nt os).then fun r => .mk fun fl k a ds h nx => f fl a h nx fun v h nx => r fl k (p a v) ds h nx
def drawK (op : LOp → Bx Ko) (nt s : Nat) : List zo → Bx (Nat → Nat → Nat → Tr HBlk → List (Nat × List (Nat × HBlk)) → Kt → Tr HV → List Nat → Nat → Option (HV × HS))
  | [] => .mk fun _ _ _ h0 done k a ds nx => k a ds (merge h0 none done) nx
  | o :: os => (guardK o.g (op o.op)).then fun f => (putK nt o.dst).then fun p => (drawK op nt s os).then fun r => (compOps op nt (o :: os)).then fun q => .mk fun fl n0 i h0 done k a ds nx =>
      bif Nat.blt i s then
        bif o.anc.contains i then
          f n0 a (merge h0 (some o.anc) done) nx fun v h nx' => bif Nat.ble nx nx' then r fl n0 (Nat.succ i) h0 ((i, newFrom h n0 (Nat.sub nx' n0)) :: dropAll o.anc done) k (p a v) ds nx' else none
        else
          f nx a (merge h0 (some o.anc) done) nx fun v h nx' => bif Nat.ble nx nx' then r fl n0 (Nat.succ i) h0 (bif Nat.beq nx nx' then done else (i, newFrom h nx (Nat.sub nx' nx)) :: done) k (p a v) ds nx' else none
      else q fl k a ds (merge h0 none done) nx
def loopK (b : Option HBlk) (k : LState → HExit → Nat → Tr HV → List Nat → zk → zk → Nat → Option (HV × HS)) : Option (HV × HS) :=
  match b with
  | some (.loop ⟨st, pe, nt, tm, ps, asg, bo, mk⟩) => k st pe nt tm ps asg bo mk
  | _ => none
def marksK (rd : Option Nat) (h : Tr HBlk) (nx : Nat) (k : Nat → List Nat → Tr HBlk → Nat → Option (HV × HS)) : Option (HV × HS) :=
  match rd with
  | none => k nx [nx] (h.set nx (some .marks)) (Nat.succ nx)
  | some l => loopK (h.get l) fun _ _ _ _ _ _ _ mk => k mk [] h nx
def notBusy : LState → Bool
  | .busy => false
  | _ => true
def isReady : LState → Bool
  | .ready => true
  | _ => false
def jumpK (e : HExit) (kn : Kt) (kx : Nat → Kt) (kr : Kt) : Kt :=
  match e with
  | .normal => kn
  | .exit i => kx i
  | .ret => kr
def rangeK (fn : Nat → Bx Kf) (nt : Nat) (e : Tr HV → HV) (ps : List Nat) (assign body : zk) : Kc := fun fl rd kn kx kr a ds h nx =>
  match e a with
  | .func g first captured =>
    marksK rd h nx fun mk ms h1 n1 =>
      (fn g).run fl (first ++ [.yield n1] ++ captured) (h1.set n1 (some (.loop ⟨.ready, .normal, nt, a, ps, assign, body, mk⟩))) (Nat.succ n1) fun _ h3 n3 =>
        loopK (h3.get n1) fun st pe nt' tm ps' asg bo mk' =>
          bif notBusy st && Nat.ble fl n1 then jumpK pe kn kx kr a (ms ++ ds) (h3.set n1 (some (.loop ⟨.exhausted, pe, nt', tm, ps', asg, bo, mk'⟩))) n3 else none
  | _ => none
def endK (l : Nat) (e : HExit) (k : Kv) (h : Tr HBlk) (nx : Nat) : Option (HV × HS) :=
  loopK (h.get l) fun _ _ nt tm ps asg bo mk =>
    match e with
    | .normal => k (.bool true) (h.set l (some (.loop ⟨.ready, .normal, nt, tm, ps, asg, bo, mk⟩))) nx
    | e => k (.bool false) (h.set l (some (.loop ⟨.done, e, nt, tm, ps, asg, bo, mk⟩))) nx
def roundK (co : Nat → zk → Bx Kc) : Nat → Nat → List HV → Tr HBlk → Nat → Kv → Option (HV × HS) := fun fl l args h nx k =>
  loopK (h.get l) fun _ _ nt tm ps asg bo _ =>
    match zipPut nt tm ps args with
    | some tm1 =>
      (co nt asg).run fl (some l)
        (fun a1 ds1 h1 n1 => loopK (h1.get l) fun st pe nt' tm' ps' asg' bo' mk' =>
          bif isReady st && Nat.ble fl l then
            (co nt bo).run fl (some l) (fun _ _ => endK l .normal k) (fun i _ _ => endK l (.exit i) k) (fun _ _ => endK l .ret k) a1 ds1 (h1.set l (some (.loop ⟨.busy, pe, nt', tm', ps', asg', bo', mk'⟩))) n1
          else none)
        (fun _ _ _ _ _ => none) (fun _ _ _ _ => none) tm1 [] h nx
    | none => none
def comp (op : LOp → Bx Ko) (fn : Nat → Bx Kf) (nt : Nat) : zk → Bx Kc
  | .skip => .mk fun _ _ kn _ _ => kn
  | .seq x y => (comp op fn nt x).then fun f => (comp op fn nt y).then fun g => .mk fun fl rd kn kx kr => f fl rd (g fl rd kn kx kr) kx kr
  | .cond c x y => (evK c).then fun e => (comp op fn nt x).then fun f => (comp op fn nt y).then fun g => .mk fun fl rd kn kx kr a ds h nx =>
      match e a with
      | .bool b => bif b then f fl rd kn kx kr a ds h nx else g fl rd kn kx kr a ds h nx
      | _ => none
  | .block id x => (comp op fn nt x).then fun f => .mk fun fl rd kn kx kr => f fl rd kn (fun i => bif Nat.beq i id then kn else kx i) kr
  | .loop x => (comp op fn nt x).then fun f => .mk fun fl rd _ kx kr => Nat.rec (motive := fun _ => Kt) (fun _ _ _ _ => none) (fun _ ih => f fl rd ih kx kr) 1000000
  | .scope x => comp op fn nt x
  | .exit id => .mk fun _ _ _ kx _ => kx id
  | .ret => .mk fun _ _ _ _ kr => kr
  | .reg ops => (compOps op nt ops).then fun f => .mk fun fl _ kn _ _ => f fl kn
  | .draw s ops => (drawK op nt s ops).then fun f => .mk fun fl _ kn _ _ a ds h nx => bif Nat.ble fl nx then f fl nx 0 h [] kn a ds nx else none
  | .rangeFunc f ps assign body => (evK f).then fun e => .mk (rangeK fn nt e ps assign body)
  | .bad => .mk fun _ _ _ _ _ _ _ _ _ => none
def leaveK (fl : Nat) (nt : Nat) (res : List LRes) (k : Kv) : Kt := fun a ds h nx =>
  match leaveH fl ⟨nt, a, ds⟩ res ⟨h, nx⟩ with
  | some (v, σ) => k v σ.h σ.nx
  | none => none
abbrev Kr := Nat → Nat → List HV → Tr HBlk → Nat → Kv → Option (HV × HS)
def gcK (h : Tr HBlk) (nx : Nat) (k : Kv) : Kv := fun v h' nx' => k v (keepD h' nx 5 [v] h) nx'
def specK (g : List HV → HS → Option (HV × HS)) : Kf := fun _ args h nx k =>
  match g args ⟨h, nx⟩ with
  | some (v, σ) => bif Nat.ble nx σ.nx then k v σ.h σ.nx else none
  | none => none
def enterK (lf : zr) (body : Kc) : Bx Kf :=
  bif lf.imp then .mk fun fl args h nx k => bif Nat.ble args.length lf.nt then body fl none (leaveK fl lf.nt lf.res k) (fun _ _ _ _ _ => none) (leaveK fl lf.nt lf.res k) (putAll .e 0 args) [] h nx else none
  else .mk fun _ args h nx k => bif Nat.ble args.length lf.nt then body nx none (leaveK nx lf.nt lf.res (gcK h nx k)) (fun _ _ _ _ _ => none) (leaveK nx lf.nt lf.res (gcK h nx k)) (putAll .e 0 args) [] h nx else none
def bothK (lp : Nat → Option zr) : Nat → (Nat → Bx Kf) × Kr
  | 0 => (fun _ => .mk fun _ _ _ _ _ => none, fun _ _ _ _ _ _ => none)
  | n + 1 =>
    (fun f =>
      match lp f with
      | none => .mk fun _ _ _ _ _ => none
      | some lf =>
        match lf.spec with
        | some g => .mk (specK g)
        | none => (comp (compOp lp (bothK lp n).1 (bothK lp n).2 lf.nt) (bothK lp n).1 lf.nt lf.body).then (enterK lf),
     roundK fun nt c => comp (compOp lp (bothK lp n).1 (bothK lp n).2 nt) (bothK lp n).1 nt c)
def fnK (lp : Nat → Option zr) (n : Nat) : Nat → Bx Kf := (bothK lp n).1
end
end Go.Hx

namespace Go.Hx
variable {lp : Nat → Option zr} {nt : Nat}
theorem yH {α : Type} (f : α) : (Bx.mk f).run = f := rfl
theorem yb {α β : Type} (b : Bx α) (g : α → Bx β) : b.then g = g b.run := by cases b; rfl
theorem pa_then {β : Type} (p : Pa) (g : Pa → Bx β) : p.then g = g p := by cases p <;> rfl
theorem tmp_eq (a : Tr HV) (ds : List Nat) (n : Nat) : (pa n).tmp a = (⟨nt, a, ds⟩ : HAct).tmp n := by
 show Option.rec (motive := fun _ => HV) HV.undef (fun v => v) (a.get n) = (a.get n).getD .undef
 cases a.get n <;> rfl
theorem zJ (x : Lo) (a : Tr HV) (ds : List Nat) : (evK x).run a = (⟨nt, a, ds⟩ : HAct).ev x := by
 cases x with
 | t n => exact tmp_eq a ds n
 | c v => rfl
theorem evs_eq (xs : List Lo) (a : Tr HV) (ds : List Nat) : (xs.map fun x => evL x a) = xs.map (⟨nt, a, ds⟩ : HAct).ev := by
 apply List.map_congr_left
 intro x _
 exact zJ x a ds
def KoOk (lp : Nat → Option zr) (nt : Nat) (G : Ko) (o : LOp) : Prop := ∀ fl a ds h nx (k : Kv) r, G fl a h nx k = some r → ∃ n v σ', opH lp (exec lp n) fl o ⟨nt, a, ds⟩ ⟨h, nx⟩ = some (v, σ') ∧ k v σ'.h σ'.nx = some r
def KosOk (lp : Nat → Option zr) (nt : Nat) (G : Nat → Kt → Kt) (os : List zo) : Prop := ∀ fl (k : Kt) a ds h nx r, G fl k a ds h nx = some r → ∃ n a' σ', runOps lp (exec lp n) fl os ⟨nt, a, ds⟩ ⟨h, nx⟩ = some (a', σ') ∧ a'.nt = nt ∧ k a'.tmps a'.defers σ'.h σ'.nx = some r
def contK (e : HExit) (kn : Kt) (kx : Nat → Kt) (kr : Kt) (a : HAct) (σ : HS) : Option (HV × HS) :=
 match e with
 | .normal => kn a.tmps a.defers σ.h σ.nx
 | .exit i => kx i a.tmps a.defers σ.h σ.nx
 | .ret => kr a.tmps a.defers σ.h σ.nx
def KcOk (lp : Nat → Option zr) (nt : Nat) (F : Kc) (c : zk) : Prop := ∀ fl rd kn kx kr a ds h nx r, F fl rd kn kx kr a ds h nx = some r → ∃ n e a' σ', exec lp n fl rd c ⟨nt, a, ds⟩ ⟨h, nx⟩ = some (e, a', σ') ∧ a'.nt = nt ∧ contK e kn kx kr a' σ' = some r
def KfOk (lp : Nat → Option zr) (F : Kf) (f : Nat) : Prop := ∀ fl args h nx (k : Kv) r, F fl args h nx k = some r → ∃ n v σ', callF lp (exec lp n) fl f args ⟨h, nx⟩ = some (v, σ') ∧ k v σ'.h σ'.nx = some r
def KrOk (lp : Nat → Option zr) (ro : Kr) : Prop := ∀ fl l args h nx (k : Kv) r, ro fl l args h nx k = some r → ∃ n v σ', roundH (exec lp n) fl l args ⟨h, nx⟩ = some (v, σ') ∧ k v σ'.h σ'.nx = some r
theorem slow_ok (o : LOp) : KoOk lp nt (slowK lp nt o) o := by
 intro fl a ds h nx k r hr
 unfold slowK at hr
 rw [Xq (a := ⟨nt, a, []⟩) (b := ⟨nt, a, ds⟩) ⟨h, nx⟩ (fun _ _ => rfl)] at hr
 split at hr
 ·rename_i v σ' ho; exact ⟨0, v, σ', ho, hr⟩
 ·cases hr
theorem call_ok {fn : Nat → Bx Kf} {ro : Kr} (hfn : ∀ f, KfOk lp (fn f).run f) (hro : KrOk lp ro) (f : Lo) (xs : List Lo) : KoOk lp nt (callK lp fn ro (evK f).run xs) (.call f xs) := by
 intro fl a ds h nx k r hr
 unfold callK at hr
 rw [zJ (nt := nt) f a ds, evs_eq (nt := nt) xs a ds] at hr
 split at hr
 ·rename_i g first captured hf
  obtain ⟨n, v, σ', h1, h2⟩ := hfn g _ _ _ _ _ _ hr
  refine ⟨n, v, σ', ?_, h2⟩
  show callH lp _ fl _ _ _ = _
  unfold callH
  rw [hf]
  exact h1
 ·rename_i l hf
  obtain ⟨n, v, σ', h1, h2⟩ := hro _ _ _ _ _ _ _ hr
  refine ⟨n, v, σ', ?_, h2⟩
  show callH lp _ fl _ _ _ = _
  unfold callH
  rw [hf]
  exact h1
 ·rename_i t name g hf
  unfold viaK at hr
  split at hr
  ·rename_i off b o rest e1 e2
   obtain ⟨n, v, σ', h1, h2⟩ := hfn g _ _ _ _ _ _ hr
   refine ⟨n, v, σ', ?_, h2⟩
   show callH lp _ fl _ _ _ = _
   unfold callH
   rw [hf]
   show callV lp _ fl t name g _ _ = _
   unfold callV
   rw [e1, e2]
   exact h1
  ·cases hr
 ·cases hr
theorem Yd : ∀ (i : Nat) (l : List HV), nthK i l = l[i]?
 | 0, [] => rfl
 | 0, v :: l => rfl
 | i + 1, [] => rfl
 | i + 1, v :: l => (Yd i l).trans (by simp)
theorem XZ (v : HV) : ∀ (i : Nat) (l : List HV), i < l.length → overwrite l i [v] = some (setR i v l)
 | _, [], h => by simp at h
 | 0, x :: l, _ => by cases l <;> rfl
 | i + 1, x :: l, h => by
  unfold overwrite
  rw [XZ v i l (by simpa using h)]
  rfl
theorem op_ok {fn : Nat → Bx Kf} {ro : Kr} (hfn : ∀ f, KfOk lp (fn f).run f) (hro : KrOk lp ro) (o : LOp) : KoOk lp nt (compOp lp fn ro nt o).run o := by
 have slow := slow_ok (lp := lp) (nt := nt) o
 unfold compOp
 split
 case h_1 x =>
  rw [yb, yH]
  intro fl a ds h nx k r hr
  dsimp only at hr
  rw [zJ (nt := nt) x a ds] at hr
  exact ⟨0, _, ⟨h, nx⟩, rfl, hr⟩
 case h_2 op x y =>
  rw [yb, yb, yH]
  intro fl a ds h nx k r hr
  dsimp only at hr
  rw [zJ (nt := nt) x a ds, zJ (nt := nt) y a ds] at hr
  unfold binK at hr
  split at hr
  ·rename_i k1 m k2 n e1 e2
   cases hk : sameK k1 k2 with
   | false => rw [hk] at hr; cases hr
   | true =>
    rw [hk] at hr
    simp only [cond_true] at hr
    split at hr
    ·rename_i v e3
     refine ⟨0, v, ⟨h, nx⟩, ?_, hr⟩
     show keep _ (binH op _ _) = _
     rw [e1, e2]
     unfold binH
     dsimp only
     cases hsh : isShift op with
     | true => rw [hsh] at e3; simp only [cond_true] at e3 ⊢; rw [e3]; rfl
     | false => rw [hsh] at e3; simp only [cond_false] at e3 ⊢; rw [hk, e3]; rfl
    ·cases hr
  ·cases hr
 case h_3 off x =>
  rw [yb, yH]
  intro fl a ds h nx k r hr
  dsimp only at hr
  rw [zJ (nt := nt) x a ds] at hr
  unfold addrK at hr
  split at hr
  ·rename_i b o e1
   refine ⟨0, _, ⟨h, nx⟩, ?_, hr⟩
   show oFieldAddr off x _ _ = _
   unfold oFieldAddr
   rw [e1]
  ·cases hr
 case h_4 len size x i =>
  rw [yb, yb, yH]
  intro fl a ds h nx k r hr
  dsimp only at hr
  rw [zJ (nt := nt) x a ds, zJ (nt := nt) i a ds] at hr
  unfold idxK at hr
  split at hr
  ·rename_i b o kk j e1 e2
   cases hb : Nat.blt j len with
   | false => rw [hb] at hr; cases hr
   | true =>
    rw [hb] at hr
    refine ⟨0, _, ⟨h, nx⟩, ?_, hr⟩
    show oIndexAddrA len size x i _ _ = _
    unfold oIndexAddrA
    rw [e1, e2]
    simp only [natOf, stepTo, hb, cond_true]
  ·cases hr
 case h_5 x =>
  rw [yb, yH]
  intro fl a ds h nx k r hr
  dsimp only at hr
  rw [zJ (nt := nt) x a ds] at hr
  unfold nilK at hr
  split at hr
  ·rename_i p e1
   refine ⟨0, _, ⟨h, nx⟩, ?_, hr⟩
   show oNilCheck x _ _ = _
   unfold oNilCheck
   rw [e1]
  ·rename_i f first captured e1
   refine ⟨0, _, ⟨h, nx⟩, ?_, hr⟩
   show oNilCheck x _ _ = _
   unfold oNilCheck
   rw [e1]
  ·cases hr
 case h_6 x =>
  rw [yb, yH]
  intro fl a ds h nx k r hr
  dsimp only at hr
  rw [zJ (nt := nt) x a ds] at hr
  unfold loadK at hr
  split at hr
  ·rename_i b o e1
   split at hr
   ·rename_i cs bk e2
    rw [Yd] at hr
    split at hr
    ·rename_i v e3
     refine ⟨0, v, ⟨h, nx⟩, ?_, hr⟩
     show oLoad false 1 x _ _ = _
     unfold oLoad
     rw [e1]
     have hc : (⟨h, nx⟩ : HS).cells b = some cs := by unfold HS.cells; rw [e2]
     have hr2 : (⟨h, nx⟩ : HS).read (b, o) 1 = some [v] := by
      unfold HS.read
      simp only [hc, Option.bind_eq_bind, Option.bind_some]
      have hlt : o < cs.length := by
       rcases Nat.lt_or_ge o cs.length with h | h
       ·exact h
       ·rw [List.getElem?_eq_none h] at e3; cases e3
      rw [List.drop_eq_getElem_cons hlt]
      rw [List.getElem?_eq_getElem hlt] at e3
      cases e3
      simp [takeN]
     simp only [hr2, whole, keep]
    ·cases hr
   ·cases hr
  ·cases hr
 case h_7 x y =>
  rw [yb, yb, yH]
  intro fl a ds h nx k r hr
  dsimp only at hr
  rw [zJ (nt := nt) x a ds, zJ (nt := nt) y a ds] at hr
  revert hr
  cases h1 : ((⟨nt, a, ds⟩ : HAct).ev y).one with
  | false => exact fun hr => slow fl a ds h nx k r hr
  | true =>
  intro hr
  simp only [cond_true] at hr
  unfold storeK at hr
  split at hr
  ·rename_i b o e1
   split at hr
   ·rename_i cs bk e2
    revert hr
    cases hc : (Nat.ble fl b && ((⟨nt, a, ds⟩ : HAct).ev y).one && wrOk bk) with
    | false => intro hr; cases hr
    | true =>
     intro hr
     simp only [cond_true] at hr
     simp only [Bool.and_eq_true] at hc
     obtain ⟨⟨c1, c2⟩, c3⟩ := hc
     rw [Yd] at hr
     split at hr
     ·rename_i u e3
      have hlt : o < cs.length := by
       rcases Nat.lt_or_ge o cs.length with h | h
       ·exact h
       ·rw [List.getElem?_eq_none h] at e3; cases e3
      refine ⟨0, .undef, ⟨h.set b (some (.cells (setR o ((⟨nt, a, ds⟩ : HAct).ev y) cs) bk)), nx⟩, ?_, hr⟩
      have hcells : ((⟨nt, a, ds⟩ : HAct).ev y).cells = [(⟨nt, a, ds⟩ : HAct).ev y] := by
       generalize (⟨nt, a, ds⟩ : HAct).ev y = v at c2
       cases v <;> first | rfl | cases c2
      show oStore fl 1 x y _ _ = _
      unfold oStore
      rw [e1, hcells]
      have hw : (⟨h, nx⟩ : HS).write fl (b, o) [(⟨nt, a, ds⟩ : HAct).ev y] = some ⟨h.set b (some (.cells (setR o ((⟨nt, a, ds⟩ : HAct).ev y) cs) bk)), nx⟩ := by
       unfold HS.write
       simp only [e2]
       cases bk with
       | ro => cases c3
       | exact => simp only [c1, List.all_cons, c2, List.all_nil, Bool.and_true, cond_true, XZ _ _ _ hlt, Option.map_some]; rfl
       | opn z => simp only [c1, List.all_cons, c2, List.all_nil, Bool.and_true, cond_true, XZ _ _ _ hlt, Option.map_some]; rfl
      simp only [hw]
      rfl
     ·cases hr
   ·cases hr
  ·cases hr
 case h_8 f xs =>
  rw [yb, yH]
  exact call_ok hfn hro f xs
 case h_9 => exact slow
theorem guard_k {G : Bx Ko} {o : zo} (h : KoOk lp nt G.run o.op) : ∀ fl a ds hp nx (k : Kv) r, (guardK o.g G).run fl a hp nx k = some r →
  ∃ n v σ', (bif wantedH o.g ⟨nt, a, ds⟩ then opH lp (exec lp n) fl o.op ⟨nt, a, ds⟩ ⟨hp, nx⟩ else some (.undef, ⟨hp, nx⟩)) = some (v, σ') ∧ k v σ'.h σ'.nx = some r := by
 intro fl a ds hp nx k r hr
 unfold guardK at hr
 split at hr
 ·rename_i hg
  obtain ⟨n, v, σ', h1, h2⟩ := h fl a ds hp nx k r hr
  refine ⟨n, v, σ', ?_, h2⟩
  rw [hg]
  exact h1
 ·rename_i t want hg
  rw [yb, yb, yH] at hr
  rw [zJ (nt := nt) (.t t) a ds] at hr
  have hw : wantedH o.g ⟨nt, a, ds⟩ = isB want ((⟨nt, a, ds⟩ : HAct).ev (.t t)) := by
   rw [hg]
   unfold wantedH isB
   dsimp only [HAct.ev]
   generalize (⟨nt, a, ds⟩ : HAct).tmp t = x
   cases x <;> rfl
  rw [hw]
  cases hb : isB want ((⟨nt, a, ds⟩ : HAct).ev (.t t)) with
  | true =>
   rw [hb] at hr
   exact h fl a ds hp nx k r hr
  | false =>
   rw [hb] at hr
   exact ⟨0, .undef, ⟨hp, nx⟩, rfl, hr⟩
theorem put_k (dst : Option Nat) (a : Tr HV) (ds : List Nat) (v : HV) : (⟨nt, a, ds⟩ : HAct).put dst v = ⟨nt, (putK nt dst).run a v, ds⟩ := by
 unfold HAct.put putK
 cases dst with
 | none => rfl
 | some d =>
  dsimp only
  cases Nat.blt d nt with
  | false => rfl
  | true => rw [cond_true, cond_true, pa_then]; rfl
theorem XW {G : Bx Ko} {o : zo} (h : KoOk lp nt G.run o.op) : ∀ fl a ds hp nx (k : Kv) r, (guardK o.g G).run fl a hp nx k = some r →
  ∃ n v σ', stepOp lp (exec lp n) fl o ⟨nt, a, ds⟩ ⟨hp, nx⟩ = some (⟨nt, (putK nt o.dst).run a v, ds⟩, σ') ∧ k v σ'.h σ'.nx = some r := by
 intro fl a ds hp nx k r hr
 obtain ⟨n, v, σ', h1, h2⟩ := guard_k h fl a ds hp nx k r hr
 refine ⟨n, v, σ', ?_, h2⟩
 unfold stepOp
 cases hw : wantedH o.g ⟨nt, a, ds⟩ with
 | true => rw [hw] at h1; simp only [cond_true] at h1 ⊢; rw [h1]; simp only [put_k]
 | false =>
  rw [hw] at h1
  cases h1
  simp only [cond_false, put_k]
theorem ops_k {op : LOp → Bx Ko} (hop : ∀ o, KoOk lp nt (op o).run o) : ∀ os, KosOk lp nt (compOps op nt os).run os
 | [] => fun fl k a ds h nx r hr => ⟨0, _, _, rfl, rfl, hr⟩
 | o :: os => by
  intro fl k a ds h nx r hr
  unfold compOps at hr
  rw [yb, yb, yb, yH] at hr
  obtain ⟨n, v, σ1, h1, h2⟩ := XW (hop o.op) fl a ds h nx _ r hr
  obtain ⟨m, a', σ', h3, h4, h5⟩ := ops_k hop os fl k _ ds _ _ r h2
  refine ⟨max n m, a', σ', ?_, h4, h5⟩
  unfold runOps
  rw [yB (zU (Nat.le_max_left n m)) h1]
  exact yN (zU (Nat.le_max_right n m)) h3
theorem Yo {op : LOp → Bx Ko} (hop : ∀ o, KoOk lp nt (op o).run o) {s : Nat} : ∀ os fl n0 i h0 done (k : Kt) a ds nx r, fl ≤ n0 → n0 ≤ nx → (drawK op nt s os).run fl n0 i h0 done k a ds nx = some r →
  ∃ n a' σ', drawOps lp (exec lp n) fl s n0 h0 os i done ⟨nt, a, ds⟩ nx = some (a', σ') ∧ a'.nt = nt ∧ k a'.tmps a'.defers σ'.h σ'.nx = some r
 | [], fl, n0, i, h0, done, k, a, ds, nx, r, _, _, hr => ⟨0, _, _, rfl, rfl, hr⟩
 | o :: os, fl, n0, i, h0, done, k, a, ds, nx, r, hfl, hn0, hr => by
  unfold drawK at hr
  rw [yb, yb, yb, yb, yH] at hr
  cases hc : Nat.blt i s with
  | false =>
   rw [hc] at hr
   obtain ⟨n, a', σ', h1, h2, h3⟩ := ops_k hop (o :: os) fl k a ds _ nx r hr
   refine ⟨n, a', σ', ?_, h2, h3⟩
   unfold drawOps
   rw [hc]
   exact h1
  | true =>
   rw [hc] at hr
   simp only [cond_true] at hr
   cases hw : o.anc.contains i with
   | true =>
    rw [hw] at hr
    simp only [cond_true] at hr
    obtain ⟨n, v, σ1, h1, h2⟩ := XW (hop o.op) n0 a ds _ nx _ r hr
    revert h2
    cases hb : Nat.ble nx σ1.nx with
    | false => intro h2; cases h2
    | true =>
     intro h2
     simp only [cond_true] at h2
     have hle := Nat.le_of_ble_eq_true hb
     obtain ⟨m, a', σ', h3, h4, h5⟩ := Yo hop os fl n0 (Nat.succ i) h0 _ k _ ds _ r hfl (Nat.le_trans hn0 hle) h2
     refine ⟨max n m, a', σ', ?_, h4, h5⟩
     have hmx : Nat.max fl n0 = n0 := Nat.max_eq_right hfl
     unfold drawOps
     rw [hc, hw]
     simp only [cond_true, hmx]
     rw [yB (zU (Nat.le_max_left n m)) h1]
     simp only [hb, Bool.not_true, cond_false]
     exact yz (zU (Nat.le_max_right n m)) h3
   | false =>
    rw [hw] at hr
    simp only [cond_false] at hr
    obtain ⟨n, v, σ1, h1, h2⟩ := XW (hop o.op) nx a ds _ nx _ r hr
    revert h2
    cases hb : Nat.ble nx σ1.nx with
    | false => intro h2; cases h2
    | true =>
     intro h2
     simp only [cond_true] at h2
     have hle := Nat.le_of_ble_eq_true hb
     obtain ⟨m, a', σ', h3, h4, h5⟩ := Yo hop os fl n0 (Nat.succ i) h0 _ k _ ds _ r hfl (Nat.le_trans hn0 hle) h2
     refine ⟨max n m, a', σ', ?_, h4, h5⟩
     have hmx : Nat.max fl nx = nx := Nat.max_eq_right (by omega)
     unfold drawOps
     rw [hc, hw]
     simp only [cond_true, cond_false, hmx]
     rw [yB (zU (Nat.le_max_left n m)) h1]
     simp only [hb, Bool.not_true, cond_false]
     exact yz (zU (Nat.le_max_right n m)) h3
theorem YE {n : Nat} {fl : Nat} {rd : Option Nat} {x y : zk} {a a1 : HAct} {σ σ1 : HS} {q : HExit × HAct × HS} {m : Nat} (h1 : exec lp n fl rd x a σ = some (.normal, a1, σ1)) (h2 : exec lp m fl rd y a1 σ1 = some q) : xSeq (exec lp (max n m)) fl rd x y a σ = some q := by
 unfold xSeq
 rw [zU (Nat.le_max_left n m) _ _ _ _ _ _ h1]
 exact zU (Nat.le_max_right n m) _ _ _ _ _ _ h2
theorem jV {b : Option HBlk} {k : LState → HExit → Nat → Tr HV → List Nat → zk → zk → Nat → Option (HV × HS)} {r : HV × HS} (hr : loopK b k = some r) : ∃ q : HLoop, b = some (.loop q) ∧ k q.state q.pending q.nt q.tmps q.params q.assign q.body q.marks = some r := by
 unfold loopK at hr
 split at hr
 ·exact ⟨_, rfl, hr⟩
 ·cases hr
theorem marks_k {rd : Option Nat} {h : Tr HBlk} {nx : Nat} {k : Nat → List Nat → Tr HBlk → Nat → Option (HV × HS)} {r : HV × HS} (hr : marksK rd h nx k = some r) : ∃ mk ms h1 n1, marksOf rd ⟨h, nx⟩ = some (mk, ms, ⟨h1, n1⟩) ∧ k mk ms h1 n1 = some r := by
 unfold marksK at hr
 cases rd with
 | none => exact ⟨_, _, _, _, rfl, hr⟩
 | some l =>
  obtain ⟨q, hq, hk⟩ := jV hr
  refine ⟨_, _, _, _, ?_, hk⟩
  unfold marksOf
  simp only [hq]
theorem jump_k (e : HExit) (kn : Kt) (kx : Nat → Kt) (kr : Kt) (a : HAct) (σ : HS) : jumpK e kn kx kr a.tmps a.defers σ.h σ.nx = contK e kn kx kr a σ := by cases e <;> rfl
theorem range_k {fn : Nat → Bx Kf} (hfn : ∀ f, KfOk lp (fn f).run f) (f : Lo) (ps : List Nat) (assign body : zk) : KcOk lp nt (rangeK fn nt (evK f).run ps assign body) (.rangeFunc f ps assign body) := by
 intro fl rd kn kx kr a ds h nx r hr
 unfold rangeK at hr
 rw [zJ (nt := nt) f a ds] at hr
 split at hr
 ·rename_i g first captured hf
  obtain ⟨mk, ms, h1, n1, hm, hr⟩ := marks_k hr
  obtain ⟨n, v, σ3, hc, hr⟩ := hfn g _ _ _ _ _ _ hr
  obtain ⟨q, hq, hr⟩ := jV hr
  revert hr
  cases hb : (notBusy q.state && Nat.ble fl n1) with
  | false => intro hr; cases hr
  | true =>
   intro hr
   simp only [cond_true] at hr
   simp only [Bool.and_eq_true] at hb
   refine ⟨n + 1, q.pending, ⟨nt, a, ms ++ ds⟩, σ3.upd n1 (some (.loop { q with state := .exhausted })), ?_, rfl, ?_⟩
   ·show xRange lp (exec lp n) fl rd f ps assign body _ _ = _
    unfold xRange
    rw [hf, hm]
    dsimp only
    have hc' : callF lp (exec lp n) fl g (first ++ [.yield n1] ++ captured) ((⟨h1, n1⟩ : HS).new (.loop ⟨.ready, .normal, nt, a, ps, assign, body, mk⟩)) = some (v, σ3) := hc
    rw [hc']
    dsimp only
    unfold endLoopH
    rw [hq]
    dsimp only
    have hnb := hb.1
    cases hst : q.state <;> rw [hst] at hnb <;> first | (exact absurd hnb (by decide)) | (dsimp only; rw [hb.2]; rfl)
   ·rw [← jump_k]; exact hr
 ·cases hr
theorem end_k {l : Nat} {e : HExit} {k : Kv} {h : Tr HBlk} {nx : Nat} {r : HV × HS} (hr : endK l e k h nx = some r) : ∃ v σ', endRoundH l e ⟨h, nx⟩ = some (v, σ') ∧ k v σ'.h σ'.nx = some r := by
 unfold endK at hr
 obtain ⟨q, hq, hr⟩ := jV hr
 cases e with
 | normal =>
  refine ⟨.bool true, (⟨h, nx⟩ : HS).upd l (some (.loop { q with state := .ready, pending := .normal })), ?_, hr⟩
  unfold endRoundH
  simp only [hq]
 | exit id =>
  refine ⟨.bool false, (⟨h, nx⟩ : HS).upd l (some (.loop { q with state := .done, pending := .exit id })), ?_, hr⟩
  unfold endRoundH
  simp only [hq]
 | ret =>
  refine ⟨.bool false, (⟨h, nx⟩ : HS).upd l (some (.loop { q with state := .done, pending := .ret })), ?_, hr⟩
  unfold endRoundH
  simp only [hq]
theorem round_k {co : Nat → zk → Bx Kc} (hco : ∀ nt c, KcOk lp nt (co nt c).run c) : KrOk lp (roundK co) := by
 intro fl l args h nx k r hr
 unfold roundK at hr
 obtain ⟨q, hq, hr⟩ := jV hr
 split at hr
 ·rename_i tm1 hz
  obtain ⟨n, e, a1, σ1, h1, h2, h3⟩ := hco _ _ _ _ _ _ _ _ _ _ _ _ hr
  cases e with
  | normal =>
   dsimp only [contK] at h3
   obtain ⟨q1, hq1, h3⟩ := jV h3
   revert h3
   cases hb : (isReady q1.state && Nat.ble fl l) with
   | false => intro h3; cases h3
   | true =>
    intro h3
    simp only [cond_true] at h3
    simp only [Bool.and_eq_true] at hb
    obtain ⟨m, e, a2, σ2, h4, h5, h6⟩ := hco _ _ _ _ _ _ _ _ _ _ _ _ h3
    have ea : (⟨q.nt, a1.tmps, a1.defers⟩ : HAct) = a1 := by rw [← h2]
    rw [ea] at h4
    have hbegin : beginRoundH fl l σ1 = some ⟨σ1.h.set l (some (.loop { q1 with state := .busy })), σ1.nx⟩ := by
     unfold beginRoundH
     rw [hq1]
     dsimp only
     have hrd := hb.1
     cases hst : q1.state <;> rw [hst] at hrd <;> first | (exact absurd hrd (by decide)) | (dsimp only; rw [hb.2]; rfl)
    have hend : ∃ v σ', endRoundH l e σ2 = some (v, σ') ∧ k v σ'.h σ'.nx = some r := by
     cases e <;> exact end_k h6
    obtain ⟨v, σ', g1, g2⟩ := hend
    refine ⟨max n m, v, σ', ?_, g2⟩
    unfold roundH
    rw [hq]
    dsimp only
    rw [hz]
    dsimp only
    rw [zU (Nat.le_max_left n m) _ _ _ _ _ _ h1]
    dsimp only
    rw [hbegin]
    dsimp only
    rw [zU (Nat.le_max_right n m) _ _ _ _ _ _ h4]
    exact g1
  | exit id => cases h3
  | ret => cases h3
 ·cases hr
theorem ud {op : LOp → Bx Ko} {fn : Nat → Bx Kf} (hop : ∀ o, KoOk lp nt (op o).run o) (hfn : ∀ f, KfOk lp (fn f).run f) : ∀ c, KcOk lp nt (comp op fn nt c).run c
 | .skip => fun fl rd kn kx kr a ds h nx r hr => ⟨1, .normal, _, _, rfl, rfl, hr⟩
 | .seq x y => by
  intro fl rd kn kx kr a ds h nx r hr
  unfold comp at hr
  rw [yb, yb, yH] at hr
  obtain ⟨n, e, a1, σ1, h1, h2, h3⟩ := ud hop hfn x fl rd _ kx kr a ds h nx r hr
  cases e with
  | normal =>
   dsimp only [contK] at h3
   obtain ⟨m, e, a', σ', h4, h5, h6⟩ := ud hop hfn y fl rd kn kx kr a1.tmps a1.defers σ1.h σ1.nx r h3
   have ea : (⟨nt, a1.tmps, a1.defers⟩ : HAct) = a1 := by rw [← h2]
   rw [ea] at h4
   exact ⟨max n m + 1, e, a', σ', YE h1 h4, h5, h6⟩
  | exit id => exact ⟨n + 1, .exit id, a1, σ1, by show xSeq _ _ _ _ _ _ _ = _; unfold xSeq; rw [h1], h2, h3⟩
  | ret => exact ⟨n + 1, .ret, a1, σ1, by show xSeq _ _ _ _ _ _ _ = _; unfold xSeq; rw [h1], h2, h3⟩
 | .cond c x y => by
  intro fl rd kn kx kr a ds h nx r hr
  unfold comp at hr
  rw [yb, yb, yb, yH] at hr
  rw [zJ (nt := nt) c a ds] at hr
  split at hr
  ·rename_i b hb
   cases b with
   | true =>
    obtain ⟨n, e, a', σ', h1, h2, h3⟩ := ud hop hfn x fl rd kn kx kr a ds h nx r hr
    refine ⟨n + 1, e, a', σ', ?_, h2, h3⟩
    show xCond _ _ _ _ _ _ _ _ = _
    unfold xCond
    rw [hb]; exact h1
   | false =>
    obtain ⟨n, e, a', σ', h1, h2, h3⟩ := ud hop hfn y fl rd kn kx kr a ds h nx r hr
    refine ⟨n + 1, e, a', σ', ?_, h2, h3⟩
    show xCond _ _ _ _ _ _ _ _ = _
    unfold xCond
    rw [hb]; exact h1
  ·cases hr
 | .block id x => by
  intro fl rd kn kx kr a ds h nx r hr
  unfold comp at hr
  rw [yb, yH] at hr
  obtain ⟨n, e, a', σ', h1, h2, h3⟩ := ud hop hfn x fl rd kn _ kr a ds h nx r hr
  cases e with
  | normal => exact ⟨n + 1, .normal, a', σ', by show xBlock _ _ _ _ _ _ _ = _; unfold xBlock; rw [h1], h2, h3⟩
  | ret => exact ⟨n + 1, .ret, a', σ', by show xBlock _ _ _ _ _ _ _ = _; unfold xBlock; rw [h1], h2, h3⟩
  | exit i =>
   dsimp only [contK] at h3
   refine ⟨n + 1, bif Nat.beq i id then .normal else .exit i, a', σ', by show xBlock _ _ _ _ _ _ _ = _; unfold xBlock; rw [h1], h2, ?_⟩
   revert h3
   cases Nat.beq i id <;> exact fun h => h
 | .loop x => by
  intro fl rd kn kx kr a ds h nx r hr
  unfold comp at hr
  rw [yb, yH] at hr
  have ihx := ud hop hfn x
  revert hr
  generalize 1000000 = m
  induction m generalizing a ds h nx with
  | zero => intro hr; cases hr
  | succ m ih =>
   intro hr
   obtain ⟨n, e, a1, σ1, h1, h2, h3⟩ := ihx fl rd _ kx kr a ds h nx r hr
   cases e with
   | normal =>
    dsimp only [contK] at h3
    obtain ⟨k, e, a', σ', h4, h5, h6⟩ := ih a1.tmps a1.defers σ1.h σ1.nx h3
    have ea : (⟨nt, a1.tmps, a1.defers⟩ : HAct) = a1 := by rw [← h2]
    rw [ea] at h4
    exact ⟨max n k + 1, e, a', σ', YE h1 h4, h5, h6⟩
   | exit id => exact ⟨n + 1, .exit id, a1, σ1, by show xSeq _ _ _ _ _ _ _ = _; unfold xSeq; rw [h1], h2, h3⟩
   | ret => exact ⟨n + 1, .ret, a1, σ1, by show xSeq _ _ _ _ _ _ _ = _; unfold xSeq; rw [h1], h2, h3⟩
 | .scope x => by
  intro fl rd kn kx kr a ds h nx r hr
  obtain ⟨n, e, a', σ', h1, h2, h3⟩ := ud hop hfn x fl rd kn kx kr a ds h nx r hr
  exact ⟨n + 1, e, a', σ', h1, h2, h3⟩
 | .exit id => fun fl rd kn kx kr a ds h nx r hr => ⟨1, .exit id, _, _, rfl, rfl, hr⟩
 | .ret => fun fl rd kn kx kr a ds h nx r hr => ⟨1, .ret, _, _, rfl, rfl, hr⟩
 | .reg ops => by
  intro fl rd kn kx kr a ds h nx r hr
  unfold comp at hr
  rw [yb, yH] at hr
  obtain ⟨n, a', σ', h1, h2, h3⟩ := ops_k hop ops fl kn a ds h nx r hr
  refine ⟨n + 1, .normal, a', σ', ?_, h2, h3⟩
  show xNormal _ = _
  rw [h1]; rfl
 | .draw s ops => by
  intro fl rd kn kx kr a ds h nx r hr
  unfold comp at hr
  rw [yb, yH] at hr
  cases hb : Nat.ble fl nx with
  | false => rw [hb] at hr; cases hr
  | true =>
   rw [hb] at hr
   obtain ⟨n, a', σ', h1, h2, h3⟩ := Yo hop ops fl nx 0 h [] kn a ds nx r (Nat.le_of_ble_eq_true hb) (Nat.le_refl _) hr
   refine ⟨n + 1, .normal, a', σ', ?_, h2, h3⟩
   show xDraw lp (exec lp n) fl s ops _ _ = _
   unfold xDraw
   rw [hb]
   simp only [cond_true, h1]
   rfl
 | .rangeFunc f ps assign body => by
  unfold comp
  rw [yb, yH]
  exact range_k hfn f ps assign body
 | .bad => fun fl rd kn kx kr a ds h nx r hr => by cases hr
theorem YP {fl : Nat} {res : List LRes} {k : Kv} {a : HAct} {σ : HS} {r : HV × HS} (hn : a.nt = nt) (hr : leaveK fl nt res k a.tmps a.defers σ.h σ.nx = some r) : ∃ v σ', leaveH fl a res σ = some (v, σ') ∧ k v σ'.h σ'.nx = some r := by
 unfold leaveK at hr
 have ea : (⟨nt, a.tmps, a.defers⟩ : HAct) = a := by rw [← hn]
 rw [ea] at hr
 split at hr
 ·rename_i v σ' h1; exact ⟨v, σ', h1, hr⟩
 ·cases hr
theorem both_k : ∀ n, (∀ f, KfOk lp ((bothK lp n).1 f).run f) ∧ KrOk lp (bothK lp n).2
 | 0 => ⟨fun f fl args h nx k r hr => (by cases hr), fun fl l args h nx k r hr => (by cases hr)⟩
 | n + 1 => by
  obtain ⟨hfn, hro⟩ := both_k n
  have hco : ∀ nt c, KcOk lp nt (comp (compOp lp (bothK lp n).1 (bothK lp n).2 nt) (bothK lp n).1 nt c).run c := fun nt c => ud (fun o => op_ok hfn hro o) hfn c
  refine ⟨fun f fl args h nx k r hr => ?_, round_k hco⟩
  unfold bothK at hr
  dsimp only at hr
  split at hr
  ·cases hr
  ·rename_i lf hlf
   split at hr
   ·rename_i g hg
    rw [yH] at hr
    unfold specK at hr
    split at hr
    ·rename_i v σ h1
     cases hb : Nat.ble nx σ.nx with
     | false => rw [hb] at hr; cases hr
     | true =>
      rw [hb] at hr
      refine ⟨0, v, σ, ?_, hr⟩
      unfold callF
      rw [hlf]
      simp only [hg]
      unfold specH
      rw [h1]
      simp only [hb, cond_true]
    ·cases hr
   rename_i hsp
   rw [yb] at hr
   have run : ∀ (fl0 : Nat) (k0 : Kv), (bif Nat.ble args.length lf.nt then (comp (compOp lp (bothK lp n).1 (bothK lp n).2 lf.nt) (bothK lp n).1 lf.nt lf.body).run fl0 none (leaveK fl0 lf.nt lf.res k0) (fun _ _ _ _ _ => none) (leaveK fl0 lf.nt lf.res k0) (putAll .e 0 args) [] h nx else none) = some r →
     ∃ m v σ', callB (exec lp m) fl0 lf args ⟨h, nx⟩ = some (v, σ') ∧ k0 v σ'.h σ'.nx = some r := by
    intro fl0 k0 hr
    cases hb : Nat.ble args.length lf.nt with
    | false => rw [hb] at hr; cases hr
    | true =>
     rw [hb] at hr
     simp only [cond_true] at hr
     have hmx : Nat.max lf.nt args.length = lf.nt := Nat.max_eq_left (Nat.le_of_ble_eq_true hb)
     obtain ⟨m, e, a', σ', h1, h2, h3⟩ := hco lf.nt lf.body fl0 none _ _ _ _ _ _ _ r hr
     cases e with
     | normal =>
      obtain ⟨v, σ'', g1, g2⟩ := YP h2 h3
      refine ⟨m, v, σ'', ?_, g2⟩
      unfold callB
      rw [hmx, h1]
      exact g1
     | exit id => cases h3
     | ret =>
      obtain ⟨v, σ'', g1, g2⟩ := YP h2 h3
      refine ⟨m, v, σ'', ?_, g2⟩
      unfold callB
      rw [hmx, h1]
      exact g1
   unfold enterK at hr
   cases hi : lf.imp with
   | true =>
    rw [hi] at hr
    simp only [cond_true] at hr
    rw [yH] at hr
    obtain ⟨m, v, σ', g1, g2⟩ := run fl k hr
    refine ⟨m, v, σ', ?_, g2⟩
    unfold callF
    rw [hlf]
    simp only [hsp, hi, cond_true]
    exact g1
   | false =>
    rw [hi] at hr
    simp only [cond_false] at hr
    rw [yH] at hr
    obtain ⟨m, v, σ', g1, g2⟩ := run nx (gcK h nx k) hr
    refine ⟨m, v, gcH ⟨h, nx⟩ σ' v, ?_, g2⟩
    unfold callF
    rw [hlf]
    simp only [hsp, hi, cond_false, g1]
theorem fn_k (n f : Nat) : KfOk lp ((fnK lp n f).run) f := (both_k n).1 f
theorem c_of_k {n f : Nat} {args : List HV} {h : Tr HBlk} {nx : Nat} {Q : HV → HS → Prop} {k : Kv} {r : HV × HS} (hr : (fnK lp n f).run 0 args h nx k = some r) (hk : ∀ v h nx, k v h nx = some r → Q v ⟨h, nx⟩) : C lp 0 f args ⟨h, nx⟩ Q := by
 obtain ⟨m, v, σ', h1, h2⟩ := fn_k n f 0 args h nx k r hr
 exact ⟨m, v, σ', h1, hk _ _ _ h2⟩
end Go.Hx

namespace Go.Hx
theorem mixed : (Go.Proofs.Tryz.prog).follows .mixedOrders = true := by kernel_rfl
noncomputable def endK0 : Kv := fun v _ _ => some (v, ⟨.e, 0⟩)
theorem Zc {lp : Nat → Option zr} {n f : Nat} (hr : (fnK lp n f).run 0 [] .e 0 endK0 = some (.bool true, ⟨.e, 0⟩)) : C lp 0 f [] ⟨.e, 0⟩ (fun v _ => v = .bool true) :=
 c_of_k hr fun v h nx hk => by unfold endK0 at hk; cases hk; rfl
theorem closed19 : C LP 0 19 [] ⟨.e, 0⟩ (fun v _ => v = .bool true) := Zc (n := 40) (by kernel_rfl)
end Go.Hx

namespace Go.Hx
open Go.RowKit
variable {P : Program}
theorem yu {w : World} {b0 : Nat} {t : TypeId} {fs : Array Field} {ts : List TypeId} {cs : Array Value} (ht : P.underlying t = some (.struct fs)) (hts : P.cellTypes P.depth t = some ts)
  (hv : Value.okWide P w .any b0 t (.agg cs)) {i : Nat} {v : Value} {u : TypeId} (hi : cs[i]? = some v) (hu : ts[i]? = some u) : Cell.okWide P w .any b0 u v := by
 unfold Value.okWide at hv
 simp only [ht] at hv
 obtain ⟨cs', e, _, ts', h1, _, h3⟩ := hv
 cases e
 rw [hts] at h1; cases h1
 obtain ⟨u', h4, h5⟩ := h3 i v hi
 have hlt : i < ts.length := by
  rcases Nat.lt_or_ge i ts.length with h | h
  ·exact h
  ·rw [List.getElem?_eq_none h] at hu; cases hu
 rw [Nat.mod_eq_of_lt hlt, hu] at h4
 cases h4; exact h5
theorem uK {w : World} {b0 : Nat} {t e : TypeId} {v : Value} (ht : P.underlying t = some (.slice e)) (h : Cell.okWide P w .any b0 t v) : Value.okWide P w .any b0 t v := by
 unfold Value.okWide
 simp only [ht]; exact h
theorem j9 {H : Type} {enc : TypeId × Value → H} {w : World} {base : Nat} {spare : Nat → Bool} {held : Bool} {t : TypeId} {fs : Array Field} {cs : Array Value} {dd : DataW H} {p : List MemPlace} (ht : P.underlying t = some (.struct fs))
  (h : DataW.Trod enc P w base spare held t (.agg cs) dd p) {j : Nat} {f : Field} {v : Value} (hj : fs[j]? = some f) (h1 : 1 = P.cellsOf f.type) (hv : cs[f.offset]? = some v) (hc : v.cells = #[v]) : ∃ d' p', DataW.Trod enc P w base spare held f.type v d' p' := by
 obtain ⟨fuel, hf⟩ := h
 obtain ⟨xs, n, _, _, hlen, hxl, hx⟩ := DataW.trod_struct ht hf
 have h3 := hx j f hj
 have hjl : j < xs.length := by
  have : j < fs.size := by
   rcases Nat.lt_or_ge j fs.size with h | h
   ·exact h
   ·rw [Array.getElem?_eq_none h] at hj; cases hj
  omega
 rw [List.getElem?_eq_getElem hjl, ← h1] at h3
 have e : ((Value.agg cs).cells.toList.drop f.offset).take 1 = [v] := by
  have : cs.toList[f.offset]? = some v := by rw [Array.getElem?_toList]; exact hv
  show (cs.toList.drop f.offset).take 1 = [v]
  have hlt : f.offset < cs.toList.length := by
   rcases Nat.lt_or_ge f.offset cs.toList.length with h | h
   ·exact h
   ·rw [List.getElem?_eq_none h] at this; cases this
  rw [List.drop_eq_getElem_cons hlt]
  rw [List.getElem?_eq_getElem hlt] at this
  cases this
  rfl
 rw [e] at h3
 exact ⟨xs[j].1, xs[j].2, n, by rw [hc]; exact h3⟩
end Go.Hx

namespace Go.Hx
open Go.RowKit Go.ChangeShapes Go.WideShapes Go.ChangeAt
theorem XY : ∀ args σ v σ', spWakes args σ = some (v, σ') → σ' = σ ∧ args.all flat = true ∧ flatV v = true ∧ C LP 0 19 args ⟨.e, 0⟩ (fun v' _ => v' = v) := by
 intro args σ v σ' h
 cases args with
 | nil => cases h; exact ⟨rfl, rfl, rfl, closed19⟩
 | cons a l => cases h
theorem lw_ok : LpOk Go.Proofs.Tryz.prog LW := withS_ok YO (XX mixed YO XY)
theorem wfk {k : IntKind} {n : Int} (h : (Lit.int k n).wf = true) : k.min ≤ n ∧ n ≤ k.max := by
 simp only [Lit.wf, Bool.and_eq_true, decide_eq_true_eq] at h
 exact h
def e2 (x : Int × Int) : List HV := [i64 x.1, i64 x.2]
def e3 (x : Int × Int × Int) : List HV := [i64 x.1, i64 x.2.1, i64 x.2.2]
def eK (k : IntKind) (x : Int) : List HV := [.int k x]
theorem dec2 : ∀ us : Nat → Value, (∀ j k, [Leaf.i .i64, .i .i64][j]? = some k → LeafV k (us j)) → ∃ x : Int × Int, ∀ j u, (e2 x)[j]? = some u → ∀ ρ, VR ρ u (us j) := by
 intro us h
 obtain ⟨a, e0⟩ := vE (h 0 _ rfl)
 obtain ⟨b, e1⟩ := vE (h 1 _ rfl)
 refine ⟨(a, b), fun j u hj ρ => ?_⟩
 match j, hj with
 | 0, hj => cases hj; rw [e0]; exact .int _ _
 | 1, hj => cases hj; rw [e1]; exact .int _ _
 | j + 2, hj => simp [e2] at hj
theorem rel2 (F : V.PH) (x : Int × Int) : V.rP V.rI V.rI F x (e2 x) := ⟨[_], [_], rfl, rfl, rfl⟩
def e4 (x : Int × Int × Int × Int) : List HV := [i64 x.1, i64 x.2.1, i64 x.2.2.1, i64 x.2.2.2]
theorem dec4 : ∀ us : Nat → Value, (∀ j k, [Leaf.i .i64, .i .i64, .i .i64, .i .i64][j]? = some k → LeafV k (us j)) → ∃ x : Int × Int × Int × Int, ∀ j u, (e4 x)[j]? = some u → ∀ ρ, VR ρ u (us j) := by
 intro us h
 obtain ⟨a, e0⟩ := vE (h 0 _ rfl)
 obtain ⟨b, e1⟩ := vE (h 1 _ rfl)
 obtain ⟨c, e2⟩ := vE (h 2 _ rfl)
 obtain ⟨d, e3⟩ := vE (h 3 _ rfl)
 refine ⟨(a, b, c, d), fun j u hj ρ => ?_⟩
 match j, hj with
 | 0, hj => cases hj; rw [e0]; exact .int _ _
 | 1, hj => cases hj; rw [e1]; exact .int _ _
 | 2, hj => cases hj; rw [e2]; exact .int _ _
 | 3, hj => cases hj; rw [e3]; exact .int _ _
 | j + 4, hj => simp [e4] at hj
theorem rel4 (F : V.PH) (x : Int × Int × Int × Int) : V.rP V.rI (V.rP V.rI (V.rP V.rI V.rI)) F x (e4 x) := ⟨[_], [_, _, _], rfl, rfl, ⟨[_], [_, _], rfl, rfl, ⟨[_], [_], rfl, rfl, rfl⟩⟩⟩
theorem relK (k : IntKind) (F : V.PH) (x : Int) : V.rK k F x (eK k x) := rfl
def AL {α : Type} (enc : α → List HV) (sz : Nat) (W : World) (v : Value) (Z : α → Prop) : Prop :=
 ∃ (o : Option Slot) (mk : Nat → HV) (l : List α), ArgL enc sz W v o mk l ∧ (∀ k p n c, mk k = .slice p n c → n ≤ c) ∧ ∀ x ∈ l, Z x
theorem row_of {α : Type} {rel : V.Rel α} {enc : α → List HV} {sz : Nat} {ss : List (Option Slot)} {k : Nat} {o : Option Slot} {l : List α} {p : Option (Nat × Nat)} {c : Nat} (hrel : ∀ F x, rel F x (enc x)) (hk : k < ss.length) (ho : ss.getD k none = o) (hc : l.length ≤ c)
  (hr : ∀ (h : Tr HBlk) (nx : Nat), k < nx → h.get k = (o.map fun s => .cells s.cs .ro) → Row enc sz h nx p l) : V.RowF rel sz (V.all (lay ss)) p c l := by
 refine ⟨hc, fun hne => ?_⟩
 obtain ⟨b, off, cs, q, h1, h2, h3, h4⟩ := hr (lay ss) ss.length hk (by rw [uS, ho]) hne
 exact ⟨b, off, cs, q, h1, h3, fun i x hx => ⟨_, h4 i x hx, hrel _ x⟩⟩
theorem ku {P : Program} {H : Type} {enc : TypeId × Value → H} {w : World} {base : Nat} {held : Bool} {t e : TypeId} {a : Option Addr} {len cap : Nat} {dd : DataW H} {p : List MemPlace} (ht : P.underlying t = some (.slice e)) (h : DataW.Trod enc P w base (fun _ => true) held t (.slice a len cap) dd p) : len ≤ cap := by
 obtain ⟨fuel, hf⟩ := h
 rcases Deep.open_slice ht hf with ⟨hcs, _⟩ | ⟨a, len', cap', m, n, D, Pl, hcs, _, hlc, hm, hmm, _, hx⟩
 ·simp [Value.cells] at hcs
  omega
 ·simp [Value.cells] at hcs
  obtain ⟨rfl, rfl, rfl⟩ := hcs
  exact hlc
theorem arg_al {P : Program} {H : Type} {enc0 : TypeId × Value → H} {w : World} {base : Nat} {held : Bool} {α : Type} [Inhabited α] {enc : α → List HV} {t e : TypeId} {d : Nat} {ks : List Leaf} {v : Value} {dd : DataW H} {p : List MemPlace} {b0 : Nat} (ht : P.underlying t = some (.slice e)) (hk : leaves P d e = some ks) (hl : ks.length = P.cellsOf e)
  (hv : Value.okWide P w .any b0 t v) (h : DataW.Trod enc0 P w base (fun _ => true) held t v dd p) (he : ∀ x, (enc x).length = ks.length)
  (hdec : ∀ us : Nat → Value, (∀ j k, ks[j]? = some k → LeafV k (us j)) → ∃ x : α, ∀ j u, (enc x)[j]? = some u → ∀ ρ, VR ρ u (us j)) : AL enc ks.length w v (fun _ => True) := by
 rcases kz ht hk hl hv h with rfl | ⟨blk, off, len, cap, C, el, z, rfl, hw, hx⟩
 ·exact ⟨none, fun _ => .slice none 0 0, [], ⟨fun s e => (by cases e), fun k ρ _ => .slice0, fun k => ⟨none, 0, rfl, fun h nx _ _ hne => absurd rfl hne⟩⟩, fun k p n c e => by cases e; exact Nat.le_refl _, fun _ _ => trivial⟩
 ·have each : ∀ i, i < len → ∃ x : α, ∀ j u, (enc x)[j]? = some u → ∃ c, C[off + (i * ks.length + j)]? = some c ∧ ∀ ρ, VR ρ u c := by
   intro i hi
   obtain ⟨x, hx1⟩ := hdec (fun j => (C[off + (i * ks.length + j)]?).getD .nilFunc) (fun j k hj => by
    obtain ⟨u, h1, h2⟩ := hx i hi j k hj
    rw [h1]; exact h2)
   refine ⟨x, fun j u hj => ?_⟩
   have hjl : j < ks.length := by
    rw [← he x]
    rcases Nat.lt_or_ge j (enc x).length with h | h
    ·exact h
    ·rw [List.getElem?_eq_none h] at hj; cases hj
   obtain ⟨c, h1, _⟩ := hx i hi j _ (List.getElem?_eq_getElem hjl)
   refine ⟨c, h1, fun ρ => ?_⟩
   have := hx1 j u hj ρ
   rwa [h1] at this
  obtain ⟨f, hf⟩ := Deep.choose_lt each
  refine ⟨some ⟨((List.range len).map f).flatMap enc, ⟨blk, off, 0⟩⟩, fun k => .slice (some (k, 0)) len cap, (List.range len).map f, ⟨fun s e => ?_, fun k ρ hr => ?_, fun k => ⟨some (k, 0), cap, by simp, fun h nx hk hg => ?_⟩⟩, fun k p n c e => by cases e; exact ku ht h, fun _ _ => trivial⟩
  ·cases e
   refine ⟨C, el, z, hw, fun i u hu => ?_⟩
   obtain ⟨i', j, x, rfl, h2, h3⟩ := k7 he _ i u hu
   have hi' : i' < len := by
    rcases Nat.lt_or_ge i' len with h | h
    ·exact h
    ·rw [List.getElem?_eq_none (by simp; omega)] at h2; cases h2
   rw [List.getElem?_map, List.getElem?_range hi'] at h2
   cases h2
   exact hf i' hi' j u h3
  ·exact VR.slice (r := ⟨blk, off, 0⟩) (o := 0) hr
  ·exact kF (c := cap) he hk (by rw [hg]; rfl)
theorem arg_alK {k : IntKind} {H : Type} {enc0 : TypeId × Value → H} {P : Program} {w : World} {base : Nat} {held : Bool} {t e : TypeId} {d : Nat} {v : Value} {dd : DataW H} {p : List MemPlace} {b0 : Nat} (ht : P.underlying t = some (.slice e)) (he : P.underlying e = some (.int k)) (hk : leaves P d e = some [.i k]) (hl : 1 = P.cellsOf e)
  (hv : Value.okWide P w .any b0 t v) (h : DataW.Trod enc0 P w base (fun _ => true) held t v dd p) : AL (eK k) 1 w v (fun x => k.min ≤ x ∧ x ≤ k.max) := by
 rcases kz ht hk hl hv h with rfl | ⟨blk, off, len, cap, C, el, z, rfl, hw, hx⟩
 ·exact ⟨none, fun _ => .slice none 0 0, [], ⟨fun s e => (by cases e), fun k ρ _ => .slice0, fun k => ⟨none, 0, rfl, fun h nx _ _ hne => absurd rfl hne⟩⟩, fun k p n c e => by cases e; exact Nat.le_refl _, fun x hx => by cases hx⟩
 ·have hcap := ku ht h
  obtain ⟨fuel, hf⟩ := h
  rcases open_ints ht he hl.symm hf with ⟨hcs, _⟩ | ⟨a, len', cap', zs, hcs, _, hlc, hm, hzl, _, hcell, hwf⟩
  ·simp [Value.cells] at hcs
  ·simp [Value.cells] at hcs
   obtain ⟨rfl, rfl, rfl⟩ := hcs
   simp only [if_true] at hzl
   have hlen : (zs.take len).length = len := by rw [List.length_take]; omega
   have key : ∀ i, w.cell? (Addr.add ⟨blk, off, none⟩ i) = C[off + i]? := fun i => by
    unfold Addr.add World.cell?
    by_cases h0 : i = 0
    ·rw [if_pos h0, h0]
     simp only [hw, Nat.add_zero]
     rfl
    ·rw [if_neg h0]
     simp only [hw]
     rfl
   have at_ : ∀ (i : Nat) (x : Int), (zs.take len)[i]? = some x → C[off + i]? = some (.int k x) := fun i x hi => by
    have hil : i < len := by
     rcases Nat.lt_or_ge i len with h | h
     ·exact h
     ·rw [List.getElem?_eq_none (by rw [hlen]; exact h)] at hi; cases hi
    rw [List.getElem?_take, if_pos hil] at hi
    have := hcell i (by omega)
    rw [key, List.getD_eq_getElem?_getD, hi] at this
    exact this
   refine ⟨some ⟨(zs.take len).flatMap (eK k), ⟨blk, off, 0⟩⟩, fun k => .slice (some (k, 0)) len cap, zs.take len, ⟨fun s e => ?_, fun k ρ hr => ?_, fun q => ⟨some (q, 0), cap, by rw [hlen], fun h nx hq hg => ?_⟩⟩, fun k p n c e => by cases e; exact hcap, fun x hx => wfk (hwf x (List.mem_of_mem_take hx))⟩
   ·cases e
    refine ⟨C, el, z, hw, fun i u hu => ?_⟩
    obtain ⟨i', j, x, rfl, h2, h3⟩ := k7 (enc := eK k) (sz := 1) (fun _ => rfl) _ i u hu
    cases j with
    | zero =>
     cases h3
     refine ⟨.int k x, ?_, fun ρ => .int _ _⟩
     rw [Nat.mul_one, Nat.add_zero]
     exact at_ i' x h2
    | succ j => simp [eK] at h3
   ·exact VR.slice (r := ⟨blk, off, 0⟩) (o := 0) hr
   ·exact kF (c := cap) (fun _ => rfl) hq (by rw [hg]; rfl)
end Go.Hx

namespace Go.Hx
open Go.RowKit Go.ChangeShapes Go.WideShapes Go.ChangeAt
open Go.Proofs
set_option maxRecDepth 100000
theorem leaves118 : leaves Tryz.prog 20 118 = some [.i .i64, .i .i64, .i .i64, .i .i64] := by kernel_rfl
theorem leaves121 : leaves Tryz.prog 20 121 = some [.i .i64, .i .i64] := by kernel_rfl
theorem leaves100 : leaves Tryz.prog 20 100 = some [.i .u16] := by kernel_rfl
theorem cells118 : 4 = Tryz.prog.cellsOf 118 := by kernel_rfl
theorem cells121 : 2 = Tryz.prog.cellsOf 121 := by kernel_rfl
theorem cells100 : 1 = Tryz.prog.cellsOf 100 := by kernel_rfl
theorem cells31 : Tryz.prog.cellsOf 31 = 10 := by kernel_rfl
theorem cells26 : 1 = Tryz.prog.cellsOf 26 := by kernel_rfl
theorem cells27 : 1 = Tryz.prog.cellsOf 27 := by kernel_rfl
theorem types31 : Tryz.prog.cellTypes Tryz.prog.depth 31 = some [3, 3, 3, 3, 26, 27, 3, 3, 3, 3] := by kernel_rfl
def InstA (W : World) (v : Value) : Prop := ∃ (a b c d p q e f : Int) (vl vt : Value), v = .agg #[.int .i64 a, .int .i64 b, .int .i64 c, .int .i64 d, vl, vt, .int .i64 p, .int .i64 q, .int .i64 e, .int .i64 f] ∧ AL e4 4 W vl (fun _ => True) ∧ AL e2 2 W vt (fun _ => True)
theorem yP {P : Program} {w : World} {b0 : Nat} {t : TypeId} {k : IntKind} {v : Value} (ht : P.underlying t = some (.int k)) (h : Cell.okWide P w .any b0 t v) : Value.okWide P w .any b0 t v := by
 unfold Value.okWide
 simp only [ht]; exact h
theorem ten {C : Array Value} (h : C.size = 10) : ∃ a b c d e f g i j k, C = #[a, b, c, d, e, f, g, i, j, k] := by
 obtain ⟨l⟩ := C
 match l, h with
 | [a, b, c, d, e, f, g, i, j, k], _ => exact ⟨a, b, c, d, e, f, g, i, j, k, rfl⟩
section
variable {H : Type} {enc : TypeId × Value → H} {w : World} {base : Nat} {held : Bool} {v : Value} {dd : DataW H} {p : List MemPlace} {b0 : Nat}
theorem arg_inst (hv : Value.okWide Tryz.prog w .any b0 31 v) (h : DataW.Trod enc Tryz.prog w base (fun _ => true) held 31 v dd p) : InstA w v := by
 obtain ⟨C, rfl, hs⟩ := okWide_struct Tryz.underlying31 hv
 obtain ⟨a, b, c, d, e, f, g, i, j, k, rfl⟩ := ten (hs.trans cells31)
 obtain ⟨a, rfl⟩ := okWide_int Tryz.underlying3 (yP Tryz.underlying3 (yu Tryz.underlying31 types31 hv (i := 0) rfl rfl))
 obtain ⟨b, rfl⟩ := okWide_int Tryz.underlying3 (yP Tryz.underlying3 (yu Tryz.underlying31 types31 hv (i := 1) rfl rfl))
 obtain ⟨c, rfl⟩ := okWide_int Tryz.underlying3 (yP Tryz.underlying3 (yu Tryz.underlying31 types31 hv (i := 2) rfl rfl))
 obtain ⟨d, rfl⟩ := okWide_int Tryz.underlying3 (yP Tryz.underlying3 (yu Tryz.underlying31 types31 hv (i := 3) rfl rfl))
 obtain ⟨g, rfl⟩ := okWide_int Tryz.underlying3 (yP Tryz.underlying3 (yu Tryz.underlying31 types31 hv (i := 6) rfl rfl))
 obtain ⟨i, rfl⟩ := okWide_int Tryz.underlying3 (yP Tryz.underlying3 (yu Tryz.underlying31 types31 hv (i := 7) rfl rfl))
 obtain ⟨j, rfl⟩ := okWide_int Tryz.underlying3 (yP Tryz.underlying3 (yu Tryz.underlying31 types31 hv (i := 8) rfl rfl))
 obtain ⟨k, rfl⟩ := okWide_int Tryz.underlying3 (yP Tryz.underlying3 (yu Tryz.underlying31 types31 hv (i := 9) rfl rfl))
 have ke : Value.okWide Tryz.prog w .any b0 26 e := uK Tryz.underlying26 (yu Tryz.underlying31 types31 hv (i := 4) rfl rfl)
 have kf : Value.okWide Tryz.prog w .any b0 27 f := uK Tryz.underlying27 (yu Tryz.underlying31 types31 hv (i := 5) rfl rfl)
 obtain ⟨xb, lb, cb, eb⟩ := okWide_slice Tryz.underlying26 ke
 obtain ⟨xc, lc, cc, ec⟩ := okWide_slice Tryz.underlying27 kf
 obtain ⟨d1, p1, t1⟩ := j9 Tryz.underlying31 h (j := 1) (v := e) rfl cells26 rfl (by rw [eb]; rfl)
 obtain ⟨d2, p2, t2⟩ := j9 Tryz.underlying31 h (j := 2) (v := f) rfl cells27 rfl (by rw [ec]; rfl)
 exact ⟨a, b, c, d, g, i, j, k, e, f, rfl, arg_al (enc := e4) Tryz.underlying26 leaves118 cells118 ke t1 (fun _ => rfl) dec4, arg_al (enc := e2) Tryz.underlying27 leaves121 cells121 kf t2 (fun _ => rfl) dec2⟩
theorem arg_words (hv : Value.okWide Tryz.prog w .any b0 99 v) (h : DataW.Trod enc Tryz.prog w base (fun _ => true) held 99 v dd p) : AL (eK .u16) 1 w v (fun x => IntKind.u16.min ≤ x ∧ x ≤ IntKind.u16.max) :=
 arg_alK Tryz.underlying99 Tryz.underlying100 leaves100 cells100 hv h
end
theorem w16 {l : List Int} (h : ∀ x ∈ l, IntKind.u16.min ≤ x ∧ x ≤ IntKind.u16.max) : ∀ x ∈ l, 0 ≤ x ∧ x < 65536 := fun x hx => by
 have := h x hx
 have e1 : IntKind.u16.min = 0 := rfl
 have e2 : IntKind.u16.max = 65535 := rfl
 omega
end Go.Hx

