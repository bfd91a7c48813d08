import Derived.Test.YtcejjaaoainfjaaH04
import Derived.ProofKit
import Derived.Test.YtcejjaaoainfjaaH02
import Derived.Test.YtcejjaaoainfjaaH03
set_option linter.all false
namespace Go.Hx
set_option maxRecDepth 100000
noncomputable section
open F
def L77r0:List zb:=[(og 10 (.load .false 1 (t 9)) 7 .true),(og 11 (.len .slice (t 10)) 7 .true),(og 12 (b .lss (t 8) (t 11)) 7 .true),(o 13 (.pick (t 7) (t 12) (.c (.bool .false)))),(m 4 13)]
def L77s0:ze:=(.seq (.reg ((m 5 1) :: (o 6 (b .leq (k 0) (t 5))) :: (m 7 6) :: (og 8 (.move (t 1)) 7 .true) :: (og 9 (.fieldAddr 0 (t 2)) 7 .true) :: L77r0)) .ret)
def L77:zl:=⟨14,(.seq (.reg [(o 2 (.box (t 0))),(o 4 (.move (.c (.bool .false))))]) L77s0),[(.t 4)],.false,.none,vO⟩
theorem lp77:LP 77 = some L77:=by kernel_rfl
def L90r0:List zb:=[(og 17 (b .leq (t 15) (t 16)) 13 .true),(o 18 (.pick (t 13) (t 17) (.c (.bool .false)))),(m 6 18)]
def L90r1:List zb:=((o 12 (c 32 [(t 8),(t 9),(t 11)])) :: (m 13 12) :: (og 14 (.fieldAddr 1 (t 3)) 13 .true) :: (og 15 (.load .false 1 (t 14)) 13 .true) :: (og 16 (.move (t 2)) 13 .true) :: L90r0)
def L90s0:ze:=(.seq (.reg ((f 7 0 3) :: (l 8 7) :: (m 9 1) :: (f 10 1 3) :: (l 11 10) :: L90r1)) .ret)
def L90:zl:=⟨19,(.seq (.reg [(o 3 (.box (t 0))),(o 6 (.move (.c (.bool .false))))]) L90s0),[(.t 6)],.false,.none,vO⟩
theorem lp90:LP 90 = some L90:=by kernel_rfl
def L98s0:ze:=(.cond (t 16) (.seq (.reg [(o 4 (.move (.c (.bool .false))))]) .ret) .skip)
def L98s1:ze:=(.seq (.reg [(m 13 1),(g 14 2 6),(o 15 (.call (t 13) [(t 14)])),(o 16 (.un .not (t 15)))]) L98s0)
def L98s2:ze:=(.reg [(o 17 (b .add (t 9) (k 1))),(m 9 17)])
def L98s3:ze:=(.seq (.block 1 (.seq (.reg [(o 11 (.indexAddrS 2 (t 7) (t 9))),(g 12 2 11),(o 6 (.alloc [(i 0),(i 0)])),(s 2 6 12)]) L98s1)) L98s2)
def L98w0:ze:=(.seq (.reg [(o 10 (b .lss (t 9) (t 8)))]) (.seq (.cond (t 10) .skip (.exit 0)) L98s3))
def L98s4:ze:=(.seq (.seq (.reg [(m 7 0),(o 8 (.len .slice (t 7))),(o 9 (.move (k 0)))]) (.block 0 (.loop L98w0))) (.seq (.reg [(o 4 (.move (.c (.bool .true))))]) .ret))
def L98:zl:=⟨18,(.seq (.reg [(o 4 (.move (.c (.bool .false))))]) L98s4),[(.t 4)],.false,.none,vO⟩
theorem lp98:LP 98 = some L98:=by kernel_rfl
def L99s0:ze:=(.seq (.reg [(g 3 2 1),(o 4 (c 123 [(t 3),(.c (.int .i64 (-100))),(k 100)])),(m 2 4)]) .ret)
def L99:zl:=⟨5,(.seq (.reg [(o 1 (.box (t 0))),(o 2 (.move (.c (.bool .false))))]) L99s0),[(.t 2)],.false,.none,vO⟩
theorem lp99:LP 99 = some L99:=by kernel_rfl
def L100s0:ze:=(.cond (t 16) (.seq (.reg [(o 4 (.move (.c (.bool .false))))]) .ret) .skip)
def L100s1:ze:=(.seq (.reg [(m 13 1),(g 14 3 6),(o 15 (.call (t 13) [(t 14)])),(o 16 (.un .not (t 15)))]) L100s0)
def L100s2:ze:=(.reg [(o 17 (b .add (t 9) (k 1))),(m 9 17)])
def L100s3:ze:=(.seq (.block 1 (.seq (.reg [(o 11 (.indexAddrS 3 (t 7) (t 9))),(g 12 3 11),(o 6 (.alloc [(i 0),(i 0),(.slice .none 0 0)])),(s 3 6 12)]) L100s1)) L100s2)
def L100w0:ze:=(.seq (.reg [(o 10 (b .lss (t 9) (t 8)))]) (.seq (.cond (t 10) .skip (.exit 0)) L100s3))
def L100s4:ze:=(.seq (.seq (.reg [(m 7 0),(o 8 (.len .slice (t 7))),(o 9 (.move (k 0)))]) (.block 0 (.loop L100w0))) (.seq (.reg [(o 4 (.move (.c (.bool .true))))]) .ret))
def L100:zl:=⟨18,(.seq (.reg [(o 4 (.move (.c (.bool .false))))]) L100s4),[(.t 4)],.false,.none,vO⟩
theorem lp100:LP 100 = some L100:=by kernel_rfl
def L101r0:List zb:=[(m 15 14),(og 16 (.load .true 3 (t 3)) 15 .true),(og 17 (c 126 [(t 16)]) 15 .true),(o 18 (.pick (t 15) (t 17) (.c (.bool .false)))),(m 4 18)]
def L101r1:List zb:=((og 10 (.load .false 1 (t 9)) 8 .true) :: (og 11 (.load .true 3 (t 2)) 8 .true) :: (og 12 (.makeFunc 125 [(t 11)] []) 8 .true) :: (og 13 (c 124 [(t 10),(t 12)]) 8 .true) :: (o 14 (.pick (t 8) (t 13) (.c (.bool .false)))) :: L101r0)
def L101s0:ze:=(.seq (.reg ((f 5 0 3) :: (g 6 2 5) :: (o 7 (c 113 [(t 6)])) :: (m 8 7) :: (og 9 (.fieldAddr 2 (t 3)) 8 .true) :: L101r1)) .ret)
def L101:zl:=⟨19,(.seq (.reg [(o 2 (.box (t 0))),(o 3 (.box (t 1))),(o 4 (.move (.c (.bool .false))))]) L101s0),[(.t 4)],.false,.none,vO⟩
theorem lp101:LP 101 = some L101:=by kernel_rfl
def L102r0:List zb:=[(og 10 (.move (t 1)) 9 .true),(og 11 (.fieldAddr 1 (t 2)) 9 .true),(og 12 (.load .false 1 (t 11)) 9 .true),(og 13 (b .leq (t 10) (t 12)) 9 .true),(o 14 (.pick (t 9) (t 13) (.c (.bool .false)))),(m 4 14)]
def L102s0:ze:=(.seq (.reg ((f 5 0 2) :: (l 6 5) :: (m 7 1) :: (o 8 (b .leq (t 6) (t 7))) :: (m 9 8) :: L102r0)) .ret)
def L102:zl:=⟨15,(.seq (.reg [(o 2 (.box (t 0))),(o 4 (.move (.c (.bool .false))))]) L102s0),[(.t 4)],.false,.none,vO⟩
theorem lp102:LP 102 = some L102:=by kernel_rfl
def L103s0:ze:=(.seq (.reg [(m 23 0),(m 24 3),(m 25 5),(o 26 (.build [(i 0),(i 0)] [(0,(1,(t 24))),(1,(1,(t 25)))])),(g 27 2 6),(o 28 (.call (t 23) [(t 26),(t 27)])),(o 29 (.un .not (t 28)))]) (.cond (t 29) .ret .skip))
def L103s1:ze:=(.reg [(o 30 (b .add (t 18) (k 1))),(m 18 30)])
def L103s2:ze:=(.seq (.block 3 (.seq (.reg [(m 20 18),(o 21 (.indexAddrS 2 (t 16) (t 18))),(g 22 2 21),(o 6 (.alloc [(i 0),(i 0)])),(m 5 20),(s 2 6 22)]) L103s0)) L103s1)
def L103w0:ze:=(.seq (.reg [(o 19 (b .lss (t 18) (t 17)))]) (.seq (.cond (t 19) .skip (.exit 2)) L103s2))
def L103s3:ze:=(.seq (.reg [(f 15 2 4),(l 16 15),(o 17 (.len .slice (t 16))),(o 18 (.move (k 0)))]) (.block 2 (.loop L103w0)))
def L103s4:ze:=(.reg [(o 31 (b .add (t 10) (k 1))),(m 10 31)])
def L103s5:ze:=(.seq (.block 1 (.seq (.reg [(m 12 10),(o 13 (.indexAddrS 3 (t 8) (t 10))),(g 14 3 13),(o 4 (.alloc [(i 0),(i 0),(.slice .none 0 0)])),(m 3 12),(s 3 4 14)]) L103s3)) L103s4)
def L103w1:ze:=(.seq (.reg [(o 11 (b .lss (t 10) (t 9)))]) (.seq (.cond (t 11) .skip (.exit 0)) L103s5))
def L103:zl:=⟨32,(.seq (.reg [(f 7 2 1),(l 8 7),(o 9 (.len .slice (t 8))),(o 10 (.move (k 0)))]) (.block 0 (.loop L103w1))),[],.true,.none,vO⟩
theorem lp103:LP 103 = some L103:=by kernel_rfl
def L113s0:ze:=(.seq (.reg [(g 3 2 1),(o 4 (c 123 [(t 3),(k 0),(k 1000)])),(m 2 4)]) .ret)
def L113:zl:=⟨5,(.seq (.reg [(o 1 (.box (t 0))),(o 2 (.move (.c (.bool .false))))]) L113s0),[(.t 2)],.false,.none,vO⟩
theorem lp113:LP 113 = some L113:=by kernel_rfl
def L123r0:List zb:=[(og 22 (b .leq (t 20) (t 21)) 18 .true),(o 23 (.pick (t 18) (t 22) (.c (.bool .false)))),(m 6 23)]
def L123r1:List zb:=((o 17 (.pick (t 11) (t 16) (.c (.bool .false)))) :: (m 18 17) :: (og 19 (.fieldAddr 1 (t 3)) 18 .true) :: (og 20 (.load .false 1 (t 19)) 18 .true) :: (og 21 (.move (t 2)) 18 .true) :: L123r0)
def L123r2:List zb:=((og 12 (.fieldAddr 0 (t 3)) 11 .true) :: (og 13 (.load .false 1 (t 12)) 11 .true) :: (og 14 (.fieldAddr 1 (t 3)) 11 .true) :: (og 15 (.load .false 1 (t 14)) 11 .true) :: (og 16 (b .leq (t 13) (t 15)) 11 .true) :: L123r1)
def L123s0:ze:=(.seq (.reg ((m 7 1) :: (f 8 0 3) :: (l 9 8) :: (o 10 (b .leq (t 7) (t 9))) :: (m 11 10) :: L123r2)) .ret)
def L123:zl:=⟨24,(.seq (.reg [(o 3 (.box (t 0))),(o 6 (.move (.c (.bool .false))))]) L123s0),[(.t 6)],.false,.none,vO⟩
theorem lp123:LP 123 = some L123:=by kernel_rfl
def L124s0:ze:=(.cond (t 16) (.seq (.reg [(o 4 (.move (.c (.bool .false))))]) .ret) .skip)
def L124s1:ze:=(.seq (.reg [(m 13 1),(g 14 2 6),(o 15 (.call (t 13) [(t 14)])),(o 16 (.un .not (t 15)))]) L124s0)
def L124s2:ze:=(.reg [(o 17 (b .add (t 9) (k 1))),(m 9 17)])
def L124s3:ze:=(.seq (.block 1 (.seq (.reg [(o 11 (.indexAddrS 2 (t 7) (t 9))),(g 12 2 11),(o 6 (.alloc [(i 0),(i 0)])),(s 2 6 12)]) L124s1)) L124s2)
def L124w0:ze:=(.seq (.reg [(o 10 (b .lss (t 9) (t 8)))]) (.seq (.cond (t 10) .skip (.exit 0)) L124s3))
def L124s4:ze:=(.seq (.seq (.reg [(m 7 0),(o 8 (.len .slice (t 7))),(o 9 (.move (k 0)))]) (.block 0 (.loop L124w0))) (.seq (.reg [(o 4 (.move (.c (.bool .true))))]) .ret))
def L124:zl:=⟨18,(.seq (.reg [(o 4 (.move (.c (.bool .false))))]) L124s4),[(.t 4)],.false,.none,vO⟩
theorem lp124:LP 124 = some L124:=by kernel_rfl
def L125r0:List zb:=[(og 15 (.fieldAddr 1 (t 3)) 14 .true),(og 16 (.load .false 1 (t 15)) 14 .true),(og 17 (b .leq (t 16) (k 2000)) 14 .true),(o 18 (.pick (t 14) (t 17) (.c (.bool .false)))),(m 4 18)]
def L125r1:List zb:=((og 10 (.fieldAddr 1 (t 3)) 9 .true) :: (og 11 (.load .false 1 (t 10)) 9 .true) :: (og 12 (b .leq (.c (.int .i64 (-1000))) (t 11)) 9 .true) :: (o 13 (.pick (t 9) (t 12) (.c (.bool .false)))) :: (m 14 13) :: L125r0)
def L125s0:ze:=(.seq (.reg ((g 5 3 2) :: (f 6 0 3) :: (l 7 6) :: (o 8 (c 77 [(t 5),(t 7)])) :: (m 9 8) :: L125r1)) .ret)
def L125:zl:=⟨19,(.seq (.reg [(o 2 (.box (t 0))),(o 3 (.box (t 1))),(o 4 (.move (.c (.bool .false))))]) L125s0),[(.t 4)],.false,.none,vO⟩
theorem lp125:LP 125 = some L125:=by kernel_rfl
def L126s0:ze:=(.cond (t 17) (.seq (.reg [(o 2 (.move (.c (.bool .false))))]) .ret) .skip)
def L126s1:ze:=(.reg [(m 18 3),(f 19 0 5),(l 20 19),(on (.mapUpdate (.cell (.i .i64)) (t 18) (t 20) (.c (.bool .true))))])
def L126s2:ze:=(.seq (.seq (.reg [(m 14 3),(f 15 0 5),(l 16 15),(o 17 (.lookup (.cell (.i .i64)) (.bool .false) .false (t 14) (t 16)))]) L126s0) L126s1)
def L126s3:ze:=(.reg [(o 21 (b .add (t 10) (k 1))),(m 10 21)])
def L126s4:ze:=(.seq (.block 1 (.seq (.reg [(o 12 (.indexAddrS 2 (t 8) (t 10))),(g 13 2 12),(o 5 (.alloc [(i 0),(i 0)])),(s 2 5 13)]) L126s2)) L126s3)
def L126w0:ze:=(.seq (.reg [(o 11 (b .lss (t 10) (t 9)))]) (.seq (.cond (t 11) .skip (.exit 0)) L126s4))
def L126s5:ze:=(.seq (.seq (.reg [(f 7 2 1),(l 8 7),(o 9 (.len .slice (t 8))),(o 10 (.move (k 0)))]) (.block 0 (.loop L126w0))) (.seq (.reg [(o 2 (.move (.c (.bool .true))))]) .ret))
def L126:zl:=⟨22,(.seq (.reg [(o 1 (.box (t 0))),(o 2 (.move (.c (.bool .false))))]) (.seq (.reg [(o 6 .makeMap),(m 3 6)]) L126s5)),[(.t 2)],.false,.none,vO⟩
theorem lp126:LP 126 = some L126:=by kernel_rfl
end
end Go.Hx

namespace Go.Hx
noncomputable section
def spWakes : List HV → HS → Option (HV × HS)
 | [], σ => some (.bool true, σ)
 | _, _ => none
def LW : Nat → Option zl := withS LP 20 spWakes
theorem withS_of {lp : Nat → Option zl} {f : Nat} {g : List HV → HS → Option (HV × HS)} {k : Nat} {lf : zl} (hk : Nat.beq k f = false) (h : lp k = some lf) : withS lp f g k = some lf := by
 unfold withS
 rw [hk]
 exact h
theorem z5 {k : Nat} {lf : zl} (hk : Nat.beq k 20 = false) (h : LP k = some lf) : LW k = some lf := withS_of hk h
theorem lw3 : LW 3 = some L3 := z5 rfl lp3
theorem lw19 : LW 19 = some L19 := z5 rfl lp19
theorem lw21 : LW 21 = some L21 := z5 rfl lp21
theorem lw22 : LW 22 = some L22 := z5 rfl lp22
theorem lw23 : LW 23 = some L23 := z5 rfl lp23
theorem lw24 : LW 24 = some L24 := z5 rfl lp24
theorem lw25 : LW 25 = some L25 := z5 rfl lp25
theorem lw26 : LW 26 = some L26 := z5 rfl lp26
theorem lw32 : LW 32 = some L32 := z5 rfl lp32
theorem lw33 : LW 33 = some L33 := z5 rfl lp33
theorem lw69 : LW 69 = some L69 := z5 rfl lp69
theorem lw70 : LW 70 = some L70 := z5 rfl lp70
theorem lw71 : LW 71 = some L71 := z5 rfl lp71
theorem lw72 : LW 72 = some L72 := z5 rfl lp72
theorem lw73 : LW 73 = some L73 := z5 rfl lp73
theorem lw77 : LW 77 = some L77 := z5 rfl lp77
theorem lw90 : LW 90 = some L90 := z5 rfl lp90
theorem lw98 : LW 98 = some L98 := z5 rfl lp98
theorem lw99 : LW 99 = some L99 := z5 rfl lp99
theorem lw100 : LW 100 = some L100 := z5 rfl lp100
theorem lw101 : LW 101 = some L101 := z5 rfl lp101
theorem lw102 : LW 102 = some L102 := z5 rfl lp102
theorem lw103 : LW 103 = some L103 := z5 rfl lp103
theorem lw113 : LW 113 = some L113 := z5 rfl lp113
theorem lw123 : LW 123 = some L123 := z5 rfl lp123
theorem lw124 : LW 124 = some L124 := z5 rfl lp124
theorem lw125 : LW 125 = some L125 := z5 rfl lp125
theorem lw126 : LW 126 = some L126 := z5 rfl lp126
theorem V.ct_wakes {fl : Nat} {h : Tr HBlk} {nx : Nat} : C LW fl 20 [] ⟨h, nx⟩ (V.KS (.bool true) nx h) :=
 c_spec (lf := ⟨0, .bad, [], false, some spWakes, fun _ _ => none⟩) rfl rfl rfl (Nat.le_refl _) ⟨rfl, nx, Nat.le_refl _, rfl⟩
end
end Go.Hx

namespace Go.Hx.V
open Go.Hx
variable {lp : Nat → Option zl} {fl nt : Nat} {rd : Option Nat} {Q : HExit → HAct → HS → Prop} {T : Tr HV} {ds : List Nat} {σ : HS} {c : ze}
end Go.Hx.V

namespace Go.Hx.V
open Go.Hx
def eI (k : IntKind) (n : Nat) (f : Nat → Int) : List HV := (List.range n).map fun i => .int k (f i)
def eB (n : Nat) (f : Nat → Bool) : List HV := (List.range n).map fun i => .bool (f i)
def ups {α : Type} (f : Nat → α) (j : Nat) (v : α) : Nat → α := fun i => if i = j then v else f i
section
variable {k : IntKind} {n : Nat} {f : Nat → Int} {g : Nat → Bool}
theorem eI_len : (eI k n f).length = n := by unfold eI; rw [List.length_map, List.length_range]
theorem eB_len : (eB n g).length = n := by unfold eB; rw [List.length_map, List.length_range]
theorem eI_one : (eI k n f).all HV.one = true := by
 unfold eI; rw [List.all_map, List.all_eq_true]; intro i _; rfl
theorem eB_one : (eB n g).all HV.one = true := by
 unfold eB; rw [List.all_map, List.all_eq_true]; intro i _; rfl
end
section
variable {n0 nx : Nat} {h0 h : Tr HBlk} {F0 F : PH} {L : List LE}
end
def rF (k : IntKind) (n : Nat) : Rel (Nat → Int) := fun _ f r => r = eI k n f
def rFB (n : Nat) : Rel (Nat → Bool) := fun _ f r => r = eB n f
instance {k : IntKind} {n : Nat} : OkR (rF k n) n := ⟨fun _ h => h, fun h => by rw [h]; exact eI_len, fun h => by rw [h]; exact eI_one⟩
instance {n : Nat} : OkR (rFB n) n := ⟨fun _ h => h, fun h => by rw [h]; exact eB_len, fun h => by rw [h]; exact eB_one⟩
end Go.Hx.V

namespace Go.Hx.V
open Go.Hx
def KD {κ : Type} [DecidableEq κ] (D : ED) (en : κ → HV) : Prop := ∀ a b : κ, eqH D (en a) (en b) = some (decide (a = b))
def KRw {κ : Type} [DecidableEq κ] (ks : List Leaf) (en : κ → List HV) : Prop := ∀ a b : κ, eqRow ks (en a) (en b) = some (decide (a = b))
theorem KD.int {k : IntKind} : KD (.cell (.i k)) (fun x : Int => .int k x) := fun a b => by
 show (if k = k ∧ k = k then some (a == b) else none) = _
 rw [if_pos ⟨rfl, rfl⟩]; rfl
section
variable {κ β : Type} [DecidableEq κ]
def look : List (κ × β) → κ → Option β
 | [], _ => none
 | (x, v) :: l, k => if k = x then some v else look l k
def putM (k : κ) (v : β) : List (κ × β) → List (κ × β)
 | [] => [(k, v)]
 | (x, u) :: l => if k = x then (k, v) :: l else (x, u) :: putM k v l
def upm (m : κ → Option β) (k : κ) (v : β) : κ → Option β := fun j => if j = k then some v else m j
theorem kq {k : κ} {v : β} : ∀ (l : List (κ × β)) (j : κ), look (putM k v l) j = if j = k then some v else look l j
 | [], j => rfl
 | (x, u) :: l, j => by
  unfold putM
  by_cases c : k = x
  ·rw [if_pos c]
   unfold look
   by_cases c' : j = k
   ·rw [if_pos c', if_pos c']
   ·rw [if_neg c', if_neg c', if_neg (fun e => c' (e.trans c.symm))]
  ·rw [if_neg c]
   unfold look
   by_cases c' : j = x
   ·rw [if_pos c', if_neg (fun e => c (e.symm.trans c')), if_pos c']
   ·rw [if_neg c', if_neg c', kq l j]
def MR (D : ED) (en : κ → HV) (ev : β → HV) (es : List (HV × HV)) (m : κ → Option β) : Prop := KD D en ∧ ∃ l : List (κ × β), es = l.map (fun p => (en p.1, ev p.2)) ∧ ∀ k, m k = look l k
theorem MR.nil {D : ED} {en : κ → HV} {ev : β → HV} (h : KD D en) : MR D en ev [] (fun _ => none) := ⟨h, [], rfl, fun _ => rfl⟩
theorem MR.find {D : ED} {en : κ → HV} {ev : β → HV} {es : List (HV × HV)} {m : κ → Option β} (h : MR D en ev es m) (k : κ) : findH D (en k) es = some ((m k).map ev) := by
 obtain ⟨hd, l, rfl, hm⟩ := h
 rw [hm k]
 clear hm
 induction l with
 | nil => rfl
 | cons p l ih =>
  obtain ⟨x, v⟩ := p
  show (match eqH D (en k) (en x) with | some true => some (some (ev v)) | some false => findH D (en k) (l.map fun p : κ × β => (en p.1, ev p.2)) | none => none) = _
  rw [hd k x]
  unfold look
  by_cases c : k = x
  ·rw [decide_eq_true c, if_pos c]; rfl
  ·rw [decide_eq_false c, if_neg c]; exact ih
theorem MR.upd {D : ED} {en : κ → HV} {ev : β → HV} {es : List (HV × HV)} {m : κ → Option β} (h : MR D en ev es m) (k : κ) (v : β) : ∃ es', updH D (en k) (ev v) es = some es' ∧ MR D en ev es' (upm m k v) := by
 obtain ⟨hd, l, rfl, hm⟩ := h
 refine ⟨(putM k v l).map (fun p => (en p.1, ev p.2)), ?_, hd, putM k v l, rfl, fun j => ?_⟩
 ·clear hm
  induction l with
  | nil => rfl
  | cons p l ih =>
   obtain ⟨x, u⟩ := p
   show (match eqH D (en k) (en x) with | some true => some ((en k, ev v) :: l.map fun p : κ × β => (en p.1, ev p.2)) | some false => (updH D (en k) (ev v) (l.map fun p : κ × β => (en p.1, ev p.2))).map ((en x, ev u) :: ·) | none => none) = _
   rw [hd k x]
   unfold putM
   by_cases c : k = x
   ·rw [decide_eq_true c, if_pos c]; rfl
   ·rw [decide_eq_false c, if_neg c]
    show (updH D (en k) (ev v) (l.map fun p : κ × β => (en p.1, ev p.2))).map ((en x, ev u) :: ·) = _
    rw [ih]; rfl
 ·rw [kq]
  unfold upm
  rw [hm j]
theorem MR.key {D : ED} {en : κ → HV} {ev : β → HV} {es : List (HV × HV)} {m : κ → Option β} (h : MR D en ev es m) (k : κ) : keyOk D (en k) = true := by
 unfold keyOk; rw [h.1 k k]; rfl
end
section
variable {lp : Nat → Option zl} {fl : Nat} {N : HAct → HS → Prop} {nt d : Nat} {T : Tr HV} {ds : List Nat} {h : Tr HBlk} {nx : Nat} {os : List zb} {anc : List Nat} {κ β : Type} [DecidableEq κ]
theorem v_mm {n0 : Nat} {h0 : Tr HBlk} {F0 F : PH} {L : List LE} (st : St n0 h0 F0 F h nx L) (hn : ∀ b h' n', St n0 h0 F0 F h' n' (L ++ [.any b (.map [])]) → R lp fl os N ⟨nt, T.set d (some (.map (some b))), ds⟩ ⟨h', n'⟩) (hd : Nat.blt d nt = true := by rfl) : R lp fl (⟨some d, .makeMap, none, anc⟩ :: os) N ⟨nt, T, ds⟩ ⟨h, nx⟩ :=
 r_mm (by
  rw [zM hd]
  have hne := st.ext.le
  exact hn _ _ _ (st.push (b := nx) (Ext.set st.d (by omega) (by omega) (by omega)) (fun c hc => by rw [Xb hc]; omega) ⟨by omega, by omega, z8 _ _ _⟩))
theorem v_lk1 {D : ED} {en : κ → HV} {ev : β → HV} {es : List (HV × HV)} {m : κ → Option β} {b : Nat} {x y : Lo} {kv zero : HV} (hm : MR D en ev es m) (hg : h.get b = some (.map es)) (k : κ) (z : β) (hk : kv = en k) (hz : zero = ev z) (hn : R lp fl os N ⟨nt, T.set d (some (ev ((m k).getD z))), ds⟩ ⟨h, nx⟩) (hx : lo T x = .map (some b) := by first | exact ev_c | (apply ev_t; exact gA)) (hy : lo T y = kv := by first | exact ev_c | (apply ev_t; exact gA)) (hd : Nat.blt d nt = true := by rfl) : R lp fl (⟨some d, .lookup D zero false x y, none, anc⟩ :: os) N ⟨nt, T, ds⟩ ⟨h, nx⟩ := by
 subst hk; subst hz
 refine r_lku ((zw x).trans hx) ((zw y).trans hy) (hm.key k) hg (hm.find k) ?_
 rw [zM hd]
 cases e : m k <;> (rw [e] at hn; exact hn)
theorem v_mu {n0 : Nat} {h0 : Tr HBlk} {F0 F : PH} {L : List LE} {D : ED} {en : κ → HV} {ev : β → HV} {es : List (HV × HV)} {m : κ → Option β} {b : Nat} {x y z : Lo} {kv vv : HV} (st : St n0 h0 F0 F h nx L) (i : Nat) (hi : L[i]? = some (.any b (.map es))) (hm : MR D en ev es m) (k : κ) (v : β) (hk : kv = en k) (hv : vv = ev v) (hfl : fl ≤ n0) (hn : ∀ es' h', MR D en ev es' (upm m k v) → St n0 h0 F0 F h' nx (L.set i (.any b (.map es'))) → R lp fl os N ⟨nt, T, ds⟩ ⟨h', nx⟩) (hx : lo T x = .map (some b) := by first | exact ev_c | (apply ev_t; exact gA)) (hy : lo T y = kv := by first | exact ev_c | (apply ev_t; exact gA)) (hw : lo T z = vv := by first | exact ev_c | (apply ev_t; exact gA)) : R lp fl (⟨none, .mapUpdate D x y z, none, anc⟩ :: os) N ⟨nt, T, ds⟩ ⟨h, nx⟩ := by
 subst hk; subst hv
 obtain ⟨es', e1, e2⟩ := hm.upd k v
 obtain ⟨h1, h2, h3⟩ := st.at hi
 refine r_mup ((zw x).trans hx) ((zw y).trans hy) ((zw z).trans hw) (hm.key k) h3 (Nat.le_trans hfl h1) e1 ?_
 exact hn es' _ e2 (st.swap hi (Nat.le_refl _) (st.d.upd h2) (fun c hc hne => zZ _ _ fun e => hne (List.mem_singleton.2 e)) (fun c hc => .inl hc) ⟨h1, h2, z8 _ _ _⟩)
end
end Go.Hx.V

namespace Go.Hx.V
open Go.Hx
section
variable {lp : Nat → Option zl} {fl : Nat} {N : HAct → HS → Prop} {nt d : Nat} {T : Tr HV} {ds : List Nat} {os : List zb}
variable {h1 hm h0 : Tr HBlk} {nx s n1 n0 i : Nat} {done : List (Nat × List (Nat × HBlk))} {V : List (Nat × PH)} {F F0 : PH} {L : List LE}
end
end Go.Hx.V

namespace Go.Hx.V
open Go.Hx
section
variable {k : IntKind} {n : Nat} {f : Nat → Int}
end
section
variable {k : IntKind} {n : Nat} {f : Nat → Int}
end
end Go.Hx.V

namespace Go.Hx.V
open Go.Hx
theorem LR.cons1 {α : Type} {rel : Rel α} {sz : Nat} [OkR rel sz] {F : PH} {x : α} {r : List HV} {l : List α} {cs : List HV} (h : rel F x r) (t : LR rel sz F l cs) : LR rel sz F (x :: l) (r ++ cs) := (LR.one h).app t
section
variable {lp : Nat → Option zl} {fl : Nat} {N : HAct → HS → Prop} {nt d : Nat} {T : Tr HV} {ds : List Nat} {os : List zb}
variable {h1 hm h0 : Tr HBlk} {nx s n1 n0 i : Nat} {done : List (Nat × List (Nat × HBlk))} {V : List (Nat × PH)} {F F0 : PH} {L : List LE}
end
end Go.Hx.V

namespace Go.Hx.V
open Go.Hx
set_option maxRecDepth 20000
set_option maxHeartbeats 4000000
def sf19_L1 (a0_2:(List (Int × Int × (List (Int × Int))))) (x4:Int):Option (Int ⊕ (Unit ⊕ Unit)) :=
 bnd (bnd ((bif (decide (x4 < ((a0_2).length:Int))) then some (decide (x4 < (10:Int))) else some false):Option (Bool)) (fun y56=>(bif y56 then some (.inl ()) else some (.inr ()))):Option (Unit ⊕ Unit)) (sel (fun w51=>(ix a0_2 x4 fun x64=>(bif (decide ((9:Int) < ((x64.2.2).length:Int))) then some (.inr (.inr ())) else (ck (rng (x4+(1:Int))) (some (.inl (x4+(1:Int)))))))) (fun w53=>some (.inr (.inl ()))))
def sf19 (N:Nat) (a0_0:(List (Int × Int))) (a0_1:Int) (a0_2:(List (Int × Int × (List (Int × Int))))):Option Bool :=
 bnd (iter (sf19_L1 a0_2) N (0:Int)) (sel (fun w36=>(bif (decide (((a0_0).length:Int) ≤ (9:Int))) then some (decide (((a0_2).length:Int) ≤ (9:Int))) else some false)) (fun w38=>some false))
def sf33 (N:Nat) (a0_0 a0_1:Int):Option (Int × Int) :=
 some (a0_0,a0_1)
def sf22_L1 (N:Nat) (a0_0:(List (Int × Int))) (x30:(Int × (List (Int × Int)))):Option ((Int × (List (Int × Int))) ⊕ (List (Int × Int))) :=
 (bif (decide (x30.1 < ((a0_0).length:Int))) then (ix a0_0 x30.1 fun x46=>(bnd (sf33 N x46.1 x46.2) fun v47=>(ck ((x30.2.length+1) * 16 ≤ 35184372088832 ∧ x30.2.length+1 ≤ 35184372088832) ((ck (rng (x30.1+(1:Int))) (some (.inl ((x30.1+(1:Int)),(x30.2 ++ [(v47.1,v47.2)]))))))))) else some (.inr x30.2))
def sf22_L2 (a0_2:(List (Int × Int × (List (Int × Int))))) (x154:(Int × (List (Int × Int × (List (Int × Int)))))) (x285:(Int × (List (Int × Int)))):Option ((Int × (List (Int × Int))) ⊕ (List (Int × Int))) :=
 (ix a0_2 x154.1 fun x309=>(bif (decide (x285.1 < ((x309.2.2).length:Int))) then (ix a0_2 x154.1 fun x312=>(ix x312.2.2 x285.1 fun x314=>(ck ((x285.2.length+1) * 16 ≤ 35184372088832 ∧ x285.2.length+1 ≤ 35184372088832) ((ck (rng (x285.1+(1:Int))) (some (.inl ((x285.1+(1:Int)),(x285.2 ++ [(x314.1,x314.2)]))))))))) else some (.inr x285.2)))
def sf22_L3 (N:Nat) (a0_2:(List (Int × Int × (List (Int × Int))))) (x154:(Int × (List (Int × Int × (List (Int × Int)))))):Option ((Int × (List (Int × Int × (List (Int × Int))))) ⊕ (List (Int × Int × (List (Int × Int))))) :=
 (bif (decide (x154.1 < ((a0_2).length:Int))) then (ix a0_2 x154.1 fun x251=>(bnd (sf33 N x251.1 x251.2.1) fun v253=>bnd (iter (sf22_L2 a0_2 x154) N ((0:Int),([]:List (Int × Int)))) (fun y306=>(ck ((x154.2.length+1) * 40 ≤ 35184372088832 ∧ x154.2.length+1 ≤ 35184372088832) ((ck (rng (x154.1+(1:Int))) (some (.inl ((x154.1+(1:Int)),(x154.2 ++ [(v253.1,v253.2,y306)])))))))))) else some (.inr x154.2))
def sf22 (N:Nat) (a0_0:(List (Int × Int))) (a0_1:Int) (a0_2:(List (Int × Int × (List (Int × Int))))):Option ((List (Int × Int)) × Int × (List (Int × Int × (List (Int × Int))))) :=
 bnd (iter (sf22_L1 N a0_0) N ((0:Int),([]:List (Int × Int)))) (fun y42=>bnd (iter (sf22_L3 N a0_2) N ((0:Int),([]:List (Int × Int × (List (Int × Int)))))) (fun y247=>some (y42,a0_1,y247)))
def sf123 (N:Nat) (a0_0 a0_1 a1 a2:Int):Option Bool :=
 (bif (decide (a1 ≤ a0_0)) then (bif (decide (a0_0 ≤ a0_1)) then some (decide (a0_1 ≤ a2)) else some false) else some false)
def sf99 (N:Nat) (a0_0 a0_1:Int):Option Bool :=
 (bnd (sf123 N a0_0 a0_1 (-100:Int) (100:Int)) fun v4=>some v4)
def sf98_L1 (N:Nat) (a0:(List (Int × Int))) (x1:Int):Option (Int ⊕ (Unit ⊕ Unit)) :=
 (bif (decide (x1 < ((a0).length:Int))) then (ix a0 x1 fun x20=>(bnd (sf99 N x20.1 x20.2) fun v25=>(bif (!v25) then some (.inr (.inl ())) else (ck (rng (x1+(1:Int))) (some (.inl (x1+(1:Int)))))))) else some (.inr (.inr ())))
def sf98 (N:Nat) (a0:(List (Int × Int))):Option Bool :=
 bnd (iter (sf98_L1 N a0) N (0:Int)) (sel (fun w15=>some false) (fun w17=>some true))
def sf113 (N:Nat) (a0_0 a0_1:Int):Option Bool :=
 (bnd (sf123 N a0_0 a0_1 (0:Int) (1000:Int)) fun v4=>some v4)
def sf77 (N:Nat) (a0_0:(List (Int × Int))) (a0_1:Int) (a0_2:(List (Int × Int × (List (Int × Int))))) (a1:Int):Option Bool :=
 (bif (decide ((0:Int) ≤ a1)) then some (decide (a1 < ((a0_0).length:Int))) else some false)
def sf125 (N:Nat) (a0_0:(List (Int × Int))) (a0_1:Int) (a0_2:(List (Int × Int × (List (Int × Int))))) (a1_0 a1_1:Int):Option Bool :=
 (bnd (sf77 N a0_0 a0_1 a0_2 a1_0) fun v7=>(bif v7 then (bif (decide ((-1000:Int) ≤ a1_1)) then some (decide (a1_1 ≤ (2000:Int))) else some false) else some false))
def sf124_L1 (N:Nat) (a0:(List (Int × Int))) (a1f0_0:(List (Int × Int))) (a1f0_1:Int) (a1f0_2:(List (Int × Int × (List (Int × Int))))) (x1:Int):Option (Int ⊕ (Unit ⊕ Unit)) :=
 (bif (decide (x1 < ((a0).length:Int))) then (ix a0 x1 fun x20=>(bnd (sf125 N a1f0_0 a1f0_1 a1f0_2 x20.1 x20.2) fun v25=>(bif (!v25) then some (.inr (.inl ())) else (ck (rng (x1+(1:Int))) (some (.inl (x1+(1:Int)))))))) else some (.inr (.inr ())))
def sf124 (N:Nat) (a0:(List (Int × Int))) (a1f0_0:(List (Int × Int))) (a1f0_1:Int) (a1f0_2:(List (Int × Int × (List (Int × Int))))):Option Bool :=
 bnd (iter (sf124_L1 N a0 a1f0_0 a1f0_1 a1f0_2) N (0:Int)) (sel (fun w15=>some false) (fun w17=>some true))
def sf126_L1 (a0_2:(List (Int × Int))) (x8:(Int × (Int → Option Bool))):Option ((Int × (Int → Option Bool)) ⊕ ((Int → Option Bool) ⊕ (Int → Option Bool))) :=
 (bif (decide (x8.1 < ((a0_2).length:Int))) then (ix a0_2 x8.1 fun x29=>(bif (Option.getD (x8.2 x29.1) false) then some (.inr (.inl x8.2)) else (ck (rng (x8.1+(1:Int))) (some (.inl ((x8.1+(1:Int)),(upm x8.2 x29.1 true))))))) else some (.inr (.inr x8.2)))
def sf126 (N:Nat) (a0_0 a0_1:Int) (a0_2:(List (Int × Int))):Option Bool :=
 bnd (iter (sf126_L1 a0_2) N ((0:Int),((fun _=>none):(Int → Option Bool)))) (sel (fun w22=>some false) (fun w25=>some true))
def sf101 (N:Nat) (a0_0:(List (Int × Int))) (a0_1:Int) (a0_2:(List (Int × Int × (List (Int × Int))))) (a1_0 a1_1:Int) (a1_2:(List (Int × Int))):Option Bool :=
 (bnd (sf113 N a1_0 a1_1) fun v7=>(bif v7 then (bnd (sf124 N a1_2 a0_0 a0_1 a0_2) fun v11=>(bif v11 then (bnd (sf126 N a1_0 a1_1 a1_2) fun v15=>some v15) else some false)) else some false))
def sf100_L1 (N:Nat) (a0:(List (Int × Int × (List (Int × Int))))) (a1f0_0:(List (Int × Int))) (a1f0_1:Int) (a1f0_2:(List (Int × Int × (List (Int × Int))))) (x1:Int):Option (Int ⊕ (Unit ⊕ Unit)) :=
 (bif (decide (x1 < ((a0).length:Int))) then (ix a0 x1 fun x21=>(bnd (sf101 N a1f0_0 a1f0_1 a1f0_2 x21.1 x21.2.1 x21.2.2) fun v27=>(bif (!v27) then some (.inr (.inl ())) else (ck (rng (x1+(1:Int))) (some (.inl (x1+(1:Int)))))))) else some (.inr (.inr ())))
def sf100 (N:Nat) (a0:(List (Int × Int × (List (Int × Int))))) (a1f0_0:(List (Int × Int))) (a1f0_1:Int) (a1f0_2:(List (Int × Int × (List (Int × Int))))):Option Bool :=
 bnd (iter (sf100_L1 N a0 a1f0_0 a1f0_1 a1f0_2) N (0:Int)) (sel (fun w16=>some false) (fun w18=>some true))
def sf69 (N:Nat) (a0_0:(List (Int × Int))) (a0_1:Int) (a0_2:(List (Int × Int × (List (Int × Int))))):Option Bool :=
 (bif (decide ((0:Int) < ((a0_0).length:Int))) then (bnd (sf98 N a0_0) fun v5=>(bif v5 then (bif (decide ((0:Int) ≤ a0_1)) then (bif (decide (a0_1 ≤ (20:Int))) then (bnd (sf100 N a0_2 a0_0 a0_1 a0_2) fun v11=>some v11) else some false) else some false) else some false)) else some false)
def sf21 (N:Nat) (a0_0:(List (Int × Int))) (a0_1:Int) (a0_2:(List (Int × Int × (List (Int × Int))))):Option Int :=
 bnd ((bif (decide ((6:Int) < ((a0_0).length:Int))) then some true else some (decide ((6:Int) < ((a0_2).length:Int)))):Option (Bool)) (fun y5=>(bif y5 then some (3:Int) else (bnd (sf69 N a0_0 a0_1 a0_2) fun v11=>(bif (!v11) then some (1:Int) else some (0:Int)))))
def sf24 (N:Nat) (a0:(List Int)):Option (List Int) :=
 (ck ((([]:List Int).length+a0.length) * 8 ≤ 35184372088832 ∧ ([]:List Int).length+a0.length ≤ 35184372088832) (some (([]:List Int) ++ a0)))
def sf102 (N:Nat) (a0_0 a0_1 a1:Int):Option Bool :=
 (bif (decide (a0_0 ≤ a1)) then some (decide (a1 ≤ a0_1)) else some false)
def sf70_L1 (N:Nat) (a0_0:(List (Int × Int))) (a1:(List Int)) (x25:Int):Option (Int ⊕ (Unit ⊕ Unit)) :=
 (bif (decide (x25 < ((a1).length:Int))) then (ix a1 x25 fun x42=>(ix a0_0 x25 fun x43=>(bnd (sf102 N x43.1 x43.2 x42) fun v44=>(bif (!v44) then some (.inr (.inl ())) else (ck (rng (x25+(1:Int))) (some (.inl (x25+(1:Int))))))))) else some (.inr (.inr ())))
def sf70_L2 (N:Nat) (a0_2:(List (Int × Int × (List (Int × Int))))) (a2:(List Int)) (x55:Int):Option (Int ⊕ (Unit ⊕ Unit)) :=
 (bif (decide (x55 < ((a2).length:Int))) then (ix a2 x55 fun x74=>(ix a0_2 x55 fun x75=>(bnd (sf102 N x75.1 x75.2.1 x74) fun v77=>(bif (!v77) then some (.inr (.inl ())) else (ck (rng (x55+(1:Int))) (some (.inl (x55+(1:Int))))))))) else some (.inr (.inr ())))
def sf70 (N:Nat) (a0_0:(List (Int × Int))) (a0_1:Int) (a0_2:(List (Int × Int × (List (Int × Int))))) (a1:(List Int)) (a2:(List Int)):Option Bool :=
 bnd (bnd ((bif (!(decide (((a1).length:Int) = ((a0_0).length:Int)))) then some true else some (!(decide (((a2).length:Int) = ((a0_2).length:Int))))):Option (Bool)) (fun y19=>(bif y19 then some (.inl ()) else some (.inr ()))):Option (Unit ⊕ Unit)) (sel (fun w14=>some false) (fun w16=>bnd (iter (sf70_L1 N a0_0 a1) N (0:Int)) (sel (fun w37=>some false) (fun w39=>bnd (iter (sf70_L2 N a0_2 a2) N (0:Int)) (sel (fun w69=>some false) (fun w71=>some true))))))
def sf72_L1 (a1:(List Int)) (x1:(Int × Int)):Option ((Int × Int) ⊕ Int) :=
 (bif (decide (x1.2 < ((a1).length:Int))) then (ix a1 x1.2 fun x11=>(bif (decide (x1.1 < x11)) then (ck (rng (x1.2+(1:Int))) (some (.inl (x11,(x1.2+(1:Int)))))) else (ck (rng (x1.2+(1:Int))) (some (.inl (x1.1,(x1.2+(1:Int)))))))) else some (.inr x1.1))
def sf72 (N:Nat) (a0:Int) (a1:(List Int)):Option Int :=
 bnd (iter (sf72_L1 a1) N (a0,(0:Int))) (fun y8=>some y8)
def sf23_L1 (N:Nat) (a0_1:Int) (a1:(List Int)) (a2:(List Int)) (x184:Int) (x309:(Int × Int × (List (Int × Int)))) (x348:Int):Option (Int ⊕ (Unit ⊕ Unit)) :=
 (bif (decide (x348 < ((x309.2.2).length:Int))) then (ix x309.2.2 x348 fun x387=>(ix a2 x184 fun x401=>(ck (rng (x387.2 - x401)) ((ix a1 x387.1 fun x403=>(ck (rng ((x387.2 - x401) - x403)) ((ck (rng (-((x387.2 - x401) - x403))) ((bnd (sf72 N ((x387.2 - x401) - x403) ([(-((x387.2 - x401) - x403))])) fun v406=>(bif (decide (a0_1 < v406)) then some (.inr (.inl ())) else (ck (rng (x348+(1:Int))) (some (.inl (x348+(1:Int)))))))))))))))) else some (.inr (.inr ())))
def sf23_L2 (N:Nat) (a0_1:Int) (a0_2:(List (Int × Int × (List (Int × Int))))) (a1:(List Int)) (a2:(List Int)) (x184:Int):Option (Int ⊕ (Unit ⊕ Unit)) :=
 (bif (decide (x184 < ((a0_2).length:Int))) then (ix a0_2 x184 fun x309=>bnd (iter (sf23_L1 N a0_1 a1 a2 x184 x309) N (0:Int)) (sel (fun w382=>some (.inr (.inl ()))) (fun w384=>(ck (rng (x184+(1:Int))) (some (.inl (x184+(1:Int)))))))) else some (.inr (.inr ())))
def sf23 (N:Nat) (a0_0:(List (Int × Int))) (a0_1:Int) (a0_2:(List (Int × Int × (List (Int × Int))))) (a1:(List Int)) (a2:(List Int)):Option Bool :=
 bnd (bnd ((bnd (sf21 N a0_0 a0_1 a0_2) fun v51=>(bif (!(decide (v51 = (0:Int)))) then some true else (bnd (sf70 N a0_0 a0_1 a0_2 a1 a2) fun v55=>some (!v55)))):Option (Bool)) (fun y47=>(bif y47 then some (.inl ()) else some (.inr ()))):Option (Unit ⊕ Unit)) (sel (fun w36=>some false) (fun w38=>bnd (iter (sf23_L2 N a0_1 a0_2 a1 a2) N (0:Int)) (sel (fun w304=>some false) (fun w306=>some true))))
def sf32 (N:Nat) (a0 a1 a2:Int):Option Bool :=
 (bif (decide (a1 ≤ a0)) then some (decide (a0 ≤ a2)) else some false)
def sf90 (N:Nat) (a0_0 a0_1 a1 a2:Int):Option Bool :=
 (bnd (sf32 N a0_0 a1 a0_1) fun v4=>(bif v4 then some (decide (a0_1 ≤ a2)) else some false))
def sf73_L1 (N:Nat) (a0_0:(List (Int × Int))) (x62:Int):Option (Int ⊕ (Int ⊕ Unit)) :=
 (bif (decide (x62 < ((a0_0).length:Int))) then (ix a0_0 x62 fun x79=>(bnd (sf90 N x79.1 x79.2 (-100:Int) (100:Int)) fun v80=>(bif (!v80) then some (.inr (.inl (1:Int))) else (ck (rng (x62+(1:Int))) (some (.inl (x62+(1:Int)))))))) else some (.inr (.inr ())))
def sf73_L2 (x387:(Int × Int × (List (Int × Int)))) (x397 x614:Int):Option (Int ⊕ (Int ⊕ Unit)) :=
 (bif (decide (x614 < x397)) then (ix x387.2.2 x614 fun x635=>(ix x387.2.2 x397 fun x636=>(bif (decide (x635.1 = x636.1)) then some (.inr (.inl (1:Int))) else (ck (rng (x614+(1:Int))) (some (.inl (x614+(1:Int)))))))) else some (.inr (.inr ())))
def sf73_L3 (N:Nat) (a0_0:(List (Int × Int))) (x387:(Int × Int × (List (Int × Int)))) (x397:Int):Option (Int ⊕ (Int ⊕ Unit)) :=
 (bif (decide (x397 < ((x387.2.2).length:Int))) then bnd (bnd ((ix x387.2.2 x397 fun x588=>(ck (rng (((a0_0).length:Int) - (1:Int))) ((bnd (sf32 N x588.1 (0:Int) (((a0_0).length:Int) - (1:Int))) fun v590=>(bif (!v590) then some true else (ix x387.2.2 x397 fun x594=>(bnd (sf32 N x594.2 (-1000:Int) (2000:Int)) fun v595=>some (!v595)))))))):Option (Bool)) (fun y583=>(bif y583 then some (.inl (1:Int)) else some (.inr ()))):Option (Int ⊕ Unit)) (sel (fun w568=>some (.inr (.inl w568))) (fun w570=>bnd (iter (sf73_L2 x387 x397) N (0:Int)) (sel (fun w629=>some (.inr (.inl w629))) (fun w631=>(ck (rng (x397+(1:Int))) (some (.inl (x397+(1:Int))))))))) else some (.inr (.inr ())))
def sf73_L4 (N:Nat) (a0_0:(List (Int × Int))) (a0_2:(List (Int × Int × (List (Int × Int))))) (x93:Int):Option (Int ⊕ (Int ⊕ Unit)) :=
 (bif (decide (x93 < ((a0_2).length:Int))) then (ix a0_2 x93 fun x387=>(bnd (sf90 N x387.1 x387.2.1 (0:Int) (1000:Int)) fun v393=>(bif (!v393) then some (.inr (.inl (1:Int))) else bnd (iter (sf73_L3 N a0_0 x387) N (0:Int)) (sel (fun w528=>some (.inr (.inl w528))) (fun w530=>(ck (rng (x93+(1:Int))) (some (.inl (x93+(1:Int)))))))))) else some (.inr (.inr ())))
def sf73 (N:Nat) (a0_0:(List (Int × Int))) (a0_1:Int) (a0_2:(List (Int × Int × (List (Int × Int))))):Option Int :=
 bnd (bnd ((bif (decide ((6:Int) < ((a0_0).length:Int))) then some true else some (decide ((6:Int) < ((a0_2).length:Int)))):Option (Bool)) (fun y19=>(bif y19 then some (.inl (3:Int)) else some (.inr ()))):Option (Int ⊕ Unit)) (sel (fun w14=>some w14) (fun w16=>bnd (bnd ((bif (decide (((a0_0).length:Int) = (0:Int))) then some true else (bnd (sf32 N a0_1 (0:Int) (20:Int)) fun v55=>some (!v55))):Option (Bool)) (fun y50=>(bif y50 then some (.inl (1:Int)) else some (.inr ()))):Option (Int ⊕ Unit)) (sel (fun w42=>some w42) (fun w44=>bnd (iter (sf73_L1 N a0_0) N (0:Int)) (sel (fun w74=>some w74) (fun w76=>bnd (iter (sf73_L4 N a0_0 a0_2) N (0:Int)) (sel (fun w382=>some w382) (fun w384=>some (0:Int)))))))))
def sf25 (N:Nat) (a0_0:(List (Int × Int))) (a0_1:Int) (a0_2:(List (Int × Int × (List (Int × Int))))):Option Int :=
 (bnd (sf73 N a0_0 a0_1 a0_2) fun v4=>some v4)
def sf26_L1 (N:Nat) (a0_0:(List (Int × Int))) (a1:(List Int)) (x25:Int):Option (Int ⊕ (Unit ⊕ Unit)) :=
 (bif (decide (x25 < ((a1).length:Int))) then (ix a1 x25 fun x45=>(ix a0_0 x25 fun x46=>(ix a0_0 x25 fun x47=>(bnd (sf32 N x45 x46.1 x47.2) fun v48=>(bif (!v48) then some (.inr (.inl ())) else (ck (rng (x25+(1:Int))) (some (.inl (x25+(1:Int)))))))))) else some (.inr (.inr ())))
def sf26_L2 (N:Nat) (a0_1:Int) (a1:(List Int)) (a2:(List Int)) (x59:Int) (x131:(Int × Int × (List (Int × Int)))) (x143:Int):Option (Int ⊕ (Unit ⊕ Unit)) :=
 (bif (decide (x143 < ((x131.2.2).length:Int))) then (ix x131.2.2 x143 fun x169=>(ix a2 x59 fun x170=>(ck (rng (x169.2 - x170)) ((ix x131.2.2 x143 fun x172=>(ix a1 x172.1 fun x173=>(ck (rng ((x169.2 - x170) - x173)) ((ck (rng (-a0_1)) ((bnd (sf32 N ((x169.2 - x170) - x173) (-a0_1) a0_1) fun v176=>(bif (!v176) then some (.inr (.inl ())) else (ck (rng (x143+(1:Int))) (some (.inl (x143+(1:Int))))))))))))))))) else some (.inr (.inr ())))
def sf26_L3 (N:Nat) (a0_1:Int) (a0_2:(List (Int × Int × (List (Int × Int))))) (a1:(List Int)) (a2:(List Int)) (x59:Int):Option (Int ⊕ (Unit ⊕ Unit)) :=
 (bif (decide (x59 < ((a2).length:Int))) then (ix a0_2 x59 fun x131=>(ix a2 x59 fun x138=>(bnd (sf32 N x138 x131.1 x131.2.1) fun v139=>(bif (!v139) then some (.inr (.inl ())) else bnd (iter (sf26_L2 N a0_1 a1 a2 x59 x131) N (0:Int)) (sel (fun w163=>some (.inr (.inl ()))) (fun w165=>(ck (rng (x59+(1:Int))) (some (.inl (x59+(1:Int))))))))))) else some (.inr (.inr ())))
def sf26 (N:Nat) (a0_0:(List (Int × Int))) (a0_1:Int) (a0_2:(List (Int × Int × (List (Int × Int))))) (a1:(List Int)) (a2:(List Int)):Option Bool :=
 bnd (bnd ((bif (!(decide (((a1).length:Int) = ((a0_0).length:Int)))) then some true else some (!(decide (((a2).length:Int) = ((a0_2).length:Int))))):Option (Bool)) (fun y19=>(bif y19 then some (.inl ()) else some (.inr ()))):Option (Unit ⊕ Unit)) (sel (fun w14=>some false) (fun w16=>bnd (iter (sf26_L1 N a0_0 a1) N (0:Int)) (sel (fun w39=>some false) (fun w41=>bnd (iter (sf26_L3 N a0_1 a0_2 a1 a2) N (0:Int)) (sel (fun w126=>some false) (fun w128=>some true))))))
def sf3 (N:Nat) (a0_0:(List (Int × Int))) (a0_1:Int) (a0_2:(List (Int × Int × (List (Int × Int))))) (a1:(List Int)) (a2:(List Int)):Option Bool :=
 bnd (bnd ((bnd (sf19 N a0_0 a0_1 a0_2) fun v36=>(bif (!v36) then some true else (bif (decide ((12:Int) < ((a1).length:Int))) then some true else some (decide ((12:Int) < ((a2).length:Int)))))):Option (Bool)) (fun y32=>(bif y32 then some (.inl true) else some (.inr ()))):Option (Bool ⊕ Unit)) (sel (fun w23=>some w23) (fun w25=>(bnd (sf22 N a0_0 a0_1 a0_2) fun v43=>(bnd (sf21 N v43.1 v43.2.1 v43.2.2) fun v49=>(bnd (sf22 N a0_0 a0_1 a0_2) fun v52=>(bnd (sf24 N a1) fun v59=>(bnd (sf24 N a2) fun v66=>(bnd (sf23 N v52.1 v52.2.1 v52.2.2 v59 v66) fun v74=>(bnd (sf25 N a0_0 a0_1 a0_2) fun v77=>(bif (decide (v49 = v77)) then (bif (decide (v49 = (0:Int))) then (bnd (sf26 N a0_0 a0_1 a0_2 a1 a2) fun v82=>(bif (v74 == v82) then some true else some false)) else (bif (v74 == false) then some true else some false)) else some false))))))))))
def sf105 (N:Nat) (a0_0:(List (Int × Int))) (a0_1:Int) (a0_2:(List (Int × Int × (List (Int × Int))))) (a1:Int):Option Int :=
 (ck (rng ((1:Int)+a1)) (some ((1:Int)+a1)))
def sf80_L1 (v13:((List (Int × Int)) × Int × (List (Int × Int × (List (Int × Int)))) × Int × (Nat → Int))) (x8041:(Int × Int)) (v8546 v8550:Int) (x8634:(Int × (Nat → Int))) (x8736:(Int × (Nat → Int))):Option ((Int × (Nat → Int)) ⊕ (Nat → Int)) :=
 (bif (decide (x8736.1 < v13.2.2.2.1)) then (ck (0 ≤ v8550 ∧ v8550 < 13) ((ck (0 ≤ x8736.1 ∧ x8736.1 < 13) ((ck (rng (((x8634.2 (((Int.toNat x8634.1) * 13)+(Int.toNat v8546)))+(x8041.2+v13.2.1))+(x8736.2 (((Int.toNat v8550) * 13)+(Int.toNat x8736.1))))) ((ck (0 ≤ x8634.1 ∧ x8634.1 < 13) ((ck (0 ≤ x8736.1 ∧ x8736.1 < 13) ((bif (decide ((((x8634.2 (((Int.toNat x8634.1) * 13)+(Int.toNat v8546)))+(x8041.2+v13.2.1))+(x8736.2 (((Int.toNat v8550) * 13)+(Int.toNat x8736.1)))) < (x8736.2 (((Int.toNat x8634.1) * 13)+(Int.toNat x8736.1))))) then (ck (0 ≤ x8634.1 ∧ x8634.1 < 13) ((ck (0 ≤ x8736.1 ∧ x8736.1 < 13) ((ck (rng (x8736.1+(1:Int))) (some (.inl ((x8736.1+(1:Int)),(ups x8736.2 (((Int.toNat x8634.1) * 13)+(Int.toNat x8736.1)) (((x8634.2 (((Int.toNat x8634.1) * 13)+(Int.toNat v8546)))+(x8041.2+v13.2.1))+(x8736.2 (((Int.toNat v8550) * 13)+(Int.toNat x8736.1))))))))))))) else (ck (rng (x8736.1+(1:Int))) (some (.inl ((x8736.1+(1:Int)),x8736.2))))))))))))))) else some (.inr x8736.2))
def sf80_L2 (N:Nat) (v13:((List (Int × Int)) × Int × (List (Int × Int × (List (Int × Int)))) × Int × (Nat → Int))) (x8041:(Int × Int)) (v8546 v8550:Int) (x8634:(Int × (Nat → Int))):Option ((Int × (Nat → Int)) ⊕ (Nat → Int)) :=
 (bif (decide (x8634.1 < v13.2.2.2.1)) then (ck (0 ≤ x8634.1 ∧ x8634.1 < 13) ((ck (0 ≤ v8546 ∧ v8546 < 13) ((ck (rng ((x8634.2 (((Int.toNat x8634.1) * 13)+(Int.toNat v8546)))+(x8041.2+v13.2.1))) ((ck (0 ≤ x8634.1 ∧ x8634.1 < 13) ((ck (0 ≤ v8550 ∧ v8550 < 13) ((bif (decide ((x8634.2 (((Int.toNat x8634.1) * 13)+(Int.toNat v8550))) ≤ ((x8634.2 (((Int.toNat x8634.1) * 13)+(Int.toNat v8546)))+(x8041.2+v13.2.1)))) then (ck (rng (x8634.1+(1:Int))) (some (.inl ((x8634.1+(1:Int)),x8634.2)))) else bnd (iter (sf80_L1 v13 x8041 v8546 v8550 x8634) N ((0:Int),x8634.2)) (fun y8754=>(ck (rng (x8634.1+(1:Int))) (some (.inl ((x8634.1+(1:Int)),y8754)))))))))))))))) else some (.inr x8634.2))
def sf80_L3 (v13:((List (Int × Int)) × Int × (List (Int × Int × (List (Int × Int)))) × Int × (Nat → Int))) (x8041:(Int × Int)) (v8546 v8550:Int) (x8864:(Int × (Nat → Int))) (x8971:(Int × (Nat → Int))):Option ((Int × (Nat → Int)) ⊕ (Nat → Int)) :=
 (bif (decide (x8971.1 < v13.2.2.2.1)) then (ck (0 ≤ v8546 ∧ v8546 < 13) ((ck (0 ≤ x8971.1 ∧ x8971.1 < 13) ((ck (rng (((x8864.2 (((Int.toNat x8864.1) * 13)+(Int.toNat v8550)))+(v13.2.1 - x8041.2))+(x8971.2 (((Int.toNat v8546) * 13)+(Int.toNat x8971.1))))) ((ck (0 ≤ x8864.1 ∧ x8864.1 < 13) ((ck (0 ≤ x8971.1 ∧ x8971.1 < 13) ((bif (decide ((((x8864.2 (((Int.toNat x8864.1) * 13)+(Int.toNat v8550)))+(v13.2.1 - x8041.2))+(x8971.2 (((Int.toNat v8546) * 13)+(Int.toNat x8971.1)))) < (x8971.2 (((Int.toNat x8864.1) * 13)+(Int.toNat x8971.1))))) then (ck (0 ≤ x8864.1 ∧ x8864.1 < 13) ((ck (0 ≤ x8971.1 ∧ x8971.1 < 13) ((ck (rng (x8971.1+(1:Int))) (some (.inl ((x8971.1+(1:Int)),(ups x8971.2 (((Int.toNat x8864.1) * 13)+(Int.toNat x8971.1)) (((x8864.2 (((Int.toNat x8864.1) * 13)+(Int.toNat v8550)))+(v13.2.1 - x8041.2))+(x8971.2 (((Int.toNat v8546) * 13)+(Int.toNat x8971.1))))))))))))) else (ck (rng (x8971.1+(1:Int))) (some (.inl ((x8971.1+(1:Int)),x8971.2))))))))))))))) else some (.inr x8971.2))
def sf80_L4 (N:Nat) (v13:((List (Int × Int)) × Int × (List (Int × Int × (List (Int × Int)))) × Int × (Nat → Int))) (x8041:(Int × Int)) (v8546 v8550:Int) (x8864:(Int × (Nat → Int))):Option ((Int × (Nat → Int)) ⊕ (Nat → Int)) :=
 (bif (decide (x8864.1 < v13.2.2.2.1)) then (ck (0 ≤ x8864.1 ∧ x8864.1 < 13) ((ck (0 ≤ v8550 ∧ v8550 < 13) ((ck (rng ((x8864.2 (((Int.toNat x8864.1) * 13)+(Int.toNat v8550)))+(v13.2.1 - x8041.2))) ((ck (0 ≤ x8864.1 ∧ x8864.1 < 13) ((ck (0 ≤ v8546 ∧ v8546 < 13) ((bif (decide ((x8864.2 (((Int.toNat x8864.1) * 13)+(Int.toNat v8546))) ≤ ((x8864.2 (((Int.toNat x8864.1) * 13)+(Int.toNat v8550)))+(v13.2.1 - x8041.2)))) then (ck (rng (x8864.1+(1:Int))) (some (.inl ((x8864.1+(1:Int)),x8864.2)))) else bnd (iter (sf80_L3 v13 x8041 v8546 v8550 x8864) N ((0:Int),x8864.2)) (fun y8990=>(ck (rng (x8864.1+(1:Int))) (some (.inl ((x8864.1+(1:Int)),y8990)))))))))))))))) else some (.inr x8864.2))
def sf104 (N:Nat):Option Unit :=
 some ()
def sf127 (N:Nat) (a0p0:(List (Int × Int))) (a0p1:Int) (a0p2:(List (Int × Int × (List (Int × Int))))) (a0p3:Int) (a0p4:(Nat → Int)) (a1:Int):Option Int :=
 (ck (0 ≤ a1 ∧ a1 < 13) ((ck (0 ≤ (0:Int) ∧ (0:Int) < 13) ((ck (rng (-(a0p4 (((Int.toNat a1) * 13)+(Int.toNat (0:Int)))))) (some (-(a0p4 (((Int.toNat a1) * 13)+(Int.toNat (0:Int)))))))))))
def sf128 (N:Nat) (a0p0:(List (Int × Int))) (a0p1:Int) (a0p2:(List (Int × Int × (List (Int × Int))))) (a0p3:Int) (a0p4:(Nat → Int)) (a1:Int):Option Int :=
 (ck (0 ≤ (0:Int) ∧ (0:Int) < 13) ((ck (0 ≤ a1 ∧ a1 < 13) (some (a0p4 (((Int.toNat (0:Int)) * 13)+(Int.toNat a1)))))))
def sf75 (N:Nat) (a0p0:(List (Int × Int))) (a0p1:Int) (a0p2:(List (Int × Int × (List (Int × Int))))) (a0p3:Int) (a0p4:(Nat → Int)) (a1:Int):Option (Int × Int) :=
 (bnd (sf104 N ) fun v4=>(bnd (sf105 N a0p0 a0p1 a0p2 a1) fun v7=>(bnd (sf127 N a0p0 a0p1 a0p2 a0p3 a0p4 v7) fun v12=>(bnd (sf128 N a0p0 a0p1 a0p2 a0p3 a0p4 v7) fun v16=>some (v12,v16)))))
def sf64_L1 (a0:(List (Int × Int))) (a1:(List (Int × Int))) (x2:Int):Option (Int ⊕ (Unit ⊕ Unit)) :=
 (bif (decide (x2 < ((a0).length:Int))) then bnd ((ix a0 x2 fun x41=>(ix a1 x2 fun x42=>(bif (decide (x41.1 < x42.1)) then some true else (ix a0 x2 fun x44=>(ix a1 x2 fun x45=>some (decide (x45.2 < x44.2))))))):Option (Bool)) (fun y36=>(bif y36 then some (.inr (.inl ())) else (ck (rng (x2+(1:Int))) (some (.inl (x2+(1:Int))))))) else some (.inr (.inr ())))
def sf64 (N:Nat) (a0:(List (Int × Int))) (a1:(List (Int × Int))):Option Bool :=
 (bif (!(decide (((a0).length:Int) = ((a1).length:Int)))) then some false else bnd (iter (sf64_L1 a0 a1) N (0:Int)) (sel (fun w25=>some false) (fun w27=>some true)))
end Go.Hx.V

namespace Go.Hx.V
open Go.Hx
set_option maxRecDepth 20000
set_option maxHeartbeats 4000000
variable {fl : Nat} {h0 : Tr HBlk} {n0 : Nat} {F0 : PH}
attribute [local irreducible] W R C thenH inBlockH Tr.get Tr.set lo ck bnd ix iter
theorem ct19 (N:Nat) {a0_0:(List (Int × Int))} {a0_1:Int} {a0_2:(List (Int × Int × (List (Int × Int))))} {r:Bool} (hF:sf19 N a0_0 a0_1 a0_2 = some r) (hd:D h0 n0) (hs:F0.sub h0) {pa0_0:Option (Nat × Nat)} {ca0_0:Nat} {pa0_2:Option (Nat × Nat)} {ca0_2:Nat} (ra0_0:RowF (rP rI rI) 2 F0 pa0_0 ca0_0 a0_0) (ra0_2:RowF (rP rI (rP rI (rL (rP rI rI) 2))) 3 F0 pa0_2 ca0_2 a0_2):C LW fl 19 [(.agg [(.slice pa0_0 (a0_0).length ca0_0),(i64 a0_1),(.slice pa0_2 (a0_2).length ca0_2)])] ⟨h0,n0⟩ (KS (.bool r) n0 h0):=by
 unfold sf19 at hF
 refine yd hd hs lw19 rfl rfl (by rfl) (fun st T hT=>?_)
 have hfl:n0 ≤ n0:=Nat.le_refl n0
 have t0:=hT 0 _ rfl
 dsimp only [L19]
 refine zd (zi ?_);refine ya st (fun b1 h2 n3 st=>?_);refine za ?_;refine zc (th_n ?_);refine zd ?_;refine zd (zi ?_);refine za ?_;refine zc (th_n ?_);refine zx ?_;obtain ⟨y35,hy,hF⟩:=zk hF;refine zU (sf19_L1 a0_2) (fun x4 T ds5 h nx=>∃ (F5:PH),ds5 = [] ∧ PH.le F0 F5 ∧ St n0 h0 F0 F5 h nx [.bx b1 [(.slice pa0_0 (a0_0).length ca0_0),(i64 a0_1),(.slice pa0_2 (a0_2).length ca0_2)]] ∧ T.get 1 = some (.ptr (some (b1,0))) ∧ T.get 3 = some (i64 x4)) (fun y e a σ=>(∃ u,y = (.inl u) ∧ e = .exit 0 ∧ a.nt = 33 ∧ ∃ (F37:PH),a.defers = [] ∧ PH.le F0 F37 ∧ St n0 h0 F0 F37 σ.h σ.nx [.bx b1 [(.slice pa0_0 (a0_0).length ca0_0),(i64 a0_1),(.slice pa0_2 (a0_2).length ca0_2)]] ∧ a.tmps.get 1 = some (.ptr (some (b1,0)))) ∨ (∃ u,y = (.inr u) ∧ e = .ret ∧ a.nt = 33 ∧ ∃ (F39:PH),a.defers = [] ∧ PH.le F0 F39 ∧ St n0 h0 F0 F39 σ.h σ.nx [.bx b1 [(.slice pa0_0 (a0_0).length ca0_0),(i64 a0_1),(.slice pa0_2 (a0_2).length ca0_2)]] ∧ a.tmps.get 2 = some (.bool false))) (fun x4 T ds5 h nx s hp hF=>?_) N _ y35 _ _ _ _ hy ⟨F0,rfl,(PH.le.refl _),st,gA,gA⟩ (fun e a σ hne hq=>?_)
 ·obtain ⟨F5,rfl,le5,st,t1,t3⟩:=hp;unfold sf19_L1 at hF;unfold L19w0;obtain ⟨y48,hA49,hF⟩:=zk hF;refine ye (fun T ds52 h nx=>∃ u,y48 = (.inl u) ∧ ∃ (F52:PH),ds52 = [] ∧ PH.le F5 F52 ∧ St n0 h0 F0 F52 h nx [.bx b1 [(.slice pa0_0 (a0_0).length ca0_0),(i64 a0_1),(.slice pa0_2 (a0_2).length ca0_2)]] ∧ T.get 1 = some (.ptr (some (b1,0))) ∧ T.get 3 = some (i64 x4)) ?_ (fun T ds52 h nx hp=>?_)
  ·have hK50:=hF
   have hF:=hA49;obtain ⟨y56,hA57,hF⟩:=zk hF;refine ye (fun T ds59 h nx=>∃ (F59:PH),ds59 = [] ∧ PH.le F5 F59 ∧ St n0 h0 F0 F59 h nx [.bx b1 [(.slice pa0_0 (a0_0).length ca0_0),(i64 a0_1),(.slice pa0_2 (a0_2).length ca0_2)]] ∧ T.get 1 = some (.ptr (some (b1,0))) ∧ T.get 3 = some (i64 x4) ∧ T.get 12 = some (.bool y56)) ?_ (fun T ds59 h nx hp=>?_)
   ·have hK58:=hF
    have hF:=hA57;refine zi ?_;refine za ?_;refine v_fa ?_;refine zn (st.at (i:=0) rfl).2.2 rfl ?_;refine zS ?_;refine yk ?_;refine za ?_
    rcases Bool.eq_false_or_eq_true (decide (x4 < ((a0_2).length:Int))) with hb60 | hb60
    ·have hF:=zt hb60 hF;refine zj hb60 (za ?_);refine zj hb60 (yk ?_);refine zQ hb60 ?_;refine zc ?_;obtain rfl:=inj hF;refine thn ⟨rfl,?_⟩;dsimp only
     exact ⟨F5,rfl,(PH.le.refl _),st,gA,gA,gA⟩
    ·have hF:=zu hb60 hF;refine zg hb60 ?_;refine zg hb60 ?_;refine zA hb60 ?_;refine zc ?_;obtain rfl:=inj hF;refine thn ⟨rfl,?_⟩;dsimp only
     exact ⟨F5,rfl,(PH.le.refl _),st,gA,gA,gA⟩
   ·obtain ⟨F59,rfl,le59,st,t1,t3,t12⟩:=hp
    have le61:=PH.le.trans le5 le59
    refine zB (fun hb62=>?_) (fun hb62=>?_)
    ·have hF:=zt hb62 hF;refine zC ?_;obtain rfl:=inj hF;refine thn ⟨rfl,_,rfl,?_⟩;dsimp only
     exact ⟨F59,rfl,le59,st,gA,gA⟩
    ·have hF:=zu hb62 hF;refine z7 ?_;obtain rfl:=inj hF;have hF:=hK50;have hF:=yb hF;refine th_e ?_;refine th_e ?_;refine ⟨_,(inj hF).symm,.inl ⟨_,rfl,rfl,rfl,?_⟩⟩;dsimp only
     exact ⟨F59,rfl,le61,st,gA⟩
  ·obtain ⟨w51,rfl,F52,rfl,le52,st,t1,t3⟩:=hp;have hF:=yc hF
   have le63:=PH.le.trans le5 le52
   refine zd ?_;refine zx ?_;refine zd (zi ?_);refine v_fa ?_;refine zn (st.at (i:=0) rfl).2.2 rfl ?_;refine za ?_;obtain ⟨n64,x64,z64,l64,g64,hF⟩:=zE hF;obtain ⟨b64,o64,s64,j64,r64,e64,f64,k64,⟨_,_,rfl,rfl,⟨_,_,rfl,rfl,⟨py65,cy65,rfl,ry65⟩⟩⟩⟩:=RowF.get ra0_2 g64;refine zV e64 z64 l64 ?_;refine v_fa ?_;refine zn (st.sub _ _ (le63 _ _ f64)) (zW (j:=2) k64 rfl) ?_;refine zS ?_;refine vL ?_;refine zc (th_n ?_);refine zB (fun hb66=>?_) (fun hb66=>?_)
   ·have hF:=zt hb66 hF;refine zd (zi ?_);refine za ?_;refine zc (th_n ?_);refine zy ?_;refine ib_r ?_;refine th_r ?_;refine th_r ?_;refine ⟨_,(inj hF).symm,.inr (⟨_,rfl,rfl,rfl,?_⟩)⟩;dsimp only
    exact ⟨F52,rfl,le63,st,gA⟩
   ·have hF:=zu hb66 hF;refine zC ?_;refine ib_n ?_;refine th_n ?_;refine zi ?_;refine za ?_;obtain ⟨q67,hF⟩:=zH hF;refine yl q67 ?_;refine za ?_;refine zc ?_;refine thn ⟨_,(inj hF).symm,rfl,?_⟩;dsimp only
    exact ⟨F52,rfl,le63,st,gA,gA⟩
 ·rcases hq with hq | hq
  ·obtain ⟨N9,T,ds37⟩:=a;obtain ⟨h69,n70⟩:=σ;obtain ⟨w36,rfl,rfl,e1,F37,e2,le37,st,t1⟩:=hq
   dsimp only at e1 e2
   subst e1
   subst e2
   dsimp only at st t1
   have hF:=yc hF;refine ib_e ?_;refine th_n ?_;refine zd (zi ?_);refine v_fa ?_;refine zn (st.at (i:=0) rfl).2.2 rfl ?_;refine zS ?_;refine yY ?_;refine za ?_
   rcases Bool.eq_false_or_eq_true (decide (((a0_0).length:Int) ≤ (9:Int))) with hb71 | hb71
   ·have hF:=zt hb71 hF;refine zj hb71 (v_fa ?_);refine zj hb71 (zn (st.at (i:=0) rfl).2.2 rfl ?_);refine zj hb71 (zS ?_);refine zj hb71 (yY ?_);refine zQ hb71 ?_;refine za ?_;refine zc (th_n ?_);refine zy ?_;obtain rfl:=inj hF
    exact zD st (Res.t gA Res.nil) rfl rfl
   ·have hF:=zu hb71 hF;refine zg hb71 ?_;refine zg hb71 ?_;refine zg hb71 ?_;refine zg hb71 ?_;refine zA hb71 ?_;refine za ?_;refine zc (th_n ?_);refine zy ?_;obtain rfl:=inj hF
    exact zD st (Res.t gA Res.nil) rfl rfl
  ·obtain ⟨N9,T,ds39⟩:=a;obtain ⟨h72,n73⟩:=σ;obtain ⟨w38,rfl,rfl,e1,F39,e2,le39,st,t2⟩:=hq
   dsimp only at e1 e2
   subst e1
   subst e2
   dsimp only at st t2
   have hF:=yb hF;refine ib_r ?_;refine th_r ?_;obtain rfl:=inj hF
   exact zD st (Res.t gA Res.nil) rfl rfl
theorem ct33 (N:Nat) {a0_0 a0_1:Int} {r:(Int × Int)} (hF:sf33 N a0_0 a0_1 = some r) (hd:D h0 n0) (hs:F0.sub h0):C LW fl 33 [(.agg [(i64 a0_0),(i64 a0_1)])] ⟨h0,n0⟩ (KS (.agg [(i64 r.1),(i64 r.2)]) n0 h0):=by
 unfold sf33 at hF
 refine yd hd hs lw33 rfl rfl (by rfl) (fun st T hT=>?_)
 have hfl:n0 ≤ n0:=Nat.le_refl n0
 have t0:=hT 0 _ rfl
 dsimp only [L33]
 refine zd (zi ?_);refine ya st (fun b1 h2 n3 st=>?_);refine z6 st (fun b4 h5 n6 st=>?_);refine zc (th_n ?_);refine zd (zi ?_);refine v_fa ?_;refine zn (st.at (i:=0) rfl).2.2 rfl ?_;refine v_fa ?_;refine zn (st.at (i:=0) rfl).2.2 rfl ?_;refine v3 (cs:=[(i64 a0_0),(i64 a0_1)]) rfl ?_;refine v_st (cs':=[(i64 a0_0),(i64 a0_1)]) st 1 rfl rfl rfl rfl hfl (fun h7 st=>?_);refine zc (th_n ?_);refine zy ?_;obtain rfl:=inj hF
 exact zD st (Res.c gA (st.at (i:=1) rfl).2.2 (show takeN _ _ = some [(i64 a0_0),(i64 a0_1)] from rfl) Res.nil) rfl rfl
theorem ct123 (N:Nat) {a0_0 a0_1 a1 a2:Int} {r:Bool} (hF:sf123 N a0_0 a0_1 a1 a2 = some r) (hd:D h0 n0) (hs:F0.sub h0):C LW fl 123 [(.agg [(i64 a0_0),(i64 a0_1)]),(i64 a1),(i64 a2)] ⟨h0,n0⟩ (KS (.bool r) n0 h0):=by
 unfold sf123 at hF
 refine yd hd hs lw123 rfl rfl (by rfl) (fun st T hT=>?_)
 have hfl:n0 ≤ n0:=Nat.le_refl n0
 have t0:=hT 0 _ rfl
 have t1:=hT 1 _ rfl
 have t2:=hT 2 _ rfl
 dsimp only [L123]
 refine zd (zi ?_);refine ya st (fun b1 h2 n3 st=>?_);refine za ?_;refine zc (th_n ?_);refine zd (zi ?_);refine za ?_;refine v_fa ?_;refine zn (st.at (i:=0) rfl).2.2 rfl ?_;refine yY ?_;refine za ?_
 rcases Bool.eq_false_or_eq_true (decide (a1 ≤ a0_0)) with hb4 | hb4
 ·have hF:=zt hb4 hF;refine zj hb4 (v_fa ?_);refine zj hb4 (zn (st.at (i:=0) rfl).2.2 rfl ?_);refine zj hb4 (v_fa ?_);refine zj hb4 (zn (st.at (i:=0) rfl).2.2 rfl ?_);refine zj hb4 (yY ?_);refine zQ hb4 ?_;refine za ?_
  rcases Bool.eq_false_or_eq_true (decide (a0_0 ≤ a0_1)) with hb5 | hb5
  ·have hF:=zt hb5 hF;refine zj hb5 (v_fa ?_);refine zj hb5 (zn (st.at (i:=0) rfl).2.2 rfl ?_);refine zj hb5 (za ?_);refine zj hb5 (yY ?_);refine zQ hb5 ?_;refine za ?_;refine zc (th_n ?_);refine zy ?_;obtain rfl:=inj hF
   exact zD st (Res.t gA Res.nil) rfl rfl
  ·have hF:=zu hb5 hF;refine zg hb5 ?_;refine zg hb5 ?_;refine zg hb5 ?_;refine zg hb5 ?_;refine zA hb5 ?_;refine za ?_;refine zc (th_n ?_);refine zy ?_;obtain rfl:=inj hF
   exact zD st (Res.t gA Res.nil) rfl rfl
 ·have hF:=zu hb4 hF;refine zg hb4 ?_;refine zg hb4 ?_;refine zg hb4 ?_;refine zg hb4 ?_;refine zg hb4 ?_;refine zA hb4 ?_;refine za ?_;refine zg rfl ?_;refine zg rfl ?_;refine zg rfl ?_;refine zg rfl ?_;refine zA rfl ?_;refine za ?_;refine zc (th_n ?_);refine zy ?_;obtain rfl:=inj hF
  exact zD st (Res.t gA Res.nil) rfl rfl
theorem ct77 (N:Nat) {a0_0:(List (Int × Int))} {a0_1:Int} {a0_2:(List (Int × Int × (List (Int × Int))))} {a1:Int} {r:Bool} (hF:sf77 N a0_0 a0_1 a0_2 a1 = some r) (hd:D h0 n0) (hs:F0.sub h0) {pa0_0:Option (Nat × Nat)} {ca0_0:Nat} {pa0_2:Option (Nat × Nat)} {ca0_2:Nat} (ra0_0:RowF (rP rI rI) 2 F0 pa0_0 ca0_0 a0_0) (ra0_2:RowF (rP rI (rP rI (rL (rP rI rI) 2))) 3 F0 pa0_2 ca0_2 a0_2):C LW fl 77 [(.agg [(.slice pa0_0 (a0_0).length ca0_0),(i64 a0_1),(.slice pa0_2 (a0_2).length ca0_2)]),(i64 a1)] ⟨h0,n0⟩ (KS (.bool r) n0 h0):=by
 unfold sf77 at hF
 refine yd hd hs lw77 rfl rfl (by rfl) (fun st T hT=>?_)
 have hfl:n0 ≤ n0:=Nat.le_refl n0
 have t0:=hT 0 _ rfl
 have t1:=hT 1 _ rfl
 dsimp only [L77]
 refine zd (zi ?_);refine ya st (fun b1 h2 n3 st=>?_);refine za ?_;refine zc (th_n ?_);refine zd (zi ?_);refine za ?_;refine yY ?_;refine za ?_
 rcases Bool.eq_false_or_eq_true (decide ((0:Int) ≤ a1)) with hb4 | hb4
 ·have hF:=zt hb4 hF;refine zj hb4 (za ?_);refine zj hb4 (v_fa ?_);refine zj hb4 (zn (st.at (i:=0) rfl).2.2 rfl ?_);refine zj hb4 (zS ?_);refine zj hb4 (yk ?_);refine zQ hb4 ?_;refine za ?_;refine zc (th_n ?_);refine zy ?_;obtain rfl:=inj hF
  exact zD st (Res.t gA Res.nil) rfl rfl
 ·have hF:=zu hb4 hF;refine zg hb4 ?_;refine zg hb4 ?_;refine zg hb4 ?_;refine zg hb4 ?_;refine zg hb4 ?_;refine zA hb4 ?_;refine za ?_;refine zc (th_n ?_);refine zy ?_;obtain rfl:=inj hF
  exact zD st (Res.t gA Res.nil) rfl rfl
theorem ct126 (N:Nat) {a0_0 a0_1:Int} {a0_2:(List (Int × Int))} {r:Bool} (hF:sf126 N a0_0 a0_1 a0_2 = some r) (hd:D h0 n0) (hs:F0.sub h0) {pa0_2:Option (Nat × Nat)} {ca0_2:Nat} (ra0_2:RowF (rP rI rI) 2 F0 pa0_2 ca0_2 a0_2):C LW fl 126 [(.agg [(i64 a0_0),(i64 a0_1),(.slice pa0_2 (a0_2).length ca0_2)])] ⟨h0,n0⟩ (KS (.bool r) n0 h0):=by
 unfold sf126 at hF
 refine yd hd hs lw126 rfl rfl (by rfl) (fun st T hT=>?_)
 have hfl:n0 ≤ n0:=Nat.le_refl n0
 have t0:=hT 0 _ rfl
 dsimp only [L126]
 refine zd (zi ?_);refine ya st (fun b1 h2 n3 st=>?_);refine za ?_;refine zc (th_n ?_);refine zd ?_;refine zi ?_
 have w7:MR (.cell (.i .i64)) (fun x:Int=>HV.int .i64 x) (fun x:Bool=>HV.bool x) [] ((fun _=>none):(Int → Option Bool)):=MR.nil KD.int
 refine v_mm st (fun b4 h5 n6 st=>?_);refine za ?_;refine zc (th_n ?_);refine zd ?_;refine zd (zi ?_);refine v_fa ?_;refine zn (st.at (i:=0) rfl).2.2 rfl ?_;refine zS ?_;refine za ?_;refine zc (th_n ?_);refine zx ?_;obtain ⟨y21,hy,hF⟩:=zk hF;refine zU (sf126_L1 a0_2) (fun x8 T ds9 h nx=>∃ (F9:PH) (es10:List (HV × HV)),ds9 = [] ∧ PH.le F0 F9 ∧ St n0 h0 F0 F9 h nx [.bx b1 [(i64 a0_0),(i64 a0_1),(.slice pa0_2 (a0_2).length ca0_2)],.any b4 (.map es10)] ∧ MR (.cell (.i .i64)) (fun x:Int=>HV.int .i64 x) (fun x:Bool=>HV.bool x) es10 x8.2 ∧ T.get 3 = some (.map (some b4)) ∧ T.get 8 = some (.slice pa0_2 (a0_2).length ca0_2) ∧ T.get 9 = some (i64 ((a0_2).length:Int)) ∧ T.get 10 = some (i64 x8.1)) (fun y e a σ=>(∃ u,y = (.inl u) ∧ e = .ret ∧ a.nt = 22 ∧ ∃ (F23:PH) (es24:List (HV × HV)),a.defers = [] ∧ PH.le F0 F23 ∧ St n0 h0 F0 F23 σ.h σ.nx [.bx b1 [(i64 a0_0),(i64 a0_1),(.slice pa0_2 (a0_2).length ca0_2)],.any b4 (.map es24)] ∧ MR (.cell (.i .i64)) (fun x:Int=>HV.int .i64 x) (fun x:Bool=>HV.bool x) es24 u ∧ a.tmps.get 2 = some (.bool false)) ∨ (∃ u,y = (.inr u) ∧ e = .exit 0 ∧ a.nt = 22 ∧ ∃ (F26:PH) (es27:List (HV × HV)),a.defers = [] ∧ PH.le F0 F26 ∧ St n0 h0 F0 F26 σ.h σ.nx [.bx b1 [(i64 a0_0),(i64 a0_1),(.slice pa0_2 (a0_2).length ca0_2)],.any b4 (.map es27)] ∧ MR (.cell (.i .i64)) (fun x:Int=>HV.int .i64 x) (fun x:Bool=>HV.bool x) es27 u)) (fun x8 T ds9 h nx s hp hF=>?_) N _ y21 _ _ _ _ hy ⟨F0,[],rfl,(PH.le.refl _),st,w7,gA,gA,gA,gA⟩ (fun e a σ hne hq=>?_)
 ·obtain ⟨F9,es10,rfl,le9,st,w10,t3,t8,t9,t10⟩:=hp;unfold sf126_L1 at hF;unfold L126w0;refine zd (zi ?_);refine yk ?_;refine zc (th_n ?_);refine zd ?_;refine zB (fun hb28=>?_) (fun hb28=>?_)
  ·have hF:=zt hb28 hF;refine zC (th_n ?_);refine zd ?_;refine zx ?_;refine zd (zi ?_);obtain ⟨n29,x29,z29,l29,g29,hF⟩:=zE hF;obtain ⟨b29,o29,s29,j29,r29,e29,f29,k29,⟨_,_,rfl,rfl,rfl⟩⟩:=RowF.get ra0_2 g29;refine zV e29 z29 l29 ?_;refine zT (st.sub _ _ (le9 _ _ f29)) k29 ?_;refine z6 st (fun b30 h31 n32 st=>?_);refine v_st (cs':=[(i64 x29.1),(i64 x29.2)]) st 2 rfl rfl rfl rfl hfl (fun h33 st=>?_);refine zc (th_n ?_);refine zd ?_;refine zd (zi ?_);refine za ?_;refine v_fa ?_;refine zn (st.at (i:=2) rfl).2.2 rfl ?_;refine v_lk1 w10 (st.at (i:=1) rfl).2.2 x29.1 false (kv:=(i64 x29.1)) rfl rfl ?_
   refine zc (th_n ?_);refine zB (fun hb34=>?_) (fun hb34=>?_)
   ·have hF:=zt hb34 hF;refine zd (zi ?_);refine za ?_;refine zc (th_n ?_);refine zy ?_;refine th_r ?_;refine ib_r ?_;refine th_r ?_;refine th_r ?_;refine ⟨_,(inj hF).symm,.inl ⟨_,rfl,rfl,rfl,?_⟩⟩;dsimp only
    exact ⟨F9,es10,rfl,le9,(st.drop (by first | exact List.Sublist.refl _ | (repeat first | exact List.nil_sublist _ | refine List.Sublist.cons_cons _ ?_ | refine List.Sublist.cons _ ?_))),w10,gA⟩
   ·have hF:=zu hb34 hF;refine zC (th_n ?_);refine zi ?_;refine za ?_;refine v_fa ?_;refine zn (st.at (i:=2) rfl).2.2 rfl ?_;refine v_mu st 1 rfl w10 x29.1 true (kv:=(i64 x29.1)) (vv:=(.bool true)) rfl rfl hfl (fun es35 h36 w35 st=>?_);refine zc ?_;refine ib_n ?_;refine th_n ?_;refine zi ?_;obtain ⟨q37,hF⟩:=zH hF;refine yl q37 ?_;refine za ?_;refine zc ?_;refine thn ⟨_,(inj hF).symm,rfl,?_⟩;dsimp only
    exact ⟨F9,es35,rfl,le9,(st.drop (by first | exact List.Sublist.refl _ | (repeat first | exact List.nil_sublist _ | refine List.Sublist.cons_cons _ ?_ | refine List.Sublist.cons _ ?_))),w35,gA,gA,gA,gA⟩
  ·have hF:=zu hb28 hF;refine z7 ?_;refine th_e ?_;refine th_e ?_;refine ⟨_,(inj hF).symm,.inr (⟨_,rfl,rfl,rfl,?_⟩)⟩;dsimp only
   exact ⟨F9,es10,rfl,le9,st,w10⟩
 ·rcases hq with hq | hq
  ·obtain ⟨N9,T,ds23⟩:=a;obtain ⟨h38,n39⟩:=σ;obtain ⟨w22,rfl,rfl,e1,F23,es24,e2,le23,st,w24,t2⟩:=hq
   dsimp only at e1 e2
   subst e1
   subst e2
   dsimp only at st t2
   have hF:=yc hF;refine ib_r ?_;refine th_r ?_;obtain rfl:=inj hF
   exact zD st (Res.t gA Res.nil) rfl rfl
  ·obtain ⟨N9,T,ds26⟩:=a;obtain ⟨h40,n41⟩:=σ;obtain ⟨w25,rfl,rfl,e1,F26,es27,e2,le26,st,w27⟩:=hq
   dsimp only at e1 e2
   subst e1
   subst e2
   dsimp only at st
   have hF:=yb hF;refine ib_e ?_;refine th_n ?_;refine zd (zi ?_);refine za ?_;refine zc (th_n ?_);refine zy ?_;obtain rfl:=inj hF
   exact zD st (Res.t gA Res.nil) rfl rfl
theorem ct24 (N:Nat) {a0:(List Int)} {r:(List Int)} (hF:sf24 N a0 = some r) (hd:D h0 n0) (hs:F0.sub h0) (hfl:fl ≤ n0) {pa0:Option (Nat × Nat)} {ca0:Nat} (ra0:RowF rI 1 F0 pa0 ca0 a0):C LW fl 24 [(.slice pa0 (a0).length ca0)] ⟨h0,n0⟩ (KR (lvL rI 1) F0 h0 n0 r):=by
 unfold sf24 at hF
 refine in_mT hd hs hfl lw24 rfl rfl (by rfl) (fun st T hT=>?_)
 have t0:=hT 0 _ rfl
 dsimp only [L24]
 refine zd (zi ?_);refine za ?_;refine zc (th_n ?_);refine zd (zi ?_);refine v_bs (cs:=[]) st rfl (fun b1 h2 n3 st=>?_);refine za ?_
 have st:=St.asL st 0 rfl (n:=0) (sz:=1) rfl
 have w4:LR rI 1 F0 ([]:List Int) []:=LR.nil
 obtain ⟨q5,hF⟩:=zH hF
 refine v_apr (m:=(([]:List Int) ++ a0).length) st 0 rfl w4 ra0 q5 hfl (by decide) (by first | (simp;done) | (simp;omega)) (fun o5 c5 cs5 h5 n5 st w5=>?_)
 refine za ?_;refine zc (th_n ?_);refine zy ?_;obtain rfl:=inj hF
 obtain ⟨F6,le6,st,rf6⟩:=St.freeze st 0 rfl w5 (by decide)
 exact end_r st (Res.t gA Res.nil) ⟨_,_,rfl,rf6⟩
theorem ct102 (N:Nat) {a0_0 a0_1 a1:Int} {r:Bool} (hF:sf102 N a0_0 a0_1 a1 = some r) (hd:D h0 n0) (hs:F0.sub h0):C LW fl 102 [(.agg [(i64 a0_0),(i64 a0_1)]),(i64 a1)] ⟨h0,n0⟩ (KS (.bool r) n0 h0):=by
 unfold sf102 at hF
 refine yd hd hs lw102 rfl rfl (by rfl) (fun st T hT=>?_)
 have hfl:n0 ≤ n0:=Nat.le_refl n0
 have t0:=hT 0 _ rfl
 have t1:=hT 1 _ rfl
 dsimp only [L102]
 refine zd (zi ?_);refine ya st (fun b1 h2 n3 st=>?_);refine za ?_;refine zc (th_n ?_);refine zd (zi ?_);refine v_fa ?_;refine zn (st.at (i:=0) rfl).2.2 rfl ?_;refine za ?_;refine yY ?_;refine za ?_
 rcases Bool.eq_false_or_eq_true (decide (a0_0 ≤ a1)) with hb4 | hb4
 ·have hF:=zt hb4 hF;refine zj hb4 (za ?_);refine zj hb4 (v_fa ?_);refine zj hb4 (zn (st.at (i:=0) rfl).2.2 rfl ?_);refine zj hb4 (yY ?_);refine zQ hb4 ?_;refine za ?_;refine zc (th_n ?_);refine zy ?_;obtain rfl:=inj hF
  exact zD st (Res.t gA Res.nil) rfl rfl
 ·have hF:=zu hb4 hF;refine zg hb4 ?_;refine zg hb4 ?_;refine zg hb4 ?_;refine zg hb4 ?_;refine zA hb4 ?_;refine za ?_;refine zc (th_n ?_);refine zy ?_;obtain rfl:=inj hF
  exact zD st (Res.t gA Res.nil) rfl rfl
theorem ct72 (N:Nat) {a0:Int} {a1:(List Int)} {r:Int} (hF:sf72 N a0 a1 = some r) (hd:D h0 n0) (hs:F0.sub h0) {pa1:Option (Nat × Nat)} {ca1:Nat} (ra1:RowF rI 1 F0 pa1 ca1 a1):C LW fl 72 [(i64 a0),(.slice pa1 (a1).length ca1)] ⟨h0,n0⟩ (KS (i64 r) n0 h0):=by
 unfold sf72 at hF
 refine yd hd hs lw72 rfl rfl (by rfl) (fun st T hT=>?_)
 have hfl:n0 ≤ n0:=Nat.le_refl n0
 have t0:=hT 0 _ rfl
 have t1:=hT 1 _ rfl
 dsimp only [L72]
 refine zd (zi ?_);refine za ?_;refine zc (th_n ?_);refine zd ?_;refine zd (zi ?_);refine za ?_;refine zS ?_;refine za ?_;refine zc (th_n ?_);refine zx ?_;obtain ⟨y8,hy,hF⟩:=zk hF;refine zU (sf72_L1 a1) (fun x1 T ds2 h nx=>∃ (F2:PH),ds2 = [] ∧ PH.le F0 F2 ∧ St n0 h0 F0 F2 h nx [] ∧ T.get 0 = some (i64 x1.1) ∧ T.get 7 = some (.slice pa1 (a1).length ca1) ∧ T.get 8 = some (i64 ((a1).length:Int)) ∧ T.get 9 = some (i64 x1.2)) (fun y e a σ=>e = .exit 0 ∧ a.nt = 19 ∧ ∃ (F9:PH),a.defers = [] ∧ PH.le F0 F9 ∧ St n0 h0 F0 F9 σ.h σ.nx [] ∧ a.tmps.get 0 = some (i64 y)) (fun x1 T ds2 h nx s hp hF=>?_) N _ y8 _ _ _ _ hy ⟨F0,rfl,(PH.le.refl _),st,gA,gA,gA,gA⟩ (fun e a σ hne hq=>?_)
 ·obtain ⟨F2,rfl,le2,st,t0,t7,t8,t9⟩:=hp;unfold sf72_L1 at hF;unfold L72w0;refine zd (zi ?_);refine yk ?_;refine zc (th_n ?_);refine zd ?_;refine zB (fun hb10=>?_) (fun hb10=>?_)
  ·have hF:=zt hb10 hF;refine zC (th_n ?_);refine zd ?_;refine zx ?_;refine zd (zi ?_);obtain ⟨n11,x11,z11,l11,g11,hF⟩:=zE hF;obtain ⟨b11,o11,s11,j11,r11,e11,f11,k11,rfl⟩:=RowF.get ra1 g11;refine zV e11 z11 l11 ?_;refine zn (st.sub _ _ (le2 _ _ f11)) (zW (j:=0) k11 rfl) ?_;refine za ?_;refine zc (th_n ?_);refine zd (zi ?_);refine za ?_;refine za ?_;refine vL ?_;refine zc (th_n ?_);refine zB (fun hb12=>?_) (fun hb12=>?_)
   ·have hF:=zt hb12 hF;refine zi ?_;refine za ?_;refine za ?_;refine zc ?_;refine ib_n ?_;refine th_n ?_;refine zi ?_;obtain ⟨q13,hF⟩:=zH hF;refine yl q13 ?_;refine za ?_;refine zc ?_;refine thn ⟨_,(inj hF).symm,rfl,?_⟩;dsimp only
    exact ⟨F2,rfl,le2,st,gA,gA,gA,gA⟩
   ·have hF:=zu hb12 hF;refine zC ?_;refine ib_n ?_;refine th_n ?_;refine zi ?_;obtain ⟨q14,hF⟩:=zH hF;refine yl q14 ?_;refine za ?_;refine zc ?_;refine thn ⟨_,(inj hF).symm,rfl,?_⟩;dsimp only
    exact ⟨F2,rfl,le2,st,gA,gA,gA,gA⟩
  ·have hF:=zu hb10 hF;refine z7 ?_;refine th_e ?_;refine th_e ?_;refine ⟨_,(inj hF).symm,rfl,rfl,?_⟩;dsimp only
   exact ⟨F2,rfl,le2,st,gA⟩
 ·obtain ⟨N9,T,ds9⟩:=a;obtain ⟨h15,n16⟩:=σ;obtain ⟨rfl,e1,F9,e2,le9,st,t0⟩:=hq
  dsimp only at e1 e2
  subst e1
  subst e2
  dsimp only at st t0
  refine ib_e ?_;refine th_n ?_;refine zd (zi ?_);refine za ?_;refine za ?_;refine zc (th_n ?_);refine zy ?_;obtain rfl:=inj hF
  exact zD st (Res.t gA Res.nil) rfl rfl
theorem ct32 (N:Nat) {a0 a1 a2:Int} {r:Bool} (hF:sf32 N a0 a1 a2 = some r) (hd:D h0 n0) (hs:F0.sub h0):C LW fl 32 [(i64 a0),(i64 a1),(i64 a2)] ⟨h0,n0⟩ (KS (.bool r) n0 h0):=by
 unfold sf32 at hF
 refine yd hd hs lw32 rfl rfl (by rfl) (fun st T hT=>?_)
 have hfl:n0 ≤ n0:=Nat.le_refl n0
 have t0:=hT 0 _ rfl
 have t1:=hT 1 _ rfl
 have t2:=hT 2 _ rfl
 dsimp only [L32]
 refine zd (zi ?_);refine za ?_;refine zc (th_n ?_);refine zd (zi ?_);refine za ?_;refine za ?_;refine v_geq ?_;refine za ?_
 rcases Bool.eq_false_or_eq_true (decide (a1 ≤ a0)) with hb1 | hb1
 ·have hF:=zt hb1 hF;refine zj hb1 (za ?_);refine zj hb1 (za ?_);refine zj hb1 (yY ?_);refine zQ hb1 ?_;refine za ?_;refine zc (th_n ?_);refine zy ?_;obtain rfl:=inj hF
  exact zD st (Res.t gA Res.nil) rfl rfl
 ·have hF:=zu hb1 hF;refine zg hb1 ?_;refine zg hb1 ?_;refine zg hb1 ?_;refine zA hb1 ?_;refine za ?_;refine zc (th_n ?_);refine zy ?_;obtain rfl:=inj hF
  exact zD st (Res.t gA Res.nil) rfl rfl
end Go.Hx.V

namespace Go.Hx.V
open Go.Hx
set_option maxRecDepth 20000
set_option maxHeartbeats 4000000
variable {fl : Nat} {h0 : Tr HBlk} {n0 : Nat} {F0 : PH}
attribute [local irreducible] W R C thenH inBlockH Tr.get Tr.set lo ck bnd ix iter
end Go.Hx.V

namespace Go.Hx.V
open Go.Hx
set_option maxRecDepth 20000
set_option maxHeartbeats 4000000
variable {fl : Nat} {h0 : Tr HBlk} {n0 : Nat} {F0 : PH}
attribute [local irreducible] W R C thenH inBlockH Tr.get Tr.set lo ck bnd ix iter
end Go.Hx.V

namespace Go.Hx.V
open Go.Hx
set_option maxRecDepth 20000
set_option maxHeartbeats 4000000
variable {fl : Nat} {h0 : Tr HBlk} {n0 : Nat} {F0 : PH}
attribute [local irreducible] W R C thenH inBlockH Tr.get Tr.set lo ck bnd ix iter
end Go.Hx.V

namespace Go.Hx.V
open Go.Hx
set_option maxRecDepth 20000
set_option maxHeartbeats 4000000
variable {fl : Nat} {h0 : Tr HBlk} {n0 : Nat} {F0 : PH}
attribute [local irreducible] W R C thenH inBlockH Tr.get Tr.set lo ck bnd ix iter
theorem ct22 (N:Nat) {a0_0:(List (Int × Int))} {a0_1:Int} {a0_2:(List (Int × Int × (List (Int × Int))))} {r:((List (Int × Int)) × Int × (List (Int × Int × (List (Int × Int)))))} (hF:sf22 N a0_0 a0_1 a0_2 = some r) (hd:D h0 n0) (hs:F0.sub h0) (hfl:fl ≤ n0) {pa0_0:Option (Nat × Nat)} {ca0_0:Nat} {pa0_2:Option (Nat × Nat)} {ca0_2:Nat} (ra0_0:RowF (rP rI rI) 2 F0 pa0_0 ca0_0 a0_0) (ra0_2:RowF (rP rI (rP rI (rL (rP rI rI) 2))) 3 F0 pa0_2 ca0_2 a0_2):C LW fl 22 [(.agg [(.slice pa0_0 (a0_0).length ca0_0),(i64 a0_1),(.slice pa0_2 (a0_2).length ca0_2)])] ⟨h0,n0⟩ (KR (rvA (rP (rL (rP rI rI) 2) (rP rI (rL (rP rI (rP rI (rL (rP rI rI) 2))) 3)))) F0 h0 n0 r):=by
 unfold sf22 at hF
 refine in_mT hd hs hfl lw22 rfl rfl (by rfl) (fun st T hT=>?_)
 have t0:=hT 0 _ rfl
 dsimp only [L22]
 refine zd (zi ?_);refine ya st (fun b1 h2 n3 st=>?_);refine z6 st (fun b4 h5 n6 st=>?_);refine zc (th_n ?_);refine zd (zi ?_);refine v_fa ?_;refine zn (st.at (i:=0) rfl).2.2 rfl ?_;refine v3 (cs:=[(.slice none 0 0),(i64 a0_1),(.slice none 0 0)]) rfl ?_;refine z6 st (fun b7 h8 n9 st=>?_);refine v_st (cs':=[(.slice none 0 0),(i64 a0_1),(.slice none 0 0)]) st 2 rfl rfl rfl rfl hfl (fun h10 st=>?_);refine zc (th_n ?_);refine zd ?_;refine zd (zi ?_);refine za ?_;refine zc (th_n ?_);refine zx ?_
 have st:=st.nilL 2
 have w28:LR (rP rI rI) 2 F0 ([]:List (Int × Int)) []:=LR.nil
 obtain ⟨y42,hy,hF⟩:=zk hF;refine zU (sf22_L1 N a0_0) (fun x30 T ds31 h nx=>∃ (F31:PH) (o32:Option Nat) (c32:Nat) (cs32:List HV),ds31 = [] ∧ PH.le F0 F31 ∧ St n0 h0 F0 F31 h nx [.bx b1 [(.slice pa0_0 (a0_0).length ca0_0),(i64 a0_1),(.slice pa0_2 (a0_2).length ca0_2)],.bx b4 [(.slice none 0 0),(i64 0),(.slice none 0 0)],.bx b7 [(slv o32 (x30.2).length c32),(i64 a0_1),(.slice none 0 0)],.ls o32 c32 cs32 2] ∧ LR (rP rI rI) 2 F31 x30.2 cs32 ∧ T.get 1 = some (.ptr (some (b1,0))) ∧ T.get 2 = some (.ptr (some (b4,0))) ∧ T.get 3 = some (.ptr (some (b7,0))) ∧ T.get 4 = some (i64 x30.1)) (fun y e a σ=>e = .exit 0 ∧ a.nt = 82 ∧ ∃ (F43:PH) (o44:Option Nat) (c44:Nat) (cs44:List HV),a.defers = [] ∧ PH.le F0 F43 ∧ St n0 h0 F0 F43 σ.h σ.nx [.bx b1 [(.slice pa0_0 (a0_0).length ca0_0),(i64 a0_1),(.slice pa0_2 (a0_2).length ca0_2)],.bx b4 [(.slice none 0 0),(i64 0),(.slice none 0 0)],.bx b7 [(slv o44 (y).length c44),(i64 a0_1),(.slice none 0 0)],.ls o44 c44 cs44 2] ∧ LR (rP rI rI) 2 F43 y cs44 ∧ a.tmps.get 1 = some (.ptr (some (b1,0))) ∧ a.tmps.get 2 = some (.ptr (some (b4,0))) ∧ a.tmps.get 3 = some (.ptr (some (b7,0)))) (fun x30 T ds31 h nx s hp hF=>?_) N _ y42 _ _ _ _ hy ⟨F0,none,0,[],rfl,(PH.le.refl _),st,w28,gA,gA,gA,gA⟩ (fun e a σ hne hq=>?_)
 ·obtain ⟨F31,o32,c32,cs32,rfl,le31,st,w32,t1,t2,t3,t4⟩:=hp;unfold sf22_L1 at hF;unfold L22w2;refine zd ?_;refine zd (zi ?_);refine za ?_;refine v_fa ?_;refine zn (st.at (i:=0) rfl).2.2 rfl ?_;refine zS ?_;refine yk ?_;refine zc (th_n ?_);refine zB (fun hb45=>?_) (fun hb45=>?_)
  ·have hF:=zt hb45 hF;refine zC (th_n ?_);refine zd ?_;refine zx ?_;refine yX (Nat.le_trans hfl st.ext.le) (fun dw=>?_);refine yM st.d dw (fun hm vw=>v_fa yy) ?_;refine yM st.d dw (fun hm vw=>zn (vw.bx (st.at (i:=2) rfl)) rfl yy) ?_;refine yM st.d dw (fun hm vw=>v_fa yy) ?_;refine yM st.d dw (fun hm vw=>zn (vw.bx (st.at (i:=0) rfl)) rfl yy) ?_;refine yM st.d dw (fun hm vw=>za yy) ?_;obtain ⟨n46,x46,z46,l46,g46,hF⟩:=zE hF;obtain ⟨b46,o46,s46,j46,r46,e46,f46,k46,⟨_,_,rfl,rfl,rfl⟩⟩:=RowF.get ra0_0 g46;refine yM st.d dw (fun hm vw=>zV e46 z46 l46 yy) ?_
   refine yM st.d dw (fun hm vw=>zT (vw.fz st (le31 _ _ f46)) k46 yy) ?_;obtain ⟨v47,e48,hF⟩:=zk hF;refine y_flat st.d dw (fun hm vw=>u_call (ct33 N e48 vw.d (vw.sub st) ) (fun n' hn'=>pf_nil hn')) (fun n49 hn' dw=>?_);refine y_lay st.d dw (fun hm vw=>u_bs (cs:=[(i64 v47.1),(i64 v47.2)]) rfl yy) (fun done dw=>?_);refine uD st.d dw rfl (fun h50 ex vs=>?_)
   have st:=St.laid st ex (Lay.cons (b:=n49) (cs:=[(i64 v47.1),(i64 v47.2)]) (by have:=dw.le;omega) (vs _ (List.mem_cons_self ..) _ _ (if_pos rfl)) (Lay.nil (by have:=dw.le;omega)))
   obtain ⟨q51,hF⟩:=zH hF
   have w51:LR (rP rI rI) 2 F31 (x30.2 ++ [(v47.1,v47.2)]) (cs32 ++ [(i64 v47.1),(i64 v47.2)]):=LR.app w32 (LR.one (⟨[(i64 v47.1)],_,rfl,rfl,rfl⟩))
   refine v_aps (n:=1) (ox:=0) (m:=(x30.2 ++ [(v47.1,v47.2)]).length) (row:=[(i64 v47.1),(i64 v47.2)]) st 3 rfl w32.1 (st.at (i:=4) rfl).2.2 rfl rfl q51 hfl (by decide) (by decide) (by simp) (fun o51 c51 h51 n51 st=>?_)
   refine v_fa ?_;refine v_st (cs':=[(slv o51 ((x30.2 ++ [(v47.1,v47.2)])).length c51),(i64 a0_1),(.slice none 0 0)]) st 2 rfl rfl rfl rfl hfl (fun h52 st=>?_);refine zc ?_;refine ib_n ?_;refine th_n ?_;refine zi ?_;refine za ?_;obtain ⟨q53,hF⟩:=zH hF;refine yl q53 ?_;refine za ?_;refine zc ?_;refine thn ⟨_,(inj hF).symm,rfl,?_⟩;dsimp only
   exact ⟨F31,o51,c51,(cs32 ++ [(i64 v47.1),(i64 v47.2)]),rfl,le31,(st.drop (by first | exact List.Sublist.refl _ | (repeat first | exact List.nil_sublist _ | refine List.Sublist.cons_cons _ ?_ | refine List.Sublist.cons _ ?_))),w51,gA,gA,gA,gA⟩
  ·have hF:=zu hb45 hF;refine z7 ?_;refine th_e ?_;refine th_e ?_;refine ⟨_,(inj hF).symm,rfl,rfl,?_⟩;dsimp only
   exact ⟨F31,o32,c32,cs32,rfl,le31,st,w32,gA,gA,gA⟩
 ·obtain ⟨N9,T,ds43⟩:=a;obtain ⟨h54,n55⟩:=σ;obtain ⟨rfl,e1,F43,o44,c44,cs44,e2,le43,st,w44,t1,t2,t3⟩:=hq
  dsimp only at e1 e2
  subst e1
  subst e2
  dsimp only at st t1 t2 t3
  refine ib_e ?_;refine th_n ?_;refine zd ?_;refine zd (zi ?_);refine za ?_;refine zc (th_n ?_);refine zx ?_
  have st:=st.nilL 3
  have w152:LR (rP rI (rP rI (rL (rP rI rI) 2))) 3 F43 ([]:List (Int × Int × (List (Int × Int)))) []:=LR.nil
  obtain ⟨y247,hy,hF⟩:=zk hF;refine zU (sf22_L3 N a0_2) (fun x154 T ds155 h nx=>∃ (F155:PH) (o156:Option Nat) (c156:Nat) (cs156:List HV),ds155 = [] ∧ PH.le F43 F155 ∧ St n0 h0 F0 F155 h nx [.bx b1 [(.slice pa0_0 (a0_0).length ca0_0),(i64 a0_1),(.slice pa0_2 (a0_2).length ca0_2)],.bx b4 [(.slice none 0 0),(i64 0),(.slice none 0 0)],.bx b7 [(slv o44 (y42).length c44),(i64 a0_1),(slv o156 (x154.2).length c156)],.ls o44 c44 cs44 2,.ls o156 c156 cs156 3] ∧ LR (rP rI (rP rI (rL (rP rI rI) 2))) 3 F155 x154.2 cs156 ∧ T.get 1 = some (.ptr (some (b1,0))) ∧ T.get 2 = some (.ptr (some (b4,0))) ∧ T.get 3 = some (.ptr (some (b7,0))) ∧ T.get 5 = some (i64 x154.1)) (fun y e a σ=>e = .exit 2 ∧ a.nt = 82 ∧ ∃ (F248:PH) (o249:Option Nat) (c249:Nat) (cs249:List HV),a.defers = [] ∧ PH.le F43 F248 ∧ St n0 h0 F0 F248 σ.h σ.nx [.bx b1 [(.slice pa0_0 (a0_0).length ca0_0),(i64 a0_1),(.slice pa0_2 (a0_2).length ca0_2)],.bx b4 [(.slice none 0 0),(i64 0),(.slice none 0 0)],.bx b7 [(slv o44 (y42).length c44),(i64 a0_1),(slv o249 (y).length c249)],.ls o44 c44 cs44 2,.ls o249 c249 cs249 3] ∧ LR (rP rI (rP rI (rL (rP rI rI) 2))) 3 F248 y cs249 ∧ a.tmps.get 2 = some (.ptr (some (b4,0))) ∧ a.tmps.get 3 = some (.ptr (some (b7,0)))) (fun x154 T ds155 h nx s hp hF=>?_) N _ y247 _ _ _ _ hy ⟨F43,none,0,[],rfl,(PH.le.refl _),st,w152,gA,gA,gA,gA⟩ (fun e a σ hne hq=>?_)
  ·obtain ⟨F155,o156,c156,cs156,rfl,le155,st,w156,t1,t2,t3,t5⟩:=hp
   have le157:=PH.le.trans le43 le155
   unfold sf22_L3 at hF;unfold L22w1;refine zd ?_;refine zd (zi ?_);refine za ?_;refine v_fa ?_;refine zn (st.at (i:=0) rfl).2.2 rfl ?_;refine zS ?_;refine yk ?_;refine zc (th_n ?_);refine zB (fun hb250=>?_) (fun hb250=>?_)
   ·have hF:=zt hb250 hF;refine zC (th_n ?_);refine zd ?_;refine zx ?_;refine zd (zi ?_);refine v_fa ?_;refine zn (st.at (i:=0) rfl).2.2 rfl ?_;refine za ?_;obtain ⟨n251,x251,z251,l251,g251,hF⟩:=zE hF;obtain ⟨b251,o251,s251,j251,r251,e251,f251,k251,⟨_,_,rfl,rfl,⟨_,_,rfl,rfl,⟨py252,cy252,rfl,ry252⟩⟩⟩⟩:=RowF.get ra0_2 g251;refine zV e251 z251 l251 ?_;refine v_fa ?_
    refine zT (vs:=[(i64 x251.1),(i64 x251.2.1)]) (st.sub _ _ (le157 _ _ f251)) (j4 (j:=0) k251 (by decide) rfl) ?_
    obtain ⟨v253,e254,hF⟩:=zk hF;refine zL st (ct33 N e254 st.d st.sub ) (fun n255 st=>?_);refine v3 (cs:=[(i64 v253.1),(i64 v253.2),(.slice none 0 0)]) rfl ?_;refine z6 st (fun b256 h257 n258 st=>?_);refine v_st (cs':=[(i64 v253.1),(i64 v253.2),(.slice none 0 0)]) st 5 rfl rfl rfl rfl hfl (fun h259 st=>?_);refine zc (th_n ?_);refine zd ?_;refine zd (zi ?_);refine za ?_;refine zc (th_n ?_);refine zx ?_
    have st:=st.nilL 2
    have w283:LR (rP rI rI) 2 F155 ([]:List (Int × Int)) []:=LR.nil
    obtain ⟨y306,hy,hF⟩:=zk hF;refine zU (sf22_L2 a0_2 x154) (fun x285 T ds286 h nx=>∃ (F286:PH) (o287:Option Nat) (c287:Nat) (cs287:List HV),ds286 = [] ∧ PH.le F155 F286 ∧ St n0 h0 F0 F286 h nx [.bx b1 [(.slice pa0_0 (a0_0).length ca0_0),(i64 a0_1),(.slice pa0_2 (a0_2).length ca0_2)],.bx b4 [(.slice none 0 0),(i64 0),(.slice none 0 0)],.bx b7 [(slv o44 (y42).length c44),(i64 a0_1),(slv o156 (x154.2).length c156)],.ls o44 c44 cs44 2,.ls o156 c156 cs156 3,.bx b256 [(i64 v253.1),(i64 v253.2),(slv o287 (x285.2).length c287)],.ls o287 c287 cs287 2] ∧ LR (rP rI rI) 2 F286 x285.2 cs287 ∧ T.get 1 = some (.ptr (some (b1,0))) ∧ T.get 2 = some (.ptr (some (b4,0))) ∧ T.get 3 = some (.ptr (some (b7,0))) ∧ T.get 5 = some (i64 x154.1) ∧ T.get 6 = some (.ptr (some (b256,0))) ∧ T.get 7 = some (i64 x285.1)) (fun y e a σ=>e = .exit 4 ∧ a.nt = 82 ∧ ∃ (F307:PH) (o308:Option Nat) (c308:Nat) (cs308:List HV),a.defers = [] ∧ PH.le F155 F307 ∧ St n0 h0 F0 F307 σ.h σ.nx [.bx b1 [(.slice pa0_0 (a0_0).length ca0_0),(i64 a0_1),(.slice pa0_2 (a0_2).length ca0_2)],.bx b4 [(.slice none 0 0),(i64 0),(.slice none 0 0)],.bx b7 [(slv o44 (y42).length c44),(i64 a0_1),(slv o156 (x154.2).length c156)],.ls o44 c44 cs44 2,.ls o156 c156 cs156 3,.bx b256 [(i64 v253.1),(i64 v253.2),(slv o308 (y).length c308)],.ls o308 c308 cs308 2] ∧ LR (rP rI rI) 2 F307 y cs308 ∧ a.tmps.get 1 = some (.ptr (some (b1,0))) ∧ a.tmps.get 2 = some (.ptr (some (b4,0))) ∧ a.tmps.get 3 = some (.ptr (some (b7,0))) ∧ a.tmps.get 5 = some (i64 x154.1) ∧ a.tmps.get 6 = some (.ptr (some (b256,0)))) (fun x285 T ds286 h nx s hp hF=>?_) N _ y306 _ _ _ _ hy ⟨F155,none,0,[],rfl,(PH.le.refl _),st,w283,gA,gA,gA,gA,gA,gA⟩ (fun e a σ hne hq=>?_)
    ·obtain ⟨F286,o287,c287,cs287,rfl,le286,st,w287,t1,t2,t3,t5,t6,t7⟩:=hp
     have le288:=PH.le.trans le157 le286
     unfold sf22_L2 at hF;unfold L22w0;refine zd ?_;refine zd (zi ?_);refine za ?_;refine v_fa ?_;refine zn (st.at (i:=0) rfl).2.2 rfl ?_;refine za ?_;obtain ⟨n309,x309,z309,l309,g309,hF⟩:=zE hF;obtain ⟨b309,o309,s309,j309,r309,e309,f309,k309,⟨_,_,rfl,rfl,⟨_,_,rfl,rfl,⟨py310,cy310,rfl,ry310⟩⟩⟩⟩:=RowF.get ra0_2 g309;refine zV e309 z309 l309 ?_;refine v_fa ?_;refine zn (st.sub _ _ (le288 _ _ f309)) (zW (j:=2) k309 rfl) ?_;refine zS ?_;refine yk ?_;refine zc (th_n ?_);refine zB (fun hb311=>?_) (fun hb311=>?_)
     ·have hF:=zt hb311 hF;refine zC (th_n ?_);refine zd ?_;refine zx ?_;refine zd (zi ?_);refine v_fa ?_;refine zn (st.at (i:=0) rfl).2.2 rfl ?_;refine za ?_;obtain ⟨n312,x312,z312,l312,g312,hF⟩:=zE hF;obtain ⟨b312,o312,s312,j312,r312,e312,f312,k312,⟨_,_,rfl,rfl,⟨_,_,rfl,rfl,⟨py313,cy313,rfl,ry313⟩⟩⟩⟩:=RowF.get ra0_2 g312;refine zV e312 z312 l312 ?_;refine v_fa ?_;refine zn (st.sub _ _ (le288 _ _ f312)) (zW (j:=2) k312 rfl) ?_;refine za ?_;obtain ⟨n314,x314,z314,l314,g314,hF⟩:=zE hF;obtain ⟨b314,o314,s314,j314,r314,e314,f314,k314,⟨_,_,rfl,rfl,rfl⟩⟩:=RowF.get ry313 g314
      refine zV e314 z314 l314 ?_;refine zT (st.sub _ _ (le288 _ _ f314)) k314 ?_;refine z6 st (fun b315 h316 n317 st=>?_);refine v_st (cs':=[(i64 x314.1),(i64 x314.2)]) st 7 rfl rfl rfl rfl hfl (fun h318 st=>?_);refine zc (th_n ?_);refine zi ?_;refine v_fa ?_;refine zn (st.at (i:=5) rfl).2.2 rfl ?_;refine v_fa ?_;refine zn (st.at (i:=7) rfl).2.2 rfl ?_;refine v_fa ?_;refine zn (st.at (i:=7) rfl).2.2 rfl ?_;refine v3 (cs:=[(i64 x314.1),(i64 x314.2)]) rfl ?_;refine v_bs (cs:=[(i64 x314.1),(i64 x314.2)]) st rfl (fun b319 h320 n321 st=>?_);obtain ⟨q322,hF⟩:=zH hF
      have w322:LR (rP rI rI) 2 F286 (x285.2 ++ [(x314.1,x314.2)]) (cs287 ++ [(i64 x314.1),(i64 x314.2)]):=LR.app w287 (LR.one (⟨[(i64 x314.1)],_,rfl,rfl,rfl⟩))
      refine v_aps (n:=1) (ox:=0) (m:=(x285.2 ++ [(x314.1,x314.2)]).length) (row:=[(i64 x314.1),(i64 x314.2)]) st 6 rfl w287.1 (st.at (i:=8) rfl).2.2 rfl rfl q322 hfl (by decide) (by decide) (by simp) (fun o322 c322 h322 n322 st=>?_)
      refine v_fa ?_;refine v_st (cs':=[(i64 v253.1),(i64 v253.2),(slv o322 ((x285.2 ++ [(x314.1,x314.2)])).length c322)]) st 5 rfl rfl rfl rfl hfl (fun h323 st=>?_);refine zc ?_;refine ib_n ?_;refine th_n ?_;refine zi ?_;refine za ?_;obtain ⟨q324,hF⟩:=zH hF;refine yl q324 ?_;refine za ?_;refine zc ?_;refine thn ⟨_,(inj hF).symm,rfl,?_⟩;dsimp only
      exact ⟨F286,o322,c322,(cs287 ++ [(i64 x314.1),(i64 x314.2)]),rfl,le286,(st.drop (by first | exact List.Sublist.refl _ | (repeat first | exact List.nil_sublist _ | refine List.Sublist.cons_cons _ ?_ | refine List.Sublist.cons _ ?_))),w322,gA,gA,gA,gA,gA,gA⟩
     ·have hF:=zu hb311 hF;refine z7 ?_;refine th_e ?_;refine th_e ?_;refine ⟨_,(inj hF).symm,rfl,rfl,?_⟩;dsimp only
      exact ⟨F286,o287,c287,cs287,rfl,le286,st,w287,gA,gA,gA,gA,gA⟩
    ·obtain ⟨N9,T,ds307⟩:=a;obtain ⟨h327,n328⟩:=σ;obtain ⟨rfl,e1,F307,o308,c308,cs308,e2,le307,st,w308,t1,t2,t3,t5,t6⟩:=hq
     dsimp only at e1 e2
     subst e1
     subst e2
     dsimp only at st t1 t2 t3 t5 t6
     have le326:=PH.le.trans le155 le307
     refine ib_e ?_;refine th_n ?_;refine zi ?_;refine v_fa ?_;refine zn (st.at (i:=2) rfl).2.2 rfl ?_;refine zT (vs:=[(i64 v253.1),(i64 v253.2),(slv o308 (y306).length c308)]) (st.at (i:=5) rfl).2.2 rfl ?_;refine v_bs (cs:=[(i64 v253.1),(i64 v253.2),(slv o308 (y306).length c308)]) st rfl (fun b329 h330 n331 st=>?_)
     obtain ⟨F332,le332,st,rf332⟩:=St.freeze st 6 rfl w308 (by decide)
     have le334:=PH.le.trans le326 le332
     have le335:=PH.le.trans le307 le332
     obtain ⟨q336,hF⟩:=zH hF
     have w336:LR (rP rI (rP rI (rL (rP rI rI) 2))) 3 F332 (x154.2 ++ [(v253.1,v253.2,y306)]) (cs156 ++ [(i64 v253.1),(i64 v253.2),(.slice (o308.map fun b=>(b,0)) (y306).length c308)]):=LR.app (LR.mono le335 w156) (LR.one (⟨[(i64 v253.1)],_,rfl,rfl,⟨[(i64 v253.2)],_,rfl,rfl,⟨_,_,rfl,rf332⟩⟩⟩))
     refine v_aps (n:=1) (ox:=0) (m:=(x154.2 ++ [(v253.1,v253.2,y306)]).length) (row:=[(i64 v253.1),(i64 v253.2),(.slice (o308.map fun b=>(b,0)) (y306).length c308)]) st 4 rfl (LR.mono le335 w156).1 (st.at (i:=6) rfl).2.2 rfl rfl q336 hfl (by decide) (by decide) (by simp) (fun o336 c336 h336 n336 st=>?_)
     refine v_fa ?_;refine v_st (cs':=[(slv o44 (y42).length c44),(i64 a0_1),(slv o336 ((x154.2 ++ [(v253.1,v253.2,y306)])).length c336)]) st 2 rfl rfl rfl rfl hfl (fun h337 st=>?_);refine zc ?_;refine ib_n ?_;refine th_n ?_;refine zi ?_;refine za ?_;obtain ⟨q338,hF⟩:=zH hF;refine yl q338 ?_;refine za ?_;refine zc ?_;refine thn ⟨_,(inj hF).symm,rfl,?_⟩;dsimp only
     exact ⟨F332,o336,c336,(cs156 ++ [(i64 v253.1),(i64 v253.2),(.slice (o308.map fun b=>(b,0)) (y306).length c308)]),rfl,le334,(st.drop (by first | exact List.Sublist.refl _ | (repeat first | exact List.nil_sublist _ | refine List.Sublist.cons_cons _ ?_ | refine List.Sublist.cons _ ?_))),w336,gA,gA,gA,gA⟩
   ·have hF:=zu hb250 hF;refine z7 ?_;refine th_e ?_;refine th_e ?_;refine ⟨_,(inj hF).symm,rfl,rfl,?_⟩;dsimp only
    exact ⟨F155,o156,c156,cs156,rfl,le155,st,w156,gA,gA⟩
  ·obtain ⟨N9,T,ds248⟩:=a;obtain ⟨h340,n341⟩:=σ;obtain ⟨rfl,e1,F248,o249,c249,cs249,e2,le248,st,w249,t2,t3⟩:=hq
   dsimp only at e1 e2
   subst e1
   subst e2
   dsimp only at st t2 t3
   refine ib_e ?_;refine th_n ?_;refine zd (zi ?_);refine zT (vs:=[(slv o44 (y42).length c44),(i64 a0_1),(slv o249 (y247).length c249)]) (st.at (i:=2) rfl).2.2 rfl ?_;refine v_st (cs':=[(slv o44 (y42).length c44),(i64 a0_1),(slv o249 (y247).length c249)]) st 1 rfl rfl rfl rfl hfl (fun h342 st=>?_);refine zc (th_n ?_);refine zy ?_;obtain rfl:=inj hF
   obtain ⟨F343,le343,st,rf343⟩:=St.freeze st 3 rfl (LR.mono le248 w44) (by decide)
   obtain ⟨F346,le346,st,rf346⟩:=St.freeze st 3 rfl (LR.mono le343 w249) (by decide)
   exact end_r st (Res.c gA (st.at (i:=1) rfl).2.2 (show takeN _ _ = some [(.slice (o44.map fun b=>(b,0)) (y42).length c44),(i64 a0_1),(.slice (o249.map fun b=>(b,0)) (y247).length c249)] from rfl) Res.nil) ⟨_,rfl,⟨[(.slice (o44.map fun b=>(b,0)) (y42).length c44)],_,rfl,⟨_,_,rfl,(RowF.mono le346 rf343)⟩,⟨[(i64 a0_1)],_,rfl,rfl,⟨_,_,rfl,rf346⟩⟩⟩⟩
theorem ct99 (N:Nat) {a0_0 a0_1:Int} {r:Bool} (hF:sf99 N a0_0 a0_1 = some r) (hd:D h0 n0) (hs:F0.sub h0):C LW fl 99 [(.agg [(i64 a0_0),(i64 a0_1)])] ⟨h0,n0⟩ (KS (.bool r) n0 h0):=by
 unfold sf99 at hF
 refine yd hd hs lw99 rfl rfl (by rfl) (fun st T hT=>?_)
 have hfl:n0 ≤ n0:=Nat.le_refl n0
 have t0:=hT 0 _ rfl
 dsimp only [L99]
 refine zd (zi ?_);refine ya st (fun b1 h2 n3 st=>?_);refine za ?_;refine zc (th_n ?_);refine zd (zi ?_);refine zT (vs:=[(i64 a0_0),(i64 a0_1)]) (st.at (i:=0) rfl).2.2 rfl ?_;obtain ⟨v4,e5,hF⟩:=zk hF;refine zL st (ct123 N e5 st.d st.sub ) (fun n6 st=>?_);refine za ?_;refine zc (th_n ?_);refine zy ?_;obtain rfl:=inj hF
 exact zD st (Res.t gA Res.nil) rfl rfl
theorem ct113 (N:Nat) {a0_0 a0_1:Int} {r:Bool} (hF:sf113 N a0_0 a0_1 = some r) (hd:D h0 n0) (hs:F0.sub h0):C LW fl 113 [(.agg [(i64 a0_0),(i64 a0_1)])] ⟨h0,n0⟩ (KS (.bool r) n0 h0):=by
 unfold sf113 at hF
 refine yd hd hs lw113 rfl rfl (by rfl) (fun st T hT=>?_)
 have hfl:n0 ≤ n0:=Nat.le_refl n0
 have t0:=hT 0 _ rfl
 dsimp only [L113]
 refine zd (zi ?_);refine ya st (fun b1 h2 n3 st=>?_);refine za ?_;refine zc (th_n ?_);refine zd (zi ?_);refine zT (vs:=[(i64 a0_0),(i64 a0_1)]) (st.at (i:=0) rfl).2.2 rfl ?_;obtain ⟨v4,e5,hF⟩:=zk hF;refine zL st (ct123 N e5 st.d st.sub ) (fun n6 st=>?_);refine za ?_;refine zc (th_n ?_);refine zy ?_;obtain rfl:=inj hF
 exact zD st (Res.t gA Res.nil) rfl rfl
theorem ct125 (N:Nat) {a0_0:(List (Int × Int))} {a0_1:Int} {a0_2:(List (Int × Int × (List (Int × Int))))} {a1_0 a1_1:Int} {r:Bool} (hF:sf125 N a0_0 a0_1 a0_2 a1_0 a1_1 = some r) (hd:D h0 n0) (hs:F0.sub h0) {pa0_0:Option (Nat × Nat)} {ca0_0:Nat} {pa0_2:Option (Nat × Nat)} {ca0_2:Nat} (ra0_0:RowF (rP rI rI) 2 F0 pa0_0 ca0_0 a0_0) (ra0_2:RowF (rP rI (rP rI (rL (rP rI rI) 2))) 3 F0 pa0_2 ca0_2 a0_2):C LW fl 125 [(.agg [(.slice pa0_0 (a0_0).length ca0_0),(i64 a0_1),(.slice pa0_2 (a0_2).length ca0_2)]),(.agg [(i64 a1_0),(i64 a1_1)])] ⟨h0,n0⟩ (KS (.bool r) n0 h0):=by
 unfold sf125 at hF
 refine yd hd hs lw125 rfl rfl (by rfl) (fun st T hT=>?_)
 have hfl:n0 ≤ n0:=Nat.le_refl n0
 have t0:=hT 0 _ rfl
 have t1:=hT 1 _ rfl
 dsimp only [L125]
 refine zd (zi ?_);refine ya st (fun b1 h2 n3 st=>?_);refine ya st (fun b4 h5 n6 st=>?_);refine za ?_;refine zc (th_n ?_);refine zd (zi ?_);refine zT (vs:=[(.slice pa0_0 (a0_0).length ca0_0),(i64 a0_1),(.slice pa0_2 (a0_2).length ca0_2)]) (st.at (i:=0) rfl).2.2 rfl ?_;refine v_fa ?_;refine zn (st.at (i:=1) rfl).2.2 rfl ?_;obtain ⟨v7,e8,hF⟩:=zk hF;refine zL st (ct77 N e8 st.d st.sub ra0_0 ra0_2) (fun n9 st=>?_);refine za ?_
 rcases Bool.eq_false_or_eq_true v7 with hb10 | hb10
 ·have hF:=zt hb10 hF;refine zj hb10 (v_fa ?_);refine zj hb10 (zn (st.at (i:=1) rfl).2.2 rfl ?_);refine zj hb10 (yY ?_);refine zQ hb10 ?_;refine za ?_
  rcases Bool.eq_false_or_eq_true (decide ((-1000:Int) ≤ a1_1)) with hb11 | hb11
  ·have hF:=zt hb11 hF;refine zj hb11 (v_fa ?_);refine zj hb11 (zn (st.at (i:=1) rfl).2.2 rfl ?_);refine zj hb11 (yY ?_);refine zQ hb11 ?_;refine za ?_;refine zc (th_n ?_);refine zy ?_;obtain rfl:=inj hF
   exact zD st (Res.t gA Res.nil) rfl rfl
  ·have hF:=zu hb11 hF;refine zg hb11 ?_;refine zg hb11 ?_;refine zg hb11 ?_;refine zA hb11 ?_;refine za ?_;refine zc (th_n ?_);refine zy ?_;obtain rfl:=inj hF
   exact zD st (Res.t gA Res.nil) rfl rfl
 ·have hF:=zu hb10 hF;refine zg hb10 ?_;refine zg hb10 ?_;refine zg hb10 ?_;refine zA hb10 ?_;refine za ?_;refine zg rfl ?_;refine zg rfl ?_;refine zg rfl ?_;refine zA rfl ?_;refine za ?_;refine zc (th_n ?_);refine zy ?_;obtain rfl:=inj hF
  exact zD st (Res.t gA Res.nil) rfl rfl
end Go.Hx.V

namespace Go.Hx.V
open Go.Hx
set_option maxRecDepth 20000
set_option maxHeartbeats 4000000
variable {fl : Nat} {h0 : Tr HBlk} {n0 : Nat} {F0 : PH}
attribute [local irreducible] W R C thenH inBlockH Tr.get Tr.set lo ck bnd ix iter
theorem ct70 (N:Nat) {a0_0:(List (Int × Int))} {a0_1:Int} {a0_2:(List (Int × Int × (List (Int × Int))))} {a1:(List Int)} {a2:(List Int)} {r:Bool} (hF:sf70 N a0_0 a0_1 a0_2 a1 a2 = some r) (hd:D h0 n0) (hs:F0.sub h0) {pa0_0:Option (Nat × Nat)} {ca0_0:Nat} {pa0_2:Option (Nat × Nat)} {ca0_2:Nat} {pa1:Option (Nat × Nat)} {ca1:Nat} {pa2:Option (Nat × Nat)} {ca2:Nat} (ra0_0:RowF (rP rI rI) 2 F0 pa0_0 ca0_0 a0_0) (ra0_2:RowF (rP rI (rP rI (rL (rP rI rI) 2))) 3 F0 pa0_2 ca0_2 a0_2) (ra1:RowF rI 1 F0 pa1 ca1 a1) (ra2:RowF rI 1 F0 pa2 ca2 a2):C LW fl 70 [(.agg [(.slice pa0_0 (a0_0).length ca0_0),(i64 a0_1),(.slice pa0_2 (a0_2).length ca0_2)]),(.slice pa1 (a1).length ca1),(.slice pa2 (a2).length ca2)] ⟨h0,n0⟩ (KS (.bool r) n0 h0):=by
 unfold sf70 at hF
 refine yd hd hs lw70 rfl rfl (by rfl) (fun st T hT=>?_)
 have hfl:n0 ≤ n0:=Nat.le_refl n0
 have t0:=hT 0 _ rfl
 have t1:=hT 1 _ rfl
 have t2:=hT 2 _ rfl
 dsimp only [L70]
 refine zd (zi ?_);refine ya st (fun b1 h2 n3 st=>?_);refine za ?_;refine zc (th_n ?_);obtain ⟨y11,hA12,hF⟩:=zk hF;refine ye (fun T ds17 h nx=>∃ u,y11 = (.inr u) ∧ ∃ (F17:PH),ds17 = [] ∧ PH.le F0 F17 ∧ St n0 h0 F0 F17 h nx [.bx b1 [(.slice pa0_0 (a0_0).length ca0_0),(i64 a0_1),(.slice pa0_2 (a0_2).length ca0_2)]] ∧ T.get 1 = some (.slice pa1 (a1).length ca1) ∧ T.get 2 = some (.slice pa2 (a2).length ca2) ∧ T.get 3 = some (.ptr (some (b1,0)))) ?_ (fun T ds17 h nx hp=>?_)
 ·have hK13:=hF
  have hF:=hA12;obtain ⟨y19,hA20,hF⟩:=zk hF;refine ye (fun T ds22 h nx=>∃ (F22:PH),ds22 = [] ∧ PH.le F0 F22 ∧ St n0 h0 F0 F22 h nx [.bx b1 [(.slice pa0_0 (a0_0).length ca0_0),(i64 a0_1),(.slice pa0_2 (a0_2).length ca0_2)]] ∧ T.get 1 = some (.slice pa1 (a1).length ca1) ∧ T.get 2 = some (.slice pa2 (a2).length ca2) ∧ T.get 3 = some (.ptr (some (b1,0))) ∧ T.get 24 = some (.bool y19)) ?_ (fun T ds22 h nx hp=>?_)
  ·have hK21:=hF
   have hF:=hA20;refine zi ?_;refine za ?_;refine zS ?_;refine v_fa ?_;refine zn (st.at (i:=0) rfl).2.2 rfl ?_;refine zS ?_;refine j3 ?_;refine za ?_
   rcases Bool.eq_false_or_eq_true (!(decide (((a1).length:Int) = ((a0_0).length:Int)))) with hb23 | hb23
   ·have hF:=zt hb23 hF;refine zg hb23 ?_;refine zg hb23 ?_;refine zg hb23 ?_;refine zg hb23 ?_;refine zg hb23 ?_;refine zg hb23 ?_;refine zQ hb23 ?_;refine zc ?_;obtain rfl:=inj hF;refine thn ⟨rfl,?_⟩;dsimp only
    exact ⟨F0,rfl,(PH.le.refl _),st,gA,gA,gA,gA⟩
   ·have hF:=zu hb23 hF;refine zj hb23 (za ?_);refine zj hb23 (zS ?_);refine zj hb23 (v_fa ?_);refine zj hb23 (zn (st.at (i:=0) rfl).2.2 rfl ?_);refine zj hb23 (zS ?_);refine zj hb23 (j3 ?_);refine zA hb23 ?_;refine zc ?_;obtain rfl:=inj hF;refine thn ⟨rfl,?_⟩;dsimp only
    exact ⟨F0,rfl,(PH.le.refl _),st,gA,gA,gA,gA⟩
  ·obtain ⟨F22,rfl,le22,st,t1,t2,t3,t24⟩:=hp;refine zB (fun hb24=>?_) (fun hb24=>?_)
   ·have hF:=zt hb24 hF;refine zd (zi ?_);refine za ?_;refine zc (th_n ?_);refine zy ?_;obtain rfl:=inj hF;have hF:=hK13;have hF:=yc hF;refine th_r ?_;obtain rfl:=inj hF
    exact zD st (Res.t gA Res.nil) rfl rfl
   ·have hF:=zu hb24 hF;refine zC ?_;obtain rfl:=inj hF;refine thn ⟨rfl,_,rfl,?_⟩;dsimp only
    exact ⟨F22,rfl,le22,st,gA,gA,gA⟩
 ·obtain ⟨w16,rfl,F17,rfl,le17,st,t1,t2,t3⟩:=hp;have hF:=yb hF;refine zd ?_;refine zd (zi ?_);refine za ?_;refine zS ?_;refine za ?_;refine zc (th_n ?_);refine zx ?_;obtain ⟨y36,hy,hF⟩:=zk hF;refine zU (sf70_L1 N a0_0 a1) (fun x25 T ds26 h nx=>∃ (F26:PH),ds26 = [] ∧ PH.le F17 F26 ∧ St n0 h0 F0 F26 h nx [.bx b1 [(.slice pa0_0 (a0_0).length ca0_0),(i64 a0_1),(.slice pa0_2 (a0_2).length ca0_2)]] ∧ T.get 2 = some (.slice pa2 (a2).length ca2) ∧ T.get 3 = some (.ptr (some (b1,0))) ∧ T.get 25 = some (.slice pa1 (a1).length ca1) ∧ T.get 26 = some (i64 ((a1).length:Int)) ∧ T.get 27 = some (i64 x25)) (fun y e a σ=>(∃ u,y = (.inl u) ∧ e = .ret ∧ a.nt = 58 ∧ ∃ (F38:PH),a.defers = [] ∧ PH.le F17 F38 ∧ St n0 h0 F0 F38 σ.h σ.nx [.bx b1 [(.slice pa0_0 (a0_0).length ca0_0),(i64 a0_1),(.slice pa0_2 (a0_2).length ca0_2)]] ∧ a.tmps.get 6 = some (.bool false)) ∨ (∃ u,y = (.inr u) ∧ e = .exit 0 ∧ a.nt = 58 ∧ ∃ (F40:PH),a.defers = [] ∧ PH.le F17 F40 ∧ St n0 h0 F0 F40 σ.h σ.nx [.bx b1 [(.slice pa0_0 (a0_0).length ca0_0),(i64 a0_1),(.slice pa0_2 (a0_2).length ca0_2)]] ∧ a.tmps.get 2 = some (.slice pa2 (a2).length ca2) ∧ a.tmps.get 3 = some (.ptr (some (b1,0))))) (fun x25 T ds26 h nx s hp hF=>?_) N _ y36 _ _ _ _ hy ⟨F17,rfl,(PH.le.refl _),st,gA,gA,gA,gA,gA⟩ (fun e a σ hne hq=>?_)
  ·obtain ⟨F26,rfl,le26,st,t2,t3,t25,t26,t27⟩:=hp
   have le27:=PH.le.trans le17 le26
   unfold sf70_L1 at hF;unfold L70w1;refine zd (zi ?_);refine yk ?_;refine zc (th_n ?_);refine zd ?_;refine zB (fun hb41=>?_) (fun hb41=>?_)
   ·have hF:=zt hb41 hF;refine zC (th_n ?_);refine zd ?_;refine zx ?_;refine zd (zi ?_);refine za ?_;obtain ⟨n42,x42,z42,l42,g42,hF⟩:=zE hF;obtain ⟨b42,o42,s42,j42,r42,e42,f42,k42,rfl⟩:=RowF.get ra1 g42;refine zV e42 z42 l42 ?_;refine zn (st.sub _ _ (le27 _ _ f42)) (zW (j:=0) k42 rfl) ?_;refine za ?_;refine za ?_;refine zc (th_n ?_);refine zd (zi ?_);refine v_fa ?_;refine zn (st.at (i:=0) rfl).2.2 rfl ?_;refine za ?_;obtain ⟨n43,x43,z43,l43,g43,hF⟩:=zE hF;obtain ⟨b43,o43,s43,j43,r43,e43,f43,k43,⟨_,_,rfl,rfl,rfl⟩⟩:=RowF.get ra0_0 g43
    refine zV e43 z43 l43 ?_;refine zT (st.sub _ _ (le27 _ _ f43)) k43 ?_;refine za ?_;obtain ⟨v44,e45,hF⟩:=zk hF;refine zL st (ct102 N e45 st.d st.sub ) (fun n46 st=>?_);refine yD ?_;refine zc (th_n ?_);refine zB (fun hb47=>?_) (fun hb47=>?_)
    ·have hF:=zt hb47 hF;refine zd (zi ?_);refine za ?_;refine zc (th_n ?_);refine zy ?_;refine ib_r ?_;refine th_r ?_;refine th_r ?_;refine ⟨_,(inj hF).symm,.inl ⟨_,rfl,rfl,rfl,?_⟩⟩;dsimp only
     exact ⟨F26,rfl,le26,st,gA⟩
    ·have hF:=zu hb47 hF;refine zC ?_;refine ib_n ?_;refine th_n ?_;refine zi ?_;obtain ⟨q48,hF⟩:=zH hF;refine yl q48 ?_;refine za ?_;refine zc ?_;refine thn ⟨_,(inj hF).symm,rfl,?_⟩;dsimp only
     exact ⟨F26,rfl,le26,st,gA,gA,gA,gA,gA⟩
   ·have hF:=zu hb41 hF;refine z7 ?_;refine th_e ?_;refine th_e ?_;refine ⟨_,(inj hF).symm,.inr (⟨_,rfl,rfl,rfl,?_⟩)⟩;dsimp only
    exact ⟨F26,rfl,le26,st,gA,gA⟩
  ·rcases hq with hq | hq
   ·obtain ⟨N9,T,ds38⟩:=a;obtain ⟨h50,n51⟩:=σ;obtain ⟨w37,rfl,rfl,e1,F38,e2,le38,st,t6⟩:=hq
    dsimp only at e1 e2
    subst e1
    subst e2
    dsimp only at st t6
    have hF:=yc hF;refine ib_r ?_;refine th_r ?_;obtain rfl:=inj hF
    exact zD st (Res.t gA Res.nil) rfl rfl
   ·obtain ⟨N9,T,ds40⟩:=a;obtain ⟨h53,n54⟩:=σ;obtain ⟨w39,rfl,rfl,e1,F40,e2,le40,st,t2,t3⟩:=hq
    dsimp only at e1 e2
    subst e1
    subst e2
    dsimp only at st t2 t3
    have le52:=PH.le.trans le17 le40
    have hF:=yb hF;refine ib_e ?_;refine th_n ?_;refine zd ?_;refine zd (zi ?_);refine za ?_;refine zS ?_;refine za ?_;refine zc (th_n ?_);refine zx ?_;obtain ⟨y68,hy,hF⟩:=zk hF;refine zU (sf70_L2 N a0_2 a2) (fun x55 T ds56 h nx=>∃ (F56:PH),ds56 = [] ∧ PH.le F40 F56 ∧ St n0 h0 F0 F56 h nx [.bx b1 [(.slice pa0_0 (a0_0).length ca0_0),(i64 a0_1),(.slice pa0_2 (a0_2).length ca0_2)]] ∧ T.get 3 = some (.ptr (some (b1,0))) ∧ T.get 41 = some (.slice pa2 (a2).length ca2) ∧ T.get 42 = some (i64 ((a2).length:Int)) ∧ T.get 43 = some (i64 x55)) (fun y e a σ=>(∃ u,y = (.inl u) ∧ e = .ret ∧ a.nt = 58 ∧ ∃ (F70:PH),a.defers = [] ∧ PH.le F40 F70 ∧ St n0 h0 F0 F70 σ.h σ.nx [.bx b1 [(.slice pa0_0 (a0_0).length ca0_0),(i64 a0_1),(.slice pa0_2 (a0_2).length ca0_2)]] ∧ a.tmps.get 6 = some (.bool false)) ∨ (∃ u,y = (.inr u) ∧ e = .exit 2 ∧ a.nt = 58 ∧ ∃ (F72:PH),a.defers = [] ∧ PH.le F40 F72 ∧ St n0 h0 F0 F72 σ.h σ.nx [.bx b1 [(.slice pa0_0 (a0_0).length ca0_0),(i64 a0_1),(.slice pa0_2 (a0_2).length ca0_2)]])) (fun x55 T ds56 h nx s hp hF=>?_) N _ y68 _ _ _ _ hy ⟨F40,rfl,(PH.le.refl _),st,gA,gA,gA,gA⟩ (fun e a σ hne hq=>?_)
    ·obtain ⟨F56,rfl,le56,st,t3,t41,t42,t43⟩:=hp
     have le57:=PH.le.trans le52 le56
     unfold sf70_L2 at hF;unfold L70w0;refine zd (zi ?_);refine yk ?_;refine zc (th_n ?_);refine zd ?_;refine zB (fun hb73=>?_) (fun hb73=>?_)
     ·have hF:=zt hb73 hF;refine zC (th_n ?_);refine zd ?_;refine zx ?_;refine zd (zi ?_);refine za ?_;obtain ⟨n74,x74,z74,l74,g74,hF⟩:=zE hF;obtain ⟨b74,o74,s74,j74,r74,e74,f74,k74,rfl⟩:=RowF.get ra2 g74;refine zV e74 z74 l74 ?_;refine zn (st.sub _ _ (le57 _ _ f74)) (zW (j:=0) k74 rfl) ?_;refine za ?_;refine za ?_;refine zc (th_n ?_);refine zd (zi ?_);refine v_fa ?_;refine zn (st.at (i:=0) rfl).2.2 rfl ?_;refine za ?_;obtain ⟨n75,x75,z75,l75,g75,hF⟩:=zE hF;obtain ⟨b75,o75,s75,j75,r75,e75,f75,k75,⟨_,_,rfl,rfl,⟨_,_,rfl,rfl,⟨py76,cy76,rfl,ry76⟩⟩⟩⟩:=RowF.get ra0_2 g75
      refine zV e75 z75 l75 ?_;refine v_fa ?_
      refine zT (vs:=[(i64 x75.1),(i64 x75.2.1)]) (st.sub _ _ (le57 _ _ f75)) (j4 (j:=0) k75 (by decide) rfl) ?_
      refine za ?_;obtain ⟨v77,e78,hF⟩:=zk hF;refine zL st (ct102 N e78 st.d st.sub ) (fun n79 st=>?_);refine yD ?_;refine zc (th_n ?_);refine zB (fun hb80=>?_) (fun hb80=>?_)
      ·have hF:=zt hb80 hF;refine zd (zi ?_);refine za ?_;refine zc (th_n ?_);refine zy ?_;refine ib_r ?_;refine th_r ?_;refine th_r ?_;refine ⟨_,(inj hF).symm,.inl ⟨_,rfl,rfl,rfl,?_⟩⟩;dsimp only
       exact ⟨F56,rfl,le56,st,gA⟩
      ·have hF:=zu hb80 hF;refine zC ?_;refine ib_n ?_;refine th_n ?_;refine zi ?_;obtain ⟨q81,hF⟩:=zH hF;refine yl q81 ?_;refine za ?_;refine zc ?_;refine thn ⟨_,(inj hF).symm,rfl,?_⟩;dsimp only
       exact ⟨F56,rfl,le56,st,gA,gA,gA,gA⟩
     ·have hF:=zu hb73 hF;refine z7 ?_;refine th_e ?_;refine th_e ?_;refine ⟨_,(inj hF).symm,.inr (⟨_,rfl,rfl,rfl,?_⟩)⟩;dsimp only
      exact ⟨F56,rfl,le56,st⟩
    ·rcases hq with hq | hq
     ·obtain ⟨N9,T,ds70⟩:=a;obtain ⟨h84,n85⟩:=σ;obtain ⟨w69,rfl,rfl,e1,F70,e2,le70,st,t6⟩:=hq
      dsimp only at e1 e2
      subst e1
      subst e2
      dsimp only at st t6
      have hF:=yc hF;refine ib_r ?_;refine th_r ?_;obtain rfl:=inj hF
      exact zD st (Res.t gA Res.nil) rfl rfl
     ·obtain ⟨N9,T,ds72⟩:=a;obtain ⟨h88,n89⟩:=σ;obtain ⟨w71,rfl,rfl,e1,F72,e2,le72,st⟩:=hq
      dsimp only at e1 e2
      subst e1
      subst e2
      dsimp only at st
      have hF:=yb hF;refine ib_e ?_;refine th_n ?_;refine zd (zi ?_);refine za ?_;refine zc (th_n ?_);refine zy ?_;obtain rfl:=inj hF
      exact zD st (Res.t gA Res.nil) rfl rfl
theorem ct90 (N:Nat) {a0_0 a0_1 a1 a2:Int} {r:Bool} (hF:sf90 N a0_0 a0_1 a1 a2 = some r) (hd:D h0 n0) (hs:F0.sub h0):C LW fl 90 [(.agg [(i64 a0_0),(i64 a0_1)]),(i64 a1),(i64 a2)] ⟨h0,n0⟩ (KS (.bool r) n0 h0):=by
 unfold sf90 at hF
 refine yd hd hs lw90 rfl rfl (by rfl) (fun st T hT=>?_)
 have hfl:n0 ≤ n0:=Nat.le_refl n0
 have t0:=hT 0 _ rfl
 have t1:=hT 1 _ rfl
 have t2:=hT 2 _ rfl
 dsimp only [L90]
 refine zd (zi ?_);refine ya st (fun b1 h2 n3 st=>?_);refine za ?_;refine zc (th_n ?_);refine zd (zi ?_);refine v_fa ?_;refine zn (st.at (i:=0) rfl).2.2 rfl ?_;refine za ?_;refine v_fa ?_;refine zn (st.at (i:=0) rfl).2.2 rfl ?_;obtain ⟨v4,e5,hF⟩:=zk hF;refine zL st (ct32 N e5 st.d st.sub ) (fun n6 st=>?_);refine za ?_
 rcases Bool.eq_false_or_eq_true v4 with hb7 | hb7
 ·have hF:=zt hb7 hF;refine zj hb7 (v_fa ?_);refine zj hb7 (zn (st.at (i:=0) rfl).2.2 rfl ?_);refine zj hb7 (za ?_);refine zj hb7 (yY ?_);refine zQ hb7 ?_;refine za ?_;refine zc (th_n ?_);refine zy ?_;obtain rfl:=inj hF
  exact zD st (Res.t gA Res.nil) rfl rfl
 ·have hF:=zu hb7 hF;refine zg hb7 ?_;refine zg hb7 ?_;refine zg hb7 ?_;refine zg hb7 ?_;refine zA hb7 ?_;refine za ?_;refine zc (th_n ?_);refine zy ?_;obtain rfl:=inj hF
  exact zD st (Res.t gA Res.nil) rfl rfl
end Go.Hx.V

namespace Go.Hx.V
open Go.Hx
set_option maxRecDepth 20000
set_option maxHeartbeats 4000000
variable {fl : Nat} {h0 : Tr HBlk} {n0 : Nat} {F0 : PH}
attribute [local irreducible] W R C thenH inBlockH Tr.get Tr.set lo ck bnd ix iter
theorem ct26 (N:Nat) {a0_0:(List (Int × Int))} {a0_1:Int} {a0_2:(List (Int × Int × (List (Int × Int))))} {a1:(List Int)} {a2:(List Int)} {r:Bool} (hF:sf26 N a0_0 a0_1 a0_2 a1 a2 = some r) (hd:D h0 n0) (hs:F0.sub h0) {pa0_0:Option (Nat × Nat)} {ca0_0:Nat} {pa0_2:Option (Nat × Nat)} {ca0_2:Nat} {pa1:Option (Nat × Nat)} {ca1:Nat} {pa2:Option (Nat × Nat)} {ca2:Nat} (ra0_0:RowF (rP rI rI) 2 F0 pa0_0 ca0_0 a0_0) (ra0_2:RowF (rP rI (rP rI (rL (rP rI rI) 2))) 3 F0 pa0_2 ca0_2 a0_2) (ra1:RowF rI 1 F0 pa1 ca1 a1) (ra2:RowF rI 1 F0 pa2 ca2 a2):C LW fl 26 [(.agg [(.slice pa0_0 (a0_0).length ca0_0),(i64 a0_1),(.slice pa0_2 (a0_2).length ca0_2)]),(.slice pa1 (a1).length ca1),(.slice pa2 (a2).length ca2)] ⟨h0,n0⟩ (KS (.bool r) n0 h0):=by
 unfold sf26 at hF
 refine yd hd hs lw26 rfl rfl (by rfl) (fun st T hT=>?_)
 have hfl:n0 ≤ n0:=Nat.le_refl n0
 have t0:=hT 0 _ rfl
 have t1:=hT 1 _ rfl
 have t2:=hT 2 _ rfl
 dsimp only [L26]
 refine zd (zi ?_);refine ya st (fun b1 h2 n3 st=>?_);refine za ?_;refine zc (th_n ?_);obtain ⟨y11,hA12,hF⟩:=zk hF;refine ye (fun T ds17 h nx=>∃ u,y11 = (.inr u) ∧ ∃ (F17:PH),ds17 = [] ∧ PH.le F0 F17 ∧ St n0 h0 F0 F17 h nx [.bx b1 [(.slice pa0_0 (a0_0).length ca0_0),(i64 a0_1),(.slice pa0_2 (a0_2).length ca0_2)]] ∧ T.get 1 = some (.slice pa1 (a1).length ca1) ∧ T.get 2 = some (.slice pa2 (a2).length ca2) ∧ T.get 3 = some (.ptr (some (b1,0)))) ?_ (fun T ds17 h nx hp=>?_)
 ·have hK13:=hF
  have hF:=hA12;obtain ⟨y19,hA20,hF⟩:=zk hF;refine ye (fun T ds22 h nx=>∃ (F22:PH),ds22 = [] ∧ PH.le F0 F22 ∧ St n0 h0 F0 F22 h nx [.bx b1 [(.slice pa0_0 (a0_0).length ca0_0),(i64 a0_1),(.slice pa0_2 (a0_2).length ca0_2)]] ∧ T.get 1 = some (.slice pa1 (a1).length ca1) ∧ T.get 2 = some (.slice pa2 (a2).length ca2) ∧ T.get 3 = some (.ptr (some (b1,0))) ∧ T.get 25 = some (.bool y19)) ?_ (fun T ds22 h nx hp=>?_)
  ·have hK21:=hF
   have hF:=hA20;refine zi ?_;refine za ?_;refine zS ?_;refine v_fa ?_;refine zn (st.at (i:=0) rfl).2.2 rfl ?_;refine zS ?_;refine j3 ?_;refine za ?_
   rcases Bool.eq_false_or_eq_true (!(decide (((a1).length:Int) = ((a0_0).length:Int)))) with hb23 | hb23
   ·have hF:=zt hb23 hF;refine zg hb23 ?_;refine zg hb23 ?_;refine zg hb23 ?_;refine zg hb23 ?_;refine zg hb23 ?_;refine zg hb23 ?_;refine zQ hb23 ?_;refine zc ?_;obtain rfl:=inj hF;refine thn ⟨rfl,?_⟩;dsimp only
    exact ⟨F0,rfl,(PH.le.refl _),st,gA,gA,gA,gA⟩
   ·have hF:=zu hb23 hF;refine zj hb23 (za ?_);refine zj hb23 (zS ?_);refine zj hb23 (v_fa ?_);refine zj hb23 (zn (st.at (i:=0) rfl).2.2 rfl ?_);refine zj hb23 (zS ?_);refine zj hb23 (j3 ?_);refine zA hb23 ?_;refine zc ?_;obtain rfl:=inj hF;refine thn ⟨rfl,?_⟩;dsimp only
    exact ⟨F0,rfl,(PH.le.refl _),st,gA,gA,gA,gA⟩
  ·obtain ⟨F22,rfl,le22,st,t1,t2,t3,t25⟩:=hp;refine zB (fun hb24=>?_) (fun hb24=>?_)
   ·have hF:=zt hb24 hF;refine zd (zi ?_);refine za ?_;refine zc (th_n ?_);refine zy ?_;obtain rfl:=inj hF;have hF:=hK13;have hF:=yc hF;refine th_r ?_;obtain rfl:=inj hF
    exact zD st (Res.t gA Res.nil) rfl rfl
   ·have hF:=zu hb24 hF;refine zC ?_;obtain rfl:=inj hF;refine thn ⟨rfl,_,rfl,?_⟩;dsimp only
    exact ⟨F22,rfl,le22,st,gA,gA,gA⟩
 ·obtain ⟨w16,rfl,F17,rfl,le17,st,t1,t2,t3⟩:=hp;have hF:=yb hF;refine zd ?_;refine zd (zi ?_);refine za ?_;refine zc (th_n ?_);refine zx ?_;obtain ⟨y38,hy,hF⟩:=zk hF;refine zU (sf26_L1 N a0_0 a1) (fun x25 T ds26 h nx=>∃ (F26:PH),ds26 = [] ∧ PH.le F17 F26 ∧ St n0 h0 F0 F26 h nx [.bx b1 [(.slice pa0_0 (a0_0).length ca0_0),(i64 a0_1),(.slice pa0_2 (a0_2).length ca0_2)]] ∧ T.get 1 = some (.slice pa1 (a1).length ca1) ∧ T.get 2 = some (.slice pa2 (a2).length ca2) ∧ T.get 3 = some (.ptr (some (b1,0))) ∧ T.get 7 = some (i64 x25)) (fun y e a σ=>(∃ u,y = (.inl u) ∧ e = .ret ∧ a.nt = 109 ∧ ∃ (F40:PH),a.defers = [] ∧ PH.le F17 F40 ∧ St n0 h0 F0 F40 σ.h σ.nx [.bx b1 [(.slice pa0_0 (a0_0).length ca0_0),(i64 a0_1),(.slice pa0_2 (a0_2).length ca0_2)]] ∧ a.tmps.get 6 = some (.bool false)) ∨ (∃ u,y = (.inr u) ∧ e = .exit 0 ∧ a.nt = 109 ∧ ∃ (F42:PH),a.defers = [] ∧ PH.le F17 F42 ∧ St n0 h0 F0 F42 σ.h σ.nx [.bx b1 [(.slice pa0_0 (a0_0).length ca0_0),(i64 a0_1),(.slice pa0_2 (a0_2).length ca0_2)]] ∧ a.tmps.get 1 = some (.slice pa1 (a1).length ca1) ∧ a.tmps.get 2 = some (.slice pa2 (a2).length ca2) ∧ a.tmps.get 3 = some (.ptr (some (b1,0))))) (fun x25 T ds26 h nx s hp hF=>?_) N _ y38 _ _ _ _ hy ⟨F17,rfl,(PH.le.refl _),st,gA,gA,gA,gA⟩ (fun e a σ hne hq=>?_)
  ·obtain ⟨F26,rfl,le26,st,t1,t2,t3,t7⟩:=hp
   have le27:=PH.le.trans le17 le26
   unfold sf26_L1 at hF;unfold L26w2;refine zd ?_;refine zd (zi ?_);refine za ?_;refine za ?_;refine zS ?_;refine yk ?_;refine zc (th_n ?_);refine zB (fun hb43=>?_) (fun hb43=>?_)
   ·have hF:=zt hb43 hF;refine zC (th_n ?_);refine zd ?_;refine zx ?_;refine zd ?_;refine yX (Nat.le_trans hfl st.ext.le) (fun dw=>?_);refine uD st.d dw rfl (fun h44 ex vs=>?_)
    have st:=st.ext1 ex
    refine za ?_;refine za ?_;obtain ⟨n45,x45,z45,l45,g45,hF⟩:=zE hF;obtain ⟨b45,o45,s45,j45,r45,e45,f45,k45,rfl⟩:=RowF.get ra1 g45;refine zV e45 z45 l45 ?_;refine zn (st.sub _ _ (le27 _ _ f45)) (zW (j:=0) k45 rfl) ?_;refine v_fa ?_;refine zn (st.at (i:=0) rfl).2.2 rfl ?_;refine za ?_;obtain ⟨n46,x46,z46,l46,g46,hF⟩:=zE hF;obtain ⟨b46,o46,s46,j46,r46,e46,f46,k46,⟨_,_,rfl,rfl,rfl⟩⟩:=RowF.get ra0_0 g46;refine zV e46 z46 l46 ?_;refine v_fa ?_;refine zn (st.sub _ _ (le27 _ _ f46)) (zW (j:=0) k46 rfl) ?_;refine v_fa ?_;refine zn (st.at (i:=0) rfl).2.2 rfl ?_;refine za ?_;obtain ⟨n47,x47,z47,l47,g47,hF⟩:=zE hF
    obtain ⟨b47,o47,s47,j47,r47,e47,f47,k47,⟨_,_,rfl,rfl,rfl⟩⟩:=RowF.get ra0_0 g47;refine zV e47 z47 l47 ?_;refine v_fa ?_;refine zn (st.sub _ _ (le27 _ _ f47)) (zW (j:=1) k47 rfl) ?_;obtain ⟨v48,e49,hF⟩:=zk hF;refine zL st (ct32 N e49 st.d st.sub ) (fun n50 st=>?_);refine yD ?_;refine zc (th_n ?_);refine zB (fun hb51=>?_) (fun hb51=>?_)
    ·have hF:=zt hb51 hF;refine zd (zi ?_);refine za ?_;refine zc (th_n ?_);refine zy ?_;refine ib_r ?_;refine th_r ?_;refine th_r ?_;refine ⟨_,(inj hF).symm,.inl ⟨_,rfl,rfl,rfl,?_⟩⟩;dsimp only
     exact ⟨F26,rfl,le26,st,gA⟩
    ·have hF:=zu hb51 hF;refine zC ?_;refine ib_n ?_;refine th_n ?_;refine zi ?_;refine za ?_;obtain ⟨q52,hF⟩:=zH hF;refine yl q52 ?_;refine za ?_;refine zc ?_;refine thn ⟨_,(inj hF).symm,rfl,?_⟩;dsimp only
     exact ⟨F26,rfl,le26,st,gA,gA,gA,gA⟩
   ·have hF:=zu hb43 hF;refine z7 ?_;refine th_e ?_;refine th_e ?_;refine ⟨_,(inj hF).symm,.inr (⟨_,rfl,rfl,rfl,?_⟩)⟩;dsimp only
    exact ⟨F26,rfl,le26,st,gA,gA,gA⟩
  ·rcases hq with hq | hq
   ·obtain ⟨N9,T,ds40⟩:=a;obtain ⟨h54,n55⟩:=σ;obtain ⟨w39,rfl,rfl,e1,F40,e2,le40,st,t6⟩:=hq
    dsimp only at e1 e2
    subst e1
    subst e2
    dsimp only at st t6
    have hF:=yc hF;refine ib_r ?_;refine th_r ?_;obtain rfl:=inj hF
    exact zD st (Res.t gA Res.nil) rfl rfl
   ·obtain ⟨N9,T,ds42⟩:=a;obtain ⟨h57,n58⟩:=σ;obtain ⟨w41,rfl,rfl,e1,F42,e2,le42,st,t1,t2,t3⟩:=hq
    dsimp only at e1 e2
    subst e1
    subst e2
    dsimp only at st t1 t2 t3
    have le56:=PH.le.trans le17 le42
    have hF:=yb hF;refine ib_e ?_;refine th_n ?_;refine zd ?_;refine zd (zi ?_);refine za ?_;refine zc (th_n ?_);refine zx ?_;obtain ⟨y125,hy,hF⟩:=zk hF;refine zU (sf26_L3 N a0_1 a0_2 a1 a2) (fun x59 T ds60 h nx=>∃ (F60:PH),ds60 = [] ∧ PH.le F42 F60 ∧ St n0 h0 F0 F60 h nx [.bx b1 [(.slice pa0_0 (a0_0).length ca0_0),(i64 a0_1),(.slice pa0_2 (a0_2).length ca0_2)]] ∧ T.get 1 = some (.slice pa1 (a1).length ca1) ∧ T.get 2 = some (.slice pa2 (a2).length ca2) ∧ T.get 3 = some (.ptr (some (b1,0))) ∧ T.get 8 = some (i64 x59)) (fun y e a σ=>(∃ u,y = (.inl u) ∧ e = .ret ∧ a.nt = 109 ∧ ∃ (F127:PH),a.defers = [] ∧ PH.le F42 F127 ∧ St n0 h0 F0 F127 σ.h σ.nx [.bx b1 [(.slice pa0_0 (a0_0).length ca0_0),(i64 a0_1),(.slice pa0_2 (a0_2).length ca0_2)]] ∧ a.tmps.get 6 = some (.bool false)) ∨ (∃ u,y = (.inr u) ∧ e = .exit 2 ∧ a.nt = 109 ∧ ∃ (F129:PH),a.defers = [] ∧ PH.le F42 F129 ∧ St n0 h0 F0 F129 σ.h σ.nx [.bx b1 [(.slice pa0_0 (a0_0).length ca0_0),(i64 a0_1),(.slice pa0_2 (a0_2).length ca0_2)]])) (fun x59 T ds60 h nx s hp hF=>?_) N _ y125 _ _ _ _ hy ⟨F42,rfl,(PH.le.refl _),st,gA,gA,gA,gA⟩ (fun e a σ hne hq=>?_)
    ·obtain ⟨F60,rfl,le60,st,t1,t2,t3,t8⟩:=hp
     have le61:=PH.le.trans le56 le60
     unfold sf26_L3 at hF;unfold L26w1;refine zd ?_;refine zd (zi ?_);refine za ?_;refine za ?_;refine zS ?_;refine yk ?_;refine zc (th_n ?_);refine zB (fun hb130=>?_) (fun hb130=>?_)
     ·have hF:=zt hb130 hF;refine zC (th_n ?_);refine zd ?_;refine zx ?_;refine zd (zi ?_);refine v_fa ?_;refine zn (st.at (i:=0) rfl).2.2 rfl ?_;refine za ?_;obtain ⟨n131,x131,z131,l131,g131,hF⟩:=zE hF;obtain ⟨b131,o131,s131,j131,r131,e131,f131,k131,⟨_,_,rfl,rfl,⟨_,_,rfl,rfl,⟨py132,cy132,rfl,ry132⟩⟩⟩⟩:=RowF.get ra0_2 g131;refine zV e131 z131 l131 ?_;refine zT (st.sub _ _ (le61 _ _ f131)) k131 ?_;refine z6 st (fun b133 h134 n135 st=>?_);refine v_st (cs':=[(i64 x131.1),(i64 x131.2.1),(.slice py132 (x131.2.2).length cy132)]) st 1 rfl rfl rfl rfl hfl (fun h136 st=>?_);refine zc ?_
      refine th_n ?_;refine zd ?_;refine zd ?_;refine yX (Nat.le_trans hfl st.ext.le) (fun dw=>?_);refine uD st.d dw rfl (fun h137 ex vs=>?_)
      have st:=st.ext1 ex
      refine za ?_;refine za ?_;obtain ⟨n138,x138,z138,l138,g138,hF⟩:=zE hF;obtain ⟨b138,o138,s138,j138,r138,e138,f138,k138,rfl⟩:=RowF.get ra2 g138;refine zV e138 z138 l138 ?_;refine zn (st.sub _ _ (le61 _ _ f138)) (zW (j:=0) k138 rfl) ?_;refine v_fa ?_;refine v_fa ?_;refine zn (st.at (i:=1) rfl).2.2 rfl ?_;refine v_fa ?_;refine v_fa ?_;refine zn (st.at (i:=1) rfl).2.2 rfl ?_;obtain ⟨v139,e140,hF⟩:=zk hF;refine zL st (ct32 N e140 st.d st.sub ) (fun n141 st=>?_);refine yD ?_;refine zc (th_n ?_);refine zB (fun hb142=>?_) (fun hb142=>?_)
      ·have hF:=zt hb142 hF;refine zd (zi ?_);refine za ?_;refine zc (th_n ?_);refine zy ?_;refine th_r ?_;refine ib_r ?_;refine th_r ?_;refine th_r ?_;refine ⟨_,(inj hF).symm,.inl ⟨_,rfl,rfl,rfl,?_⟩⟩;dsimp only
       exact ⟨F60,rfl,le60,(st.drop (by first | exact List.Sublist.refl _ | (repeat first | exact List.nil_sublist _ | refine List.Sublist.cons_cons _ ?_ | refine List.Sublist.cons _ ?_))),gA⟩
      ·have hF:=zu hb142 hF;refine zC (th_n ?_);refine zd (zi ?_);refine za ?_;refine zc (th_n ?_);refine zx ?_;obtain ⟨y162,hy,hF⟩:=zk hF;refine zU (sf26_L2 N a0_1 a1 a2 x59 x131) (fun x143 T ds144 h nx=>∃ (F144:PH),ds144 = [] ∧ PH.le F60 F144 ∧ St n0 h0 F0 F144 h nx [.bx b1 [(.slice pa0_0 (a0_0).length ca0_0),(i64 a0_1),(.slice pa0_2 (a0_2).length ca0_2)],.bx b133 [(i64 x131.1),(i64 x131.2.1),(.slice py132 (x131.2.2).length cy132)]] ∧ T.get 1 = some (.slice pa1 (a1).length ca1) ∧ T.get 2 = some (.slice pa2 (a2).length ca2) ∧ T.get 3 = some (.ptr (some (b1,0))) ∧ T.get 8 = some (i64 x59) ∧ T.get 9 = some (.ptr (some (b133,0))) ∧ T.get 10 = some (i64 x143)) (fun y e a σ=>(∃ u,y = (.inl u) ∧ e = .ret ∧ a.nt = 109 ∧ ∃ (F164:PH),a.defers = [] ∧ PH.le F60 F164 ∧ St n0 h0 F0 F164 σ.h σ.nx [.bx b1 [(.slice pa0_0 (a0_0).length ca0_0),(i64 a0_1),(.slice pa0_2 (a0_2).length ca0_2)],.bx b133 [(i64 x131.1),(i64 x131.2.1),(.slice py132 (x131.2.2).length cy132)]] ∧ a.tmps.get 6 = some (.bool false)) ∨ (∃ u,y = (.inr u) ∧ e = .exit 4 ∧ a.nt = 109 ∧ ∃ (F166:PH),a.defers = [] ∧ PH.le F60 F166 ∧ St n0 h0 F0 F166 σ.h σ.nx [.bx b1 [(.slice pa0_0 (a0_0).length ca0_0),(i64 a0_1),(.slice pa0_2 (a0_2).length ca0_2)],.bx b133 [(i64 x131.1),(i64 x131.2.1),(.slice py132 (x131.2.2).length cy132)]] ∧ a.tmps.get 1 = some (.slice pa1 (a1).length ca1) ∧ a.tmps.get 2 = some (.slice pa2 (a2).length ca2) ∧ a.tmps.get 3 = some (.ptr (some (b1,0))) ∧ a.tmps.get 8 = some (i64 x59))) (fun x143 T ds144 h nx s hp hF=>?_) N _ y162 _ _ _ _ hy ⟨F60,rfl,(PH.le.refl _),st,gA,gA,gA,gA,gA,gA⟩ (fun e a σ hne hq=>?_)
       ·obtain ⟨F144,rfl,le144,st,t1,t2,t3,t8,t9,t10⟩:=hp
        have le145:=PH.le.trans le61 le144
        unfold sf26_L2 at hF;unfold L26w0;refine zd ?_;refine zd (zi ?_);refine za ?_;refine v_fa ?_;refine zn (st.at (i:=1) rfl).2.2 rfl ?_;refine zS ?_;refine yk ?_;refine zc (th_n ?_);refine zB (fun hb167=>?_) (fun hb167=>?_)
        ·have hF:=zt hb167 hF;refine zC (th_n ?_);refine zd ?_;refine zx ?_;refine zd ?_;refine yX (Nat.le_trans hfl st.ext.le) (fun dw=>?_);refine uD st.d dw rfl (fun h168 ex vs=>?_)
         have st:=st.ext1 ex
         refine v_fa ?_;refine zn (st.at (i:=1) rfl).2.2 rfl ?_;refine za ?_;obtain ⟨n169,x169,z169,l169,g169,hF⟩:=zE hF;obtain ⟨b169,o169,s169,j169,r169,e169,f169,k169,⟨_,_,rfl,rfl,rfl⟩⟩:=RowF.get ry132 g169;refine zV e169 z169 l169 ?_;refine v_fa ?_;refine zn (st.sub _ _ (le145 _ _ f169)) (zW (j:=1) k169 rfl) ?_;refine za ?_;refine za ?_;obtain ⟨n170,x170,z170,l170,g170,hF⟩:=zE hF;obtain ⟨b170,o170,s170,j170,r170,e170,f170,k170,rfl⟩:=RowF.get ra2 g170;refine zV e170 z170 l170 ?_;refine zn (st.sub _ _ (le145 _ _ f170)) (zW (j:=0) k170 rfl) ?_;obtain ⟨q171,hF⟩:=zH hF;refine j0 q171 ?_
         refine za ?_;refine v_fa ?_;refine zn (st.at (i:=1) rfl).2.2 rfl ?_;refine za ?_;obtain ⟨n172,x172,z172,l172,g172,hF⟩:=zE hF;obtain ⟨b172,o172,s172,j172,r172,e172,f172,k172,⟨_,_,rfl,rfl,rfl⟩⟩:=RowF.get ry132 g172;refine zV e172 z172 l172 ?_;refine v_fa ?_;refine zn (st.sub _ _ (le145 _ _ f172)) (zW (j:=0) k172 rfl) ?_;obtain ⟨n173,x173,z173,l173,g173,hF⟩:=zE hF;obtain ⟨b173,o173,s173,j173,r173,e173,f173,k173,rfl⟩:=RowF.get ra1 g173;refine zV e173 z173 l173 ?_;refine zn (st.sub _ _ (le145 _ _ f173)) (zW (j:=0) k173 rfl) ?_;obtain ⟨q174,hF⟩:=zH hF;refine j0 q174 ?_;refine za ?_
         refine zc (th_n ?_);refine zd (zi ?_);refine za ?_;refine v_fa ?_;refine zn (st.at (i:=0) rfl).2.2 rfl ?_;obtain ⟨q175,hF⟩:=zH hF;refine v_neg q175 ?_;refine v_fa ?_;refine zn (st.at (i:=0) rfl).2.2 rfl ?_;obtain ⟨v176,e177,hF⟩:=zk hF;refine zL st (ct32 N e177 st.d st.sub ) (fun n178 st=>?_);refine yD ?_;refine zc (th_n ?_);refine zB (fun hb179=>?_) (fun hb179=>?_)
         ·have hF:=zt hb179 hF;refine zd (zi ?_);refine za ?_;refine zc (th_n ?_);refine zy ?_;refine ib_r ?_;refine th_r ?_;refine th_r ?_;refine ⟨_,(inj hF).symm,.inl ⟨_,rfl,rfl,rfl,?_⟩⟩;dsimp only
          exact ⟨F144,rfl,le144,st,gA⟩
         ·have hF:=zu hb179 hF;refine zC ?_;refine ib_n ?_;refine th_n ?_;refine zi ?_;refine za ?_;obtain ⟨q180,hF⟩:=zH hF;refine yl q180 ?_;refine za ?_;refine zc ?_;refine thn ⟨_,(inj hF).symm,rfl,?_⟩;dsimp only
          exact ⟨F144,rfl,le144,st,gA,gA,gA,gA,gA,gA⟩
        ·have hF:=zu hb167 hF;refine z7 ?_;refine th_e ?_;refine th_e ?_;refine ⟨_,(inj hF).symm,.inr (⟨_,rfl,rfl,rfl,?_⟩)⟩;dsimp only
         exact ⟨F144,rfl,le144,st,gA,gA,gA,gA⟩
       ·rcases hq with hq | hq
        ·obtain ⟨N9,T,ds164⟩:=a;obtain ⟨h184,n185⟩:=σ;obtain ⟨w163,rfl,rfl,e1,F164,e2,le164,st,t6⟩:=hq
         dsimp only at e1 e2
         subst e1
         subst e2
         dsimp only at st t6
         have le183:=PH.le.trans le60 le164
         have hF:=yc hF;refine ib_r ?_;refine ib_r ?_;refine th_r ?_;refine th_r ?_;refine ⟨_,(inj hF).symm,.inl ⟨_,rfl,rfl,rfl,?_⟩⟩;dsimp only
         exact ⟨F164,rfl,le183,(st.drop (by first | exact List.Sublist.refl _ | (repeat first | exact List.nil_sublist _ | refine List.Sublist.cons_cons _ ?_ | refine List.Sublist.cons _ ?_))),gA⟩
        ·obtain ⟨N9,T,ds166⟩:=a;obtain ⟨h189,n190⟩:=σ;obtain ⟨w165,rfl,rfl,e1,F166,e2,le166,st,t1,t2,t3,t8⟩:=hq
         dsimp only at e1 e2
         subst e1
         subst e2
         dsimp only at st t1 t2 t3 t8
         have le188:=PH.le.trans le60 le166
         have hF:=yb hF;refine ib_e ?_;refine ib_n ?_;refine th_n ?_;refine zi ?_;refine za ?_;obtain ⟨q191,hF⟩:=zH hF;refine yl q191 ?_;refine za ?_;refine zc ?_;refine thn ⟨_,(inj hF).symm,rfl,?_⟩;dsimp only
         exact ⟨F166,rfl,le188,(st.drop (by first | exact List.Sublist.refl _ | (repeat first | exact List.nil_sublist _ | refine List.Sublist.cons_cons _ ?_ | refine List.Sublist.cons _ ?_))),gA,gA,gA,gA⟩
     ·have hF:=zu hb130 hF;refine z7 ?_;refine th_e ?_;refine th_e ?_;refine ⟨_,(inj hF).symm,.inr (⟨_,rfl,rfl,rfl,?_⟩)⟩;dsimp only
      exact ⟨F60,rfl,le60,st⟩
    ·rcases hq with hq | hq
     ·obtain ⟨N9,T,ds127⟩:=a;obtain ⟨h194,n195⟩:=σ;obtain ⟨w126,rfl,rfl,e1,F127,e2,le127,st,t6⟩:=hq
      dsimp only at e1 e2
      subst e1
      subst e2
      dsimp only at st t6
      have hF:=yc hF;refine ib_r ?_;refine th_r ?_;obtain rfl:=inj hF
      exact zD st (Res.t gA Res.nil) rfl rfl
     ·obtain ⟨N9,T,ds129⟩:=a;obtain ⟨h198,n199⟩:=σ;obtain ⟨w128,rfl,rfl,e1,F129,e2,le129,st⟩:=hq
      dsimp only at e1 e2
      subst e1
      subst e2
      dsimp only at st
      have hF:=yb hF;refine ib_e ?_;refine th_n ?_;refine zd (zi ?_);refine za ?_;refine zc (th_n ?_);refine zy ?_;obtain rfl:=inj hF
      exact zD st (Res.t gA Res.nil) rfl rfl
end Go.Hx.V

namespace Go.Hx.V
open Go.Hx
set_option maxRecDepth 20000
set_option maxHeartbeats 4000000
variable {fl : Nat} {h0 : Tr HBlk} {n0 : Nat} {F0 : PH}
attribute [local irreducible] W R C thenH inBlockH Tr.get Tr.set lo ck bnd ix iter
end Go.Hx.V

namespace Go.Hx.V
open Go.Hx
set_option maxRecDepth 20000
set_option maxHeartbeats 4000000
variable {fl : Nat} {h0 : Tr HBlk} {n0 : Nat} {F0 : PH}
attribute [local irreducible] W R C thenH inBlockH Tr.get Tr.set lo ck bnd ix iter
end Go.Hx.V

namespace Go.Hx.V
open Go.Hx
set_option maxRecDepth 20000
set_option maxHeartbeats 4000000
variable {fl : Nat} {h0 : Tr HBlk} {n0 : Nat} {F0 : PH}
attribute [local irreducible] W R C thenH inBlockH Tr.get Tr.set lo ck bnd ix iter
end Go.Hx.V

namespace Go.Hx.V
open Go.Hx
set_option maxRecDepth 20000
set_option maxHeartbeats 4000000
variable {fl : Nat} {h0 : Tr HBlk} {n0 : Nat} {F0 : PH}
attribute [local irreducible] W R C thenH inBlockH Tr.get Tr.set lo ck bnd ix iter
theorem ct98 (N:Nat) {a0:(List (Int × Int))} {r:Bool} (hF:sf98 N a0 = some r) (hd:D h0 n0) (hs:F0.sub h0) {pa0:Option (Nat × Nat)} {ca0:Nat} (ra0:RowF (rP rI rI) 2 F0 pa0 ca0 a0):C LW fl 98 [(.slice pa0 (a0).length ca0),(.func 99 [] [])] ⟨h0,n0⟩ (KS (.bool r) n0 h0):=by
 unfold sf98 at hF
 refine yd hd hs lw98 rfl rfl (by rfl) (fun st T hT=>?_)
 have hfl:n0 ≤ n0:=Nat.le_refl n0
 have t0:=hT 0 _ rfl
 have t1:=hT 1 _ rfl
 dsimp only [L98]
 refine zd (zi ?_);refine za ?_;refine zc (th_n ?_);refine zd ?_;refine zd (zi ?_);refine za ?_;refine zS ?_;refine za ?_;refine zc (th_n ?_);refine zx ?_;obtain ⟨y14,hy,hF⟩:=zk hF;refine zU (sf98_L1 N a0) (fun x1 T ds2 h nx=>∃ (F2:PH),ds2 = [] ∧ PH.le F0 F2 ∧ St n0 h0 F0 F2 h nx [] ∧ T.get 1 = some (.func 99 [] []) ∧ T.get 7 = some (.slice pa0 (a0).length ca0) ∧ T.get 8 = some (i64 ((a0).length:Int)) ∧ T.get 9 = some (i64 x1)) (fun y e a σ=>(∃ u,y = (.inl u) ∧ e = .ret ∧ a.nt = 18 ∧ ∃ (F16:PH),a.defers = [] ∧ PH.le F0 F16 ∧ St n0 h0 F0 F16 σ.h σ.nx [] ∧ a.tmps.get 4 = some (.bool false)) ∨ (∃ u,y = (.inr u) ∧ e = .exit 0 ∧ a.nt = 18 ∧ ∃ (F18:PH),a.defers = [] ∧ PH.le F0 F18 ∧ St n0 h0 F0 F18 σ.h σ.nx [])) (fun x1 T ds2 h nx s hp hF=>?_) N _ y14 _ _ _ _ hy ⟨F0,rfl,(PH.le.refl _),st,gA,gA,gA,gA⟩ (fun e a σ hne hq=>?_)
 ·obtain ⟨F2,rfl,le2,st,t1,t7,t8,t9⟩:=hp;unfold sf98_L1 at hF;unfold L98w0;refine zd (zi ?_);refine yk ?_;refine zc (th_n ?_);refine zd ?_;refine zB (fun hb19=>?_) (fun hb19=>?_)
  ·have hF:=zt hb19 hF;refine zC (th_n ?_);refine zd ?_;refine zx ?_;refine zd (zi ?_);obtain ⟨n20,x20,z20,l20,g20,hF⟩:=zE hF;obtain ⟨b20,o20,s20,j20,r20,e20,f20,k20,⟨_,_,rfl,rfl,rfl⟩⟩:=RowF.get ra0 g20;refine zV e20 z20 l20 ?_;refine zT (st.sub _ _ (le2 _ _ f20)) k20 ?_;refine z6 st (fun b21 h22 n23 st=>?_);refine v_st (cs':=[(i64 x20.1),(i64 x20.2)]) st 0 rfl rfl rfl rfl hfl (fun h24 st=>?_);refine zc (th_n ?_);refine zd (zi ?_);refine za ?_;refine zT (vs:=[(i64 x20.1),(i64 x20.2)]) (st.at (i:=0) rfl).2.2 rfl ?_;obtain ⟨v25,e26,hF⟩:=zk hF;refine zL st (ct99 N e26 st.d st.sub ) (fun n27 st=>?_)
   refine yD ?_;refine zc (th_n ?_);refine zB (fun hb28=>?_) (fun hb28=>?_)
   ·have hF:=zt hb28 hF;refine zd (zi ?_);refine za ?_;refine zc (th_n ?_);refine zy ?_;refine ib_r ?_;refine th_r ?_;refine th_r ?_;refine ⟨_,(inj hF).symm,.inl ⟨_,rfl,rfl,rfl,?_⟩⟩;dsimp only
    exact ⟨F2,rfl,le2,(st.drop (by first | exact List.Sublist.refl _ | (repeat first | exact List.nil_sublist _ | refine List.Sublist.cons_cons _ ?_ | refine List.Sublist.cons _ ?_))),gA⟩
   ·have hF:=zu hb28 hF;refine zC ?_;refine ib_n ?_;refine th_n ?_;refine zi ?_;obtain ⟨q29,hF⟩:=zH hF;refine yl q29 ?_;refine za ?_;refine zc ?_;refine thn ⟨_,(inj hF).symm,rfl,?_⟩;dsimp only
    exact ⟨F2,rfl,le2,(st.drop (by first | exact List.Sublist.refl _ | (repeat first | exact List.nil_sublist _ | refine List.Sublist.cons_cons _ ?_ | refine List.Sublist.cons _ ?_))),gA,gA,gA,gA⟩
  ·have hF:=zu hb19 hF;refine z7 ?_;refine th_e ?_;refine th_e ?_;refine ⟨_,(inj hF).symm,.inr (⟨_,rfl,rfl,rfl,?_⟩)⟩;dsimp only
   exact ⟨F2,rfl,le2,st⟩
 ·rcases hq with hq | hq
  ·obtain ⟨N9,T,ds16⟩:=a;obtain ⟨h30,n31⟩:=σ;obtain ⟨w15,rfl,rfl,e1,F16,e2,le16,st,t4⟩:=hq
   dsimp only at e1 e2
   subst e1
   subst e2
   dsimp only at st t4
   have hF:=yc hF;refine ib_r ?_;refine th_r ?_;obtain rfl:=inj hF
   exact zD st (Res.t gA Res.nil) rfl rfl
  ·obtain ⟨N9,T,ds18⟩:=a;obtain ⟨h32,n33⟩:=σ;obtain ⟨w17,rfl,rfl,e1,F18,e2,le18,st⟩:=hq
   dsimp only at e1 e2
   subst e1
   subst e2
   dsimp only at st
   have hF:=yb hF;refine ib_e ?_;refine th_n ?_;refine zd (zi ?_);refine za ?_;refine zc (th_n ?_);refine zy ?_;obtain rfl:=inj hF
   exact zD st (Res.t gA Res.nil) rfl rfl
theorem ct124 (N:Nat) {a0:(List (Int × Int))} {a1f0_0:(List (Int × Int))} {a1f0_1:Int} {a1f0_2:(List (Int × Int × (List (Int × Int))))} {r:Bool} (hF:sf124 N a0 a1f0_0 a1f0_1 a1f0_2 = some r) (hd:D h0 n0) (hs:F0.sub h0) {pa0:Option (Nat × Nat)} {ca0:Nat} {pa1f0_0:Option (Nat × Nat)} {ca1f0_0:Nat} {pa1f0_2:Option (Nat × Nat)} {ca1f0_2:Nat} (ra0:RowF (rP rI rI) 2 F0 pa0 ca0 a0) (ra1f0_0:RowF (rP rI rI) 2 F0 pa1f0_0 ca1f0_0 a1f0_0) (ra1f0_2:RowF (rP rI (rP rI (rL (rP rI rI) 2))) 3 F0 pa1f0_2 ca1f0_2 a1f0_2):C LW fl 124 [(.slice pa0 (a0).length ca0),(.func 125 [(.agg [(.slice pa1f0_0 (a1f0_0).length ca1f0_0),(i64 a1f0_1),(.slice pa1f0_2 (a1f0_2).length ca1f0_2)])] [])] ⟨h0,n0⟩ (KS (.bool r) n0 h0):=by
 unfold sf124 at hF
 refine yd hd hs lw124 rfl rfl (by rfl) (fun st T hT=>?_)
 have hfl:n0 ≤ n0:=Nat.le_refl n0
 have t0:=hT 0 _ rfl
 have t1:=hT 1 _ rfl
 dsimp only [L124]
 refine zd (zi ?_);refine za ?_;refine zc (th_n ?_);refine zd ?_;refine zd (zi ?_);refine za ?_;refine zS ?_;refine za ?_;refine zc (th_n ?_);refine zx ?_;obtain ⟨y14,hy,hF⟩:=zk hF;refine zU (sf124_L1 N a0 a1f0_0 a1f0_1 a1f0_2) (fun x1 T ds2 h nx=>∃ (F2:PH),ds2 = [] ∧ PH.le F0 F2 ∧ St n0 h0 F0 F2 h nx [] ∧ T.get 1 = some (.func 125 [(.agg [(.slice pa1f0_0 (a1f0_0).length ca1f0_0),(i64 a1f0_1),(.slice pa1f0_2 (a1f0_2).length ca1f0_2)])] []) ∧ T.get 7 = some (.slice pa0 (a0).length ca0) ∧ T.get 8 = some (i64 ((a0).length:Int)) ∧ T.get 9 = some (i64 x1)) (fun y e a σ=>(∃ u,y = (.inl u) ∧ e = .ret ∧ a.nt = 18 ∧ ∃ (F16:PH),a.defers = [] ∧ PH.le F0 F16 ∧ St n0 h0 F0 F16 σ.h σ.nx [] ∧ a.tmps.get 4 = some (.bool false)) ∨ (∃ u,y = (.inr u) ∧ e = .exit 0 ∧ a.nt = 18 ∧ ∃ (F18:PH),a.defers = [] ∧ PH.le F0 F18 ∧ St n0 h0 F0 F18 σ.h σ.nx [])) (fun x1 T ds2 h nx s hp hF=>?_) N _ y14 _ _ _ _ hy ⟨F0,rfl,(PH.le.refl _),st,gA,gA,gA,gA⟩ (fun e a σ hne hq=>?_)
 ·obtain ⟨F2,rfl,le2,st,t1,t7,t8,t9⟩:=hp;unfold sf124_L1 at hF;unfold L124w0;refine zd (zi ?_);refine yk ?_;refine zc (th_n ?_);refine zd ?_;refine zB (fun hb19=>?_) (fun hb19=>?_)
  ·have hF:=zt hb19 hF;refine zC (th_n ?_);refine zd ?_;refine zx ?_;refine zd (zi ?_);obtain ⟨n20,x20,z20,l20,g20,hF⟩:=zE hF;obtain ⟨b20,o20,s20,j20,r20,e20,f20,k20,⟨_,_,rfl,rfl,rfl⟩⟩:=RowF.get ra0 g20;refine zV e20 z20 l20 ?_;refine zT (st.sub _ _ (le2 _ _ f20)) k20 ?_;refine z6 st (fun b21 h22 n23 st=>?_);refine v_st (cs':=[(i64 x20.1),(i64 x20.2)]) st 0 rfl rfl rfl rfl hfl (fun h24 st=>?_);refine zc (th_n ?_);refine zd (zi ?_);refine za ?_;refine zT (vs:=[(i64 x20.1),(i64 x20.2)]) (st.at (i:=0) rfl).2.2 rfl ?_;obtain ⟨v25,e26,hF⟩:=zk hF;refine zL st (ct125 N e26 st.d st.sub (RowF.mono le2 ra1f0_0) (RowF.mono le2 ra1f0_2)) (fun n27 st=>?_)
   refine yD ?_;refine zc (th_n ?_);refine zB (fun hb28=>?_) (fun hb28=>?_)
   ·have hF:=zt hb28 hF;refine zd (zi ?_);refine za ?_;refine zc (th_n ?_);refine zy ?_;refine ib_r ?_;refine th_r ?_;refine th_r ?_;refine ⟨_,(inj hF).symm,.inl ⟨_,rfl,rfl,rfl,?_⟩⟩;dsimp only
    exact ⟨F2,rfl,le2,(st.drop (by first | exact List.Sublist.refl _ | (repeat first | exact List.nil_sublist _ | refine List.Sublist.cons_cons _ ?_ | refine List.Sublist.cons _ ?_))),gA⟩
   ·have hF:=zu hb28 hF;refine zC ?_;refine ib_n ?_;refine th_n ?_;refine zi ?_;obtain ⟨q29,hF⟩:=zH hF;refine yl q29 ?_;refine za ?_;refine zc ?_;refine thn ⟨_,(inj hF).symm,rfl,?_⟩;dsimp only
    exact ⟨F2,rfl,le2,(st.drop (by first | exact List.Sublist.refl _ | (repeat first | exact List.nil_sublist _ | refine List.Sublist.cons_cons _ ?_ | refine List.Sublist.cons _ ?_))),gA,gA,gA,gA⟩
  ·have hF:=zu hb19 hF;refine z7 ?_;refine th_e ?_;refine th_e ?_;refine ⟨_,(inj hF).symm,.inr (⟨_,rfl,rfl,rfl,?_⟩)⟩;dsimp only
   exact ⟨F2,rfl,le2,st⟩
 ·rcases hq with hq | hq
  ·obtain ⟨N9,T,ds16⟩:=a;obtain ⟨h30,n31⟩:=σ;obtain ⟨w15,rfl,rfl,e1,F16,e2,le16,st,t4⟩:=hq
   dsimp only at e1 e2
   subst e1
   subst e2
   dsimp only at st t4
   have hF:=yc hF;refine ib_r ?_;refine th_r ?_;obtain rfl:=inj hF
   exact zD st (Res.t gA Res.nil) rfl rfl
  ·obtain ⟨N9,T,ds18⟩:=a;obtain ⟨h32,n33⟩:=σ;obtain ⟨w17,rfl,rfl,e1,F18,e2,le18,st⟩:=hq
   dsimp only at e1 e2
   subst e1
   subst e2
   dsimp only at st
   have hF:=yb hF;refine ib_e ?_;refine th_n ?_;refine zd (zi ?_);refine za ?_;refine zc (th_n ?_);refine zy ?_;obtain rfl:=inj hF
   exact zD st (Res.t gA Res.nil) rfl rfl
end Go.Hx.V

namespace Go.Hx.V
open Go.Hx
set_option maxRecDepth 20000
set_option maxHeartbeats 4000000
variable {fl : Nat} {h0 : Tr HBlk} {n0 : Nat} {F0 : PH}
attribute [local irreducible] W R C thenH inBlockH Tr.get Tr.set lo ck bnd ix iter
theorem ct73 (N:Nat) {a0_0:(List (Int × Int))} {a0_1:Int} {a0_2:(List (Int × Int × (List (Int × Int))))} {r:Int} (hF:sf73 N a0_0 a0_1 a0_2 = some r) (hd:D h0 n0) (hs:F0.sub h0) {pa0_0:Option (Nat × Nat)} {ca0_0:Nat} {pa0_2:Option (Nat × Nat)} {ca0_2:Nat} (ra0_0:RowF (rP rI rI) 2 F0 pa0_0 ca0_0 a0_0) (ra0_2:RowF (rP rI (rP rI (rL (rP rI rI) 2))) 3 F0 pa0_2 ca0_2 a0_2):C LW fl 73 [(.agg [(.slice pa0_0 (a0_0).length ca0_0),(i64 a0_1),(.slice pa0_2 (a0_2).length ca0_2)])] ⟨h0,n0⟩ (KS (i64 r) n0 h0):=by
 unfold sf73 at hF
 refine yd hd hs lw73 rfl rfl (by rfl) (fun st T hT=>?_)
 have hfl:n0 ≤ n0:=Nat.le_refl n0
 have t0:=hT 0 _ rfl
 dsimp only [L73]
 refine zd (zi ?_);refine ya st (fun b1 h2 n3 st=>?_);refine za ?_;refine zc (th_n ?_);obtain ⟨y11,hA12,hF⟩:=zk hF;refine ye (fun T ds17 h nx=>∃ u,y11 = (.inr u) ∧ ∃ (F17:PH),ds17 = [] ∧ PH.le F0 F17 ∧ St n0 h0 F0 F17 h nx [.bx b1 [(.slice pa0_0 (a0_0).length ca0_0),(i64 a0_1),(.slice pa0_2 (a0_2).length ca0_2)]] ∧ T.get 1 = some (.ptr (some (b1,0)))) ?_ (fun T ds17 h nx hp=>?_)
 ·have hK13:=hF
  have hF:=hA12;obtain ⟨y19,hA20,hF⟩:=zk hF;refine ye (fun T ds22 h nx=>∃ (F22:PH),ds22 = [] ∧ PH.le F0 F22 ∧ St n0 h0 F0 F22 h nx [.bx b1 [(.slice pa0_0 (a0_0).length ca0_0),(i64 a0_1),(.slice pa0_2 (a0_2).length ca0_2)]] ∧ T.get 1 = some (.ptr (some (b1,0))) ∧ T.get 17 = some (.bool y19)) ?_ (fun T ds22 h nx hp=>?_)
  ·have hK21:=hF
   have hF:=hA20;refine zi ?_;refine v_fa ?_;refine zn (st.at (i:=0) rfl).2.2 rfl ?_;refine zS ?_;refine vL ?_;refine za ?_
   rcases Bool.eq_false_or_eq_true (decide ((6:Int) < ((a0_0).length:Int))) with hb23 | hb23
   ·have hF:=zt hb23 hF;refine zg hb23 ?_;refine zg hb23 ?_;refine zg hb23 ?_;refine zg hb23 ?_;refine zQ hb23 ?_;refine zc ?_;obtain rfl:=inj hF;refine thn ⟨rfl,?_⟩;dsimp only
    exact ⟨F0,rfl,(PH.le.refl _),st,gA,gA⟩
   ·have hF:=zu hb23 hF;refine zj hb23 (v_fa ?_);refine zj hb23 (zn (st.at (i:=0) rfl).2.2 rfl ?_);refine zj hb23 (zS ?_);refine zj hb23 (vL ?_);refine zA hb23 ?_;refine zc ?_;obtain rfl:=inj hF;refine thn ⟨rfl,?_⟩;dsimp only
    exact ⟨F0,rfl,(PH.le.refl _),st,gA,gA⟩
  ·obtain ⟨F22,rfl,le22,st,t1,t17⟩:=hp;refine zB (fun hb24=>?_) (fun hb24=>?_)
   ·have hF:=zt hb24 hF;refine zd (zi ?_);refine za ?_;refine zc (th_n ?_);refine zy ?_;obtain rfl:=inj hF;have hF:=hK13;have hF:=yc hF;refine th_r ?_;obtain rfl:=inj hF
    exact zD st (Res.t gA Res.nil) rfl rfl
   ·have hF:=zu hb24 hF;refine zC ?_;obtain rfl:=inj hF;refine thn ⟨rfl,_,rfl,?_⟩;dsimp only
    exact ⟨F22,rfl,le22,st,gA⟩
 ·obtain ⟨w16,rfl,F17,rfl,le17,st,t1⟩:=hp;have hF:=yb hF;obtain ⟨y39,hA40,hF⟩:=zk hF;refine ye (fun T ds45 h nx=>∃ u,y39 = (.inr u) ∧ ∃ (F45:PH),ds45 = [] ∧ PH.le F17 F45 ∧ St n0 h0 F0 F45 h nx [.bx b1 [(.slice pa0_0 (a0_0).length ca0_0),(i64 a0_1),(.slice pa0_2 (a0_2).length ca0_2)]] ∧ T.get 1 = some (.ptr (some (b1,0)))) ?_ (fun T ds45 h nx hp=>?_)
  ·have hK41:=hF
   have hF:=hA40;obtain ⟨y50,hA51,hF⟩:=zk hF;refine ye (fun T ds53 h nx=>∃ (F53:PH),ds53 = [] ∧ PH.le F17 F53 ∧ St n0 h0 F0 F53 h nx [.bx b1 [(.slice pa0_0 (a0_0).length ca0_0),(i64 a0_1),(.slice pa0_2 (a0_2).length ca0_2)]] ∧ T.get 1 = some (.ptr (some (b1,0))) ∧ T.get 27 = some (.bool y50)) ?_ (fun T ds53 h nx hp=>?_)
   ·have hK52:=hF
    have hF:=hA51;refine zi ?_;refine v_fa ?_;refine zn (st.at (i:=0) rfl).2.2 rfl ?_;refine zS ?_;refine Xx ?_;refine za ?_
    rcases Bool.eq_false_or_eq_true (decide (((a0_0).length:Int) = (0:Int))) with hb54 | hb54
    ·have hF:=zt hb54 hF;refine zg hb54 ?_;refine zg hb54 ?_;refine zg hb54 ?_;refine zg hb54 ?_;refine zQ hb54 ?_;refine zc ?_;obtain rfl:=inj hF;refine thn ⟨rfl,?_⟩;dsimp only
     exact ⟨F17,rfl,(PH.le.refl _),st,gA,gA⟩
    ·have hF:=zu hb54 hF;refine zj hb54 (v_fa ?_);refine zj hb54 (zn (st.at (i:=0) rfl).2.2 rfl ?_);obtain ⟨v55,e56,hF⟩:=zk hF;refine zj hb54 (zL st (ct32 N e56 st.d st.sub ) (fun n57 st=>?_));refine zj hb54 (yD ?_);refine zA hb54 ?_;refine zc ?_;obtain rfl:=inj hF;refine thn ⟨rfl,?_⟩;dsimp only
     exact ⟨F17,rfl,(PH.le.refl _),st,gA,gA⟩
   ·obtain ⟨F53,rfl,le53,st,t1,t27⟩:=hp
    refine zB (fun hb59=>?_) (fun hb59=>?_)
    ·have hF:=zt hb59 hF;refine zd (zi ?_);refine za ?_;refine zc (th_n ?_);refine zy ?_;obtain rfl:=inj hF;have hF:=hK41;have hF:=yc hF;refine th_r ?_;obtain rfl:=inj hF
     exact zD st (Res.t gA Res.nil) rfl rfl
    ·have hF:=zu hb59 hF;refine zC ?_;obtain rfl:=inj hF;refine thn ⟨rfl,_,rfl,?_⟩;dsimp only
     exact ⟨F53,rfl,le53,st,gA⟩
  ·obtain ⟨w44,rfl,F45,rfl,le45,st,t1⟩:=hp;have hF:=yb hF
   have le61:=PH.le.trans le17 le45
   refine zd ?_;refine zd (zi ?_);refine za ?_;refine zc (th_n ?_);refine zx ?_;obtain ⟨y73,hy,hF⟩:=zk hF;refine zU (sf73_L1 N a0_0) (fun x62 T ds63 h nx=>∃ (F63:PH),ds63 = [] ∧ PH.le F45 F63 ∧ St n0 h0 F0 F63 h nx [.bx b1 [(.slice pa0_0 (a0_0).length ca0_0),(i64 a0_1),(.slice pa0_2 (a0_2).length ca0_2)]] ∧ T.get 1 = some (.ptr (some (b1,0))) ∧ T.get 3 = some (i64 x62)) (fun y e a σ=>(∃ u,y = (.inl u) ∧ e = .ret ∧ a.nt = 105 ∧ ∃ (F75:PH),a.defers = [] ∧ PH.le F45 F75 ∧ St n0 h0 F0 F75 σ.h σ.nx [.bx b1 [(.slice pa0_0 (a0_0).length ca0_0),(i64 a0_1),(.slice pa0_2 (a0_2).length ca0_2)]] ∧ a.tmps.get 2 = some (i64 u)) ∨ (∃ u,y = (.inr u) ∧ e = .exit 0 ∧ a.nt = 105 ∧ ∃ (F77:PH),a.defers = [] ∧ PH.le F45 F77 ∧ St n0 h0 F0 F77 σ.h σ.nx [.bx b1 [(.slice pa0_0 (a0_0).length ca0_0),(i64 a0_1),(.slice pa0_2 (a0_2).length ca0_2)]] ∧ a.tmps.get 1 = some (.ptr (some (b1,0))))) (fun x62 T ds63 h nx s hp hF=>?_) N _ y73 _ _ _ _ hy ⟨F45,rfl,(PH.le.refl _),st,gA,gA⟩ (fun e a σ hne hq=>?_)
   ·obtain ⟨F63,rfl,le63,st,t1,t3⟩:=hp
    have le64:=PH.le.trans le61 le63
    unfold sf73_L1 at hF;unfold L73w3;refine zd ?_;refine zd (zi ?_);refine za ?_;refine v_fa ?_;refine zn (st.at (i:=0) rfl).2.2 rfl ?_;refine zS ?_;refine yk ?_;refine zc (th_n ?_);refine zB (fun hb78=>?_) (fun hb78=>?_)
    ·have hF:=zt hb78 hF;refine zC (th_n ?_);refine zd ?_;refine zx ?_;refine zd (zi ?_);refine v_fa ?_;refine zn (st.at (i:=0) rfl).2.2 rfl ?_;refine za ?_;obtain ⟨n79,x79,z79,l79,g79,hF⟩:=zE hF;obtain ⟨b79,o79,s79,j79,r79,e79,f79,k79,⟨_,_,rfl,rfl,rfl⟩⟩:=RowF.get ra0_0 g79;refine zV e79 z79 l79 ?_;refine zT (st.sub _ _ (le64 _ _ f79)) k79 ?_;obtain ⟨v80,e81,hF⟩:=zk hF;refine zL st (ct90 N e81 st.d st.sub ) (fun n82 st=>?_);refine yD ?_;refine zc (th_n ?_);refine zB (fun hb83=>?_) (fun hb83=>?_)
     ·have hF:=zt hb83 hF;refine zd (zi ?_);refine za ?_;refine zc (th_n ?_);refine zy ?_;refine ib_r ?_;refine th_r ?_;refine th_r ?_;refine ⟨_,(inj hF).symm,.inl ⟨_,rfl,rfl,rfl,?_⟩⟩;dsimp only
      exact ⟨F63,rfl,le63,st,gA⟩
     ·have hF:=zu hb83 hF;refine zC ?_;refine ib_n ?_;refine th_n ?_;refine zi ?_;refine za ?_;obtain ⟨q84,hF⟩:=zH hF;refine yl q84 ?_;refine za ?_;refine zc ?_;refine thn ⟨_,(inj hF).symm,rfl,?_⟩;dsimp only
      exact ⟨F63,rfl,le63,st,gA,gA⟩
    ·have hF:=zu hb78 hF;refine z7 ?_;refine th_e ?_;refine th_e ?_;refine ⟨_,(inj hF).symm,.inr (⟨_,rfl,rfl,rfl,?_⟩)⟩;dsimp only
     exact ⟨F63,rfl,le63,st,gA⟩
   ·rcases hq with hq | hq
    ·obtain ⟨N9,T,ds75⟩:=a;obtain ⟨h87,n88⟩:=σ;obtain ⟨w74,rfl,rfl,e1,F75,e2,le75,st,t2⟩:=hq
     dsimp only at e1 e2
     subst e1
     subst e2
     dsimp only at st t2
     have hF:=yc hF;refine ib_r ?_;refine th_r ?_;obtain rfl:=inj hF
     exact zD st (Res.t gA Res.nil) rfl rfl
    ·obtain ⟨N9,T,ds77⟩:=a;obtain ⟨h91,n92⟩:=σ;obtain ⟨w76,rfl,rfl,e1,F77,e2,le77,st,t1⟩:=hq
     dsimp only at e1 e2
     subst e1
     subst e2
     dsimp only at st t1
     have le89:=PH.le.trans le61 le77
     have hF:=yb hF;refine ib_e ?_;refine th_n ?_;refine zd ?_;refine zd (zi ?_);refine za ?_;refine zc (th_n ?_);refine zx ?_;obtain ⟨y381,hy,hF⟩:=zk hF;refine zU (sf73_L4 N a0_0 a0_2) (fun x93 T ds94 h nx=>∃ (F94:PH),ds94 = [] ∧ PH.le F77 F94 ∧ St n0 h0 F0 F94 h nx [.bx b1 [(.slice pa0_0 (a0_0).length ca0_0),(i64 a0_1),(.slice pa0_2 (a0_2).length ca0_2)]] ∧ T.get 1 = some (.ptr (some (b1,0))) ∧ T.get 4 = some (i64 x93)) (fun y e a σ=>(∃ u,y = (.inl u) ∧ e = .ret ∧ a.nt = 105 ∧ ∃ (F383:PH),a.defers = [] ∧ PH.le F77 F383 ∧ St n0 h0 F0 F383 σ.h σ.nx [.bx b1 [(.slice pa0_0 (a0_0).length ca0_0),(i64 a0_1),(.slice pa0_2 (a0_2).length ca0_2)]] ∧ a.tmps.get 2 = some (i64 u)) ∨ (∃ u,y = (.inr u) ∧ e = .exit 2 ∧ a.nt = 105 ∧ ∃ (F385:PH),a.defers = [] ∧ PH.le F77 F385 ∧ St n0 h0 F0 F385 σ.h σ.nx [.bx b1 [(.slice pa0_0 (a0_0).length ca0_0),(i64 a0_1),(.slice pa0_2 (a0_2).length ca0_2)]])) (fun x93 T ds94 h nx s hp hF=>?_) N _ y381 _ _ _ _ hy ⟨F77,rfl,(PH.le.refl _),st,gA,gA⟩ (fun e a σ hne hq=>?_)
     ·obtain ⟨F94,rfl,le94,st,t1,t4⟩:=hp
      have le95:=PH.le.trans le89 le94
      unfold sf73_L4 at hF;unfold L73w2;refine zd ?_;refine zd (zi ?_);refine za ?_;refine v_fa ?_;refine zn (st.at (i:=0) rfl).2.2 rfl ?_;refine zS ?_;refine yk ?_;refine zc (th_n ?_);refine zB (fun hb386=>?_) (fun hb386=>?_)
      ·have hF:=zt hb386 hF;refine zC (th_n ?_);refine zd ?_;refine zx ?_;refine zd (zi ?_);refine v_fa ?_;refine zn (st.at (i:=0) rfl).2.2 rfl ?_;refine za ?_;obtain ⟨n387,x387,z387,l387,g387,hF⟩:=zE hF;obtain ⟨b387,o387,s387,j387,r387,e387,f387,k387,⟨_,_,rfl,rfl,⟨_,_,rfl,rfl,⟨py388,cy388,rfl,ry388⟩⟩⟩⟩:=RowF.get ra0_2 g387;refine zV e387 z387 l387 ?_;refine zT (st.sub _ _ (le95 _ _ f387)) k387 ?_;refine z6 st (fun b389 h390 n391 st=>?_);refine v_st (cs':=[(i64 x387.1),(i64 x387.2.1),(.slice py388 (x387.2.2).length cy388)]) st 1 rfl rfl rfl rfl hfl (fun h392 st=>?_);refine zc ?_
       refine th_n ?_;refine zd ?_;refine zd (zi ?_);refine v_fa ?_;refine zT (vs:=[(i64 x387.1),(i64 x387.2.1)]) (st.at (i:=1) rfl).2.2 rfl ?_;obtain ⟨v393,e394,hF⟩:=zk hF;refine zL st (ct90 N e394 st.d st.sub ) (fun n395 st=>?_);refine yD ?_;refine zc (th_n ?_);refine zB (fun hb396=>?_) (fun hb396=>?_)
       ·have hF:=zt hb396 hF;refine zd (zi ?_);refine za ?_;refine zc (th_n ?_);refine zy ?_;refine th_r ?_;refine ib_r ?_;refine th_r ?_;refine th_r ?_;refine ⟨_,(inj hF).symm,.inl ⟨_,rfl,rfl,rfl,?_⟩⟩;dsimp only
        exact ⟨F94,rfl,le94,(st.drop (by first | exact List.Sublist.refl _ | (repeat first | exact List.nil_sublist _ | refine List.Sublist.cons_cons _ ?_ | refine List.Sublist.cons _ ?_))),gA⟩
       ·have hF:=zu hb396 hF;refine zC (th_n ?_);refine zd (zi ?_);refine za ?_;refine zc (th_n ?_);refine zx ?_;obtain ⟨y527,hy,hF⟩:=zk hF;refine zU (sf73_L3 N a0_0 x387) (fun x397 T ds398 h nx=>∃ (F398:PH),ds398 = [] ∧ PH.le F94 F398 ∧ St n0 h0 F0 F398 h nx [.bx b1 [(.slice pa0_0 (a0_0).length ca0_0),(i64 a0_1),(.slice pa0_2 (a0_2).length ca0_2)],.bx b389 [(i64 x387.1),(i64 x387.2.1),(.slice py388 (x387.2.2).length cy388)]] ∧ T.get 1 = some (.ptr (some (b1,0))) ∧ T.get 4 = some (i64 x93) ∧ T.get 5 = some (.ptr (some (b389,0))) ∧ T.get 6 = some (i64 x397)) (fun y e a σ=>(∃ u,y = (.inl u) ∧ e = .ret ∧ a.nt = 105 ∧ ∃ (F529:PH),a.defers = [] ∧ PH.le F94 F529 ∧ St n0 h0 F0 F529 σ.h σ.nx [.bx b1 [(.slice pa0_0 (a0_0).length ca0_0),(i64 a0_1),(.slice pa0_2 (a0_2).length ca0_2)],.bx b389 [(i64 x387.1),(i64 x387.2.1),(.slice py388 (x387.2.2).length cy388)]] ∧ a.tmps.get 2 = some (i64 u)) ∨ (∃ u,y = (.inr u) ∧ e = .exit 4 ∧ a.nt = 105 ∧ ∃ (F531:PH),a.defers = [] ∧ PH.le F94 F531 ∧ St n0 h0 F0 F531 σ.h σ.nx [.bx b1 [(.slice pa0_0 (a0_0).length ca0_0),(i64 a0_1),(.slice pa0_2 (a0_2).length ca0_2)],.bx b389 [(i64 x387.1),(i64 x387.2.1),(.slice py388 (x387.2.2).length cy388)]] ∧ a.tmps.get 1 = some (.ptr (some (b1,0))) ∧ a.tmps.get 4 = some (i64 x93))) (fun x397 T ds398 h nx s hp hF=>?_) N _ y527 _ _ _ _ hy ⟨F94,rfl,(PH.le.refl _),st,gA,gA,gA,gA⟩ (fun e a σ hne hq=>?_)
        ·obtain ⟨F398,rfl,le398,st,t1,t4,t5,t6⟩:=hp
         have le399:=PH.le.trans le95 le398
         unfold sf73_L3 at hF;unfold L73w1;refine zd ?_;refine zd (zi ?_);refine za ?_;refine v_fa ?_;refine zn (st.at (i:=1) rfl).2.2 rfl ?_;refine zS ?_;refine yk ?_;refine zc (th_n ?_);refine zB (fun hb532=>?_) (fun hb532=>?_)
         ·have hF:=zt hb532 hF;refine zC (th_n ?_);refine zd ?_;refine zx ?_;obtain ⟨y565,hA566,hF⟩:=zk hF;refine ye (fun T ds571 h nx=>∃ u,y565 = (.inr u) ∧ ∃ (F571:PH),ds571 = [] ∧ PH.le F398 F571 ∧ St n0 h0 F0 F571 h nx [.bx b1 [(.slice pa0_0 (a0_0).length ca0_0),(i64 a0_1),(.slice pa0_2 (a0_2).length ca0_2)],.bx b389 [(i64 x387.1),(i64 x387.2.1),(.slice py388 (x387.2.2).length cy388)]] ∧ T.get 1 = some (.ptr (some (b1,0))) ∧ T.get 4 = some (i64 x93) ∧ T.get 5 = some (.ptr (some (b389,0))) ∧ T.get 6 = some (i64 x397)) ?_ (fun T ds571 h nx hp=>?_)
          ·have hK567:=hF
           have hF:=hA566;obtain ⟨y583,hA584,hF⟩:=zk hF;refine ye (fun T ds586 h nx=>∃ (F586:PH),ds586 = [] ∧ PH.le F398 F586 ∧ St n0 h0 F0 F586 h nx [.bx b1 [(.slice pa0_0 (a0_0).length ca0_0),(i64 a0_1),(.slice pa0_2 (a0_2).length ca0_2)],.bx b389 [(i64 x387.1),(i64 x387.2.1),(.slice py388 (x387.2.2).length cy388)]] ∧ T.get 1 = some (.ptr (some (b1,0))) ∧ T.get 4 = some (i64 x93) ∧ T.get 5 = some (.ptr (some (b389,0))) ∧ T.get 6 = some (i64 x397) ∧ T.get 86 = some (.bool y583)) ?_ (fun T ds586 h nx hp=>?_)
           ·have hK585:=hF
            have hF:=hA584;refine yX (Nat.le_trans hfl st.ext.le) (fun dw=>?_);refine uD st.d dw rfl (fun h587 ex vs=>?_)
            have st:=st.ext1 ex
            refine v_fa ?_;refine zn (st.at (i:=1) rfl).2.2 rfl ?_;refine za ?_;obtain ⟨n588,x588,z588,l588,g588,hF⟩:=zE hF;obtain ⟨b588,o588,s588,j588,r588,e588,f588,k588,⟨_,_,rfl,rfl,rfl⟩⟩:=RowF.get ry388 g588;refine zV e588 z588 l588 ?_;refine v_fa ?_;refine zn (st.sub _ _ (le399 _ _ f588)) (zW (j:=0) k588 rfl) ?_;refine v_fa ?_;refine zn (st.at (i:=0) rfl).2.2 rfl ?_;refine zS ?_;obtain ⟨q589,hF⟩:=zH hF;refine j0 q589 ?_;obtain ⟨v590,e591,hF⟩:=zk hF;refine zL st (ct32 N e591 st.d st.sub ) (fun n592 st=>?_);refine yD ?_;refine za ?_
            rcases Bool.eq_false_or_eq_true (!v590) with hb593 | hb593
            ·have hF:=zt hb593 hF;refine zg hb593 ?_;refine zg hb593 ?_;refine zg hb593 ?_;refine zg hb593 ?_;refine zg hb593 ?_;refine zg hb593 ?_;refine zg hb593 ?_;refine zg hb593 ?_;refine zQ hb593 ?_;refine zc ?_;obtain rfl:=inj hF;refine thn ⟨rfl,?_⟩;dsimp only
             exact ⟨F398,rfl,(PH.le.refl _),st,gA,gA,gA,gA,gA⟩
            ·have hF:=zu hb593 hF;refine zj hb593 (v_fa ?_);refine zj hb593 (zn (st.at (i:=1) rfl).2.2 rfl ?_);refine zj hb593 (za ?_);obtain ⟨n594,x594,z594,l594,g594,hF⟩:=zE hF;obtain ⟨b594,o594,s594,j594,r594,e594,f594,k594,⟨_,_,rfl,rfl,rfl⟩⟩:=RowF.get ry388 g594;refine zj hb593 (zV e594 z594 l594 ?_);refine zj hb593 (v_fa ?_);refine zj hb593 (zn (st.sub _ _ (le399 _ _ f594)) (zW (j:=1) k594 rfl) ?_);obtain ⟨v595,e596,hF⟩:=zk hF;refine zj hb593 (zL st (ct32 N e596 st.d st.sub ) (fun n597 st=>?_));refine zj hb593 (yD ?_);refine zA hb593 ?_;refine zc ?_;obtain rfl:=inj hF
             refine thn ⟨rfl,?_⟩;dsimp only
             exact ⟨F398,rfl,(PH.le.refl _),st,gA,gA,gA,gA,gA⟩
           ·obtain ⟨F586,rfl,le586,st,t1,t4,t5,t6,t86⟩:=hp
            have le602:=PH.le.trans le398 le586
            refine zB (fun hb603=>?_) (fun hb603=>?_)
            ·have hF:=zt hb603 hF;refine zd (zi ?_);refine za ?_;refine zc (th_n ?_);refine zy ?_;obtain rfl:=inj hF;have hF:=hK567;have hF:=yc hF;refine th_r ?_;refine ib_r ?_;refine th_r ?_;refine th_r ?_;refine ⟨_,(inj hF).symm,.inl ⟨_,rfl,rfl,rfl,?_⟩⟩;dsimp only
             exact ⟨F586,rfl,le602,st,gA⟩
            ·have hF:=zu hb603 hF;refine zC ?_;obtain rfl:=inj hF;refine thn ⟨rfl,_,rfl,?_⟩;dsimp only
             exact ⟨F586,rfl,le586,st,gA,gA,gA,gA⟩
          ·obtain ⟨w570,rfl,F571,rfl,le571,st,t1,t4,t5,t6⟩:=hp;have hF:=yb hF
           have le609:=PH.le.trans le399 le571
           have le613:=PH.le.trans le398 le571
           refine zd (zi ?_);refine za ?_;refine zc (th_n ?_);refine zx ?_;obtain ⟨y628,hy,hF⟩:=zk hF;refine zU (sf73_L2 x387 x397) (fun x614 T ds615 h nx=>∃ (F615:PH),ds615 = [] ∧ PH.le F571 F615 ∧ St n0 h0 F0 F615 h nx [.bx b1 [(.slice pa0_0 (a0_0).length ca0_0),(i64 a0_1),(.slice pa0_2 (a0_2).length ca0_2)],.bx b389 [(i64 x387.1),(i64 x387.2.1),(.slice py388 (x387.2.2).length cy388)]] ∧ T.get 1 = some (.ptr (some (b1,0))) ∧ T.get 4 = some (i64 x93) ∧ T.get 5 = some (.ptr (some (b389,0))) ∧ T.get 6 = some (i64 x397) ∧ T.get 7 = some (i64 x614)) (fun y e a σ=>(∃ u,y = (.inl u) ∧ e = .ret ∧ a.nt = 105 ∧ ∃ (F630:PH),a.defers = [] ∧ PH.le F571 F630 ∧ St n0 h0 F0 F630 σ.h σ.nx [.bx b1 [(.slice pa0_0 (a0_0).length ca0_0),(i64 a0_1),(.slice pa0_2 (a0_2).length ca0_2)],.bx b389 [(i64 x387.1),(i64 x387.2.1),(.slice py388 (x387.2.2).length cy388)]] ∧ a.tmps.get 2 = some (i64 u)) ∨ (∃ u,y = (.inr u) ∧ e = .exit 6 ∧ a.nt = 105 ∧ ∃ (F632:PH),a.defers = [] ∧ PH.le F571 F632 ∧ St n0 h0 F0 F632 σ.h σ.nx [.bx b1 [(.slice pa0_0 (a0_0).length ca0_0),(i64 a0_1),(.slice pa0_2 (a0_2).length ca0_2)],.bx b389 [(i64 x387.1),(i64 x387.2.1),(.slice py388 (x387.2.2).length cy388)]] ∧ a.tmps.get 1 = some (.ptr (some (b1,0))) ∧ a.tmps.get 4 = some (i64 x93) ∧ a.tmps.get 5 = some (.ptr (some (b389,0))) ∧ a.tmps.get 6 = some (i64 x397))) (fun x614 T ds615 h nx s hp hF=>?_) N _ y628 _ _ _ _ hy ⟨F571,rfl,(PH.le.refl _),st,gA,gA,gA,gA,gA⟩ (fun e a σ hne hq=>?_)
           ·obtain ⟨F615,rfl,le615,st,t1,t4,t5,t6,t7⟩:=hp
            have le616:=PH.le.trans le609 le615
            unfold sf73_L2 at hF;unfold L73w0;refine zd ?_;refine zd (zi ?_);refine za ?_;refine za ?_;refine yk ?_;refine zc (th_n ?_);refine zB (fun hb633=>?_) (fun hb633=>?_)
            ·have hF:=zt hb633 hF;refine zC (th_n ?_);refine zd ?_;refine zx ?_;refine zd ?_;refine yX (Nat.le_trans hfl st.ext.le) (fun dw=>?_);refine uD st.d dw rfl (fun h634 ex vs=>?_)
             have st:=st.ext1 ex
             refine v_fa ?_;refine zn (st.at (i:=1) rfl).2.2 rfl ?_;refine za ?_;obtain ⟨n635,x635,z635,l635,g635,hF⟩:=zE hF;obtain ⟨b635,o635,s635,j635,r635,e635,f635,k635,⟨_,_,rfl,rfl,rfl⟩⟩:=RowF.get ry388 g635;refine zV e635 z635 l635 ?_;refine v_fa ?_;refine zn (st.sub _ _ (le616 _ _ f635)) (zW (j:=0) k635 rfl) ?_;refine v_fa ?_;refine zn (st.at (i:=1) rfl).2.2 rfl ?_;refine za ?_;obtain ⟨n636,x636,z636,l636,g636,hF⟩:=zE hF;obtain ⟨b636,o636,s636,j636,r636,e636,f636,k636,⟨_,_,rfl,rfl,rfl⟩⟩:=RowF.get ry388 g636;refine zV e636 z636 l636 ?_;refine v_fa ?_;refine zn (st.sub _ _ (le616 _ _ f636)) (zW (j:=0) k636 rfl) ?_
             refine Xx ?_;refine zc (th_n ?_);refine zB (fun hb637=>?_) (fun hb637=>?_)
             ·have hF:=zt hb637 hF;refine zd (zi ?_);refine za ?_;refine zc (th_n ?_);refine zy ?_;refine ib_r ?_;refine th_r ?_;refine th_r ?_;refine ⟨_,(inj hF).symm,.inl ⟨_,rfl,rfl,rfl,?_⟩⟩;dsimp only
              exact ⟨F615,rfl,le615,st,gA⟩
             ·have hF:=zu hb637 hF;refine zC ?_;refine ib_n ?_;refine th_n ?_;refine zi ?_;refine za ?_;obtain ⟨q638,hF⟩:=zH hF;refine yl q638 ?_;refine za ?_;refine zc ?_;refine thn ⟨_,(inj hF).symm,rfl,?_⟩;dsimp only
              exact ⟨F615,rfl,le615,st,gA,gA,gA,gA,gA⟩
            ·have hF:=zu hb633 hF;refine z7 ?_;refine th_e ?_;refine th_e ?_;refine ⟨_,(inj hF).symm,.inr (⟨_,rfl,rfl,rfl,?_⟩)⟩;dsimp only
             exact ⟨F615,rfl,le615,st,gA,gA,gA,gA⟩
           ·rcases hq with hq | hq
            ·obtain ⟨N9,T,ds630⟩:=a;obtain ⟨h645,n646⟩:=σ;obtain ⟨w629,rfl,rfl,e1,F630,e2,le630,st,t2⟩:=hq
             dsimp only at e1 e2
             subst e1
             subst e2
             dsimp only at st t2
             have le643:=PH.le.trans le613 le630
             have hF:=yc hF;refine ib_r ?_;refine ib_r ?_;refine th_r ?_;refine th_r ?_;refine ⟨_,(inj hF).symm,.inl ⟨_,rfl,rfl,rfl,?_⟩⟩;dsimp only
             exact ⟨F630,rfl,le643,st,gA⟩
            ·obtain ⟨N9,T,ds632⟩:=a;obtain ⟨h653,n654⟩:=σ;obtain ⟨w631,rfl,rfl,e1,F632,e2,le632,st,t1,t4,t5,t6⟩:=hq
             dsimp only at e1 e2
             subst e1
             subst e2
             dsimp only at st t1 t4 t5 t6
             have le651:=PH.le.trans le613 le632
             have hF:=yb hF;refine ib_e ?_;refine ib_n ?_;refine th_n ?_;refine zi ?_;refine za ?_;obtain ⟨q655,hF⟩:=zH hF;refine yl q655 ?_;refine za ?_;refine zc ?_;refine thn ⟨_,(inj hF).symm,rfl,?_⟩;dsimp only
             exact ⟨F632,rfl,le651,st,gA,gA,gA,gA⟩
         ·have hF:=zu hb532 hF;refine z7 ?_;refine th_e ?_;refine th_e ?_;refine ⟨_,(inj hF).symm,.inr (⟨_,rfl,rfl,rfl,?_⟩)⟩;dsimp only
          exact ⟨F398,rfl,le398,st,gA,gA⟩
        ·rcases hq with hq | hq
         ·obtain ⟨N9,T,ds529⟩:=a;obtain ⟨h660,n661⟩:=σ;obtain ⟨w528,rfl,rfl,e1,F529,e2,le529,st,t2⟩:=hq
          dsimp only at e1 e2
          subst e1
          subst e2
          dsimp only at st t2
          have le659:=PH.le.trans le94 le529
          have hF:=yc hF;refine ib_r ?_;refine ib_r ?_;refine th_r ?_;refine th_r ?_;refine ⟨_,(inj hF).symm,.inl ⟨_,rfl,rfl,rfl,?_⟩⟩;dsimp only
          exact ⟨F529,rfl,le659,(st.drop (by first | exact List.Sublist.refl _ | (repeat first | exact List.nil_sublist _ | refine List.Sublist.cons_cons _ ?_ | refine List.Sublist.cons _ ?_))),gA⟩
         ·obtain ⟨N9,T,ds531⟩:=a;obtain ⟨h666,n667⟩:=σ;obtain ⟨w530,rfl,rfl,e1,F531,e2,le531,st,t1,t4⟩:=hq
          dsimp only at e1 e2
          subst e1
          subst e2
          dsimp only at st t1 t4
          have le665:=PH.le.trans le94 le531
          have hF:=yb hF;refine ib_e ?_;refine ib_n ?_;refine th_n ?_;refine zi ?_;refine za ?_;obtain ⟨q668,hF⟩:=zH hF;refine yl q668 ?_;refine za ?_;refine zc ?_;refine thn ⟨_,(inj hF).symm,rfl,?_⟩;dsimp only
          exact ⟨F531,rfl,le665,(st.drop (by first | exact List.Sublist.refl _ | (repeat first | exact List.nil_sublist _ | refine List.Sublist.cons_cons _ ?_ | refine List.Sublist.cons _ ?_))),gA,gA⟩
      ·have hF:=zu hb386 hF;refine z7 ?_;refine th_e ?_;refine th_e ?_;refine ⟨_,(inj hF).symm,.inr (⟨_,rfl,rfl,rfl,?_⟩)⟩;dsimp only
       exact ⟨F94,rfl,le94,st⟩
     ·rcases hq with hq | hq
      ·obtain ⟨N9,T,ds383⟩:=a;obtain ⟨h672,n673⟩:=σ;obtain ⟨w382,rfl,rfl,e1,F383,e2,le383,st,t2⟩:=hq
       dsimp only at e1 e2
       subst e1
       subst e2
       dsimp only at st t2
       have hF:=yc hF;refine ib_r ?_;refine th_r ?_;obtain rfl:=inj hF
       exact zD st (Res.t gA Res.nil) rfl rfl
      ·obtain ⟨N9,T,ds385⟩:=a;obtain ⟨h677,n678⟩:=σ;obtain ⟨w384,rfl,rfl,e1,F385,e2,le385,st⟩:=hq
       dsimp only at e1 e2
       subst e1
       subst e2
       dsimp only at st
       have hF:=yb hF;refine ib_e ?_;refine th_n ?_;refine zd (zi ?_);refine za ?_;refine zc (th_n ?_);refine zy ?_;obtain rfl:=inj hF
       exact zD st (Res.t gA Res.nil) rfl rfl
end Go.Hx.V

namespace Go.Hx.V
open Go.Hx
set_option maxRecDepth 20000
set_option maxHeartbeats 4000000
variable {fl : Nat} {h0 : Tr HBlk} {n0 : Nat} {F0 : PH}
attribute [local irreducible] W R C thenH inBlockH Tr.get Tr.set lo ck bnd ix iter
theorem ct101 (N:Nat) {a0_0:(List (Int × Int))} {a0_1:Int} {a0_2:(List (Int × Int × (List (Int × Int))))} {a1_0 a1_1:Int} {a1_2:(List (Int × Int))} {r:Bool} (hF:sf101 N a0_0 a0_1 a0_2 a1_0 a1_1 a1_2 = some r) (hd:D h0 n0) (hs:F0.sub h0) {pa0_0:Option (Nat × Nat)} {ca0_0:Nat} {pa0_2:Option (Nat × Nat)} {ca0_2:Nat} {pa1_2:Option (Nat × Nat)} {ca1_2:Nat} (ra0_0:RowF (rP rI rI) 2 F0 pa0_0 ca0_0 a0_0) (ra0_2:RowF (rP rI (rP rI (rL (rP rI rI) 2))) 3 F0 pa0_2 ca0_2 a0_2) (ra1_2:RowF (rP rI rI) 2 F0 pa1_2 ca1_2 a1_2):C LW fl 101 [(.agg [(.slice pa0_0 (a0_0).length ca0_0),(i64 a0_1),(.slice pa0_2 (a0_2).length ca0_2)]),(.agg [(i64 a1_0),(i64 a1_1),(.slice pa1_2 (a1_2).length ca1_2)])] ⟨h0,n0⟩ (KS (.bool r) n0 h0):=by
 unfold sf101 at hF
 refine yd hd hs lw101 rfl rfl (by rfl) (fun st T hT=>?_)
 have hfl:n0 ≤ n0:=Nat.le_refl n0
 have t0:=hT 0 _ rfl
 have t1:=hT 1 _ rfl
 dsimp only [L101]
 refine zd (zi ?_);refine ya st (fun b1 h2 n3 st=>?_);refine ya st (fun b4 h5 n6 st=>?_);refine za ?_;refine zc (th_n ?_);refine zd (zi ?_);refine v_fa ?_;refine zT (vs:=[(i64 a1_0),(i64 a1_1)]) (st.at (i:=1) rfl).2.2 rfl ?_;obtain ⟨v7,e8,hF⟩:=zk hF;refine zL st (ct113 N e8 st.d st.sub ) (fun n9 st=>?_);refine za ?_
 rcases Bool.eq_false_or_eq_true v7 with hb10 | hb10
 ·have hF:=zt hb10 hF;refine zj hb10 (v_fa ?_);refine zj hb10 (zn (st.at (i:=1) rfl).2.2 rfl ?_);refine zj hb10 (zT (vs:=[(.slice pa0_0 (a0_0).length ca0_0),(i64 a0_1),(.slice pa0_2 (a0_2).length ca0_2)]) (st.at (i:=0) rfl).2.2 rfl ?_);refine zj hb10 (v_mf ?_);obtain ⟨v11,e12,hF⟩:=zk hF;refine zj hb10 (zL st (ct124 N e12 st.d st.sub ra1_2 ra0_0 ra0_2) (fun n13 st=>?_));refine zQ hb10 ?_;refine za ?_
  rcases Bool.eq_false_or_eq_true v11 with hb14 | hb14
  ·have hF:=zt hb14 hF;refine zj hb14 (zT (vs:=[(i64 a1_0),(i64 a1_1),(.slice pa1_2 (a1_2).length ca1_2)]) (st.at (i:=1) rfl).2.2 rfl ?_);obtain ⟨v15,e16,hF⟩:=zk hF;refine zj hb14 (zL st (ct126 N e16 st.d st.sub ra1_2) (fun n17 st=>?_));refine zQ hb14 ?_;refine za ?_;refine zc (th_n ?_);refine zy ?_;obtain rfl:=inj hF
   exact zD st (Res.t gA Res.nil) rfl rfl
  ·have hF:=zu hb14 hF;refine zg hb14 ?_;refine zg hb14 ?_;refine zA hb14 ?_;refine za ?_;refine zc (th_n ?_);refine zy ?_;obtain rfl:=inj hF
   exact zD st (Res.t gA Res.nil) rfl rfl
 ·have hF:=zu hb10 hF;refine zg hb10 ?_;refine zg hb10 ?_;refine zg hb10 ?_;refine zg hb10 ?_;refine zg hb10 ?_;refine zA hb10 ?_;refine za ?_;refine zg rfl ?_;refine zg rfl ?_;refine zA rfl ?_;refine za ?_;refine zc (th_n ?_);refine zy ?_;obtain rfl:=inj hF
  exact zD st (Res.t gA Res.nil) rfl rfl
theorem ct25 (N:Nat) {a0_0:(List (Int × Int))} {a0_1:Int} {a0_2:(List (Int × Int × (List (Int × Int))))} {r:Int} (hF:sf25 N a0_0 a0_1 a0_2 = some r) (hd:D h0 n0) (hs:F0.sub h0) {pa0_0:Option (Nat × Nat)} {ca0_0:Nat} {pa0_2:Option (Nat × Nat)} {ca0_2:Nat} (ra0_0:RowF (rP rI rI) 2 F0 pa0_0 ca0_0 a0_0) (ra0_2:RowF (rP rI (rP rI (rL (rP rI rI) 2))) 3 F0 pa0_2 ca0_2 a0_2):C LW fl 25 [(.agg [(.slice pa0_0 (a0_0).length ca0_0),(i64 a0_1),(.slice pa0_2 (a0_2).length ca0_2)])] ⟨h0,n0⟩ (KS (i64 r) n0 h0):=by
 unfold sf25 at hF
 refine yd hd hs lw25 rfl rfl (by rfl) (fun st T hT=>?_)
 have hfl:n0 ≤ n0:=Nat.le_refl n0
 have t0:=hT 0 _ rfl
 dsimp only [L25]
 refine zd (zi ?_);refine ya st (fun b1 h2 n3 st=>?_);refine za ?_;refine zc (th_n ?_);refine zd (zi ?_);refine zT (vs:=[(.slice pa0_0 (a0_0).length ca0_0),(i64 a0_1),(.slice pa0_2 (a0_2).length ca0_2)]) (st.at (i:=0) rfl).2.2 rfl ?_;obtain ⟨v4,e5,hF⟩:=zk hF;refine zL st (ct73 N e5 st.d st.sub ra0_0 ra0_2) (fun n6 st=>?_);refine za ?_;refine zc (th_n ?_);refine zy ?_;obtain rfl:=inj hF
 exact zD st (Res.t gA Res.nil) rfl rfl
end Go.Hx.V

namespace Go.Hx.V
open Go.Hx
set_option maxRecDepth 20000
set_option maxHeartbeats 4000000
variable {fl : Nat} {h0 : Tr HBlk} {n0 : Nat} {F0 : PH}
attribute [local irreducible] W R C thenH inBlockH Tr.get Tr.set lo ck bnd ix iter
theorem ct100 (N:Nat) {a0:(List (Int × Int × (List (Int × Int))))} {a1f0_0:(List (Int × Int))} {a1f0_1:Int} {a1f0_2:(List (Int × Int × (List (Int × Int))))} {r:Bool} (hF:sf100 N a0 a1f0_0 a1f0_1 a1f0_2 = some r) (hd:D h0 n0) (hs:F0.sub h0) {pa0:Option (Nat × Nat)} {ca0:Nat} {pa1f0_0:Option (Nat × Nat)} {ca1f0_0:Nat} {pa1f0_2:Option (Nat × Nat)} {ca1f0_2:Nat} (ra0:RowF (rP rI (rP rI (rL (rP rI rI) 2))) 3 F0 pa0 ca0 a0) (ra1f0_0:RowF (rP rI rI) 2 F0 pa1f0_0 ca1f0_0 a1f0_0) (ra1f0_2:RowF (rP rI (rP rI (rL (rP rI rI) 2))) 3 F0 pa1f0_2 ca1f0_2 a1f0_2):C LW fl 100 [(.slice pa0 (a0).length ca0),(.func 101 [(.agg [(.slice pa1f0_0 (a1f0_0).length ca1f0_0),(i64 a1f0_1),(.slice pa1f0_2 (a1f0_2).length ca1f0_2)])] [])] ⟨h0,n0⟩ (KS (.bool r) n0 h0):=by
 unfold sf100 at hF
 refine yd hd hs lw100 rfl rfl (by rfl) (fun st T hT=>?_)
 have hfl:n0 ≤ n0:=Nat.le_refl n0
 have t0:=hT 0 _ rfl
 have t1:=hT 1 _ rfl
 dsimp only [L100]
 refine zd (zi ?_);refine za ?_;refine zc (th_n ?_);refine zd ?_;refine zd (zi ?_);refine za ?_;refine zS ?_;refine za ?_;refine zc (th_n ?_);refine zx ?_;obtain ⟨y15,hy,hF⟩:=zk hF;refine zU (sf100_L1 N a0 a1f0_0 a1f0_1 a1f0_2) (fun x1 T ds2 h nx=>∃ (F2:PH),ds2 = [] ∧ PH.le F0 F2 ∧ St n0 h0 F0 F2 h nx [] ∧ T.get 1 = some (.func 101 [(.agg [(.slice pa1f0_0 (a1f0_0).length ca1f0_0),(i64 a1f0_1),(.slice pa1f0_2 (a1f0_2).length ca1f0_2)])] []) ∧ T.get 7 = some (.slice pa0 (a0).length ca0) ∧ T.get 8 = some (i64 ((a0).length:Int)) ∧ T.get 9 = some (i64 x1)) (fun y e a σ=>(∃ u,y = (.inl u) ∧ e = .ret ∧ a.nt = 18 ∧ ∃ (F17:PH),a.defers = [] ∧ PH.le F0 F17 ∧ St n0 h0 F0 F17 σ.h σ.nx [] ∧ a.tmps.get 4 = some (.bool false)) ∨ (∃ u,y = (.inr u) ∧ e = .exit 0 ∧ a.nt = 18 ∧ ∃ (F19:PH),a.defers = [] ∧ PH.le F0 F19 ∧ St n0 h0 F0 F19 σ.h σ.nx [])) (fun x1 T ds2 h nx s hp hF=>?_) N _ y15 _ _ _ _ hy ⟨F0,rfl,(PH.le.refl _),st,gA,gA,gA,gA⟩ (fun e a σ hne hq=>?_)
 ·obtain ⟨F2,rfl,le2,st,t1,t7,t8,t9⟩:=hp;unfold sf100_L1 at hF;unfold L100w0;refine zd (zi ?_);refine yk ?_;refine zc (th_n ?_);refine zd ?_;refine zB (fun hb20=>?_) (fun hb20=>?_)
  ·have hF:=zt hb20 hF;refine zC (th_n ?_);refine zd ?_;refine zx ?_;refine zd (zi ?_);obtain ⟨n21,x21,z21,l21,g21,hF⟩:=zE hF;obtain ⟨b21,o21,s21,j21,r21,e21,f21,k21,⟨_,_,rfl,rfl,⟨_,_,rfl,rfl,⟨py22,cy22,rfl,ry22⟩⟩⟩⟩:=RowF.get ra0 g21;refine zV e21 z21 l21 ?_;refine zT (st.sub _ _ (le2 _ _ f21)) k21 ?_;refine z6 st (fun b23 h24 n25 st=>?_);refine v_st (cs':=[(i64 x21.1),(i64 x21.2.1),(.slice py22 (x21.2.2).length cy22)]) st 0 rfl rfl rfl rfl hfl (fun h26 st=>?_);refine zc (th_n ?_);refine zd (zi ?_);refine za ?_;refine zT (vs:=[(i64 x21.1),(i64 x21.2.1),(.slice py22 (x21.2.2).length cy22)]) (st.at (i:=0) rfl).2.2 rfl ?_
   obtain ⟨v27,e28,hF⟩:=zk hF;refine zL st (ct101 N e28 st.d st.sub (RowF.mono le2 ra1f0_0) (RowF.mono le2 ra1f0_2) (RowF.mono le2 ry22)) (fun n29 st=>?_);refine yD ?_;refine zc (th_n ?_);refine zB (fun hb30=>?_) (fun hb30=>?_)
   ·have hF:=zt hb30 hF;refine zd (zi ?_);refine za ?_;refine zc (th_n ?_);refine zy ?_;refine ib_r ?_;refine th_r ?_;refine th_r ?_;refine ⟨_,(inj hF).symm,.inl ⟨_,rfl,rfl,rfl,?_⟩⟩;dsimp only
    exact ⟨F2,rfl,le2,(st.drop (by first | exact List.Sublist.refl _ | (repeat first | exact List.nil_sublist _ | refine List.Sublist.cons_cons _ ?_ | refine List.Sublist.cons _ ?_))),gA⟩
   ·have hF:=zu hb30 hF;refine zC ?_;refine ib_n ?_;refine th_n ?_;refine zi ?_;obtain ⟨q31,hF⟩:=zH hF;refine yl q31 ?_;refine za ?_;refine zc ?_;refine thn ⟨_,(inj hF).symm,rfl,?_⟩;dsimp only
    exact ⟨F2,rfl,le2,(st.drop (by first | exact List.Sublist.refl _ | (repeat first | exact List.nil_sublist _ | refine List.Sublist.cons_cons _ ?_ | refine List.Sublist.cons _ ?_))),gA,gA,gA,gA⟩
  ·have hF:=zu hb20 hF;refine z7 ?_;refine th_e ?_;refine th_e ?_;refine ⟨_,(inj hF).symm,.inr (⟨_,rfl,rfl,rfl,?_⟩)⟩;dsimp only
   exact ⟨F2,rfl,le2,st⟩
 ·rcases hq with hq | hq
  ·obtain ⟨N9,T,ds17⟩:=a;obtain ⟨h32,n33⟩:=σ;obtain ⟨w16,rfl,rfl,e1,F17,e2,le17,st,t4⟩:=hq
   dsimp only at e1 e2
   subst e1
   subst e2
   dsimp only at st t4
   have hF:=yc hF;refine ib_r ?_;refine th_r ?_;obtain rfl:=inj hF
   exact zD st (Res.t gA Res.nil) rfl rfl
  ·obtain ⟨N9,T,ds19⟩:=a;obtain ⟨h34,n35⟩:=σ;obtain ⟨w18,rfl,rfl,e1,F19,e2,le19,st⟩:=hq
   dsimp only at e1 e2
   subst e1
   subst e2
   dsimp only at st
   have hF:=yb hF;refine ib_e ?_;refine th_n ?_;refine zd (zi ?_);refine za ?_;refine zc (th_n ?_);refine zy ?_;obtain rfl:=inj hF
   exact zD st (Res.t gA Res.nil) rfl rfl
end Go.Hx.V

namespace Go.Hx.V
open Go.Hx
set_option maxRecDepth 20000
set_option maxHeartbeats 4000000
variable {fl : Nat} {h0 : Tr HBlk} {n0 : Nat} {F0 : PH}
attribute [local irreducible] W R C thenH inBlockH Tr.get Tr.set lo ck bnd ix iter
theorem ct69 (N:Nat) {a0_0:(List (Int × Int))} {a0_1:Int} {a0_2:(List (Int × Int × (List (Int × Int))))} {r:Bool} (hF:sf69 N a0_0 a0_1 a0_2 = some r) (hd:D h0 n0) (hs:F0.sub h0) {pa0_0:Option (Nat × Nat)} {ca0_0:Nat} {pa0_2:Option (Nat × Nat)} {ca0_2:Nat} (ra0_0:RowF (rP rI rI) 2 F0 pa0_0 ca0_0 a0_0) (ra0_2:RowF (rP rI (rP rI (rL (rP rI rI) 2))) 3 F0 pa0_2 ca0_2 a0_2):C LW fl 69 [(.agg [(.slice pa0_0 (a0_0).length ca0_0),(i64 a0_1),(.slice pa0_2 (a0_2).length ca0_2)])] ⟨h0,n0⟩ (KS (.bool r) n0 h0):=by
 unfold sf69 at hF
 refine yd hd hs lw69 rfl rfl (by rfl) (fun st T hT=>?_)
 have hfl:n0 ≤ n0:=Nat.le_refl n0
 have t0:=hT 0 _ rfl
 dsimp only [L69]
 refine zd (zi ?_);refine ya st (fun b1 h2 n3 st=>?_);refine za ?_;refine zc (th_n ?_);refine zd (zi ?_);refine v_fa ?_;refine zn (st.at (i:=0) rfl).2.2 rfl ?_;refine zS ?_;refine vL ?_;refine za ?_
 rcases Bool.eq_false_or_eq_true (decide ((0:Int) < ((a0_0).length:Int))) with hb4 | hb4
 ·have hF:=zt hb4 hF;refine zj hb4 (v_fa ?_);refine zj hb4 (zn (st.at (i:=0) rfl).2.2 rfl ?_);obtain ⟨v5,e6,hF⟩:=zk hF;refine zj hb4 (zL st (ct98 N e6 st.d st.sub ra0_0) (fun n7 st=>?_));refine zQ hb4 ?_;refine za ?_
  rcases Bool.eq_false_or_eq_true v5 with hb8 | hb8
  ·have hF:=zt hb8 hF;refine zj hb8 (v_fa ?_);refine zj hb8 (zn (st.at (i:=0) rfl).2.2 rfl ?_);refine zj hb8 (yY ?_);refine zQ hb8 ?_;refine za ?_
   rcases Bool.eq_false_or_eq_true (decide ((0:Int) ≤ a0_1)) with hb9 | hb9
   ·have hF:=zt hb9 hF;refine zj hb9 (v_fa ?_);refine zj hb9 (zn (st.at (i:=0) rfl).2.2 rfl ?_);refine zj hb9 (yY ?_);refine zQ hb9 ?_;refine za ?_
    rcases Bool.eq_false_or_eq_true (decide (a0_1 ≤ (20:Int))) with hb10 | hb10
    ·have hF:=zt hb10 hF;refine zj hb10 (v_fa ?_);refine zj hb10 (zn (st.at (i:=0) rfl).2.2 rfl ?_);refine zj hb10 (zT (vs:=[(.slice pa0_0 (a0_0).length ca0_0),(i64 a0_1),(.slice pa0_2 (a0_2).length ca0_2)]) (st.at (i:=0) rfl).2.2 rfl ?_);refine zj hb10 (v_mf ?_);obtain ⟨v11,e12,hF⟩:=zk hF;refine zj hb10 (zL st (ct100 N e12 st.d st.sub ra0_2 ra0_0 ra0_2) (fun n13 st=>?_));refine zQ hb10 ?_;refine za ?_;refine zc (th_n ?_);refine zy ?_;obtain rfl:=inj hF
     exact zD st (Res.t gA Res.nil) rfl rfl
    ·have hF:=zu hb10 hF;refine zg hb10 ?_;refine zg hb10 ?_;refine zg hb10 ?_;refine zg hb10 ?_;refine zg hb10 ?_;refine zA hb10 ?_;refine za ?_;refine zc (th_n ?_);refine zy ?_;obtain rfl:=inj hF
     exact zD st (Res.t gA Res.nil) rfl rfl
   ·have hF:=zu hb9 hF;refine zg hb9 ?_;refine zg hb9 ?_;refine zg hb9 ?_;refine zA hb9 ?_;refine za ?_;refine zg rfl ?_;refine zg rfl ?_;refine zg rfl ?_;refine zg rfl ?_;refine zg rfl ?_;refine zA rfl ?_;refine za ?_;refine zc (th_n ?_);refine zy ?_;obtain rfl:=inj hF
    exact zD st (Res.t gA Res.nil) rfl rfl
  ·have hF:=zu hb8 hF;refine zg hb8 ?_;refine zg hb8 ?_;refine zg hb8 ?_;refine zA hb8 ?_;refine za ?_;refine zg rfl ?_;refine zg rfl ?_;refine zg rfl ?_;refine zA rfl ?_;refine za ?_;refine zg rfl ?_;refine zg rfl ?_;refine zg rfl ?_;refine zg rfl ?_;refine zg rfl ?_;refine zA rfl ?_;refine za ?_;refine zc (th_n ?_);refine zy ?_;obtain rfl:=inj hF
   exact zD st (Res.t gA Res.nil) rfl rfl
 ·have hF:=zu hb4 hF;refine zg hb4 ?_;refine zg hb4 ?_;refine zg hb4 ?_;refine zA hb4 ?_;refine za ?_;refine zg rfl ?_;refine zg rfl ?_;refine zg rfl ?_;refine zA rfl ?_;refine za ?_;refine zg rfl ?_;refine zg rfl ?_;refine zg rfl ?_;refine zA rfl ?_;refine za ?_;refine zg rfl ?_;refine zg rfl ?_;refine zg rfl ?_;refine zg rfl ?_;refine zg rfl ?_;refine zA rfl ?_;refine za ?_;refine zc (th_n ?_);refine zy ?_;obtain rfl:=inj hF
  exact zD st (Res.t gA Res.nil) rfl rfl
end Go.Hx.V

namespace Go.Hx.V
open Go.Hx
set_option maxRecDepth 20000
set_option maxHeartbeats 4000000
variable {fl : Nat} {h0 : Tr HBlk} {n0 : Nat} {F0 : PH}
attribute [local irreducible] W R C thenH inBlockH Tr.get Tr.set lo ck bnd ix iter
theorem ct21 (N:Nat) {a0_0:(List (Int × Int))} {a0_1:Int} {a0_2:(List (Int × Int × (List (Int × Int))))} {r:Int} (hF:sf21 N a0_0 a0_1 a0_2 = some r) (hd:D h0 n0) (hs:F0.sub h0) {pa0_0:Option (Nat × Nat)} {ca0_0:Nat} {pa0_2:Option (Nat × Nat)} {ca0_2:Nat} (ra0_0:RowF (rP rI rI) 2 F0 pa0_0 ca0_0 a0_0) (ra0_2:RowF (rP rI (rP rI (rL (rP rI rI) 2))) 3 F0 pa0_2 ca0_2 a0_2):C LW fl 21 [(.agg [(.slice pa0_0 (a0_0).length ca0_0),(i64 a0_1),(.slice pa0_2 (a0_2).length ca0_2)])] ⟨h0,n0⟩ (KS (i64 r) n0 h0):=by
 unfold sf21 at hF
 refine yd hd hs lw21 rfl rfl (by rfl) (fun st T hT=>?_)
 have hfl:n0 ≤ n0:=Nat.le_refl n0
 have t0:=hT 0 _ rfl
 dsimp only [L21]
 refine zd (zi ?_);refine ya st (fun b1 h2 n3 st=>?_);refine za ?_;refine zc (th_n ?_);refine zd ?_;obtain ⟨y5,hA6,hF⟩:=zk hF;refine ye (fun T ds8 h nx=>∃ (F8:PH),ds8 = [] ∧ PH.le F0 F8 ∧ St n0 h0 F0 F8 h nx [.bx b1 [(.slice pa0_0 (a0_0).length ca0_0),(i64 a0_1),(.slice pa0_2 (a0_2).length ca0_2)]] ∧ T.get 1 = some (.ptr (some (b1,0))) ∧ T.get 12 = some (.bool y5)) ?_ (fun T ds8 h nx hp=>?_)
 ·have hK7:=hF
  have hF:=hA6;refine zi ?_;refine v_fa ?_;refine zn (st.at (i:=0) rfl).2.2 rfl ?_;refine zS ?_;refine vL ?_;refine za ?_
  rcases Bool.eq_false_or_eq_true (decide ((6:Int) < ((a0_0).length:Int))) with hb9 | hb9
  ·have hF:=zt hb9 hF;refine zg hb9 ?_;refine zg hb9 ?_;refine zg hb9 ?_;refine zg hb9 ?_;refine zQ hb9 ?_;refine zc ?_;obtain rfl:=inj hF;refine thn ⟨rfl,?_⟩;dsimp only
   exact ⟨F0,rfl,(PH.le.refl _),st,gA,gA⟩
  ·have hF:=zu hb9 hF;refine zj hb9 (v_fa ?_);refine zj hb9 (zn (st.at (i:=0) rfl).2.2 rfl ?_);refine zj hb9 (zS ?_);refine zj hb9 (vL ?_);refine zA hb9 ?_;refine zc ?_;obtain rfl:=inj hF;refine thn ⟨rfl,?_⟩;dsimp only
   exact ⟨F0,rfl,(PH.le.refl _),st,gA,gA⟩
 ·obtain ⟨F8,rfl,le8,st,t1,t12⟩:=hp;refine zB (fun hb10=>?_) (fun hb10=>?_)
  ·have hF:=zt hb10 hF;refine zd (zi ?_);refine za ?_;refine zc (th_n ?_);refine zy ?_;refine th_r ?_;obtain rfl:=inj hF
   exact zD st (Res.t gA Res.nil) rfl rfl
  ·have hF:=zu hb10 hF;refine zC (th_n ?_);refine zd ?_;refine zd (zi ?_);refine zT (vs:=[(.slice pa0_0 (a0_0).length ca0_0),(i64 a0_1),(.slice pa0_2 (a0_2).length ca0_2)]) (st.at (i:=0) rfl).2.2 rfl ?_;obtain ⟨v11,e12,hF⟩:=zk hF;refine zL st (ct69 N e12 st.d st.sub (RowF.mono le8 ra0_0) (RowF.mono le8 ra0_2)) (fun n13 st=>?_);refine yD ?_;refine zc (th_n ?_);refine zB (fun hb14=>?_) (fun hb14=>?_)
   ·have hF:=zt hb14 hF;refine zd (zi ?_);refine za ?_;refine zc (th_n ?_);refine zy ?_;refine th_r ?_;obtain rfl:=inj hF
    exact zD st (Res.t gA Res.nil) rfl rfl
   ·have hF:=zu hb14 hF;refine zC (th_n ?_);refine zd (zi ?_);refine za ?_;refine zc (th_n ?_);refine zy ?_;obtain rfl:=inj hF
    exact zD st (Res.t gA Res.nil) rfl rfl
end Go.Hx.V

