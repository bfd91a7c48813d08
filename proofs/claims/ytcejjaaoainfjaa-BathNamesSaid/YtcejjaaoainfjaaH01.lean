import Derived.Test.YtcejjaaoainfjaaH00
import Derived.Test.YtcejjaaoainfjaaProg
import Derived.ProofKit
set_option linter.all false
namespace Go.Hx
set_option maxRecDepth 100000
noncomputable section
abbrev F.m (d x:Nat):zb:=⟨some d,.move (.t x),none,[]⟩
abbrev F.f (d k x:Nat):zb:=⟨some d,.fieldAddr k (.t x),none,[]⟩
abbrev F.l (d x:Nat):zb:=⟨some d,.load false 1 (.t x),none,[]⟩
abbrev F.g (d n x:Nat):zb:=⟨some d,.load true n (.t x),none,[]⟩
abbrev F.x (d x k:Nat):zb:=⟨some d,.extract (.t x) k,none,[]⟩
abbrev F.s (n x y:Nat):zb:=⟨none,.store n (.t x) (.t y),none,[]⟩
abbrev F.i (n:Int):HV:=.int .i64 n
abbrev F.c (f:Nat) (a:List Lo):LOp:=.call (.c (.func f [] [])) a
abbrev F.b (o:BinOp) (x y:Lo):LOp:=.bin o x y
abbrev F.k (n:Int):Lo:=.c (.int .i64 n)
abbrev F.t (n:Nat):Lo:=.t n
open F
abbrev o (d:Nat) (p:LOp):zb:=⟨some d,p,none,[]⟩
abbrev og (d:Nat) (p:LOp) (t:Nat) (b:Bool):zb:=⟨some d,p,some (t,b),[]⟩
abbrev on (p:LOp):zb:=⟨none,p,none,[]⟩
noncomputable abbrev vO:=viaOff Go.Proofs.Try.prog
noncomputable abbrev LP:Nat → Option ze:=lowP Go.Proofs.Try.prog [22,24,27,28,29,35,36,37,38,40,44,45,46,49,52,54,55,56,58,59,61,65,66,71,74,79,80,82,83,89,93,94,103,107,108,109,120,121,122,129]
def L4s0:zk:=(.cond (t 13) (.seq (.reg [(o 14 (c 20 [])),(m 2 14)]) .ret) .skip)
def L4r0:List zb:=[(x 20 15 1),(m 3 19),(m 4 20)]
def L4r1:List zb:=[(x 26 21 1),(m 5 25),(m 6 26)]
def L4r2:List zb:=[(x 36 31 2),(m 8 34),(m 9 35),(m 10 36)]
def L4s1:zk:=(.cond (t 38) (.reg [(o 7 (.move (k 9)))]) .skip)
def L4s2:zk:=(.seq (.reg [(m 37 10),(o 38 (.un .not (t 37)))]) L4s1)
def L4s3:zk:=(.seq (.reg ((g 32 3 1) :: (o 33 (c 29 [(t 32)])) :: (m 31 33) :: (x 34 31 0) :: (x 35 31 1) :: L4r2)) L4s2)
def L4s4:zk:=(.cond (t 30) (.seq (.reg [(o 10 (.move (.c (.bool .false))))]) L4s3) .skip)
def L4r3:List zb:=[(o 56 (.pick (t 49) (t 55) (.c (.bool .false)))),(m 57 56),(og 58 (c 20 []) 57 .true),(o 59 (.pick (t 57) (t 58) (.c (.bool .false)))),(m 2 59)]
def L4r4:List zb:=((og 51 (.len .slice (t 50)) 49 .true) :: (og 52 (.move (t 5)) 49 .true) :: (og 53 (.len .slice (t 52)) 49 .true) :: (og 54 (b .add (t 51) (t 53)) 49 .true) :: (og 55 (.eq (.cell (.i .i64)) .false (t 54) (k 0)) 49 .true) :: L4r3)
def L4r5:List zb:=((og 46 (.move (t 7)) 44 .true) :: (og 47 (.eq (.cell (.i .i64)) .false (t 45) (t 46)) 44 .true) :: (o 48 (.pick (t 44) (t 47) (.c (.bool .false)))) :: (m 49 48) :: (og 50 (.move (t 3)) 49 .true) :: L4r4)
def L4s5:zk:=(.cond (t 40) (.seq (.reg ((m 41 4) :: (m 42 7) :: (o 43 (.eq (.cell (.i .i64)) .false (t 41) (t 42))) :: (m 44 43) :: (og 45 (.move (t 6)) 44 .true) :: L4r5)) .ret) .skip)
def L4r6:List zb:=[(o 75 (.pick (t 71) (t 74) (.c (.bool .false)))),(m 76 75),(og 77 (c 20 []) 76 .true),(o 78 (.pick (t 76) (t 77) (.c (.bool .false)))),(m 2 78)]
def L4r7:List zb:=((o 70 (.pick (t 67) (t 69) (.c (.bool .false)))) :: (m 71 70) :: (og 72 (.move (t 5)) 71 .true) :: (og 73 (.move (t 9)) 71 .true) :: (og 74 (c 30 [(t 72),(t 73)]) 71 .true) :: L4r6)
def L4r8:List zb:=((og 65 (c 30 [(t 63),(t 64)]) 62 .true) :: (o 66 (.pick (t 62) (t 65) (.c (.bool .false)))) :: (m 67 66) :: (og 68 (.move (t 6)) 67 .true) :: (og 69 (.eq (.cell (.i .i64)) .false (t 68) (k 0)) 67 .true) :: L4r7)
def L4s6:zk:=(.seq (.reg ((m 60 4) :: (o 61 (.eq (.cell (.i .i64)) .false (t 60) (k 0))) :: (m 62 61) :: (og 63 (.move (t 3)) 62 .true) :: (og 64 (.move (t 8)) 62 .true) :: L4r8)) .ret)
def L4s7:zk:=(.seq (.seq (.reg [(m 39 7),(o 40 (.eq (.cell (.i .i64)) .true (t 39) (k 0)))]) L4s5) L4s6)
def L4s8:zk:=(.seq (.seq (.reg [(m 29 7),(o 30 (.eq (.cell (.i .i64)) .false (t 29) (k 0)))]) L4s4) L4s7)
def L4s9:zk:=(.seq (.reg [(o 8 (.move (.c (.slice .none 0 0)))),(o 9 (.move (.c (.slice .none 0 0))))]) L4s8)
def L4s10:zk:=(.seq (.reg [(g 27 3 1),(o 28 (c 25 [(t 27)])),(m 7 28)]) L4s9)
def L4s11:zk:=(.seq (.reg ((g 22 3 1) :: (o 23 (c 22 [(t 22)])) :: (o 24 (c 28 [(t 23)])) :: (m 21 24) :: (x 25 21 0) :: L4r1)) L4s10)
def L4s12:zk:=(.seq (.reg ((g 16 3 1) :: (o 17 (c 22 [(t 16)])) :: (o 18 (c 27 [(t 17)])) :: (m 15 18) :: (x 19 15 0) :: L4r0)) L4s11)
def L4s13:zk:=(.seq (.seq (.reg [(g 11 3 1),(o 12 (c 19 [(t 11)])),(o 13 (.un .not (t 12)))]) L4s0) L4s12)
def L4:ze:=⟨79,(.seq (.reg [(o 1 (.box (t 0))),(o 2 (.move (.c (.bool .false))))]) L4s13),[(.t 2)],.false,.none,vO⟩
end
end Go.Hx

