import Derived.Test.YtjjnncelpnijiaaGreatH00
import Derived.Test.YtjjnncelpnijiaaGreatProg
import Derived.ProofKit
set_option linter.all false
namespace Go.Hx
set_option maxRecDepth 100000
noncomputable section
abbrev F.m (d x:Nat):zo:=⟨some d,.move (.t x),none,[]⟩
abbrev F.f (d k x:Nat):zo:=⟨some d,.fieldAddr k (.t x),none,[]⟩
abbrev F.l (d x:Nat):zo:=⟨some d,.load false 1 (.t x),none,[]⟩
abbrev F.g (d n x:Nat):zo:=⟨some d,.load true n (.t x),none,[]⟩
abbrev F.x (d x k:Nat):zo:=⟨some d,.extract (.t x) k,none,[]⟩
abbrev F.s (n x y:Nat):zo:=⟨none,.store n (.t x) (.t y),none,[]⟩
abbrev F.i (n:Int):HV:=.int .i64 n
abbrev F.c (f:Nat) (a:List Lo):LOp:=.call (.c (.func f [] [])) a
abbrev F.b (o:BinOp) (x y:Lo):LOp:=.bin o x y
abbrev F.k (n:Int):Lo:=.c (.int .i64 n)
abbrev F.t (n:Nat):Lo:=.t n
open F
abbrev o (d:Nat) (p:LOp):zo:=⟨some d,p,none,[]⟩
abbrev oa (d:Nat) (p:LOp) (a:List Nat):zo:=⟨some d,p,none,a⟩
abbrev og (d:Nat) (p:LOp) (t:Nat) (b:Bool):zo:=⟨some d,p,some (t,b),[]⟩
abbrev oga (d:Nat) (p:LOp) (t:Nat) (b:Bool) (a:List Nat):zo:=⟨some d,p,some (t,b),a⟩
abbrev on (p:LOp):zo:=⟨none,p,none,[]⟩
abbrev ona (p:LOp) (a:List Nat):zo:=⟨none,p,none,a⟩
def Zr (n:Nat):List HV:=List.replicate n (i 0)
noncomputable abbrev vO:=viaOff Go.Proofs.Tryz.prog
noncomputable abbrev LP:Nat → Option zr:=lowP Go.Proofs.Tryz.prog [21,22,23,24,37,41,42,43,48,49,53,58,60,63,65,66,67,70,80,82,87,88,89,90,92,93,95,100,105,108,115,125,128,129,148,149,159,166,167,170,171]
def L4s0:zk:=(.cond (t 17) (.seq (.reg [(o 18 (c 19 [])),(m 8 18)]) .ret) .skip)
def L4r0:List zo:=[(o 9 (.alloc [(i 0),(i 0)])),(ona (.store 2 (t 9) (t 27)) [10,6,3,1]),(oa 10 (.move (t 28)) [10,6,3,1])]
def L4r1:List zo:=((m 25 3) :: (oa 26 (c 30 [(t 21),(t 23),(t 24),(t 25)]) [3,1]) :: (oa 19 (.move (t 26)) [6,3,1]) :: (oa 27 (.extract (t 19) 0) [6,3,1]) :: (oa 28 (.extract (t 19) 1) [6,3,1]) :: L4r0)
def L4r2:List zo:=[(o 47 (.un .not (t 46))),(m 48 47),(og 49 (.move (t 3)) 48 .false),(og 50 (c 25 [(t 49),(k 0),(k 10000)]) 48 .false),(og 51 (.un .not (t 50)) 48 .false),(o 52 (.pick (t 48) (.c (.bool .true)) (t 51))),(m 41 52)]
def L4s1:zk:=(.cond (t 41) (.reg [(o 12 (.move (k 2)))]) .skip)
def L4s2:zk:=(.cond (t 37) (.reg [(o 12 (.move (k 1)))]) (.seq (.reg ((m 42 2) :: (f 43 0 4) :: (f 44 0 43) :: (l 45 44) :: (o 46 (c 25 [(t 42),(k 0),(t 45)])) :: L4r2)) L4s1))
def L4s3:zk:=(.cond (t 34) .skip (.seq (.reg [(g 38 2 5),(o 39 (c 32 [(t 38)])),(o 40 (.un .not (t 39))),(m 37 40)]) L4s2))
def L4r3:List zo:=[(og 60 (.build [(i 0),(i 0)] []) 58 .true),(og 61 (.eq (.row [(.i .i64),(.i .i64)]) .false (t 59) (t 60)) 58 .true),(o 62 (.pick (t 58) (t 61) (.c (.bool .false)))),(m 63 62),(og 64 (c 19 []) 63 .true),(o 65 (.pick (t 63) (t 64) (.c (.bool .false)))),(m 8 65)]
def L4s4:zk:=(.cond (t 54) (.seq (.reg ((m 55 10) :: (m 56 12) :: (o 57 (.eq (.cell (.i .i64)) .false (t 55) (t 56))) :: (m 58 57) :: (og 59 (.load .true 2 (t 9)) 58 .true) :: L4r3)) .ret) .skip)
def L4r4:List zo:=[(g 71 10 4),(o 72 (c 27 [(t 71)])),(m 73 3),(oa 74 (c 26 [(t 66),(t 70),(t 72),(t 73)]) [6]),(o 13 (.alloc [(i 0),(i 0)])),(ona (.store 2 (t 13) (t 74)) [9,8,6])]
def L4r5:List zo:=[(l 80 79),(o 81 (.build [(i 0),(i 0)] [(0,(1,(t 78))),(1,(1,(t 80)))])),(o 82 (c 33 [(t 75),(t 76),(t 81)])),(o 14 (.alloc [(i 0),(i 0)])),(s 2 14 82)]
def L4r6:List zo:=[(o 93 (.pick (t 85) (t 92) (.c (.bool .false)))),(m 94 93),(og 95 (c 19 []) 94 .true),(o 96 (.pick (t 94) (t 95) (.c (.bool .false)))),(m 8 96)]
def L4r7:List zo:=((og 88 (.load .false 1 (t 87)) 85 .true) :: (og 89 (.fieldAddr 1 (t 14)) 85 .true) :: (og 90 (.load .false 1 (t 89)) 85 .true) :: (og 91 (.build [(i 0),(i 0)] [(0,(1,(t 88))),(1,(1,(t 90)))]) 85 .true) :: (og 92 (.eq (.row [(.i .i64),(.i .i64)]) .false (t 86) (t 91)) 85 .true) :: L4r6)
def L4s5:zk:=(.seq (.reg ((m 83 10) :: (o 84 (.eq (.cell (.i .i64)) .false (t 83) (k 0))) :: (m 85 84) :: (og 86 (.load .true 2 (t 9)) 85 .true) :: (og 87 (.fieldAddr 0 (t 14)) 85 .true) :: L4r7)) .ret)
def L4s6:zk:=(.seq (.reg ((o 75 (.build [(i 0),(i 0)] [(0,(1,(k 0))),(1,(1,(k 1000)))])) :: (g 76 2 5) :: (f 77 0 13) :: (l 78 77) :: (f 79 1 13) :: L4r5)) L4s5)
def L4s7:zk:=(.seq (.draw 10 ((g 66 10 4) :: (m 67 11) :: (m 68 2) :: (o 69 (.indexAddrS 2 (t 67) (t 68))) :: (g 70 2 69) :: L4r4)) L4s6)
def L4s8:zk:=(.seq (.seq (.reg [(m 53 12),(o 54 (.eq (.cell (.i .i64)) .true (t 53) (k 0)))]) L4s4) L4s7)
def L4s9:zk:=(.seq (.block 0 (.seq (.reg [(m 35 12),(o 36 (.eq (.cell (.i .i64)) .true (t 35) (k 0))),(m 34 36)]) L4s3)) L4s8)
def L4s10:zk:=(.seq (.reg [(g 30 10 4),(o 31 (c 24 [(t 30)])),(m 29 31),(x 32 29 0),(x 33 29 1),(m 11 32),(m 12 33)]) L4s9)
def L4s11:zk:=(.seq (.draw 11 ((g 20 10 4) :: (o 21 (c 21 [(t 20)])) :: (g 22 2 5) :: (oa 23 (c 31 [(t 22)]) [1]) :: (m 24 2) :: L4r1)) L4s10)
def L4s12:zk:=(.seq (.seq (.reg [(g 15 10 4),(o 16 (c 18 [(t 15)])),(o 17 (.un .not (t 16)))]) L4s0) L4s11)
def L4:zr:=⟨97,(.seq (.reg [(o 4 (.box (t 0))),(o 5 (.box (t 1))),(o 8 (.move (.c (.bool .false))))]) L4s12),[(.t 8)],.false,.none,vO⟩
def L40r0:List zo:=[(og 8 (.fieldAddr 5 (t 1)) 7 .false),(og 9 (.load .false 1 (t 8)) 7 .false),(og 10 (.len .slice (t 9)) 7 .false),(og 11 (b .gtr (t 10) (k 8)) 7 .false),(o 12 (.pick (t 7) (.c (.bool .true)) (t 11)))]
def L40s0:zk:=(.cond (t 12) (.seq (.reg [(o 2 (.move (k 3)))]) .ret) .skip)
def L40r1:List zo:=[(oga 58 (.load .false 1 (t 57)) 55 .false [39,29,9,4]),(oga 59 (b .gtr (t 58) (k 100)) 55 .false [39,29,9,4]),(oa 60 (.pick (t 55) (.c (.bool .true)) (t 59)) [39,29,9,4])]
def L40r2:List zo:=((oga 53 (.un .not (t 52)) 45 .false [39,29,9,4]) :: (oa 54 (.pick (t 45) (.c (.bool .true)) (t 53)) [39,29,9,4]) :: (oa 55 (.move (t 54)) [39,29,9,4]) :: (oga 56 (.fieldAddr 8 (t 1)) 55 .false [39,29,9,4]) :: (oga 57 (.fieldAddr 1 (t 56)) 55 .false [39,29,9,4]) :: L40r1)
def L40r3:List zo:=((oga 48 (.load .false 1 (t 47)) 45 .false [29,9,4]) :: (oga 49 (.fieldAddr 8 (t 1)) 45 .false [29,9,4]) :: (oga 50 (.fieldAddr 1 (t 49)) 45 .false [29,9,4]) :: (oga 51 (.load .false 1 (t 50)) 45 .false [29,9,4]) :: (oga 52 (c 25 [(t 48),(k 0),(t 51)]) 45 .false [29,9,4]) :: L40r2)
def L40r4:List zo:=((oga 43 (.un .not (t 42)) 25 .false [29,9,4]) :: (oa 44 (.pick (t 25) (.c (.bool .true)) (t 43)) [29,9,4]) :: (oa 45 (.move (t 44)) [29,9,4]) :: (oga 46 (.fieldAddr 8 (t 1)) 45 .false [29,9,4]) :: (oga 47 (.fieldAddr 0 (t 46)) 45 .false [29,9,4]) :: L40r3)
def L40r5:List zo:=((oga 38 (b .sub (t 37) (k 1)) 25 .false [9,4]) :: (oga 39 (.indexAddrS 2 (t 34) (t 38)) 25 .false [9,4]) :: (oga 40 (.fieldAddr 0 (t 39)) 25 .false [9,4]) :: (oga 41 (.load .false 1 (t 40)) 25 .false [9,4]) :: (oga 42 (c 86 [(t 27),(t 32),(t 41)]) 25 .false [9,4]) :: L40r4)
def L40r6:List zo:=((oga 33 (.fieldAddr 5 (t 1)) 25 .false [9,4]) :: (oga 34 (.load .false 1 (t 33)) 25 .false [9,4]) :: (oga 35 (.fieldAddr 5 (t 1)) 25 .false [9,4]) :: (oga 36 (.load .false 1 (t 35)) 25 .false [9,4]) :: (oga 37 (.len .slice (t 36)) 25 .false [9,4]) :: L40r5)
def L40r7:List zo:=((oga 28 (.fieldAddr 5 (t 1)) 25 .false [9,4]) :: (oga 29 (.load .false 1 (t 28)) 25 .false [9,4]) :: (oga 30 (.indexAddrS 2 (t 29) (k 0)) 25 .false [9,4]) :: (oga 31 (.fieldAddr 0 (t 30)) 25 .false [9,4]) :: (oga 32 (.load .false 1 (t 31)) 25 .false [9,4]) :: L40r6)
def L40r8:List zo:=((oga 23 (.un .not (t 22)) 19 .false [9,4]) :: (oa 24 (.pick (t 19) (.c (.bool .true)) (t 23)) [9,4]) :: (oa 25 (.move (t 24)) [9,4]) :: (oga 26 (.fieldAddr 6 (t 1)) 25 .false [9,4]) :: (oga 27 (.load .true 2 (t 26)) 25 .false [9,4]) :: L40r7)
def L40r9:List zo:=((oa 18 (.eq (.cell (.i .i64)) .true (t 17) (k 0)) [4]) :: (oa 19 (.move (t 18)) [4]) :: (oga 20 (.fieldAddr 5 (t 1)) 19 .false [4]) :: (oga 21 (.load .false 1 (t 20)) 19 .false [4]) :: (oga 22 (c 85 [(t 21)]) 19 .false [4]) :: L40r8)
def L40s1:zk:=(.cond (t 60) (.seq (.reg [(o 2 (.move (k 1)))]) .ret) .skip)
def L40s2:zk:=(.seq (.seq (.draw 39 ((f 13 0 1) :: (g 14 4 13) :: (f 15 4 1) :: (l 16 15) :: (o 17 (c 84 [(t 14),(t 16)])) :: L40r9)) L40s1) (.seq (.reg [(o 2 (.move (k 0)))]) .ret))
def L40s3:zk:=(.seq (.seq (.reg ((f 3 4 1) :: (l 4 3) :: (o 5 (.len .slice (t 4))) :: (o 6 (b .gtr (t 5) (k 12))) :: (m 7 6) :: L40r0)) L40s0) L40s2)
def L40:zr:=⟨61,(.seq (.reg [(o 1 (.box (t 0))),(o 2 (.move (k 0)))]) L40s3),[(.t 2)],.false,.none,vO⟩
theorem lp40:LP 40 = some L40:=by kernel_rfl
def L52r0:List zo:=[(og 9 (.eq (.cell (.i .i64)) .false (t 8) (k 0)) 6 .true),(o 10 (.pick (t 6) (t 9) (.c (.bool .false)))),(m 2 10)]
def L52s0:zk:=(.seq (.reg ((g 4 10 1) :: (o 5 (c 18 [(t 4)])) :: (m 6 5) :: (og 7 (.load .true 10 (t 1)) 6 .true) :: (og 8 (c 40 [(t 7)]) 6 .true) :: L52r0)) .ret)
def L52s1:zk:=(.seq (.reg [(f 3 4 1),(on (.store 1 (t 3) (.c (.slice .none 0 0))))]) L52s0)
def L52:zr:=⟨11,(.seq (.reg [(o 1 (.box (t 0))),(o 2 (.move (.c (.bool .false))))]) L52s1),[(.t 2)],.false,.none,vO⟩
theorem lp52:LP 52 = some L52:=by kernel_rfl
def L56s0:zk:=(.reg [(m 10 6),(o 11 (b .add (t 10) (k 1))),(m 6 11)])
def L56s1:zk:=(.seq (.block 1 (.reg [(m 12 5),(m 13 0),(m 14 6),(o 15 (.indexAddrS 1 (t 13) (t 14))),(l 16 15),(o 17 (b .add (t 12) (t 16))),(m 5 17)])) L56s0)
def L56w0:zk:=(.seq (.seq (.reg [(m 7 6),(m 8 1),(o 9 (b .lss (t 7) (t 8)))]) (.cond (t 9) .skip (.exit 0))) L56s1)
def L56s2:zk:=(.seq (.reg [(m 18 5),(m 4 18)]) .ret)
def L56s3:zk:=(.seq (.seq (.reg [(o 6 (.move (k 0)))]) (.block 0 (.loop L56w0))) L56s2)
def L56:zr:=⟨19,(.seq (.reg [(o 4 (.move (k 0)))]) (.seq (.reg [(o 5 (.move (k 0)))]) L56s3)),[(.t 4)],.false,.none,vO⟩
theorem lp56:LP 56 = some L56:=by kernel_rfl
def L60r0:List zo:=[(g 26 2 25),(o 27 (c 97 [(t 26)])),(oa 28 (.build [(i 0),(i 0),(i 0),(i 0)] [(0,(1,(t 16))),(1,(1,(t 21))),(2,(2,(t 27)))]) [16]),(oa 29 (.buildSlice 1 [(i 0),(i 0),(i 0),(i 0)] [(0,(4,(t 28)))]) [16]),(oa 30 (.append 4 32 (t 11) (t 29)) [18,16]),(oa 3 (.move (t 30)) [19,18,16])]
def L60r1:List zo:=((l 21 20) :: (m 22 0) :: (m 23 4) :: (o 24 (.indexAddrS 4 (t 22) (t 23))) :: (f 25 2 24) :: L60r0)
def L60r2:List zo:=((l 16 15) :: (m 17 0) :: (m 18 4) :: (o 19 (.indexAddrS 4 (t 17) (t 18))) :: (f 20 1 19) :: L60r1)
def L60s0:zk:=(.reg [(m 9 4),(o 10 (b .add (t 9) (k 1))),(m 4 10)])
def L60s1:zk:=(.seq (.block 1 (.draw 17 ((m 11 3) :: (m 12 0) :: (m 13 4) :: (o 14 (.indexAddrS 4 (t 12) (t 13))) :: (f 15 0 14) :: L60r2))) L60s0)
def L60w0:zk:=(.seq (.seq (.reg [(m 5 4),(m 6 0),(o 7 (.len .slice (t 6))),(o 8 (b .lss (t 5) (t 7)))]) (.cond (t 8) .skip (.exit 0))) L60s1)
def L60s2:zk:=(.seq (.reg [(m 31 3),(m 2 31)]) .ret)
def L60s3:zk:=(.seq (.seq (.reg [(o 4 (.move (k 0)))]) (.block 0 (.loop L60w0))) L60s2)
def L60:zr:=⟨32,(.seq (.reg [(o 2 (.move (.c (.slice .none 0 0))))]) (.seq (.reg [(o 3 (.move (.c (.slice .none 0 0))))]) L60s3)),[(.t 2)],.true,.none,vO⟩
theorem lp60:LP 60 = some L60:=by kernel_rfl
def L68r0:List zo:=[(o 26 (b .sub (t 23) (t 25))),(o 27 (.build [(i 0),(i 0)] [(0,(1,(t 18))),(1,(1,(t 26)))])),(s 2 6 27)]
def L68r1:List zo:=((o 21 (.indexAddrA 11 2 (t 20) (t 19))) :: (f 22 1 21) :: (l 23 22) :: (f 24 0 7) :: (l 25 24) :: L68r0)
def L68r2:List zo:=((f 16 1 7) :: (l 17 16) :: (o 18 (b .sub (t 15) (t 17))) :: (m 19 1) :: (f 20 10 3) :: L68r1)
def L68s0:zk:=(.seq (.draw 15 ((m 11 1) :: (f 12 10 3) :: (o 13 (.indexAddrA 11 2 (t 12) (t 11))) :: (f 14 0 13) :: (l 15 14) :: L68r2)) .ret)
def L68s1:zk:=(.seq (.reg [(g 8 32 3),(m 9 2),(o 10 (c 106 [(t 8),(t 9)])),(o 7 (.alloc [(i 0),(i 0)])),(s 2 7 10)]) L68s0)
def L68:zr:=⟨28,(.seq (.reg [(o 3 (.box (t 0))),(o 6 (.alloc [(i 0),(i 0)]))]) L68s1),[(.cell 6 .true 2)],.false,.none,vO⟩
theorem lp68:LP 68 = some L68:=by kernel_rfl
def L84s0:zk:=(.cond (t 9) (.seq (.reg [(o 4 (.move (k 1)))]) .ret) .skip)
def L84s1:zk:=(.cond (t 12) (.seq (.reg [(o 4 (.move (k 3)))]) .ret) .skip)
def L84r0:List zo:=[(og 43 (c 124 [(t 42),(k 0),(k 2000)]) 40 .false),(og 44 (.un .not (t 43)) 40 .false),(o 45 (.pick (t 40) (.c (.bool .true)) (t 44)))]
def L84r1:List zo:=((og 38 (.un .not (t 37)) 30 .false) :: (o 39 (.pick (t 30) (.c (.bool .true)) (t 38))) :: (m 40 39) :: (og 41 (.fieldAddr 2 (t 6)) 40 .false) :: (og 42 (.load .true 2 (t 41)) 40 .false) :: L84r0)
def L84r2:List zo:=((og 33 (.fieldAddr 0 (t 6)) 30 .false) :: (og 34 (.load .false 1 (t 33)) 30 .false) :: (og 35 (.fieldAddr 0 (t 2)) 30 .false) :: (og 36 (.load .false 1 (t 35)) 30 .false) :: (og 37 (c 98 [(t 32),(t 34),(t 36)]) 30 .false) :: L84r1)
def L84r3:List zo:=((o 28 (c 98 [(t 24),(k 0),(t 27)])) :: (o 29 (.un .not (t 28))) :: (m 30 29) :: (og 31 (.fieldAddr 1 (t 6)) 30 .false) :: (og 32 (.load .false 1 (t 31)) 30 .false) :: L84r2)
def L84s2:zk:=(.cond (t 45) (.seq (.reg [(o 4 (.move (k 2)))]) .ret) .skip)
def L84s3:zk:=(.seq (.reg ((f 23 0 6) :: (l 24 23) :: (f 25 0 2) :: (l 26 25) :: (o 27 (b .sub (t 26) (k 1))) :: L84r3)) L84s2)
def L84s4:zk:=(.reg [(m 17 5),(o 18 (b .add (t 17) (k 1))),(m 5 18)])
def L84s5:zk:=(.seq (.block 1 (.seq (.reg [(m 19 1),(m 20 5),(o 21 (.indexAddrS 4 (t 19) (t 20))),(g 22 4 21),(o 6 (.alloc [(i 0),(i 0),(i 0),(i 0)])),(s 4 6 22)]) L84s3)) L84s4)
def L84w0:zk:=(.seq (.seq (.reg [(m 13 5),(m 14 1),(o 15 (.len .slice (t 14))),(o 16 (b .lss (t 13) (t 15)))]) (.cond (t 16) .skip (.exit 0))) L84s5)
def L84s6:zk:=(.seq (.seq (.reg [(o 5 (.move (k 0)))]) (.block 0 (.loop L84w0))) (.seq (.reg [(o 4 (.move (k 0)))]) .ret))
def L84s7:zk:=(.seq (.seq (.reg [(m 10 1),(o 11 (.len .slice (t 10))),(o 12 (b .gtr (t 11) (k 12)))]) L84s1) L84s6)
def L84s8:zk:=(.seq (.seq (.reg [(g 7 4 2),(o 8 (c 123 [(t 7)])),(o 9 (.un .not (t 8)))]) L84s0) L84s7)
def L84:zr:=⟨46,(.seq (.reg [(o 2 (.box (t 0))),(o 4 (.move (k 0)))]) L84s8),[(.t 4)],.false,.none,vO⟩
theorem lp84:LP 84 = some L84:=by kernel_rfl
def L92r0:List zo:=[(o 45 (b .sub (t 39) (t 44))),(o 46 (.min [(t 38),(t 45)])),(m 9 35),(m 10 46)]
def L92r1:List zo:=((m 40 8) :: (f 41 2 2) :: (f 42 0 41) :: (l 43 42) :: (o 44 (b .mul (t 40) (t 43))) :: L92r0)
def L92r2:List zo:=((o 35 (.max [(t 27),(t 34)])) :: (f 36 2 2) :: (f 37 1 36) :: (l 38 37) :: (m 39 6) :: L92r1)
def L92r3:List zo:=((f 30 2 2) :: (f 31 1 30) :: (l 32 31) :: (o 33 (b .mul (t 29) (t 32))) :: (o 34 (b .sub (t 28) (t 33))) :: L92r2)
def L92r4:List zo:=[(m 52 9),(o 53 (b .sub (t 51) (t 52))),(o 54 (b .add (t 53) (k 1))),(o 55 (b .rem (t 50) (t 54))),(o 56 (b .add (t 47) (t 55))),(m 11 56)]
def L92s0:zk:=(.reg [(m 61 6),(m 62 11),(o 63 (b .sub (t 61) (t 62))),(m 6 63)])
def L92s1:zk:=(.seq (.reg [(m 57 5),(m 58 11),(o 59 (.buildSlice 1 [(i 0)] [(0,(1,(t 58)))])),(o 60 (.append 1 8 (t 57) (t 59))),(m 5 60)]) L92s0)
def L92s2:zk:=(.seq (.reg ((m 47 9) :: (m 48 1) :: (m 49 7) :: (o 50 (c 133 [(t 48),(t 49)])) :: (m 51 10) :: L92r4)) L92s1)
def L92s3:zk:=(.seq (.draw 22 ((f 25 2 2) :: (f 26 0 25) :: (l 27 26) :: (m 28 6) :: (m 29 8) :: L92r3)) L92s2)
def L92s4:zk:=(.reg [(m 18 7),(o 19 (b .add (t 18) (k 1))),(m 7 19)])
def L92s5:zk:=(.seq (.block 1 (.seq (.reg [(f 20 0 2),(l 21 20),(o 22 (b .sub (t 21) (k 1))),(m 23 7),(o 24 (b .sub (t 22) (t 23))),(m 8 24)]) L92s3)) L92s4)
def L92w0:zk:=(.seq (.seq (.reg [(m 14 7),(f 15 0 2),(l 16 15),(o 17 (b .lss (t 14) (t 16)))]) (.cond (t 17) .skip (.exit 0))) L92s5)
def L92s6:zk:=(.seq (.reg [(m 64 5),(m 4 64)]) .ret)
def L92s7:zk:=(.seq (.seq (.reg [(o 7 (.move (k 0)))]) (.block 0 (.loop L92w0))) L92s6)
def L92s8:zk:=(.seq (.reg [(f 12 1 2),(l 13 12),(m 6 13)]) L92s7)
def L92:zr:=⟨65,(.seq (.reg [(o 2 (.box (t 0))),(o 4 (.move (.c (.slice .none 0 0))))]) (.seq (.reg [(o 5 (.move (.c (.slice .none 0 0))))]) L92s8)),[(.t 4)],.true,.none,vO⟩
theorem lp92:LP 92 = some L92:=by kernel_rfl
def L96s0:zk:=(.seq (.reg [(o 1 (.move (.c (.via 215 "Lowest" 136)))),(o 2 (.move (.c (.via 215 "Highest" 137)))),(o 3 (.build [.nilFunc,.nilFunc] [(0,(1,(t 1))),(1,(1,(t 2)))])),(s 2 0 3)]) .ret)
def L96:zr:=⟨4,(.seq (.reg [(o 0 (.alloc [.nilFunc,.nilFunc]))]) L96s0),[(.cell 0 .true 2)],.false,.none,vO⟩
theorem lp96:LP 96 = some L96:=by kernel_rfl
def L104r0:List zo:=[(o 32 (c 142 [(t 24),(t 31)])),(o 33 (.indexAddrA 11 2 (t 7) (t 17))),(s 2 33 32)]
def L104r1:List zo:=((f 27 1 4) :: (l 28 27) :: (o 29 (b .mul (t 26) (t 28))) :: (m 30 2) :: (o 31 (.build [(i 0),(i 0)] [(0,(1,(t 29))),(1,(1,(t 30)))])) :: L104r0)
def L104r2:List zo:=((o 22 (b .mul (t 19) (t 21))) :: (m 23 2) :: (o 24 (.build [(i 0),(i 0)] [(0,(1,(t 22))),(1,(1,(t 23)))])) :: (f 25 1 9) :: (l 26 25) :: L104r1)
def L104s0:zk:=(.reg ((m 17 8) :: (f 18 0 9) :: (l 19 18) :: (f 20 0 4) :: (l 21 20) :: L104r2))
def L104s1:zk:=(.reg [(o 34 (b .add (t 12) (k 1))),(m 12 34)])
def L104s2:zk:=(.seq (.block 1 (.seq (.reg [(m 14 12),(o 15 (.indexAddrS 2 (t 10) (t 12))),(g 16 2 15),(o 9 (.alloc [(i 0),(i 0)])),(m 8 14),(s 2 9 16)]) L104s0)) L104s1)
def L104w0:zk:=(.seq (.reg [(o 13 (b .lss (t 12) (t 11)))]) (.seq (.cond (t 13) .skip (.exit 0)) L104s2))
def L104s3:zk:=(.seq (.reg [(g 35 22 7),(s 22 6 35)]) .ret)
def L104s4:zk:=(.seq (.seq (.reg [(m 10 0),(o 11 (.len .slice (t 10))),(o 12 (.move (k 0)))]) (.block 0 (.loop L104w0))) L104s3)
def L104s5:zk:=(.seq (.reg [(o 7 (.alloc (Zr 22)))]) L104s4)
def L104:zr:=⟨36,(.seq (.reg [(o 4 (.box (t 1))),(o 6 (.alloc (Zr 22)))]) L104s5),[(.cell 6 .true 22)],.false,.none,vO⟩
theorem lp104:LP 104 = some L104:=by kernel_rfl
def L108r0:List zo:=[(oa 29 (.buildSlice 1 [(i 0),(i 0)] [(0,(2,(t 28)))]) [8,4]),(oa 30 (.append 2 16 (t 19) (t 29)) [10,8,4]),(oa 4 (.move (t 30)) [11,10,8,4])]
def L108r1:List zo:=((f 24 1 3) :: (l 25 24) :: (m 26 5) :: (oa 27 (.call (t 25) [(t 1),(t 26)]) [4]) :: (oa 28 (.build [(i 0),(i 0)] [(0,(1,(t 23))),(1,(1,(t 27)))]) [8,4]) :: L108r0)
def L108s0:zk:=(.reg [(m 17 5),(o 18 (b .add (t 17) (k 1))),(m 5 18)])
def L108s1:zk:=(.seq (.block 1 (.draw 7 ((m 19 4) :: (f 20 0 3) :: (l 21 20) :: (m 22 5) :: (o 23 (.call (t 21) [(t 1),(t 22)])) :: L108r1))) L108s0)
def L108w0:zk:=(.seq (.seq (.reg [(m 12 5),(f 13 0 1),(f 14 0 13),(l 15 14),(o 16 (b .leq (t 12) (t 15)))]) (.cond (t 16) .skip (.exit 0))) L108s1)
def L108s2:zk:=(.seq (.reg [(m 31 4),(m 2 31)]) .ret)
def L108s3:zk:=(.seq (.seq (.reg [(o 5 (.move (k 0)))]) (.block 0 (.loop L108w0))) L108s2)
def L108s4:zk:=(.seq (.reg [(f 7 0 1),(f 8 0 7),(l 9 8),(o 10 (b .add (t 9) (k 1))),(o 11 (.makeSlice [(i 0),(i 0)] 16 (k 0) (t 10))),(m 4 11)]) L108s3)
def L108s5:zk:=(.seq (.reg [(o 6 (c 96 [])),(o 3 (.alloc [.nilFunc,.nilFunc])),(s 2 3 6)]) L108s4)
def L108:zr:=⟨32,(.seq (.reg [(o 1 (.box (t 0))),(o 2 (.move (.c (.slice .none 0 0))))]) L108s5),[(.t 2)],.true,.none,vO⟩
theorem lp108:LP 108 = some L108:=by kernel_rfl
def L124r0:List zo:=[(og 17 (b .leq (t 15) (t 16)) 13 .true),(o 18 (.pick (t 13) (t 17) (.c (.bool .false)))),(m 6 18)]
def L124r1:List zo:=((o 12 (c 98 [(t 8),(t 9),(t 11)])) :: (m 13 12) :: (og 14 (.fieldAddr 1 (t 3)) 13 .true) :: (og 15 (.load .false 1 (t 14)) 13 .true) :: (og 16 (.move (t 2)) 13 .true) :: L124r0)
def L124s0:zk:=(.seq (.reg ((f 7 0 3) :: (l 8 7) :: (m 9 1) :: (f 10 1 3) :: (l 11 10) :: L124r1)) .ret)
def L124:zr:=⟨19,(.seq (.reg [(o 3 (.box (t 0))),(o 6 (.move (.c (.bool .false))))]) L124s0),[(.t 6)],.false,.none,vO⟩
theorem lp124:LP 124 = some L124:=by kernel_rfl
def L136r0:List zo:=[(o 10 (.indexAddrA 13 1 (t 9) (k 0))),(l 11 10),(o 12 (.un .neg (t 11))),(m 4 12)]
def L136s0:zk:=(.seq (.reg ((m 5 0) :: (m 6 1) :: (o 7 (.nilCheck (t 5))) :: (f 8 1 7) :: (o 9 (.indexAddrA 13 13 (t 8) (t 6))) :: L136r0)) .ret)
def L136:zr:=⟨13,(.seq (.reg [(o 4 (.move (k 0)))]) L136s0),[(.t 4)],.false,.none,vO⟩
theorem lp136:LP 136 = some L136:=by kernel_rfl
def L140r0:List zo:=[(l 13 12),(o 14 (.build [(i 0),(i 0)] [(0,(1,(t 6))),(1,(1,(t 13)))])),(s 2 2 14)]
def L140r1:List zo:=((m 8 0) :: (o 9 (.len .slice (t 8))) :: (o 10 (b .sub (t 9) (k 1))) :: (o 11 (.indexAddrS 2 (t 7) (t 10))) :: (f 12 0 11) :: L140r0)
def L140s0:zk:=(.seq (.draw 11 ((m 3 0) :: (o 4 (.indexAddrS 2 (t 3) (k 0))) :: (f 5 0 4) :: (l 6 5) :: (m 7 0) :: L140r1)) .ret)
def L140:zr:=⟨15,(.seq (.reg [(o 2 (.alloc [(i 0),(i 0)]))]) L140s0),[(.cell 2 .true 2)],.false,.none,vO⟩
theorem lp140:LP 140 = some L140:=by kernel_rfl
def L144r0:List zo:=[(og 10 (.move (t 1)) 9 .true),(og 11 (.fieldAddr 1 (t 2)) 9 .true),(og 12 (.load .false 1 (t 11)) 9 .true),(og 13 (b .leq (t 10) (t 12)) 9 .true),(o 14 (.pick (t 9) (t 13) (.c (.bool .false)))),(m 4 14)]
def L144s0:zk:=(.seq (.reg ((f 5 0 2) :: (l 6 5) :: (m 7 1) :: (o 8 (b .leq (t 6) (t 7))) :: (m 9 8) :: L144r0)) .ret)
def L144:zr:=⟨15,(.seq (.reg [(o 2 (.box (t 0))),(o 4 (.move (.c (.bool .false))))]) L144s0),[(.t 4)],.false,.none,vO⟩
theorem lp144:LP 144 = some L144:=by kernel_rfl
def L152r0:List zo:=[(og 30 (.fieldAddr 2 (t 3)) 29 .true),(og 31 (.load .true 2 (t 30)) 29 .true),(og 32 (c 169 [(t 31),(k 0),(k 2000)]) 29 .true),(o 33 (.pick (t 29) (t 32) (.c (.bool .false)))),(m 4 33)]
def L152r1:List zo:=((og 25 (.fieldAddr 0 (t 2)) 22 .true) :: (og 26 (.load .false 1 (t 25)) 22 .true) :: (og 27 (b .leq (t 24) (t 26)) 22 .true) :: (o 28 (.pick (t 22) (t 27) (.c (.bool .false)))) :: (m 29 28) :: L152r0)
def L152r2:List zo:=((og 20 (b .leq (t 17) (t 19)) 15 .true) :: (o 21 (.pick (t 15) (t 20) (.c (.bool .false)))) :: (m 22 21) :: (og 23 (.fieldAddr 1 (t 3)) 22 .true) :: (og 24 (.load .false 1 (t 23)) 22 .true) :: L152r1)
def L152r3:List zo:=((m 15 14) :: (og 16 (.fieldAddr 0 (t 3)) 15 .true) :: (og 17 (.load .false 1 (t 16)) 15 .true) :: (og 18 (.fieldAddr 1 (t 3)) 15 .true) :: (og 19 (.load .false 1 (t 18)) 15 .true) :: L152r2)
def L152r4:List zo:=((og 10 (.load .false 1 (t 9)) 8 .true) :: (og 11 (.fieldAddr 0 (t 2)) 8 .true) :: (og 12 (.load .false 1 (t 11)) 8 .true) :: (og 13 (b .lss (t 10) (t 12)) 8 .true) :: (o 14 (.pick (t 8) (t 13) (.c (.bool .false)))) :: L152r3)
def L152s0:zk:=(.seq (.reg ((f 5 0 3) :: (l 6 5) :: (o 7 (b .leq (k 0) (t 6))) :: (m 8 7) :: (og 9 (.fieldAddr 0 (t 3)) 8 .true) :: L152r4)) .ret)
def L152:zr:=⟨34,(.seq (.reg [(o 2 (.box (t 0))),(o 3 (.box (t 1))),(o 4 (.move (.c (.bool .false))))]) L152s0),[(.t 4)],.false,.none,vO⟩
theorem lp152:LP 152 = some L152:=by kernel_rfl
def L156r0:List zo:=[(og 12 (.load .true 2 (t 4)) 11 .true),(og 13 (.fieldAddr 1 (t 1)) 11 .true),(og 14 (.load .false 1 (t 13)) 11 .true),(og 15 (c 144 [(t 12),(t 14)]) 11 .true),(o 16 (.pick (t 11) (t 15) (.c (.bool .false)))),(m 2 16)]
def L156s0:zk:=(.seq (.reg ((g 7 2 3) :: (f 8 0 1) :: (l 9 8) :: (o 10 (c 144 [(t 7),(t 9)])) :: (m 11 10) :: L156r0)) .ret)
def L156s1:zk:=(.seq (.reg [(o 5 (.build [(i 0),(i 0)] [(0,(1,(k 1))),(1,(1,(k 2000)))])),(o 6 (.build [(i 0),(i 0)] [(0,(1,(k 1))),(1,(1,(k 2000)))])),(o 3 (.alloc [(i 0),(i 0)])),(o 4 (.alloc [(i 0),(i 0)])),(s 2 3 5),(s 2 4 6)]) L156s0)
def L156:zr:=⟨17,(.seq (.reg [(o 1 (.box (t 0))),(o 2 (.move (.c (.bool .false))))]) L156s1),[(.t 2)],.false,.none,vO⟩
theorem lp156:LP 156 = some L156:=by kernel_rfl
def L160s0:zk:=(.cond (t 14) (.reg [(m 15 3),(o 16 (b .sub (t 15) (k 1))),(m 3 16)]) .skip)
def L160s1:zk:=(.seq (.reg [(m 17 3),(m 2 17)]) .ret)
def L160s2:zk:=(.seq (.seq (.reg [(f 9 0 1),(l 10 9),(f 11 1 1),(l 12 11),(o 13 (b .rem (t 10) (t 12))),(o 14 (b .lss (t 13) (k 0)))]) L160s0) L160s1)
def L160s3:zk:=(.seq (.reg [(f 4 0 1),(l 5 4),(f 6 1 1),(l 7 6),(o 8 (b .quo (t 5) (t 7))),(m 3 8)]) L160s2)
def L160:zr:=⟨18,(.seq (.reg [(o 1 (.box (t 0))),(o 2 (.move (k 0)))]) L160s3),[(.t 2)],.false,.none,vO⟩
theorem lp160:LP 160 = some L160:=by kernel_rfl
def L168r0:List zo:=[(og 14 (.load .true 2 (t 13)) 12 .false),(og 15 (c 169 [(t 14),(k 1),(k 200)]) 12 .false),(og 16 (.un .not (t 15)) 12 .false),(o 17 (.pick (t 12) (.c (.bool .true)) (t 16)))]
def L168r1:List zo:=((og 9 (.load .false 1 (t 8)) 7 .false) :: (og 10 (b .gtr (t 9) (k 10)) 7 .false) :: (o 11 (.pick (t 7) (.c (.bool .true)) (t 10))) :: (m 12 11) :: (og 13 (.fieldAddr 2 (t 1)) 12 .false) :: L168r0)
def L168s0:zk:=(.cond (t 17) (.seq (.reg [(o 2 (.move (.c (.bool .false))))]) .ret) .skip)
def L168r2:List zo:=[(l 28 27),(o 29 (b .mul (t 25) (t 28))),(o 30 (.build [(i 0),(i 0)] [(0,(1,(t 23))),(1,(1,(t 29)))])),(o 3 (.alloc [(i 0),(i 0)])),(s 2 3 30)]
def L168r3:List zo:=((o 23 (b .mul (t 19) (t 22))) :: (f 24 0 1) :: (l 25 24) :: (f 26 2 1) :: (f 27 1 26) :: L168r2)
def L168r4:List zo:=[(og 36 (.fieldAddr 1 (t 1)) 34 .true),(og 37 (.load .false 1 (t 36)) 34 .true),(og 38 (c 180 [(t 35),(t 37)]) 34 .true),(o 39 (.pick (t 34) (t 38) (.c (.bool .false)))),(m 2 39)]
def L168s1:zk:=(.seq (.reg ((f 31 1 1) :: (l 32 31) :: (o 33 (b .leq (t 32) (k 2000))) :: (m 34 33) :: (og 35 (.load .true 2 (t 3)) 34 .true) :: L168r4)) .ret)
def L168s2:zk:=(.seq (.reg ((f 18 0 1) :: (l 19 18) :: (f 20 2 1) :: (f 21 0 20) :: (l 22 21) :: L168r3)) L168s1)
def L168s3:zk:=(.seq (.seq (.reg ((f 4 0 1) :: (l 5 4) :: (o 6 (b .lss (t 5) (k 1))) :: (m 7 6) :: (og 8 (.fieldAddr 0 (t 1)) 7 .false) :: L168r1)) L168s0) L168s2)
def L168:zr:=⟨40,(.seq (.reg [(o 1 (.box (t 0))),(o 2 (.move (.c (.bool .false))))]) L168s3),[(.t 2)],.false,.none,vO⟩
theorem lp168:LP 168 = some L168:=by kernel_rfl
def L172r0:List zo:=[(o 8 (b .sub (t 7) (k 1))),(f 9 1 1),(l 10 9),(o 11 (b .quo (t 8) (t 10))),(m 2 11)]
def L172s0:zk:=(.seq (.reg ((f 3 0 1) :: (l 4 3) :: (f 5 1 1) :: (l 6 5) :: (o 7 (b .add (t 4) (t 6))) :: L172r0)) .ret)
def L172:zr:=⟨12,(.seq (.reg [(o 1 (.box (t 0))),(o 2 (.move (k 0)))]) L172s0),[(.t 2)],.false,.none,vO⟩
theorem lp172:LP 172 = some L172:=by kernel_rfl
def L180r0:List zo:=[(og 10 (.move (t 1)) 9 .true),(og 11 (.fieldAddr 1 (t 2)) 9 .true),(og 12 (.load .false 1 (t 11)) 9 .true),(og 13 (b .leq (t 10) (t 12)) 9 .true),(o 14 (.pick (t 9) (t 13) (.c (.bool .false)))),(m 4 14)]
def L180s0:zk:=(.seq (.reg ((f 5 0 2) :: (l 6 5) :: (m 7 1) :: (o 8 (b .leq (t 6) (t 7))) :: (m 9 8) :: L180r0)) .ret)
def L180:zr:=⟨15,(.seq (.reg [(o 2 (.box (t 0))),(o 4 (.move (.c (.bool .false))))]) L180s0),[(.t 4)],.false,.none,vO⟩
theorem lp180:LP 180 = some L180:=by kernel_rfl
def L21r0:List zo:=[(o 18 (.build [(i 0),(i 0)] [(0,(1,(t 14))),(1,(1,(t 17)))])),(f 19 8 1),(g 20 2 19),(oa 21 (c 29 [(t 20)]) [8,5,2]),(oa 22 (.build [(i 0),(i 0),(i 0),(i 0),(.slice .none 0 0),(.slice .none 0 0),(i 0),(i 0),(i 0),(i 0)] [(0,(4,(t 5))),(4,(1,(t 8))),(5,(1,(t 11))),(6,(2,(t 18))),(8,(2,(t 21)))]) [18,8,5,2]),(ona (.store 10 (t 2) (t 22)) [18,8,5,2])]
def L21r1:List zo:=((f 13 0 12) :: (l 14 13) :: (f 15 6 1) :: (f 16 1 15) :: (l 17 16) :: L21r0)
def L21r2:List zo:=((oa 8 (c 60 [(t 7)]) [2]) :: (f 9 5 1) :: (l 10 9) :: (oa 11 (c 66 [(t 10)]) [5,2]) :: (f 12 6 1) :: L21r1)
def L21s0:zk:=(.seq (.draw 19 ((f 3 0 1) :: (g 4 4 3) :: (o 5 (c 59 [(t 4)])) :: (f 6 4 1) :: (l 7 6) :: L21r2)) .ret)
def L21:zr:=⟨23,(.seq (.reg [(o 1 (.box (t 0))),(o 2 (.alloc [(i 0),(i 0),(i 0),(i 0),(.slice .none 0 0),(.slice .none 0 0),(i 0),(i 0),(i 0),(i 0)]))]) L21s0),[(.cell 2 .true 10)],.true,.none,vO⟩
theorem lp21:LP 21 = some L21:=by kernel_rfl
def L25r0:List zo:=[(og 12 (.move (t 2)) 10 .true),(og 13 (b .leq (t 11) (t 12)) 10 .true),(o 14 (.pick (t 10) (t 13) (.c (.bool .false)))),(m 6 14)]
def L25s0:zk:=(.seq (.reg ((m 7 0) :: (m 8 1) :: (o 9 (b .geq (t 7) (t 8))) :: (m 10 9) :: (og 11 (.move (t 0)) 10 .true) :: L25r0)) .ret)
def L25:zr:=⟨15,(.seq (.reg [(o 6 (.move (.c (.bool .false))))]) L25s0),[(.t 6)],.false,.none,vO⟩
theorem lp25:LP 25 = some L25:=by kernel_rfl
def L29s0:zk:=(.seq (.reg [(f 3 0 1),(l 4 3),(f 5 1 1),(l 6 5),(o 7 (.build [(i 0),(i 0)] [(0,(1,(t 4))),(1,(1,(t 6)))])),(s 2 2 7)]) .ret)
def L29:zr:=⟨8,(.seq (.reg [(o 1 (.box (t 0))),(o 2 (.alloc [(i 0),(i 0)]))]) L29s0),[(.cell 2 .true 2)],.false,.none,vO⟩
theorem lp29:LP 29 = some L29:=by kernel_rfl
def L53s0:zk:=(.seq (.reg [(g 19 10 3),(m 20 8),(s 10 6 19),(m 7 20)]) .ret)
def L53s1:zk:=(.seq (.reg [(f 13 0 3),(g 14 4 13),(m 15 8),(m 16 2),(o 17 (c 93 [(t 14),(t 15),(t 16)])),(f 18 4 3),(s 1 18 17)]) L53s0)
def L53s2:zk:=(.seq (.reg [(f 9 0 3),(g 10 4 9),(m 11 1),(o 12 (c 92 [(t 10),(t 11)])),(m 8 12)]) L53s1)
def L53:zr:=⟨21,(.seq (.reg [(o 3 (.box (t 0))),(o 6 (.alloc [(i 0),(i 0),(i 0),(i 0),(.slice .none 0 0),(.slice .none 0 0),(i 0),(i 0),(i 0),(i 0)])),(o 7 (.move (.c (.slice .none 0 0))))]) L53s2),[(.cell 6 .true 10),(.t 7)],.true,.none,vO⟩
theorem lp53:LP 53 = some L53:=by kernel_rfl
def L61s0:zk:=(.cond (t 13) (.seq (.reg [(o 6 (.move (.c (.bool .false))))]) .ret) .skip)
def L61r0:List zo:=[(f 25 0 24),(l 26 25),(f 27 2 3),(f 28 1 27),(l 29 28),(o 30 (c 98 [(t 23),(t 26),(t 29)])),(oa 31 (.un .not (t 30)) [10])]
def L61s1:zk:=(.cond (t 31) (.seq (.reg [(o 6 (.move (.c (.bool .false))))]) .ret) .skip)
def L61s2:zk:=(.reg [(m 18 7),(o 19 (b .add (t 18) (k 1))),(m 7 19)])
def L61s3:zk:=(.seq (.block 1 (.seq (.draw 10 ((m 20 2) :: (m 21 7) :: (o 22 (.indexAddrS 1 (t 20) (t 21))) :: (l 23 22) :: (f 24 2 3) :: L61r0)) L61s1)) L61s2)
def L61w1:zk:=(.seq (.seq (.reg [(m 14 7),(m 15 2),(o 16 (.len .slice (t 15))),(o 17 (b .lss (t 14) (t 16)))]) (.cond (t 17) .skip (.exit 0))) L61s3)
def L61r1:List zo:=[(m 43 2),(o 44 (c 99 [(t 38),(t 42),(t 43)])),(oa 45 (.un .not (t 44)) [6])]
def L61s4:zk:=(.cond (t 45) (.seq (.reg [(o 6 (.move (.c (.bool .false))))]) .ret) .skip)
def L61s5:zk:=(.reg [(m 36 8),(o 37 (b .add (t 36) (k 1))),(m 8 37)])
def L61s6:zk:=(.seq (.block 3 (.seq (.draw 5 ((g 38 4 3) :: (m 39 1) :: (m 40 8) :: (o 41 (.indexAddrS 4 (t 39) (t 40))) :: (g 42 4 41) :: L61r1)) L61s4)) L61s5)
def L61w0:zk:=(.seq (.seq (.reg [(m 32 8),(m 33 1),(o 34 (.len .slice (t 33))),(o 35 (b .lss (t 32) (t 34)))]) (.cond (t 35) .skip (.exit 2))) L61s6)
def L61r2:List zo:=[(l 51 50),(oa 52 (.eq (.cell (.i .i64)) .false (t 49) (t 51)) [3]),(oa 6 (.move (t 52)) [3])]
def L61s7:zk:=(.seq (.draw 6 ((m 46 2) :: (f 47 0 3) :: (l 48 47) :: (o 49 (c 56 [(t 46),(t 48)])) :: (f 50 1 3) :: L61r2)) .ret)
def L61s8:zk:=(.seq (.seq (.reg [(o 8 (.move (k 0)))]) (.block 2 (.loop L61w0))) L61s7)
def L61s9:zk:=(.seq (.seq (.reg [(o 7 (.move (k 0)))]) (.block 0 (.loop L61w1))) L61s8)
def L61s10:zk:=(.seq (.seq (.reg [(m 9 2),(o 10 (.len .slice (t 9))),(f 11 0 3),(l 12 11),(o 13 (.eq (.cell (.i .i64)) .true (t 10) (t 12)))]) L61s0) L61s9)
def L61:zr:=⟨53,(.seq (.reg [(o 3 (.box (t 0))),(o 6 (.move (.c (.bool .false))))]) L61s10),[(.t 6)],.false,.none,vO⟩
theorem lp61:LP 61 = some L61:=by kernel_rfl
def L65r0:List zo:=[(og 14 (.fieldAddr 5 (t 1)) 13 .false),(og 15 (.load .false 1 (t 14)) 13 .false),(og 16 (.len .slice (t 15)) 13 .false),(og 17 (b .gtr (t 16) (k 8)) 13 .false),(o 18 (.pick (t 13) (.c (.bool .true)) (t 17)))]
def L65s0:zk:=(.cond (t 18) (.seq (.reg [(o 19 (.build [(i 0),(i 0),(i 0),(i 0),(.slice .none 0 0),(.slice .none 0 0),(i 0),(i 0),(i 0),(i 0),(i 0),(i 0),(i 0),(i 0),(i 0),(i 0),(i 0),(i 0),(i 0),(i 0),(i 0),(i 0),(i 0),(i 0),(i 0),(i 0),(i 0),(i 0),(i 0),(i 0),(i 0),(i 0)] [])),(s 32 2 19),(o 3 (.move (k 3)))]) .ret) .skip)
def L65r1:List zo:=[(m 20 25),(x 26 20 0),(x 27 20 1),(m 4 26),(m 5 27)]
def L65r2:List zo:=[(m 28 33),(x 34 28 0),(x 35 28 1),(o 6 (.alloc [(i 0),(i 0)])),(s 2 6 34),(m 7 35)]
def L65r3:List zo:=[(m 48 47),(og 49 (.fieldAddr 8 (t 1)) 48 .false),(og 50 (.load .true 2 (t 49)) 48 .false),(og 51 (c 103 [(k 100)]) 48 .false),(oga 52 (c 102 [(t 50),(t 51)]) 48 .false [13]),(oga 53 (.un .not (t 52)) 48 .false [14,13]),(oa 54 (.pick (t 48) (.c (.bool .true)) (t 53)) [14,13])]
def L65r4:List zo:=((o 43 (.pick (t 40) (t 42) (.c (.bool .false)))) :: (m 44 43) :: (og 45 (.move (t 7)) 44 .false) :: (og 46 (.eq (.cell (.i .i64)) .true (t 45) (k 0)) 44 .false) :: (o 47 (.pick (t 44) (.c (.bool .true)) (t 46))) :: L65r3)
def L65s1:zk:=(.cond (t 54) (.seq (.reg [(o 55 (.build [(i 0),(i 0),(i 0),(i 0),(.slice .none 0 0),(.slice .none 0 0),(i 0),(i 0),(i 0),(i 0),(i 0),(i 0),(i 0),(i 0),(i 0),(i 0),(i 0),(i 0),(i 0),(i 0),(i 0),(i 0),(i 0),(i 0),(i 0),(i 0),(i 0),(i 0),(i 0),(i 0),(i 0),(i 0)] [])),(s 32 2 55),(o 3 (.move (k 1)))]) .ret) .skip)
def L65s2:zk:=(.cond (t 56) (.seq (.reg [(o 57 (.build [(i 0),(i 0),(i 0),(i 0),(.slice .none 0 0),(.slice .none 0 0),(i 0),(i 0),(i 0),(i 0),(i 0),(i 0),(i 0),(i 0),(i 0),(i 0),(i 0),(i 0),(i 0),(i 0),(i 0),(i 0),(i 0),(i 0),(i 0),(i 0),(i 0),(i 0),(i 0),(i 0),(i 0),(i 0)] [])),(s 32 2 57),(o 3 (.move (k 9)))]) .ret) .skip)
def L65r5:List zo:=[(l 63 62),(o 64 (c 104 [(t 59),(t 60),(t 63)])),(oa 65 (.build [(i 0),(i 0),(i 0),(i 0),(.slice .none 0 0),(.slice .none 0 0),(i 0),(i 0),(i 0),(i 0),(i 0),(i 0),(i 0),(i 0),(i 0),(i 0),(i 0),(i 0),(i 0),(i 0),(i 0),(i 0),(i 0),(i 0),(i 0),(i 0),(i 0),(i 0),(i 0),(i 0),(i 0),(i 0)] [(0,(10,(t 58))),(10,(22,(t 64)))]) [6]),(ona (.store 32 (t 2) (t 65)) [6]),(oa 3 (.move (k 0)) [6])]
def L65s3:zk:=(.seq (.draw 7 ((g 58 10 1) :: (m 59 4) :: (g 60 2 6) :: (f 61 0 1) :: (f 62 1 61) :: L65r5)) .ret)
def L65s4:zk:=(.seq (.seq (.draw 14 ((m 38 5) :: (o 39 (.eq (.cell (.i .i64)) .true (t 38) (k 0))) :: (m 40 39) :: (og 41 (.move (t 8)) 40 .true) :: (og 42 (.un .not (t 41)) 40 .true) :: L65r4)) L65s1) (.seq (.seq (.reg [(m 56 8)]) L65s2) L65s3))
def L65s5:zk:=(.seq (.reg [(m 36 5),(o 37 (.eq (.cell (.i .i64)) .false (t 36) (k 9))),(m 8 37)]) L65s4)
def L65s6:zk:=(.seq (.reg ((f 29 5 1) :: (l 30 29) :: (f 31 6 1) :: (g 32 2 31) :: (o 33 (c 101 [(t 30),(t 32)])) :: L65r2)) L65s5)
def L65s7:zk:=(.seq (.reg ((f 21 0 1) :: (g 22 4 21) :: (f 23 4 1) :: (l 24 23) :: (o 25 (c 70 [(t 22),(t 24)])) :: L65r1)) L65s6)
def L65s8:zk:=(.seq (.seq (.reg ((f 9 4 1) :: (l 10 9) :: (o 11 (.len .slice (t 10))) :: (o 12 (b .gtr (t 11) (k 12))) :: (m 13 12) :: L65r0)) L65s0) L65s7)
def L65:zr:=⟨66,(.seq (.reg [(o 1 (.box (t 0))),(o 2 (.alloc [(i 0),(i 0),(i 0),(i 0),(.slice .none 0 0),(.slice .none 0 0),(i 0),(i 0),(i 0),(i 0),(i 0),(i 0),(i 0),(i 0),(i 0),(i 0),(i 0),(i 0),(i 0),(i 0),(i 0),(i 0),(i 0),(i 0),(i 0),(i 0),(i 0),(i 0),(i 0),(i 0),(i 0),(i 0)])),(o 3 (.move (k 0)))]) L65s8),[(.cell 2 .true 32),(.t 3)],.true,.none,vO⟩
theorem lp65:LP 65 = some L65:=by kernel_rfl
def L73r0:List zo:=[(l 13 12),(m 14 1),(o 15 (b .lss (t 13) (t 14)))]
def L73s0:zk:=(.block 1 (.reg [(m 16 5),(o 17 (b .add (t 16) (k 1))),(m 5 17)]))
def L73w0:zk:=(.seq (.seq (.reg ((m 8 0) :: (m 9 5) :: (o 10 (b .add (t 9) (k 1))) :: (o 11 (.indexAddrS 2 (t 8) (t 10))) :: (f 12 0 11) :: L73r0)) (.cond (t 15) .skip (.exit 0))) L73s0)
def L73r1:List zo:=[(o 7 (.alloc [(i 0),(i 0)])),(ona (.store 2 (t 6) (t 21)) [11,10,9]),(ona (.store 2 (t 7) (t 26)) [11,10,9])]
def L73r2:List zo:=((m 23 5) :: (o 24 (b .add (t 23) (k 1))) :: (o 25 (.indexAddrS 2 (t 22) (t 24))) :: (g 26 2 25) :: (o 6 (.alloc [(i 0),(i 0)])) :: L73r1)
def L73r3:List zo:=[(l 42 41),(o 43 (b .sub (t 40) (t 42))),(o 44 (b .quo (t 38) (t 43))),(o 45 (b .add (t 28) (t 44))),(m 4 45)]
def L73r4:List zo:=((o 37 (b .sub (t 34) (t 36))) :: (o 38 (b .mul (t 33) (t 37))) :: (f 39 0 7) :: (l 40 39) :: (f 41 0 6) :: L73r3)
def L73r5:List zo:=((l 32 31) :: (o 33 (b .sub (t 30) (t 32))) :: (m 34 1) :: (f 35 0 6) :: (l 36 35) :: L73r4)
def L73s1:zk:=(.seq (.draw 16 ((f 27 1 6) :: (l 28 27) :: (f 29 1 7) :: (l 30 29) :: (f 31 1 6) :: L73r5)) .ret)
def L73s2:zk:=(.seq (.draw 12 ((m 18 0) :: (m 19 5) :: (o 20 (.indexAddrS 2 (t 18) (t 19))) :: (g 21 2 20) :: (m 22 0) :: L73r2)) L73s1)
def L73s3:zk:=(.seq (.reg [(o 5 (.move (k 0)))]) (.seq (.block 0 (.loop L73w0)) L73s2))
def L73:zr:=⟨46,(.seq (.reg [(o 4 (.move (k 0)))]) L73s3),[(.t 4)],.false,.none,vO⟩
theorem lp73:LP 73 = some L73:=by kernel_rfl
def L85r0:List zo:=[(oga 55 (.pick (t 42) (.c (.bool .true)) (t 54)) 29 .true [13,5]),(oga 56 (.pick (t 29) (t 55) (.c (.bool .false))) 26 .false [13,5]),(oa 57 (.pick (t 26) (.c (.bool .true)) (t 56)) [13,5])]
def L85r1:List zo:=((oga 50 (b .sub (t 49) (k 1)) 42 .false [13,5]) :: (oga 51 (.indexAddrS 2 (t 48) (t 50)) 42 .false [13,5]) :: (oga 52 (.fieldAddr 1 (t 51)) 42 .false [13,5]) :: (oga 53 (.load .false 1 (t 52)) 42 .false [13,5]) :: (oga 54 (b .leq (t 47) (t 53)) 42 .false [13,5]) :: L85r0)
def L85r2:List zo:=((oga 45 (.indexAddrS 2 (t 43) (t 44)) 42 .false [13,5]) :: (oga 46 (.fieldAddr 1 (t 45)) 42 .false [13,5]) :: (oga 47 (.load .false 1 (t 46)) 42 .false [13,5]) :: (oga 48 (.move (t 0)) 42 .false [13,5]) :: (oga 49 (.move (t 3)) 42 .false [13,5]) :: L85r1)
def L85r3:List zo:=((oga 40 (.load .false 1 (t 39)) 29 .true [13,5]) :: (oga 41 (b .leq (t 34) (t 40)) 29 .true [13,5]) :: (oga 42 (.move (t 41)) 29 .true [13,5]) :: (oga 43 (.move (t 0)) 42 .false [13,5]) :: (oga 44 (.move (t 3)) 42 .false [13,5]) :: L85r2)
def L85r4:List zo:=((oga 35 (.move (t 0)) 29 .true [13,5]) :: (oga 36 (.move (t 3)) 29 .true [13,5]) :: (oga 37 (b .sub (t 36) (k 1)) 29 .true [13,5]) :: (oga 38 (.indexAddrS 2 (t 35) (t 37)) 29 .true [13,5]) :: (oga 39 (.fieldAddr 0 (t 38)) 29 .true [13,5]) :: L85r3)
def L85r5:List zo:=((oga 30 (.move (t 0)) 29 .true [13,5]) :: (oga 31 (.move (t 3)) 29 .true [13,5]) :: (oga 32 (.indexAddrS 2 (t 30) (t 31)) 29 .true [13,5]) :: (oga 33 (.fieldAddr 0 (t 32)) 29 .true [13,5]) :: (oga 34 (.load .false 1 (t 33)) 29 .true [13,5]) :: L85r4)
def L85r6:List zo:=((oa 25 (.pick (t 17) (.c (.bool .true)) (t 24)) [13,5]) :: (oa 26 (.move (t 25)) [13,5]) :: (oga 27 (.move (t 3)) 26 .false [13,5]) :: (oga 28 (b .gtr (t 27) (k 0)) 26 .false [13,5]) :: (oga 29 (.move (t 28)) 26 .false [13,5]) :: L85r5)
def L85r7:List zo:=((oga 20 (.indexAddrS 2 (t 18) (t 19)) 17 .false [5]) :: (oga 21 (.fieldAddr 1 (t 20)) 17 .false [5]) :: (oga 22 (.load .false 1 (t 21)) 17 .false [5]) :: (oga 23 (c 25 [(t 22),(k 1),(k 2000)]) 17 .false [5]) :: (oga 24 (.un .not (t 23)) 17 .false [13,5]) :: L85r6)
def L85r8:List zo:=((o 15 (c 25 [(t 14),(k 1),(k 2000)])) :: (oa 16 (.un .not (t 15)) [5]) :: (oa 17 (.move (t 16)) [5]) :: (oga 18 (.move (t 0)) 17 .false [5]) :: (oga 19 (.move (t 3)) 17 .false [5]) :: L85r7)
def L85s0:zk:=(.cond (t 57) (.seq (.reg [(o 2 (.move (.c (.bool .false))))]) .ret) .skip)
def L85s1:zk:=(.reg [(m 8 3),(o 9 (b .add (t 8) (k 1))),(m 3 9)])
def L85s2:zk:=(.seq (.block 1 (.seq (.draw 44 ((m 10 0) :: (m 11 3) :: (o 12 (.indexAddrS 2 (t 10) (t 11))) :: (f 13 0 12) :: (l 14 13) :: L85r8)) L85s0)) L85s1)
def L85w0:zk:=(.seq (.seq (.reg [(m 4 3),(m 5 0),(o 6 (.len .slice (t 5))),(o 7 (b .lss (t 4) (t 6)))]) (.cond (t 7) .skip (.exit 0))) L85s2)
def L85s3:zk:=(.seq (.reg [(m 58 0),(o 59 (.len .slice (t 58))),(o 60 (b .geq (t 59) (k 2))),(m 2 60)]) .ret)
def L85s4:zk:=(.seq (.seq (.reg [(o 3 (.move (k 0)))]) (.block 0 (.loop L85w0))) L85s3)
def L85:zr:=⟨61,(.seq (.reg [(o 2 (.move (.c (.bool .false))))]) L85s4),[(.t 2)],.false,.none,vO⟩
theorem lp85:LP 85 = some L85:=by kernel_rfl
def L93r0:List zo:=[(og 18 (.move (t 8)) 17 .true),(og 19 (b .lss (t 18) (k 12)) 17 .true),(o 20 (.pick (t 17) (t 19) (.c (.bool .false))))]
def L93r1:List zo:=[(oa 42 (b .mul (t 34) (t 41)) [7]),(oa 43 (b .quo (t 42) (k 256)) [7]),(oa 11 (.move (t 43)) [7])]
def L93r2:List zo:=((m 37 1) :: (m 38 10) :: (o 39 (c 56 [(t 37),(t 38)])) :: (oa 40 (b .sub (t 36) (t 39)) [7]) :: (oa 41 (b .add (t 40) (k 5)) [7]) :: L93r1)
def L93r3:List zo:=[(og 55 (.move (t 10)) 49 .true),(og 56 (c 56 [(t 54),(t 55)]) 49 .true),(og 57 (b .sub (t 53) (t 56)) 49 .true),(og 58 (.move (t 11)) 49 .true),(og 59 (b .leq (t 57) (t 58)) 49 .true),(o 60 (.pick (t 49) (t 59) (.c (.bool .false))))]
def L93r4:List zo:=((og 50 (.move (t 1)) 49 .true) :: (og 51 (.move (t 12)) 49 .true) :: (og 52 (b .add (t 51) (k 1)) 49 .true) :: (og 53 (c 56 [(t 50),(t 52)]) 49 .true) :: (og 54 (.move (t 1)) 49 .true) :: L93r3)
def L93s0:zk:=(.block 3 (.reg [(m 61 12),(o 62 (b .add (t 61) (k 1))),(m 12 62)]))
def L93w0:zk:=(.seq (.seq (.reg ((m 45 12) :: (f 46 0 3) :: (l 47 46) :: (o 48 (b .lss (t 45) (t 47))) :: (m 49 48) :: L93r4)) (.cond (t 60) .skip (.exit 2))) L93s0)
def L93r5:List zo:=[(o 78 (.build [(i 0),(i 0)] [(0,(1,(t 71))),(1,(1,(t 77)))])),(o 79 (.build [(i 0),(i 0),(i 0),(i 0)] [(0,(1,(t 64))),(1,(1,(t 65))),(2,(2,(t 78)))])),(o 80 (.buildSlice 1 [(i 0),(i 0),(i 0),(i 0)] [(0,(4,(t 79)))])),(o 81 (.append 4 32 (t 63) (t 80))),(m 7 81)]
def L93r6:List zo:=((m 73 9) :: (o 74 (b .quo (t 73) (k 8192))) :: (o 75 (b .rem (t 74) (k 3))) :: (o 76 (b .add (t 72) (t 75))) :: (o 77 (.min [(k 2000),(t 76)])) :: L93r5)
def L93r7:List zo:=((o 68 (b .quo (t 67) (k 4096))) :: (o 69 (b .rem (t 68) (k 4))) :: (o 70 (b .sub (t 66) (t 69))) :: (o 71 (.max [(k 0),(t 70)])) :: (m 72 11) :: L93r6)
def L93s1:zk:=(.reg ((m 63 7) :: (m 64 10) :: (m 65 12) :: (m 66 11) :: (m 67 9) :: L93r7))
def L93s2:zk:=(.seq (.reg [(m 44 10),(m 12 44)]) (.seq (.block 2 (.loop L93w0)) L93s1))
def L93s3:zk:=(.seq (.draw 8 ((m 32 9) :: (o 33 (b .quo (t 32) (k 16))) :: (o 34 (b .rem (t 33) (k 256))) :: (f 35 1 3) :: (l 36 35) :: L93r2)) L93s2)
def L93s4:zk:=(.seq (.reg [(m 28 9),(f 29 0 3),(l 30 29),(o 31 (b .rem (t 28) (t 30))),(m 10 31)]) L93s3)
def L93s5:zk:=(.reg [(m 21 8),(o 22 (b .add (t 21) (k 1))),(m 8 22)])
def L93s6:zk:=(.seq (.block 1 (.seq (.reg [(m 23 2),(m 24 8),(o 25 (.indexAddrS 1 (t 23) (t 24))),(l 26 25),(o 27 (.convInt .i64 (t 26))),(m 9 27)]) L93s4)) L93s5)
def L93w1:zk:=(.seq (.seq (.reg ((m 13 8) :: (m 14 2) :: (o 15 (.len .slice (t 14))) :: (o 16 (b .lss (t 13) (t 15))) :: (m 17 16) :: L93r0)) (.cond (t 20) .skip (.exit 0))) L93s6)
def L93s7:zk:=(.seq (.reg [(m 82 7),(m 6 82)]) .ret)
def L93s8:zk:=(.seq (.seq (.reg [(o 8 (.move (k 0)))]) (.block 0 (.loop L93w1))) L93s7)
def L93:zr:=⟨83,(.seq (.reg [(o 3 (.box (t 0))),(o 6 (.move (.c (.slice .none 0 0))))]) (.seq (.reg [(o 7 (.move (.c (.slice .none 0 0))))]) L93s8)),[(.t 6)],.true,.none,vO⟩
theorem lp93:LP 93 = some L93:=by kernel_rfl
def L97s0:zk:=(.seq (.reg [(f 3 0 1),(l 4 3),(f 5 1 1),(l 6 5),(o 7 (.build [(i 0),(i 0)] [(0,(1,(t 4))),(1,(1,(t 6)))])),(s 2 2 7)]) .ret)
def L97:zr:=⟨8,(.seq (.reg [(o 1 (.box (t 0))),(o 2 (.alloc [(i 0),(i 0)]))]) L97s0),[(.cell 2 .true 2)],.false,.none,vO⟩
theorem lp97:LP 97 = some L97:=by kernel_rfl
def L101s0:zk:=(.cond (t 10) (.seq (.reg [(o 11 (.build [(i 0),(i 0)] [])),(m 12 6),(s 2 4 11),(m 5 12)]) .ret) .skip)
def L101s1:zk:=(.seq (.reg [(m 9 6),(o 10 (.eq (.cell (.i .i64)) .true (t 9) (k 0)))]) L101s0)
def L101s2:zk:=(.cond (t 17) (.seq (.reg [(o 18 (.build [(i 0),(i 0)] [])),(s 2 4 18),(o 5 (.move (k 2)))]) .ret) .skip)
def L101r0:List zo:=[(f 24 1 3),(l 25 24),(oa 26 (c 141 [(t 23),(t 25)]) [3]),(oa 27 (.build [(i 0),(i 0)] [(0,(1,(t 22))),(1,(1,(t 26)))]) [7,3]),(ona (.store 2 (t 4) (t 27)) [7,3]),(oa 5 (.move (k 0)) [7,3])]
def L101s3:zk:=(.seq (.draw 7 ((m 19 0) :: (f 20 0 3) :: (l 21 20) :: (o 22 (c 141 [(t 19),(t 21)])) :: (m 23 0) :: L101r0)) .ret)
def L101s4:zk:=(.seq (.seq (.draw 3 [(g 13 2 3),(m 14 0),(o 15 (c 140 [(t 14)])),(oa 16 (c 139 [(t 13),(t 15)]) [2]),(oa 17 (.un .not (t 16)) [3,2])]) L101s2) L101s3)
def L101s5:zk:=(.seq (.seq (.reg [(m 7 0),(o 8 (c 138 [(t 7)])),(m 6 8)]) L101s1) L101s4)
def L101:zr:=⟨28,(.seq (.reg [(o 3 (.box (t 1))),(o 4 (.alloc [(i 0),(i 0)])),(o 5 (.move (k 0)))]) L101s5),[(.cell 4 .true 2),(.t 5)],.false,.none,vO⟩
theorem lp101:LP 101 = some L101:=by kernel_rfl
def L105r0:List zo:=[(o 6 (.alloc [(i 0),(i 0),(i 0),(i 0),(.slice .none 0 0),(.slice .none 0 0),(i 0),(i 0),(i 0),(i 0),(i 0),(i 0),(i 0),(i 0),(i 0),(i 0),(i 0),(i 0),(i 0),(i 0),(i 0),(i 0),(i 0),(i 0),(i 0),(i 0),(i 0),(i 0),(i 0),(i 0),(i 0),(i 0)])),(s 32 6 11),(m 7 12)]
def L105s0:zk:=(.cond (t 14) (.seq (.reg [(o 15 (.build [(i 0),(i 0),(i 0),(i 0),(.slice .none 0 0),(.slice .none 0 0),(i 0),(i 0),(i 0),(i 0),(i 0),(i 0),(i 0),(i 0),(i 0),(i 0),(i 0),(i 0),(i 0),(i 0),(i 0),(i 0),(i 0),(i 0),(i 0),(i 0),(i 0),(i 0),(i 0),(i 0),(i 0),(i 0)] [])),(m 16 7),(s 32 4 15),(m 5 16)]) .ret) .skip)
def L105s1:zk:=(.cond (t 19) (.seq (.reg [(o 20 (.build [(i 0),(i 0),(i 0),(i 0),(.slice .none 0 0),(.slice .none 0 0),(i 0),(i 0),(i 0),(i 0),(i 0),(i 0),(i 0),(i 0),(i 0),(i 0),(i 0),(i 0),(i 0),(i 0),(i 0),(i 0),(i 0),(i 0),(i 0),(i 0),(i 0),(i 0),(i 0),(i 0),(i 0),(i 0)] [])),(s 32 4 20),(o 5 (.move (k 2)))]) .ret) .skip)
def L105s2:zk:=(.seq (.reg [(g 21 32 6),(s 32 4 21),(o 5 (.move (k 0)))]) .ret)
def L105s3:zk:=(.seq (.seq (.reg [(m 17 1),(o 18 (c 75 [(t 17)])),(o 19 (.un .not (t 18)))]) L105s1) L105s2)
def L105s4:zk:=(.seq (.seq (.reg [(m 13 7),(o 14 (.eq (.cell (.i .i64)) .true (t 13) (k 0)))]) L105s0) L105s3)
def L105s5:zk:=(.seq (.reg ((g 9 10 2) :: (o 10 (c 65 [(t 9)])) :: (m 8 10) :: (x 11 8 0) :: (x 12 8 1) :: L105r0)) L105s4)
def L105:zr:=⟨22,(.seq (.reg [(o 2 (.box (t 0))),(o 4 (.alloc [(i 0),(i 0),(i 0),(i 0),(.slice .none 0 0),(.slice .none 0 0),(i 0),(i 0),(i 0),(i 0),(i 0),(i 0),(i 0),(i 0),(i 0),(i 0),(i 0),(i 0),(i 0),(i 0),(i 0),(i 0),(i 0),(i 0),(i 0),(i 0),(i 0),(i 0),(i 0),(i 0),(i 0),(i 0)])),(o 5 (.move (k 0)))]) L105s5),[(.cell 4 .true 32),(.t 5)],.true,.none,vO⟩
theorem lp105:LP 105 = some L105:=by kernel_rfl
def L133s0:zk:=(.cond (t 7) (.seq (.reg [(o 4 (.move (k 0)))]) .ret) .skip)
def L133r0:List zo:=[(o 13 (.indexAddrS 1 (t 8) (t 12))),(l 14 13),(o 15 (.convInt .i64 (t 14))),(m 4 15)]
def L133s1:zk:=(.seq (.reg ((m 8 0) :: (m 9 1) :: (m 10 0) :: (o 11 (.len .slice (t 10))) :: (o 12 (b .rem (t 9) (t 11))) :: L133r0)) .ret)
def L133s2:zk:=(.seq (.seq (.reg [(m 5 0),(o 6 (.len .slice (t 5))),(o 7 (.eq (.cell (.i .i64)) .false (t 6) (k 0)))]) L133s0) L133s1)
def L133:zr:=⟨16,(.seq (.reg [(o 4 (.move (k 0)))]) L133s2),[(.t 4)],.false,.none,vO⟩
theorem lp133:LP 133 = some L133:=by kernel_rfl
def L137r0:List zo:=[(o 10 (.indexAddrA 13 1 (t 9) (t 6))),(l 11 10),(m 4 11)]
def L137s0:zk:=(.seq (.reg ((m 5 0) :: (m 6 1) :: (o 7 (.nilCheck (t 5))) :: (f 8 1 7) :: (o 9 (.indexAddrA 13 13 (t 8) (k 0))) :: L137r0)) .ret)
def L137:zr:=⟨12,(.seq (.reg [(o 4 (.move (k 0)))]) L137s0),[(.t 4)],.false,.none,vO⟩
theorem lp137:LP 137 = some L137:=by kernel_rfl
def L141s0:zk:=(.reg [(o 7 (.alloc [(i 0),(i 0)])),(s 2 7 13)])
def L141r0:List zo:=[(o 29 (.build [(i 0),(i 0)] [(0,(1,(t 23))),(1,(1,(t 28)))])),(o 8 (.alloc [(i 0),(i 0)])),(s 2 8 29)]
def L141r1:List zo:=((f 24 0 7) :: (l 25 24) :: (f 26 0 6) :: (l 27 26) :: (o 28 (b .sub (t 25) (t 27))) :: L141r0)
def L141r2:List zo:=((l 19 3) :: (f 20 0 6) :: (l 21 20) :: (o 22 (b .sub (t 19) (t 21))) :: (o 23 (b .mul (t 18) (t 22))) :: L141r1)
def L141s1:zk:=(.draw 4 [(f 30 1 6),(l 31 30),(g 32 2 8),(o 33 (c 160 [(t 32)])),(oa 34 (b .add (t 31) (t 33)) [3]),(ona (.store 1 (t 5) (t 34)) [3])])
def L141s2:zk:=(.block 0 (.rangeFunc (t 11) [12,13] (.seq (.reg [(o 6 (.alloc [(i 0),(i 0)])),(s 2 6 12)]) L141s0) (.block 1 (.seq (.reg ((f 14 1 7) :: (l 15 14) :: (f 16 1 6) :: (l 17 16) :: (o 18 (b .sub (t 15) (t 17))) :: L141r2)) L141s1))))
def L141s3:zk:=(.seq (.reg [(l 35 5),(m 4 35)]) .ret)
def L141s4:zk:=(.seq (.seq (.reg [(m 9 0),(l 10 3),(o 11 (c 159 [(t 9),(t 10)]))]) L141s2) L141s3)
def L141s5:zk:=(.seq (.reg [(o 5 (.alloc [(i 0)])),(on (.store 1 (t 5) (k 0)))]) L141s4)
def L141:zr:=⟨36,(.seq (.reg [(o 3 (.box (t 1))),(o 4 (.move (k 0)))]) L141s5),[(.t 4)],.false,.none,vO⟩
theorem lp141:LP 141 = some L141:=by kernel_rfl
def L153r0:List zo:=[(o 11 (.build (Zr 174) [(0,(4,(t 6))),(4,(170,(t 10)))])),(o 3 (.alloc (Zr 174))),(s 174 3 11)]
def L153r1:List zo:=[(f 35 1 34),(o 36 (.indexAddrA 13 13 (t 35) (t 25))),(o 37 (.indexAddrA 13 1 (t 36) (t 26))),(s 1 37 33)]
def L153r2:List zo:=((f 30 2 1) :: (f 31 1 30) :: (l 32 31) :: (o 33 (b .mul (t 29) (t 32))) :: (f 34 4 3) :: L153r1)
def L153r3:List zo:=[(f 48 1 47),(o 49 (.indexAddrA 13 13 (t 48) (t 38))),(o 50 (.indexAddrA 13 1 (t 49) (t 39))),(s 1 50 46)]
def L153r4:List zo:=((f 43 2 1) :: (f 44 0 43) :: (l 45 44) :: (o 46 (b .mul (t 42) (t 45))) :: (f 47 4 3) :: L153r3)
def L153s0:zk:=(.draw 0 ((m 38 5) :: (m 39 4) :: (m 40 4) :: (m 41 5) :: (o 42 (b .sub (t 40) (t 41))) :: L153r4))
def L153s1:zk:=(.reg [(m 23 5),(o 24 (b .add (t 23) (k 1))),(m 5 24)])
def L153s2:zk:=(.seq (.block 3 (.seq (.draw 0 ((m 25 4) :: (m 26 5) :: (m 27 5) :: (m 28 4) :: (o 29 (b .sub (t 27) (t 28))) :: L153r2)) L153s0)) L153s1)
def L153w0:zk:=(.seq (.seq (.reg [(m 19 5),(f 20 0 1),(l 21 20),(o 22 (b .leq (t 19) (t 21)))]) (.cond (t 22) .skip (.exit 2))) L153s2)
def L153s3:zk:=(.reg [(m 16 4),(o 17 (b .add (t 16) (k 1))),(m 4 17)])
def L153s4:zk:=(.seq (.block 1 (.seq (.reg [(m 18 4),(m 5 18)]) (.block 2 (.loop L153w0)))) L153s3)
def L153w1:zk:=(.seq (.seq (.reg [(m 12 4),(f 13 0 1),(l 14 13),(o 15 (b .leq (t 12) (t 14)))]) (.cond (t 15) .skip (.exit 0))) L153s4)
def L153s5:zk:=(.seq (.reg [(g 64 174 3),(s 174 2 64)]) .ret)
def L153s6:zk:=(.seq (.reg [(f 57 4 3),(f 58 0 1),(l 59 58),(f 60 1 1),(l 61 60),(o 62 (.un .neg (t 61))),(o 63 (c 170 [(t 57),(t 59),(k 0),(t 62)]))]) L153s5)
def L153s7:zk:=(.seq (.reg [(f 51 4 3),(f 52 0 1),(l 53 52),(f 54 1 1),(l 55 54),(o 56 (c 170 [(t 51),(k 0),(t 53),(t 55)]))]) L153s6)
def L153s8:zk:=(.seq (.seq (.reg [(o 4 (.move (k 0)))]) (.block 0 (.loop L153w1))) L153s7)
def L153s9:zk:=(.seq (.reg ((g 6 4 1) :: (f 7 0 1) :: (l 8 7) :: (o 9 (b .add (t 8) (k 1))) :: (o 10 (.build (Zr 170) [(0,(1,(t 9)))])) :: L153r0)) L153s8)
def L153:zr:=⟨65,(.seq (.reg [(o 1 (.box (t 0))),(o 2 (.alloc (Zr 174)))]) L153s9),[(.cell 2 .true 174)],.false,.none,vO⟩
theorem lp153:LP 153 = some L153:=by kernel_rfl
def L157r0:List zo:=[(g 17 2 16),(m 18 0),(m 19 5),(o 20 (.indexAddrS 2 (t 18) (t 19))),(g 21 2 20),(o 22 (.call (t 12) [(t 17),(t 21)])),(oa 23 (.un .not (t 22)) [10])]
def L157s0:zk:=(.cond (t 23) (.seq (.reg [(o 4 (.move (.c (.bool .false))))]) .ret) .skip)
def L157s1:zk:=(.reg [(m 10 5),(o 11 (b .add (t 10) (k 1))),(m 5 11)])
def L157s2:zk:=(.seq (.block 1 (.seq (.draw 10 ((m 12 1) :: (m 13 0) :: (m 14 5) :: (o 15 (b .sub (t 14) (k 1))) :: (o 16 (.indexAddrS 2 (t 13) (t 15))) :: L157r0)) L157s0)) L157s1)
def L157w0:zk:=(.seq (.seq (.reg [(m 6 5),(m 7 0),(o 8 (.len .slice (t 7))),(o 9 (b .lss (t 6) (t 8)))]) (.cond (t 9) .skip (.exit 0))) L157s2)
def L157s3:zk:=(.seq (.seq (.reg [(o 5 (.move (k 1)))]) (.block 0 (.loop L157w0))) (.seq (.reg [(o 4 (.move (.c (.bool .true))))]) .ret))
def L157:zr:=⟨24,(.seq (.reg [(o 4 (.move (.c (.bool .false))))]) L157s3),[(.t 4)],.false,.none,vO⟩
theorem lp157:LP 157 = some L157:=by kernel_rfl
def L161s0:zk:=(.seq (.reg [(o 1 (.build [.nilFunc,.nilFunc] [(0,(1,(.c (.func 107 [] [])))),(1,(1,(.c (.func 172 [] []))))])),(s 2 0 1)]) .ret)
def L161:zr:=⟨2,(.seq (.reg [(o 0 (.alloc [.nilFunc,.nilFunc]))]) L161s0),[(.cell 0 .true 2)],.false,.none,vO⟩
theorem lp161:LP 161 = some L161:=by kernel_rfl
def L169r0:List zo:=[(og 22 (b .leq (t 20) (t 21)) 18 .true),(o 23 (.pick (t 18) (t 22) (.c (.bool .false)))),(m 6 23)]
def L169r1:List zo:=((o 17 (.pick (t 11) (t 16) (.c (.bool .false)))) :: (m 18 17) :: (og 19 (.fieldAddr 1 (t 3)) 18 .true) :: (og 20 (.load .false 1 (t 19)) 18 .true) :: (og 21 (.move (t 2)) 18 .true) :: L169r0)
def L169r2:List zo:=((og 12 (.fieldAddr 0 (t 3)) 11 .true) :: (og 13 (.load .false 1 (t 12)) 11 .true) :: (og 14 (.fieldAddr 1 (t 3)) 11 .true) :: (og 15 (.load .false 1 (t 14)) 11 .true) :: (og 16 (b .leq (t 13) (t 15)) 11 .true) :: L169r1)
def L169s0:zk:=(.seq (.reg ((m 7 1) :: (f 8 0 3) :: (l 9 8) :: (o 10 (b .leq (t 7) (t 9))) :: (m 11 10) :: L169r2)) .ret)
def L169:zr:=⟨24,(.seq (.reg [(o 3 (.box (t 0))),(o 6 (.move (.c (.bool .false))))]) L169s0),[(.t 6)],.false,.none,vO⟩
theorem lp169:LP 169 = some L169:=by kernel_rfl
def L181r0:List zo:=[(f 14 1 13),(o 15 (.indexAddrA 13 13 (t 14) (t 11))),(o 16 (.indexAddrA 13 1 (t 15) (t 12))),(l 17 16),(o 18 (b .add (t 9) (t 17))),(o 19 (b .geq (t 18) (k 0))),(m 8 19)]
def L181s0:zk:=(.seq (.reg ((m 9 3) :: (m 10 0) :: (m 11 2) :: (m 12 1) :: (o 13 (.nilCheck (t 10))) :: L181r0)) .ret)
def L181:zr:=⟨20,(.seq (.reg [(o 8 (.move (.c (.bool .false))))]) L181s0),[(.t 8)],.false,.none,vO⟩
theorem lp181:LP 181 = some L181:=by kernel_rfl
def L10s0:zk:=(.cond (t 26) (.seq (.reg [(o 27 (c 19 [])),(m 8 27)]) .ret) .skip)
def L10r0:List zo:=[(x 33 28 0),(x 34 28 1),(o 9 (.alloc [(i 0),(i 0),(i 0),(i 0),(.slice .none 0 0),(.slice .none 0 0),(i 0),(i 0),(i 0),(i 0)])),(s 10 9 33),(m 10 34)]
def L10r1:List zo:=[(l 40 39),(m 11 37),(m 12 40)]
def L10r2:List zo:=[(x 46 41 0),(x 47 41 1),(m 13 46),(m 14 47)]
def L10r3:List zo:=[(og 53 (.fieldAddr 0 (t 9)) 50 .false),(og 54 (.fieldAddr 0 (t 53)) 50 .false),(og 55 (.load .false 1 (t 54)) 50 .false),(og 56 (b .add (t 55) (k 1)) 50 .false),(og 57 (.eq (.cell (.i .i64)) .true (t 52) (t 56)) 50 .false),(o 58 (.pick (t 50) (.c (.bool .true)) (t 57)))]
def L10s1:zk:=(.cond (t 58) (.seq (.reg [(o 8 (.move (.c (.bool .false))))]) .ret) .skip)
def L10r4:List zo:=[(o 15 (.alloc [(i 0),(i 0)])),(o 16 (.alloc [(i 0),(i 0)])),(ona (.store 2 (t 15) (t 60)) [6,5,4,1]),(ona (.store 2 (t 16) (t 63)) [6,5,4,1])]
def L10r5:List zo:=[(oa 80 (.extract (t 70) 1) [7,5,2]),(oa 18 (.move (t 79)) [7,5,2]),(oa 19 (.move (t 80)) [7,5,2])]
def L10r6:List zo:=((oa 76 (c 60 [(t 75)]) [2]) :: (m 77 17) :: (oa 78 (c 58 [(t 73),(t 76),(t 77),(.c (.bool .false))]) [5,2]) :: (oa 70 (.move (t 78)) [7,5,2]) :: (oa 79 (.extract (t 70) 0) [7,5,2]) :: L10r5)
def L10r7:List zo:=[(oa 91 (.extract (t 81) 1) [7,5,2]),(oa 20 (.move (t 90)) [7,5,2]),(oa 21 (.move (t 91)) [7,5,2])]
def L10r8:List zo:=((oa 87 (c 60 [(t 86)]) [2]) :: (m 88 17) :: (oa 89 (c 58 [(t 84),(t 87),(t 88),(.c (.bool .true))]) [5,2]) :: (oa 81 (.move (t 89)) [7,5,2]) :: (oa 90 (.extract (t 81) 0) [7,5,2]) :: L10r7)
def L10r9:List zo:=[(og 112 (.move (t 20)) 107 .false),(og 113 (c 61 [(t 109),(t 111),(t 112)]) 107 .false),(og 114 (.un .not (t 113)) 107 .false),(o 115 (.pick (t 107) (.c (.bool .true)) (t 114)))]
def L10r10:List zo:=((m 107 106) :: (og 108 (.fieldAddr 0 (t 9)) 107 .false) :: (og 109 (.load .true 4 (t 108)) 107 .false) :: (og 110 (.fieldAddr 4 (t 9)) 107 .false) :: (og 111 (.load .false 1 (t 110)) 107 .false) :: L10r9)
def L10r11:List zo:=((og 102 (.load .false 1 (t 101)) 98 .false) :: (og 103 (.move (t 18)) 98 .false) :: (og 104 (c 61 [(t 100),(t 102),(t 103)]) 98 .false) :: (og 105 (.un .not (t 104)) 98 .false) :: (o 106 (.pick (t 98) (.c (.bool .true)) (t 105))) :: L10r10)
def L10r12:List zo:=((o 97 (.pick (t 94) (.c (.bool .true)) (t 96))) :: (m 98 97) :: (og 99 (.fieldAddr 0 (t 9)) 98 .false) :: (og 100 (.load .true 4 (t 99)) 98 .false) :: (og 101 (.fieldAddr 4 (t 9)) 98 .false) :: L10r11)
def L10s2:zk:=(.cond (t 115) (.seq (.reg [(o 8 (.move (.c (.bool .false))))]) .ret) .skip)
def L10r13:List zo:=[(o 136 (b .mul (t 134) (t 135))),(oa 137 (b .sub (t 132) (t 136)) [13,2]),(oa 22 (.move (t 126)) [13,2]),(oa 23 (.move (t 137)) [13,2])]
def L10r14:List zo:=((l 131 130) :: (oa 132 (b .mul (t 129) (t 131)) [13,2]) :: (f 133 0 16) :: (l 134 133) :: (m 135 12) :: L10r13)
def L10r15:List zo:=((oa 126 (b .sub (t 121) (t 125)) [2]) :: (m 127 20) :: (m 128 17) :: (oa 129 (c 56 [(t 127),(t 128)]) [2]) :: (f 130 1 15) :: L10r14)
def L10r16:List zo:=((oa 121 (b .mul (t 118) (t 120)) [2]) :: (f 122 1 16) :: (l 123 122) :: (m 124 12) :: (o 125 (b .mul (t 123) (t 124))) :: L10r15)
def L10r17:List zo:=[(og 178 (.move (t 12)) 170 .false),(og 179 (b .mul (t 177) (t 178)) 170 .false),(og 180 (b .leq (t 171) (t 179)) 170 .false),(o 181 (.pick (t 170) (.c (.bool .true)) (t 180)))]
def L10r18:List zo:=((og 173 (.move (t 17)) 170 .false) :: (og 174 (.indexAddrS 2 (t 172) (t 173)) 170 .false) :: (og 175 (.fieldAddr 1 (t 174)) 170 .false) :: (og 176 (.load .false 1 (t 175)) 170 .false) :: (og 177 (b .sub (t 176) (k 1)) 170 .false) :: L10r17)
def L10r19:List zo:=((og 168 (b .gtr (t 160) (t 167)) 159 .false) :: (o 169 (.pick (t 159) (.c (.bool .true)) (t 168))) :: (m 170 169) :: (og 171 (.move (t 23)) 170 .false) :: (og 172 (.move (t 13)) 170 .false) :: L10r18)
def L10r20:List zo:=((og 163 (.indexAddrS 2 (t 161) (t 162)) 159 .false) :: (og 164 (.fieldAddr 1 (t 163)) 159 .false) :: (og 165 (.load .false 1 (t 164)) 159 .false) :: (og 166 (.move (t 12)) 159 .false) :: (og 167 (b .mul (t 165) (t 166)) 159 .false) :: L10r19)
def L10r21:List zo:=((o 158 (.pick (t 147) (.c (.bool .true)) (t 157))) :: (m 159 158) :: (og 160 (.move (t 23)) 159 .false) :: (og 161 (.move (t 13)) 159 .false) :: (og 162 (.move (t 17)) 159 .false) :: L10r20)
def L10r22:List zo:=((og 153 (.load .false 1 (t 152)) 147 .false) :: (og 154 (b .add (t 153) (k 1)) 147 .false) :: (og 155 (.move (t 12)) 147 .false) :: (og 156 (b .mul (t 154) (t 155)) 147 .false) :: (og 157 (b .geq (t 148) (t 156)) 147 .false) :: L10r21)
def L10r23:List zo:=((og 148 (.move (t 22)) 147 .false) :: (og 149 (.move (t 13)) 147 .false) :: (og 150 (.move (t 17)) 147 .false) :: (og 151 (.indexAddrS 2 (t 149) (t 150)) 147 .false) :: (og 152 (.fieldAddr 0 (t 151)) 147 .false) :: L10r22)
def L10r24:List zo:=((l 143 142) :: (m 144 12) :: (o 145 (b .mul (t 143) (t 144))) :: (o 146 (b .lss (t 138) (t 145))) :: (m 147 146) :: L10r23)
def L10s3:zk:=(.cond (t 181) (.seq (.reg [(o 8 (.move (.c (.bool .false))))]) .ret) .skip)
def L10s4:zk:=(.seq (.reg ((m 138 22) :: (m 139 13) :: (m 140 17) :: (o 141 (.indexAddrS 2 (t 139) (t 140))) :: (f 142 0 141) :: L10r24)) L10s3)
def L10s5:zk:=(.seq (.draw 19 ((m 116 18) :: (m 117 17) :: (o 118 (c 56 [(t 116),(t 117)])) :: (f 119 0 15) :: (l 120 119) :: L10r16)) L10s4)
def L10s6:zk:=(.seq (.seq (.reg ((m 92 19) :: (o 93 (.eq (.cell (.i .i64)) .true (t 92) (k 0))) :: (m 94 93) :: (og 95 (.move (t 21)) 94 .false) :: (og 96 (.eq (.cell (.i .i64)) .true (t 95) (k 0)) 94 .false) :: L10r12)) L10s2) L10s5)
def L10s7:zk:=(.seq (.draw 5 ((f 82 0 9) :: (g 83 4 82) :: (o 84 (c 59 [(t 83)])) :: (f 85 4 9) :: (l 86 85) :: L10r8)) L10s6)
def L10s8:zk:=(.reg [(m 68 17),(o 69 (b .add (t 68) (k 1))),(m 17 69)])
def L10s9:zk:=(.seq (.block 1 (.seq (.draw 5 ((f 71 0 9) :: (g 72 4 71) :: (o 73 (c 59 [(t 72)])) :: (f 74 4 9) :: (l 75 74) :: L10r6)) L10s7)) L10s8)
def L10w0:zk:=(.seq (.seq (.reg [(m 64 17),(m 65 13),(o 66 (.len .slice (t 65))),(o 67 (b .lss (t 64) (t 66)))]) (.cond (t 67) .skip (.exit 0))) L10s9)
def L10s10:zk:=(.seq (.reg [(o 182 (c 19 [])),(m 8 182)]) .ret)
def L10s11:zk:=(.seq (.seq (.reg [(o 17 (.move (k 0)))]) (.block 0 (.loop L10w0))) L10s10)
def L10s12:zk:=(.seq (.draw 7 ((g 59 10 9) :: (o 60 (c 27 [(t 59)])) :: (g 61 10 9) :: (m 62 11) :: (oa 63 (c 55 [(t 61),(t 62)]) [1]) :: L10r4)) L10s11)
def L10s13:zk:=(.seq (.seq (.reg ((m 48 14) :: (o 49 (.eq (.cell (.i .i64)) .true (t 48) (k 0))) :: (m 50 49) :: (og 51 (.move (t 13)) 50 .false) :: (og 52 (.len .slice (t 51)) 50 .false) :: L10r3)) L10s1) L10s12)
def L10s14:zk:=(.seq (.reg ((g 42 10 9) :: (o 43 (c 21 [(t 42)])) :: (m 44 11) :: (o 45 (c 22 [(t 43),(t 44)])) :: (m 41 45) :: L10r2)) L10s13)
def L10s15:zk:=(.seq (.draw 0 ((m 35 3) :: (o 36 (.convInt .i64 (t 35))) :: (o 37 (b .rem (t 36) (k 10001))) :: (f 38 0 4) :: (f 39 1 38) :: L10r1)) L10s14)
def L10s16:zk:=(.seq (.reg ((g 29 10 4) :: (m 30 1) :: (m 31 2) :: (o 32 (c 53 [(t 29),(t 30),(t 31)])) :: (m 28 32) :: L10r0)) L10s15)
def L10s17:zk:=(.seq (.seq (.reg [(g 24 10 4),(o 25 (c 52 [(t 24)])),(o 26 (.un .not (t 25)))]) L10s0) L10s16)
def L10:zr:=⟨183,(.seq (.reg [(o 4 (.box (t 0))),(o 8 (.move (.c (.bool .false))))]) L10s17),[(.t 8)],.false,.none,vO⟩
theorem lp10:LP 10 = some L10:=by kernel_rfl
end
end Go.Hx

