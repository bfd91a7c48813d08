import Derived.Test.YtcejjaaoainfjaaH00
import Derived.Test.YtcejjaaoainfjaaProg
import Derived.ProofKit
set_option linter.all false
namespace Go.Hx
set_option maxRecDepth 100000
noncomputable section
abbrev F.m (d x:Nat):zg:=⟨some d,.move (.t x),none,[]⟩
abbrev F.f (d k x:Nat):zg:=⟨some d,.fieldAddr k (.t x),none,[]⟩
abbrev F.l (d x:Nat):zg:=⟨some d,.load false 1 (.t x),none,[]⟩
abbrev F.g (d n x:Nat):zg:=⟨some d,.load true n (.t x),none,[]⟩
abbrev F.x (d x k:Nat):zg:=⟨some d,.extract (.t x) k,none,[]⟩
abbrev F.s (n x y:Nat):zg:=⟨none,.store n (.t x) (.t y),none,[]⟩
abbrev F.i (n:Int):HV:=.int .i64 n
abbrev F.c (f:Nat) (a:List Lo):LOp:=.call (.c (.func f [] [])) a
abbrev F.b (o:BinOp) (x y:Lo):LOp:=.bin o x y
abbrev F.k (n:Int):Lo:=.c (.int .i64 n)
abbrev F.t (n:Nat):Lo:=.t n
open F
abbrev o (d:Nat) (p:LOp):zg:=⟨some d,p,none,[]⟩
abbrev oa (d:Nat) (p:LOp) (a:List Nat):zg:=⟨some d,p,none,a⟩
abbrev og (d:Nat) (p:LOp) (t:Nat) (b:Bool):zg:=⟨some d,p,some (t,b),[]⟩
abbrev oga (d:Nat) (p:LOp) (t:Nat) (b:Bool) (a:List Nat):zg:=⟨some d,p,some (t,b),a⟩
abbrev on (p:LOp):zg:=⟨none,p,none,[]⟩
abbrev ona (p:LOp) (a:List Nat):zg:=⟨none,p,none,a⟩
def Zr (n:Nat):List HV:=List.replicate n (i 0)
noncomputable abbrev vO:=viaOff Go.Proofs.Try.prog
noncomputable abbrev LP:Nat → Option zo:=lowP Go.Proofs.Try.prog [22,24,27,28,29,35,36,37,38,40,44,45,46,49,52,54,55,56,58,59,61,65,66,71,74,79,80,82,83,89,93,94,103,107,108,109,120,121,122,129]
def L4s0:zf:=(.cond (t 13) (.seq (.reg [(o 14 (c 20 [])),(m 2 14)]) .ret) .skip)
def L4r0:List zg:=[(x 20 15 1),(m 3 19),(m 4 20)]
def L4r1:List zg:=[(x 26 21 1),(m 5 25),(m 6 26)]
def L4r2:List zg:=[(x 36 31 2),(m 8 34),(m 9 35),(m 10 36)]
def L4s1:zf:=(.cond (t 38) (.reg [(o 7 (.move (k 9)))]) .skip)
def L4s2:zf:=(.seq (.reg [(m 37 10),(o 38 (.un .not (t 37)))]) L4s1)
def L4s3:zf:=(.seq (.reg ((g 32 3 1) :: (o 33 (c 29 [(t 32)])) :: (m 31 33) :: (x 34 31 0) :: (x 35 31 1) :: L4r2)) L4s2)
def L4s4:zf:=(.cond (t 30) (.seq (.reg [(o 10 (.move (.c (.bool .false))))]) L4s3) .skip)
def L4r3:List zg:=[(o 56 (.pick (t 49) (t 55) (.c (.bool .false)))),(m 57 56),(og 58 (c 20 []) 57 .true),(o 59 (.pick (t 57) (t 58) (.c (.bool .false)))),(m 2 59)]
def L4r4:List zg:=((og 51 (.len .slice (t 50)) 49 .true) :: (og 52 (.move (t 5)) 49 .true) :: (og 53 (.len .slice (t 52)) 49 .true) :: (og 54 (b .add (t 51) (t 53)) 49 .true) :: (og 55 (.eq (.cell (.i .i64)) .false (t 54) (k 0)) 49 .true) :: L4r3)
def L4r5:List zg:=((og 46 (.move (t 7)) 44 .true) :: (og 47 (.eq (.cell (.i .i64)) .false (t 45) (t 46)) 44 .true) :: (o 48 (.pick (t 44) (t 47) (.c (.bool .false)))) :: (m 49 48) :: (og 50 (.move (t 3)) 49 .true) :: L4r4)
def L4s5:zf:=(.cond (t 40) (.seq (.reg ((m 41 4) :: (m 42 7) :: (o 43 (.eq (.cell (.i .i64)) .false (t 41) (t 42))) :: (m 44 43) :: (og 45 (.move (t 6)) 44 .true) :: L4r5)) .ret) .skip)
def L4r6:List zg:=[(o 75 (.pick (t 71) (t 74) (.c (.bool .false)))),(m 76 75),(og 77 (c 20 []) 76 .true),(o 78 (.pick (t 76) (t 77) (.c (.bool .false)))),(m 2 78)]
def L4r7:List zg:=((o 70 (.pick (t 67) (t 69) (.c (.bool .false)))) :: (m 71 70) :: (og 72 (.move (t 5)) 71 .true) :: (og 73 (.move (t 9)) 71 .true) :: (og 74 (c 30 [(t 72),(t 73)]) 71 .true) :: L4r6)
def L4r8:List zg:=((og 65 (c 30 [(t 63),(t 64)]) 62 .true) :: (o 66 (.pick (t 62) (t 65) (.c (.bool .false)))) :: (m 67 66) :: (og 68 (.move (t 6)) 67 .true) :: (og 69 (.eq (.cell (.i .i64)) .false (t 68) (k 0)) 67 .true) :: L4r7)
def L4s6:zf:=(.seq (.reg ((m 60 4) :: (o 61 (.eq (.cell (.i .i64)) .false (t 60) (k 0))) :: (m 62 61) :: (og 63 (.move (t 3)) 62 .true) :: (og 64 (.move (t 8)) 62 .true) :: L4r8)) .ret)
def L4s7:zf:=(.seq (.seq (.reg [(m 39 7),(o 40 (.eq (.cell (.i .i64)) .true (t 39) (k 0)))]) L4s5) L4s6)
def L4s8:zf:=(.seq (.seq (.reg [(m 29 7),(o 30 (.eq (.cell (.i .i64)) .false (t 29) (k 0)))]) L4s4) L4s7)
def L4s9:zf:=(.seq (.reg [(o 8 (.move (.c (.slice .none 0 0)))),(o 9 (.move (.c (.slice .none 0 0))))]) L4s8)
def L4s10:zf:=(.seq (.reg [(g 27 3 1),(o 28 (c 25 [(t 27)])),(m 7 28)]) L4s9)
def L4s11:zf:=(.seq (.reg ((g 22 3 1) :: (o 23 (c 22 [(t 22)])) :: (o 24 (c 28 [(t 23)])) :: (m 21 24) :: (x 25 21 0) :: L4r1)) L4s10)
def L4s12:zf:=(.seq (.reg ((g 16 3 1) :: (o 17 (c 22 [(t 16)])) :: (o 18 (c 27 [(t 17)])) :: (m 15 18) :: (x 19 15 0) :: L4r0)) L4s11)
def L4s13:zf:=(.seq (.seq (.reg [(g 11 3 1),(o 12 (c 19 [(t 11)])),(o 13 (.un .not (t 12)))]) L4s0) L4s12)
def L4:zo:=⟨79,(.seq (.reg [(o 1 (.box (t 0))),(o 2 (.move (.c (.bool .false))))]) L4s13),[(.t 2)],.false,.none,vO⟩
def L12s0:zf:=(.cond (t 20) (.seq (.reg [(o 21 (c 20 [])),(m 6 21)]) .ret) .skip)
def L12r0:List zg:=[(o 38 (.sliceS 2 (t 34) (.some (t 35)) (.some (t 37)))),(o 39 (c 37 [(t 33),(t 38)])),(ona (.store 3 (t 7) (t 39)) [6])]
def L12s1:zf:=(.draw 6 ((g 33 3 3) :: (m 34 8) :: (m 35 9) :: (m 36 9) :: (o 37 (b .add (t 36) (k 1))) :: L12r0))
def L12s2:zf:=(.cond (t 27) (.seq (.reg [(m 28 1),(o 29 (.convInt .i64 (t 28))),(m 30 8),(o 31 (.len .slice (t 30))),(o 32 (b .rem (t 29) (t 31))),(m 9 32)]) L12s1) .skip)
def L12s3:zf:=(.seq (.reg [(m 25 8),(o 26 (.len .slice (t 25))),(o 27 (b .gtr (t 26) (k 0)))]) L12s2)
def L12r1:List zg:=[(o 45 (b .add (t 41) (t 44))),(o 46 (.min [(k 20),(t 45)])),(f 47 1 7),(s 1 47 46)]
def L12r2:List zg:=[(x 53 48 1),(m 10 52),(m 11 53)]
def L12r3:List zg:=[(x 59 54 1),(m 12 58),(m 13 59)]
def L12r4:List zg:=[(x 65 60 1),(m 14 64),(m 15 65)]
def L12r5:List zg:=[(x 71 66 1),(m 16 70),(m 17 71)]
def L12r6:List zg:=[(og 92 (.move (t 13)) 91 .true),(og 93 (.eq (.cell (.i .i64)) .true (t 92) (k 9)) 91 .true),(og 94 (.pick (t 91) (t 93) (.c (.bool .false))) 88 .false),(o 95 (.pick (t 88) (.c (.bool .true)) (t 94)))]
def L12r7:List zg:=((o 87 (.pick (t 80) (.c (.bool .true)) (t 86))) :: (m 88 87) :: (og 89 (.move (t 13)) 88 .false) :: (og 90 (.eq (.cell (.i .i64)) .true (t 89) (k 0)) 88 .false) :: (og 91 (.move (t 90)) 88 .false) :: L12r6)
def L12r8:List zg:=((og 82 (.eq (.cell (.i .i64)) .true (t 81) (k 0)) 80 .false) :: (og 83 (.move (t 82)) 80 .false) :: (og 84 (.move (t 11)) 83 .true) :: (og 85 (.eq (.cell (.i .i64)) .true (t 84) (k 9)) 83 .true) :: (og 86 (.pick (t 83) (t 85) (.c (.bool .false))) 80 .false) :: L12r7)
def L12r9:List zg:=((og 77 (.move (t 17)) 75 .false) :: (og 78 (.eq (.cell (.i .i64)) .true (t 76) (t 77)) 75 .false) :: (o 79 (.pick (t 75) (.c (.bool .true)) (t 78))) :: (m 80 79) :: (og 81 (.move (t 11)) 80 .false) :: L12r8)
def L12s4:zf:=(.cond (t 95) (.seq (.reg [(o 6 (.move (.c (.bool .false))))]) .ret) .skip)
def L12r10:List zg:=[(o 111 (.pick (t 98) (.c (.bool .true)) (t 110))),(m 112 111),(og 113 (c 20 []) 112 .true),(o 114 (.pick (t 112) (t 113) (.c (.bool .false)))),(m 6 114)]
def L12r11:List zg:=((og 106 (.move (t 105)) 98 .false) :: (og 107 (.move (t 14)) 106 .true) :: (og 108 (.move (t 16)) 106 .true) :: (og 109 (c 64 [(t 107),(t 108)]) 106 .true) :: (og 110 (.pick (t 106) (t 109) (.c (.bool .false))) 98 .false) :: L12r10)
def L12r12:List zg:=((og 101 (.move (t 100)) 98 .false) :: (og 102 (.move (t 10)) 101 .true) :: (og 103 (.move (t 12)) 101 .true) :: (og 104 (c 64 [(t 102),(t 103)]) 101 .true) :: (og 105 (.pick (t 101) (t 104) (.c (.bool .false))) 98 .false) :: L12r11)
def L12s5:zf:=(.seq (.reg ((m 96 11) :: (o 97 (.eq (.cell (.i .i64)) .true (t 96) (k 0))) :: (m 98 97) :: (og 99 (.move (t 13)) 98 .false) :: (og 100 (.eq (.cell (.i .i64)) .false (t 99) (k 0)) 98 .false) :: L12r12)) .ret)
def L12s6:zf:=(.seq (.seq (.reg ((m 72 11) :: (m 73 15) :: (o 74 (.eq (.cell (.i .i64)) .true (t 72) (t 73))) :: (m 75 74) :: (og 76 (.move (t 13)) 75 .false) :: L12r9)) L12s4) L12s5)
def L12s7:zf:=(.seq (.reg ((g 67 3 7) :: (o 68 (c 22 [(t 67)])) :: (o 69 (c 28 [(t 68)])) :: (m 66 69) :: (x 70 66 0) :: L12r5)) L12s6)
def L12s8:zf:=(.seq (.reg ((g 61 3 3) :: (o 62 (c 22 [(t 61)])) :: (o 63 (c 28 [(t 62)])) :: (m 60 63) :: (x 64 60 0) :: L12r4)) L12s7)
def L12s9:zf:=(.seq (.reg ((g 55 3 7) :: (o 56 (c 22 [(t 55)])) :: (o 57 (c 27 [(t 56)])) :: (m 54 57) :: (x 58 54 0) :: L12r3)) L12s8)
def L12s10:zf:=(.seq (.reg ((g 49 3 3) :: (o 50 (c 22 [(t 49)])) :: (o 51 (c 27 [(t 50)])) :: (m 48 51) :: (x 52 48 0) :: L12r2)) L12s9)
def L12s11:zf:=(.seq (.reg ((f 40 1 7) :: (l 41 40) :: (m 42 2) :: (o 43 (.convInt .i64 (t 42))) :: (o 44 (b .rem (t 43) (k 4))) :: L12r1)) L12s10)
def L12s12:zf:=(.seq (.seq (.reg [(g 23 3 3),(o 24 (c 35 [(t 23)])),(m 8 24)]) L12s3) L12s11)
def L12s13:zf:=(.seq (.reg [(g 22 3 3),(o 7 (.alloc [(.slice .none 0 0),(i 0),(.slice .none 0 0)])),(s 3 7 22)]) L12s12)
def L12s14:zf:=(.seq (.seq (.reg [(g 18 3 3),(o 19 (c 60 [(t 18)])),(o 20 (.un .not (t 19)))]) L12s0) L12s13)
def L12:zo:=⟨115,(.seq (.reg [(o 3 (.box (t 0))),(o 6 (.move (.c (.bool .false))))]) L12s14),[(.t 6)],.false,.none,vO⟩
theorem lp12:LP 12 = some L12:=by kernel_rfl
def L19r0:List zg:=[(m 9 8),(og 10 (.move (t 3)) 9 .true),(og 11 (b .lss (t 10) (k 10)) 9 .true),(o 12 (.pick (t 9) (t 11) (.c (.bool .false))))]
def L19r1:List zg:=[(l 20 19),(o 21 (.len .slice (t 20))),(o 22 (b .gtr (t 21) (k 9)))]
def L19s0:zf:=(.cond (t 22) (.seq (.reg [(o 2 (.move (.c (.bool .false))))]) .ret) .skip)
def L19s1:zf:=(.reg [(m 13 3),(o 14 (b .add (t 13) (k 1))),(m 3 14)])
def L19s2:zf:=(.seq (.block 1 (.seq (.reg ((f 15 2 1) :: (l 16 15) :: (m 17 3) :: (o 18 (.indexAddrS 3 (t 16) (t 17))) :: (f 19 2 18) :: L19r1)) L19s0)) L19s1)
def L19w0:zf:=(.seq (.seq (.reg ((m 4 3) :: (f 5 2 1) :: (l 6 5) :: (o 7 (.len .slice (t 6))) :: (o 8 (b .lss (t 4) (t 7))) :: L19r0)) (.cond (t 12) .skip (.exit 0))) L19s2)
def L19r2:List zg:=[(og 28 (.fieldAddr 2 (t 1)) 27 .true),(og 29 (.load .false 1 (t 28)) 27 .true),(og 30 (.len .slice (t 29)) 27 .true),(og 31 (b .leq (t 30) (k 9)) 27 .true),(o 32 (.pick (t 27) (t 31) (.c (.bool .false)))),(m 2 32)]
def L19s3:zf:=(.seq (.reg ((f 23 0 1) :: (l 24 23) :: (o 25 (.len .slice (t 24))) :: (o 26 (b .leq (t 25) (k 9))) :: (m 27 26) :: L19r2)) .ret)
def L19s4:zf:=(.seq (.seq (.reg [(o 3 (.move (k 0)))]) (.block 0 (.loop L19w0))) L19s3)
def L19:zo:=⟨33,(.seq (.reg [(o 1 (.box (t 0))),(o 2 (.move (.c (.bool .false))))]) L19s4),[(.t 2)],.false,.none,vO⟩
theorem lp19:LP 19 = some L19:=by kernel_rfl
def L21r0:List zg:=[(og 8 (.fieldAddr 2 (t 1)) 7 .false),(og 9 (.load .false 1 (t 8)) 7 .false),(og 10 (.len .slice (t 9)) 7 .false),(og 11 (b .gtr (t 10) (k 6)) 7 .false),(o 12 (.pick (t 7) (.c (.bool .true)) (t 11)))]
def L21s0:zf:=(.cond (t 12) (.seq (.reg [(o 2 (.move (k 3)))]) .ret) .skip)
def L21s1:zf:=(.cond (t 15) (.seq (.reg [(o 2 (.move (k 1)))]) .ret) .skip)
def L21s2:zf:=(.seq (.seq (.reg [(g 13 3 1),(o 14 (c 69 [(t 13)])),(o 15 (.un .not (t 14)))]) L21s1) (.seq (.reg [(o 2 (.move (k 0)))]) .ret))
def L21s3:zf:=(.seq (.seq (.reg ((f 3 0 1) :: (l 4 3) :: (o 5 (.len .slice (t 4))) :: (o 6 (b .gtr (t 5) (k 6))) :: (m 7 6) :: L21r0)) L21s0) L21s2)
def L21:zo:=⟨16,(.seq (.reg [(o 1 (.box (t 0))),(o 2 (.move (k 0)))]) L21s3),[(.t 2)],.false,.none,vO⟩
theorem lp21:LP 21 = some L21:=by kernel_rfl
def L22r0:List zg:=[(o 24 (.indexAddrS 2 (t 22) (t 23))),(g 25 2 24),(o 26 (c 33 [(t 25)])),(oa 27 (.buildSlice 1 [(i 0),(i 0)] [(0,(2,(t 26)))]) [7]),(oa 28 (.append 2 16 (t 20) (t 27)) [8,7]),(oa 29 (.fieldAddr 0 (t 3)) [9,8,7]),(ona (.store 1 (t 29) (t 28)) [9,8,7])]
def L22s0:zf:=(.reg [(m 17 4),(o 18 (b .add (t 17) (k 1))),(m 4 18)])
def L22s1:zf:=(.seq (.block 1 (.draw 9 ((f 19 0 3) :: (l 20 19) :: (f 21 0 1) :: (l 22 21) :: (m 23 4) :: L22r0))) L22s0)
def L22w2:zf:=(.seq (.seq (.reg [(m 12 4),(f 13 0 1),(l 14 13),(o 15 (.len .slice (t 14))),(o 16 (b .lss (t 12) (t 15)))]) (.cond (t 16) .skip (.exit 0))) L22s1)
def L22r1:List zg:=[(g 42 2 41),(o 43 (c 33 [(t 42)])),(o 44 (.build [(i 0),(i 0),(.slice .none 0 0)] [(0,(2,(t 43)))])),(o 6 (.alloc [(i 0),(i 0),(.slice .none 0 0)])),(s 3 6 44)]
def L22r2:List zg:=[(f 50 2 49),(l 51 50),(o 52 (.len .slice (t 51))),(o 53 (b .lss (t 45) (t 52)))]
def L22r3:List zg:=[(l 61 60),(m 62 7),(o 63 (.indexAddrS 2 (t 61) (t 62))),(g 64 2 63),(o 8 (.alloc [(i 0),(i 0)])),(s 2 8 64)]
def L22r4:List zg:=[(l 70 69),(o 71 (.build [(i 0),(i 0)] [(0,(1,(t 68))),(1,(1,(t 70)))])),(o 72 (.buildSlice 1 [(i 0),(i 0)] [(0,(2,(t 71)))])),(o 73 (.append 2 16 (t 66) (t 72))),(f 74 2 6),(s 1 74 73)]
def L22s2:zf:=(.reg ((f 65 2 6) :: (l 66 65) :: (f 67 0 8) :: (l 68 67) :: (f 69 1 8) :: L22r4))
def L22s3:zf:=(.reg [(m 54 7),(o 55 (b .add (t 54) (k 1))),(m 7 55)])
def L22s4:zf:=(.seq (.block 5 (.seq (.reg ((f 56 2 1) :: (l 57 56) :: (m 58 5) :: (o 59 (.indexAddrS 3 (t 57) (t 58))) :: (f 60 2 59) :: L22r3)) L22s2)) L22s3)
def L22w0:zf:=(.seq (.seq (.reg ((m 45 7) :: (f 46 2 1) :: (l 47 46) :: (m 48 5) :: (o 49 (.indexAddrS 3 (t 47) (t 48))) :: L22r2)) (.cond (t 53) .skip (.exit 4))) L22s4)
def L22s5:zf:=(.reg [(f 75 2 3),(l 76 75),(g 77 3 6),(o 78 (.buildSlice 1 [(i 0),(i 0),(.slice .none 0 0)] [(0,(3,(t 77)))])),(o 79 (.append 3 40 (t 76) (t 78))),(f 80 2 3),(s 1 80 79)])
def L22s6:zf:=(.seq (.seq (.reg [(o 7 (.move (k 0)))]) (.block 4 (.loop L22w0))) L22s5)
def L22s7:zf:=(.reg [(m 35 5),(o 36 (b .add (t 35) (k 1))),(m 5 36)])
def L22s8:zf:=(.seq (.block 3 (.seq (.reg ((f 37 2 1) :: (l 38 37) :: (m 39 5) :: (o 40 (.indexAddrS 3 (t 38) (t 39))) :: (f 41 0 40) :: L22r1)) L22s6)) L22s7)
def L22w1:zf:=(.seq (.seq (.reg [(m 30 5),(f 31 2 1),(l 32 31),(o 33 (.len .slice (t 32))),(o 34 (b .lss (t 30) (t 33)))]) (.cond (t 34) .skip (.exit 2))) L22s8)
def L22s9:zf:=(.seq (.reg [(g 81 3 3),(s 3 2 81)]) .ret)
def L22s10:zf:=(.seq (.seq (.reg [(o 5 (.move (k 0)))]) (.block 2 (.loop L22w1))) L22s9)
def L22s11:zf:=(.seq (.seq (.reg [(o 4 (.move (k 0)))]) (.block 0 (.loop L22w2))) L22s10)
def L22s12:zf:=(.seq (.reg [(f 9 1 1),(l 10 9),(o 11 (.build [(.slice .none 0 0),(i 0),(.slice .none 0 0)] [(1,(1,(t 10)))])),(o 3 (.alloc [(.slice .none 0 0),(i 0),(.slice .none 0 0)])),(s 3 3 11)]) L22s11)
def L22:zo:=⟨82,(.seq (.reg [(o 1 (.box (t 0))),(o 2 (.alloc [(.slice .none 0 0),(i 0),(.slice .none 0 0)]))]) L22s12),[(.cell 2 .true 3)],.true,.none,vO⟩
theorem lp22:LP 22 = some L22:=by kernel_rfl
def L25s0:zf:=(.seq (.reg [(g 3 3 1),(o 4 (c 73 [(t 3)])),(m 2 4)]) .ret)
def L25:zo:=⟨5,(.seq (.reg [(o 1 (.box (t 0))),(o 2 (.move (k 0)))]) L25s0),[(.t 2)],.false,.none,vO⟩
theorem lp25:LP 25 = some L25:=by kernel_rfl
def L27r0:List zg:=[(o 4 (.alloc [(.slice .none 0 0),(i 0),(.slice .none 0 0),(i 0),(i 0),(i 0),(i 0),(i 0),(i 0),(i 0),(i 0),(i 0),(i 0),(i 0),(i 0),(i 0),(i 0),(i 0),(i 0),(i 0),(i 0),(i 0),(i 0),(i 0),(i 0),(i 0),(i 0),(i 0),(i 0),(i 0),(i 0),(i 0),(i 0),(i 0),(i 0),(i 0),(i 0),(i 0),(i 0),(i 0),(i 0),(i 0),(i 0),(i 0),(i 0),(i 0),(i 0),(i 0),(i 0),(i 0),(i 0),(i 0),(i 0),(i 0),(i 0),(i 0),(i 0),(i 0),(i 0),(i 0),(i 0),(i 0),(i 0),(i 0),(i 0),(i 0),(i 0),(i 0),(i 0),(i 0),(i 0),(i 0),(i 0),(i 0),(i 0),(i 0),(i 0),(i 0),(i 0),(i 0),(i 0),(i 0),(i 0),(i 0),(i 0),(i 0),(i 0),(i 0),(i 0),(i 0),(i 0),(i 0),(i 0),(i 0),(i 0),(i 0),(i 0),(i 0),(i 0),(i 0),(i 0),(i 0),(i 0),(i 0),(i 0),(i 0),(i 0),(i 0),(i 0),(i 0),(i 0),(i 0),(i 0),(i 0),(i 0),(i 0),(i 0),(i 0),(i 0),(i 0),(i 0),(i 0),(i 0),(i 0),(i 0),(i 0),(i 0),(i 0),(i 0),(i 0),(i 0),(i 0),(i 0),(i 0),(i 0),(i 0),(i 0),(i 0),(i 0),(i 0),(i 0),(i 0),(i 0),(i 0),(i 0),(i 0),(i 0),(i 0),(i 0),(i 0),(i 0),(i 0),(i 0),(i 0),(i 0),(i 0),(i 0),(i 0),(i 0),(i 0),(i 0),(i 0),(i 0),(i 0),(i 0),(i 0),(i 0),(i 0),(i 0),(i 0),(i 0),(i 0),(i 0)])),(s 173 4 11),(m 5 12)]
def L27s0:zf:=(.cond (t 14) (.seq (.reg [(m 15 5),(o 2 (.move (.c (.slice .none 0 0)))),(m 3 15)]) .ret) .skip)
def L27s1:zf:=(.reg [(m 26 6),(m 27 7),(o 28 (c 75 [(t 4),(t 27)])),(o 29 (.buildSlice 1 [(i 0),(i 0)] [(0,(2,(t 28)))])),(o 30 (.append 2 16 (t 26) (t 29))),(m 6 30)])
def L27s2:zf:=(.reg [(o 31 (b .add (t 23) (k 1))),(m 23 31)])
def L27s3:zf:=(.seq (.block 1 (.seq (.reg [(m 25 23),(m 7 25)]) L27s1)) L27s2)
def L27w0:zf:=(.seq (.reg [(o 24 (b .lss (t 23) (t 22)))]) (.seq (.cond (t 24) .skip (.exit 0)) L27s3))
def L27s4:zf:=(.seq (.reg [(m 32 6),(m 2 32),(o 3 (.move (k 0)))]) .ret)
def L27s5:zf:=(.seq (.seq (.reg [(f 20 0 1),(l 21 20),(o 22 (.len .slice (t 21))),(o 23 (.move (k 0)))]) (.block 0 (.loop L27w0))) L27s4)
def L27s6:zf:=(.seq (.reg [(f 16 0 1),(l 17 16),(o 18 (.len .slice (t 17))),(o 19 (.makeSlice [(i 0),(i 0)] 16 (k 0) (t 18))),(m 6 19)]) L27s5)
def L27s7:zf:=(.seq (.seq (.reg [(m 13 5),(o 14 (.eq (.cell (.i .i64)) .true (t 13) (k 0)))]) L27s0) L27s6)
def L27s8:zf:=(.seq (.reg ((g 9 3 1) :: (o 10 (c 74 [(t 9),(.c (.bool .true))])) :: (m 8 10) :: (x 11 8 0) :: (x 12 8 1) :: L27r0)) L27s7)
def L27:zo:=⟨33,(.seq (.reg [(o 1 (.box (t 0))),(o 2 (.move (.c (.slice .none 0 0)))),(o 3 (.move (k 0)))]) L27s8),[(.t 2),(.t 3)],.true,.none,vO⟩
theorem lp27:LP 27 = some L27:=by kernel_rfl
def L28r0:List zg:=[(o 4 (.alloc [(.slice .none 0 0),(i 0),(.slice .none 0 0),(i 0),(i 0),(i 0),(i 0),(i 0),(i 0),(i 0),(i 0),(i 0),(i 0),(i 0),(i 0),(i 0),(i 0),(i 0),(i 0),(i 0),(i 0),(i 0),(i 0),(i 0),(i 0),(i 0),(i 0),(i 0),(i 0),(i 0),(i 0),(i 0),(i 0),(i 0),(i 0),(i 0),(i 0),(i 0),(i 0),(i 0),(i 0),(i 0),(i 0),(i 0),(i 0),(i 0),(i 0),(i 0),(i 0),(i 0),(i 0),(i 0),(i 0),(i 0),(i 0),(i 0),(i 0),(i 0),(i 0),(i 0),(i 0),(i 0),(i 0),(i 0),(i 0),(i 0),(i 0),(i 0),(i 0),(i 0),(i 0),(i 0),(i 0),(i 0),(i 0),(i 0),(i 0),(i 0),(i 0),(i 0),(i 0),(i 0),(i 0),(i 0),(i 0),(i 0),(i 0),(i 0),(i 0),(i 0),(i 0),(i 0),(i 0),(i 0),(i 0),(i 0),(i 0),(i 0),(i 0),(i 0),(i 0),(i 0),(i 0),(i 0),(i 0),(i 0),(i 0),(i 0),(i 0),(i 0),(i 0),(i 0),(i 0),(i 0),(i 0),(i 0),(i 0),(i 0),(i 0),(i 0),(i 0),(i 0),(i 0),(i 0),(i 0),(i 0),(i 0),(i 0),(i 0),(i 0),(i 0),(i 0),(i 0),(i 0),(i 0),(i 0),(i 0),(i 0),(i 0),(i 0),(i 0),(i 0),(i 0),(i 0),(i 0),(i 0),(i 0),(i 0),(i 0),(i 0),(i 0),(i 0),(i 0),(i 0),(i 0),(i 0),(i 0),(i 0),(i 0),(i 0),(i 0),(i 0),(i 0),(i 0),(i 0),(i 0),(i 0),(i 0),(i 0),(i 0),(i 0),(i 0),(i 0)])),(s 173 4 11),(m 5 12)]
def L28s0:zf:=(.cond (t 14) (.seq (.reg [(m 15 5),(o 2 (.move (.c (.slice .none 0 0)))),(m 3 15)]) .ret) .skip)
def L28s1:zf:=(.reg [(m 26 6),(m 27 7),(o 28 (c 76 [(t 4),(t 27)])),(o 29 (.buildSlice 1 [(i 0),(i 0)] [(0,(2,(t 28)))])),(o 30 (.append 2 16 (t 26) (t 29))),(m 6 30)])
def L28s2:zf:=(.reg [(o 31 (b .add (t 23) (k 1))),(m 23 31)])
def L28s3:zf:=(.seq (.block 1 (.seq (.reg [(m 25 23),(m 7 25)]) L28s1)) L28s2)
def L28w0:zf:=(.seq (.reg [(o 24 (b .lss (t 23) (t 22)))]) (.seq (.cond (t 24) .skip (.exit 0)) L28s3))
def L28s4:zf:=(.seq (.reg [(m 32 6),(m 2 32),(o 3 (.move (k 0)))]) .ret)
def L28s5:zf:=(.seq (.seq (.reg [(f 20 2 1),(l 21 20),(o 22 (.len .slice (t 21))),(o 23 (.move (k 0)))]) (.block 0 (.loop L28w0))) L28s4)
def L28s6:zf:=(.seq (.reg [(f 16 2 1),(l 17 16),(o 18 (.len .slice (t 17))),(o 19 (.makeSlice [(i 0),(i 0)] 16 (k 0) (t 18))),(m 6 19)]) L28s5)
def L28s7:zf:=(.seq (.seq (.reg [(m 13 5),(o 14 (.eq (.cell (.i .i64)) .true (t 13) (k 0)))]) L28s0) L28s6)
def L28s8:zf:=(.seq (.reg ((g 9 3 1) :: (o 10 (c 74 [(t 9),(.c (.bool .true))])) :: (m 8 10) :: (x 11 8 0) :: (x 12 8 1) :: L28r0)) L28s7)
def L28:zo:=⟨33,(.seq (.reg [(o 1 (.box (t 0))),(o 2 (.move (.c (.slice .none 0 0)))),(o 3 (.move (k 0)))]) L28s8),[(.t 2),(.t 3)],.true,.none,vO⟩
theorem lp28:LP 28 = some L28:=by kernel_rfl
def L32r0:List zg:=[(og 12 (.move (t 2)) 10 .true),(og 13 (b .leq (t 11) (t 12)) 10 .true),(o 14 (.pick (t 10) (t 13) (.c (.bool .false)))),(m 6 14)]
def L32s0:zf:=(.seq (.reg ((m 7 0) :: (m 8 1) :: (o 9 (b .geq (t 7) (t 8))) :: (m 10 9) :: (og 11 (.move (t 0)) 10 .true) :: L32r0)) .ret)
def L32:zo:=⟨15,(.seq (.reg [(o 6 (.move (.c (.bool .false))))]) L32s0),[(.t 6)],.false,.none,vO⟩
theorem lp32:LP 32 = some L32:=by kernel_rfl
def L33s0:zf:=(.seq (.reg [(f 3 0 1),(l 4 3),(f 5 1 1),(l 6 5),(o 7 (.build [(i 0),(i 0)] [(0,(1,(t 4))),(1,(1,(t 6)))])),(s 2 2 7)]) .ret)
def L33:zo:=⟨8,(.seq (.reg [(o 1 (.box (t 0))),(o 2 (.alloc [(i 0),(i 0)]))]) L33s0),[(.cell 2 .true 2)],.false,.none,vO⟩
theorem lp33:LP 33 = some L33:=by kernel_rfl
def L35r0:List zg:=[(f 18 2 17),(l 19 18),(o 20 (.len .slice (t 19))),(o 21 (b .lss (t 13) (t 20)))]
def L35s0:zf:=(.reg [(m 22 5),(o 23 (b .add (t 22) (k 1))),(m 5 23)])
def L35s1:zf:=(.seq (.block 3 (.reg [(m 24 3),(m 25 4),(m 26 5),(o 27 (.build [(i 0),(i 0)] [(0,(1,(t 25))),(1,(1,(t 26)))])),(o 28 (.buildSlice 1 [(i 0),(i 0)] [(0,(2,(t 27)))])),(o 29 (.append 2 16 (t 24) (t 28))),(m 3 29)])) L35s0)
def L35w0:zf:=(.seq (.seq (.reg ((m 13 5) :: (f 14 2 1) :: (l 15 14) :: (m 16 4) :: (o 17 (.indexAddrS 3 (t 15) (t 16))) :: L35r0)) (.cond (t 21) .skip (.exit 2))) L35s1)
def L35s2:zf:=(.reg [(m 11 4),(o 12 (b .add (t 11) (k 1))),(m 4 12)])
def L35s3:zf:=(.seq (.block 1 (.seq (.reg [(o 5 (.move (k 0)))]) (.block 2 (.loop L35w0)))) L35s2)
def L35w1:zf:=(.seq (.seq (.reg [(m 6 4),(f 7 2 1),(l 8 7),(o 9 (.len .slice (t 8))),(o 10 (b .lss (t 6) (t 9)))]) (.cond (t 10) .skip (.exit 0))) L35s3)
def L35s4:zf:=(.seq (.reg [(m 30 3),(m 2 30)]) .ret)
def L35s5:zf:=(.seq (.seq (.reg [(o 4 (.move (k 0)))]) (.block 0 (.loop L35w1))) L35s4)
def L35:zo:=⟨31,(.seq (.reg [(o 1 (.box (t 0))),(o 2 (.move (.c (.slice .none 0 0))))]) (.seq (.reg [(o 3 (.move (.c (.slice .none 0 0))))]) L35s5)),[(.t 2)],.true,.none,vO⟩
theorem lp35:LP 35 = some L35:=by kernel_rfl
def L37r0:List zg:=[(g 26 2 25),(o 27 (.build [(i 0),(i 0),(.slice .none 0 0)] [(0,(2,(t 26)))])),(o 7 (.alloc [(i 0),(i 0),(.slice .none 0 0)])),(s 3 7 27)]
def L37r1:List zg:=[(f 33 2 32),(l 34 33),(o 35 (.len .slice (t 34))),(o 36 (b .lss (t 28) (t 35)))]
def L37r2:List zg:=[(g 55 2 54),(o 56 (.buildSlice 1 [(i 0),(i 0)] [(0,(2,(t 55)))])),(oa 57 (.append 2 16 (t 46) (t 56)) [11]),(oa 58 (.fieldAddr 2 (t 7)) [12,11]),(ona (.store 1 (t 58) (t 57)) [12,11])]
def L37r3:List zg:=((o 50 (.indexAddrS 3 (t 48) (t 49))) :: (f 51 2 50) :: (l 52 51) :: (m 53 8) :: (o 54 (.indexAddrS 2 (t 52) (t 53))) :: L37r2)
def L37s0:zf:=(.cond (t 44) (.draw 12 ((f 45 2 7) :: (l 46 45) :: (f 47 2 2) :: (l 48 47) :: (m 49 6) :: L37r3)) .skip)
def L37s1:zf:=(.reg [(m 37 8),(o 38 (b .add (t 37) (k 1))),(m 8 38)])
def L37s2:zf:=(.seq (.block 3 (.seq (.reg [(m 39 1),(m 40 6),(m 41 8),(o 42 (.build [(i 0),(i 0)] [(0,(1,(t 40))),(1,(1,(t 41)))])),(o 43 (c 84 [(t 39),(t 42)])),(o 44 (.un .not (t 43)))]) L37s0)) L37s1)
def L37w0:zf:=(.seq (.seq (.reg ((m 28 8) :: (f 29 2 2) :: (l 30 29) :: (m 31 6) :: (o 32 (.indexAddrS 3 (t 30) (t 31))) :: L37r1)) (.cond (t 36) .skip (.exit 2))) L37s2)
def L37s3:zf:=(.reg [(f 59 2 5),(l 60 59),(g 61 3 7),(o 62 (.buildSlice 1 [(i 0),(i 0),(.slice .none 0 0)] [(0,(3,(t 61)))])),(o 63 (.append 3 40 (t 60) (t 62))),(f 64 2 5),(s 1 64 63)])
def L37s4:zf:=(.seq (.seq (.reg [(o 8 (.move (k 0)))]) (.block 2 (.loop L37w0))) L37s3)
def L37s5:zf:=(.reg [(m 19 6),(o 20 (b .add (t 19) (k 1))),(m 6 20)])
def L37s6:zf:=(.seq (.block 1 (.seq (.reg ((f 21 2 2) :: (l 22 21) :: (m 23 6) :: (o 24 (.indexAddrS 3 (t 22) (t 23))) :: (f 25 0 24) :: L37r0)) L37s4)) L37s5)
def L37w1:zf:=(.seq (.seq (.reg [(m 14 6),(f 15 2 2),(l 16 15),(o 17 (.len .slice (t 16))),(o 18 (b .lss (t 14) (t 17)))]) (.cond (t 18) .skip (.exit 0))) L37s6)
def L37s7:zf:=(.seq (.reg [(g 65 3 5),(s 3 4 65)]) .ret)
def L37s8:zf:=(.seq (.seq (.reg [(o 6 (.move (k 0)))]) (.block 0 (.loop L37w1))) L37s7)
def L37s9:zf:=(.seq (.reg [(f 9 0 2),(l 10 9),(f 11 1 2),(l 12 11),(o 13 (.build [(.slice .none 0 0),(i 0),(.slice .none 0 0)] [(0,(1,(t 10))),(1,(1,(t 12)))])),(o 5 (.alloc [(.slice .none 0 0),(i 0),(.slice .none 0 0)])),(s 3 5 13)]) L37s8)
def L37:zo:=⟨66,(.seq (.reg [(o 2 (.box (t 0))),(o 4 (.alloc [(.slice .none 0 0),(i 0),(.slice .none 0 0)]))]) L37s9),[(.cell 4 .true 3)],.true,.none,vO⟩
theorem lp37:LP 37 = some L37:=by kernel_rfl
def L60r0:List zg:=[(og 8 (.eq (.cell (.i .i64)) .false (t 7) (k 0)) 5 .true),(o 9 (.pick (t 5) (t 8) (.c (.bool .false)))),(m 2 9)]
def L60s0:zf:=(.seq (.reg ((g 3 3 1) :: (o 4 (c 19 [(t 3)])) :: (m 5 4) :: (og 6 (.load .true 3 (t 1)) 5 .true) :: (og 7 (c 25 [(t 6)]) 5 .true) :: L60r0)) .ret)
def L60:zo:=⟨10,(.seq (.reg [(o 1 (.box (t 0))),(o 2 (.move (.c (.bool .false))))]) L60s0),[(.t 2)],.false,.none,vO⟩
theorem lp60:LP 60 = some L60:=by kernel_rfl
def L64s0:zf:=(.cond (t 10) (.seq (.reg [(o 4 (.move (.c (.bool .false))))]) .ret) .skip)
def L64r0:List zg:=[(og 37 (.fieldAddr 1 (t 36)) 28 .false),(og 38 (.load .false 1 (t 37)) 28 .false),(og 39 (b .gtr (t 33) (t 38)) 28 .false),(o 40 (.pick (t 28) (.c (.bool .true)) (t 39)))]
def L64r1:List zg:=((og 32 (.fieldAddr 1 (t 31)) 28 .false) :: (og 33 (.load .false 1 (t 32)) 28 .false) :: (og 34 (.move (t 1)) 28 .false) :: (og 35 (.move (t 5)) 28 .false) :: (og 36 (.indexAddrS 2 (t 34) (t 35)) 28 .false) :: L64r0)
def L64r2:List zg:=((o 27 (b .lss (t 21) (t 26))) :: (m 28 27) :: (og 29 (.move (t 0)) 28 .false) :: (og 30 (.move (t 5)) 28 .false) :: (og 31 (.indexAddrS 2 (t 29) (t 30)) 28 .false) :: L64r1)
def L64r3:List zg:=((m 22 1) :: (m 23 5) :: (o 24 (.indexAddrS 2 (t 22) (t 23))) :: (f 25 0 24) :: (l 26 25) :: L64r2)
def L64s1:zf:=(.cond (t 40) (.seq (.reg [(o 4 (.move (.c (.bool .false))))]) .ret) .skip)
def L64s2:zf:=(.reg [(m 15 5),(o 16 (b .add (t 15) (k 1))),(m 5 16)])
def L64s3:zf:=(.seq (.block 1 (.seq (.draw 0 ((m 17 0) :: (m 18 5) :: (o 19 (.indexAddrS 2 (t 17) (t 18))) :: (f 20 0 19) :: (l 21 20) :: L64r3)) L64s1)) L64s2)
def L64w0:zf:=(.seq (.seq (.reg [(m 11 5),(m 12 0),(o 13 (.len .slice (t 12))),(o 14 (b .lss (t 11) (t 13)))]) (.cond (t 14) .skip (.exit 0))) L64s3)
def L64s4:zf:=(.seq (.seq (.reg [(o 5 (.move (k 0)))]) (.block 0 (.loop L64w0))) (.seq (.reg [(o 4 (.move (.c (.bool .true))))]) .ret))
def L64s5:zf:=(.seq (.seq (.reg [(m 6 0),(o 7 (.len .slice (t 6))),(m 8 1),(o 9 (.len .slice (t 8))),(o 10 (.eq (.cell (.i .i64)) .true (t 7) (t 9)))]) L64s0) L64s4)
def L64:zo:=⟨41,(.seq (.reg [(o 4 (.move (.c (.bool .false))))]) L64s5),[(.t 4)],.false,.none,vO⟩
theorem lp64:LP 64 = some L64:=by kernel_rfl
def L69r0:List zg:=[(og 23 (.fieldAddr 2 (t 1)) 22 .true),(og 24 (.load .false 1 (t 23)) 22 .true),(og 25 (.load .true 3 (t 1)) 22 .true),(og 26 (.makeFunc 101 [(t 25)] []) 22 .true),(og 27 (c 100 [(t 24),(t 26)]) 22 .true),(o 28 (.pick (t 22) (t 27) (.c (.bool .false)))),(m 2 28)]
def L69r1:List zg:=((og 18 (.fieldAddr 1 (t 1)) 17 .true) :: (og 19 (.load .false 1 (t 18)) 17 .true) :: (og 20 (b .leq (t 19) (k 20)) 17 .true) :: (o 21 (.pick (t 17) (t 20) (.c (.bool .false)))) :: (m 22 21) :: L69r0)
def L69r2:List zg:=((og 13 (.fieldAddr 1 (t 1)) 12 .true) :: (og 14 (.load .false 1 (t 13)) 12 .true) :: (og 15 (b .leq (k 0) (t 14)) 12 .true) :: (o 16 (.pick (t 12) (t 15) (.c (.bool .false)))) :: (m 17 16) :: L69r1)
def L69r3:List zg:=((og 8 (.fieldAddr 0 (t 1)) 7 .true) :: (og 9 (.load .false 1 (t 8)) 7 .true) :: (og 10 (c 98 [(t 9),(.c (.func 99 [] []))]) 7 .true) :: (o 11 (.pick (t 7) (t 10) (.c (.bool .false)))) :: (m 12 11) :: L69r2)
def L69s0:zf:=(.seq (.reg ((f 3 0 1) :: (l 4 3) :: (o 5 (.len .slice (t 4))) :: (o 6 (b .gtr (t 5) (k 0))) :: (m 7 6) :: L69r3)) .ret)
def L69:zo:=⟨29,(.seq (.reg [(o 1 (.box (t 0))),(o 2 (.move (.c (.bool .false))))]) L69s0),[(.t 2)],.false,.none,vO⟩
theorem lp69:LP 69 = some L69:=by kernel_rfl
def L71s0:zf:=(.seq (.reg [(o 3 (.makeFunc 103 [] [(t 1)])),(m 2 3)]) .ret)
def L71:zo:=⟨4,(.seq (.reg [(o 1 (.box (t 0))),(o 2 (.move (.c .nilFunc)))]) L71s0),[(.t 2)],.true,.none,vO⟩
theorem lp71:LP 71 = some L71:=by kernel_rfl
def L73r0:List zg:=[(og 13 (.fieldAddr 2 (t 1)) 12 .false),(og 14 (.load .false 1 (t 13)) 12 .false),(og 15 (.len .slice (t 14)) 12 .false),(og 16 (b .gtr (t 15) (k 6)) 12 .false),(o 17 (.pick (t 12) (.c (.bool .true)) (t 16)))]
def L73s0:zf:=(.cond (t 17) (.seq (.reg [(o 2 (.move (k 3)))]) .ret) .skip)
def L73r1:List zg:=[(og 23 (.fieldAddr 1 (t 1)) 22 .false),(og 24 (.load .false 1 (t 23)) 22 .false),(og 25 (c 32 [(t 24),(k 0),(k 20)]) 22 .false),(og 26 (.un .not (t 25)) 22 .false),(o 27 (.pick (t 22) (.c (.bool .true)) (t 26)))]
def L73s1:zf:=(.cond (t 27) (.seq (.reg [(o 2 (.move (k 1)))]) .ret) .skip)
def L73s2:zf:=(.cond (t 41) (.seq (.reg [(o 2 (.move (k 1)))]) .ret) .skip)
def L73s3:zf:=(.reg [(m 33 3),(o 34 (b .add (t 33) (k 1))),(m 3 34)])
def L73s4:zf:=(.seq (.block 1 (.seq (.reg [(f 35 0 1),(l 36 35),(m 37 3),(o 38 (.indexAddrS 2 (t 36) (t 37))),(g 39 2 38),(o 40 (c 90 [(t 39),(.c (.int .i64 (-100))),(k 100)])),(o 41 (.un .not (t 40)))]) L73s2)) L73s3)
def L73w3:zf:=(.seq (.seq (.reg [(m 28 3),(f 29 0 1),(l 30 29),(o 31 (.len .slice (t 30))),(o 32 (b .lss (t 28) (t 31)))]) (.cond (t 32) .skip (.exit 0))) L73s4)
def L73s5:zf:=(.cond (t 57) (.seq (.reg [(o 2 (.move (k 1)))]) .ret) .skip)
def L73r2:List zg:=[(oga 80 (.move (t 6)) 77 .false [10]),(oga 81 (.indexAddrS 2 (t 79) (t 80)) 77 .false [10]),(oga 82 (.fieldAddr 1 (t 81)) 77 .false [10]),(oga 83 (.load .false 1 (t 82)) 77 .false [10]),(oga 84 (c 32 [(t 83),(.c (.int .i64 (-1000))),(k 2000)]) 77 .false [10]),(oga 85 (.un .not (t 84)) 77 .false [19,10]),(oa 86 (.pick (t 77) (.c (.bool .true)) (t 85)) [19,10])]
def L73r3:List zg:=((o 75 (c 32 [(t 70),(k 0),(t 74)])) :: (oa 76 (.un .not (t 75)) [10]) :: (oa 77 (.move (t 76)) [10]) :: (oga 78 (.fieldAddr 2 (t 5)) 77 .false [10]) :: (oga 79 (.load .false 1 (t 78)) 77 .false [10]) :: L73r2)
def L73r4:List zg:=((l 70 69) :: (f 71 0 1) :: (l 72 71) :: (o 73 (.len .slice (t 72))) :: (o 74 (b .sub (t 73) (k 1))) :: L73r3)
def L73s6:zf:=(.cond (t 86) (.seq (.reg [(o 2 (.move (k 1)))]) .ret) .skip)
def L73r5:List zg:=[(f 102 0 101),(l 103 102),(o 104 (.eq (.cell (.i .i64)) .false (t 97) (t 103)))]
def L73r6:List zg:=((l 97 96) :: (f 98 2 5) :: (l 99 98) :: (m 100 6) :: (o 101 (.indexAddrS 2 (t 99) (t 100))) :: L73r5)
def L73s7:zf:=(.cond (t 104) (.seq (.reg [(o 2 (.move (k 1)))]) .ret) .skip)
def L73s8:zf:=(.reg [(m 90 7),(o 91 (b .add (t 90) (k 1))),(m 7 91)])
def L73s9:zf:=(.seq (.block 7 (.seq (.draw 0 ((f 92 2 5) :: (l 93 92) :: (m 94 7) :: (o 95 (.indexAddrS 2 (t 93) (t 94))) :: (f 96 0 95) :: L73r6)) L73s7)) L73s8)
def L73w0:zf:=(.seq (.seq (.reg [(m 87 7),(m 88 6),(o 89 (b .lss (t 87) (t 88)))]) (.cond (t 89) .skip (.exit 6))) L73s9)
def L73s10:zf:=(.seq (.reg [(o 7 (.move (k 0)))]) (.block 6 (.loop L73w0)))
def L73s11:zf:=(.reg [(m 63 6),(o 64 (b .add (t 63) (k 1))),(m 6 64)])
def L73s12:zf:=(.seq (.block 5 (.seq (.seq (.draw 0 ((f 65 2 5) :: (l 66 65) :: (m 67 6) :: (o 68 (.indexAddrS 2 (t 66) (t 67))) :: (f 69 0 68) :: L73r4)) L73s6) L73s10)) L73s11)
def L73w1:zf:=(.seq (.seq (.reg [(m 58 6),(f 59 2 5),(l 60 59),(o 61 (.len .slice (t 60))),(o 62 (b .lss (t 58) (t 61)))]) (.cond (t 62) .skip (.exit 4))) L73s12)
def L73s13:zf:=(.seq (.reg [(o 6 (.move (k 0)))]) (.block 4 (.loop L73w1)))
def L73s14:zf:=(.seq (.seq (.reg [(f 54 0 5),(g 55 2 54),(o 56 (c 90 [(t 55),(k 0),(k 1000)])),(o 57 (.un .not (t 56)))]) L73s5) L73s13)
def L73s15:zf:=(.reg [(m 47 4),(o 48 (b .add (t 47) (k 1))),(m 4 48)])
def L73s16:zf:=(.seq (.block 3 (.seq (.reg [(f 49 2 1),(l 50 49),(m 51 4),(o 52 (.indexAddrS 3 (t 50) (t 51))),(g 53 3 52),(o 5 (.alloc [(i 0),(i 0),(.slice .none 0 0)])),(s 3 5 53)]) L73s14)) L73s15)
def L73w2:zf:=(.seq (.seq (.reg [(m 42 4),(f 43 2 1),(l 44 43),(o 45 (.len .slice (t 44))),(o 46 (b .lss (t 42) (t 45)))]) (.cond (t 46) .skip (.exit 2))) L73s16)
def L73s17:zf:=(.seq (.seq (.reg [(o 4 (.move (k 0)))]) (.block 2 (.loop L73w2))) (.seq (.reg [(o 2 (.move (k 0)))]) .ret))
def L73s18:zf:=(.seq (.seq (.reg [(o 3 (.move (k 0)))]) (.block 0 (.loop L73w3))) L73s17)
def L73s19:zf:=(.seq (.seq (.reg ((f 18 0 1) :: (l 19 18) :: (o 20 (.len .slice (t 19))) :: (o 21 (.eq (.cell (.i .i64)) .false (t 20) (k 0))) :: (m 22 21) :: L73r1)) L73s1) L73s18)
def L73s20:zf:=(.seq (.seq (.reg ((f 8 0 1) :: (l 9 8) :: (o 10 (.len .slice (t 9))) :: (o 11 (b .gtr (t 10) (k 6))) :: (m 12 11) :: L73r0)) L73s0) L73s19)
def L73:zo:=⟨105,(.seq (.reg [(o 1 (.box (t 0))),(o 2 (.move (k 0)))]) L73s20),[(.t 2)],.false,.none,vO⟩
theorem lp73:LP 73 = some L73:=by kernel_rfl
end
end Go.Hx

