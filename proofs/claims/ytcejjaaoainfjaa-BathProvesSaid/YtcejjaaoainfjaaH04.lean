import Derived.Test.YtcejjaaoainfjaaH00
import Derived.Test.YtcejjaaoainfjaaProg
import Derived.ProofKit
set_option linter.all false
namespace Go.Hx
set_option maxRecDepth 100000
noncomputable section
abbrev F.m (d x:Nat):zb:=⟨some d,.move (.t x),none,[]⟩
abbrev F.f (d k x:Nat):zb:=⟨some d,.fieldAddr k (.t x),none,[]⟩
abbrev F.l (d x:Nat):zb:=⟨some d,.load false 1 (.t x),none,[]⟩
abbrev F.g (d n x:Nat):zb:=⟨some d,.load true n (.t x),none,[]⟩
abbrev F.x (d x k:Nat):zb:=⟨some d,.extract (.t x) k,none,[]⟩
abbrev F.s (n x y:Nat):zb:=⟨none,.store n (.t x) (.t y),none,[]⟩
abbrev F.i (n:Int):HV:=.int .i64 n
abbrev F.c (f:Nat) (a:List Lo):LOp:=.call (.c (.func f [] [])) a
abbrev F.b (o:BinOp) (x y:Lo):LOp:=.bin o x y
abbrev F.k (n:Int):Lo:=.c (.int .i64 n)
abbrev F.t (n:Nat):Lo:=.t n
open F
abbrev o (d:Nat) (p:LOp):zb:=⟨some d,p,none,[]⟩
abbrev oa (d:Nat) (p:LOp) (a:List Nat):zb:=⟨some d,p,none,a⟩
abbrev og (d:Nat) (p:LOp) (t:Nat) (b:Bool):zb:=⟨some d,p,some (t,b),[]⟩
abbrev oga (d:Nat) (p:LOp) (t:Nat) (b:Bool) (a:List Nat):zb:=⟨some d,p,some (t,b),a⟩
abbrev on (p:LOp):zb:=⟨none,p,none,[]⟩
abbrev ona (p:LOp) (a:List Nat):zb:=⟨none,p,none,a⟩
noncomputable abbrev vO:=viaOff Go.Proofs.Try.prog
noncomputable abbrev LP:Nat → Option zl:=lowP Go.Proofs.Try.prog [22,24,27,28,29,35,36,37,38,40,44,45,46,49,52,54,55,56,58,59,61,65,66,71,74,79,80,82,83,89,93,94,103,107,108,109,120,121,122,129]
def L3r0:List zb:=[(og 19 (.len .slice (t 18)) 17 .false),(og 20 (b .gtr (t 19) (k 12)) 17 .false),(o 21 (.pick (t 17) (.c (.bool .true)) (t 20)))]
def L3r1:List zb:=((og 14 (.len .slice (t 13)) 12 .false) :: (og 15 (b .gtr (t 14) (k 12)) 12 .false) :: (o 16 (.pick (t 12) (.c (.bool .true)) (t 15))) :: (m 17 16) :: (og 18 (.move (t 2)) 17 .false) :: L3r0)
def L3s0:ze:=(.cond (t 21) (.seq (.reg [(o 22 (c 20 [])),(m 6 22)]) .ret) .skip)
def L3r2:List zb:=[(o 31 (c 24 [(t 30)])),(o 32 (c 23 [(t 27),(t 29),(t 31)])),(m 8 32)]
def L3r3:List zb:=[(o 48 (.pick (t 37) (t 47) (.c (.bool .false)))),(m 49 48),(og 50 (c 20 []) 49 .true),(o 51 (.pick (t 49) (t 50) (.c (.bool .false)))),(m 6 51)]
def L3r4:List zb:=((og 43 (.move (t 1)) 41 .true) :: (og 44 (.move (t 2)) 41 .true) :: (og 45 (c 26 [(t 42),(t 43),(t 44)]) 41 .true) :: (og 46 (.pick (t 41) (t 45) (.c (.bool .false))) 37 .true) :: (og 47 (.eq (.cell .b) .false (t 38) (t 46)) 37 .true) :: L3r3)
def L3r5:List zb:=((og 38 (.move (t 8)) 37 .true) :: (og 39 (.move (t 7)) 37 .true) :: (og 40 (.eq (.cell (.i .i64)) .false (t 39) (k 0)) 37 .true) :: (og 41 (.move (t 40)) 37 .true) :: (og 42 (.load .true 3 (t 3)) 41 .true) :: L3r4)
def L3s1:ze:=(.seq (.reg ((m 33 7) :: (g 34 3 3) :: (o 35 (c 25 [(t 34)])) :: (o 36 (.eq (.cell (.i .i64)) .false (t 33) (t 35))) :: (m 37 36) :: L3r5)) .ret)
def L3s2:ze:=(.seq (.reg ((g 26 3 3) :: (o 27 (c 22 [(t 26)])) :: (m 28 1) :: (o 29 (c 24 [(t 28)])) :: (m 30 2) :: L3r2)) L3s1)
def L3s3:ze:=(.seq (.reg [(g 23 3 3),(o 24 (c 22 [(t 23)])),(o 25 (c 21 [(t 24)])),(m 7 25)]) L3s2)
def L3s4:ze:=(.seq (.seq (.reg ((g 9 3 3) :: (o 10 (c 19 [(t 9)])) :: (o 11 (.un .not (t 10))) :: (m 12 11) :: (og 13 (.move (t 1)) 12 .false) :: L3r1)) L3s0) L3s3)
def L3:zl:=⟨52,(.seq (.reg [(o 3 (.box (t 0))),(o 6 (.move (.c (.bool .false))))]) L3s4),[(.t 6)],.false,.none,vO⟩
theorem lp3:LP 3 = some L3:=by kernel_rfl
def L4s0:ze:=(.cond (t 13) (.seq (.reg [(o 14 (c 20 [])),(m 2 14)]) .ret) .skip)
def L4r0:List zb:=[(x 20 15 1),(m 3 19),(m 4 20)]
def L4r1:List zb:=[(x 26 21 1),(m 5 25),(m 6 26)]
def L4r2:List zb:=[(x 36 31 2),(m 8 34),(m 9 35),(m 10 36)]
def L4s1:ze:=(.cond (t 38) (.reg [(o 7 (.move (k 9)))]) .skip)
def L4s2:ze:=(.seq (.reg [(m 37 10),(o 38 (.un .not (t 37)))]) L4s1)
def L4s3:ze:=(.seq (.reg ((g 32 3 1) :: (o 33 (c 29 [(t 32)])) :: (m 31 33) :: (x 34 31 0) :: (x 35 31 1) :: L4r2)) L4s2)
def L4s4:ze:=(.cond (t 30) (.seq (.reg [(o 10 (.move (.c (.bool .false))))]) L4s3) .skip)
def L4r3:List zb:=[(o 56 (.pick (t 49) (t 55) (.c (.bool .false)))),(m 57 56),(og 58 (c 20 []) 57 .true),(o 59 (.pick (t 57) (t 58) (.c (.bool .false)))),(m 2 59)]
def L4r4:List zb:=((og 51 (.len .slice (t 50)) 49 .true) :: (og 52 (.move (t 5)) 49 .true) :: (og 53 (.len .slice (t 52)) 49 .true) :: (og 54 (b .add (t 51) (t 53)) 49 .true) :: (og 55 (.eq (.cell (.i .i64)) .false (t 54) (k 0)) 49 .true) :: L4r3)
def L4r5:List zb:=((og 46 (.move (t 7)) 44 .true) :: (og 47 (.eq (.cell (.i .i64)) .false (t 45) (t 46)) 44 .true) :: (o 48 (.pick (t 44) (t 47) (.c (.bool .false)))) :: (m 49 48) :: (og 50 (.move (t 3)) 49 .true) :: L4r4)
def L4s5:ze:=(.cond (t 40) (.seq (.reg ((m 41 4) :: (m 42 7) :: (o 43 (.eq (.cell (.i .i64)) .false (t 41) (t 42))) :: (m 44 43) :: (og 45 (.move (t 6)) 44 .true) :: L4r5)) .ret) .skip)
def L4r6:List zb:=[(o 75 (.pick (t 71) (t 74) (.c (.bool .false)))),(m 76 75),(og 77 (c 20 []) 76 .true),(o 78 (.pick (t 76) (t 77) (.c (.bool .false)))),(m 2 78)]
def L4r7:List zb:=((o 70 (.pick (t 67) (t 69) (.c (.bool .false)))) :: (m 71 70) :: (og 72 (.move (t 5)) 71 .true) :: (og 73 (.move (t 9)) 71 .true) :: (og 74 (c 30 [(t 72),(t 73)]) 71 .true) :: L4r6)
def L4r8:List zb:=((og 65 (c 30 [(t 63),(t 64)]) 62 .true) :: (o 66 (.pick (t 62) (t 65) (.c (.bool .false)))) :: (m 67 66) :: (og 68 (.move (t 6)) 67 .true) :: (og 69 (.eq (.cell (.i .i64)) .false (t 68) (k 0)) 67 .true) :: L4r7)
def L4s6:ze:=(.seq (.reg ((m 60 4) :: (o 61 (.eq (.cell (.i .i64)) .false (t 60) (k 0))) :: (m 62 61) :: (og 63 (.move (t 3)) 62 .true) :: (og 64 (.move (t 8)) 62 .true) :: L4r8)) .ret)
def L4s7:ze:=(.seq (.seq (.reg [(m 39 7),(o 40 (.eq (.cell (.i .i64)) .true (t 39) (k 0)))]) L4s5) L4s6)
def L4s8:ze:=(.seq (.seq (.reg [(m 29 7),(o 30 (.eq (.cell (.i .i64)) .false (t 29) (k 0)))]) L4s4) L4s7)
def L4s9:ze:=(.seq (.reg [(o 8 (.move (.c (.slice .none 0 0)))),(o 9 (.move (.c (.slice .none 0 0))))]) L4s8)
def L4s10:ze:=(.seq (.reg [(g 27 3 1),(o 28 (c 25 [(t 27)])),(m 7 28)]) L4s9)
def L4s11:ze:=(.seq (.reg ((g 22 3 1) :: (o 23 (c 22 [(t 22)])) :: (o 24 (c 28 [(t 23)])) :: (m 21 24) :: (x 25 21 0) :: L4r1)) L4s10)
def L4s12:ze:=(.seq (.reg ((g 16 3 1) :: (o 17 (c 22 [(t 16)])) :: (o 18 (c 27 [(t 17)])) :: (m 15 18) :: (x 19 15 0) :: L4r0)) L4s11)
def L4s13:ze:=(.seq (.seq (.reg [(g 11 3 1),(o 12 (c 19 [(t 11)])),(o 13 (.un .not (t 12)))]) L4s0) L4s12)
def L4:zl:=⟨79,(.seq (.reg [(o 1 (.box (t 0))),(o 2 (.move (.c (.bool .false))))]) L4s13),[(.t 2)],.false,.none,vO⟩
def L19r0:List zb:=[(m 9 8),(og 10 (.move (t 3)) 9 .true),(og 11 (b .lss (t 10) (k 10)) 9 .true),(o 12 (.pick (t 9) (t 11) (.c (.bool .false))))]
def L19r1:List zb:=[(l 20 19),(o 21 (.len .slice (t 20))),(o 22 (b .gtr (t 21) (k 9)))]
def L19s0:ze:=(.cond (t 22) (.seq (.reg [(o 2 (.move (.c (.bool .false))))]) .ret) .skip)
def L19s1:ze:=(.reg [(m 13 3),(o 14 (b .add (t 13) (k 1))),(m 3 14)])
def L19s2:ze:=(.seq (.block 1 (.seq (.reg ((f 15 2 1) :: (l 16 15) :: (m 17 3) :: (o 18 (.indexAddrS 3 (t 16) (t 17))) :: (f 19 2 18) :: L19r1)) L19s0)) L19s1)
def L19w0:ze:=(.seq (.seq (.reg ((m 4 3) :: (f 5 2 1) :: (l 6 5) :: (o 7 (.len .slice (t 6))) :: (o 8 (b .lss (t 4) (t 7))) :: L19r0)) (.cond (t 12) .skip (.exit 0))) L19s2)
def L19r2:List zb:=[(og 28 (.fieldAddr 2 (t 1)) 27 .true),(og 29 (.load .false 1 (t 28)) 27 .true),(og 30 (.len .slice (t 29)) 27 .true),(og 31 (b .leq (t 30) (k 9)) 27 .true),(o 32 (.pick (t 27) (t 31) (.c (.bool .false)))),(m 2 32)]
def L19s3:ze:=(.seq (.reg ((f 23 0 1) :: (l 24 23) :: (o 25 (.len .slice (t 24))) :: (o 26 (b .leq (t 25) (k 9))) :: (m 27 26) :: L19r2)) .ret)
def L19s4:ze:=(.seq (.seq (.reg [(o 3 (.move (k 0)))]) (.block 0 (.loop L19w0))) L19s3)
def L19:zl:=⟨33,(.seq (.reg [(o 1 (.box (t 0))),(o 2 (.move (.c (.bool .false))))]) L19s4),[(.t 2)],.false,.none,vO⟩
theorem lp19:LP 19 = some L19:=by kernel_rfl
def L21r0:List zb:=[(og 8 (.fieldAddr 2 (t 1)) 7 .false),(og 9 (.load .false 1 (t 8)) 7 .false),(og 10 (.len .slice (t 9)) 7 .false),(og 11 (b .gtr (t 10) (k 6)) 7 .false),(o 12 (.pick (t 7) (.c (.bool .true)) (t 11)))]
def L21s0:ze:=(.cond (t 12) (.seq (.reg [(o 2 (.move (k 3)))]) .ret) .skip)
def L21s1:ze:=(.cond (t 15) (.seq (.reg [(o 2 (.move (k 1)))]) .ret) .skip)
def L21s2:ze:=(.seq (.seq (.reg [(g 13 3 1),(o 14 (c 69 [(t 13)])),(o 15 (.un .not (t 14)))]) L21s1) (.seq (.reg [(o 2 (.move (k 0)))]) .ret))
def L21s3:ze:=(.seq (.seq (.reg ((f 3 0 1) :: (l 4 3) :: (o 5 (.len .slice (t 4))) :: (o 6 (b .gtr (t 5) (k 6))) :: (m 7 6) :: L21r0)) L21s0) L21s2)
def L21:zl:=⟨16,(.seq (.reg [(o 1 (.box (t 0))),(o 2 (.move (k 0)))]) L21s3),[(.t 2)],.false,.none,vO⟩
theorem lp21:LP 21 = some L21:=by kernel_rfl
def L22r0:List zb:=[(o 24 (.indexAddrS 2 (t 22) (t 23))),(g 25 2 24),(o 26 (c 33 [(t 25)])),(oa 27 (.buildSlice 1 [(i 0),(i 0)] [(0,(2,(t 26)))]) [7]),(oa 28 (.append 2 16 (t 20) (t 27)) [8,7]),(oa 29 (.fieldAddr 0 (t 3)) [9,8,7]),(ona (.store 1 (t 29) (t 28)) [9,8,7])]
def L22s0:ze:=(.reg [(m 17 4),(o 18 (b .add (t 17) (k 1))),(m 4 18)])
def L22s1:ze:=(.seq (.block 1 (.draw 9 ((f 19 0 3) :: (l 20 19) :: (f 21 0 1) :: (l 22 21) :: (m 23 4) :: L22r0))) L22s0)
def L22w2:ze:=(.seq (.seq (.reg [(m 12 4),(f 13 0 1),(l 14 13),(o 15 (.len .slice (t 14))),(o 16 (b .lss (t 12) (t 15)))]) (.cond (t 16) .skip (.exit 0))) L22s1)
def L22r1:List zb:=[(g 42 2 41),(o 43 (c 33 [(t 42)])),(o 44 (.build [(i 0),(i 0),(.slice .none 0 0)] [(0,(2,(t 43)))])),(o 6 (.alloc [(i 0),(i 0),(.slice .none 0 0)])),(s 3 6 44)]
def L22r2:List zb:=[(f 50 2 49),(l 51 50),(o 52 (.len .slice (t 51))),(o 53 (b .lss (t 45) (t 52)))]
def L22r3:List zb:=[(l 61 60),(m 62 7),(o 63 (.indexAddrS 2 (t 61) (t 62))),(g 64 2 63),(o 8 (.alloc [(i 0),(i 0)])),(s 2 8 64)]
def L22r4:List zb:=[(l 70 69),(o 71 (.build [(i 0),(i 0)] [(0,(1,(t 68))),(1,(1,(t 70)))])),(o 72 (.buildSlice 1 [(i 0),(i 0)] [(0,(2,(t 71)))])),(o 73 (.append 2 16 (t 66) (t 72))),(f 74 2 6),(s 1 74 73)]
def L22s2:ze:=(.reg ((f 65 2 6) :: (l 66 65) :: (f 67 0 8) :: (l 68 67) :: (f 69 1 8) :: L22r4))
def L22s3:ze:=(.reg [(m 54 7),(o 55 (b .add (t 54) (k 1))),(m 7 55)])
def L22s4:ze:=(.seq (.block 5 (.seq (.reg ((f 56 2 1) :: (l 57 56) :: (m 58 5) :: (o 59 (.indexAddrS 3 (t 57) (t 58))) :: (f 60 2 59) :: L22r3)) L22s2)) L22s3)
def L22w0:ze:=(.seq (.seq (.reg ((m 45 7) :: (f 46 2 1) :: (l 47 46) :: (m 48 5) :: (o 49 (.indexAddrS 3 (t 47) (t 48))) :: L22r2)) (.cond (t 53) .skip (.exit 4))) L22s4)
def L22s5:ze:=(.reg [(f 75 2 3),(l 76 75),(g 77 3 6),(o 78 (.buildSlice 1 [(i 0),(i 0),(.slice .none 0 0)] [(0,(3,(t 77)))])),(o 79 (.append 3 40 (t 76) (t 78))),(f 80 2 3),(s 1 80 79)])
def L22s6:ze:=(.seq (.seq (.reg [(o 7 (.move (k 0)))]) (.block 4 (.loop L22w0))) L22s5)
def L22s7:ze:=(.reg [(m 35 5),(o 36 (b .add (t 35) (k 1))),(m 5 36)])
def L22s8:ze:=(.seq (.block 3 (.seq (.reg ((f 37 2 1) :: (l 38 37) :: (m 39 5) :: (o 40 (.indexAddrS 3 (t 38) (t 39))) :: (f 41 0 40) :: L22r1)) L22s6)) L22s7)
def L22w1:ze:=(.seq (.seq (.reg [(m 30 5),(f 31 2 1),(l 32 31),(o 33 (.len .slice (t 32))),(o 34 (b .lss (t 30) (t 33)))]) (.cond (t 34) .skip (.exit 2))) L22s8)
def L22s9:ze:=(.seq (.reg [(g 81 3 3),(s 3 2 81)]) .ret)
def L22s10:ze:=(.seq (.seq (.reg [(o 5 (.move (k 0)))]) (.block 2 (.loop L22w1))) L22s9)
def L22s11:ze:=(.seq (.seq (.reg [(o 4 (.move (k 0)))]) (.block 0 (.loop L22w2))) L22s10)
def L22s12:ze:=(.seq (.reg [(f 9 1 1),(l 10 9),(o 11 (.build [(.slice .none 0 0),(i 0),(.slice .none 0 0)] [(1,(1,(t 10)))])),(o 3 (.alloc [(.slice .none 0 0),(i 0),(.slice .none 0 0)])),(s 3 3 11)]) L22s11)
def L22:zl:=⟨82,(.seq (.reg [(o 1 (.box (t 0))),(o 2 (.alloc [(.slice .none 0 0),(i 0),(.slice .none 0 0)]))]) L22s12),[(.cell 2 .true 3)],.true,.none,vO⟩
theorem lp22:LP 22 = some L22:=by kernel_rfl
def L23r0:List zb:=[(og 15 (.load .false 1 (t 4)) 13 .false),(og 16 (.load .false 1 (t 5)) 13 .false),(og 17 (c 70 [(t 14),(t 15),(t 16)]) 13 .false),(og 18 (.un .not (t 17)) 13 .false),(o 19 (.pick (t 13) (.c (.bool .true)) (t 18)))]
def L23s0:ze:=(.cond (t 19) (.seq (.reg [(on (.store 1 (t 6) (.c (.bool .false))))]) .ret) .skip)
def L23s1:ze:=(.reg [(o 8 (.alloc [(i 0),(i 0)])),(s 2 8 23)])
def L23r1:List zb:=[(l 34 33),(o 35 (.indexAddrS 1 (t 32) (t 34))),(l 36 35),(o 37 (b .sub (t 31) (t 36))),(m 9 37)]
def L23r2:List zb:=((o 29 (.indexAddrS 1 (t 26) (t 28))) :: (l 30 29) :: (o 31 (b .sub (t 25) (t 30))) :: (l 32 4) :: (f 33 0 8) :: L23r1)
def L23r3:List zb:=[(f 43 1 3),(l 44 43),(oa 45 (b .gtr (t 42) (t 44)) [4,3])]
def L23s2:ze:=(.cond (t 45) (.seq (.reg [(on (.store 1 (t 6) (.c (.bool .false))))]) .ret) .skip)
def L23s3:ze:=(.seq (.draw 7 ((m 38 9) :: (m 39 9) :: (o 40 (.un .neg (t 39))) :: (o 41 (.buildSlice 1 [(i 0)] [(0,(1,(t 40)))])) :: (oa 42 (c 72 [(t 38),(t 41)]) [3]) :: L23r3)) L23s2)
def L23s4:ze:=(.block 0 (.rangeFunc (t 21) [22,23] (.seq (.reg [(o 7 (.alloc [(i 0),(i 0)])),(s 2 7 22)]) L23s1) (.block 1 (.seq (.draw 0 ((f 24 1 8) :: (l 25 24) :: (l 26 5) :: (f 27 0 7) :: (l 28 27) :: L23r2)) L23s3))))
def L23s5:ze:=(.seq (.reg [(on (.store 1 (t 6) (.c (.bool .true))))]) .ret)
def L23s6:ze:=(.seq (.seq (.reg [(g 20 3 3),(o 21 (c 71 [(t 20)]))]) L23s4) L23s5)
def L23s7:ze:=(.seq (.seq (.reg ((g 10 3 3) :: (o 11 (c 21 [(t 10)])) :: (o 12 (.eq (.cell (.i .i64)) .true (t 11) (k 0))) :: (m 13 12) :: (og 14 (.load .true 3 (t 3)) 13 .false) :: L23r0)) L23s0) L23s6)
def L23:zl:=⟨46,(.seq (.reg [(o 3 (.box (t 0))),(o 4 (.box (t 1))),(o 5 (.box (t 2))),(o 6 (.alloc [(.bool .false)]))]) L23s7),[(.cell 6 .false 1)],.false,.none,vO⟩
theorem lp23:LP 23 = some L23:=by kernel_rfl
def L24s0:ze:=(.seq (.reg [(o 3 (.buildSlice 0 [(i 0)] [])),(m 4 0),(o 5 (.append 1 8 (t 3) (t 4))),(m 2 5)]) .ret)
def L24:zl:=⟨6,(.seq (.reg [(o 2 (.move (.c (.slice .none 0 0))))]) L24s0),[(.t 2)],.true,.none,vO⟩
theorem lp24:LP 24 = some L24:=by kernel_rfl
def L25s0:ze:=(.seq (.reg [(g 3 3 1),(o 4 (c 73 [(t 3)])),(m 2 4)]) .ret)
def L25:zl:=⟨5,(.seq (.reg [(o 1 (.box (t 0))),(o 2 (.move (k 0)))]) L25s0),[(.t 2)],.false,.none,vO⟩
theorem lp25:LP 25 = some L25:=by kernel_rfl
def L26r0:List zb:=[(og 22 (.load .false 1 (t 21)) 18 .false),(og 23 (.len .slice (t 22)) 18 .false),(og 24 (.eq (.cell (.i .i64)) .true (t 20) (t 23)) 18 .false),(o 25 (.pick (t 18) (.c (.bool .true)) (t 24)))]
def L26r1:List zb:=((o 17 (.eq (.cell (.i .i64)) .true (t 13) (t 16))) :: (m 18 17) :: (og 19 (.move (t 2)) 18 .false) :: (og 20 (.len .slice (t 19)) 18 .false) :: (og 21 (.fieldAddr 2 (t 3)) 18 .false) :: L26r0)
def L26s0:ze:=(.cond (t 25) (.seq (.reg [(o 6 (.move (.c (.bool .false))))]) .ret) .skip)
def L26r2:List zb:=[(l 47 46),(o 48 (c 32 [(t 35),(t 41),(t 47)])),(oa 49 (.un .not (t 48)) [16])]
def L26r3:List zb:=((f 42 0 3) :: (l 43 42) :: (m 44 7) :: (o 45 (.indexAddrS 2 (t 43) (t 44))) :: (f 46 1 45) :: L26r2)
def L26r4:List zb:=((l 37 36) :: (m 38 7) :: (o 39 (.indexAddrS 2 (t 37) (t 38))) :: (f 40 0 39) :: (l 41 40) :: L26r3)
def L26s1:ze:=(.cond (t 49) (.seq (.reg [(o 6 (.move (.c (.bool .false))))]) .ret) .skip)
def L26s2:ze:=(.reg [(m 30 7),(o 31 (b .add (t 30) (k 1))),(m 7 31)])
def L26s3:ze:=(.seq (.block 1 (.seq (.draw 0 ((m 32 1) :: (m 33 7) :: (o 34 (.indexAddrS 1 (t 32) (t 33))) :: (l 35 34) :: (f 36 0 3) :: L26r4)) L26s1)) L26s2)
def L26w2:ze:=(.seq (.seq (.reg [(m 26 7),(m 27 1),(o 28 (.len .slice (t 27))),(o 29 (b .lss (t 26) (t 28)))]) (.cond (t 29) .skip (.exit 0))) L26s3)
def L26r5:List zb:=[(f 66 0 65),(l 67 66),(f 68 0 9),(f 69 1 68),(l 70 69),(o 71 (c 32 [(t 64),(t 67),(t 70)])),(oa 72 (.un .not (t 71)) [10])]
def L26s4:ze:=(.cond (t 72) (.seq (.reg [(o 6 (.move (.c (.bool .false))))]) .ret) .skip)
def L26r6:List zb:=[(o 95 (.indexAddrS 2 (t 93) (t 94))),(f 96 0 95),(l 97 96),(o 98 (.indexAddrS 1 (t 91) (t 97))),(l 99 98),(o 100 (b .sub (t 90) (t 99))),(m 11 100)]
def L26r7:List zb:=((o 90 (b .sub (t 85) (t 89))) :: (m 91 1) :: (f 92 2 9) :: (l 93 92) :: (m 94 10) :: L26r6)
def L26r8:List zb:=((l 85 84) :: (m 86 2) :: (m 87 8) :: (o 88 (.indexAddrS 1 (t 86) (t 87))) :: (l 89 88) :: L26r7)
def L26r9:List zb:=[(l 106 105),(o 107 (c 32 [(t 101),(t 104),(t 106)])),(o 108 (.un .not (t 107)))]
def L26s5:ze:=(.cond (t 108) (.seq (.reg [(o 6 (.move (.c (.bool .false))))]) .ret) .skip)
def L26s6:ze:=(.seq (.reg ((m 101 11) :: (f 102 1 3) :: (l 103 102) :: (o 104 (.un .neg (t 103))) :: (f 105 1 3) :: L26r9)) L26s5)
def L26s7:ze:=(.reg [(m 78 10),(o 79 (b .add (t 78) (k 1))),(m 10 79)])
def L26s8:ze:=(.seq (.block 5 (.seq (.draw 0 ((f 80 2 9) :: (l 81 80) :: (m 82 10) :: (o 83 (.indexAddrS 2 (t 81) (t 82))) :: (f 84 1 83) :: L26r8)) L26s6)) L26s7)
def L26w0:ze:=(.seq (.seq (.reg [(m 73 10),(f 74 2 9),(l 75 74),(o 76 (.len .slice (t 75))),(o 77 (b .lss (t 73) (t 76)))]) (.cond (t 77) .skip (.exit 4))) L26s8)
def L26s9:ze:=(.seq (.reg [(o 10 (.move (k 0)))]) (.block 4 (.loop L26w0)))
def L26s10:ze:=(.seq (.seq (.draw 0 ((m 61 2) :: (m 62 8) :: (o 63 (.indexAddrS 1 (t 61) (t 62))) :: (l 64 63) :: (f 65 0 9) :: L26r5)) L26s4) L26s9)
def L26s11:ze:=(.reg [(m 54 8),(o 55 (b .add (t 54) (k 1))),(m 8 55)])
def L26s12:ze:=(.seq (.block 3 (.seq (.reg [(f 56 2 3),(l 57 56),(m 58 8),(o 59 (.indexAddrS 3 (t 57) (t 58))),(g 60 3 59),(o 9 (.alloc [(i 0),(i 0),(.slice .none 0 0)])),(s 3 9 60)]) L26s10)) L26s11)
def L26w1:ze:=(.seq (.seq (.reg [(m 50 8),(m 51 2),(o 52 (.len .slice (t 51))),(o 53 (b .lss (t 50) (t 52)))]) (.cond (t 53) .skip (.exit 2))) L26s12)
def L26s13:ze:=(.seq (.seq (.reg [(o 8 (.move (k 0)))]) (.block 2 (.loop L26w1))) (.seq (.reg [(o 6 (.move (.c (.bool .true))))]) .ret))
def L26s14:ze:=(.seq (.seq (.reg [(o 7 (.move (k 0)))]) (.block 0 (.loop L26w2))) L26s13)
def L26s15:ze:=(.seq (.seq (.reg ((m 12 1) :: (o 13 (.len .slice (t 12))) :: (f 14 0 3) :: (l 15 14) :: (o 16 (.len .slice (t 15))) :: L26r1)) L26s0) L26s14)
def L26:zl:=⟨109,(.seq (.reg [(o 3 (.box (t 0))),(o 6 (.move (.c (.bool .false))))]) L26s15),[(.t 6)],.false,.none,vO⟩
theorem lp26:LP 26 = some L26:=by kernel_rfl
def L32r0:List zb:=[(og 12 (.move (t 2)) 10 .true),(og 13 (b .leq (t 11) (t 12)) 10 .true),(o 14 (.pick (t 10) (t 13) (.c (.bool .false)))),(m 6 14)]
def L32s0:ze:=(.seq (.reg ((m 7 0) :: (m 8 1) :: (o 9 (b .geq (t 7) (t 8))) :: (m 10 9) :: (og 11 (.move (t 0)) 10 .true) :: L32r0)) .ret)
def L32:zl:=⟨15,(.seq (.reg [(o 6 (.move (.c (.bool .false))))]) L32s0),[(.t 6)],.false,.none,vO⟩
theorem lp32:LP 32 = some L32:=by kernel_rfl
def L33s0:ze:=(.seq (.reg [(f 3 0 1),(l 4 3),(f 5 1 1),(l 6 5),(o 7 (.build [(i 0),(i 0)] [(0,(1,(t 4))),(1,(1,(t 6)))])),(s 2 2 7)]) .ret)
def L33:zl:=⟨8,(.seq (.reg [(o 1 (.box (t 0))),(o 2 (.alloc [(i 0),(i 0)]))]) L33s0),[(.cell 2 .true 2)],.false,.none,vO⟩
theorem lp33:LP 33 = some L33:=by kernel_rfl
def L69r0:List zb:=[(og 23 (.fieldAddr 2 (t 1)) 22 .true),(og 24 (.load .false 1 (t 23)) 22 .true),(og 25 (.load .true 3 (t 1)) 22 .true),(og 26 (.makeFunc 101 [(t 25)] []) 22 .true),(og 27 (c 100 [(t 24),(t 26)]) 22 .true),(o 28 (.pick (t 22) (t 27) (.c (.bool .false)))),(m 2 28)]
def L69r1:List zb:=((og 18 (.fieldAddr 1 (t 1)) 17 .true) :: (og 19 (.load .false 1 (t 18)) 17 .true) :: (og 20 (b .leq (t 19) (k 20)) 17 .true) :: (o 21 (.pick (t 17) (t 20) (.c (.bool .false)))) :: (m 22 21) :: L69r0)
def L69r2:List zb:=((og 13 (.fieldAddr 1 (t 1)) 12 .true) :: (og 14 (.load .false 1 (t 13)) 12 .true) :: (og 15 (b .leq (k 0) (t 14)) 12 .true) :: (o 16 (.pick (t 12) (t 15) (.c (.bool .false)))) :: (m 17 16) :: L69r1)
def L69r3:List zb:=((og 8 (.fieldAddr 0 (t 1)) 7 .true) :: (og 9 (.load .false 1 (t 8)) 7 .true) :: (og 10 (c 98 [(t 9),(.c (.func 99 [] []))]) 7 .true) :: (o 11 (.pick (t 7) (t 10) (.c (.bool .false)))) :: (m 12 11) :: L69r2)
def L69s0:ze:=(.seq (.reg ((f 3 0 1) :: (l 4 3) :: (o 5 (.len .slice (t 4))) :: (o 6 (b .gtr (t 5) (k 0))) :: (m 7 6) :: L69r3)) .ret)
def L69:zl:=⟨29,(.seq (.reg [(o 1 (.box (t 0))),(o 2 (.move (.c (.bool .false))))]) L69s0),[(.t 2)],.false,.none,vO⟩
theorem lp69:LP 69 = some L69:=by kernel_rfl
def L70r0:List zb:=[(og 21 (.load .false 1 (t 20)) 17 .false),(og 22 (.len .slice (t 21)) 17 .false),(og 23 (.eq (.cell (.i .i64)) .true (t 19) (t 22)) 17 .false),(o 24 (.pick (t 17) (.c (.bool .true)) (t 23)))]
def L70r1:List zb:=((o 16 (.eq (.cell (.i .i64)) .true (t 12) (t 15))) :: (m 17 16) :: (og 18 (.move (t 2)) 17 .false) :: (og 19 (.len .slice (t 18)) 17 .false) :: (og 20 (.fieldAddr 2 (t 3)) 17 .false) :: L70r0)
def L70s0:ze:=(.cond (t 24) (.seq (.reg [(o 6 (.move (.c (.bool .false))))]) .ret) .skip)
def L70r2:List zb:=[(m 37 8),(o 38 (c 102 [(t 36),(t 37)])),(o 39 (.un .not (t 38)))]
def L70s1:ze:=(.cond (t 39) (.seq (.reg [(o 6 (.move (.c (.bool .false))))]) .ret) .skip)
def L70s2:ze:=(.seq (.reg ((f 32 0 3) :: (l 33 32) :: (m 34 7) :: (o 35 (.indexAddrS 2 (t 33) (t 34))) :: (g 36 2 35) :: L70r2)) L70s1)
def L70s3:ze:=(.reg [(o 40 (b .add (t 27) (k 1))),(m 27 40)])
def L70s4:ze:=(.seq (.block 1 (.seq (.reg [(m 29 27),(o 30 (.indexAddrS 1 (t 25) (t 27))),(l 31 30),(m 7 29),(m 8 31)]) L70s2)) L70s3)
def L70w1:ze:=(.seq (.reg [(o 28 (b .lss (t 27) (t 26)))]) (.seq (.cond (t 28) .skip (.exit 0)) L70s4))
def L70r3:List zb:=[(g 53 2 52),(m 54 10),(o 55 (c 102 [(t 53),(t 54)])),(o 56 (.un .not (t 55)))]
def L70s5:ze:=(.cond (t 56) (.seq (.reg [(o 6 (.move (.c (.bool .false))))]) .ret) .skip)
def L70s6:ze:=(.seq (.reg ((f 48 2 3) :: (l 49 48) :: (m 50 9) :: (o 51 (.indexAddrS 3 (t 49) (t 50))) :: (f 52 0 51) :: L70r3)) L70s5)
def L70s7:ze:=(.reg [(o 57 (b .add (t 43) (k 1))),(m 43 57)])
def L70s8:ze:=(.seq (.block 3 (.seq (.reg [(m 45 43),(o 46 (.indexAddrS 1 (t 41) (t 43))),(l 47 46),(m 9 45),(m 10 47)]) L70s6)) L70s7)
def L70w0:ze:=(.seq (.reg [(o 44 (b .lss (t 43) (t 42)))]) (.seq (.cond (t 44) .skip (.exit 2)) L70s8))
def L70s9:ze:=(.seq (.seq (.reg [(m 41 2),(o 42 (.len .slice (t 41))),(o 43 (.move (k 0)))]) (.block 2 (.loop L70w0))) (.seq (.reg [(o 6 (.move (.c (.bool .true))))]) .ret))
def L70s10:ze:=(.seq (.seq (.reg [(m 25 1),(o 26 (.len .slice (t 25))),(o 27 (.move (k 0)))]) (.block 0 (.loop L70w1))) L70s9)
def L70s11:ze:=(.seq (.seq (.reg ((m 11 1) :: (o 12 (.len .slice (t 11))) :: (f 13 0 3) :: (l 14 13) :: (o 15 (.len .slice (t 14))) :: L70r1)) L70s0) L70s10)
def L70:zl:=⟨58,(.seq (.reg [(o 3 (.box (t 0))),(o 6 (.move (.c (.bool .false))))]) L70s11),[(.t 6)],.false,.none,vO⟩
theorem lp70:LP 70 = some L70:=by kernel_rfl
def L71s0:ze:=(.seq (.reg [(o 3 (.makeFunc 103 [] [(t 1)])),(m 2 3)]) .ret)
def L71:zl:=⟨4,(.seq (.reg [(o 1 (.box (t 0))),(o 2 (.move (.c .nilFunc)))]) L71s0),[(.t 2)],.true,.none,vO⟩
theorem lp71:LP 71 = some L71:=by kernel_rfl
def L72s0:ze:=(.cond (t 15) (.reg [(m 16 6),(m 0 16)]) .skip)
def L72s1:ze:=(.seq (.reg [(m 13 6),(m 14 0),(o 15 (b .gtr (t 13) (t 14)))]) L72s0)
def L72s2:ze:=(.reg [(o 17 (b .add (t 9) (k 1))),(m 9 17)])
def L72s3:ze:=(.seq (.block 1 (.seq (.reg [(o 11 (.indexAddrS 1 (t 7) (t 9))),(l 12 11),(m 6 12)]) L72s1)) L72s2)
def L72w0:ze:=(.seq (.reg [(o 10 (b .lss (t 9) (t 8)))]) (.seq (.cond (t 10) .skip (.exit 0)) L72s3))
def L72s4:ze:=(.seq (.reg [(m 18 0),(m 4 18)]) .ret)
def L72s5:ze:=(.seq (.seq (.reg [(m 7 1),(o 8 (.len .slice (t 7))),(o 9 (.move (k 0)))]) (.block 0 (.loop L72w0))) L72s4)
def L72:zl:=⟨19,(.seq (.reg [(o 4 (.move (k 0)))]) L72s5),[(.t 4)],.false,.none,vO⟩
theorem lp72:LP 72 = some L72:=by kernel_rfl
def L73r0:List zb:=[(og 13 (.fieldAddr 2 (t 1)) 12 .false),(og 14 (.load .false 1 (t 13)) 12 .false),(og 15 (.len .slice (t 14)) 12 .false),(og 16 (b .gtr (t 15) (k 6)) 12 .false),(o 17 (.pick (t 12) (.c (.bool .true)) (t 16)))]
def L73s0:ze:=(.cond (t 17) (.seq (.reg [(o 2 (.move (k 3)))]) .ret) .skip)
def L73r1:List zb:=[(og 23 (.fieldAddr 1 (t 1)) 22 .false),(og 24 (.load .false 1 (t 23)) 22 .false),(og 25 (c 32 [(t 24),(k 0),(k 20)]) 22 .false),(og 26 (.un .not (t 25)) 22 .false),(o 27 (.pick (t 22) (.c (.bool .true)) (t 26)))]
def L73s1:ze:=(.cond (t 27) (.seq (.reg [(o 2 (.move (k 1)))]) .ret) .skip)
def L73s2:ze:=(.cond (t 41) (.seq (.reg [(o 2 (.move (k 1)))]) .ret) .skip)
def L73s3:ze:=(.reg [(m 33 3),(o 34 (b .add (t 33) (k 1))),(m 3 34)])
def L73s4:ze:=(.seq (.block 1 (.seq (.reg [(f 35 0 1),(l 36 35),(m 37 3),(o 38 (.indexAddrS 2 (t 36) (t 37))),(g 39 2 38),(o 40 (c 90 [(t 39),(.c (.int .i64 (-100))),(k 100)])),(o 41 (.un .not (t 40)))]) L73s2)) L73s3)
def L73w3:ze:=(.seq (.seq (.reg [(m 28 3),(f 29 0 1),(l 30 29),(o 31 (.len .slice (t 30))),(o 32 (b .lss (t 28) (t 31)))]) (.cond (t 32) .skip (.exit 0))) L73s4)
def L73s5:ze:=(.cond (t 57) (.seq (.reg [(o 2 (.move (k 1)))]) .ret) .skip)
def L73r2:List zb:=[(oga 80 (.move (t 6)) 77 .false [10]),(oga 81 (.indexAddrS 2 (t 79) (t 80)) 77 .false [10]),(oga 82 (.fieldAddr 1 (t 81)) 77 .false [10]),(oga 83 (.load .false 1 (t 82)) 77 .false [10]),(oga 84 (c 32 [(t 83),(.c (.int .i64 (-1000))),(k 2000)]) 77 .false [10]),(oga 85 (.un .not (t 84)) 77 .false [19,10]),(oa 86 (.pick (t 77) (.c (.bool .true)) (t 85)) [19,10])]
def L73r3:List zb:=((o 75 (c 32 [(t 70),(k 0),(t 74)])) :: (oa 76 (.un .not (t 75)) [10]) :: (oa 77 (.move (t 76)) [10]) :: (oga 78 (.fieldAddr 2 (t 5)) 77 .false [10]) :: (oga 79 (.load .false 1 (t 78)) 77 .false [10]) :: L73r2)
def L73r4:List zb:=((l 70 69) :: (f 71 0 1) :: (l 72 71) :: (o 73 (.len .slice (t 72))) :: (o 74 (b .sub (t 73) (k 1))) :: L73r3)
def L73s6:ze:=(.cond (t 86) (.seq (.reg [(o 2 (.move (k 1)))]) .ret) .skip)
def L73r5:List zb:=[(f 102 0 101),(l 103 102),(o 104 (.eq (.cell (.i .i64)) .false (t 97) (t 103)))]
def L73r6:List zb:=((l 97 96) :: (f 98 2 5) :: (l 99 98) :: (m 100 6) :: (o 101 (.indexAddrS 2 (t 99) (t 100))) :: L73r5)
def L73s7:ze:=(.cond (t 104) (.seq (.reg [(o 2 (.move (k 1)))]) .ret) .skip)
def L73s8:ze:=(.reg [(m 90 7),(o 91 (b .add (t 90) (k 1))),(m 7 91)])
def L73s9:ze:=(.seq (.block 7 (.seq (.draw 0 ((f 92 2 5) :: (l 93 92) :: (m 94 7) :: (o 95 (.indexAddrS 2 (t 93) (t 94))) :: (f 96 0 95) :: L73r6)) L73s7)) L73s8)
def L73w0:ze:=(.seq (.seq (.reg [(m 87 7),(m 88 6),(o 89 (b .lss (t 87) (t 88)))]) (.cond (t 89) .skip (.exit 6))) L73s9)
def L73s10:ze:=(.seq (.reg [(o 7 (.move (k 0)))]) (.block 6 (.loop L73w0)))
def L73s11:ze:=(.reg [(m 63 6),(o 64 (b .add (t 63) (k 1))),(m 6 64)])
def L73s12:ze:=(.seq (.block 5 (.seq (.seq (.draw 0 ((f 65 2 5) :: (l 66 65) :: (m 67 6) :: (o 68 (.indexAddrS 2 (t 66) (t 67))) :: (f 69 0 68) :: L73r4)) L73s6) L73s10)) L73s11)
def L73w1:ze:=(.seq (.seq (.reg [(m 58 6),(f 59 2 5),(l 60 59),(o 61 (.len .slice (t 60))),(o 62 (b .lss (t 58) (t 61)))]) (.cond (t 62) .skip (.exit 4))) L73s12)
def L73s13:ze:=(.seq (.reg [(o 6 (.move (k 0)))]) (.block 4 (.loop L73w1)))
def L73s14:ze:=(.seq (.seq (.reg [(f 54 0 5),(g 55 2 54),(o 56 (c 90 [(t 55),(k 0),(k 1000)])),(o 57 (.un .not (t 56)))]) L73s5) L73s13)
def L73s15:ze:=(.reg [(m 47 4),(o 48 (b .add (t 47) (k 1))),(m 4 48)])
def L73s16:ze:=(.seq (.block 3 (.seq (.reg [(f 49 2 1),(l 50 49),(m 51 4),(o 52 (.indexAddrS 3 (t 50) (t 51))),(g 53 3 52),(o 5 (.alloc [(i 0),(i 0),(.slice .none 0 0)])),(s 3 5 53)]) L73s14)) L73s15)
def L73w2:ze:=(.seq (.seq (.reg [(m 42 4),(f 43 2 1),(l 44 43),(o 45 (.len .slice (t 44))),(o 46 (b .lss (t 42) (t 45)))]) (.cond (t 46) .skip (.exit 2))) L73s16)
def L73s17:ze:=(.seq (.seq (.reg [(o 4 (.move (k 0)))]) (.block 2 (.loop L73w2))) (.seq (.reg [(o 2 (.move (k 0)))]) .ret))
def L73s18:ze:=(.seq (.seq (.reg [(o 3 (.move (k 0)))]) (.block 0 (.loop L73w3))) L73s17)
def L73s19:ze:=(.seq (.seq (.reg ((f 18 0 1) :: (l 19 18) :: (o 20 (.len .slice (t 19))) :: (o 21 (.eq (.cell (.i .i64)) .false (t 20) (k 0))) :: (m 22 21) :: L73r1)) L73s1) L73s18)
def L73s20:ze:=(.seq (.seq (.reg ((f 8 0 1) :: (l 9 8) :: (o 10 (.len .slice (t 9))) :: (o 11 (b .gtr (t 10) (k 6))) :: (m 12 11) :: L73r0)) L73s0) L73s19)
def L73:zl:=⟨105,(.seq (.reg [(o 1 (.box (t 0))),(o 2 (.move (k 0)))]) L73s20),[(.t 2)],.false,.none,vO⟩
theorem lp73:LP 73 = some L73:=by kernel_rfl
end
end Go.Hx

