import Derived.Test.YtcejjaaoainfjaaH04
import Derived.ProofKit
import Derived.Test.YtcejjaaoainfjaaH02
import Derived.Test.YtcejjaaoainfjaaH03
set_option linter.all false
namespace Go.Hx
set_option maxRecDepth 100000
noncomputable section
open F
def L74s0:ze:=(.cond (t 12) (.seq (.reg [(o 13 (.build [(.slice .none 0 0),(i 0),(.slice .none 0 0),(i 0),(i 0),(i 0),(i 0),(i 0),(i 0),(i 0),(i 0),(i 0),(i 0),(i 0),(i 0),(i 0),(i 0),(i 0),(i 0),(i 0),(i 0),(i 0),(i 0),(i 0),(i 0),(i 0),(i 0),(i 0),(i 0),(i 0),(i 0),(i 0),(i 0),(i 0),(i 0),(i 0),(i 0),(i 0),(i 0),(i 0),(i 0),(i 0),(i 0),(i 0),(i 0),(i 0),(i 0),(i 0),(i 0),(i 0),(i 0),(i 0),(i 0),(i 0),(i 0),(i 0),(i 0),(i 0),(i 0),(i 0),(i 0),(i 0),(i 0),(i 0),(i 0),(i 0),(i 0),(i 0),(i 0),(i 0),(i 0),(i 0),(i 0),(i 0),(i 0),(i 0),(i 0),(i 0),(i 0),(i 0),(i 0),(i 0),(i 0),(i 0),(i 0),(i 0),(i 0),(i 0),(i 0),(i 0),(i 0),(i 0),(i 0),(i 0),(i 0),(i 0),(i 0),(i 0),(i 0),(i 0),(i 0),(i 0),(i 0),(i 0),(i 0),(i 0),(i 0),(i 0),(i 0),(i 0),(i 0),(i 0),(i 0),(i 0),(i 0),(i 0),(i 0),(i 0),(i 0),(i 0),(i 0),(i 0),(i 0),(i 0),(i 0),(i 0),(i 0),(i 0),(i 0),(i 0),(i 0),(i 0),(i 0),(i 0),(i 0),(i 0),(i 0),(i 0),(i 0),(i 0),(i 0),(i 0),(i 0),(i 0),(i 0),(i 0),(i 0),(i 0),(i 0),(i 0),(i 0),(i 0),(i 0),(i 0),(i 0),(i 0),(i 0),(i 0),(i 0),(i 0),(i 0),(i 0),(i 0),(i 0),(i 0),(i 0),(i 0),(i 0),(i 0),(i 0),(i 0),(i 0),(i 0)] [])),(m 14 6),(s 173 4 13),(m 5 14)]) .ret) .skip)
def L74s1:ze:=(.seq (.reg [(m 11 6),(o 12 (.eq (.cell (.i .i64)) .true (t 11) (k 0)))]) L74s0)
def L74s2:ze:=(.cond (t 16) (.seq (.reg [(o 17 (.build [(.slice .none 0 0),(i 0),(.slice .none 0 0),(i 0),(i 0),(i 0),(i 0),(i 0),(i 0),(i 0),(i 0),(i 0),(i 0),(i 0),(i 0),(i 0),(i 0),(i 0),(i 0),(i 0),(i 0),(i 0),(i 0),(i 0),(i 0),(i 0),(i 0),(i 0),(i 0),(i 0),(i 0),(i 0),(i 0),(i 0),(i 0),(i 0),(i 0),(i 0),(i 0),(i 0),(i 0),(i 0),(i 0),(i 0),(i 0),(i 0),(i 0),(i 0),(i 0),(i 0),(i 0),(i 0),(i 0),(i 0),(i 0),(i 0),(i 0),(i 0),(i 0),(i 0),(i 0),(i 0),(i 0),(i 0),(i 0),(i 0),(i 0),(i 0),(i 0),(i 0),(i 0),(i 0),(i 0),(i 0),(i 0),(i 0),(i 0),(i 0),(i 0),(i 0),(i 0),(i 0),(i 0),(i 0),(i 0),(i 0),(i 0),(i 0),(i 0),(i 0),(i 0),(i 0),(i 0),(i 0),(i 0),(i 0),(i 0),(i 0),(i 0),(i 0),(i 0),(i 0),(i 0),(i 0),(i 0),(i 0),(i 0),(i 0),(i 0),(i 0),(i 0),(i 0),(i 0),(i 0),(i 0),(i 0),(i 0),(i 0),(i 0),(i 0),(i 0),(i 0),(i 0),(i 0),(i 0),(i 0),(i 0),(i 0),(i 0),(i 0),(i 0),(i 0),(i 0),(i 0),(i 0),(i 0),(i 0),(i 0),(i 0),(i 0),(i 0),(i 0),(i 0),(i 0),(i 0),(i 0),(i 0),(i 0),(i 0),(i 0),(i 0),(i 0),(i 0),(i 0),(i 0),(i 0),(i 0),(i 0),(i 0),(i 0),(i 0),(i 0),(i 0),(i 0),(i 0),(i 0),(i 0),(i 0),(i 0),(i 0),(i 0),(i 0),(i 0)] [])),(s 173 4 17),(o 5 (.move (k 2)))]) .ret) .skip)
def L74r0:List zh:=[(o 7 (.alloc [(.slice .none 0 0),(i 0),(.slice .none 0 0),(i 0),(i 0),(i 0),(i 0),(i 0),(i 0),(i 0),(i 0),(i 0),(i 0),(i 0),(i 0),(i 0),(i 0),(i 0),(i 0),(i 0),(i 0),(i 0),(i 0),(i 0),(i 0),(i 0),(i 0),(i 0),(i 0),(i 0),(i 0),(i 0),(i 0),(i 0),(i 0),(i 0),(i 0),(i 0),(i 0),(i 0),(i 0),(i 0),(i 0),(i 0),(i 0),(i 0),(i 0),(i 0),(i 0),(i 0),(i 0),(i 0),(i 0),(i 0),(i 0),(i 0),(i 0),(i 0),(i 0),(i 0),(i 0),(i 0),(i 0),(i 0),(i 0),(i 0),(i 0),(i 0),(i 0),(i 0),(i 0),(i 0),(i 0),(i 0),(i 0),(i 0),(i 0),(i 0),(i 0),(i 0),(i 0),(i 0),(i 0),(i 0),(i 0),(i 0),(i 0),(i 0),(i 0),(i 0),(i 0),(i 0),(i 0),(i 0),(i 0),(i 0),(i 0),(i 0),(i 0),(i 0),(i 0),(i 0),(i 0),(i 0),(i 0),(i 0),(i 0),(i 0),(i 0),(i 0),(i 0),(i 0),(i 0),(i 0),(i 0),(i 0),(i 0),(i 0),(i 0),(i 0),(i 0),(i 0),(i 0),(i 0),(i 0),(i 0),(i 0),(i 0),(i 0),(i 0),(i 0),(i 0),(i 0),(i 0),(i 0),(i 0),(i 0),(i 0),(i 0),(i 0),(i 0),(i 0),(i 0),(i 0),(i 0),(i 0),(i 0),(i 0),(i 0),(i 0),(i 0),(i 0),(i 0),(i 0),(i 0),(i 0),(i 0),(i 0),(i 0),(i 0),(i 0),(i 0),(i 0),(i 0),(i 0),(i 0),(i 0),(i 0),(i 0),(i 0),(i 0),(i 0),(i 0)])),(s 173 7 21),(m 8 22)]
def L74s3:ze:=(.cond (t 24) (.seq (.reg [(o 25 (.build [(.slice .none 0 0),(i 0),(.slice .none 0 0),(i 0),(i 0),(i 0),(i 0),(i 0),(i 0),(i 0),(i 0),(i 0),(i 0),(i 0),(i 0),(i 0),(i 0),(i 0),(i 0),(i 0),(i 0),(i 0),(i 0),(i 0),(i 0),(i 0),(i 0),(i 0),(i 0),(i 0),(i 0),(i 0),(i 0),(i 0),(i 0),(i 0),(i 0),(i 0),(i 0),(i 0),(i 0),(i 0),(i 0),(i 0),(i 0),(i 0),(i 0),(i 0),(i 0),(i 0),(i 0),(i 0),(i 0),(i 0),(i 0),(i 0),(i 0),(i 0),(i 0),(i 0),(i 0),(i 0),(i 0),(i 0),(i 0),(i 0),(i 0),(i 0),(i 0),(i 0),(i 0),(i 0),(i 0),(i 0),(i 0),(i 0),(i 0),(i 0),(i 0),(i 0),(i 0),(i 0),(i 0),(i 0),(i 0),(i 0),(i 0),(i 0),(i 0),(i 0),(i 0),(i 0),(i 0),(i 0),(i 0),(i 0),(i 0),(i 0),(i 0),(i 0),(i 0),(i 0),(i 0),(i 0),(i 0),(i 0),(i 0),(i 0),(i 0),(i 0),(i 0),(i 0),(i 0),(i 0),(i 0),(i 0),(i 0),(i 0),(i 0),(i 0),(i 0),(i 0),(i 0),(i 0),(i 0),(i 0),(i 0),(i 0),(i 0),(i 0),(i 0),(i 0),(i 0),(i 0),(i 0),(i 0),(i 0),(i 0),(i 0),(i 0),(i 0),(i 0),(i 0),(i 0),(i 0),(i 0),(i 0),(i 0),(i 0),(i 0),(i 0),(i 0),(i 0),(i 0),(i 0),(i 0),(i 0),(i 0),(i 0),(i 0),(i 0),(i 0),(i 0),(i 0),(i 0),(i 0),(i 0),(i 0),(i 0),(i 0),(i 0),(i 0),(i 0)] [])),(s 173 4 25),(o 5 (.move (k 9)))]) .ret) .skip)
def L74s4:ze:=(.seq (.reg [(g 26 173 7),(s 173 4 26),(o 5 (.move (k 0)))]) .ret)
def L74s5:ze:=(.seq (.seq (.reg [(m 23 8),(o 24 (.un .not (t 23)))]) L74s3) L74s4)
def L74s6:ze:=(.seq (.reg ((g 19 3 2) :: (o 20 (c 80 [(t 19),(.c (.func 81 [] []))])) :: (m 18 20) :: (x 21 18 0) :: (x 22 18 1) :: L74r0)) L74s5)
def L74s7:ze:=(.seq (.seq (.reg [(m 15 1),(o 16 (.un .not (t 15)))]) L74s2) L74s6)
def L74s8:ze:=(.seq (.seq (.reg [(g 9 3 2),(o 10 (c 21 [(t 9)])),(m 6 10)]) L74s1) L74s7)
def L74:zp:=⟨27,(.seq (.reg [(o 2 (.box (t 0))),(o 4 (.alloc [(.slice .none 0 0),(i 0),(.slice .none 0 0),(i 0),(i 0),(i 0),(i 0),(i 0),(i 0),(i 0),(i 0),(i 0),(i 0),(i 0),(i 0),(i 0),(i 0),(i 0),(i 0),(i 0),(i 0),(i 0),(i 0),(i 0),(i 0),(i 0),(i 0),(i 0),(i 0),(i 0),(i 0),(i 0),(i 0),(i 0),(i 0),(i 0),(i 0),(i 0),(i 0),(i 0),(i 0),(i 0),(i 0),(i 0),(i 0),(i 0),(i 0),(i 0),(i 0),(i 0),(i 0),(i 0),(i 0),(i 0),(i 0),(i 0),(i 0),(i 0),(i 0),(i 0),(i 0),(i 0),(i 0),(i 0),(i 0),(i 0),(i 0),(i 0),(i 0),(i 0),(i 0),(i 0),(i 0),(i 0),(i 0),(i 0),(i 0),(i 0),(i 0),(i 0),(i 0),(i 0),(i 0),(i 0),(i 0),(i 0),(i 0),(i 0),(i 0),(i 0),(i 0),(i 0),(i 0),(i 0),(i 0),(i 0),(i 0),(i 0),(i 0),(i 0),(i 0),(i 0),(i 0),(i 0),(i 0),(i 0),(i 0),(i 0),(i 0),(i 0),(i 0),(i 0),(i 0),(i 0),(i 0),(i 0),(i 0),(i 0),(i 0),(i 0),(i 0),(i 0),(i 0),(i 0),(i 0),(i 0),(i 0),(i 0),(i 0),(i 0),(i 0),(i 0),(i 0),(i 0),(i 0),(i 0),(i 0),(i 0),(i 0),(i 0),(i 0),(i 0),(i 0),(i 0),(i 0),(i 0),(i 0),(i 0),(i 0),(i 0),(i 0),(i 0),(i 0),(i 0),(i 0),(i 0),(i 0),(i 0),(i 0),(i 0),(i 0),(i 0),(i 0),(i 0),(i 0),(i 0),(i 0),(i 0),(i 0),(i 0),(i 0),(i 0),(i 0)])),(o 5 (.move (k 0)))]) L74s8),[(.cell 4 .true 173),(.t 5)],.true,.none,vO⟩
theorem lp74:LP 74 = some L74:=by kernel_rfl
def L75r0:List zh:=[(m 12 1),(oa 13 (c 105 [(t 11),(t 12)]) [0]),(o 5 (.alloc [.nilFunc,.nilFunc])),(ona (.store 2 (t 5) (t 7)) [7,6,0]),(oa 6 (.move (t 13)) [7,6,0])]
def L75r1:List zh:=[(f 19 1 5),(l 20 19),(m 21 0),(m 22 6),(oa 23 (.call (t 20) [(t 21),(t 22)]) [4]),(oa 24 (.build [(i 0),(i 0)] [(0,(1,(t 18))),(1,(1,(t 23)))]) [9,4]),(ona (.store 2 (t 4) (t 24)) [9,4])]
def L75s0:ze:=(.seq (.draw 7 ((f 14 0 5) :: (l 15 14) :: (m 16 0) :: (m 17 6) :: (o 18 (.call (t 15) [(t 16),(t 17)])) :: L75r1)) .ret)
def L75s1:ze:=(.seq (.draw 8 ((o 7 (c 104 [])) :: (m 8 0) :: (o 9 (.nilCheck (t 8))) :: (f 10 0 9) :: (g 11 3 10) :: L75r0)) L75s0)
def L75:zp:=⟨25,(.seq (.reg [(o 4 (.alloc [(i 0),(i 0)]))]) L75s1),[(.cell 4 .true 2)],.false,.none,vO⟩
theorem lp75:LP 75 = some L75:=by kernel_rfl
def L76r0:List zh:=[(m 12 1),(oa 13 (c 106 [(t 11),(t 12)]) [0]),(o 5 (.alloc [.nilFunc,.nilFunc])),(ona (.store 2 (t 5) (t 7)) [7,6,0]),(oa 6 (.move (t 13)) [7,6,0])]
def L76r1:List zh:=[(oa 24 (.call (t 21) [(t 22),(t 23)]) [4]),(oa 25 (.un .neg (t 24)) [10,4]),(oa 26 (.build [(i 0),(i 0)] [(0,(1,(t 19))),(1,(1,(t 25)))]) [10,4]),(ona (.store 2 (t 4) (t 26)) [10,4])]
def L76r2:List zh:=((oa 19 (.un .neg (t 18)) [4]) :: (f 20 0 5) :: (l 21 20) :: (m 22 0) :: (m 23 6) :: L76r1)
def L76s0:ze:=(.seq (.draw 8 ((f 14 1 5) :: (l 15 14) :: (m 16 0) :: (m 17 6) :: (o 18 (.call (t 15) [(t 16),(t 17)])) :: L76r2)) .ret)
def L76s1:ze:=(.seq (.draw 8 ((o 7 (c 104 [])) :: (m 8 0) :: (o 9 (.nilCheck (t 8))) :: (f 10 0 9) :: (g 11 3 10) :: L76r0)) L76s0)
def L76:zp:=⟨27,(.seq (.reg [(o 4 (.alloc [(i 0),(i 0)]))]) L76s1),[(.cell 4 .true 2)],.false,.none,vO⟩
theorem lp76:LP 76 = some L76:=by kernel_rfl
def L77r0:List zh:=[(og 10 (.load .false 1 (t 9)) 7 .true),(og 11 (.len .slice (t 10)) 7 .true),(og 12 (b .lss (t 8) (t 11)) 7 .true),(o 13 (.pick (t 7) (t 12) (.c (.bool .false)))),(m 4 13)]
def L77s0:ze:=(.seq (.reg ((m 5 1) :: (o 6 (b .leq (k 0) (t 5))) :: (m 7 6) :: (og 8 (.move (t 1)) 7 .true) :: (og 9 (.fieldAddr 0 (t 2)) 7 .true) :: L77r0)) .ret)
def L77:zp:=⟨14,(.seq (.reg [(o 2 (.box (t 0))),(o 4 (.move (.c (.bool .false))))]) L77s0),[(.t 4)],.false,.none,vO⟩
theorem lp77:LP 77 = some L77:=by kernel_rfl
def L80s0:ze:=(.reg [(o 8 (.alloc [(i 0),(i 0)])),(s 2 8 14)])
def L80r0:List zh:=[(og 20 (.load .false 1 (t 19)) 18 .true),(og 21 (.load .true 2 (t 8)) 18 .true),(og 22 (c 108 [(t 6),(t 20),(t 21)]) 18 .true),(og 23 (.un .not (t 22)) 18 .true),(o 24 (.pick (t 18) (t 23) (.c (.bool .false))))]
def L80s1:ze:=(.cond (t 24) (.seq (.reg [(o 25 (.build [(.slice .none 0 0),(i 0),(.slice .none 0 0),(i 0),(i 0),(i 0),(i 0),(i 0),(i 0),(i 0),(i 0),(i 0),(i 0),(i 0),(i 0),(i 0),(i 0),(i 0),(i 0),(i 0),(i 0),(i 0),(i 0),(i 0),(i 0),(i 0),(i 0),(i 0),(i 0),(i 0),(i 0),(i 0),(i 0),(i 0),(i 0),(i 0),(i 0),(i 0),(i 0),(i 0),(i 0),(i 0),(i 0),(i 0),(i 0),(i 0),(i 0),(i 0),(i 0),(i 0),(i 0),(i 0),(i 0),(i 0),(i 0),(i 0),(i 0),(i 0),(i 0),(i 0),(i 0),(i 0),(i 0),(i 0),(i 0),(i 0),(i 0),(i 0),(i 0),(i 0),(i 0),(i 0),(i 0),(i 0),(i 0),(i 0),(i 0),(i 0),(i 0),(i 0),(i 0),(i 0),(i 0),(i 0),(i 0),(i 0),(i 0),(i 0),(i 0),(i 0),(i 0),(i 0),(i 0),(i 0),(i 0),(i 0),(i 0),(i 0),(i 0),(i 0),(i 0),(i 0),(i 0),(i 0),(i 0),(i 0),(i 0),(i 0),(i 0),(i 0),(i 0),(i 0),(i 0),(i 0),(i 0),(i 0),(i 0),(i 0),(i 0),(i 0),(i 0),(i 0),(i 0),(i 0),(i 0),(i 0),(i 0),(i 0),(i 0),(i 0),(i 0),(i 0),(i 0),(i 0),(i 0),(i 0),(i 0),(i 0),(i 0),(i 0),(i 0),(i 0),(i 0),(i 0),(i 0),(i 0),(i 0),(i 0),(i 0),(i 0),(i 0),(i 0),(i 0),(i 0),(i 0),(i 0),(i 0),(i 0),(i 0),(i 0),(i 0),(i 0),(i 0),(i 0),(i 0),(i 0),(i 0),(i 0),(i 0),(i 0),(i 0),(i 0),(i 0)] [])),(s 173 4 25),(on (.store 1 (t 5) (.c (.bool .false))))]) .ret) .skip)
def L80s2:ze:=(.block 0 (.rangeFunc (t 12) [13,14] (.seq (.reg [(o 7 (.alloc [(i 0),(i 0)])),(s 2 7 13)]) L80s0) (.block 1 (.seq (.reg ((l 15 3) :: (g 16 2 8) :: (o 17 (.call (t 15) [(t 16)])) :: (m 18 17) :: (og 19 (.fieldAddr 0 (t 7)) 18 .true) :: L80r0)) L80s1))))
def L80s3:ze:=(.seq (.reg [(g 26 173 6),(s 173 4 26),(on (.store 1 (t 5) (.c (.bool .true))))]) .ret)
def L80s4:ze:=(.seq (.seq (.reg [(g 11 3 2),(o 12 (c 71 [(t 11)]))]) L80s2) L80s3)
def L80s5:ze:=(.seq (.reg [(g 9 3 2),(o 10 (c 107 [(t 9)])),(o 6 (.alloc [(.slice .none 0 0),(i 0),(.slice .none 0 0),(i 0),(i 0),(i 0),(i 0),(i 0),(i 0),(i 0),(i 0),(i 0),(i 0),(i 0),(i 0),(i 0),(i 0),(i 0),(i 0),(i 0),(i 0),(i 0),(i 0),(i 0),(i 0),(i 0),(i 0),(i 0),(i 0),(i 0),(i 0),(i 0),(i 0),(i 0),(i 0),(i 0),(i 0),(i 0),(i 0),(i 0),(i 0),(i 0),(i 0),(i 0),(i 0),(i 0),(i 0),(i 0),(i 0),(i 0),(i 0),(i 0),(i 0),(i 0),(i 0),(i 0),(i 0),(i 0),(i 0),(i 0),(i 0),(i 0),(i 0),(i 0),(i 0),(i 0),(i 0),(i 0),(i 0),(i 0),(i 0),(i 0),(i 0),(i 0),(i 0),(i 0),(i 0),(i 0),(i 0),(i 0),(i 0),(i 0),(i 0),(i 0),(i 0),(i 0),(i 0),(i 0),(i 0),(i 0),(i 0),(i 0),(i 0),(i 0),(i 0),(i 0),(i 0),(i 0),(i 0),(i 0),(i 0),(i 0),(i 0),(i 0),(i 0),(i 0),(i 0),(i 0),(i 0),(i 0),(i 0),(i 0),(i 0),(i 0),(i 0),(i 0),(i 0),(i 0),(i 0),(i 0),(i 0),(i 0),(i 0),(i 0),(i 0),(i 0),(i 0),(i 0),(i 0),(i 0),(i 0),(i 0),(i 0),(i 0),(i 0),(i 0),(i 0),(i 0),(i 0),(i 0),(i 0),(i 0),(i 0),(i 0),(i 0),(i 0),(i 0),(i 0),(i 0),(i 0),(i 0),(i 0),(i 0),(i 0),(i 0),(i 0),(i 0),(i 0),(i 0),(i 0),(i 0),(i 0),(i 0),(i 0),(i 0),(i 0),(i 0),(i 0),(i 0),(i 0),(i 0),(i 0),(i 0)])),(s 173 6 10)]) L80s4)
def L80:zp:=⟨27,(.seq (.reg [(o 2 (.box (t 0))),(o 3 (.box (t 1))),(o 4 (.alloc [(.slice .none 0 0),(i 0),(.slice .none 0 0),(i 0),(i 0),(i 0),(i 0),(i 0),(i 0),(i 0),(i 0),(i 0),(i 0),(i 0),(i 0),(i 0),(i 0),(i 0),(i 0),(i 0),(i 0),(i 0),(i 0),(i 0),(i 0),(i 0),(i 0),(i 0),(i 0),(i 0),(i 0),(i 0),(i 0),(i 0),(i 0),(i 0),(i 0),(i 0),(i 0),(i 0),(i 0),(i 0),(i 0),(i 0),(i 0),(i 0),(i 0),(i 0),(i 0),(i 0),(i 0),(i 0),(i 0),(i 0),(i 0),(i 0),(i 0),(i 0),(i 0),(i 0),(i 0),(i 0),(i 0),(i 0),(i 0),(i 0),(i 0),(i 0),(i 0),(i 0),(i 0),(i 0),(i 0),(i 0),(i 0),(i 0),(i 0),(i 0),(i 0),(i 0),(i 0),(i 0),(i 0),(i 0),(i 0),(i 0),(i 0),(i 0),(i 0),(i 0),(i 0),(i 0),(i 0),(i 0),(i 0),(i 0),(i 0),(i 0),(i 0),(i 0),(i 0),(i 0),(i 0),(i 0),(i 0),(i 0),(i 0),(i 0),(i 0),(i 0),(i 0),(i 0),(i 0),(i 0),(i 0),(i 0),(i 0),(i 0),(i 0),(i 0),(i 0),(i 0),(i 0),(i 0),(i 0),(i 0),(i 0),(i 0),(i 0),(i 0),(i 0),(i 0),(i 0),(i 0),(i 0),(i 0),(i 0),(i 0),(i 0),(i 0),(i 0),(i 0),(i 0),(i 0),(i 0),(i 0),(i 0),(i 0),(i 0),(i 0),(i 0),(i 0),(i 0),(i 0),(i 0),(i 0),(i 0),(i 0),(i 0),(i 0),(i 0),(i 0),(i 0),(i 0),(i 0),(i 0),(i 0),(i 0),(i 0),(i 0),(i 0),(i 0),(i 0)])),(o 5 (.alloc [(.bool .false)]))]) L80s5),[(.cell 4 .true 173),(.cell 5 .false 1)],.true,.none,vO⟩
theorem lp80:LP 80 = some L80:=by kernel_rfl
def L81:zp:=⟨3,(.seq (.reg [(o 1 (.box (t 0))),(o 2 (.move (.c (.bool .false))))]) (.seq (.reg [(o 2 (.move (.c (.bool .true))))]) .ret)),[(.t 2)],.false,.none,vO⟩
theorem lp81:LP 81 = some L81:=by kernel_rfl
def L90r0:List zh:=[(og 17 (b .leq (t 15) (t 16)) 13 .true),(o 18 (.pick (t 13) (t 17) (.c (.bool .false)))),(m 6 18)]
def L90r1:List zh:=((o 12 (c 32 [(t 8),(t 9),(t 11)])) :: (m 13 12) :: (og 14 (.fieldAddr 1 (t 3)) 13 .true) :: (og 15 (.load .false 1 (t 14)) 13 .true) :: (og 16 (.move (t 2)) 13 .true) :: L90r0)
def L90s0:ze:=(.seq (.reg ((f 7 0 3) :: (l 8 7) :: (m 9 1) :: (f 10 1 3) :: (l 11 10) :: L90r1)) .ret)
def L90:zp:=⟨19,(.seq (.reg [(o 3 (.box (t 0))),(o 6 (.move (.c (.bool .false))))]) L90s0),[(.t 6)],.false,.none,vO⟩
theorem lp90:LP 90 = some L90:=by kernel_rfl
def L98s0:ze:=(.cond (t 16) (.seq (.reg [(o 4 (.move (.c (.bool .false))))]) .ret) .skip)
def L98s1:ze:=(.seq (.reg [(m 13 1),(g 14 2 6),(o 15 (.call (t 13) [(t 14)])),(o 16 (.un .not (t 15)))]) L98s0)
def L98s2:ze:=(.reg [(o 17 (b .add (t 9) (k 1))),(m 9 17)])
def L98s3:ze:=(.seq (.block 1 (.seq (.reg [(o 11 (.indexAddrS 2 (t 7) (t 9))),(g 12 2 11),(o 6 (.alloc [(i 0),(i 0)])),(s 2 6 12)]) L98s1)) L98s2)
def L98w0:ze:=(.seq (.reg [(o 10 (b .lss (t 9) (t 8)))]) (.seq (.cond (t 10) .skip (.exit 0)) L98s3))
def L98s4:ze:=(.seq (.seq (.reg [(m 7 0),(o 8 (.len .slice (t 7))),(o 9 (.move (k 0)))]) (.block 0 (.loop L98w0))) (.seq (.reg [(o 4 (.move (.c (.bool .true))))]) .ret))
def L98:zp:=⟨18,(.seq (.reg [(o 4 (.move (.c (.bool .false))))]) L98s4),[(.t 4)],.false,.none,vO⟩
theorem lp98:LP 98 = some L98:=by kernel_rfl
def L99s0:ze:=(.seq (.reg [(g 3 2 1),(o 4 (c 123 [(t 3),(.c (.int .i64 (-100))),(k 100)])),(m 2 4)]) .ret)
def L99:zp:=⟨5,(.seq (.reg [(o 1 (.box (t 0))),(o 2 (.move (.c (.bool .false))))]) L99s0),[(.t 2)],.false,.none,vO⟩
theorem lp99:LP 99 = some L99:=by kernel_rfl
def L100s0:ze:=(.cond (t 16) (.seq (.reg [(o 4 (.move (.c (.bool .false))))]) .ret) .skip)
def L100s1:ze:=(.seq (.reg [(m 13 1),(g 14 3 6),(o 15 (.call (t 13) [(t 14)])),(o 16 (.un .not (t 15)))]) L100s0)
def L100s2:ze:=(.reg [(o 17 (b .add (t 9) (k 1))),(m 9 17)])
def L100s3:ze:=(.seq (.block 1 (.seq (.reg [(o 11 (.indexAddrS 3 (t 7) (t 9))),(g 12 3 11),(o 6 (.alloc [(i 0),(i 0),(.slice .none 0 0)])),(s 3 6 12)]) L100s1)) L100s2)
def L100w0:ze:=(.seq (.reg [(o 10 (b .lss (t 9) (t 8)))]) (.seq (.cond (t 10) .skip (.exit 0)) L100s3))
def L100s4:ze:=(.seq (.seq (.reg [(m 7 0),(o 8 (.len .slice (t 7))),(o 9 (.move (k 0)))]) (.block 0 (.loop L100w0))) (.seq (.reg [(o 4 (.move (.c (.bool .true))))]) .ret))
def L100:zp:=⟨18,(.seq (.reg [(o 4 (.move (.c (.bool .false))))]) L100s4),[(.t 4)],.false,.none,vO⟩
theorem lp100:LP 100 = some L100:=by kernel_rfl
def L101r0:List zh:=[(m 15 14),(og 16 (.load .true 3 (t 3)) 15 .true),(og 17 (c 126 [(t 16)]) 15 .true),(o 18 (.pick (t 15) (t 17) (.c (.bool .false)))),(m 4 18)]
def L101r1:List zh:=((og 10 (.load .false 1 (t 9)) 8 .true) :: (og 11 (.load .true 3 (t 2)) 8 .true) :: (og 12 (.makeFunc 125 [(t 11)] []) 8 .true) :: (og 13 (c 124 [(t 10),(t 12)]) 8 .true) :: (o 14 (.pick (t 8) (t 13) (.c (.bool .false)))) :: L101r0)
def L101s0:ze:=(.seq (.reg ((f 5 0 3) :: (g 6 2 5) :: (o 7 (c 113 [(t 6)])) :: (m 8 7) :: (og 9 (.fieldAddr 2 (t 3)) 8 .true) :: L101r1)) .ret)
def L101:zp:=⟨19,(.seq (.reg [(o 2 (.box (t 0))),(o 3 (.box (t 1))),(o 4 (.move (.c (.bool .false))))]) L101s0),[(.t 4)],.false,.none,vO⟩
theorem lp101:LP 101 = some L101:=by kernel_rfl
def L103s0:ze:=(.seq (.reg [(m 23 0),(m 24 3),(m 25 5),(o 26 (.build [(i 0),(i 0)] [(0,(1,(t 24))),(1,(1,(t 25)))])),(g 27 2 6),(o 28 (.call (t 23) [(t 26),(t 27)])),(o 29 (.un .not (t 28)))]) (.cond (t 29) .ret .skip))
def L103s1:ze:=(.reg [(o 30 (b .add (t 18) (k 1))),(m 18 30)])
def L103s2:ze:=(.seq (.block 3 (.seq (.reg [(m 20 18),(o 21 (.indexAddrS 2 (t 16) (t 18))),(g 22 2 21),(o 6 (.alloc [(i 0),(i 0)])),(m 5 20),(s 2 6 22)]) L103s0)) L103s1)
def L103w0:ze:=(.seq (.reg [(o 19 (b .lss (t 18) (t 17)))]) (.seq (.cond (t 19) .skip (.exit 2)) L103s2))
def L103s3:ze:=(.seq (.reg [(f 15 2 4),(l 16 15),(o 17 (.len .slice (t 16))),(o 18 (.move (k 0)))]) (.block 2 (.loop L103w0)))
def L103s4:ze:=(.reg [(o 31 (b .add (t 10) (k 1))),(m 10 31)])
def L103s5:ze:=(.seq (.block 1 (.seq (.reg [(m 12 10),(o 13 (.indexAddrS 3 (t 8) (t 10))),(g 14 3 13),(o 4 (.alloc [(i 0),(i 0),(.slice .none 0 0)])),(m 3 12),(s 3 4 14)]) L103s3)) L103s4)
def L103w1:ze:=(.seq (.reg [(o 11 (b .lss (t 10) (t 9)))]) (.seq (.cond (t 11) .skip (.exit 0)) L103s5))
def L103:zp:=⟨32,(.seq (.reg [(f 7 2 1),(l 8 7),(o 9 (.len .slice (t 8))),(o 10 (.move (k 0)))]) (.block 0 (.loop L103w1))),[],.true,.none,vO⟩
theorem lp103:LP 103 = some L103:=by kernel_rfl
def L104s0:ze:=(.seq (.reg [(o 1 (.move (.c (.via 165 "Lowest" 127)))),(o 2 (.move (.c (.via 165 "Highest" 128)))),(o 3 (.build [.nilFunc,.nilFunc] [(0,(1,(t 1))),(1,(1,(t 2)))])),(s 2 0 3)]) .ret)
def L104:zp:=⟨4,(.seq (.reg [(o 0 (.alloc [.nilFunc,.nilFunc]))]) L104s0),[(.cell 0 .true 2)],.false,.none,vO⟩
theorem lp104:LP 104 = some L104:=by kernel_rfl
def L105s0:ze:=(.seq (.reg [(m 5 1),(o 6 (b .add (k 1) (t 5))),(m 4 6)]) .ret)
def L105:zp:=⟨7,(.seq (.reg [(o 2 (.box (t 0))),(o 4 (.move (k 0)))]) L105s0),[(.t 4)],.false,.none,vO⟩
theorem lp105:LP 105 = some L105:=by kernel_rfl
def L106s0:ze:=(.seq (.reg [(f 5 0 2),(l 6 5),(o 7 (.len .slice (t 6))),(o 8 (b .add (k 1) (t 7))),(m 9 1),(o 10 (b .add (t 8) (t 9))),(m 4 10)]) .ret)
def L106:zp:=⟨11,(.seq (.reg [(o 2 (.box (t 0))),(o 4 (.move (k 0)))]) L106s0),[(.t 4)],.false,.none,vO⟩
theorem lp106:LP 106 = some L106:=by kernel_rfl
def L107r0:List zh:=[(o 33 (.buildSlice 1 [(i 0),(i 0)] [(0,(2,(t 32)))])),(o 34 (.append 2 16 (t 23) (t 33))),(m 3 34)]
def L107r1:List zh:=((f 28 0 5) :: (f 29 0 28) :: (l 30 29) :: (o 31 (.un .neg (t 30))) :: (o 32 (.build [(i 0),(i 0)] [(0,(1,(t 27))),(1,(1,(t 31)))])) :: L107r0)
def L107s0:ze:=(.reg ((m 23 3) :: (f 24 0 5) :: (f 25 1 24) :: (l 26 25) :: (o 27 (.un .neg (t 26))) :: L107r1))
def L107s1:ze:=(.reg [(o 35 (b .add (t 19) (k 1))),(m 19 35)])
def L107s2:ze:=(.seq (.block 1 (.seq (.reg [(o 21 (.indexAddrS 3 (t 17) (t 19))),(g 22 3 21),(o 5 (.alloc [(i 0),(i 0),(.slice .none 0 0)])),(s 3 5 22)]) L107s0)) L107s1)
def L107w2:ze:=(.seq (.reg [(o 20 (b .lss (t 19) (t 18)))]) (.seq (.cond (t 20) .skip (.exit 0)) L107s2))
def L107r2:List zh:=[(l 63 62),(o 64 (b .sub (t 61) (t 63))),(f 65 3 6),(f 66 1 65),(o 67 (.indexAddrA 13 13 (t 66) (t 58))),(o 68 (.indexAddrA 13 1 (t 67) (t 59))),(s 1 68 64)]
def L107s3:ze:=(.cond (t 57) (.draw 0 ((m 58 7) :: (m 59 9) :: (f 60 1 10) :: (l 61 60) :: (f 62 0 8) :: L107r2)) .skip)
def L107s4:ze:=(.seq (.reg [(m 55 7),(m 56 9),(o 57 (.eq (.cell (.i .i64)) .true (t 55) (t 56)))]) L107s3)
def L107s5:ze:=(.reg [(o 69 (b .add (t 50) (k 1))),(m 50 69)])
def L107s6:ze:=(.seq (.block 5 (.seq (.reg [(m 52 50),(o 53 (.indexAddrS 2 (t 48) (t 50))),(g 54 2 53),(o 10 (.alloc [(i 0),(i 0)])),(m 9 52),(s 2 10 54)]) L107s4)) L107s5)
def L107w0:ze:=(.seq (.reg [(o 51 (b .lss (t 50) (t 49)))]) (.seq (.cond (t 51) .skip (.exit 4)) L107s6))
def L107s7:ze:=(.seq (.reg [(m 48 3),(o 49 (.len .slice (t 48))),(o 50 (.move (k 0)))]) (.block 4 (.loop L107w0)))
def L107s8:ze:=(.reg [(o 70 (b .add (t 43) (k 1))),(m 43 70)])
def L107s9:ze:=(.seq (.block 3 (.seq (.reg [(m 45 43),(o 46 (.indexAddrS 2 (t 41) (t 43))),(g 47 2 46),(o 8 (.alloc [(i 0),(i 0)])),(m 7 45),(s 2 8 47)]) L107s7)) L107s8)
def L107w1:ze:=(.seq (.reg [(o 44 (b .lss (t 43) (t 42)))]) (.seq (.cond (t 44) .skip (.exit 2)) L107s9))
def L107s10:ze:=(.seq (.reg [(g 71 173 6),(s 173 2 71)]) .ret)
def L107s11:ze:=(.seq (.seq (.reg [(m 41 3),(o 42 (.len .slice (t 41))),(o 43 (.move (k 0)))]) (.block 2 (.loop L107w1))) L107s10)
def L107s12:ze:=(.seq (.reg [(g 36 3 1),(m 37 3),(o 38 (.len .slice (t 37))),(o 39 (.build (Zr 170) [(0,(1,(t 38)))])),(o 40 (.build [(.slice .none 0 0),(i 0),(.slice .none 0 0),(i 0),(i 0),(i 0),(i 0),(i 0),(i 0),(i 0),(i 0),(i 0),(i 0),(i 0),(i 0),(i 0),(i 0),(i 0),(i 0),(i 0),(i 0),(i 0),(i 0),(i 0),(i 0),(i 0),(i 0),(i 0),(i 0),(i 0),(i 0),(i 0),(i 0),(i 0),(i 0),(i 0),(i 0),(i 0),(i 0),(i 0),(i 0),(i 0),(i 0),(i 0),(i 0),(i 0),(i 0),(i 0),(i 0),(i 0),(i 0),(i 0),(i 0),(i 0),(i 0),(i 0),(i 0),(i 0),(i 0),(i 0),(i 0),(i 0),(i 0),(i 0),(i 0),(i 0),(i 0),(i 0),(i 0),(i 0),(i 0),(i 0),(i 0),(i 0),(i 0),(i 0),(i 0),(i 0),(i 0),(i 0),(i 0),(i 0),(i 0),(i 0),(i 0),(i 0),(i 0),(i 0),(i 0),(i 0),(i 0),(i 0),(i 0),(i 0),(i 0),(i 0),(i 0),(i 0),(i 0),(i 0),(i 0),(i 0),(i 0),(i 0),(i 0),(i 0),(i 0),(i 0),(i 0),(i 0),(i 0),(i 0),(i 0),(i 0),(i 0),(i 0),(i 0),(i 0),(i 0),(i 0),(i 0),(i 0),(i 0),(i 0),(i 0),(i 0),(i 0),(i 0),(i 0),(i 0),(i 0),(i 0),(i 0),(i 0),(i 0),(i 0),(i 0),(i 0),(i 0),(i 0),(i 0),(i 0),(i 0),(i 0),(i 0),(i 0),(i 0),(i 0),(i 0),(i 0),(i 0),(i 0),(i 0),(i 0),(i 0),(i 0),(i 0),(i 0),(i 0),(i 0),(i 0),(i 0),(i 0),(i 0),(i 0),(i 0),(i 0),(i 0),(i 0),(i 0),(i 0),(i 0),(i 0)] [(0,(3,(t 36))),(3,(170,(t 39)))])),(o 6 (.alloc [(.slice .none 0 0),(i 0),(.slice .none 0 0),(i 0),(i 0),(i 0),(i 0),(i 0),(i 0),(i 0),(i 0),(i 0),(i 0),(i 0),(i 0),(i 0),(i 0),(i 0),(i 0),(i 0),(i 0),(i 0),(i 0),(i 0),(i 0),(i 0),(i 0),(i 0),(i 0),(i 0),(i 0),(i 0),(i 0),(i 0),(i 0),(i 0),(i 0),(i 0),(i 0),(i 0),(i 0),(i 0),(i 0),(i 0),(i 0),(i 0),(i 0),(i 0),(i 0),(i 0),(i 0),(i 0),(i 0),(i 0),(i 0),(i 0),(i 0),(i 0),(i 0),(i 0),(i 0),(i 0),(i 0),(i 0),(i 0),(i 0),(i 0),(i 0),(i 0),(i 0),(i 0),(i 0),(i 0),(i 0),(i 0),(i 0),(i 0),(i 0),(i 0),(i 0),(i 0),(i 0),(i 0),(i 0),(i 0),(i 0),(i 0),(i 0),(i 0),(i 0),(i 0),(i 0),(i 0),(i 0),(i 0),(i 0),(i 0),(i 0),(i 0),(i 0),(i 0),(i 0),(i 0),(i 0),(i 0),(i 0),(i 0),(i 0),(i 0),(i 0),(i 0),(i 0),(i 0),(i 0),(i 0),(i 0),(i 0),(i 0),(i 0),(i 0),(i 0),(i 0),(i 0),(i 0),(i 0),(i 0),(i 0),(i 0),(i 0),(i 0),(i 0),(i 0),(i 0),(i 0),(i 0),(i 0),(i 0),(i 0),(i 0),(i 0),(i 0),(i 0),(i 0),(i 0),(i 0),(i 0),(i 0),(i 0),(i 0),(i 0),(i 0),(i 0),(i 0),(i 0),(i 0),(i 0),(i 0),(i 0),(i 0),(i 0),(i 0),(i 0),(i 0),(i 0),(i 0),(i 0),(i 0),(i 0),(i 0),(i 0),(i 0),(i 0),(i 0)])),(s 173 6 40)]) L107s11)
def L107s13:ze:=(.seq (.seq (.reg [(f 16 2 1),(l 17 16),(o 18 (.len .slice (t 17))),(o 19 (.move (k 0)))]) (.block 0 (.loop L107w2))) L107s12)
def L107s14:ze:=(.seq (.reg [(o 11 (.build [(i 0),(i 0)] [])),(o 12 (.buildSlice 1 [(i 0),(i 0)] [(0,(2,(t 11)))])),(f 13 0 1),(l 14 13),(o 15 (.append 2 16 (t 12) (t 14))),(m 3 15)]) L107s13)
def L107:zp:=⟨72,(.seq (.reg [(o 1 (.box (t 0))),(o 2 (.alloc [(.slice .none 0 0),(i 0),(.slice .none 0 0),(i 0),(i 0),(i 0),(i 0),(i 0),(i 0),(i 0),(i 0),(i 0),(i 0),(i 0),(i 0),(i 0),(i 0),(i 0),(i 0),(i 0),(i 0),(i 0),(i 0),(i 0),(i 0),(i 0),(i 0),(i 0),(i 0),(i 0),(i 0),(i 0),(i 0),(i 0),(i 0),(i 0),(i 0),(i 0),(i 0),(i 0),(i 0),(i 0),(i 0),(i 0),(i 0),(i 0),(i 0),(i 0),(i 0),(i 0),(i 0),(i 0),(i 0),(i 0),(i 0),(i 0),(i 0),(i 0),(i 0),(i 0),(i 0),(i 0),(i 0),(i 0),(i 0),(i 0),(i 0),(i 0),(i 0),(i 0),(i 0),(i 0),(i 0),(i 0),(i 0),(i 0),(i 0),(i 0),(i 0),(i 0),(i 0),(i 0),(i 0),(i 0),(i 0),(i 0),(i 0),(i 0),(i 0),(i 0),(i 0),(i 0),(i 0),(i 0),(i 0),(i 0),(i 0),(i 0),(i 0),(i 0),(i 0),(i 0),(i 0),(i 0),(i 0),(i 0),(i 0),(i 0),(i 0),(i 0),(i 0),(i 0),(i 0),(i 0),(i 0),(i 0),(i 0),(i 0),(i 0),(i 0),(i 0),(i 0),(i 0),(i 0),(i 0),(i 0),(i 0),(i 0),(i 0),(i 0),(i 0),(i 0),(i 0),(i 0),(i 0),(i 0),(i 0),(i 0),(i 0),(i 0),(i 0),(i 0),(i 0),(i 0),(i 0),(i 0),(i 0),(i 0),(i 0),(i 0),(i 0),(i 0),(i 0),(i 0),(i 0),(i 0),(i 0),(i 0),(i 0),(i 0),(i 0),(i 0),(i 0),(i 0),(i 0),(i 0),(i 0),(i 0),(i 0),(i 0),(i 0),(i 0),(i 0)]))]) L107s14),[(.cell 2 .true 173)],.true,.none,vO⟩
theorem lp107:LP 107 = some L107:=by kernel_rfl
def L108r0:List zh:=[(f 19 0 5),(l 20 19),(oa 21 (c 105 [(t 18),(t 20)]) [5]),(oa 7 (.move (t 14)) [12,5]),(oa 8 (.move (t 21)) [12,5])]
def L108r1:List zh:=((o 14 (c 106 [(t 12),(t 13)])) :: (m 15 0) :: (o 16 (.nilCheck (t 15))) :: (f 17 0 16) :: (g 18 3 17) :: L108r0)
def L108r2:List zh:=[(oga 47 (.fieldAddr 1 (t 5)) 36 .true [13]),(oga 48 (.load .false 1 (t 47)) 36 .true [13]),(oga 49 (b .sub (t 46) (t 48)) 36 .true [13]),(oga 50 (c 129 [(t 39),(t 40),(t 41),(t 49)]) 36 .true [13]),(oa 51 (.pick (t 36) (t 50) (.c (.bool .false))) [28,13]),(oa 6 (.move (t 51)) [28,13])]
def L108r3:List zh:=((oga 42 (.move (t 0)) 36 .true [13]) :: (oga 43 (.nilCheck (t 42)) 36 .true [13]) :: (oga 44 (.fieldAddr 0 (t 43)) 36 .true [13]) :: (oga 45 (.fieldAddr 1 (t 44)) 36 .true [13]) :: (oga 46 (.load .false 1 (t 45)) 36 .true [13]) :: L108r2)
def L108r4:List zh:=((oga 37 (.move (t 0)) 36 .true [13]) :: (oga 38 (.nilCheck (t 37)) 36 .true [13]) :: (oga 39 (.fieldAddr 3 (t 38)) 36 .true [13]) :: (oga 40 (.move (t 8)) 36 .true [13]) :: (oga 41 (.move (t 7)) 36 .true [13]) :: L108r3)
def L108r5:List zh:=((f 32 1 31) :: (l 33 32) :: (o 34 (b .add (t 28) (t 33))) :: (o 35 (c 129 [(t 24),(t 25),(t 26),(t 34)])) :: (oa 36 (.move (t 35)) [13]) :: L108r4)
def L108r6:List zh:=((f 27 1 5) :: (l 28 27) :: (m 29 0) :: (o 30 (.nilCheck (t 29))) :: (f 31 0 30) :: L108r5)
def L108s0:ze:=(.seq (.draw 0 ((m 22 0) :: (o 23 (.nilCheck (t 22))) :: (f 24 3 23) :: (m 25 7) :: (m 26 8) :: L108r6)) .ret)
def L108s1:ze:=(.seq (.draw 12 ((m 9 0) :: (o 10 (.nilCheck (t 9))) :: (f 11 0 10) :: (g 12 3 11) :: (m 13 1) :: L108r1)) L108s0)
def L108:zp:=⟨52,(.seq (.reg [(o 5 (.box (t 2))),(o 6 (.move (.c (.bool .false))))]) L108s1),[(.t 6)],.true,.none,vO⟩
theorem lp108:LP 108 = some L108:=by kernel_rfl
def L113s0:ze:=(.seq (.reg [(g 3 2 1),(o 4 (c 123 [(t 3),(k 0),(k 1000)])),(m 2 4)]) .ret)
def L113:zp:=⟨5,(.seq (.reg [(o 1 (.box (t 0))),(o 2 (.move (.c (.bool .false))))]) L113s0),[(.t 2)],.false,.none,vO⟩
theorem lp113:LP 113 = some L113:=by kernel_rfl
def L123r0:List zh:=[(og 22 (b .leq (t 20) (t 21)) 18 .true),(o 23 (.pick (t 18) (t 22) (.c (.bool .false)))),(m 6 23)]
def L123r1:List zh:=((o 17 (.pick (t 11) (t 16) (.c (.bool .false)))) :: (m 18 17) :: (og 19 (.fieldAddr 1 (t 3)) 18 .true) :: (og 20 (.load .false 1 (t 19)) 18 .true) :: (og 21 (.move (t 2)) 18 .true) :: L123r0)
def L123r2:List zh:=((og 12 (.fieldAddr 0 (t 3)) 11 .true) :: (og 13 (.load .false 1 (t 12)) 11 .true) :: (og 14 (.fieldAddr 1 (t 3)) 11 .true) :: (og 15 (.load .false 1 (t 14)) 11 .true) :: (og 16 (b .leq (t 13) (t 15)) 11 .true) :: L123r1)
def L123s0:ze:=(.seq (.reg ((m 7 1) :: (f 8 0 3) :: (l 9 8) :: (o 10 (b .leq (t 7) (t 9))) :: (m 11 10) :: L123r2)) .ret)
def L123:zp:=⟨24,(.seq (.reg [(o 3 (.box (t 0))),(o 6 (.move (.c (.bool .false))))]) L123s0),[(.t 6)],.false,.none,vO⟩
theorem lp123:LP 123 = some L123:=by kernel_rfl
def L124s0:ze:=(.cond (t 16) (.seq (.reg [(o 4 (.move (.c (.bool .false))))]) .ret) .skip)
def L124s1:ze:=(.seq (.reg [(m 13 1),(g 14 2 6),(o 15 (.call (t 13) [(t 14)])),(o 16 (.un .not (t 15)))]) L124s0)
def L124s2:ze:=(.reg [(o 17 (b .add (t 9) (k 1))),(m 9 17)])
def L124s3:ze:=(.seq (.block 1 (.seq (.reg [(o 11 (.indexAddrS 2 (t 7) (t 9))),(g 12 2 11),(o 6 (.alloc [(i 0),(i 0)])),(s 2 6 12)]) L124s1)) L124s2)
def L124w0:ze:=(.seq (.reg [(o 10 (b .lss (t 9) (t 8)))]) (.seq (.cond (t 10) .skip (.exit 0)) L124s3))
def L124s4:ze:=(.seq (.seq (.reg [(m 7 0),(o 8 (.len .slice (t 7))),(o 9 (.move (k 0)))]) (.block 0 (.loop L124w0))) (.seq (.reg [(o 4 (.move (.c (.bool .true))))]) .ret))
def L124:zp:=⟨18,(.seq (.reg [(o 4 (.move (.c (.bool .false))))]) L124s4),[(.t 4)],.false,.none,vO⟩
theorem lp124:LP 124 = some L124:=by kernel_rfl
def L125r0:List zh:=[(og 15 (.fieldAddr 1 (t 3)) 14 .true),(og 16 (.load .false 1 (t 15)) 14 .true),(og 17 (b .leq (t 16) (k 2000)) 14 .true),(o 18 (.pick (t 14) (t 17) (.c (.bool .false)))),(m 4 18)]
def L125r1:List zh:=((og 10 (.fieldAddr 1 (t 3)) 9 .true) :: (og 11 (.load .false 1 (t 10)) 9 .true) :: (og 12 (b .leq (.c (.int .i64 (-1000))) (t 11)) 9 .true) :: (o 13 (.pick (t 9) (t 12) (.c (.bool .false)))) :: (m 14 13) :: L125r0)
def L125s0:ze:=(.seq (.reg ((g 5 3 2) :: (f 6 0 3) :: (l 7 6) :: (o 8 (c 77 [(t 5),(t 7)])) :: (m 9 8) :: L125r1)) .ret)
def L125:zp:=⟨19,(.seq (.reg [(o 2 (.box (t 0))),(o 3 (.box (t 1))),(o 4 (.move (.c (.bool .false))))]) L125s0),[(.t 4)],.false,.none,vO⟩
theorem lp125:LP 125 = some L125:=by kernel_rfl
def L126s0:ze:=(.cond (t 17) (.seq (.reg [(o 2 (.move (.c (.bool .false))))]) .ret) .skip)
def L126s1:ze:=(.reg [(m 18 3),(f 19 0 5),(l 20 19),(on (.mapUpdate (.cell (.i .i64)) (t 18) (t 20) (.c (.bool .true))))])
def L126s2:ze:=(.seq (.seq (.reg [(m 14 3),(f 15 0 5),(l 16 15),(o 17 (.lookup (.cell (.i .i64)) (.bool .false) .false (t 14) (t 16)))]) L126s0) L126s1)
def L126s3:ze:=(.reg [(o 21 (b .add (t 10) (k 1))),(m 10 21)])
def L126s4:ze:=(.seq (.block 1 (.seq (.reg [(o 12 (.indexAddrS 2 (t 8) (t 10))),(g 13 2 12),(o 5 (.alloc [(i 0),(i 0)])),(s 2 5 13)]) L126s2)) L126s3)
def L126w0:ze:=(.seq (.reg [(o 11 (b .lss (t 10) (t 9)))]) (.seq (.cond (t 11) .skip (.exit 0)) L126s4))
def L126s5:ze:=(.seq (.seq (.reg [(f 7 2 1),(l 8 7),(o 9 (.len .slice (t 8))),(o 10 (.move (k 0)))]) (.block 0 (.loop L126w0))) (.seq (.reg [(o 2 (.move (.c (.bool .true))))]) .ret))
def L126:zp:=⟨22,(.seq (.reg [(o 1 (.box (t 0))),(o 2 (.move (.c (.bool .false))))]) (.seq (.reg [(o 6 .makeMap),(m 3 6)]) L126s5)),[(.t 2)],.false,.none,vO⟩
theorem lp126:LP 126 = some L126:=by kernel_rfl
def L127r0:List zh:=[(o 10 (.indexAddrA 13 1 (t 9) (k 0))),(l 11 10),(o 12 (.un .neg (t 11))),(m 4 12)]
def L127s0:ze:=(.seq (.reg ((m 5 0) :: (m 6 1) :: (o 7 (.nilCheck (t 5))) :: (f 8 1 7) :: (o 9 (.indexAddrA 13 13 (t 8) (t 6))) :: L127r0)) .ret)
def L127:zp:=⟨13,(.seq (.reg [(o 4 (.move (k 0)))]) L127s0),[(.t 4)],.false,.none,vO⟩
theorem lp127:LP 127 = some L127:=by kernel_rfl
def L128r0:List zh:=[(o 10 (.indexAddrA 13 1 (t 9) (t 6))),(l 11 10),(m 4 11)]
def L128s0:ze:=(.seq (.reg ((m 5 0) :: (m 6 1) :: (o 7 (.nilCheck (t 5))) :: (f 8 1 7) :: (o 9 (.indexAddrA 13 13 (t 8) (k 0))) :: L128r0)) .ret)
def L128:zp:=⟨12,(.seq (.reg [(o 4 (.move (k 0)))]) L128s0),[(.t 4)],.false,.none,vO⟩
theorem lp128:LP 128 = some L128:=by kernel_rfl
def L129s0:ze:=(.cond (t 18) (.seq (.reg [(o 8 (.move (.c (.bool .false))))]) .ret) .skip)
def L129r0:List zh:=[(o 31 (.indexAddrA 13 13 (t 30) (t 27))),(o 32 (.indexAddrA 13 1 (t 31) (t 28))),(l 33 32),(m 34 3),(o 35 (b .add (t 33) (t 34))),(m 10 35)]
def L129r1:List zh:=[(f 41 1 40),(o 42 (.indexAddrA 13 13 (t 41) (t 38))),(o 43 (.indexAddrA 13 1 (t 42) (t 39))),(l 44 43),(o 45 (b .geq (t 36) (t 44)))]
def L129r2:List zh:=[(f 58 1 57),(o 59 (.indexAddrA 13 13 (t 58) (t 55))),(o 60 (.indexAddrA 13 1 (t 59) (t 56))),(l 61 60),(o 62 (b .add (t 53) (t 61))),(m 12 62)]
def L129r3:List zh:=[(f 68 1 67),(o 69 (.indexAddrA 13 13 (t 68) (t 65))),(o 70 (.indexAddrA 13 1 (t 69) (t 66))),(l 71 70),(o 72 (b .lss (t 63) (t 71)))]
def L129r4:List zh:=[(f 78 1 77),(o 79 (.indexAddrA 13 13 (t 78) (t 74))),(o 80 (.indexAddrA 13 1 (t 79) (t 75))),(s 1 80 76)]
def L129s1:ze:=(.cond (t 72) (.reg ((m 73 0) :: (m 74 9) :: (m 75 11) :: (m 76 12) :: (o 77 (.nilCheck (t 73))) :: L129r4)) .skip)
def L129s2:ze:=(.seq (.reg ((m 63 12) :: (m 64 0) :: (m 65 9) :: (m 66 11) :: (o 67 (.nilCheck (t 64))) :: L129r3)) L129s1)
def L129s3:ze:=(.seq (.reg ((m 53 10) :: (m 54 0) :: (m 55 2) :: (m 56 11) :: (o 57 (.nilCheck (t 54))) :: L129r2)) L129s2)
def L129s4:ze:=(.reg [(o 81 (b .add (t 50) (k 1))),(m 50 81)])
def L129s5:ze:=(.seq (.block 3 (.seq (.reg [(m 52 50),(m 11 52)]) L129s3)) L129s4)
def L129w0:ze:=(.seq (.reg [(o 51 (b .lss (t 50) (t 49)))]) (.seq (.cond (t 51) .skip (.exit 2)) L129s5))
def L129s6:ze:=(.seq (.reg [(m 46 0),(o 47 (.nilCheck (t 46))),(f 48 0 47),(l 49 48),(o 50 (.move (k 0)))]) (.block 2 (.loop L129w0)))
def L129s7:ze:=(.seq (.seq (.reg ((m 36 10) :: (m 37 0) :: (m 38 9) :: (m 39 2) :: (o 40 (.nilCheck (t 37))) :: L129r1)) (.cond (t 45) (.exit 1) .skip)) L129s6)
def L129s8:ze:=(.seq (.reg ((m 26 0) :: (m 27 9) :: (m 28 1) :: (o 29 (.nilCheck (t 26))) :: (f 30 1 29) :: L129r0)) L129s7)
def L129s9:ze:=(.reg [(o 82 (b .add (t 23) (k 1))),(m 23 82)])
def L129s10:ze:=(.seq (.block 1 (.seq (.reg [(m 25 23),(m 9 25)]) L129s8)) L129s9)
def L129w1:ze:=(.seq (.reg [(o 24 (b .lss (t 23) (t 22)))]) (.seq (.cond (t 24) .skip (.exit 0)) L129s10))
def L129s11:ze:=(.seq (.seq (.reg [(m 19 0),(o 20 (.nilCheck (t 19))),(f 21 0 20),(l 22 21),(o 23 (.move (k 0)))]) (.block 0 (.loop L129w1))) (.seq (.reg [(o 8 (.move (.c (.bool .true))))]) .ret))
def L129s12:ze:=(.seq (.seq (.reg [(m 13 0),(m 14 1),(m 15 2),(m 16 3),(o 17 (c 134 [(t 13),(t 14),(t 15),(t 16)])),(o 18 (.un .not (t 17)))]) L129s0) L129s11)
def L129:zp:=⟨83,(.seq (.reg [(o 8 (.move (.c (.bool .false))))]) L129s12),[(.t 8)],.true,.none,vO⟩
theorem lp129:LP 129 = some L129:=by kernel_rfl
def L134r0:List zh:=[(f 14 1 13),(o 15 (.indexAddrA 13 13 (t 14) (t 11))),(o 16 (.indexAddrA 13 1 (t 15) (t 12))),(l 17 16),(o 18 (b .add (t 9) (t 17))),(o 19 (b .geq (t 18) (k 0))),(m 8 19)]
def L134s0:ze:=(.seq (.reg ((m 9 3) :: (m 10 0) :: (m 11 2) :: (m 12 1) :: (o 13 (.nilCheck (t 10))) :: L134r0)) .ret)
def L134:zp:=⟨20,(.seq (.reg [(o 8 (.move (.c (.bool .false))))]) L134s0),[(.t 8)],.false,.none,vO⟩
theorem lp134:LP 134 = some L134:=by kernel_rfl
end
end Go.Hx

namespace Go.Hx
noncomputable section
def spWakes : List HV → HS → Option (HV × HS)
 | [], σ => some (.bool true, σ)
 | _, _ => none
def LW : Nat → Option zp := withS LP 20 spWakes
theorem withS_of {lp : Nat → Option zp} {f : Nat} {g : List HV → HS → Option (HV × HS)} {k : Nat} {lf : zp} (hk : Nat.beq k f = false) (h : lp k = some lf) : withS lp f g k = some lf := by
 unfold withS
 rw [hk]
 exact h
theorem z5 {k : Nat} {lf : zp} (hk : Nat.beq k 20 = false) (h : LP k = some lf) : LW k = some lf := withS_of hk h
theorem lw16 : LW 16 = some L16 := z5 rfl lp16
theorem lw19 : LW 19 = some L19 := z5 rfl lp19
theorem lw21 : LW 21 = some L21 := z5 rfl lp21
theorem lw22 : LW 22 = some L22 := z5 rfl lp22
theorem lw25 : LW 25 = some L25 := z5 rfl lp25
theorem lw27 : LW 27 = some L27 := z5 rfl lp27
theorem lw28 : LW 28 = some L28 := z5 rfl lp28
theorem lw32 : LW 32 = some L32 := z5 rfl lp32
theorem lw33 : LW 33 = some L33 := z5 rfl lp33
theorem lw57 : LW 57 = some L57 := z5 rfl lp57
theorem lw60 : LW 60 = some L60 := z5 rfl lp60
theorem lw64 : LW 64 = some L64 := z5 rfl lp64
theorem lw69 : LW 69 = some L69 := z5 rfl lp69
theorem lw71 : LW 71 = some L71 := z5 rfl lp71
theorem lw73 : LW 73 = some L73 := z5 rfl lp73
theorem lw74 : LW 74 = some L74 := z5 rfl lp74
theorem lw75 : LW 75 = some L75 := z5 rfl lp75
theorem lw76 : LW 76 = some L76 := z5 rfl lp76
theorem lw77 : LW 77 = some L77 := z5 rfl lp77
theorem lw80 : LW 80 = some L80 := z5 rfl lp80
theorem lw81 : LW 81 = some L81 := z5 rfl lp81
theorem lw90 : LW 90 = some L90 := z5 rfl lp90
theorem lw98 : LW 98 = some L98 := z5 rfl lp98
theorem lw99 : LW 99 = some L99 := z5 rfl lp99
theorem lw100 : LW 100 = some L100 := z5 rfl lp100
theorem lw101 : LW 101 = some L101 := z5 rfl lp101
theorem lw103 : LW 103 = some L103 := z5 rfl lp103
theorem lw104 : LW 104 = some L104 := z5 rfl lp104
theorem lw105 : LW 105 = some L105 := z5 rfl lp105
theorem lw106 : LW 106 = some L106 := z5 rfl lp106
theorem lw107 : LW 107 = some L107 := z5 rfl lp107
theorem lw108 : LW 108 = some L108 := z5 rfl lp108
theorem lw113 : LW 113 = some L113 := z5 rfl lp113
theorem lw123 : LW 123 = some L123 := z5 rfl lp123
theorem lw124 : LW 124 = some L124 := z5 rfl lp124
theorem lw125 : LW 125 = some L125 := z5 rfl lp125
theorem lw126 : LW 126 = some L126 := z5 rfl lp126
theorem lw127 : LW 127 = some L127 := z5 rfl lp127
theorem lw128 : LW 128 = some L128 := z5 rfl lp128
theorem lw129 : LW 129 = some L129 := z5 rfl lp129
theorem lw134 : LW 134 = some L134 := z5 rfl lp134
theorem V.ct_wakes {fl : Nat} {h : Tr HBlk} {nx : Nat} : C LW fl 20 [] ⟨h, nx⟩ (V.KS (.bool true) nx h) :=
 c_spec (lf := ⟨0, .bad, [], false, some spWakes, fun _ _ => none⟩) rfl rfl rfl (Nat.le_refl _) ⟨rfl, nx, Nat.le_refl _, rfl⟩
end
end Go.Hx

namespace Go.Hx.V
open Go.Hx
variable {lp : Nat → Option zp} {fl nt : Nat} {rd : Option Nat} {Q : HExit → HAct → HS → Prop} {T : Tr HV} {ds : List Nat} {σ : HS} {c : ze}
end Go.Hx.V

namespace Go.Hx.V
open Go.Hx
def eI (k : IntKind) (n : Nat) (f : Nat → Int) : List HV := (List.range n).map fun i => .int k (f i)
def eB (n : Nat) (f : Nat → Bool) : List HV := (List.range n).map fun i => .bool (f i)
def ups {α : Type} (f : Nat → α) (j : Nat) (v : α) : Nat → α := fun i => if i = j then v else f i
section
variable {k : IntKind} {n : Nat} {f : Nat → Int} {g : Nat → Bool}
theorem zS : (eI k n f).length = n := by unfold eI; rw [List.length_map, List.length_range]
theorem yW : (eB n g).length = n := by unfold eB; rw [List.length_map, List.length_range]
theorem yV : (eI k n f).all HV.one = true := by
 unfold eI; rw [List.all_map, List.all_eq_true]; intro i _; rfl
theorem eB_one : (eB n g).all HV.one = true := by
 unfold eB; rw [List.all_map, List.all_eq_true]; intro i _; rfl
theorem Yo {i : Nat} (h : i < n) : (eI k n f)[i]? = some (.int k (f i)) := by
 unfold eI; rw [List.getElem?_map, List.getElem?_range h]; rfl
theorem ovw1 : ∀ (l : List HV) (i : Nat) (v : HV), i < l.length → overwrite l i [v] = some (l.set i v)
 | [], i, v, h => by simp at h
 | x :: l, 0, v, h => by cases l <;> rfl
 | x :: l, i + 1, v, h => by
  show (overwrite l i [v]).map _ = _
  rw [ovw1 l i v (by simpa using h)]; rfl
theorem eI_set {i : Nat} {v : Int} : (eI k n f).set i (.int k v) = eI k n (ups f i v) := by
 apply List.ext_getElem?
 intro j
 rw [List.getElem?_set]
 by_cases hj : j < n
 ·rw [Yo (f := ups f i v) hj, zS]
  by_cases e : i = j
  ·subst e; rw [if_pos rfl, if_pos hj]; unfold ups; rw [if_pos rfl]
  ·rw [if_neg e, Yo hj]; unfold ups; rw [if_neg (Ne.symm e)]
 ·rw [List.getElem?_eq_none (l := eI k n (ups f i v)) (by rw [zS]; omega), List.getElem?_eq_none (l := eI k n f) (by rw [zS]; omega), zS]
  by_cases e : i = j
  ·subst e; rw [if_pos rfl, if_neg hj]
  ·rw [if_neg e]
theorem vk (P : List HV) {p off ix : Nat} (hp : P.length = p) (ho : off = p + ix) (hl : ix < n) : (P ++ eI k n f)[off]? = some (.int k (f ix)) := by
 rw [List.getElem?_append_right (by omega), show off - P.length = ix by omega]; exact Yo hl
theorem Yw (P : List HV) {p off ix : Nat} {v : Int} (hp : P.length = p) (ho : off = p + ix) (hl : ix < n) : overwrite (P ++ eI k n f) off [.int k v] = some (P ++ eI k n (ups f ix v)) := by
 rw [ovw1 _ _ _ (by rw [List.length_append, zS]; omega), List.set_append_right _ _ (by omega), show off - P.length = ix by omega, eI_set]
end
theorem yY (P1 P2 : List HV) {E : List HV} {m off n : Nat} (h1 : P1.length = off) (hE : E.length = m) (h2 : P2.length + m = n) : takeN n ((P1 ++ (P2 ++ E)).drop off) = some (P2 ++ E) := by
 rw [← h1, List.drop_left, ← h2, ← hE, ← List.length_append]; exact uV _
theorem YO : ∀ (q r : List HV), q.length = r.length → overwrite q 0 r = some r
 | [], [], _ => rfl
 | x :: q, [], h => by simp at h
 | [], y :: r, h => by simp at h
 | x :: q, y :: r, h => by
  show (overwrite q 0 r).map _ = _
  rw [YO q r (by simpa using h)]; rfl
theorem yB : ∀ (P : List HV) {q r : List HV} {off : Nat}, P.length = off → q.length = r.length → overwrite (P ++ q) off r = some (P ++ r)
 | [], q, r, off, h, e => by rw [← h]; exact YO q r e
 | x :: P, q, [], off, h, e => by
  have : q = [] := List.length_eq_zero_iff.1 (by simpa using e)
  subst this
  cases off <;> rfl
 | x :: P, q, y :: r, off, h, e => by
  subst h
  show (overwrite (P ++ q) P.length (y :: r)).map _ = _
  rw [yB P rfl e]; rfl
theorem yq (P : List HV) {E : List HV} {m n : Nat} (hE : E.length = m) (h : P.length + m = n) : (P ++ E).length = n := by rw [List.length_append, hE, h]
theorem yp (P : List HV) {E : List HV} (h : P.all HV.one = true) (hE : E.all HV.one = true) : (P ++ E).all HV.one = true := by rw [List.all_append, h, hE]; rfl
section
variable {n0 nx : Nat} {h0 h : Tr HBlk} {F0 F : PH} {L : List LE}
theorem St.cells (st : St n0 h0 F0 F h nx L) (i : Nat) {b : Nat} {cs : List HV} (hi : L[i]? = some (.bx b cs)) (cs' : List HV) (he : cs = cs') : St n0 h0 F0 F h nx (L.set i (.bx b cs')) := by
 subst he
 have : L.set i (.bx b cs) = L := by
  apply List.ext_getElem?
  intro j
  rw [List.getElem?_set]
  by_cases e : i = j
  ·subst e
   rw [if_pos rfl, hi]
   split
   ·rfl
   ·rename_i hn; rw [List.getElem?_eq_none (by omega)] at hi; cases hi
  ·rw [if_neg e]
 rw [this]; exact st
end
def rF (k : IntKind) (n : Nat) : Rel (Nat → Int) := fun _ f r => r = eI k n f
def rFB (n : Nat) : Rel (Nat → Bool) := fun _ f r => r = eB n f
instance {k : IntKind} {n : Nat} : OkR (rF k n) n := ⟨fun _ h => h, fun h => by rw [h]; exact zS, fun h => by rw [h]; exact yV⟩
instance {n : Nat} : OkR (rFB n) n := ⟨fun _ h => h, fun h => by rw [h]; exact yW, fun h => by rw [h]; exact eB_one⟩
end Go.Hx.V

namespace Go.Hx.V
open Go.Hx
def KD {κ : Type} [DecidableEq κ] (D : ED) (en : κ → HV) : Prop := ∀ a b : κ, eqH D (en a) (en b) = some (decide (a = b))
def KRw {κ : Type} [DecidableEq κ] (ks : List Leaf) (en : κ → List HV) : Prop := ∀ a b : κ, eqRow ks (en a) (en b) = some (decide (a = b))
theorem KD.int {k : IntKind} : KD (.cell (.i k)) (fun x : Int => .int k x) := fun a b => by
 show (if k = k ∧ k = k then some (a == b) else none) = _
 rw [if_pos ⟨rfl, rfl⟩]; rfl
section
variable {κ β : Type} [DecidableEq κ]
def look : List (κ × β) → κ → Option β
 | [], _ => none
 | (x, v) :: l, k => if k = x then some v else look l k
def putM (k : κ) (v : β) : List (κ × β) → List (κ × β)
 | [] => [(k, v)]
 | (x, u) :: l => if k = x then (k, v) :: l else (x, u) :: putM k v l
def upm (m : κ → Option β) (k : κ) (v : β) : κ → Option β := fun j => if j = k then some v else m j
theorem Xu {k : κ} {v : β} : ∀ (l : List (κ × β)) (j : κ), look (putM k v l) j = if j = k then some v else look l j
 | [], j => rfl
 | (x, u) :: l, j => by
  unfold putM
  by_cases c : k = x
  ·rw [if_pos c]
   unfold look
   by_cases c' : j = k
   ·rw [if_pos c', if_pos c']
   ·rw [if_neg c', if_neg c', if_neg (fun e => c' (e.trans c.symm))]
  ·rw [if_neg c]
   unfold look
   by_cases c' : j = x
   ·rw [if_pos c', if_neg (fun e => c (e.symm.trans c')), if_pos c']
   ·rw [if_neg c', if_neg c', Xu l j]
def MR (D : ED) (en : κ → HV) (ev : β → HV) (es : List (HV × HV)) (m : κ → Option β) : Prop := KD D en ∧ ∃ l : List (κ × β), es = l.map (fun p => (en p.1, ev p.2)) ∧ ∀ k, m k = look l k
theorem MR.nil {D : ED} {en : κ → HV} {ev : β → HV} (h : KD D en) : MR D en ev [] (fun _ => none) := ⟨h, [], rfl, fun _ => rfl⟩
theorem MR.find {D : ED} {en : κ → HV} {ev : β → HV} {es : List (HV × HV)} {m : κ → Option β} (h : MR D en ev es m) (k : κ) : findH D (en k) es = some ((m k).map ev) := by
 obtain ⟨hd, l, rfl, hm⟩ := h
 rw [hm k]
 clear hm
 induction l with
 | nil => rfl
 | cons p l ih =>
  obtain ⟨x, v⟩ := p
  show (match eqH D (en k) (en x) with | some true => some (some (ev v)) | some false => findH D (en k) (l.map fun p : κ × β => (en p.1, ev p.2)) | none => none) = _
  rw [hd k x]
  unfold look
  by_cases c : k = x
  ·rw [decide_eq_true c, if_pos c]; rfl
  ·rw [decide_eq_false c, if_neg c]; exact ih
theorem MR.upd {D : ED} {en : κ → HV} {ev : β → HV} {es : List (HV × HV)} {m : κ → Option β} (h : MR D en ev es m) (k : κ) (v : β) : ∃ es', updH D (en k) (ev v) es = some es' ∧ MR D en ev es' (upm m k v) := by
 obtain ⟨hd, l, rfl, hm⟩ := h
 refine ⟨(putM k v l).map (fun p => (en p.1, ev p.2)), ?_, hd, putM k v l, rfl, fun j => ?_⟩
 ·clear hm
  induction l with
  | nil => rfl
  | cons p l ih =>
   obtain ⟨x, u⟩ := p
   show (match eqH D (en k) (en x) with | some true => some ((en k, ev v) :: l.map fun p : κ × β => (en p.1, ev p.2)) | some false => (updH D (en k) (ev v) (l.map fun p : κ × β => (en p.1, ev p.2))).map ((en x, ev u) :: ·) | none => none) = _
   rw [hd k x]
   unfold putM
   by_cases c : k = x
   ·rw [decide_eq_true c, if_pos c]; rfl
   ·rw [decide_eq_false c, if_neg c]
    show (updH D (en k) (ev v) (l.map fun p : κ × β => (en p.1, ev p.2))).map ((en x, ev u) :: ·) = _
    rw [ih]; rfl
 ·rw [Xu]
  unfold upm
  rw [hm j]
theorem MR.key {D : ED} {en : κ → HV} {ev : β → HV} {es : List (HV × HV)} {m : κ → Option β} (h : MR D en ev es m) (k : κ) : keyOk D (en k) = true := by
 unfold keyOk; rw [h.1 k k]; rfl
end
section
variable {lp : Nat → Option zp} {fl : Nat} {N : HAct → HS → Prop} {nt d : Nat} {T : Tr HV} {ds : List Nat} {h : Tr HBlk} {nx : Nat} {os : List zh} {anc : List Nat} {κ β : Type} [DecidableEq κ]
theorem v_mm {n0 : Nat} {h0 : Tr HBlk} {F0 F : PH} {L : List LE} (st : St n0 h0 F0 F h nx L) (hn : ∀ b h' n', St n0 h0 F0 F h' n' (L ++ [.any b (.map [])]) → R lp fl os N ⟨nt, T.set d (some (.map (some b))), ds⟩ ⟨h', n'⟩) (hd : Nat.blt d nt = true := by rfl) : R lp fl (⟨some d, .makeMap, none, anc⟩ :: os) N ⟨nt, T, ds⟩ ⟨h, nx⟩ :=
 r_mm (by
  rw [zP hd]
  have hne := st.ext.le
  exact hn _ _ _ (st.push (b := nx) (Ext.set st.d (by omega) (by omega) (by omega)) (fun c hc => by rw [X8 hc]; omega) ⟨by omega, by omega, z8 _ _ _⟩))
theorem v_lk1 {D : ED} {en : κ → HV} {ev : β → HV} {es : List (HV × HV)} {m : κ → Option β} {b : Nat} {x y : Lo} {kv zero : HV} (hm : MR D en ev es m) (hg : h.get b = some (.map es)) (k : κ) (z : β) (hk : kv = en k) (hz : zero = ev z) (hn : R lp fl os N ⟨nt, T.set d (some (ev ((m k).getD z))), ds⟩ ⟨h, nx⟩) (hx : lo T x = .map (some b) := by first | exact ev_c | (apply ev_t; exact gA)) (hy : lo T y = kv := by first | exact ev_c | (apply ev_t; exact gA)) (hd : Nat.blt d nt = true := by rfl) : R lp fl (⟨some d, .lookup D zero false x y, none, anc⟩ :: os) N ⟨nt, T, ds⟩ ⟨h, nx⟩ := by
 subst hk; subst hz
 refine r_lku ((zC x).trans hx) ((zC y).trans hy) (hm.key k) hg (hm.find k) ?_
 rw [zP hd]
 cases e : m k <;> (rw [e] at hn; exact hn)
theorem v_mu {n0 : Nat} {h0 : Tr HBlk} {F0 F : PH} {L : List LE} {D : ED} {en : κ → HV} {ev : β → HV} {es : List (HV × HV)} {m : κ → Option β} {b : Nat} {x y z : Lo} {kv vv : HV} (st : St n0 h0 F0 F h nx L) (i : Nat) (hi : L[i]? = some (.any b (.map es))) (hm : MR D en ev es m) (k : κ) (v : β) (hk : kv = en k) (hv : vv = ev v) (hfl : fl ≤ n0) (hn : ∀ es' h', MR D en ev es' (upm m k v) → St n0 h0 F0 F h' nx (L.set i (.any b (.map es'))) → R lp fl os N ⟨nt, T, ds⟩ ⟨h', nx⟩) (hx : lo T x = .map (some b) := by first | exact ev_c | (apply ev_t; exact gA)) (hy : lo T y = kv := by first | exact ev_c | (apply ev_t; exact gA)) (hw : lo T z = vv := by first | exact ev_c | (apply ev_t; exact gA)) : R lp fl (⟨none, .mapUpdate D x y z, none, anc⟩ :: os) N ⟨nt, T, ds⟩ ⟨h, nx⟩ := by
 subst hk; subst hv
 obtain ⟨es', e1, e2⟩ := hm.upd k v
 obtain ⟨h1, h2, h3⟩ := st.at hi
 refine r_mup ((zC x).trans hx) ((zC y).trans hy) ((zC z).trans hw) (hm.key k) h3 (Nat.le_trans hfl h1) e1 ?_
 exact hn es' _ e2 (st.swap hi (Nat.le_refl _) (st.d.upd h2) (fun c hc hne => z7 _ _ fun e => hne (List.mem_singleton.2 e)) (fun c hc => .inl hc) ⟨h1, h2, z8 _ _ _⟩)
end
end Go.Hx.V

namespace Go.Hx.V
open Go.Hx
section
variable {lp : Nat → Option zp} {fl : Nat} {N : HAct → HS → Prop} {nt d : Nat} {T : Tr HV} {ds : List Nat} {os : List zh}
variable {h1 hm h0 : Tr HBlk} {nx s n1 n0 i : Nat} {done : List (Nat × List (Nat × HBlk))} {V : List (Nat × PH)} {F F0 : PH} {L : List LE}
theorem sl_len {α : Type} {l : List α} {a b : Nat} (h : b ≤ l.length) : b - a = ((l.drop a).take (b - a)).length := by rw [List.length_take, List.length_drop]; omega
theorem XD {anc : List Nat} : ∀ {done : List (Nat × List (Nat × HBlk))}, (∀ p ∈ done, anc.contains p.1 = true) → dropAll anc done = []
 | [], _ => rfl
 | (j, l) :: ds, h => by
  have hj : anc.contains j = true := h (j, l) (List.mem_cons_self ..)
  rw [dr_in hj]
  exact XD fun p hp => h p (List.mem_cons_of_mem _ hp)
theorem y_own {α : Type} {rel : Rel α} {sz m : Nat} {l : List α} {o : zh} (st : St n0 h0 F0 F h1 n1 L) (dw : Dw n1 nx h1 done V) (hV : V.all (fun e => o.anc.contains e.1) = true)
  (h2 : ∀ hm, Vw n1 nx h1 hm o.anc V → R lp (max fl n1) [o] (fun a σ => ∃ o' c' cs', a = ⟨nt, T.set d (some (slv o' m c')), ds⟩ ∧ nx ≤ σ.nx ∧ D σ.h σ.nx ∧ LE.ok n1 σ.nx σ.h (.ls o' c' cs' sz) ∧ LR rel sz F l cs') ⟨nt, T, ds⟩ ⟨hm, nx⟩)
  (hr : ∀ o' c' cs' n2 done' G, nx ≤ n2 → Dw n1 n2 h1 done' [(i, G)] → (∀ hE nE, PH.sub G hE → n2 ≤ nE → LE.ok n1 nE hE (.ls o' c' cs' sz)) → (∀ b, o' = some b → ∃ x, G b = some x) → LR rel sz F l cs' → DG lp fl s n1 h1 os (i + 1) done' N ⟨nt, T.set d (some (slv o' m c')), ds⟩ n2)
  (hi : Nat.blt i s = true := by rfl) (hw : o.anc.contains i = true := by rfl) : DG lp fl s n1 h1 (o :: os) i done N ⟨nt, T, ds⟩ nx := by
 obtain ⟨n, a, σ, e, o', c', cs', rfl, g1, g2, g3, g4⟩ := h2 _ (dw.view st.d o.anc)
 obtain ⟨h', n'⟩ := σ
 have hle := dw.le
 have hdr : dropAll o.anc done = [] := XD fun p hp => by
  obtain ⟨e, he, h⟩ := dw.idx p hp
  rw [← h]
  exact List.all_eq_true.1 hV e he
 refine x_stepW hi hw rfl ⟨n, _, _, e, x_extW g1 g2 hdr fun l1 a1 a2 a3 => ?_⟩
 have dom : ∀ b x, h'.get b = some x → b < n' := fun b x hx => Nat.not_le.1 fun h => by
  have g2' := g2
  unfold D at g2'
  rw [g2' b h] at hx
  cases hx
 have hG : ∀ b x, (if n1 ≤ b then h'.get b else none) = some x → n1 ≤ b ∧ h'.get b = some x := fun b x hx => by
  by_cases c : n1 ≤ b
  ·rw [if_pos c] at hx; exact ⟨c, hx⟩
  ·rw [if_neg c] at hx; cases hx
 have dw' : Dw n1 n' h1 [(i, l1)] [(i, fun b => if n1 ≤ b then h'.get b else none)] := by
  refine ⟨Nat.le_trans hle g1, fun e he b x hx => ?_, fun f g e he hf b x hx => ?_, fun f g b hb => ?_, fun f g e he hf b x hx => ?_, List.pairwise_singleton .., fun p hp => ⟨_, List.mem_singleton.2 rfl, by rw [List.mem_singleton.1 hp]⟩⟩
  ·rw [List.mem_singleton.1 he] at hx
   obtain ⟨q1, q2⟩ := hG b x hx
   exact ⟨q1, dom b x q2⟩
  ·rw [List.mem_singleton.1 he] at hx hf
   obtain ⟨q1, q2⟩ := hG b x hx
   show (bif f i then addAll g l1 else g).get b = _
   have hf' : f i = true := hf
   rw [hf', cond_true]
   exact a2 g b x q1 q2
  ·show (bif f i then addAll g l1 else g).get b = _
   cases f i with
   | false => rfl
   | true => exact a1 g b hb
  ·rw [List.mem_singleton.1 he] at hf
   show (bif f i then addAll g l1 else g).get b = _
   have hf' : f i = false := hf
   rw [hf']; rfl
 refine hr o' c' cs' n' _ _ g1 dw' (fun hE nE hs hn => ?_) (fun b hb => ?_) g4
 ·match o', g3 with
  | none, g3 => exact g3
  | some b, ⟨q1, q2, q3⟩ =>
   have q2' : b < n' := q2
   refine ⟨q1, by omega, ?_⟩
   rcases q3 with ⟨r1, r2⟩ | ⟨rest, r1, r2⟩
   ·exact .inl ⟨hs b _ (by show (if n1 ≤ b then h'.get b else none) = _; rw [if_pos q1]; exact r1), r2⟩
   ·exact .inr ⟨rest, hs b _ (by show (if n1 ≤ b then h'.get b else none) = _; rw [if_pos q1]; exact r1), r2⟩
 ·subst hb
  obtain ⟨q1, q2, q3⟩ := g3
  rcases q3 with ⟨r1, r2⟩ | ⟨rest, r1, r2⟩
  ·exact ⟨_, by show (if n1 ≤ b then h'.get b else none) = _; rw [if_pos q1]; exact r1⟩
  ·exact ⟨_, by show (if n1 ≤ b then h'.get b else none) = _; rw [if_pos q1]; exact r1⟩
theorem u_app {α : Type} {rel : Rel α} {sz m bytes cx b0 : Nat} {p : Option (Nat × Nat)} {l : List α} {A anc : List Nat} {s' x : Lo} [OkR rel sz] (st : St n0 h0 F0 F h1 n1 L) (vw : Vw n1 nx h1 hm A V) (hg : hm.get b0 = some (.cells [] .exact)) (hb0 : n1 ≤ b0) (hfl : fl ≤ n1) (hr : RowF rel sz F p cx l)
  (hb : (([] : List α).length + l.length) * bytes ≤ 35184372088832 ∧ ([] : List α).length + l.length ≤ 35184372088832) (hz : 0 < sz) (hm' : l.length = m)
  (hs : lo T s' = .slice (some (b0, 0)) 0 0 := by first | exact ev_c | (apply ev_t; exact gA)) (hx : lo T x = .slice p l.length cx := by first | exact ev_c | (apply ev_t; exact gA)) (hd : Nat.blt d nt = true := by rfl) :
  R lp (max fl n1) [⟨some d, .append sz bytes s' x, none, anc⟩] (fun a σ => ∃ o' c' cs', a = ⟨nt, T.set d (some (slv o' m c')), ds⟩ ∧ nx ≤ σ.nx ∧ D σ.h σ.nx ∧ LE.ok n1 σ.nx σ.h (.ls o' c' cs' sz) ∧ LR rel sz F l cs') ⟨nt, T, ds⟩ ⟨hm, nx⟩ := by
 have hlt : b0 < nx := Nat.not_le.1 fun h => by
  have hd' := vw.d
  unfold D at hd'
  rw [hd' b0 h] at hg
  cases hg
 subst hm'
 have hb' : l.length * bytes ≤ 35184372088832 ∧ l.length ≤ 35184372088832 := by
  rw [List.length_nil, Nat.zero_add] at hb; exact hb
 obtain ⟨row, q1, q2⟩ := RowF.cells hr
 by_cases hne : l = []
 ·subst hne
  refine Xk ((zC s').trans hs) ((zC x).trans hx) (XL (Nat.le_refl _)) ?_
  rw [zP hd]
  exact zb ⟨some b0, 0, [], rfl, Nat.le_refl _, vw.d, ⟨hb0, hlt, .inr ⟨[], by rw [List.append_nil]; exact hg, by simp⟩⟩, LR.nil⟩
 ·obtain ⟨b, oo, csx, kx, rfl, g1, g2⟩ := q2 hne
  have hpos : 0 < l.length := List.length_pos_iff.2 hne
  have hle := vw.le
  refine Xk ((zC s').trans hs) ((zC x).trans hx) (kH (k := 0) (n := l.length) (old := []) (vw.fz st g1) g2 hg (by rw [Nat.zero_mul]; rfl) (by omega) (by rw [Nat.zero_add]; exact hb'.1) (by omega) hz) ?_
  rw [zP hd, Nat.zero_add]
  exact zb ⟨some nx, l.length, row, rfl, Nat.le_succ _, (show D (hm.set nx _) (nx + 1) from vw.d.put (by omega) (by omega)), ⟨hle, Nat.lt_succ_self _, .inl ⟨by rw [z8]; rfl, q1.1⟩⟩, q1⟩
theorem St.ownB {h : Tr HBlk} {n2 c sz : Nat} {o : Option Nat} {cs : List HV} {G : PH} {E : List (Nat × List HV)} (sto : St n0 h0 F0 F h1 n1 L) (st : St n0 h0 F0 F h n2 (L ++ E.map fun e => .bx e.1 e.2)) (ok : LE.ok n1 n2 h (.ls o c cs sz)) (gb : ∀ b, o = some b → ∃ x, G b = some x) (hE : ∀ e ∈ E, G e.1 = none) : St n0 h0 F0 F h n2 ((L ++ E.map fun e => .bx e.1 e.2) ++ [.ls o c cs sz]) := by
 have hne := sto.ext.le
 have low : ∀ b, o = some b → n1 ≤ b := fun b hb => by
  subst hb
  exact ok.1
 refine ⟨st.ext, st.sub, st.le, st.lo, fun e he b hb => ?_, fun e he => ?_, ?_⟩
 ·rcases List.mem_append.1 he with h3 | h3
  ·exact st.off e h3 b hb
  ·rw [List.mem_singleton.1 h3] at hb
   have := low b (jN hb)
   cases hF : F b with
   | none => rfl
   | some y => have := sto.dom hF; omega
 ·rcases List.mem_append.1 he with h3 | h3
  ·exact st.own e h3
  ·rw [List.mem_singleton.1 h3]
   match o, ok with
   | none, ok => exact ok
   | some b, ⟨q1, q2, q3⟩ => exact ⟨by omega, q2, q3⟩
 ·refine List.pairwise_append.2 ⟨st.dist, List.pairwise_singleton .., fun y hy z hz b hb hb2 => ?_⟩
  rw [List.mem_singleton.1 hz] at hb2
  have e1 := jN hb2
  have := low b e1
  rcases List.mem_append.1 hy with h3 | h3
  ·have := (LE.ok_bd (sto.own y h3) hb).2; omega
  ·obtain ⟨e3, he3, rfl⟩ := List.mem_map.1 h3
   have e2 := jO hb
   obtain ⟨x, hx⟩ := gb b e1
   rw [e2, hE e3 he3] at hx
   cases hx
end
end Go.Hx.V

namespace Go.Hx.V
open Go.Hx
section
variable {k : IntKind} {n : Nat} {f : Nat → Int}
end
def rqL {α β : Type} (rel : Rel α) (b : PH → β → HV → Prop) : PH → α × β → List HV → HV → Prop := fun F x r w => rel F x.1 r ∧ b F x.2 w
def rqC {α β : Type} (rel : Rel α) (q : PH → β → List HV → HV → Prop) : PH → α × β → List HV → HV → Prop := fun F x r w => ∃ r1 r2, r = r1 ++ r2 ∧ rel F x.1 r1 ∧ q F x.2 r2 w
def rvT2A {α : Type} (q : PH → α → List HV → HV → Prop) : PH → α → HV → Prop := fun F x v => ∃ r w, v = .tuple [.agg r, w] ∧ q F x r w
section
variable {k : IntKind} {n : Nat} {f : Nat → Int}
end
end Go.Hx.V

namespace Go.Hx.V
open Go.Hx
theorem LR.cons1 {α : Type} {rel : Rel α} {sz : Nat} [OkR rel sz] {F : PH} {x : α} {r : List HV} {l : List α} {cs : List HV} (h : rel F x r) (t : LR rel sz F l cs) : LR rel sz F (x :: l) (r ++ cs) := (LR.one h).app t
section
variable {lp : Nat → Option zp} {fl : Nat} {N : HAct → HS → Prop} {nt d : Nat} {T : Tr HV} {ds : List Nat} {os : List zh}
variable {h1 hm h0 : Tr HBlk} {nx s n1 n0 i : Nat} {done : List (Nat × List (Nat × HBlk))} {V : List (Nat × PH)} {F F0 : PH} {L : List LE}
end
end Go.Hx.V

namespace Go.Hx.V
theorem YN : ∀ (a b : List HV) (o : Nat) (vs : List HV), overwrite (a ++ b) (a.length + o) vs = (overwrite b o vs).map (a ++ ·)
 | [], b, o, vs => by simp
 | x :: a, b, o, vs => by
  cases vs with
  | nil =>
   have e : ∀ l o, overwrite l o [] = some l := fun l o => by unfold overwrite; cases l <;> rfl
   rw [e, e]; rfl
  | cons v vs =>
   show overwrite (x :: (a ++ b)) (a.length + 1 + o) (v :: vs) = _
   rw [show a.length + 1 + o = (a.length + o) + 1 by omega]
   show (overwrite (a ++ b) (a.length + o) (v :: vs)).map (x :: ·) = _
   rw [YN a b o (v :: vs)]
   cases overwrite b o (v :: vs) <;> rfl
theorem uE : ∀ (r : List HV) (o : Nat) (vs r' t : List HV), overwrite r o vs = some r' → overwrite (r ++ t) o vs = some (r' ++ t)
 | r, o, [], r', t, h => by
  have e : ∀ l o, overwrite l o [] = some l := fun l o => by unfold overwrite; cases l <;> rfl
  rw [e] at h; cases h; rw [e]
 | [], o, v :: vs, r', t, h => by cases o <;> cases h
 | x :: r, 0, v :: vs, r', t, h => by
  have h : (overwrite r 0 vs).map (v :: ·) = some r' := h
  cases e : overwrite r 0 vs with
  | none => rw [e] at h; cases h
  | some q =>
   rw [e] at h; cases h
   show (overwrite (r ++ t) 0 vs).map (v :: ·) = _
   rw [uE r 0 vs q t e]; rfl
 | x :: r, o + 1, v :: vs, r', t, h => by
  have h : (overwrite r o (v :: vs)).map (x :: ·) = some r' := h
  cases e : overwrite r o (v :: vs) with
  | none => rw [e] at h; cases h
  | some q =>
   rw [e] at h; cases h
   show (overwrite (r ++ t) o (v :: vs)).map (x :: ·) = _
   rw [uE r o (v :: vs) q t e]; rfl
theorem uA : ∀ (n : Nat) (l r : List HV), r.length = n → (∀ j, j < n → l[j]? = r[j]?) → takeN n l = some r
 | 0, l, r, h, _ => by rw [List.length_eq_zero_iff.1 h]; rfl
 | n + 1, l, [], h, _ => by cases h
 | n + 1, [], v :: r, h, g => by have := g 0 (by omega); simp at this
 | n + 1, x :: l, v :: r, h, g => by
  have e := g 0 (by omega)
  simp at e
  subst e
  show (takeN n l).map (x :: ·) = _
  rw [uA n l r (by simpa using h) (fun j hj => by have := g (j + 1) (by omega); simpa using this)]; rfl
theorem LR.setEl {α : Type} {rel : Rel α} {sz : Nat} [OkR rel sz] {F : PH} {l : List α} {cs r0 r' : List HV} {k : Nat} {x x' : α} (h : LR rel sz F l cs) (hk : l[k]? = some x) (ht : takeN sz (cs.drop (k * sz)) = some r0) (hr : rel F x' r') :
  ∃ a t, cs = a ++ (r0 ++ t) ∧ a.length = k * sz ∧ r0.length = sz ∧ LR rel sz F (l.set k x') (a ++ (r' ++ t)) := by
 have hkl : k < l.length := (List.getElem?_eq_some_iff.1 hk).1
 have hcl : cs.length = l.length * sz := h.1
 have hle : (k + 1) * sz ≤ l.length * sz := Nat.mul_le_mul_right _ hkl
 rw [Nat.add_mul, Nat.one_mul] at hle
 obtain ⟨g1, g2⟩ := vc sz _ _ ht
 have hrl := OkR.len hr
 refine ⟨cs.take (k * sz), cs.drop (k * sz + sz), ?_, by rw [List.length_take]; omega, g1, by rw [List.length_append, List.length_append, List.length_take, List.length_drop, hrl, List.length_set, hcl]; omega, fun i y hy => ?_⟩
 ·refine List.ext_getElem? fun j => ?_
  by_cases c1 : j < k * sz
  ·rw [List.getElem?_append_left (by rw [List.length_take]; omega), List.getElem?_take, if_pos c1]
  ·rw [List.getElem?_append_right (by rw [List.length_take]; omega), List.length_take, show min (k * sz) cs.length = k * sz by omega]
   by_cases c2 : j < k * sz + sz
   ·rw [List.getElem?_append_left (by omega), ← g2 (j - k * sz) (by omega), List.getElem?_drop, show k * sz + (j - k * sz) = j by omega]
   ·rw [List.getElem?_append_right (by omega), g1, List.getElem?_drop, show k * sz + sz + (j - k * sz - sz) = j by omega]
 ·have al : (cs.take (k * sz)).length = k * sz := by rw [List.length_take]; omega
  by_cases e : i = k
  ·subst e
   rw [List.getElem?_set_self hkl] at hy
   cases hy
   refine ⟨r', uA _ _ _ hrl fun j hj => ?_, hr⟩
   rw [List.getElem?_drop, List.getElem?_append_right (by omega), al, show i * sz + j - i * sz = j by omega, List.getElem?_append_left (by omega)]
  ·rw [List.getElem?_set_ne (fun q => e q.symm)] at hy
   obtain ⟨r, q1, q2⟩ := h.2 i y hy
   obtain ⟨p1, p2⟩ := vc sz _ _ q1
   refine ⟨r, uA _ _ _ p1 fun j hj => ?_, q2⟩
   rw [← p2 j hj, List.getElem?_drop, List.getElem?_drop]
   have hil : i < l.length := (List.getElem?_eq_some_iff.1 hy).1
   by_cases c : i < k
   ·have : (i + 1) * sz ≤ k * sz := Nat.mul_le_mul_right _ c
    rw [Nat.add_mul, Nat.one_mul] at this
    rw [List.getElem?_append_left (by omega), List.getElem?_take, if_pos (by omega)]
   ·have : (k + 1) * sz ≤ i * sz := Nat.mul_le_mul_right _ (by omega)
    rw [Nat.add_mul, Nat.one_mul] at this
    rw [List.getElem?_append_right (by omega), al, List.getElem?_append_right (by omega), hrl, List.getElem?_drop]
    congr 1; omega
section
variable {lp : Nat → Option zp} {fl : Nat} {rd : Option Nat} {Q : HExit → HAct → HS → Prop} {N : HAct → HS → Prop} {nt d : Nat} {T : Tr HV} {ds : List Nat} {σ : HS} {h : Tr HBlk} {nx : Nat} {os : List zh} {anc : List Nat}
theorem v_se {α : Type} {rel : Rel α} {sz : Nat} [OkR rel sz] {n0 : Nat} {h0 : Tr HBlk} {F0 F : PH} {L : List LE} {n b k off c : Nat} {x y : Lo} {o : Option Nat} {l : List α} {cs r0 r' S : List HV} {kk : BK} {e e' : α} {v : HV} (st : St n0 h0 F0 F h nx L) (i : Nat) (hi : L[i]? = some (.ls o c cs sz)) (hr : LR rel sz F l cs) (hz : 0 < sz) (hk : l[k]? = some e) (hb : (o.map fun b => (b, 0)) = some (b, 0)) (hg : h.get b = some (.cells S kk)) (ht : takeN sz (S.drop (0 + k * sz)) = some r0)
  (hw : overwrite r0 off v.cells = some r') (hrel : rel F e' r') (hl : v.cells.length = n) (h1 : v.cells.all HV.one = true) (hfl : fl ≤ n0)
  (hn : ∀ h' cs', St n0 h0 F0 F h' nx (L.set i (.ls o c cs' sz)) → LR rel sz F (l.set k e') cs' → R lp fl os N ⟨nt, T, ds⟩ ⟨h', nx⟩) (hx : lo T x = .ptr (some (b, 0 + k * sz + off)) := by first | exact ev_c | (apply ev_t; repeat first | exact ge_h | refine ge_w rfl ?_ | refine ge_f rfl ?_ | refine ge_m rfl ?_ | assumption)) (hy : lo T y = v := by first | exact ev_c | (apply ev_t; repeat first | exact ge_h | refine ge_w rfl ?_ | refine ge_f rfl ?_ | refine ge_m rfl ?_ | assumption)) :
  R lp fl (⟨none, .store n x y, none, anc⟩ :: os) N ⟨nt, T, ds⟩ ⟨h, nx⟩ := by
 obtain ⟨b', rfl⟩ : ∃ b', o = some b' := by cases o with
  | none => cases hb
  | some b' => exact ⟨b', rfl⟩
 have hbb : b' = b := by have := Option.some.inj hb; cases this; rfl
 subst hbb
 obtain ⟨q1, q2, q3⟩ := st.at hi
 have hkl : k < l.length := (List.getElem?_eq_some_iff.1 hk).1
 have hle : (k + 1) * sz ≤ l.length * sz := Nat.mul_le_mul_right _ hkl
 rw [Nat.add_mul, Nat.one_mul] at hle
 have hcl := hr.1
 -- what is in the block begins with the list's cells
 have main : ∀ (rest : List HV) (kind : BK), Own kind → h.get b' = some (.cells (cs ++ rest) kind) → (∀ cs', cs'.length = cs.length → LE.ok n0 nx (h.set b' (some (.cells (cs' ++ rest) kind))) (.ls (some b') c cs' sz)) → R lp fl (⟨none, .store n x y, none, anc⟩ :: os) N ⟨nt, T, ds⟩ ⟨h, nx⟩ := by
  intro rest kind hown hget hok
  rw [hget] at hg
  cases hg
  have ht' : takeN sz (cs.drop (k * sz)) = some r0 := by
   obtain ⟨g1, g2⟩ := vc sz _ _ ht
   refine uA _ _ _ g1 fun j hj => ?_
   rw [← g2 j hj, List.getElem?_drop, List.getElem?_drop, Nat.zero_add, List.getElem?_append_left (by omega)]
  obtain ⟨a, t, e1, e2, e3, e4⟩ := LR.setEl hr hk ht' hrel
  have hrl := OkR.len hrel
  have how : overwrite (cs ++ rest) (0 + k * sz + off) v.cells = some ((a ++ (r' ++ t)) ++ rest) := by
   rw [e1, List.append_assoc, show 0 + k * sz + off = a.length + off by omega, YN, uE _ _ _ _ _ (uE _ _ _ _ _ hw)]
   simp
  have hlen : (a ++ (r' ++ t)).length = cs.length := by rw [e1]; simp [hrl, e3]
  refine r_st ((zC x).trans hx) ((zC y).trans hy) hget hown hl h1 how (Nat.le_trans hfl q1) (hn _ (a ++ (r' ++ t)) ?_ e4)
  exact st.swap hi (Nat.le_refl _) (st.d.upd q2) (fun c hc hne => z7 _ _ fun e => hne (List.mem_singleton.2 e)) (fun c hc => .inl hc) (hok _ hlen)
 rcases q3 with ⟨g1, g2⟩ | ⟨rest, g1, g2⟩
 ·exact main [] (.opn sz) trivial (by rw [List.append_nil]; exact g1) fun cs' hc => ⟨q1, q2, .inl ⟨by rw [List.append_nil]; exact z8 _ _ _, by rw [hc]; exact g2⟩⟩
 ·exact main rest .exact trivial g1 fun cs' hc => ⟨q1, q2, .inr ⟨rest, z8 _ _ _, by rw [List.length_append, hc, ← List.length_append]; exact g2⟩⟩
end
end Go.Hx.V

namespace Go.Hx.V
open Go.Hx
set_option maxRecDepth 20000
set_option maxHeartbeats 4000000
def sf19_L1 (a0_2:(List (Int × Int × (List (Int × Int))))) (x4:Int):Option (Int ⊕ (Unit ⊕ Unit)) :=
 bnd (bnd ((bif (decide (x4 < ((a0_2).length:Int))) then some (decide (x4 < (10:Int))) else some false):Option (Bool)) (fun y56=>(bif y56 then some (.inl ()) else some (.inr ()))):Option (Unit ⊕ Unit)) (sel (fun w51=>(ix a0_2 x4 fun x64=>(bif (decide ((9:Int) < ((x64.2.2).length:Int))) then some (.inr (.inr ())) else (ck (rng (x4+(1:Int))) (some (.inl (x4+(1:Int)))))))) (fun w53=>some (.inr (.inl ()))))
def sf19 (N:Nat) (a0_0:(List (Int × Int))) (a0_1:Int) (a0_2:(List (Int × Int × (List (Int × Int))))):Option Bool :=
 bnd (iter (sf19_L1 a0_2) N (0:Int)) (sel (fun w36=>(bif (decide (((a0_0).length:Int) ≤ (9:Int))) then some (decide (((a0_2).length:Int) ≤ (9:Int))) else some false)) (fun w38=>some false))
def sf33 (N:Nat) (a0_0 a0_1:Int):Option (Int × Int) :=
 some (a0_0,a0_1)
def sf22_L1 (N:Nat) (a0_0:(List (Int × Int))) (x30:(Int × (List (Int × Int)))):Option ((Int × (List (Int × Int))) ⊕ (List (Int × Int))) :=
 (bif (decide (x30.1 < ((a0_0).length:Int))) then (ix a0_0 x30.1 fun x46=>(bnd (sf33 N x46.1 x46.2) fun v47=>(ck ((x30.2.length+1) * 16 ≤ 35184372088832 ∧ x30.2.length+1 ≤ 35184372088832) ((ck (rng (x30.1+(1:Int))) (some (.inl ((x30.1+(1:Int)),(x30.2 ++ [(v47.1,v47.2)]))))))))) else some (.inr x30.2))
def sf22_L2 (a0_2:(List (Int × Int × (List (Int × Int))))) (x154:(Int × (List (Int × Int × (List (Int × Int)))))) (x285:(Int × (List (Int × Int)))):Option ((Int × (List (Int × Int))) ⊕ (List (Int × Int))) :=
 (ix a0_2 x154.1 fun x309=>(bif (decide (x285.1 < ((x309.2.2).length:Int))) then (ix a0_2 x154.1 fun x312=>(ix x312.2.2 x285.1 fun x314=>(ck ((x285.2.length+1) * 16 ≤ 35184372088832 ∧ x285.2.length+1 ≤ 35184372088832) ((ck (rng (x285.1+(1:Int))) (some (.inl ((x285.1+(1:Int)),(x285.2 ++ [(x314.1,x314.2)]))))))))) else some (.inr x285.2)))
def sf22_L3 (N:Nat) (a0_2:(List (Int × Int × (List (Int × Int))))) (x154:(Int × (List (Int × Int × (List (Int × Int)))))):Option ((Int × (List (Int × Int × (List (Int × Int))))) ⊕ (List (Int × Int × (List (Int × Int))))) :=
 (bif (decide (x154.1 < ((a0_2).length:Int))) then (ix a0_2 x154.1 fun x251=>(bnd (sf33 N x251.1 x251.2.1) fun v253=>bnd (iter (sf22_L2 a0_2 x154) N ((0:Int),([]:List (Int × Int)))) (fun y306=>(ck ((x154.2.length+1) * 40 ≤ 35184372088832 ∧ x154.2.length+1 ≤ 35184372088832) ((ck (rng (x154.1+(1:Int))) (some (.inl ((x154.1+(1:Int)),(x154.2 ++ [(v253.1,v253.2,y306)])))))))))) else some (.inr x154.2))
def sf22 (N:Nat) (a0_0:(List (Int × Int))) (a0_1:Int) (a0_2:(List (Int × Int × (List (Int × Int))))):Option ((List (Int × Int)) × Int × (List (Int × Int × (List (Int × Int))))) :=
 bnd (iter (sf22_L1 N a0_0) N ((0:Int),([]:List (Int × Int)))) (fun y42=>bnd (iter (sf22_L3 N a0_2) N ((0:Int),([]:List (Int × Int × (List (Int × Int)))))) (fun y247=>some (y42,a0_1,y247)))
def sf123 (N:Nat) (a0_0 a0_1 a1 a2:Int):Option Bool :=
 (bif (decide (a1 ≤ a0_0)) then (bif (decide (a0_0 ≤ a0_1)) then some (decide (a0_1 ≤ a2)) else some false) else some false)
def sf99 (N:Nat) (a0_0 a0_1:Int):Option Bool :=
 (bnd (sf123 N a0_0 a0_1 (-100:Int) (100:Int)) fun v4=>some v4)
def sf98_L1 (N:Nat) (a0:(List (Int × Int))) (x1:Int):Option (Int ⊕ (Unit ⊕ Unit)) :=
 (bif (decide (x1 < ((a0).length:Int))) then (ix a0 x1 fun x20=>(bnd (sf99 N x20.1 x20.2) fun v25=>(bif (!v25) then some (.inr (.inl ())) else (ck (rng (x1+(1:Int))) (some (.inl (x1+(1:Int)))))))) else some (.inr (.inr ())))
def sf98 (N:Nat) (a0:(List (Int × Int))):Option Bool :=
 bnd (iter (sf98_L1 N a0) N (0:Int)) (sel (fun w15=>some false) (fun w17=>some true))
def sf113 (N:Nat) (a0_0 a0_1:Int):Option Bool :=
 (bnd (sf123 N a0_0 a0_1 (0:Int) (1000:Int)) fun v4=>some v4)
def sf77 (N:Nat) (a0_0:(List (Int × Int))) (a0_1:Int) (a0_2:(List (Int × Int × (List (Int × Int))))) (a1:Int):Option Bool :=
 (bif (decide ((0:Int) ≤ a1)) then some (decide (a1 < ((a0_0).length:Int))) else some false)
def sf125 (N:Nat) (a0_0:(List (Int × Int))) (a0_1:Int) (a0_2:(List (Int × Int × (List (Int × Int))))) (a1_0 a1_1:Int):Option Bool :=
 (bnd (sf77 N a0_0 a0_1 a0_2 a1_0) fun v7=>(bif v7 then (bif (decide ((-1000:Int) ≤ a1_1)) then some (decide (a1_1 ≤ (2000:Int))) else some false) else some false))
def sf124_L1 (N:Nat) (a0:(List (Int × Int))) (a1f0_0:(List (Int × Int))) (a1f0_1:Int) (a1f0_2:(List (Int × Int × (List (Int × Int))))) (x1:Int):Option (Int ⊕ (Unit ⊕ Unit)) :=
 (bif (decide (x1 < ((a0).length:Int))) then (ix a0 x1 fun x20=>(bnd (sf125 N a1f0_0 a1f0_1 a1f0_2 x20.1 x20.2) fun v25=>(bif (!v25) then some (.inr (.inl ())) else (ck (rng (x1+(1:Int))) (some (.inl (x1+(1:Int)))))))) else some (.inr (.inr ())))
def sf124 (N:Nat) (a0:(List (Int × Int))) (a1f0_0:(List (Int × Int))) (a1f0_1:Int) (a1f0_2:(List (Int × Int × (List (Int × Int))))):Option Bool :=
 bnd (iter (sf124_L1 N a0 a1f0_0 a1f0_1 a1f0_2) N (0:Int)) (sel (fun w15=>some false) (fun w17=>some true))
def sf126_L1 (a0_2:(List (Int × Int))) (x8:(Int × (Int → Option Bool))):Option ((Int × (Int → Option Bool)) ⊕ ((Int → Option Bool) ⊕ (Int → Option Bool))) :=
 (bif (decide (x8.1 < ((a0_2).length:Int))) then (ix a0_2 x8.1 fun x29=>(bif (Option.getD (x8.2 x29.1) false) then some (.inr (.inl x8.2)) else (ck (rng (x8.1+(1:Int))) (some (.inl ((x8.1+(1:Int)),(upm x8.2 x29.1 true))))))) else some (.inr (.inr x8.2)))
def sf126 (N:Nat) (a0_0 a0_1:Int) (a0_2:(List (Int × Int))):Option Bool :=
 bnd (iter (sf126_L1 a0_2) N ((0:Int),((fun _=>none):(Int → Option Bool)))) (sel (fun w22=>some false) (fun w25=>some true))
def sf101 (N:Nat) (a0_0:(List (Int × Int))) (a0_1:Int) (a0_2:(List (Int × Int × (List (Int × Int))))) (a1_0 a1_1:Int) (a1_2:(List (Int × Int))):Option Bool :=
 (bnd (sf113 N a1_0 a1_1) fun v7=>(bif v7 then (bnd (sf124 N a1_2 a0_0 a0_1 a0_2) fun v11=>(bif v11 then (bnd (sf126 N a1_0 a1_1 a1_2) fun v15=>some v15) else some false)) else some false))
def sf100_L1 (N:Nat) (a0:(List (Int × Int × (List (Int × Int))))) (a1f0_0:(List (Int × Int))) (a1f0_1:Int) (a1f0_2:(List (Int × Int × (List (Int × Int))))) (x1:Int):Option (Int ⊕ (Unit ⊕ Unit)) :=
 (bif (decide (x1 < ((a0).length:Int))) then (ix a0 x1 fun x21=>(bnd (sf101 N a1f0_0 a1f0_1 a1f0_2 x21.1 x21.2.1 x21.2.2) fun v27=>(bif (!v27) then some (.inr (.inl ())) else (ck (rng (x1+(1:Int))) (some (.inl (x1+(1:Int)))))))) else some (.inr (.inr ())))
def sf100 (N:Nat) (a0:(List (Int × Int × (List (Int × Int))))) (a1f0_0:(List (Int × Int))) (a1f0_1:Int) (a1f0_2:(List (Int × Int × (List (Int × Int))))):Option Bool :=
 bnd (iter (sf100_L1 N a0 a1f0_0 a1f0_1 a1f0_2) N (0:Int)) (sel (fun w16=>some false) (fun w18=>some true))
def sf69 (N:Nat) (a0_0:(List (Int × Int))) (a0_1:Int) (a0_2:(List (Int × Int × (List (Int × Int))))):Option Bool :=
 (bif (decide ((0:Int) < ((a0_0).length:Int))) then (bnd (sf98 N a0_0) fun v5=>(bif v5 then (bif (decide ((0:Int) ≤ a0_1)) then (bif (decide (a0_1 ≤ (20:Int))) then (bnd (sf100 N a0_2 a0_0 a0_1 a0_2) fun v11=>some v11) else some false) else some false) else some false)) else some false)
def sf21 (N:Nat) (a0_0:(List (Int × Int))) (a0_1:Int) (a0_2:(List (Int × Int × (List (Int × Int))))):Option Int :=
 bnd ((bif (decide ((6:Int) < ((a0_0).length:Int))) then some true else some (decide ((6:Int) < ((a0_2).length:Int)))):Option (Bool)) (fun y5=>(bif y5 then some (3:Int) else (bnd (sf69 N a0_0 a0_1 a0_2) fun v11=>(bif (!v11) then some (1:Int) else some (0:Int)))))
def sf32 (N:Nat) (a0 a1 a2:Int):Option Bool :=
 (bif (decide (a1 ≤ a0)) then some (decide (a0 ≤ a2)) else some false)
def sf90 (N:Nat) (a0_0 a0_1 a1 a2:Int):Option Bool :=
 (bnd (sf32 N a0_0 a1 a0_1) fun v4=>(bif v4 then some (decide (a0_1 ≤ a2)) else some false))
def sf73_L1 (N:Nat) (a0_0:(List (Int × Int))) (x62:Int):Option (Int ⊕ (Int ⊕ Unit)) :=
 (bif (decide (x62 < ((a0_0).length:Int))) then (ix a0_0 x62 fun x79=>(bnd (sf90 N x79.1 x79.2 (-100:Int) (100:Int)) fun v80=>(bif (!v80) then some (.inr (.inl (1:Int))) else (ck (rng (x62+(1:Int))) (some (.inl (x62+(1:Int)))))))) else some (.inr (.inr ())))
def sf73_L2 (x387:(Int × Int × (List (Int × Int)))) (x397 x614:Int):Option (Int ⊕ (Int ⊕ Unit)) :=
 (bif (decide (x614 < x397)) then (ix x387.2.2 x614 fun x635=>(ix x387.2.2 x397 fun x636=>(bif (decide (x635.1 = x636.1)) then some (.inr (.inl (1:Int))) else (ck (rng (x614+(1:Int))) (some (.inl (x614+(1:Int)))))))) else some (.inr (.inr ())))
def sf73_L3 (N:Nat) (a0_0:(List (Int × Int))) (x387:(Int × Int × (List (Int × Int)))) (x397:Int):Option (Int ⊕ (Int ⊕ Unit)) :=
 (bif (decide (x397 < ((x387.2.2).length:Int))) then bnd (bnd ((ix x387.2.2 x397 fun x588=>(ck (rng (((a0_0).length:Int) - (1:Int))) ((bnd (sf32 N x588.1 (0:Int) (((a0_0).length:Int) - (1:Int))) fun v590=>(bif (!v590) then some true else (ix x387.2.2 x397 fun x594=>(bnd (sf32 N x594.2 (-1000:Int) (2000:Int)) fun v595=>some (!v595)))))))):Option (Bool)) (fun y583=>(bif y583 then some (.inl (1:Int)) else some (.inr ()))):Option (Int ⊕ Unit)) (sel (fun w568=>some (.inr (.inl w568))) (fun w570=>bnd (iter (sf73_L2 x387 x397) N (0:Int)) (sel (fun w629=>some (.inr (.inl w629))) (fun w631=>(ck (rng (x397+(1:Int))) (some (.inl (x397+(1:Int))))))))) else some (.inr (.inr ())))
def sf73_L4 (N:Nat) (a0_0:(List (Int × Int))) (a0_2:(List (Int × Int × (List (Int × Int))))) (x93:Int):Option (Int ⊕ (Int ⊕ Unit)) :=
 (bif (decide (x93 < ((a0_2).length:Int))) then (ix a0_2 x93 fun x387=>(bnd (sf90 N x387.1 x387.2.1 (0:Int) (1000:Int)) fun v393=>(bif (!v393) then some (.inr (.inl (1:Int))) else bnd (iter (sf73_L3 N a0_0 x387) N (0:Int)) (sel (fun w528=>some (.inr (.inl w528))) (fun w530=>(ck (rng (x93+(1:Int))) (some (.inl (x93+(1:Int)))))))))) else some (.inr (.inr ())))
def sf73 (N:Nat) (a0_0:(List (Int × Int))) (a0_1:Int) (a0_2:(List (Int × Int × (List (Int × Int))))):Option Int :=
 bnd (bnd ((bif (decide ((6:Int) < ((a0_0).length:Int))) then some true else some (decide ((6:Int) < ((a0_2).length:Int)))):Option (Bool)) (fun y19=>(bif y19 then some (.inl (3:Int)) else some (.inr ()))):Option (Int ⊕ Unit)) (sel (fun w14=>some w14) (fun w16=>bnd (bnd ((bif (decide (((a0_0).length:Int) = (0:Int))) then some true else (bnd (sf32 N a0_1 (0:Int) (20:Int)) fun v55=>some (!v55))):Option (Bool)) (fun y50=>(bif y50 then some (.inl (1:Int)) else some (.inr ()))):Option (Int ⊕ Unit)) (sel (fun w42=>some w42) (fun w44=>bnd (iter (sf73_L1 N a0_0) N (0:Int)) (sel (fun w74=>some w74) (fun w76=>bnd (iter (sf73_L4 N a0_0 a0_2) N (0:Int)) (sel (fun w382=>some w382) (fun w384=>some (0:Int)))))))))
def sf25 (N:Nat) (a0_0:(List (Int × Int))) (a0_1:Int) (a0_2:(List (Int × Int × (List (Int × Int))))):Option Int :=
 (bnd (sf73 N a0_0 a0_1 a0_2) fun v4=>some v4)
def sf60 (N:Nat) (a0_0:(List (Int × Int))) (a0_1:Int) (a0_2:(List (Int × Int × (List (Int × Int))))):Option Bool :=
 (bnd (sf19 N a0_0 a0_1 a0_2) fun v4=>(bif v4 then (bnd (sf25 N a0_0 a0_1 a0_2) fun v8=>some (decide (v8 = (0:Int)))) else some false))
def sf107_L1 (a0_2:(List (Int × Int × (List (Int × Int))))) (x12:((List (Int × Int)) × Int)):Option (((List (Int × Int)) × Int) ⊕ (List (Int × Int))) :=
 (bif (decide (x12.2 < ((a0_2).length:Int))) then (ix a0_2 x12.2 fun x33=>(ck (rng (-x33.2.1)) ((ck (rng (-x33.1)) ((ck ((x12.1.length+1) * 16 ≤ 35184372088832 ∧ x12.1.length+1 ≤ 35184372088832) ((ck (rng (x12.2+(1:Int))) (some (.inl ((x12.1 ++ [((-x33.2.1),(-x33.1))]),(x12.2+(1:Int))))))))))))) else some (.inr x12.1))
def sf107_L2 (y29:(List (Int × Int))) (x122:(Int × (Nat → Int))) (x193:(Int × Int)) (x218:(Int × (Nat → Int))):Option ((Int × (Nat → Int)) ⊕ (Nat → Int)) :=
 (bif (decide (x218.1 < ((y29).length:Int))) then (ix y29 x218.1 fun x239=>(bif (!(decide (x122.1 = x218.1))) then (ck (rng (x239.2 - x193.1)) ((ck (0 ≤ x122.1 ∧ x122.1 < 13) ((ck (0 ≤ x218.1 ∧ x218.1 < 13) ((ck (rng (x218.1+(1:Int))) (some (.inl ((x218.1+(1:Int)),(ups x218.2 (((Int.toNat x122.1) * 13)+(Int.toNat x218.1)) (x239.2 - x193.1)))))))))))) else (ck (rng (x218.1+(1:Int))) (some (.inl ((x218.1+(1:Int)),x218.2)))))) else some (.inr x218.2))
def sf107_L3 (N:Nat) (y29:(List (Int × Int))) (x122:(Int × (Nat → Int))):Option ((Int × (Nat → Int)) ⊕ (Nat → Int)) :=
 (bif (decide (x122.1 < ((y29).length:Int))) then (ix y29 x122.1 fun x193=>bnd (iter (sf107_L2 y29 x122 x193) N ((0:Int),x122.2)) (fun y236=>(ck (rng (x122.1+(1:Int))) (some (.inl ((x122.1+(1:Int)),y236)))))) else some (.inr x122.2))
def sf107 (N:Nat) (a0_0:(List (Int × Int))) (a0_1:Int) (a0_2:(List (Int × Int × (List (Int × Int))))):Option ((List (Int × Int)) × Int × (List (Int × Int × (List (Int × Int)))) × Int × (Nat → Int)) :=
 (ck (([((0:Int),(0:Int))].length+a0_0.length) * 16 ≤ 35184372088832 ∧ [((0:Int),(0:Int))].length+a0_0.length ≤ 35184372088832) (bnd (iter (sf107_L1 a0_2) N (([((0:Int),(0:Int))] ++ a0_0),(0:Int))) (fun y29=>bnd (iter (sf107_L3 N y29) N ((0:Int),(fun _=>0))) (fun y190=>some (a0_0,a0_1,a0_2,((y29).length:Int),y190)))))
def sf81 (N:Nat) (a0_0 a0_1:Int):Option Bool :=
 some true
def sf106 (N:Nat) (a0_0:(List (Int × Int))) (a0_1:Int) (a0_2:(List (Int × Int × (List (Int × Int))))) (a1:Int):Option Int :=
 (ck (rng ((1:Int)+((a0_0).length:Int))) ((ck (rng (((1:Int)+((a0_0).length:Int))+a1)) (some (((1:Int)+((a0_0).length:Int))+a1)))))
def sf105 (N:Nat) (a0_0:(List (Int × Int))) (a0_1:Int) (a0_2:(List (Int × Int × (List (Int × Int))))) (a1:Int):Option Int :=
 (ck (rng ((1:Int)+a1)) (some ((1:Int)+a1)))
def sf134 (N:Nat) (a0p0:(List (Int × Int))) (a0p1:Int) (a0p2:(List (Int × Int × (List (Int × Int))))) (a0p3:Int) (a0p4:(Nat → Int)) (a1 a2 a3:Int):Option Bool :=
 (ck (0 ≤ a2 ∧ a2 < 13) ((ck (0 ≤ a1 ∧ a1 < 13) ((ck (rng (a3+(a0p4 (((Int.toNat a2) * 13)+(Int.toNat a1))))) (some (decide ((0:Int) ≤ (a3+(a0p4 (((Int.toNat a2) * 13)+(Int.toNat a1))))))))))))
def sf80_L1 (v13:((List (Int × Int)) × Int × (List (Int × Int × (List (Int × Int)))) × Int × (Nat → Int))) (x8041:(Int × Int)) (v8546 v8550:Int) (x8634:(Int × (Nat → Int))) (x8736:(Int × (Nat → Int))):Option ((Int × (Nat → Int)) ⊕ (Nat → Int)) :=
 (bif (decide (x8736.1 < v13.2.2.2.1)) then (ck (0 ≤ v8550 ∧ v8550 < 13) ((ck (0 ≤ x8736.1 ∧ x8736.1 < 13) ((ck (rng (((x8634.2 (((Int.toNat x8634.1) * 13)+(Int.toNat v8546)))+(x8041.2+v13.2.1))+(x8736.2 (((Int.toNat v8550) * 13)+(Int.toNat x8736.1))))) ((ck (0 ≤ x8634.1 ∧ x8634.1 < 13) ((ck (0 ≤ x8736.1 ∧ x8736.1 < 13) ((bif (decide ((((x8634.2 (((Int.toNat x8634.1) * 13)+(Int.toNat v8546)))+(x8041.2+v13.2.1))+(x8736.2 (((Int.toNat v8550) * 13)+(Int.toNat x8736.1)))) < (x8736.2 (((Int.toNat x8634.1) * 13)+(Int.toNat x8736.1))))) then (ck (0 ≤ x8634.1 ∧ x8634.1 < 13) ((ck (0 ≤ x8736.1 ∧ x8736.1 < 13) ((ck (rng (x8736.1+(1:Int))) (some (.inl ((x8736.1+(1:Int)),(ups x8736.2 (((Int.toNat x8634.1) * 13)+(Int.toNat x8736.1)) (((x8634.2 (((Int.toNat x8634.1) * 13)+(Int.toNat v8546)))+(x8041.2+v13.2.1))+(x8736.2 (((Int.toNat v8550) * 13)+(Int.toNat x8736.1))))))))))))) else (ck (rng (x8736.1+(1:Int))) (some (.inl ((x8736.1+(1:Int)),x8736.2))))))))))))))) else some (.inr x8736.2))
def sf80_L2 (N:Nat) (v13:((List (Int × Int)) × Int × (List (Int × Int × (List (Int × Int)))) × Int × (Nat → Int))) (x8041:(Int × Int)) (v8546 v8550:Int) (x8634:(Int × (Nat → Int))):Option ((Int × (Nat → Int)) ⊕ (Nat → Int)) :=
 (bif (decide (x8634.1 < v13.2.2.2.1)) then (ck (0 ≤ x8634.1 ∧ x8634.1 < 13) ((ck (0 ≤ v8546 ∧ v8546 < 13) ((ck (rng ((x8634.2 (((Int.toNat x8634.1) * 13)+(Int.toNat v8546)))+(x8041.2+v13.2.1))) ((ck (0 ≤ x8634.1 ∧ x8634.1 < 13) ((ck (0 ≤ v8550 ∧ v8550 < 13) ((bif (decide ((x8634.2 (((Int.toNat x8634.1) * 13)+(Int.toNat v8550))) ≤ ((x8634.2 (((Int.toNat x8634.1) * 13)+(Int.toNat v8546)))+(x8041.2+v13.2.1)))) then (ck (rng (x8634.1+(1:Int))) (some (.inl ((x8634.1+(1:Int)),x8634.2)))) else bnd (iter (sf80_L1 v13 x8041 v8546 v8550 x8634) N ((0:Int),x8634.2)) (fun y8754=>(ck (rng (x8634.1+(1:Int))) (some (.inl ((x8634.1+(1:Int)),y8754)))))))))))))))) else some (.inr x8634.2))
def sf80_L3 (v13:((List (Int × Int)) × Int × (List (Int × Int × (List (Int × Int)))) × Int × (Nat → Int))) (x8041:(Int × Int)) (v8546 v8550:Int) (x8864:(Int × (Nat → Int))) (x8971:(Int × (Nat → Int))):Option ((Int × (Nat → Int)) ⊕ (Nat → Int)) :=
 (bif (decide (x8971.1 < v13.2.2.2.1)) then (ck (0 ≤ v8546 ∧ v8546 < 13) ((ck (0 ≤ x8971.1 ∧ x8971.1 < 13) ((ck (rng (((x8864.2 (((Int.toNat x8864.1) * 13)+(Int.toNat v8550)))+(v13.2.1 - x8041.2))+(x8971.2 (((Int.toNat v8546) * 13)+(Int.toNat x8971.1))))) ((ck (0 ≤ x8864.1 ∧ x8864.1 < 13) ((ck (0 ≤ x8971.1 ∧ x8971.1 < 13) ((bif (decide ((((x8864.2 (((Int.toNat x8864.1) * 13)+(Int.toNat v8550)))+(v13.2.1 - x8041.2))+(x8971.2 (((Int.toNat v8546) * 13)+(Int.toNat x8971.1)))) < (x8971.2 (((Int.toNat x8864.1) * 13)+(Int.toNat x8971.1))))) then (ck (0 ≤ x8864.1 ∧ x8864.1 < 13) ((ck (0 ≤ x8971.1 ∧ x8971.1 < 13) ((ck (rng (x8971.1+(1:Int))) (some (.inl ((x8971.1+(1:Int)),(ups x8971.2 (((Int.toNat x8864.1) * 13)+(Int.toNat x8971.1)) (((x8864.2 (((Int.toNat x8864.1) * 13)+(Int.toNat v8550)))+(v13.2.1 - x8041.2))+(x8971.2 (((Int.toNat v8546) * 13)+(Int.toNat x8971.1))))))))))))) else (ck (rng (x8971.1+(1:Int))) (some (.inl ((x8971.1+(1:Int)),x8971.2))))))))))))))) else some (.inr x8971.2))
def sf80_L4 (N:Nat) (v13:((List (Int × Int)) × Int × (List (Int × Int × (List (Int × Int)))) × Int × (Nat → Int))) (x8041:(Int × Int)) (v8546 v8550:Int) (x8864:(Int × (Nat → Int))):Option ((Int × (Nat → Int)) ⊕ (Nat → Int)) :=
 (bif (decide (x8864.1 < v13.2.2.2.1)) then (ck (0 ≤ x8864.1 ∧ x8864.1 < 13) ((ck (0 ≤ v8550 ∧ v8550 < 13) ((ck (rng ((x8864.2 (((Int.toNat x8864.1) * 13)+(Int.toNat v8550)))+(v13.2.1 - x8041.2))) ((ck (0 ≤ x8864.1 ∧ x8864.1 < 13) ((ck (0 ≤ v8546 ∧ v8546 < 13) ((bif (decide ((x8864.2 (((Int.toNat x8864.1) * 13)+(Int.toNat v8546))) ≤ ((x8864.2 (((Int.toNat x8864.1) * 13)+(Int.toNat v8550)))+(v13.2.1 - x8041.2)))) then (ck (rng (x8864.1+(1:Int))) (some (.inl ((x8864.1+(1:Int)),x8864.2)))) else bnd (iter (sf80_L3 v13 x8041 v8546 v8550 x8864) N ((0:Int),x8864.2)) (fun y8990=>(ck (rng (x8864.1+(1:Int))) (some (.inl ((x8864.1+(1:Int)),y8990)))))))))))))))) else some (.inr x8864.2))
def sf80_L5 (N:Nat) (v13:((List (Int × Int)) × Int × (List (Int × Int × (List (Int × Int)))) × Int × (Nat → Int))) (x3032:(Int × (Nat → Int))) (x6039:(Int × Int × (List (Int × Int)))) (x7044:(Int × (Nat → Int))):Option ((Int × (Nat → Int)) ⊕ ((Nat → Int) ⊕ (Nat → Int))) :=
 (bif (decide (x7044.1 < ((x6039.2.2).length:Int))) then (ix x6039.2.2 x7044.1 fun x8041=>bnd ((bnd (sf81 N x8041.1 x8041.2) fun v8538=>(bif v8538 then (bnd (sf106 N v13.1 v13.2.1 v13.2.2.1 x3032.1) fun v8546=>(bnd (sf105 N v13.1 v13.2.1 v13.2.2.1 x8041.1) fun v8550=>(ck (rng (x8041.2+v13.2.1)) ((bnd (sf134 N v13.1 v13.2.1 v13.2.2.1 v13.2.2.2.1 x7044.2 v8546 v8550 (x8041.2+v13.2.1)) fun v8556=>(bif (!v8556) then some ((!false),x7044.2) else bnd (iter (sf80_L2 N v13 x8041 v8546 v8550) N ((0:Int),x7044.2)) (fun y8706=>(ck (rng (v13.2.1 - x8041.2)) ((bnd (sf134 N v13.1 v13.2.1 v13.2.2.1 v13.2.2.2.1 y8706 v8550 v8546 (v13.2.1 - x8041.2)) fun v8782=>(bif (!v8782) then some ((!false),y8706) else bnd (iter (sf80_L4 N v13 x8041 v8546 v8550) N ((0:Int),y8706)) (fun y8940=>some ((!true),y8940))))))))))))) else some (false,x7044.2))):Option ((Bool × (Nat → Int)))) (fun y8534=>(bif y8534.1 then some (.inr (.inl y8534.2)) else (ck (rng (x7044.1+(1:Int))) (some (.inl ((x7044.1+(1:Int)),y8534.2))))))) else some (.inr (.inr x7044.2)))
def sf80_L6 (N:Nat) (a0_2:(List (Int × Int × (List (Int × Int))))) (v13:((List (Int × Int)) × Int × (List (Int × Int × (List (Int × Int)))) × Int × (Nat → Int))) (x3032:(Int × (Nat → Int))):Option ((Int × (Nat → Int)) ⊕ ((Nat → Int) ⊕ (Nat → Int))) :=
 (bif (decide (x3032.1 < ((a0_2).length:Int))) then (ix a0_2 x3032.1 fun x6039=>bnd (iter (sf80_L5 N v13 x3032 x6039) N ((0:Int),x3032.2)) (sel (fun w8036=>some (.inr (.inl w8036))) (fun w8038=>(ck (rng (x3032.1+(1:Int))) (some (.inl ((x3032.1+(1:Int)),w8038))))))) else some (.inr (.inr x3032.2)))
def sf80 (N:Nat) (a0_0:(List (Int × Int))) (a0_1:Int) (a0_2:(List (Int × Int × (List (Int × Int))))):Option ((List (Int × Int)) × Int × (List (Int × Int × (List (Int × Int)))) × Int × (Nat → Int) × Bool) :=
 (bnd (sf107 N a0_0 a0_1 a0_2) fun v13=>bnd (iter (sf80_L6 N a0_2 v13) N ((0:Int),v13.2.2.2.2)) (sel (fun w6034=>some ([],(0:Int),[],(0:Int),(fun _=>0),false)) (fun w6036=>some (v13.1,v13.2.1,v13.2.2.1,v13.2.2.2.1,w6036,true))))
def sf74 (N:Nat) (a0_0:(List (Int × Int))) (a0_1:Int) (a0_2:(List (Int × Int × (List (Int × Int))))) (a1:Bool):Option ((List (Int × Int)) × Int × (List (Int × Int × (List (Int × Int)))) × Int × (Nat → Int) × Int) :=
 (bnd (sf21 N a0_0 a0_1 a0_2) fun v7=>(bif (!(decide (v7 = (0:Int)))) then some ([],(0:Int),[],(0:Int),(fun _=>0),v7) else (bif (!a1) then some ([],(0:Int),[],(0:Int),(fun _=>0),(2:Int)) else (bnd (sf80 N a0_0 a0_1 a0_2) fun v14=>(bif (!v14.2.2.2.2.2) then some ([],(0:Int),[],(0:Int),(fun _=>0),(9:Int)) else some (v14.1,v14.2.1,v14.2.2.1,v14.2.2.2.1,v14.2.2.2.2.1,(0:Int)))))))
def sf104 (N:Nat):Option Unit :=
 some ()
def sf127 (N:Nat) (a0p0:(List (Int × Int))) (a0p1:Int) (a0p2:(List (Int × Int × (List (Int × Int))))) (a0p3:Int) (a0p4:(Nat → Int)) (a1:Int):Option Int :=
 (ck (0 ≤ a1 ∧ a1 < 13) ((ck (0 ≤ (0:Int) ∧ (0:Int) < 13) ((ck (rng (-(a0p4 (((Int.toNat a1) * 13)+(Int.toNat (0:Int)))))) (some (-(a0p4 (((Int.toNat a1) * 13)+(Int.toNat (0:Int)))))))))))
def sf128 (N:Nat) (a0p0:(List (Int × Int))) (a0p1:Int) (a0p2:(List (Int × Int × (List (Int × Int))))) (a0p3:Int) (a0p4:(Nat → Int)) (a1:Int):Option Int :=
 (ck (0 ≤ (0:Int) ∧ (0:Int) < 13) ((ck (0 ≤ a1 ∧ a1 < 13) (some (a0p4 (((Int.toNat (0:Int)) * 13)+(Int.toNat a1)))))))
def sf75 (N:Nat) (a0p0:(List (Int × Int))) (a0p1:Int) (a0p2:(List (Int × Int × (List (Int × Int))))) (a0p3:Int) (a0p4:(Nat → Int)) (a1:Int):Option (Int × Int) :=
 (bnd (sf104 N ) fun v4=>(bnd (sf105 N a0p0 a0p1 a0p2 a1) fun v7=>(bnd (sf127 N a0p0 a0p1 a0p2 a0p3 a0p4 v7) fun v12=>(bnd (sf128 N a0p0 a0p1 a0p2 a0p3 a0p4 v7) fun v16=>some (v12,v16)))))
def sf27_L1 (N:Nat) (a0_0:(List (Int × Int))) (v4:((List (Int × Int)) × Int × (List (Int × Int × (List (Int × Int)))) × Int × (Nat → Int) × Int)) (x15:((List (Int × Int)) × Int)):Option (((List (Int × Int)) × Int) ⊕ (List (Int × Int))) :=
 (bif (decide (x15.2 < ((a0_0).length:Int))) then (bnd (sf75 N v4.1 v4.2.1 v4.2.2.1 v4.2.2.2.1 v4.2.2.2.2.1 x15.2) fun v32=>(ck ((x15.1.length+1) * 16 ≤ 35184372088832 ∧ x15.1.length+1 ≤ 35184372088832) ((ck (rng (x15.2+(1:Int))) (some (.inl ((x15.1 ++ [(v32.1,v32.2)]),(x15.2+(1:Int))))))))) else some (.inr x15.1))
def sf27 (N:Nat) (a0_0:(List (Int × Int))) (a0_1:Int) (a0_2:(List (Int × Int × (List (Int × Int))))):Option ((List (Int × Int)) × Int) :=
 (bnd (sf74 N a0_0 a0_1 a0_2 true) fun v4=>(bif (!(decide (v4.2.2.2.2.2 = (0:Int)))) then some ([],v4.2.2.2.2.2) else (ck (0 ≤ (0:Int) ∧ 0 ≤ ((a0_0).length:Int) ∧ Int.toNat (0:Int) ≤ Int.toNat ((a0_0).length:Int) ∧ (Int.toNat ((a0_0).length:Int) * 16 ≤ 35184372088832 ∧ Int.toNat ((a0_0).length:Int) ≤ 35184372088832)) (bnd (iter (sf27_L1 N a0_0 v4) N ((List.replicate (Int.toNat (0:Int)) (0,0)),(0:Int))) (fun y28=>some (y28,(0:Int)))))))
def sf76 (N:Nat) (a0p0:(List (Int × Int))) (a0p1:Int) (a0p2:(List (Int × Int × (List (Int × Int))))) (a0p3:Int) (a0p4:(Nat → Int)) (a1:Int):Option (Int × Int) :=
 (bnd (sf104 N ) fun v4=>(bnd (sf106 N a0p0 a0p1 a0p2 a1) fun v7=>(bnd (sf128 N a0p0 a0p1 a0p2 a0p3 a0p4 v7) fun v12=>(ck (rng (-v12)) ((bnd (sf127 N a0p0 a0p1 a0p2 a0p3 a0p4 v7) fun v17=>(ck (rng (-v17)) (some ((-v12),(-v17))))))))))
def sf28_L1 (N:Nat) (a0_2:(List (Int × Int × (List (Int × Int))))) (v4:((List (Int × Int)) × Int × (List (Int × Int × (List (Int × Int)))) × Int × (Nat → Int) × Int)) (x15:((List (Int × Int)) × Int)):Option (((List (Int × Int)) × Int) ⊕ (List (Int × Int))) :=
 (bif (decide (x15.2 < ((a0_2).length:Int))) then (bnd (sf76 N v4.1 v4.2.1 v4.2.2.1 v4.2.2.2.1 v4.2.2.2.2.1 x15.2) fun v32=>(ck ((x15.1.length+1) * 16 ≤ 35184372088832 ∧ x15.1.length+1 ≤ 35184372088832) ((ck (rng (x15.2+(1:Int))) (some (.inl ((x15.1 ++ [(v32.1,v32.2)]),(x15.2+(1:Int))))))))) else some (.inr x15.1))
def sf28 (N:Nat) (a0_0:(List (Int × Int))) (a0_1:Int) (a0_2:(List (Int × Int × (List (Int × Int))))):Option ((List (Int × Int)) × Int) :=
 (bnd (sf74 N a0_0 a0_1 a0_2 true) fun v4=>(bif (!(decide (v4.2.2.2.2.2 = (0:Int)))) then some ([],v4.2.2.2.2.2) else (ck (0 ≤ (0:Int) ∧ 0 ≤ ((a0_2).length:Int) ∧ Int.toNat (0:Int) ≤ Int.toNat ((a0_2).length:Int) ∧ (Int.toNat ((a0_2).length:Int) * 16 ≤ 35184372088832 ∧ Int.toNat ((a0_2).length:Int) ≤ 35184372088832)) (bnd (iter (sf28_L1 N a0_2 v4) N ((List.replicate (Int.toNat (0:Int)) (0,0)),(0:Int))) (fun y28=>some (y28,(0:Int)))))))
def sf64_L1 (a0:(List (Int × Int))) (a1:(List (Int × Int))) (x2:Int):Option (Int ⊕ (Unit ⊕ Unit)) :=
 (bif (decide (x2 < ((a0).length:Int))) then bnd ((ix a0 x2 fun x41=>(ix a1 x2 fun x42=>(bif (decide (x41.1 < x42.1)) then some true else (ix a0 x2 fun x44=>(ix a1 x2 fun x45=>some (decide (x45.2 < x44.2))))))):Option (Bool)) (fun y36=>(bif y36 then some (.inr (.inl ())) else (ck (rng (x2+(1:Int))) (some (.inl (x2+(1:Int))))))) else some (.inr (.inr ())))
def sf64 (N:Nat) (a0:(List (Int × Int))) (a1:(List (Int × Int))):Option Bool :=
 (bif (!(decide (((a0).length:Int) = ((a1).length:Int)))) then some false else bnd (iter (sf64_L1 a0 a1) N (0:Int)) (sel (fun w25=>some false) (fun w27=>some true)))
def sf57 (N:Nat) (a0 a1:Int):Option (Int × Int) :=
 some (a0,a1)
def sf16_L1 (a0_0:(List (Int × Int))) (a0_2:(List (Int × Int × (List (Int × Int))))) (a1 a2:Int) (x149:(Int × (List (Int × Int × (List (Int × Int)))))) (x316:(Int × (List (Int × Int)))):Option ((Int × (List (Int × Int))) ⊕ (List (Int × Int))) :=
 (ix a0_2 x149.1 fun x351=>(bif (decide (x316.1 < ((x351.2.2).length:Int))) then (ix a0_2 x149.1 fun x354=>(ix x354.2.2 x316.1 fun x356=>bnd ((bif (decide (x356.1 = (Int.tmod a1 ((a0_0).length:Int)))) then (ck (rng (x356.2+a2)) (some (x356.2+a2))) else some x356.2):Option (Int)) (fun y364=>(ck ((x316.2.length+1) * 16 ≤ 35184372088832 ∧ x316.2.length+1 ≤ 35184372088832) ((ck (rng (x316.1+(1:Int))) (some (.inl ((x316.1+(1:Int)),(x316.2 ++ [(x356.1,y364)])))))))))) else some (.inr x316.2)))
def sf16_L2 (N:Nat) (a0_0:(List (Int × Int))) (a0_2:(List (Int × Int × (List (Int × Int))))) (a1 a2:Int) (x149:(Int × (List (Int × Int × (List (Int × Int)))))):Option ((Int × (List (Int × Int × (List (Int × Int))))) ⊕ (List (Int × Int × (List (Int × Int))))) :=
 (bif (decide (x149.1 < ((a0_2).length:Int))) then (ix a0_2 x149.1 fun x274=>bnd (iter (sf16_L1 a0_0 a0_2 a1 a2 x149) N ((0:Int),([]:List (Int × Int)))) (fun y348=>(ck ((x149.2.length+1) * 40 ≤ 35184372088832 ∧ x149.2.length+1 ≤ 35184372088832) ((ck (rng (x149.1+(1:Int))) (some (.inl ((x149.1+(1:Int)),(x149.2 ++ [(x274.1,x274.2.1,y348)]))))))))) else some (.inr x149.2))
def sf16_L3 (N:Nat) (a0_0:(List (Int × Int))) (a1 a2:Int) (v399:((List (Int × Int)) × Int)) (v615:((List (Int × Int)) × Int)) (x767:Int):Option (Int ⊕ (Unit ⊕ Unit)) :=
 (bif (decide (x767 < ((v399.1).length:Int))) then bnd ((bif (decide (x767 = (Int.tmod a1 ((a0_0).length:Int)))) then some a2 else some (0:Int)):Option (Int)) (fun y821=>(ix v615.1 x767 fun x840=>(ix v399.1 x767 fun x841=>(ck (rng (x841.1+y821)) ((ix v399.1 x767 fun x843=>(ck (rng (x843.2+y821)) ((bnd (sf57 N (x841.1+y821) (x843.2+y821)) fun v845=>(bif (!(x840.1 == v845.1 && (x840.2 == v845.2 && true))) then some (.inr (.inl ())) else (ck (rng (x767+(1:Int))) (some (.inl (x767+(1:Int))))))))))))))) else some (.inr (.inr ())))
def sf16 (N:Nat) (a0_0:(List (Int × Int))) (a0_1:Int) (a0_2:(List (Int × Int × (List (Int × Int))))) (a1 a2 a3:Int):Option Bool :=
 (bnd (sf60 N a0_0 a0_1 a0_2) fun v4=>(bif (!v4) then some true else (ck (IntKind.wrap .i64 a1 = a1) ((ck (((a0_0).length:Int) ≠ 0) ((ck (IntKind.wrap .i64 a2 = a2) ((ck ((([]:List (Int × Int)).length+a0_0.length) * 16 ≤ 35184372088832 ∧ ([]:List (Int × Int)).length+a0_0.length ≤ 35184372088832) ((ix a0_0 (Int.tmod a1 ((a0_0).length:Int)) fun x16=>(ck (rng (x16.1+a2)) ((ix a0_0 (Int.tmod a1 ((a0_0).length:Int)) fun x18=>(ck (rng (x18.2+a2)) ((ix a0_0 (Int.tmod a1 ((a0_0).length:Int)) fun x20=>bnd (iter (sf16_L2 N a0_0 a0_2 a1 a2) N ((0:Int),([]:List (Int × Int × (List (Int × Int)))))) (fun y270=>(bnd (sf22 N a0_0 a0_1 a0_2) fun v393=>(bnd (sf27 N v393.1 v393.2.1 v393.2.2) fun v399=>(bnd (sf22 N a0_0 a0_1 a0_2) fun v405=>(bnd (sf28 N v405.1 v405.2.1 v405.2.2) fun v413=>bnd ((bif (decide ((0:Int) < ((a0_2).length:Int))) then (ck (IntKind.wrap .i64 a3 = a3) ((ck (((a0_2).length:Int) ≠ 0) ((ck (0 ≤ (Int.tmod a3 ((a0_2).length:Int)) ∧ 0 ≤ ((a0_2).length:Int) ∧ ((Int.toNat (Int.tmod a3 ((a0_2).length:Int))) ≤ a0_2.length ∧ a0_2.length ≤ a0_2.length)) ((ck ((([]:List (Int × Int × (List (Int × Int)))).length+((a0_2.drop (Int.toNat (Int.tmod a3 ((a0_2).length:Int)))).take (a0_2.length - (Int.toNat (Int.tmod a3 ((a0_2).length:Int))))).length) * 40 ≤ 35184372088832 ∧ ([]:List (Int × Int × (List (Int × Int)))).length+((a0_2.drop (Int.toNat (Int.tmod a3 ((a0_2).length:Int)))).take (a0_2.length - (Int.toNat (Int.tmod a3 ((a0_2).length:Int))))).length ≤ 35184372088832) ((ck (0 ≤ 0 ∧ 0 ≤ (Int.tmod a3 ((a0_2).length:Int)) ∧ (0 ≤ (Int.toNat (Int.tmod a3 ((a0_2).length:Int))) ∧ (Int.toNat (Int.tmod a3 ((a0_2).length:Int))) ≤ a0_2.length)) ((ck ((((a0_2.drop (Int.toNat (Int.tmod a3 ((a0_2).length:Int)))).take (a0_2.length - (Int.toNat (Int.tmod a3 ((a0_2).length:Int))))).length+((a0_2.drop 0).take ((Int.toNat (Int.tmod a3 ((a0_2).length:Int))) - 0)).length) * 40 ≤ 35184372088832 ∧ ((a0_2.drop (Int.toNat (Int.tmod a3 ((a0_2).length:Int)))).take (a0_2.length - (Int.toNat (Int.tmod a3 ((a0_2).length:Int))))).length+((a0_2.drop 0).take ((Int.toNat (Int.tmod a3 ((a0_2).length:Int))) - 0)).length ≤ 35184372088832) ((bnd (sf22 N a0_0 a0_1 (((a0_2.drop (Int.toNat (Int.tmod a3 ((a0_2).length:Int)))).take (a0_2.length - (Int.toNat (Int.tmod a3 ((a0_2).length:Int))))) ++ ((a0_2.drop 0).take ((Int.toNat (Int.tmod a3 ((a0_2).length:Int))) - 0)))) fun v515=>(bnd (sf27 N v515.1 v515.2.1 v515.2.2) fun v532=>bnd ((bif (!(decide (v532.2 = v399.2))) then some true else (bnd (sf64 N v399.1 v532.1) fun v556=>(bif (!v556) then some true else (bnd (sf64 N v532.1 v399.1) fun v560=>some (!v560))))):Option (Bool)) (fun y551=>(bif y551 then some (.inl ()) else some (.inr ()))))))))))))))))) else some (.inr ())):Option (Unit ⊕ Unit)) (sel (fun w496=>some false) (fun w498=>(bnd (sf25 N (a0_0.set (Int.toNat (Int.tmod a1 ((a0_0).length:Int))) ((x16.1+a2),(x18.2+a2))) a0_1 y270) fun v582=>(bif (!(decide (v582 = (0:Int)))) then some true else (bnd (sf22 N (a0_0.set (Int.toNat (Int.tmod a1 ((a0_0).length:Int))) ((x16.1+a2),(x18.2+a2))) a0_1 y270) fun v587=>(bnd (sf27 N v587.1 v587.2.1 v587.2.2) fun v615=>(bnd (sf22 N (a0_0.set (Int.toNat (Int.tmod a1 ((a0_0).length:Int))) ((x16.1+a2),(x18.2+a2))) a0_1 y270) fun v628=>(bnd (sf28 N v628.1 v628.2.1 v628.2.2) fun v643=>bnd (bnd ((bif (!(decide (v399.2 = v413.2))) then some true else (bif (!(decide (v615.2 = v399.2))) then some true else (bif (!(decide (v643.2 = v399.2))) then some true else (bif (!(decide (((v615.1).length:Int) = ((v399.1).length:Int)))) then some true else (bnd (sf64 N v413.1 v643.1) fun v723=>(bif (!v723) then some true else (bnd (sf64 N v643.1 v413.1) fun v727=>some (!v727)))))))):Option (Bool)) (fun y715=>(bif y715 then some (.inl ()) else some (.inr ()))):Option (Unit ⊕ Unit)) (sel (fun w700=>some false) (fun w702=>bnd (iter (sf16_L3 N a0_0 a1 a2 v399 v615) N (0:Int)) (sel (fun w815=>some false) (fun w817=>(bif (decide (v399.2 = (0:Int))) then some true else (bif (decide (v399.2 = (9:Int))) then some true else some false))))))))))))))))))))))))))))))))))))
end Go.Hx.V

namespace Go.Hx.V
open Go.Hx
set_option maxRecDepth 20000
set_option maxHeartbeats 4000000
variable {fl : Nat} {h0 : Tr HBlk} {n0 : Nat} {F0 : PH}
attribute [local irreducible] W R C thenH inBlockH Tr.get Tr.set lo ck bnd ix iter
theorem ct19 (N:Nat) {a0_0:(List (Int × Int))} {a0_1:Int} {a0_2:(List (Int × Int × (List (Int × Int))))} {r:Bool} (hF:sf19 N a0_0 a0_1 a0_2 = some r) (hd:D h0 n0) (hs:F0.sub h0) {pa0_0:Option (Nat × Nat)} {ca0_0:Nat} {pa0_2:Option (Nat × Nat)} {ca0_2:Nat} (ra0_0:RowF (rP rI rI) 2 F0 pa0_0 ca0_0 a0_0) (ra0_2:RowF (rP rI (rP rI (rL (rP rI rI) 2))) 3 F0 pa0_2 ca0_2 a0_2):C LW fl 19 [(.agg [(.slice pa0_0 (a0_0).length ca0_0),(i64 a0_1),(.slice pa0_2 (a0_2).length ca0_2)])] ⟨h0,n0⟩ (KS (.bool r) n0 h0):=by
 unfold sf19 at hF
 refine yg hd hs lw19 rfl rfl (by rfl) (fun st T hT=>?_)
 have hfl:n0 ≤ n0:=Nat.le_refl n0
 have t0:=hT 0 _ rfl
 dsimp only [L19]
 refine zd (zg ?_);refine yi st (fun b1 h2 n3 st=>?_);refine za ?_;refine zb (th_n ?_);refine zd ?_;refine zd (zg ?_);refine za ?_;refine zb (th_n ?_);refine zx ?_;obtain ⟨y35,hy,hF⟩:=zj hF;refine zW (sf19_L1 a0_2) (fun x4 T ds5 h nx=>∃ (F5:PH),ds5 = [] ∧ PH.le F0 F5 ∧ St n0 h0 F0 F5 h nx [.bx b1 [(.slice pa0_0 (a0_0).length ca0_0),(i64 a0_1),(.slice pa0_2 (a0_2).length ca0_2)]] ∧ T.get 1 = some (.ptr (some (b1,0))) ∧ T.get 3 = some (i64 x4)) (fun y e a σ=>(∃ u,y = (.inl u) ∧ e = .exit 0 ∧ a.nt = 33 ∧ ∃ (F37:PH),a.defers = [] ∧ PH.le F0 F37 ∧ St n0 h0 F0 F37 σ.h σ.nx [.bx b1 [(.slice pa0_0 (a0_0).length ca0_0),(i64 a0_1),(.slice pa0_2 (a0_2).length ca0_2)]] ∧ a.tmps.get 1 = some (.ptr (some (b1,0)))) ∨ (∃ u,y = (.inr u) ∧ e = .ret ∧ a.nt = 33 ∧ ∃ (F39:PH),a.defers = [] ∧ PH.le F0 F39 ∧ St n0 h0 F0 F39 σ.h σ.nx [.bx b1 [(.slice pa0_0 (a0_0).length ca0_0),(i64 a0_1),(.slice pa0_2 (a0_2).length ca0_2)]] ∧ a.tmps.get 2 = some (.bool false))) (fun x4 T ds5 h nx s hp hF=>?_) N _ y35 _ _ _ _ hy ⟨F0,rfl,(PH.le.refl _),st,gA,gA⟩ (fun e a σ hne hq=>?_)
 ·obtain ⟨F5,rfl,le5,st,t1,t3⟩:=hp;unfold sf19_L1 at hF;unfold L19w0;obtain ⟨y48,hA49,hF⟩:=zj hF;refine yt (fun T ds52 h nx=>∃ u,y48 = (.inl u) ∧ ∃ (F52:PH),ds52 = [] ∧ PH.le F5 F52 ∧ St n0 h0 F0 F52 h nx [.bx b1 [(.slice pa0_0 (a0_0).length ca0_0),(i64 a0_1),(.slice pa0_2 (a0_2).length ca0_2)]] ∧ T.get 1 = some (.ptr (some (b1,0))) ∧ T.get 3 = some (i64 x4)) ?_ (fun T ds52 h nx hp=>?_)
  ·have hK50:=hF
   have hF:=hA49;obtain ⟨y56,hA57,hF⟩:=zj hF;refine yt (fun T ds59 h nx=>∃ (F59:PH),ds59 = [] ∧ PH.le F5 F59 ∧ St n0 h0 F0 F59 h nx [.bx b1 [(.slice pa0_0 (a0_0).length ca0_0),(i64 a0_1),(.slice pa0_2 (a0_2).length ca0_2)]] ∧ T.get 1 = some (.ptr (some (b1,0))) ∧ T.get 3 = some (i64 x4) ∧ T.get 12 = some (.bool y56)) ?_ (fun T ds59 h nx hp=>?_)
   ·have hK58:=hF
    have hF:=hA57;refine zg ?_;refine za ?_;refine v_fa ?_;refine zq (st.at (i:=0) rfl).2.2 rfl ?_;refine z2 ?_;refine yc ?_;refine za ?_
    rcases Bool.eq_false_or_eq_true (decide (x4 < ((a0_2).length:Int))) with hb60 | hb60
    ·have hF:=zy hb60 hF;refine zk hb60 (za ?_);refine zk hb60 (yc ?_);refine zK hb60 ?_;refine zb ?_;obtain rfl:=inj hF;refine thn ⟨rfl,?_⟩;dsimp only
     exact ⟨F5,rfl,(PH.le.refl _),st,gA,gA,gA⟩
    ·have hF:=zA hb60 hF;refine zf hb60 ?_;refine zf hb60 ?_;refine zI hb60 ?_;refine zb ?_;obtain rfl:=inj hF;refine thn ⟨rfl,?_⟩;dsimp only
     exact ⟨F5,rfl,(PH.le.refl _),st,gA,gA,gA⟩
   ·obtain ⟨F59,rfl,le59,st,t1,t3,t12⟩:=hp
    have le61:=PH.le.trans le5 le59
    refine zE (fun hb62=>?_) (fun hb62=>?_)
    ·have hF:=zy hb62 hF;refine zF ?_;obtain rfl:=inj hF;refine thn ⟨rfl,_,rfl,?_⟩;dsimp only
     exact ⟨F59,rfl,le59,st,gA,gA⟩
    ·have hF:=zA hb62 hF;refine z6 ?_;obtain rfl:=inj hF;have hF:=hK50;have hF:=yL hF;refine th_e ?_;refine th_e ?_;refine ⟨_,(inj hF).symm,.inl ⟨_,rfl,rfl,rfl,?_⟩⟩;dsimp only
     exact ⟨F59,rfl,le61,st,gA⟩
  ·obtain ⟨w51,rfl,F52,rfl,le52,st,t1,t3⟩:=hp;have hF:=yM hF
   have le63:=PH.le.trans le5 le52
   refine zd ?_;refine zx ?_;refine zd (zg ?_);refine v_fa ?_;refine zq (st.at (i:=0) rfl).2.2 rfl ?_;refine za ?_;obtain ⟨n64,x64,z64,l64,g64,hF⟩:=zO hF;obtain ⟨b64,o64,s64,j64,r64,e64,f64,k64,⟨_,_,rfl,rfl,⟨_,_,rfl,rfl,⟨py65,cy65,rfl,ry65⟩⟩⟩⟩:=RowF.get ra0_2 g64;refine z9 e64 z64 l64 ?_;refine v_fa ?_;refine zq (st.sub _ _ (le63 _ _ f64)) (yk (j:=2) k64 rfl) ?_;refine z2 ?_;refine jg ?_;refine zb (th_n ?_);refine zE (fun hb66=>?_) (fun hb66=>?_)
   ·have hF:=zy hb66 hF;refine zd (zg ?_);refine za ?_;refine zb (th_n ?_);refine zD ?_;refine ib_r ?_;refine th_r ?_;refine th_r ?_;refine ⟨_,(inj hF).symm,.inr (⟨_,rfl,rfl,rfl,?_⟩)⟩;dsimp only
    exact ⟨F52,rfl,le63,st,gA⟩
   ·have hF:=zA hb66 hF;refine zF ?_;refine ib_n ?_;refine th_n ?_;refine zg ?_;refine za ?_;obtain ⟨q67,hF⟩:=zn hF;refine zY q67 ?_;refine za ?_;refine zb ?_;refine thn ⟨_,(inj hF).symm,rfl,?_⟩;dsimp only
    exact ⟨F52,rfl,le63,st,gA,gA⟩
 ·rcases hq with hq | hq
  ·obtain ⟨N9,T,ds37⟩:=a;obtain ⟨h69,n70⟩:=σ;obtain ⟨w36,rfl,rfl,e1,F37,e2,le37,st,t1⟩:=hq
   dsimp only at e1 e2
   subst e1
   subst e2
   dsimp only at st t1
   have hF:=yM hF;refine ib_e ?_;refine th_n ?_;refine zd (zg ?_);refine v_fa ?_;refine zq (st.at (i:=0) rfl).2.2 rfl ?_;refine z2 ?_;refine vL ?_;refine za ?_
   rcases Bool.eq_false_or_eq_true (decide (((a0_0).length:Int) ≤ (9:Int))) with hb71 | hb71
   ·have hF:=zy hb71 hF;refine zk hb71 (v_fa ?_);refine zk hb71 (zq (st.at (i:=0) rfl).2.2 rfl ?_);refine zk hb71 (z2 ?_);refine zk hb71 (vL ?_);refine zK hb71 ?_;refine za ?_;refine zb (th_n ?_);refine zD ?_;obtain rfl:=inj hF
    exact zJ st (Res.t gA Res.nil) rfl rfl
   ·have hF:=zA hb71 hF;refine zf hb71 ?_;refine zf hb71 ?_;refine zf hb71 ?_;refine zf hb71 ?_;refine zI hb71 ?_;refine za ?_;refine zb (th_n ?_);refine zD ?_;obtain rfl:=inj hF
    exact zJ st (Res.t gA Res.nil) rfl rfl
  ·obtain ⟨N9,T,ds39⟩:=a;obtain ⟨h72,n73⟩:=σ;obtain ⟨w38,rfl,rfl,e1,F39,e2,le39,st,t2⟩:=hq
   dsimp only at e1 e2
   subst e1
   subst e2
   dsimp only at st t2
   have hF:=yL hF;refine ib_r ?_;refine th_r ?_;obtain rfl:=inj hF
   exact zJ st (Res.t gA Res.nil) rfl rfl
theorem ct33 (N:Nat) {a0_0 a0_1:Int} {r:(Int × Int)} (hF:sf33 N a0_0 a0_1 = some r) (hd:D h0 n0) (hs:F0.sub h0):C LW fl 33 [(.agg [(i64 a0_0),(i64 a0_1)])] ⟨h0,n0⟩ (KS (.agg [(i64 r.1),(i64 r.2)]) n0 h0):=by
 unfold sf33 at hF
 refine yg hd hs lw33 rfl rfl (by rfl) (fun st T hT=>?_)
 have hfl:n0 ≤ n0:=Nat.le_refl n0
 have t0:=hT 0 _ rfl
 dsimp only [L33]
 refine zd (zg ?_);refine yi st (fun b1 h2 n3 st=>?_);refine zQ st (fun b4 h5 n6 st=>?_);refine zb (th_n ?_);refine zd (zg ?_);refine v_fa ?_;refine zq (st.at (i:=0) rfl).2.2 rfl ?_;refine v_fa ?_;refine zq (st.at (i:=0) rfl).2.2 rfl ?_;refine ya (cs:=[(i64 a0_0),(i64 a0_1)]) rfl ?_;refine v_st (cs':=[(i64 a0_0),(i64 a0_1)]) st 1 rfl rfl rfl rfl hfl (fun h7 st=>?_);refine zb (th_n ?_);refine zD ?_;obtain rfl:=inj hF
 exact zJ st (Res.c gA (st.at (i:=1) rfl).2.2 (show takeN _ _ = some [(i64 a0_0),(i64 a0_1)] from rfl) Res.nil) rfl rfl
theorem ct123 (N:Nat) {a0_0 a0_1 a1 a2:Int} {r:Bool} (hF:sf123 N a0_0 a0_1 a1 a2 = some r) (hd:D h0 n0) (hs:F0.sub h0):C LW fl 123 [(.agg [(i64 a0_0),(i64 a0_1)]),(i64 a1),(i64 a2)] ⟨h0,n0⟩ (KS (.bool r) n0 h0):=by
 unfold sf123 at hF
 refine yg hd hs lw123 rfl rfl (by rfl) (fun st T hT=>?_)
 have hfl:n0 ≤ n0:=Nat.le_refl n0
 have t0:=hT 0 _ rfl
 have t1:=hT 1 _ rfl
 have t2:=hT 2 _ rfl
 dsimp only [L123]
 refine zd (zg ?_);refine yi st (fun b1 h2 n3 st=>?_);refine za ?_;refine zb (th_n ?_);refine zd (zg ?_);refine za ?_;refine v_fa ?_;refine zq (st.at (i:=0) rfl).2.2 rfl ?_;refine vL ?_;refine za ?_
 rcases Bool.eq_false_or_eq_true (decide (a1 ≤ a0_0)) with hb4 | hb4
 ·have hF:=zy hb4 hF;refine zk hb4 (v_fa ?_);refine zk hb4 (zq (st.at (i:=0) rfl).2.2 rfl ?_);refine zk hb4 (v_fa ?_);refine zk hb4 (zq (st.at (i:=0) rfl).2.2 rfl ?_);refine zk hb4 (vL ?_);refine zK hb4 ?_;refine za ?_
  rcases Bool.eq_false_or_eq_true (decide (a0_0 ≤ a0_1)) with hb5 | hb5
  ·have hF:=zy hb5 hF;refine zk hb5 (v_fa ?_);refine zk hb5 (zq (st.at (i:=0) rfl).2.2 rfl ?_);refine zk hb5 (za ?_);refine zk hb5 (vL ?_);refine zK hb5 ?_;refine za ?_;refine zb (th_n ?_);refine zD ?_;obtain rfl:=inj hF
   exact zJ st (Res.t gA Res.nil) rfl rfl
  ·have hF:=zA hb5 hF;refine zf hb5 ?_;refine zf hb5 ?_;refine zf hb5 ?_;refine zf hb5 ?_;refine zI hb5 ?_;refine za ?_;refine zb (th_n ?_);refine zD ?_;obtain rfl:=inj hF
   exact zJ st (Res.t gA Res.nil) rfl rfl
 ·have hF:=zA hb4 hF;refine zf hb4 ?_;refine zf hb4 ?_;refine zf hb4 ?_;refine zf hb4 ?_;refine zf hb4 ?_;refine zI hb4 ?_;refine za ?_;refine zf rfl ?_;refine zf rfl ?_;refine zf rfl ?_;refine zf rfl ?_;refine zI rfl ?_;refine za ?_;refine zb (th_n ?_);refine zD ?_;obtain rfl:=inj hF
  exact zJ st (Res.t gA Res.nil) rfl rfl
theorem ct77 (N:Nat) {a0_0:(List (Int × Int))} {a0_1:Int} {a0_2:(List (Int × Int × (List (Int × Int))))} {a1:Int} {r:Bool} (hF:sf77 N a0_0 a0_1 a0_2 a1 = some r) (hd:D h0 n0) (hs:F0.sub h0) {pa0_0:Option (Nat × Nat)} {ca0_0:Nat} {pa0_2:Option (Nat × Nat)} {ca0_2:Nat} (ra0_0:RowF (rP rI rI) 2 F0 pa0_0 ca0_0 a0_0) (ra0_2:RowF (rP rI (rP rI (rL (rP rI rI) 2))) 3 F0 pa0_2 ca0_2 a0_2):C LW fl 77 [(.agg [(.slice pa0_0 (a0_0).length ca0_0),(i64 a0_1),(.slice pa0_2 (a0_2).length ca0_2)]),(i64 a1)] ⟨h0,n0⟩ (KS (.bool r) n0 h0):=by
 unfold sf77 at hF
 refine yg hd hs lw77 rfl rfl (by rfl) (fun st T hT=>?_)
 have hfl:n0 ≤ n0:=Nat.le_refl n0
 have t0:=hT 0 _ rfl
 have t1:=hT 1 _ rfl
 dsimp only [L77]
 refine zd (zg ?_);refine yi st (fun b1 h2 n3 st=>?_);refine za ?_;refine zb (th_n ?_);refine zd (zg ?_);refine za ?_;refine vL ?_;refine za ?_
 rcases Bool.eq_false_or_eq_true (decide ((0:Int) ≤ a1)) with hb4 | hb4
 ·have hF:=zy hb4 hF;refine zk hb4 (za ?_);refine zk hb4 (v_fa ?_);refine zk hb4 (zq (st.at (i:=0) rfl).2.2 rfl ?_);refine zk hb4 (z2 ?_);refine zk hb4 (yc ?_);refine zK hb4 ?_;refine za ?_;refine zb (th_n ?_);refine zD ?_;obtain rfl:=inj hF
  exact zJ st (Res.t gA Res.nil) rfl rfl
 ·have hF:=zA hb4 hF;refine zf hb4 ?_;refine zf hb4 ?_;refine zf hb4 ?_;refine zf hb4 ?_;refine zf hb4 ?_;refine zI hb4 ?_;refine za ?_;refine zb (th_n ?_);refine zD ?_;obtain rfl:=inj hF
  exact zJ st (Res.t gA Res.nil) rfl rfl
theorem ct126 (N:Nat) {a0_0 a0_1:Int} {a0_2:(List (Int × Int))} {r:Bool} (hF:sf126 N a0_0 a0_1 a0_2 = some r) (hd:D h0 n0) (hs:F0.sub h0) {pa0_2:Option (Nat × Nat)} {ca0_2:Nat} (ra0_2:RowF (rP rI rI) 2 F0 pa0_2 ca0_2 a0_2):C LW fl 126 [(.agg [(i64 a0_0),(i64 a0_1),(.slice pa0_2 (a0_2).length ca0_2)])] ⟨h0,n0⟩ (KS (.bool r) n0 h0):=by
 unfold sf126 at hF
 refine yg hd hs lw126 rfl rfl (by rfl) (fun st T hT=>?_)
 have hfl:n0 ≤ n0:=Nat.le_refl n0
 have t0:=hT 0 _ rfl
 dsimp only [L126]
 refine zd (zg ?_);refine yi st (fun b1 h2 n3 st=>?_);refine za ?_;refine zb (th_n ?_);refine zd ?_;refine zg ?_
 have w7:MR (.cell (.i .i64)) (fun x:Int=>HV.int .i64 x) (fun x:Bool=>HV.bool x) [] ((fun _=>none):(Int → Option Bool)):=MR.nil KD.int
 refine v_mm st (fun b4 h5 n6 st=>?_);refine za ?_;refine zb (th_n ?_);refine zd ?_;refine zd (zg ?_);refine v_fa ?_;refine zq (st.at (i:=0) rfl).2.2 rfl ?_;refine z2 ?_;refine za ?_;refine zb (th_n ?_);refine zx ?_;obtain ⟨y21,hy,hF⟩:=zj hF;refine zW (sf126_L1 a0_2) (fun x8 T ds9 h nx=>∃ (F9:PH) (es10:List (HV × HV)),ds9 = [] ∧ PH.le F0 F9 ∧ St n0 h0 F0 F9 h nx [.bx b1 [(i64 a0_0),(i64 a0_1),(.slice pa0_2 (a0_2).length ca0_2)],.any b4 (.map es10)] ∧ MR (.cell (.i .i64)) (fun x:Int=>HV.int .i64 x) (fun x:Bool=>HV.bool x) es10 x8.2 ∧ T.get 3 = some (.map (some b4)) ∧ T.get 8 = some (.slice pa0_2 (a0_2).length ca0_2) ∧ T.get 9 = some (i64 ((a0_2).length:Int)) ∧ T.get 10 = some (i64 x8.1)) (fun y e a σ=>(∃ u,y = (.inl u) ∧ e = .ret ∧ a.nt = 22 ∧ ∃ (F23:PH) (es24:List (HV × HV)),a.defers = [] ∧ PH.le F0 F23 ∧ St n0 h0 F0 F23 σ.h σ.nx [.bx b1 [(i64 a0_0),(i64 a0_1),(.slice pa0_2 (a0_2).length ca0_2)],.any b4 (.map es24)] ∧ MR (.cell (.i .i64)) (fun x:Int=>HV.int .i64 x) (fun x:Bool=>HV.bool x) es24 u ∧ a.tmps.get 2 = some (.bool false)) ∨ (∃ u,y = (.inr u) ∧ e = .exit 0 ∧ a.nt = 22 ∧ ∃ (F26:PH) (es27:List (HV × HV)),a.defers = [] ∧ PH.le F0 F26 ∧ St n0 h0 F0 F26 σ.h σ.nx [.bx b1 [(i64 a0_0),(i64 a0_1),(.slice pa0_2 (a0_2).length ca0_2)],.any b4 (.map es27)] ∧ MR (.cell (.i .i64)) (fun x:Int=>HV.int .i64 x) (fun x:Bool=>HV.bool x) es27 u)) (fun x8 T ds9 h nx s hp hF=>?_) N _ y21 _ _ _ _ hy ⟨F0,[],rfl,(PH.le.refl _),st,w7,gA,gA,gA,gA⟩ (fun e a σ hne hq=>?_)
 ·obtain ⟨F9,es10,rfl,le9,st,w10,t3,t8,t9,t10⟩:=hp;unfold sf126_L1 at hF;unfold L126w0;refine zd (zg ?_);refine yc ?_;refine zb (th_n ?_);refine zd ?_;refine zE (fun hb28=>?_) (fun hb28=>?_)
  ·have hF:=zy hb28 hF;refine zF (th_n ?_);refine zd ?_;refine zx ?_;refine zd (zg ?_);obtain ⟨n29,x29,z29,l29,g29,hF⟩:=zO hF;obtain ⟨b29,o29,s29,j29,r29,e29,f29,k29,⟨_,_,rfl,rfl,rfl⟩⟩:=RowF.get ra0_2 g29;refine z9 e29 z29 l29 ?_;refine zM (st.sub _ _ (le9 _ _ f29)) k29 ?_;refine zQ st (fun b30 h31 n32 st=>?_);refine v_st (cs':=[(i64 x29.1),(i64 x29.2)]) st 2 rfl rfl rfl rfl hfl (fun h33 st=>?_);refine zb (th_n ?_);refine zd ?_;refine zd (zg ?_);refine za ?_;refine v_fa ?_;refine zq (st.at (i:=2) rfl).2.2 rfl ?_;refine v_lk1 w10 (st.at (i:=1) rfl).2.2 x29.1 false (kv:=(i64 x29.1)) rfl rfl ?_
   refine zb (th_n ?_);refine zE (fun hb34=>?_) (fun hb34=>?_)
   ·have hF:=zy hb34 hF;refine zd (zg ?_);refine za ?_;refine zb (th_n ?_);refine zD ?_;refine th_r ?_;refine ib_r ?_;refine th_r ?_;refine th_r ?_;refine ⟨_,(inj hF).symm,.inl ⟨_,rfl,rfl,rfl,?_⟩⟩;dsimp only
    exact ⟨F9,es10,rfl,le9,(st.drop (by first | exact List.Sublist.refl _ | (repeat first | exact List.nil_sublist _ | refine List.Sublist.cons_cons _ ?_ | refine List.Sublist.cons _ ?_))),w10,gA⟩
   ·have hF:=zA hb34 hF;refine zF (th_n ?_);refine zg ?_;refine za ?_;refine v_fa ?_;refine zq (st.at (i:=2) rfl).2.2 rfl ?_;refine v_mu st 1 rfl w10 x29.1 true (kv:=(i64 x29.1)) (vv:=(.bool true)) rfl rfl hfl (fun es35 h36 w35 st=>?_);refine zb ?_;refine ib_n ?_;refine th_n ?_;refine zg ?_;obtain ⟨q37,hF⟩:=zn hF;refine zY q37 ?_;refine za ?_;refine zb ?_;refine thn ⟨_,(inj hF).symm,rfl,?_⟩;dsimp only
    exact ⟨F9,es35,rfl,le9,(st.drop (by first | exact List.Sublist.refl _ | (repeat first | exact List.nil_sublist _ | refine List.Sublist.cons_cons _ ?_ | refine List.Sublist.cons _ ?_))),w35,gA,gA,gA,gA⟩
  ·have hF:=zA hb28 hF;refine z6 ?_;refine th_e ?_;refine th_e ?_;refine ⟨_,(inj hF).symm,.inr (⟨_,rfl,rfl,rfl,?_⟩)⟩;dsimp only
   exact ⟨F9,es10,rfl,le9,st,w10⟩
 ·rcases hq with hq | hq
  ·obtain ⟨N9,T,ds23⟩:=a;obtain ⟨h38,n39⟩:=σ;obtain ⟨w22,rfl,rfl,e1,F23,es24,e2,le23,st,w24,t2⟩:=hq
   dsimp only at e1 e2
   subst e1
   subst e2
   dsimp only at st t2
   have hF:=yM hF;refine ib_r ?_;refine th_r ?_;obtain rfl:=inj hF
   exact zJ st (Res.t gA Res.nil) rfl rfl
  ·obtain ⟨N9,T,ds26⟩:=a;obtain ⟨h40,n41⟩:=σ;obtain ⟨w25,rfl,rfl,e1,F26,es27,e2,le26,st,w27⟩:=hq
   dsimp only at e1 e2
   subst e1
   subst e2
   dsimp only at st
   have hF:=yL hF;refine ib_e ?_;refine th_n ?_;refine zd (zg ?_);refine za ?_;refine zb (th_n ?_);refine zD ?_;obtain rfl:=inj hF
   exact zJ st (Res.t gA Res.nil) rfl rfl
theorem ct32 (N:Nat) {a0 a1 a2:Int} {r:Bool} (hF:sf32 N a0 a1 a2 = some r) (hd:D h0 n0) (hs:F0.sub h0):C LW fl 32 [(i64 a0),(i64 a1),(i64 a2)] ⟨h0,n0⟩ (KS (.bool r) n0 h0):=by
 unfold sf32 at hF
 refine yg hd hs lw32 rfl rfl (by rfl) (fun st T hT=>?_)
 have hfl:n0 ≤ n0:=Nat.le_refl n0
 have t0:=hT 0 _ rfl
 have t1:=hT 1 _ rfl
 have t2:=hT 2 _ rfl
 dsimp only [L32]
 refine zd (zg ?_);refine za ?_;refine zb (th_n ?_);refine zd (zg ?_);refine za ?_;refine za ?_;refine YC ?_;refine za ?_
 rcases Bool.eq_false_or_eq_true (decide (a1 ≤ a0)) with hb1 | hb1
 ·have hF:=zy hb1 hF;refine zk hb1 (za ?_);refine zk hb1 (za ?_);refine zk hb1 (vL ?_);refine zK hb1 ?_;refine za ?_;refine zb (th_n ?_);refine zD ?_;obtain rfl:=inj hF
  exact zJ st (Res.t gA Res.nil) rfl rfl
 ·have hF:=zA hb1 hF;refine zf hb1 ?_;refine zf hb1 ?_;refine zf hb1 ?_;refine zI hb1 ?_;refine za ?_;refine zb (th_n ?_);refine zD ?_;obtain rfl:=inj hF
  exact zJ st (Res.t gA Res.nil) rfl rfl
end Go.Hx.V

namespace Go.Hx.V
open Go.Hx
set_option maxRecDepth 20000
set_option maxHeartbeats 4000000
variable {fl : Nat} {h0 : Tr HBlk} {n0 : Nat} {F0 : PH}
attribute [local irreducible] W R C thenH inBlockH Tr.get Tr.set lo ck bnd ix iter
end Go.Hx.V

namespace Go.Hx.V
open Go.Hx
set_option maxRecDepth 20000
set_option maxHeartbeats 4000000
variable {fl : Nat} {h0 : Tr HBlk} {n0 : Nat} {F0 : PH}
attribute [local irreducible] W R C thenH inBlockH Tr.get Tr.set lo ck bnd ix iter
theorem ct107 (N:Nat) {a0_0:(List (Int × Int))} {a0_1:Int} {a0_2:(List (Int × Int × (List (Int × Int))))} {r:((List (Int × Int)) × Int × (List (Int × Int × (List (Int × Int)))) × Int × (Nat → Int))} (hF:sf107 N a0_0 a0_1 a0_2 = some r) (hd:D h0 n0) (hs:F0.sub h0) (hfl:fl ≤ n0) {pa0_0:Option (Nat × Nat)} {ca0_0:Nat} {pa0_2:Option (Nat × Nat)} {ca0_2:Nat} (ra0_0:RowF (rP rI rI) 2 F0 pa0_0 ca0_0 a0_0) (ra0_2:RowF (rP rI (rP rI (rL (rP rI rI) 2))) 3 F0 pa0_2 ca0_2 a0_2):C LW fl 107 [(.agg [(.slice pa0_0 (a0_0).length ca0_0),(i64 a0_1),(.slice pa0_2 (a0_2).length ca0_2)])] ⟨h0,n0⟩ (KR (rvA (rP (rL (rP rI rI) 2) (rP rI (rP (rL (rP rI (rP rI (rL (rP rI rI) 2))) 3) (rP rI (rF .i64 169)))))) F0 h0 n0 r):=by
 unfold sf107 at hF
 refine ky hd hs hfl lw107 rfl rfl (by rfl) (fun st T hT=>?_)
 have t0:=hT 0 _ rfl
 dsimp only [L107]
 refine zd (zg ?_);refine yi st (fun b1 h2 n3 st=>?_);refine zQ st (fun b4 h5 n6 st=>?_)
 have st:=st.cells 1 rfl ([(.slice none 0 0),(i64 0),(.slice none 0 0),(i64 0)] ++ (eI .i64 169 (fun _=>0))) rfl
 refine zb (th_n ?_);refine zd (zg ?_);refine ya (cs:=[(i64 0),(i64 0)]) rfl ?_;refine v_bs (cs:=[(i64 0),(i64 0)]) st rfl (fun b7 h8 n9 st=>?_);refine v_fa ?_;refine zq (st.at (i:=0) rfl).2.2 rfl ?_
 have st:=St.asL st 2 rfl (n:=1) (sz:=2) rfl
 have w10:LR (rP rI rI) 2 F0 [((0:Int),(0:Int))] [(i64 0),(i64 0)]:=(LR.cons1 (x:=((0:Int),(0:Int))) (r:=[(i64 0),(i64 0)]) (l:=[]) (cs:=[]) (⟨[(i64 0)],_,rfl,rfl,rfl⟩) LR.nil)
 obtain ⟨q11,hF⟩:=zn hF
 refine v_apr (m:=([((0:Int),(0:Int))] ++ a0_0).length) st 2 rfl w10 ra0_0 q11 hfl (by decide) (by first | (simp;done) | (simp;omega)) (fun o11 c11 cs11 h11 n11 st w11=>?_)
 refine za ?_;refine zb (th_n ?_);refine zd ?_;refine zd (zg ?_);refine v_fa ?_;refine zq (st.at (i:=0) rfl).2.2 rfl ?_;refine z2 ?_;refine za ?_;refine zb (th_n ?_);refine zx ?_;obtain ⟨y29,hy,hF⟩:=zj hF;refine zW (sf107_L1 a0_2) (fun x12 T ds13 h nx=>∃ (F13:PH) (o14:Option Nat) (c14:Nat) (cs14:List HV),ds13 = [] ∧ PH.le F0 F13 ∧ St n0 h0 F0 F13 h nx [.bx b1 [(.slice pa0_0 (a0_0).length ca0_0),(i64 a0_1),(.slice pa0_2 (a0_2).length ca0_2)],.bx b4 ([(.slice none 0 0),(i64 0),(.slice none 0 0),(i64 0)] ++ (eI .i64 169 (fun _=>0))),.ls o14 c14 cs14 2] ∧ LR (rP rI rI) 2 F13 x12.1 cs14 ∧ T.get 1 = some (.ptr (some (b1,0))) ∧ T.get 2 = some (.ptr (some (b4,0))) ∧ T.get 3 = some (slv o14 (x12.1).length c14) ∧ T.get 17 = some (.slice pa0_2 (a0_2).length ca0_2) ∧ T.get 18 = some (i64 ((a0_2).length:Int)) ∧ T.get 19 = some (i64 x12.2)) (fun y e a σ=>e = .exit 0 ∧ a.nt = 72 ∧ ∃ (F30:PH) (o31:Option Nat) (c31:Nat) (cs31:List HV),a.defers = [] ∧ PH.le F0 F30 ∧ St n0 h0 F0 F30 σ.h σ.nx [.bx b1 [(.slice pa0_0 (a0_0).length ca0_0),(i64 a0_1),(.slice pa0_2 (a0_2).length ca0_2)],.bx b4 ([(.slice none 0 0),(i64 0),(.slice none 0 0),(i64 0)] ++ (eI .i64 169 (fun _=>0))),.ls o31 c31 cs31 2] ∧ LR (rP rI rI) 2 F30 y cs31 ∧ a.tmps.get 1 = some (.ptr (some (b1,0))) ∧ a.tmps.get 2 = some (.ptr (some (b4,0))) ∧ a.tmps.get 3 = some (slv o31 (y).length c31)) (fun x12 T ds13 h nx s hp hF=>?_) N _ y29 _ _ _ _ hy ⟨F0,o11,c11,cs11,rfl,(PH.le.refl _),st,w11,gA,gA,gA,gA,gA,gA⟩ (fun e a σ hne hq=>?_)
 ·obtain ⟨F13,o14,c14,cs14,rfl,le13,st,w14,t1,t2,t3,t17,t18,t19⟩:=hp;unfold sf107_L1 at hF;unfold L107w2;refine zd (zg ?_);refine yc ?_;refine zb (th_n ?_);refine zd ?_;refine zE (fun hb32=>?_) (fun hb32=>?_)
  ·have hF:=zy hb32 hF;refine zF (th_n ?_);refine zd ?_;refine zx ?_;refine zd (zg ?_);obtain ⟨n33,x33,z33,l33,g33,hF⟩:=zO hF;obtain ⟨b33,o33,s33,j33,r33,e33,f33,k33,⟨_,_,rfl,rfl,⟨_,_,rfl,rfl,⟨py34,cy34,rfl,ry34⟩⟩⟩⟩:=RowF.get ra0_2 g33;refine z9 e33 z33 l33 ?_;refine zM (st.sub _ _ (le13 _ _ f33)) k33 ?_;refine zQ st (fun b35 h36 n37 st=>?_);refine v_st (cs':=[(i64 x33.1),(i64 x33.2.1),(.slice py34 (x33.2.2).length cy34)]) st 3 rfl rfl rfl rfl hfl (fun h38 st=>?_);refine zb (th_n ?_);refine zg ?_;refine za ?_;refine v_fa ?_;refine v_fa ?_;refine zq (st.at (i:=3) rfl).2.2 rfl ?_
   obtain ⟨q39,hF⟩:=zn hF;refine k9 q39 ?_;refine v_fa ?_;refine v_fa ?_;refine zq (st.at (i:=3) rfl).2.2 rfl ?_;obtain ⟨q40,hF⟩:=zn hF;refine k9 q40 ?_;refine ya (cs:=[(i64 (-x33.2.1)),(i64 (-x33.1))]) rfl ?_;refine v_bs (cs:=[(i64 (-x33.2.1)),(i64 (-x33.1))]) st rfl (fun b41 h42 n43 st=>?_);obtain ⟨q44,hF⟩:=zn hF
   have w44:LR (rP rI rI) 2 F13 (x12.1 ++ [((-x33.2.1),(-x33.1))]) (cs14 ++ [(i64 (-x33.2.1)),(i64 (-x33.1))]):=LR.app w14 (LR.one (⟨[(i64 (-x33.2.1))],_,rfl,rfl,rfl⟩))
   refine jh (n:=1) (ox:=0) (m:=(x12.1 ++ [((-x33.2.1),(-x33.1))]).length) (row:=[(i64 (-x33.2.1)),(i64 (-x33.1))]) st 2 rfl w14.1 (st.at (i:=4) rfl).2.2 rfl rfl q44 hfl (by decide) (by decide) (by simp) (fun o44 c44 h44 n44 st=>?_)
   refine za ?_;refine zb ?_;refine ib_n ?_;refine th_n ?_;refine zg ?_;obtain ⟨q45,hF⟩:=zn hF;refine zY q45 ?_;refine za ?_;refine zb ?_;refine thn ⟨_,(inj hF).symm,rfl,?_⟩;dsimp only
   exact ⟨F13,o44,c44,(cs14 ++ [(i64 (-x33.2.1)),(i64 (-x33.1))]),rfl,le13,(st.drop (by first | exact List.Sublist.refl _ | (repeat first | exact List.nil_sublist _ | refine List.Sublist.cons_cons _ ?_ | refine List.Sublist.cons _ ?_))),w44,gA,gA,gA,gA,gA,gA⟩
  ·have hF:=zA hb32 hF;refine z6 ?_;refine th_e ?_;refine th_e ?_;refine ⟨_,(inj hF).symm,rfl,rfl,?_⟩;dsimp only
   exact ⟨F13,o14,c14,cs14,rfl,le13,st,w14,gA,gA,gA⟩
 ·obtain ⟨N9,T,ds30⟩:=a;obtain ⟨h46,n47⟩:=σ;obtain ⟨rfl,e1,F30,o31,c31,cs31,e2,le30,st,w31,t1,t2,t3⟩:=hq
  dsimp only at e1 e2
  subst e1
  subst e2
  dsimp only at st t1 t2 t3
  refine ib_e ?_;refine th_n ?_;refine zd (zg ?_);refine zM (vs:=[(.slice pa0_0 (a0_0).length ca0_0),(i64 a0_1),(.slice pa0_2 (a0_2).length ca0_2)]) (st.at (i:=0) rfl).2.2 rfl ?_;refine za ?_;refine z2 ?_;refine ya (cs:=([(i64 ((y29).length:Int))] ++ (eI .i64 169 (fun _=>0)))) rfl ?_;refine ya (cs:=([(.slice pa0_0 (a0_0).length ca0_0),(i64 a0_1),(.slice pa0_2 (a0_2).length ca0_2),(i64 ((y29).length:Int))] ++ (eI .i64 169 (fun _=>0)))) rfl ?_;refine zQ st (fun b48 h49 n50 st=>?_)
  have st:=st.cells 3 rfl ([(.slice none 0 0),(i64 0),(.slice none 0 0),(i64 0)] ++ (eI .i64 169 (fun _=>0))) rfl
  refine v_st (v:=(.agg ([(.slice pa0_0 (a0_0).length ca0_0),(i64 a0_1),(.slice pa0_2 (a0_2).length ca0_2),(i64 ((y29).length:Int))] ++ (eI .i64 169 (fun _=>0))))) (cs':=([(.slice pa0_0 (a0_0).length ca0_0),(i64 a0_1),(.slice pa0_2 (a0_2).length ca0_2),(i64 ((y29).length:Int))] ++ (eI .i64 169 (fun _=>0)))) st 3 rfl (yB [] rfl (by simp [HV.cells,zS,yW])) (yq _ zS (by rfl)) (yp _ (by rfl) yV) hfl (fun h51 st=>?_)
  refine zb (th_n ?_);refine zd ?_;refine zd (zg ?_);refine za ?_;refine z2 ?_;refine za ?_;refine zb (th_n ?_);refine zx ?_;obtain ⟨y190,hy,hF⟩:=zj hF;refine zW (sf107_L3 N y29) (fun x122 T ds123 h nx=>∃ (F123:PH),ds123 = [] ∧ PH.le F30 F123 ∧ St n0 h0 F0 F123 h nx [.bx b1 [(.slice pa0_0 (a0_0).length ca0_0),(i64 a0_1),(.slice pa0_2 (a0_2).length ca0_2)],.bx b4 ([(.slice none 0 0),(i64 0),(.slice none 0 0),(i64 0)] ++ (eI .i64 169 (fun _=>0))),.ls o31 c31 cs31 2,.bx b48 ([(.slice pa0_0 (a0_0).length ca0_0),(i64 a0_1),(.slice pa0_2 (a0_2).length ca0_2),(i64 ((y29).length:Int))] ++ (eI .i64 169 x122.2))] ∧ T.get 2 = some (.ptr (some (b4,0))) ∧ T.get 3 = some (slv o31 (y29).length c31) ∧ T.get 6 = some (.ptr (some (b48,0))) ∧ T.get 41 = some (slv o31 (y29).length c31) ∧ T.get 42 = some (i64 ((y29).length:Int)) ∧ T.get 43 = some (i64 x122.1)) (fun y e a σ=>e = .exit 2 ∧ a.nt = 72 ∧ ∃ (F191:PH),a.defers = [] ∧ PH.le F30 F191 ∧ St n0 h0 F0 F191 σ.h σ.nx [.bx b1 [(.slice pa0_0 (a0_0).length ca0_0),(i64 a0_1),(.slice pa0_2 (a0_2).length ca0_2)],.bx b4 ([(.slice none 0 0),(i64 0),(.slice none 0 0),(i64 0)] ++ (eI .i64 169 (fun _=>0))),.ls o31 c31 cs31 2,.bx b48 ([(.slice pa0_0 (a0_0).length ca0_0),(i64 a0_1),(.slice pa0_2 (a0_2).length ca0_2),(i64 ((y29).length:Int))] ++ (eI .i64 169 y))] ∧ a.tmps.get 2 = some (.ptr (some (b4,0))) ∧ a.tmps.get 6 = some (.ptr (some (b48,0)))) (fun x122 T ds123 h nx s hp hF=>?_) N _ y190 _ _ _ _ hy ⟨F30,rfl,(PH.le.refl _),st,gA,gA,gA,gA,gA,gA⟩ (fun e a σ hne hq=>?_)
  ·obtain ⟨F123,rfl,le123,st,t2,t3,t6,t41,t42,t43⟩:=hp
   unfold sf107_L3 at hF;unfold L107w1;refine zd (zg ?_);refine yc ?_;refine zb (th_n ?_);refine zd ?_;refine zE (fun hb192=>?_) (fun hb192=>?_)
   ·have hF:=zy hb192 hF;refine zF (th_n ?_);refine zd ?_;refine zx ?_;refine zd (zg ?_);refine za ?_;obtain ⟨n193,x193,z193,l193,g193,hF⟩:=zO hF
    obtain ⟨b193,s193,j193,r193,e193,lt193,f193,k193,⟨_,_,rfl,rfl,rfl⟩⟩:=LE.getb (st.at (i:=2) rfl) (LR.mono le123 w31) (by decide) g193
    refine z9 e193 z193 l193 ?_;refine zM f193 k193 ?_;refine zQ st (fun b194 h195 n196 st=>?_);refine za ?_;refine v_st (cs':=[(i64 x193.1),(i64 x193.2)]) st 4 rfl rfl rfl rfl hfl (fun h197 st=>?_);refine zb (th_n ?_);refine zd (zg ?_);refine za ?_;refine z2 ?_;refine za ?_;refine zb (th_n ?_);refine zx ?_;obtain ⟨y236,hy,hF⟩:=zj hF;refine zW (sf107_L2 y29 x122 x193) (fun x218 T ds219 h nx=>∃ (F219:PH),ds219 = [] ∧ PH.le F123 F219 ∧ St n0 h0 F0 F219 h nx [.bx b1 [(.slice pa0_0 (a0_0).length ca0_0),(i64 a0_1),(.slice pa0_2 (a0_2).length ca0_2)],.bx b4 ([(.slice none 0 0),(i64 0),(.slice none 0 0),(i64 0)] ++ (eI .i64 169 (fun _=>0))),.ls o31 c31 cs31 2,.bx b48 ([(.slice pa0_0 (a0_0).length ca0_0),(i64 a0_1),(.slice pa0_2 (a0_2).length ca0_2),(i64 ((y29).length:Int))] ++ (eI .i64 169 x218.2)),.bx b194 [(i64 x193.1),(i64 x193.2)]] ∧ T.get 2 = some (.ptr (some (b4,0))) ∧ T.get 3 = some (slv o31 (y29).length c31) ∧ T.get 6 = some (.ptr (some (b48,0))) ∧ T.get 7 = some (i64 x122.1) ∧ T.get 8 = some (.ptr (some (b194,0))) ∧ T.get 41 = some (slv o31 (y29).length c31) ∧ T.get 42 = some (i64 ((y29).length:Int)) ∧ T.get 43 = some (i64 x122.1) ∧ T.get 48 = some (slv o31 (y29).length c31) ∧ T.get 49 = some (i64 ((y29).length:Int)) ∧ T.get 50 = some (i64 x218.1)) (fun y e a σ=>e = .exit 4 ∧ a.nt = 72 ∧ ∃ (F237:PH),a.defers = [] ∧ PH.le F123 F237 ∧ St n0 h0 F0 F237 σ.h σ.nx [.bx b1 [(.slice pa0_0 (a0_0).length ca0_0),(i64 a0_1),(.slice pa0_2 (a0_2).length ca0_2)],.bx b4 ([(.slice none 0 0),(i64 0),(.slice none 0 0),(i64 0)] ++ (eI .i64 169 (fun _=>0))),.ls o31 c31 cs31 2,.bx b48 ([(.slice pa0_0 (a0_0).length ca0_0),(i64 a0_1),(.slice pa0_2 (a0_2).length ca0_2),(i64 ((y29).length:Int))] ++ (eI .i64 169 y)),.bx b194 [(i64 x193.1),(i64 x193.2)]] ∧ a.tmps.get 2 = some (.ptr (some (b4,0))) ∧ a.tmps.get 3 = some (slv o31 (y29).length c31) ∧ a.tmps.get 6 = some (.ptr (some (b48,0))) ∧ a.tmps.get 41 = some (slv o31 (y29).length c31) ∧ a.tmps.get 42 = some (i64 ((y29).length:Int)) ∧ a.tmps.get 43 = some (i64 x122.1)) (fun x218 T ds219 h nx s hp hF=>?_) N _ y236 _ _ _ _ hy ⟨F123,rfl,(PH.le.refl _),st,gA,gA,gA,gA,gA,gA,gA,gA,gA,gA,gA⟩ (fun e a σ hne hq=>?_)
    ·obtain ⟨F219,rfl,le219,st,t2,t3,t6,t7,t8,t41,t42,t43,t48,t49,t50⟩:=hp
     have le221:=PH.le.trans le123 le219
     unfold sf107_L2 at hF;unfold L107w0;refine zd (zg ?_);refine yc ?_;refine zb (th_n ?_);refine zd ?_;refine zE (fun hb238=>?_) (fun hb238=>?_)
     ·have hF:=zy hb238 hF;refine zF (th_n ?_);refine zd ?_;refine zx ?_;refine zd (zg ?_);refine za ?_;obtain ⟨n239,x239,z239,l239,g239,hF⟩:=zO hF
      obtain ⟨b239,s239,j239,r239,e239,lt239,f239,k239,⟨_,_,rfl,rfl,rfl⟩⟩:=LE.getb (st.at (i:=2) rfl) (LR.mono le221 w31) (by decide) g239
      refine z9 e239 z239 l239 ?_;refine zM f239 k239 ?_;refine zQ st (fun b240 h241 n242 st=>?_);refine za ?_;refine v_st (cs':=[(i64 x239.1),(i64 x239.2)]) st 5 rfl rfl rfl rfl hfl (fun h243 st=>?_);refine zb (th_n ?_);refine zd (zg ?_);refine za ?_;refine za ?_;refine vN ?_;refine zb (th_n ?_);refine zE (fun hb244=>?_) (fun hb244=>?_)
      ·have hF:=zy hb244 hF;refine yn (Nat.le_trans hfl st.ext.le) (fun dw=>?_);refine vd st.d dw rfl (fun h245 ex vs=>?_)
       have st:=st.ext1 ex
       refine za ?_;refine za ?_;refine v_fa ?_;refine zq (st.at (i:=5) rfl).2.2 rfl ?_;refine v_fa ?_;refine zq (st.at (i:=4) rfl).2.2 rfl ?_;obtain ⟨q246,hF⟩:=zn hF;refine v_sub q246 ?_;refine v_fa ?_;refine v_fa ?_;obtain ⟨q247,hF⟩:=zn hF
       refine yl (j:=(Int.toNat x122.1)) (Int.toNat_of_nonneg q247.1).symm (by omega) ?_
       obtain ⟨q248,hF⟩:=zn hF
       refine yl (j:=(Int.toNat x218.1)) (Int.toNat_of_nonneg q248.1).symm (by omega) ?_
       refine v_st (o:=((4+(Int.toNat x122.1) * 13)+(Int.toNat x218.1) * 1)) (v:=(i64 (x239.2 - x193.1))) (cs':=([(.slice pa0_0 (a0_0).length ca0_0),(i64 a0_1),(.slice pa0_2 (a0_2).length ca0_2),(i64 ((y29).length:Int))] ++ (eI .i64 169 (ups x218.2 (((Int.toNat x122.1) * 13)+(Int.toNat x218.1)) (x239.2 - x193.1))))) st 3 rfl (Yw (p:=4) (ix:=(((Int.toNat x122.1) * 13)+(Int.toNat x218.1))) [(.slice pa0_0 (a0_0).length ca0_0),(i64 a0_1),(.slice pa0_2 (a0_2).length ca0_2),(i64 ((y29).length:Int))] rfl (by omega) (by omega)) rfl rfl hfl (fun h249 st=>?_)
       refine zb ?_;refine ib_n ?_;refine th_n ?_;refine zg ?_;obtain ⟨q250,hF⟩:=zn hF;refine zY q250 ?_;refine za ?_;refine zb ?_;refine thn ⟨_,(inj hF).symm,rfl,?_⟩;dsimp only
       exact ⟨F219,rfl,le219,(st.drop (by first | exact List.Sublist.refl _ | (repeat first | exact List.nil_sublist _ | refine List.Sublist.cons_cons _ ?_ | refine List.Sublist.cons _ ?_))),gA,gA,gA,gA,gA,gA,gA,gA,gA,gA,gA⟩
      ·have hF:=zA hb244 hF;refine zF ?_;refine ib_n ?_;refine th_n ?_;refine zg ?_;obtain ⟨q251,hF⟩:=zn hF;refine zY q251 ?_;refine za ?_;refine zb ?_;refine thn ⟨_,(inj hF).symm,rfl,?_⟩;dsimp only
       exact ⟨F219,rfl,le219,(st.drop (by first | exact List.Sublist.refl _ | (repeat first | exact List.nil_sublist _ | refine List.Sublist.cons_cons _ ?_ | refine List.Sublist.cons _ ?_))),gA,gA,gA,gA,gA,gA,gA,gA,gA,gA,gA⟩
     ·have hF:=zA hb238 hF;refine z6 ?_;refine th_e ?_;refine th_e ?_;refine ⟨_,(inj hF).symm,rfl,rfl,?_⟩;dsimp only
      exact ⟨F219,rfl,le219,st,gA,gA,gA,gA,gA,gA⟩
    ·obtain ⟨N9,T,ds237⟩:=a;obtain ⟨h254,n255⟩:=σ;obtain ⟨rfl,e1,F237,e2,le237,st,t2,t3,t6,t41,t42,t43⟩:=hq
     dsimp only at e1 e2
     subst e1
     subst e2
     dsimp only at st t2 t3 t6 t41 t42 t43
     have le253:=PH.le.trans le123 le237
     refine ib_e ?_;refine ib_n ?_;refine th_n ?_;refine zg ?_;obtain ⟨q256,hF⟩:=zn hF;refine zY q256 ?_;refine za ?_;refine zb ?_;refine thn ⟨_,(inj hF).symm,rfl,?_⟩;dsimp only
     exact ⟨F237,rfl,le253,(st.drop (by first | exact List.Sublist.refl _ | (repeat first | exact List.nil_sublist _ | refine List.Sublist.cons_cons _ ?_ | refine List.Sublist.cons _ ?_))),gA,gA,gA,gA,gA,gA⟩
   ·have hF:=zA hb192 hF;refine z6 ?_;refine th_e ?_;refine th_e ?_;refine ⟨_,(inj hF).symm,rfl,rfl,?_⟩;dsimp only
    exact ⟨F123,rfl,le123,st,gA,gA⟩
  ·obtain ⟨N9,T,ds191⟩:=a;obtain ⟨h258,n259⟩:=σ;obtain ⟨rfl,e1,F191,e2,le191,st,t2,t6⟩:=hq
   dsimp only at e1 e2
   subst e1
   subst e2
   dsimp only at st t2 t6
   have le257:=PH.le.trans le30 le191
   refine ib_e ?_;refine th_n ?_;refine zd (zg ?_);refine zM (vs:=([(.slice pa0_0 (a0_0).length ca0_0),(i64 a0_1),(.slice pa0_2 (a0_2).length ca0_2),(i64 ((y29).length:Int))] ++ (eI .i64 169 y190))) (st.at (i:=3) rfl).2.2 (yY (E:=(eI .i64 169 y190)) [] [(.slice pa0_0 (a0_0).length ca0_0),(i64 a0_1),(.slice pa0_2 (a0_2).length ca0_2),(i64 ((y29).length:Int))] rfl zS rfl) ?_
   refine v_st (v:=(.agg ([(.slice pa0_0 (a0_0).length ca0_0),(i64 a0_1),(.slice pa0_2 (a0_2).length ca0_2),(i64 ((y29).length:Int))] ++ (eI .i64 169 y190)))) (cs':=([(.slice pa0_0 (a0_0).length ca0_0),(i64 a0_1),(.slice pa0_2 (a0_2).length ca0_2),(i64 ((y29).length:Int))] ++ (eI .i64 169 y190))) st 1 rfl (yB [] rfl (by simp [HV.cells,zS,yW])) (yq _ zS (by rfl)) (yp _ (by rfl) yV) hfl (fun h260 st=>?_)
   refine zb (th_n ?_);refine zD ?_;obtain rfl:=inj hF
   exact ul st (Res.c gA (st.at (i:=1) rfl).2.2 (show takeN _ _ = some ([(.slice pa0_0 (a0_0).length ca0_0),(i64 a0_1),(.slice pa0_2 (a0_2).length ca0_2),(i64 ((y29).length:Int))] ++ (eI .i64 169 y190)) from (yY (E:=(eI .i64 169 y190)) [] [(.slice pa0_0 (a0_0).length ca0_0),(i64 a0_1),(.slice pa0_2 (a0_2).length ca0_2),(i64 ((y29).length:Int))] rfl zS rfl)) Res.nil) ⟨_,rfl,⟨[(.slice pa0_0 (a0_0).length ca0_0)],_,rfl,⟨_,_,rfl,(RowF.mono le257 ra0_0)⟩,⟨[(i64 a0_1)],_,rfl,rfl,⟨[(.slice pa0_2 (a0_2).length ca0_2)],_,rfl,⟨_,_,rfl,(RowF.mono le257 ra0_2)⟩,⟨[(i64 ((y29).length:Int))],_,rfl,rfl,rfl⟩⟩⟩⟩⟩
theorem ct81 (N:Nat) {a0_0 a0_1:Int} {r:Bool} (hF:sf81 N a0_0 a0_1 = some r) (hd:D h0 n0) (hs:F0.sub h0):C LW fl 81 [(.agg [(i64 a0_0),(i64 a0_1)])] ⟨h0,n0⟩ (KS (.bool r) n0 h0):=by
 unfold sf81 at hF
 refine yg hd hs lw81 rfl rfl (by rfl) (fun st T hT=>?_)
 have hfl:n0 ≤ n0:=Nat.le_refl n0
 have t0:=hT 0 _ rfl
 dsimp only [L81]
 refine zd (zg ?_);refine yi st (fun b1 h2 n3 st=>?_);refine za ?_;refine zb (th_n ?_);refine zd (zg ?_);refine za ?_;refine zb (th_n ?_);refine zD ?_;obtain rfl:=inj hF
 exact zJ st (Res.t gA Res.nil) rfl rfl
theorem ct106 (N:Nat) {a0_0:(List (Int × Int))} {a0_1:Int} {a0_2:(List (Int × Int × (List (Int × Int))))} {a1 r:Int} (hF:sf106 N a0_0 a0_1 a0_2 a1 = some r) (hd:D h0 n0) (hs:F0.sub h0) {pa0_0:Option (Nat × Nat)} {ca0_0:Nat} {pa0_2:Option (Nat × Nat)} {ca0_2:Nat} (ra0_0:RowF (rP rI rI) 2 F0 pa0_0 ca0_0 a0_0) (ra0_2:RowF (rP rI (rP rI (rL (rP rI rI) 2))) 3 F0 pa0_2 ca0_2 a0_2):C LW fl 106 [(.agg [(.slice pa0_0 (a0_0).length ca0_0),(i64 a0_1),(.slice pa0_2 (a0_2).length ca0_2)]),(i64 a1)] ⟨h0,n0⟩ (KS (i64 r) n0 h0):=by
 unfold sf106 at hF
 refine yg hd hs lw106 rfl rfl (by rfl) (fun st T hT=>?_)
 have hfl:n0 ≤ n0:=Nat.le_refl n0
 have t0:=hT 0 _ rfl
 have t1:=hT 1 _ rfl
 dsimp only [L106]
 refine zd (zg ?_);refine yi st (fun b1 h2 n3 st=>?_);refine za ?_;refine zb (th_n ?_);refine zd (zg ?_);refine v_fa ?_;refine zq (st.at (i:=0) rfl).2.2 rfl ?_;refine z2 ?_;obtain ⟨q4,hF⟩:=zn hF;refine zY q4 ?_;refine za ?_;obtain ⟨q5,hF⟩:=zn hF;refine zY q5 ?_;refine za ?_;refine zb (th_n ?_);refine zD ?_;obtain rfl:=inj hF
 exact zJ st (Res.t gA Res.nil) rfl rfl
theorem ct105 (N:Nat) {a0_0:(List (Int × Int))} {a0_1:Int} {a0_2:(List (Int × Int × (List (Int × Int))))} {a1 r:Int} (hF:sf105 N a0_0 a0_1 a0_2 a1 = some r) (hd:D h0 n0) (hs:F0.sub h0) {pa0_0:Option (Nat × Nat)} {ca0_0:Nat} {pa0_2:Option (Nat × Nat)} {ca0_2:Nat} (ra0_0:RowF (rP rI rI) 2 F0 pa0_0 ca0_0 a0_0) (ra0_2:RowF (rP rI (rP rI (rL (rP rI rI) 2))) 3 F0 pa0_2 ca0_2 a0_2):C LW fl 105 [(.agg [(.slice pa0_0 (a0_0).length ca0_0),(i64 a0_1),(.slice pa0_2 (a0_2).length ca0_2)]),(i64 a1)] ⟨h0,n0⟩ (KS (i64 r) n0 h0):=by
 unfold sf105 at hF
 refine yg hd hs lw105 rfl rfl (by rfl) (fun st T hT=>?_)
 have hfl:n0 ≤ n0:=Nat.le_refl n0
 have t0:=hT 0 _ rfl
 have t1:=hT 1 _ rfl
 dsimp only [L105]
 refine zd (zg ?_);refine yi st (fun b1 h2 n3 st=>?_);refine za ?_;refine zb (th_n ?_);refine zd (zg ?_);refine za ?_;obtain ⟨q4,hF⟩:=zn hF;refine zY q4 ?_;refine za ?_;refine zb (th_n ?_);refine zD ?_;obtain rfl:=inj hF
 exact zJ st (Res.t gA Res.nil) rfl rfl
theorem ct134 (N:Nat) {a0p0:(List (Int × Int))} {a0p1:Int} {a0p2:(List (Int × Int × (List (Int × Int))))} {a0p3:Int} {a0p4:(Nat → Int)} {a1 a2 a3:Int} {r:Bool} (hF:sf134 N a0p0 a0p1 a0p2 a0p3 a0p4 a1 a2 a3 = some r) (hd:D h0 n0) (hs:F0.sub h0) {pa0p0:Option (Nat × Nat)} {ca0p0:Nat} {pa0p2:Option (Nat × Nat)} {ca0p2:Nat} {ba0:Nat} (ra0p0:RowF (rP rI rI) 2 F0 pa0p0 ca0p0 a0p0) (ra0p2:RowF (rP rI (rP rI (rL (rP rI rI) 2))) 3 F0 pa0p2 ca0p2 a0p2) (hba0:F0 ba0 = some (.cells ([(.slice pa0p0 (a0p0).length ca0p0),(i64 a0p1),(.slice pa0p2 (a0p2).length ca0p2),(i64 a0p3)] ++ (eI .i64 169 a0p4)) .exact)):C LW fl 134 [(.ptr (some (ba0,3))),(i64 a1),(i64 a2),(i64 a3)] ⟨h0,n0⟩ (KS (.bool r) n0 h0):=by
 unfold sf134 at hF
 refine yg hd hs lw134 rfl rfl (by rfl) (fun st T hT=>?_)
 have hfl:n0 ≤ n0:=Nat.le_refl n0
 have t0:=hT 0 _ rfl
 have t1:=hT 1 _ rfl
 have t2:=hT 2 _ rfl
 have t3:=hT 3 _ rfl
 dsimp only [L134]
 refine zd (zg ?_);refine za ?_;refine zb (th_n ?_);refine zd (zg ?_);refine za ?_;refine za ?_;refine za ?_;refine za ?_;refine v_nc ?_;refine v_fa ?_;obtain ⟨q1,hF⟩:=zn hF
 refine yl (j:=(Int.toNat a2)) (Int.toNat_of_nonneg q1.1).symm (by omega) ?_
 obtain ⟨q2,hF⟩:=zn hF
 refine yl (j:=(Int.toNat a1)) (Int.toNat_of_nonneg q2.1).symm (by omega) ?_
 refine zq (o:=((4+(Int.toNat a2) * 13)+(Int.toNat a1) * 1)) (st.sub _ _ hba0) (vk (p:=4) (ix:=(((Int.toNat a2) * 13)+(Int.toNat a1))) [(.slice pa0p0 (a0p0).length ca0p0),(i64 a0p1),(.slice pa0p2 (a0p2).length ca0p2),(i64 a0p3)] rfl (by omega) (by omega)) ?_
 obtain ⟨q3,hF⟩:=zn hF;refine zY q3 ?_;refine YC ?_;refine za ?_;refine zb (th_n ?_);refine zD ?_;obtain rfl:=inj hF
 exact zJ st (Res.t gA Res.nil) rfl rfl
end Go.Hx.V

namespace Go.Hx.V
open Go.Hx
set_option maxRecDepth 20000
set_option maxHeartbeats 4000000
variable {fl : Nat} {h0 : Tr HBlk} {n0 : Nat} {F0 : PH}
attribute [local irreducible] W R C thenH inBlockH Tr.get Tr.set lo ck bnd ix iter
theorem ct104 (N:Nat) {r:Unit} (hF:sf104 N = some r) (hd:D h0 n0) (hs:F0.sub h0):C LW fl 104 [] ⟨h0,n0⟩ (KS (.agg [(.via 165 "Lowest" 127),(.via 165 "Highest" 128)]) n0 h0):=by
 unfold sf104 at hF
 refine yg hd hs lw104 rfl rfl (by rfl) (fun st T hT=>?_)
 have hfl:n0 ≤ n0:=Nat.le_refl n0
 dsimp only [L104]
 refine zd (zg ?_);refine zQ st (fun b1 h2 n3 st=>?_);refine zb (th_n ?_);refine zd (zg ?_);refine za ?_;refine za ?_;refine ya (cs:=[(.via 165 "Lowest" 127),(.via 165 "Highest" 128)]) rfl ?_;refine v_st (cs':=[(.via 165 "Lowest" 127),(.via 165 "Highest" 128)]) st 0 rfl rfl rfl rfl hfl (fun h4 st=>?_);refine zb (th_n ?_);refine zD ?_;obtain rfl:=inj hF
 exact zJ st (Res.c gA (st.at (i:=0) rfl).2.2 (show takeN _ _ = some [(.via 165 "Lowest" 127),(.via 165 "Highest" 128)] from rfl) Res.nil) rfl rfl
theorem ct127 (N:Nat) {a0p0:(List (Int × Int))} {a0p1:Int} {a0p2:(List (Int × Int × (List (Int × Int))))} {a0p3:Int} {a0p4:(Nat → Int)} {a1 r:Int} (hF:sf127 N a0p0 a0p1 a0p2 a0p3 a0p4 a1 = some r) (hd:D h0 n0) (hs:F0.sub h0) {pa0p0:Option (Nat × Nat)} {ca0p0:Nat} {pa0p2:Option (Nat × Nat)} {ca0p2:Nat} {ba0:Nat} (ra0p0:RowF (rP rI rI) 2 F0 pa0p0 ca0p0 a0p0) (ra0p2:RowF (rP rI (rP rI (rL (rP rI rI) 2))) 3 F0 pa0p2 ca0p2 a0p2) (hba0:F0 ba0 = some (.cells ([(.slice pa0p0 (a0p0).length ca0p0),(i64 a0p1),(.slice pa0p2 (a0p2).length ca0p2),(i64 a0p3)] ++ (eI .i64 169 a0p4)) .exact)):C LW fl 127 [(.ptr (some (ba0,3))),(i64 a1)] ⟨h0,n0⟩ (KS (i64 r) n0 h0):=by
 unfold sf127 at hF
 refine yg hd hs lw127 rfl rfl (by rfl) (fun st T hT=>?_)
 have hfl:n0 ≤ n0:=Nat.le_refl n0
 have t0:=hT 0 _ rfl
 have t1:=hT 1 _ rfl
 dsimp only [L127]
 refine zd (zg ?_);refine za ?_;refine zb (th_n ?_);refine zd (zg ?_);refine za ?_;refine za ?_;refine v_nc ?_;refine v_fa ?_;obtain ⟨q1,hF⟩:=zn hF
 refine yl (j:=(Int.toNat a1)) (Int.toNat_of_nonneg q1.1).symm (by omega) ?_
 obtain ⟨q2,hF⟩:=zn hF
 refine yl (j:=(Int.toNat (0:Int))) (Int.toNat_of_nonneg q2.1).symm (by omega) ?_
 refine zq (o:=((4+(Int.toNat a1) * 13)+(Int.toNat (0:Int)) * 1)) (st.sub _ _ hba0) (vk (p:=4) (ix:=(((Int.toNat a1) * 13)+(Int.toNat (0:Int)))) [(.slice pa0p0 (a0p0).length ca0p0),(i64 a0p1),(.slice pa0p2 (a0p2).length ca0p2),(i64 a0p3)] rfl (by omega) (by omega)) ?_
 obtain ⟨q3,hF⟩:=zn hF;refine k9 q3 ?_;refine za ?_;refine zb (th_n ?_);refine zD ?_;obtain rfl:=inj hF
 exact zJ st (Res.t gA Res.nil) rfl rfl
theorem ct128 (N:Nat) {a0p0:(List (Int × Int))} {a0p1:Int} {a0p2:(List (Int × Int × (List (Int × Int))))} {a0p3:Int} {a0p4:(Nat → Int)} {a1 r:Int} (hF:sf128 N a0p0 a0p1 a0p2 a0p3 a0p4 a1 = some r) (hd:D h0 n0) (hs:F0.sub h0) {pa0p0:Option (Nat × Nat)} {ca0p0:Nat} {pa0p2:Option (Nat × Nat)} {ca0p2:Nat} {ba0:Nat} (ra0p0:RowF (rP rI rI) 2 F0 pa0p0 ca0p0 a0p0) (ra0p2:RowF (rP rI (rP rI (rL (rP rI rI) 2))) 3 F0 pa0p2 ca0p2 a0p2) (hba0:F0 ba0 = some (.cells ([(.slice pa0p0 (a0p0).length ca0p0),(i64 a0p1),(.slice pa0p2 (a0p2).length ca0p2),(i64 a0p3)] ++ (eI .i64 169 a0p4)) .exact)):C LW fl 128 [(.ptr (some (ba0,3))),(i64 a1)] ⟨h0,n0⟩ (KS (i64 r) n0 h0):=by
 unfold sf128 at hF
 refine yg hd hs lw128 rfl rfl (by rfl) (fun st T hT=>?_)
 have hfl:n0 ≤ n0:=Nat.le_refl n0
 have t0:=hT 0 _ rfl
 have t1:=hT 1 _ rfl
 dsimp only [L128]
 refine zd (zg ?_);refine za ?_;refine zb (th_n ?_);refine zd (zg ?_);refine za ?_;refine za ?_;refine v_nc ?_;refine v_fa ?_;obtain ⟨q1,hF⟩:=zn hF
 refine yl (j:=(Int.toNat (0:Int))) (Int.toNat_of_nonneg q1.1).symm (by omega) ?_
 obtain ⟨q2,hF⟩:=zn hF
 refine yl (j:=(Int.toNat a1)) (Int.toNat_of_nonneg q2.1).symm (by omega) ?_
 refine zq (o:=((4+(Int.toNat (0:Int)) * 13)+(Int.toNat a1) * 1)) (st.sub _ _ hba0) (vk (p:=4) (ix:=(((Int.toNat (0:Int)) * 13)+(Int.toNat a1))) [(.slice pa0p0 (a0p0).length ca0p0),(i64 a0p1),(.slice pa0p2 (a0p2).length ca0p2),(i64 a0p3)] rfl (by omega) (by omega)) ?_
 refine za ?_;refine zb (th_n ?_);refine zD ?_;obtain rfl:=inj hF
 exact zJ st (Res.t gA Res.nil) rfl rfl
theorem ct64 (N:Nat) {a0:(List (Int × Int))} {a1:(List (Int × Int))} {r:Bool} (hF:sf64 N a0 a1 = some r) (hd:D h0 n0) (hs:F0.sub h0) {pa0:Option (Nat × Nat)} {ca0:Nat} {pa1:Option (Nat × Nat)} {ca1:Nat} (ra0:RowF (rP rI rI) 2 F0 pa0 ca0 a0) (ra1:RowF (rP rI rI) 2 F0 pa1 ca1 a1):C LW fl 64 [(.slice pa0 (a0).length ca0),(.slice pa1 (a1).length ca1)] ⟨h0,n0⟩ (KS (.bool r) n0 h0):=by
 unfold sf64 at hF
 refine yg hd hs lw64 rfl rfl (by rfl) (fun st T hT=>?_)
 have hfl:n0 ≤ n0:=Nat.le_refl n0
 have t0:=hT 0 _ rfl
 have t1:=hT 1 _ rfl
 dsimp only [L64]
 refine zd (zg ?_);refine za ?_;refine zb (th_n ?_);refine zd ?_;refine zd (zg ?_);refine za ?_;refine z2 ?_;refine za ?_;refine z2 ?_;refine vN ?_;refine zb (th_n ?_);refine zE (fun hb1=>?_) (fun hb1=>?_)
 ·have hF:=zy hb1 hF;refine zd (zg ?_);refine za ?_;refine zb (th_n ?_);refine zD ?_;refine th_r ?_;obtain rfl:=inj hF
  exact zJ st (Res.t gA Res.nil) rfl rfl
 ·have hF:=zA hb1 hF;refine zF (th_n ?_);refine zd ?_;refine zd (zg ?_);refine za ?_;refine zb (th_n ?_);refine zx ?_;obtain ⟨y24,hy,hF⟩:=zj hF;refine zW (sf64_L1 a0 a1) (fun x2 T ds3 h nx=>∃ (F3:PH),ds3 = [] ∧ PH.le F0 F3 ∧ St n0 h0 F0 F3 h nx [] ∧ T.get 0 = some (.slice pa0 (a0).length ca0) ∧ T.get 1 = some (.slice pa1 (a1).length ca1) ∧ T.get 5 = some (i64 x2)) (fun y e a σ=>(∃ u,y = (.inl u) ∧ e = .ret ∧ a.nt = 41 ∧ ∃ (F26:PH),a.defers = [] ∧ PH.le F0 F26 ∧ St n0 h0 F0 F26 σ.h σ.nx [] ∧ a.tmps.get 4 = some (.bool false)) ∨ (∃ u,y = (.inr u) ∧ e = .exit 0 ∧ a.nt = 41 ∧ ∃ (F28:PH),a.defers = [] ∧ PH.le F0 F28 ∧ St n0 h0 F0 F28 σ.h σ.nx [])) (fun x2 T ds3 h nx s hp hF=>?_) N _ y24 _ _ _ _ hy ⟨F0,rfl,(PH.le.refl _),st,gA,gA,gA⟩ (fun e a σ hne hq=>?_)
  ·obtain ⟨F3,rfl,le3,st,t0,t1,t5⟩:=hp;unfold sf64_L1 at hF;unfold L64w0;refine zd ?_;refine zd (zg ?_);refine za ?_;refine za ?_;refine z2 ?_;refine yc ?_;refine zb (th_n ?_);refine zE (fun hb29=>?_) (fun hb29=>?_)
   ·have hF:=zy hb29 hF;refine zF (th_n ?_);refine zd ?_;refine zx ?_;obtain ⟨y36,hA37,hF⟩:=zj hF;refine yt (fun T ds39 h nx=>∃ (F39:PH),ds39 = [] ∧ PH.le F3 F39 ∧ St n0 h0 F0 F39 h nx [] ∧ T.get 0 = some (.slice pa0 (a0).length ca0) ∧ T.get 1 = some (.slice pa1 (a1).length ca1) ∧ T.get 5 = some (i64 x2) ∧ T.get 40 = some (.bool y36)) ?_ (fun T ds39 h nx hp=>?_)
    ·have hK38:=hF
     have hF:=hA37;refine yn (Nat.le_trans hfl st.ext.le) (fun dw=>?_);refine vd st.d dw rfl (fun h40 ex vs=>?_)
     have st:=st.ext1 ex
     refine za ?_;refine za ?_;obtain ⟨n41,x41,z41,l41,g41,hF⟩:=zO hF;obtain ⟨b41,o41,s41,j41,r41,e41,f41,k41,⟨_,_,rfl,rfl,rfl⟩⟩:=RowF.get ra0 g41;refine z9 e41 z41 l41 ?_;refine v_fa ?_;refine zq (st.sub _ _ (le3 _ _ f41)) (yk (j:=0) k41 rfl) ?_;refine za ?_;refine za ?_;obtain ⟨n42,x42,z42,l42,g42,hF⟩:=zO hF;obtain ⟨b42,o42,s42,j42,r42,e42,f42,k42,⟨_,_,rfl,rfl,rfl⟩⟩:=RowF.get ra1 g42;refine z9 e42 z42 l42 ?_;refine v_fa ?_;refine zq (st.sub _ _ (le3 _ _ f42)) (yk (j:=0) k42 rfl) ?_;refine yc ?_;refine za ?_
     rcases Bool.eq_false_or_eq_true (decide (x41.1 < x42.1)) with hb43 | hb43
     ·have hF:=zy hb43 hF;refine zf hb43 ?_;refine zf hb43 ?_;refine zf hb43 ?_;refine zf hb43 ?_;refine zf hb43 ?_;refine zf hb43 ?_;refine zf hb43 ?_;refine zf hb43 ?_;refine zf hb43 ?_;refine zf hb43 ?_;refine zf hb43 ?_;refine zK hb43 ?_;refine zb ?_;obtain rfl:=inj hF;refine thn ⟨rfl,?_⟩;dsimp only
      exact ⟨F3,rfl,(PH.le.refl _),st,gA,gA,gA,gA⟩
     ·have hF:=zA hb43 hF;refine zk hb43 (za ?_);refine zk hb43 (za ?_);obtain ⟨n44,x44,z44,l44,g44,hF⟩:=zO hF;obtain ⟨b44,o44,s44,j44,r44,e44,f44,k44,⟨_,_,rfl,rfl,rfl⟩⟩:=RowF.get ra0 g44;refine zk hb43 (z9 e44 z44 l44 ?_);refine zk hb43 (v_fa ?_);refine zk hb43 (zq (st.sub _ _ (le3 _ _ f44)) (yk (j:=1) k44 rfl) ?_);refine zk hb43 (za ?_);refine zk hb43 (za ?_);obtain ⟨n45,x45,z45,l45,g45,hF⟩:=zO hF;obtain ⟨b45,o45,s45,j45,r45,e45,f45,k45,⟨_,_,rfl,rfl,rfl⟩⟩:=RowF.get ra1 g45;refine zk hb43 (z9 e45 z45 l45 ?_);refine zk hb43 (v_fa ?_);refine zk hb43 (zq (st.sub _ _ (le3 _ _ f45)) (yk (j:=1) k45 rfl) ?_)
      refine zk hb43 (jg ?_);refine zI hb43 ?_;refine zb ?_;obtain rfl:=inj hF;refine thn ⟨rfl,?_⟩;dsimp only
      exact ⟨F3,rfl,(PH.le.refl _),st,gA,gA,gA,gA⟩
    ·obtain ⟨F39,rfl,le39,st,t0,t1,t5,t40⟩:=hp
     have le46:=PH.le.trans le3 le39
     refine zE (fun hb47=>?_) (fun hb47=>?_)
     ·have hF:=zy hb47 hF;refine zd (zg ?_);refine za ?_;refine zb (th_n ?_);refine zD ?_;refine ib_r ?_;refine th_r ?_;refine th_r ?_;refine ⟨_,(inj hF).symm,.inl ⟨_,rfl,rfl,rfl,?_⟩⟩;dsimp only
      exact ⟨F39,rfl,le46,st,gA⟩
     ·have hF:=zA hb47 hF;refine zF ?_;refine ib_n ?_;refine th_n ?_;refine zg ?_;refine za ?_;obtain ⟨q48,hF⟩:=zn hF;refine zY q48 ?_;refine za ?_;refine zb ?_;refine thn ⟨_,(inj hF).symm,rfl,?_⟩;dsimp only
      exact ⟨F39,rfl,le46,st,gA,gA,gA⟩
   ·have hF:=zA hb29 hF;refine z6 ?_;refine th_e ?_;refine th_e ?_;refine ⟨_,(inj hF).symm,.inr (⟨_,rfl,rfl,rfl,?_⟩)⟩;dsimp only
    exact ⟨F3,rfl,le3,st⟩
  ·rcases hq with hq | hq
   ·obtain ⟨N9,T,ds26⟩:=a;obtain ⟨h49,n50⟩:=σ;obtain ⟨w25,rfl,rfl,e1,F26,e2,le26,st,t4⟩:=hq
    dsimp only at e1 e2
    subst e1
    subst e2
    dsimp only at st t4
    have hF:=yM hF;refine ib_r ?_;refine th_r ?_;obtain rfl:=inj hF
    exact zJ st (Res.t gA Res.nil) rfl rfl
   ·obtain ⟨N9,T,ds28⟩:=a;obtain ⟨h51,n52⟩:=σ;obtain ⟨w27,rfl,rfl,e1,F28,e2,le28,st⟩:=hq
    dsimp only at e1 e2
    subst e1
    subst e2
    dsimp only at st
    have hF:=yL hF;refine ib_e ?_;refine th_n ?_;refine zd (zg ?_);refine za ?_;refine zb (th_n ?_);refine zD ?_;obtain rfl:=inj hF
    exact zJ st (Res.t gA Res.nil) rfl rfl
theorem ct57 (N:Nat) {a0 a1:Int} {r:(Int × Int)} (hF:sf57 N a0 a1 = some r) (hd:D h0 n0) (hs:F0.sub h0):C LW fl 57 [(i64 a0),(i64 a1)] ⟨h0,n0⟩ (KS (.agg [(i64 r.1),(i64 r.2)]) n0 h0):=by
 unfold sf57 at hF
 refine yg hd hs lw57 rfl rfl (by rfl) (fun st T hT=>?_)
 have hfl:n0 ≤ n0:=Nat.le_refl n0
 have t0:=hT 0 _ rfl
 have t1:=hT 1 _ rfl
 dsimp only [L57]
 refine zd (zg ?_);refine zQ st (fun b1 h2 n3 st=>?_);refine zb (th_n ?_);refine zd (zg ?_);refine za ?_;refine za ?_;refine ya (cs:=[(i64 a0),(i64 a1)]) rfl ?_;refine v_st (cs':=[(i64 a0),(i64 a1)]) st 0 rfl rfl rfl rfl hfl (fun h4 st=>?_);refine zb (th_n ?_);refine zD ?_;obtain rfl:=inj hF
 exact zJ st (Res.c gA (st.at (i:=0) rfl).2.2 (show takeN _ _ = some [(i64 a0),(i64 a1)] from rfl) Res.nil) rfl rfl
end Go.Hx.V

namespace Go.Hx.V
open Go.Hx
set_option maxRecDepth 20000
set_option maxHeartbeats 4000000
variable {fl : Nat} {h0 : Tr HBlk} {n0 : Nat} {F0 : PH}
attribute [local irreducible] W R C thenH inBlockH Tr.get Tr.set lo ck bnd ix iter
theorem ct22 (N:Nat) {a0_0:(List (Int × Int))} {a0_1:Int} {a0_2:(List (Int × Int × (List (Int × Int))))} {r:((List (Int × Int)) × Int × (List (Int × Int × (List (Int × Int)))))} (hF:sf22 N a0_0 a0_1 a0_2 = some r) (hd:D h0 n0) (hs:F0.sub h0) (hfl:fl ≤ n0) {pa0_0:Option (Nat × Nat)} {ca0_0:Nat} {pa0_2:Option (Nat × Nat)} {ca0_2:Nat} (ra0_0:RowF (rP rI rI) 2 F0 pa0_0 ca0_0 a0_0) (ra0_2:RowF (rP rI (rP rI (rL (rP rI rI) 2))) 3 F0 pa0_2 ca0_2 a0_2):C LW fl 22 [(.agg [(.slice pa0_0 (a0_0).length ca0_0),(i64 a0_1),(.slice pa0_2 (a0_2).length ca0_2)])] ⟨h0,n0⟩ (KR (rvA (rP (rL (rP rI rI) 2) (rP rI (rL (rP rI (rP rI (rL (rP rI rI) 2))) 3)))) F0 h0 n0 r):=by
 unfold sf22 at hF
 refine ky hd hs hfl lw22 rfl rfl (by rfl) (fun st T hT=>?_)
 have t0:=hT 0 _ rfl
 dsimp only [L22]
 refine zd (zg ?_);refine yi st (fun b1 h2 n3 st=>?_);refine zQ st (fun b4 h5 n6 st=>?_);refine zb (th_n ?_);refine zd (zg ?_);refine v_fa ?_;refine zq (st.at (i:=0) rfl).2.2 rfl ?_;refine ya (cs:=[(.slice none 0 0),(i64 a0_1),(.slice none 0 0)]) rfl ?_;refine zQ st (fun b7 h8 n9 st=>?_);refine v_st (cs':=[(.slice none 0 0),(i64 a0_1),(.slice none 0 0)]) st 2 rfl rfl rfl rfl hfl (fun h10 st=>?_);refine zb (th_n ?_);refine zd ?_;refine zd (zg ?_);refine za ?_;refine zb (th_n ?_);refine zx ?_
 have st:=st.nilL 2
 have w28:LR (rP rI rI) 2 F0 ([]:List (Int × Int)) []:=LR.nil
 obtain ⟨y42,hy,hF⟩:=zj hF;refine zW (sf22_L1 N a0_0) (fun x30 T ds31 h nx=>∃ (F31:PH) (o32:Option Nat) (c32:Nat) (cs32:List HV),ds31 = [] ∧ PH.le F0 F31 ∧ St n0 h0 F0 F31 h nx [.bx b1 [(.slice pa0_0 (a0_0).length ca0_0),(i64 a0_1),(.slice pa0_2 (a0_2).length ca0_2)],.bx b4 [(.slice none 0 0),(i64 0),(.slice none 0 0)],.bx b7 [(slv o32 (x30.2).length c32),(i64 a0_1),(.slice none 0 0)],.ls o32 c32 cs32 2] ∧ LR (rP rI rI) 2 F31 x30.2 cs32 ∧ T.get 1 = some (.ptr (some (b1,0))) ∧ T.get 2 = some (.ptr (some (b4,0))) ∧ T.get 3 = some (.ptr (some (b7,0))) ∧ T.get 4 = some (i64 x30.1)) (fun y e a σ=>e = .exit 0 ∧ a.nt = 82 ∧ ∃ (F43:PH) (o44:Option Nat) (c44:Nat) (cs44:List HV),a.defers = [] ∧ PH.le F0 F43 ∧ St n0 h0 F0 F43 σ.h σ.nx [.bx b1 [(.slice pa0_0 (a0_0).length ca0_0),(i64 a0_1),(.slice pa0_2 (a0_2).length ca0_2)],.bx b4 [(.slice none 0 0),(i64 0),(.slice none 0 0)],.bx b7 [(slv o44 (y).length c44),(i64 a0_1),(.slice none 0 0)],.ls o44 c44 cs44 2] ∧ LR (rP rI rI) 2 F43 y cs44 ∧ a.tmps.get 1 = some (.ptr (some (b1,0))) ∧ a.tmps.get 2 = some (.ptr (some (b4,0))) ∧ a.tmps.get 3 = some (.ptr (some (b7,0)))) (fun x30 T ds31 h nx s hp hF=>?_) N _ y42 _ _ _ _ hy ⟨F0,none,0,[],rfl,(PH.le.refl _),st,w28,gA,gA,gA,gA⟩ (fun e a σ hne hq=>?_)
 ·obtain ⟨F31,o32,c32,cs32,rfl,le31,st,w32,t1,t2,t3,t4⟩:=hp;unfold sf22_L1 at hF;unfold L22w2;refine zd ?_;refine zd (zg ?_);refine za ?_;refine v_fa ?_;refine zq (st.at (i:=0) rfl).2.2 rfl ?_;refine z2 ?_;refine yc ?_;refine zb (th_n ?_);refine zE (fun hb45=>?_) (fun hb45=>?_)
  ·have hF:=zy hb45 hF;refine zF (th_n ?_);refine zd ?_;refine zx ?_;refine yn (Nat.le_trans hfl st.ext.le) (fun dw=>?_);refine zB st.d dw (fun hm vw=>v_fa zu) ?_;refine zB st.d dw (fun hm vw=>zq (vw.bx (st.at (i:=2) rfl)) rfl zu) ?_;refine zB st.d dw (fun hm vw=>v_fa zu) ?_;refine zB st.d dw (fun hm vw=>zq (vw.bx (st.at (i:=0) rfl)) rfl zu) ?_;refine zB st.d dw (fun hm vw=>za zu) ?_;obtain ⟨n46,x46,z46,l46,g46,hF⟩:=zO hF;obtain ⟨b46,o46,s46,j46,r46,e46,f46,k46,⟨_,_,rfl,rfl,rfl⟩⟩:=RowF.get ra0_0 g46;refine zB st.d dw (fun hm vw=>z9 e46 z46 l46 zu) ?_
   refine zB st.d dw (fun hm vw=>zM (vw.fz st (le31 _ _ f46)) k46 zu) ?_;obtain ⟨v47,e48,hF⟩:=zj hF;refine vy st.d dw (fun hm vw=>um (ct33 N e48 vw.d (vw.sub st) ) (fun n' hn'=>vC hn')) (fun n49 hn' dw=>?_);refine km st.d dw (fun hm vw=>u_bs (cs:=[(i64 v47.1),(i64 v47.2)]) rfl zu) (fun done dw=>?_);refine vd st.d dw rfl (fun h50 ex vs=>?_)
   have st:=St.laid st ex (Lay.cons (b:=n49) (cs:=[(i64 v47.1),(i64 v47.2)]) (by have:=dw.le;omega) (vs _ (List.mem_cons_self ..) _ _ (if_pos rfl)) (Lay.nil (by have:=dw.le;omega)))
   obtain ⟨q51,hF⟩:=zn hF
   have w51:LR (rP rI rI) 2 F31 (x30.2 ++ [(v47.1,v47.2)]) (cs32 ++ [(i64 v47.1),(i64 v47.2)]):=LR.app w32 (LR.one (⟨[(i64 v47.1)],_,rfl,rfl,rfl⟩))
   refine jh (n:=1) (ox:=0) (m:=(x30.2 ++ [(v47.1,v47.2)]).length) (row:=[(i64 v47.1),(i64 v47.2)]) st 3 rfl w32.1 (st.at (i:=4) rfl).2.2 rfl rfl q51 hfl (by decide) (by decide) (by simp) (fun o51 c51 h51 n51 st=>?_)
   refine v_fa ?_;refine v_st (cs':=[(slv o51 ((x30.2 ++ [(v47.1,v47.2)])).length c51),(i64 a0_1),(.slice none 0 0)]) st 2 rfl rfl rfl rfl hfl (fun h52 st=>?_);refine zb ?_;refine ib_n ?_;refine th_n ?_;refine zg ?_;refine za ?_;obtain ⟨q53,hF⟩:=zn hF;refine zY q53 ?_;refine za ?_;refine zb ?_;refine thn ⟨_,(inj hF).symm,rfl,?_⟩;dsimp only
   exact ⟨F31,o51,c51,(cs32 ++ [(i64 v47.1),(i64 v47.2)]),rfl,le31,(st.drop (by first | exact List.Sublist.refl _ | (repeat first | exact List.nil_sublist _ | refine List.Sublist.cons_cons _ ?_ | refine List.Sublist.cons _ ?_))),w51,gA,gA,gA,gA⟩
  ·have hF:=zA hb45 hF;refine z6 ?_;refine th_e ?_;refine th_e ?_;refine ⟨_,(inj hF).symm,rfl,rfl,?_⟩;dsimp only
   exact ⟨F31,o32,c32,cs32,rfl,le31,st,w32,gA,gA,gA⟩
 ·obtain ⟨N9,T,ds43⟩:=a;obtain ⟨h54,n55⟩:=σ;obtain ⟨rfl,e1,F43,o44,c44,cs44,e2,le43,st,w44,t1,t2,t3⟩:=hq
  dsimp only at e1 e2
  subst e1
  subst e2
  dsimp only at st t1 t2 t3
  refine ib_e ?_;refine th_n ?_;refine zd ?_;refine zd (zg ?_);refine za ?_;refine zb (th_n ?_);refine zx ?_
  have st:=st.nilL 3
  have w152:LR (rP rI (rP rI (rL (rP rI rI) 2))) 3 F43 ([]:List (Int × Int × (List (Int × Int)))) []:=LR.nil
  obtain ⟨y247,hy,hF⟩:=zj hF;refine zW (sf22_L3 N a0_2) (fun x154 T ds155 h nx=>∃ (F155:PH) (o156:Option Nat) (c156:Nat) (cs156:List HV),ds155 = [] ∧ PH.le F43 F155 ∧ St n0 h0 F0 F155 h nx [.bx b1 [(.slice pa0_0 (a0_0).length ca0_0),(i64 a0_1),(.slice pa0_2 (a0_2).length ca0_2)],.bx b4 [(.slice none 0 0),(i64 0),(.slice none 0 0)],.bx b7 [(slv o44 (y42).length c44),(i64 a0_1),(slv o156 (x154.2).length c156)],.ls o44 c44 cs44 2,.ls o156 c156 cs156 3] ∧ LR (rP rI (rP rI (rL (rP rI rI) 2))) 3 F155 x154.2 cs156 ∧ T.get 1 = some (.ptr (some (b1,0))) ∧ T.get 2 = some (.ptr (some (b4,0))) ∧ T.get 3 = some (.ptr (some (b7,0))) ∧ T.get 5 = some (i64 x154.1)) (fun y e a σ=>e = .exit 2 ∧ a.nt = 82 ∧ ∃ (F248:PH) (o249:Option Nat) (c249:Nat) (cs249:List HV),a.defers = [] ∧ PH.le F43 F248 ∧ St n0 h0 F0 F248 σ.h σ.nx [.bx b1 [(.slice pa0_0 (a0_0).length ca0_0),(i64 a0_1),(.slice pa0_2 (a0_2).length ca0_2)],.bx b4 [(.slice none 0 0),(i64 0),(.slice none 0 0)],.bx b7 [(slv o44 (y42).length c44),(i64 a0_1),(slv o249 (y).length c249)],.ls o44 c44 cs44 2,.ls o249 c249 cs249 3] ∧ LR (rP rI (rP rI (rL (rP rI rI) 2))) 3 F248 y cs249 ∧ a.tmps.get 2 = some (.ptr (some (b4,0))) ∧ a.tmps.get 3 = some (.ptr (some (b7,0)))) (fun x154 T ds155 h nx s hp hF=>?_) N _ y247 _ _ _ _ hy ⟨F43,none,0,[],rfl,(PH.le.refl _),st,w152,gA,gA,gA,gA⟩ (fun e a σ hne hq=>?_)
  ·obtain ⟨F155,o156,c156,cs156,rfl,le155,st,w156,t1,t2,t3,t5⟩:=hp
   have le157:=PH.le.trans le43 le155
   unfold sf22_L3 at hF;unfold L22w1;refine zd ?_;refine zd (zg ?_);refine za ?_;refine v_fa ?_;refine zq (st.at (i:=0) rfl).2.2 rfl ?_;refine z2 ?_;refine yc ?_;refine zb (th_n ?_);refine zE (fun hb250=>?_) (fun hb250=>?_)
   ·have hF:=zy hb250 hF;refine zF (th_n ?_);refine zd ?_;refine zx ?_;refine zd (zg ?_);refine v_fa ?_;refine zq (st.at (i:=0) rfl).2.2 rfl ?_;refine za ?_;obtain ⟨n251,x251,z251,l251,g251,hF⟩:=zO hF;obtain ⟨b251,o251,s251,j251,r251,e251,f251,k251,⟨_,_,rfl,rfl,⟨_,_,rfl,rfl,⟨py252,cy252,rfl,ry252⟩⟩⟩⟩:=RowF.get ra0_2 g251;refine z9 e251 z251 l251 ?_;refine v_fa ?_
    refine zM (vs:=[(i64 x251.1),(i64 x251.2.1)]) (st.sub _ _ (le157 _ _ f251)) (Xa (j:=0) k251 (by decide) rfl) ?_
    obtain ⟨v253,e254,hF⟩:=zj hF;refine zT st (ct33 N e254 st.d st.sub ) (fun n255 st=>?_);refine ya (cs:=[(i64 v253.1),(i64 v253.2),(.slice none 0 0)]) rfl ?_;refine zQ st (fun b256 h257 n258 st=>?_);refine v_st (cs':=[(i64 v253.1),(i64 v253.2),(.slice none 0 0)]) st 5 rfl rfl rfl rfl hfl (fun h259 st=>?_);refine zb (th_n ?_);refine zd ?_;refine zd (zg ?_);refine za ?_;refine zb (th_n ?_);refine zx ?_
    have st:=st.nilL 2
    have w283:LR (rP rI rI) 2 F155 ([]:List (Int × Int)) []:=LR.nil
    obtain ⟨y306,hy,hF⟩:=zj hF;refine zW (sf22_L2 a0_2 x154) (fun x285 T ds286 h nx=>∃ (F286:PH) (o287:Option Nat) (c287:Nat) (cs287:List HV),ds286 = [] ∧ PH.le F155 F286 ∧ St n0 h0 F0 F286 h nx [.bx b1 [(.slice pa0_0 (a0_0).length ca0_0),(i64 a0_1),(.slice pa0_2 (a0_2).length ca0_2)],.bx b4 [(.slice none 0 0),(i64 0),(.slice none 0 0)],.bx b7 [(slv o44 (y42).length c44),(i64 a0_1),(slv o156 (x154.2).length c156)],.ls o44 c44 cs44 2,.ls o156 c156 cs156 3,.bx b256 [(i64 v253.1),(i64 v253.2),(slv o287 (x285.2).length c287)],.ls o287 c287 cs287 2] ∧ LR (rP rI rI) 2 F286 x285.2 cs287 ∧ T.get 1 = some (.ptr (some (b1,0))) ∧ T.get 2 = some (.ptr (some (b4,0))) ∧ T.get 3 = some (.ptr (some (b7,0))) ∧ T.get 5 = some (i64 x154.1) ∧ T.get 6 = some (.ptr (some (b256,0))) ∧ T.get 7 = some (i64 x285.1)) (fun y e a σ=>e = .exit 4 ∧ a.nt = 82 ∧ ∃ (F307:PH) (o308:Option Nat) (c308:Nat) (cs308:List HV),a.defers = [] ∧ PH.le F155 F307 ∧ St n0 h0 F0 F307 σ.h σ.nx [.bx b1 [(.slice pa0_0 (a0_0).length ca0_0),(i64 a0_1),(.slice pa0_2 (a0_2).length ca0_2)],.bx b4 [(.slice none 0 0),(i64 0),(.slice none 0 0)],.bx b7 [(slv o44 (y42).length c44),(i64 a0_1),(slv o156 (x154.2).length c156)],.ls o44 c44 cs44 2,.ls o156 c156 cs156 3,.bx b256 [(i64 v253.1),(i64 v253.2),(slv o308 (y).length c308)],.ls o308 c308 cs308 2] ∧ LR (rP rI rI) 2 F307 y cs308 ∧ a.tmps.get 1 = some (.ptr (some (b1,0))) ∧ a.tmps.get 2 = some (.ptr (some (b4,0))) ∧ a.tmps.get 3 = some (.ptr (some (b7,0))) ∧ a.tmps.get 5 = some (i64 x154.1) ∧ a.tmps.get 6 = some (.ptr (some (b256,0)))) (fun x285 T ds286 h nx s hp hF=>?_) N _ y306 _ _ _ _ hy ⟨F155,none,0,[],rfl,(PH.le.refl _),st,w283,gA,gA,gA,gA,gA,gA⟩ (fun e a σ hne hq=>?_)
    ·obtain ⟨F286,o287,c287,cs287,rfl,le286,st,w287,t1,t2,t3,t5,t6,t7⟩:=hp
     have le288:=PH.le.trans le157 le286
     unfold sf22_L2 at hF;unfold L22w0;refine zd ?_;refine zd (zg ?_);refine za ?_;refine v_fa ?_;refine zq (st.at (i:=0) rfl).2.2 rfl ?_;refine za ?_;obtain ⟨n309,x309,z309,l309,g309,hF⟩:=zO hF;obtain ⟨b309,o309,s309,j309,r309,e309,f309,k309,⟨_,_,rfl,rfl,⟨_,_,rfl,rfl,⟨py310,cy310,rfl,ry310⟩⟩⟩⟩:=RowF.get ra0_2 g309;refine z9 e309 z309 l309 ?_;refine v_fa ?_;refine zq (st.sub _ _ (le288 _ _ f309)) (yk (j:=2) k309 rfl) ?_;refine z2 ?_;refine yc ?_;refine zb (th_n ?_);refine zE (fun hb311=>?_) (fun hb311=>?_)
     ·have hF:=zy hb311 hF;refine zF (th_n ?_);refine zd ?_;refine zx ?_;refine zd (zg ?_);refine v_fa ?_;refine zq (st.at (i:=0) rfl).2.2 rfl ?_;refine za ?_;obtain ⟨n312,x312,z312,l312,g312,hF⟩:=zO hF;obtain ⟨b312,o312,s312,j312,r312,e312,f312,k312,⟨_,_,rfl,rfl,⟨_,_,rfl,rfl,⟨py313,cy313,rfl,ry313⟩⟩⟩⟩:=RowF.get ra0_2 g312;refine z9 e312 z312 l312 ?_;refine v_fa ?_;refine zq (st.sub _ _ (le288 _ _ f312)) (yk (j:=2) k312 rfl) ?_;refine za ?_;obtain ⟨n314,x314,z314,l314,g314,hF⟩:=zO hF;obtain ⟨b314,o314,s314,j314,r314,e314,f314,k314,⟨_,_,rfl,rfl,rfl⟩⟩:=RowF.get ry313 g314
      refine z9 e314 z314 l314 ?_;refine zM (st.sub _ _ (le288 _ _ f314)) k314 ?_;refine zQ st (fun b315 h316 n317 st=>?_);refine v_st (cs':=[(i64 x314.1),(i64 x314.2)]) st 7 rfl rfl rfl rfl hfl (fun h318 st=>?_);refine zb (th_n ?_);refine zg ?_;refine v_fa ?_;refine zq (st.at (i:=5) rfl).2.2 rfl ?_;refine v_fa ?_;refine zq (st.at (i:=7) rfl).2.2 rfl ?_;refine v_fa ?_;refine zq (st.at (i:=7) rfl).2.2 rfl ?_;refine ya (cs:=[(i64 x314.1),(i64 x314.2)]) rfl ?_;refine v_bs (cs:=[(i64 x314.1),(i64 x314.2)]) st rfl (fun b319 h320 n321 st=>?_);obtain ⟨q322,hF⟩:=zn hF
      have w322:LR (rP rI rI) 2 F286 (x285.2 ++ [(x314.1,x314.2)]) (cs287 ++ [(i64 x314.1),(i64 x314.2)]):=LR.app w287 (LR.one (⟨[(i64 x314.1)],_,rfl,rfl,rfl⟩))
      refine jh (n:=1) (ox:=0) (m:=(x285.2 ++ [(x314.1,x314.2)]).length) (row:=[(i64 x314.1),(i64 x314.2)]) st 6 rfl w287.1 (st.at (i:=8) rfl).2.2 rfl rfl q322 hfl (by decide) (by decide) (by simp) (fun o322 c322 h322 n322 st=>?_)
      refine v_fa ?_;refine v_st (cs':=[(i64 v253.1),(i64 v253.2),(slv o322 ((x285.2 ++ [(x314.1,x314.2)])).length c322)]) st 5 rfl rfl rfl rfl hfl (fun h323 st=>?_);refine zb ?_;refine ib_n ?_;refine th_n ?_;refine zg ?_;refine za ?_;obtain ⟨q324,hF⟩:=zn hF;refine zY q324 ?_;refine za ?_;refine zb ?_;refine thn ⟨_,(inj hF).symm,rfl,?_⟩;dsimp only
      exact ⟨F286,o322,c322,(cs287 ++ [(i64 x314.1),(i64 x314.2)]),rfl,le286,(st.drop (by first | exact List.Sublist.refl _ | (repeat first | exact List.nil_sublist _ | refine List.Sublist.cons_cons _ ?_ | refine List.Sublist.cons _ ?_))),w322,gA,gA,gA,gA,gA,gA⟩
     ·have hF:=zA hb311 hF;refine z6 ?_;refine th_e ?_;refine th_e ?_;refine ⟨_,(inj hF).symm,rfl,rfl,?_⟩;dsimp only
      exact ⟨F286,o287,c287,cs287,rfl,le286,st,w287,gA,gA,gA,gA,gA⟩
    ·obtain ⟨N9,T,ds307⟩:=a;obtain ⟨h327,n328⟩:=σ;obtain ⟨rfl,e1,F307,o308,c308,cs308,e2,le307,st,w308,t1,t2,t3,t5,t6⟩:=hq
     dsimp only at e1 e2
     subst e1
     subst e2
     dsimp only at st t1 t2 t3 t5 t6
     have le326:=PH.le.trans le155 le307
     refine ib_e ?_;refine th_n ?_;refine zg ?_;refine v_fa ?_;refine zq (st.at (i:=2) rfl).2.2 rfl ?_;refine zM (vs:=[(i64 v253.1),(i64 v253.2),(slv o308 (y306).length c308)]) (st.at (i:=5) rfl).2.2 rfl ?_;refine v_bs (cs:=[(i64 v253.1),(i64 v253.2),(slv o308 (y306).length c308)]) st rfl (fun b329 h330 n331 st=>?_)
     obtain ⟨F332,le332,st,rf332⟩:=St.freeze st 6 rfl w308 (by decide)
     have le334:=PH.le.trans le326 le332
     have le335:=PH.le.trans le307 le332
     obtain ⟨q336,hF⟩:=zn hF
     have w336:LR (rP rI (rP rI (rL (rP rI rI) 2))) 3 F332 (x154.2 ++ [(v253.1,v253.2,y306)]) (cs156 ++ [(i64 v253.1),(i64 v253.2),(.slice (o308.map fun b=>(b,0)) (y306).length c308)]):=LR.app (LR.mono le335 w156) (LR.one (⟨[(i64 v253.1)],_,rfl,rfl,⟨[(i64 v253.2)],_,rfl,rfl,⟨_,_,rfl,rf332⟩⟩⟩))
     refine jh (n:=1) (ox:=0) (m:=(x154.2 ++ [(v253.1,v253.2,y306)]).length) (row:=[(i64 v253.1),(i64 v253.2),(.slice (o308.map fun b=>(b,0)) (y306).length c308)]) st 4 rfl (LR.mono le335 w156).1 (st.at (i:=6) rfl).2.2 rfl rfl q336 hfl (by decide) (by decide) (by simp) (fun o336 c336 h336 n336 st=>?_)
     refine v_fa ?_;refine v_st (cs':=[(slv o44 (y42).length c44),(i64 a0_1),(slv o336 ((x154.2 ++ [(v253.1,v253.2,y306)])).length c336)]) st 2 rfl rfl rfl rfl hfl (fun h337 st=>?_);refine zb ?_;refine ib_n ?_;refine th_n ?_;refine zg ?_;refine za ?_;obtain ⟨q338,hF⟩:=zn hF;refine zY q338 ?_;refine za ?_;refine zb ?_;refine thn ⟨_,(inj hF).symm,rfl,?_⟩;dsimp only
     exact ⟨F332,o336,c336,(cs156 ++ [(i64 v253.1),(i64 v253.2),(.slice (o308.map fun b=>(b,0)) (y306).length c308)]),rfl,le334,(st.drop (by first | exact List.Sublist.refl _ | (repeat first | exact List.nil_sublist _ | refine List.Sublist.cons_cons _ ?_ | refine List.Sublist.cons _ ?_))),w336,gA,gA,gA,gA⟩
   ·have hF:=zA hb250 hF;refine z6 ?_;refine th_e ?_;refine th_e ?_;refine ⟨_,(inj hF).symm,rfl,rfl,?_⟩;dsimp only
    exact ⟨F155,o156,c156,cs156,rfl,le155,st,w156,gA,gA⟩
  ·obtain ⟨N9,T,ds248⟩:=a;obtain ⟨h340,n341⟩:=σ;obtain ⟨rfl,e1,F248,o249,c249,cs249,e2,le248,st,w249,t2,t3⟩:=hq
   dsimp only at e1 e2
   subst e1
   subst e2
   dsimp only at st t2 t3
   refine ib_e ?_;refine th_n ?_;refine zd (zg ?_);refine zM (vs:=[(slv o44 (y42).length c44),(i64 a0_1),(slv o249 (y247).length c249)]) (st.at (i:=2) rfl).2.2 rfl ?_;refine v_st (cs':=[(slv o44 (y42).length c44),(i64 a0_1),(slv o249 (y247).length c249)]) st 1 rfl rfl rfl rfl hfl (fun h342 st=>?_);refine zb (th_n ?_);refine zD ?_;obtain rfl:=inj hF
   obtain ⟨F343,le343,st,rf343⟩:=St.freeze st 3 rfl (LR.mono le248 w44) (by decide)
   obtain ⟨F346,le346,st,rf346⟩:=St.freeze st 3 rfl (LR.mono le343 w249) (by decide)
   exact ul st (Res.c gA (st.at (i:=1) rfl).2.2 (show takeN _ _ = some [(.slice (o44.map fun b=>(b,0)) (y42).length c44),(i64 a0_1),(.slice (o249.map fun b=>(b,0)) (y247).length c249)] from rfl) Res.nil) ⟨_,rfl,⟨[(.slice (o44.map fun b=>(b,0)) (y42).length c44)],_,rfl,⟨_,_,rfl,(RowF.mono le346 rf343)⟩,⟨[(i64 a0_1)],_,rfl,rfl,⟨_,_,rfl,rf346⟩⟩⟩⟩
theorem ct99 (N:Nat) {a0_0 a0_1:Int} {r:Bool} (hF:sf99 N a0_0 a0_1 = some r) (hd:D h0 n0) (hs:F0.sub h0):C LW fl 99 [(.agg [(i64 a0_0),(i64 a0_1)])] ⟨h0,n0⟩ (KS (.bool r) n0 h0):=by
 unfold sf99 at hF
 refine yg hd hs lw99 rfl rfl (by rfl) (fun st T hT=>?_)
 have hfl:n0 ≤ n0:=Nat.le_refl n0
 have t0:=hT 0 _ rfl
 dsimp only [L99]
 refine zd (zg ?_);refine yi st (fun b1 h2 n3 st=>?_);refine za ?_;refine zb (th_n ?_);refine zd (zg ?_);refine zM (vs:=[(i64 a0_0),(i64 a0_1)]) (st.at (i:=0) rfl).2.2 rfl ?_;obtain ⟨v4,e5,hF⟩:=zj hF;refine zT st (ct123 N e5 st.d st.sub ) (fun n6 st=>?_);refine za ?_;refine zb (th_n ?_);refine zD ?_;obtain rfl:=inj hF
 exact zJ st (Res.t gA Res.nil) rfl rfl
theorem ct113 (N:Nat) {a0_0 a0_1:Int} {r:Bool} (hF:sf113 N a0_0 a0_1 = some r) (hd:D h0 n0) (hs:F0.sub h0):C LW fl 113 [(.agg [(i64 a0_0),(i64 a0_1)])] ⟨h0,n0⟩ (KS (.bool r) n0 h0):=by
 unfold sf113 at hF
 refine yg hd hs lw113 rfl rfl (by rfl) (fun st T hT=>?_)
 have hfl:n0 ≤ n0:=Nat.le_refl n0
 have t0:=hT 0 _ rfl
 dsimp only [L113]
 refine zd (zg ?_);refine yi st (fun b1 h2 n3 st=>?_);refine za ?_;refine zb (th_n ?_);refine zd (zg ?_);refine zM (vs:=[(i64 a0_0),(i64 a0_1)]) (st.at (i:=0) rfl).2.2 rfl ?_;obtain ⟨v4,e5,hF⟩:=zj hF;refine zT st (ct123 N e5 st.d st.sub ) (fun n6 st=>?_);refine za ?_;refine zb (th_n ?_);refine zD ?_;obtain rfl:=inj hF
 exact zJ st (Res.t gA Res.nil) rfl rfl
theorem ct125 (N:Nat) {a0_0:(List (Int × Int))} {a0_1:Int} {a0_2:(List (Int × Int × (List (Int × Int))))} {a1_0 a1_1:Int} {r:Bool} (hF:sf125 N a0_0 a0_1 a0_2 a1_0 a1_1 = some r) (hd:D h0 n0) (hs:F0.sub h0) {pa0_0:Option (Nat × Nat)} {ca0_0:Nat} {pa0_2:Option (Nat × Nat)} {ca0_2:Nat} (ra0_0:RowF (rP rI rI) 2 F0 pa0_0 ca0_0 a0_0) (ra0_2:RowF (rP rI (rP rI (rL (rP rI rI) 2))) 3 F0 pa0_2 ca0_2 a0_2):C LW fl 125 [(.agg [(.slice pa0_0 (a0_0).length ca0_0),(i64 a0_1),(.slice pa0_2 (a0_2).length ca0_2)]),(.agg [(i64 a1_0),(i64 a1_1)])] ⟨h0,n0⟩ (KS (.bool r) n0 h0):=by
 unfold sf125 at hF
 refine yg hd hs lw125 rfl rfl (by rfl) (fun st T hT=>?_)
 have hfl:n0 ≤ n0:=Nat.le_refl n0
 have t0:=hT 0 _ rfl
 have t1:=hT 1 _ rfl
 dsimp only [L125]
 refine zd (zg ?_);refine yi st (fun b1 h2 n3 st=>?_);refine yi st (fun b4 h5 n6 st=>?_);refine za ?_;refine zb (th_n ?_);refine zd (zg ?_);refine zM (vs:=[(.slice pa0_0 (a0_0).length ca0_0),(i64 a0_1),(.slice pa0_2 (a0_2).length ca0_2)]) (st.at (i:=0) rfl).2.2 rfl ?_;refine v_fa ?_;refine zq (st.at (i:=1) rfl).2.2 rfl ?_;obtain ⟨v7,e8,hF⟩:=zj hF;refine zT st (ct77 N e8 st.d st.sub ra0_0 ra0_2) (fun n9 st=>?_);refine za ?_
 rcases Bool.eq_false_or_eq_true v7 with hb10 | hb10
 ·have hF:=zy hb10 hF;refine zk hb10 (v_fa ?_);refine zk hb10 (zq (st.at (i:=1) rfl).2.2 rfl ?_);refine zk hb10 (vL ?_);refine zK hb10 ?_;refine za ?_
  rcases Bool.eq_false_or_eq_true (decide ((-1000:Int) ≤ a1_1)) with hb11 | hb11
  ·have hF:=zy hb11 hF;refine zk hb11 (v_fa ?_);refine zk hb11 (zq (st.at (i:=1) rfl).2.2 rfl ?_);refine zk hb11 (vL ?_);refine zK hb11 ?_;refine za ?_;refine zb (th_n ?_);refine zD ?_;obtain rfl:=inj hF
   exact zJ st (Res.t gA Res.nil) rfl rfl
  ·have hF:=zA hb11 hF;refine zf hb11 ?_;refine zf hb11 ?_;refine zf hb11 ?_;refine zI hb11 ?_;refine za ?_;refine zb (th_n ?_);refine zD ?_;obtain rfl:=inj hF
   exact zJ st (Res.t gA Res.nil) rfl rfl
 ·have hF:=zA hb10 hF;refine zf hb10 ?_;refine zf hb10 ?_;refine zf hb10 ?_;refine zI hb10 ?_;refine za ?_;refine zf rfl ?_;refine zf rfl ?_;refine zf rfl ?_;refine zI rfl ?_;refine za ?_;refine zb (th_n ?_);refine zD ?_;obtain rfl:=inj hF
  exact zJ st (Res.t gA Res.nil) rfl rfl
end Go.Hx.V

namespace Go.Hx.V
open Go.Hx
set_option maxRecDepth 20000
set_option maxHeartbeats 4000000
variable {fl : Nat} {h0 : Tr HBlk} {n0 : Nat} {F0 : PH}
attribute [local irreducible] W R C thenH inBlockH Tr.get Tr.set lo ck bnd ix iter
theorem ct90 (N:Nat) {a0_0 a0_1 a1 a2:Int} {r:Bool} (hF:sf90 N a0_0 a0_1 a1 a2 = some r) (hd:D h0 n0) (hs:F0.sub h0):C LW fl 90 [(.agg [(i64 a0_0),(i64 a0_1)]),(i64 a1),(i64 a2)] ⟨h0,n0⟩ (KS (.bool r) n0 h0):=by
 unfold sf90 at hF
 refine yg hd hs lw90 rfl rfl (by rfl) (fun st T hT=>?_)
 have hfl:n0 ≤ n0:=Nat.le_refl n0
 have t0:=hT 0 _ rfl
 have t1:=hT 1 _ rfl
 have t2:=hT 2 _ rfl
 dsimp only [L90]
 refine zd (zg ?_);refine yi st (fun b1 h2 n3 st=>?_);refine za ?_;refine zb (th_n ?_);refine zd (zg ?_);refine v_fa ?_;refine zq (st.at (i:=0) rfl).2.2 rfl ?_;refine za ?_;refine v_fa ?_;refine zq (st.at (i:=0) rfl).2.2 rfl ?_;obtain ⟨v4,e5,hF⟩:=zj hF;refine zT st (ct32 N e5 st.d st.sub ) (fun n6 st=>?_);refine za ?_
 rcases Bool.eq_false_or_eq_true v4 with hb7 | hb7
 ·have hF:=zy hb7 hF;refine zk hb7 (v_fa ?_);refine zk hb7 (zq (st.at (i:=0) rfl).2.2 rfl ?_);refine zk hb7 (za ?_);refine zk hb7 (vL ?_);refine zK hb7 ?_;refine za ?_;refine zb (th_n ?_);refine zD ?_;obtain rfl:=inj hF
  exact zJ st (Res.t gA Res.nil) rfl rfl
 ·have hF:=zA hb7 hF;refine zf hb7 ?_;refine zf hb7 ?_;refine zf hb7 ?_;refine zf hb7 ?_;refine zI hb7 ?_;refine za ?_;refine zb (th_n ?_);refine zD ?_;obtain rfl:=inj hF
  exact zJ st (Res.t gA Res.nil) rfl rfl
end Go.Hx.V

namespace Go.Hx.V
open Go.Hx
set_option maxRecDepth 20000
set_option maxHeartbeats 4000000
variable {fl : Nat} {h0 : Tr HBlk} {n0 : Nat} {F0 : PH}
attribute [local irreducible] W R C thenH inBlockH Tr.get Tr.set lo ck bnd ix iter
end Go.Hx.V

namespace Go.Hx.V
open Go.Hx
set_option maxRecDepth 20000
set_option maxHeartbeats 4000000
variable {fl : Nat} {h0 : Tr HBlk} {n0 : Nat} {F0 : PH}
attribute [local irreducible] W R C thenH inBlockH Tr.get Tr.set lo ck bnd ix iter
end Go.Hx.V

