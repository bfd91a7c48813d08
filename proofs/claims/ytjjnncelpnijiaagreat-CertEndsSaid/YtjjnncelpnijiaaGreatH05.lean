import Derived.Test.YtjjnncelpnijiaaGreatH04
import Derived.ProofKit
import Derived.Test.YtjjnncelpnijiaaGreatH02
import Derived.Test.YtjjnncelpnijiaaGreatH03
set_option linter.all false
namespace Go.Hx
set_option maxRecDepth 100000
noncomputable section
open F
def L18r0:List zo:=[(og 8 (.fieldAddr 5 (t 1)) 7 .true),(og 9 (.load .false 1 (t 8)) 7 .true),(og 10 (.len .slice (t 9)) 7 .true),(og 11 (b .leq (t 10) (k 11)) 7 .true),(o 12 (.pick (t 7) (t 11) (.c (.bool .false)))),(m 2 12)]
def L18s0:zk:=(.seq (.reg ((f 3 4 1) :: (l 4 3) :: (o 5 (.len .slice (t 4))) :: (o 6 (b .leq (t 5) (k 15))) :: (m 7 6) :: L18r0)) .ret)
def L18:zr:=⟨13,(.seq (.reg [(o 1 (.box (t 0))),(o 2 (.move (.c (.bool .false))))]) L18s0),[(.t 2)],.false,.none,vO⟩
theorem lp18:LP 18 = some L18:=by kernel_rfl
def L22s0:zk:=(.seq (.reg [(g 6 10 2),(m 7 1),(o 8 (c 67 [(t 6),(t 7),(.c (.func 68 [] []))])),(x 9 8 0),(x 10 8 1),(m 4 9),(m 5 10)]) .ret)
def L22:zr:=⟨11,(.seq (.reg [(o 2 (.box (t 0))),(o 4 (.move (.c (.slice .none 0 0)))),(o 5 (.move (k 0)))]) L22s0),[(.t 4),(.t 5)],.true,.none,vO⟩
theorem lp22:LP 22 = some L22:=by kernel_rfl
def L58r0:List zo:=[(o 23 (c 94 [(t 13),(t 14),(t 22)])),(m 12 23),(x 24 12 0),(x 25 12 1),(o 10 (.alloc (Zr 174))),(s 174 10 24),(m 11 25)]
def L58r1:List zo:=((og 18 (.move (t 2)) 17 .true) :: (og 19 (.fieldAddr 0 (t 4)) 17 .true) :: (og 20 (.load .false 1 (t 19)) 17 .true) :: (og 21 (b .leq (t 18) (t 20)) 17 .true) :: (o 22 (.pick (t 17) (t 21) (.c (.bool .false)))) :: L58r0)
def L58s0:zk:=(.cond (t 27) (.seq (.reg [(m 28 11),(o 8 (.move (.c (.slice .none 0 0)))),(m 9 28)]) .ret) .skip)
def L58s1:zk:=(.cond (t 29) (.seq (.draw 2 [(g 30 174 10),(o 31 (c 96 [])),(oa 32 (.field .false 1 1 (t 31)) [1]),(oa 33 (c 95 [(t 30),(t 32)]) [1]),(oa 8 (.move (t 33)) [3,1]),(oa 9 (.move (k 0)) [3,1])]) .ret) .skip)
def L58s2:zk:=(.seq (.draw 2 [(g 34 174 10),(o 35 (c 96 [])),(oa 36 (.field .false 1 0 (t 35)) [1]),(oa 37 (c 95 [(t 34),(t 36)]) [1]),(oa 8 (.move (t 37)) [3,1]),(oa 9 (.move (k 0)) [3,1])]) .ret)
def L58s3:zk:=(.seq (.seq (.reg [(m 26 11),(o 27 (.eq (.cell (.i .i64)) .true (t 26) (k 0)))]) L58s0) (.seq (.seq (.reg [(m 29 3)]) L58s1) L58s2))
def L58s4:zk:=(.seq (.reg ((g 13 4 4) :: (m 14 1) :: (m 15 2) :: (o 16 (b .leq (k 0) (t 15))) :: (m 17 16) :: L58r1)) L58s3)
def L58:zr:=⟨38,(.seq (.reg [(o 4 (.box (t 0))),(o 8 (.move (.c (.slice .none 0 0)))),(o 9 (.move (k 0)))]) L58s4),[(.t 8),(.t 9)],.true,.none,vO⟩
theorem lp58:LP 58 = some L58:=by kernel_rfl
def L66r0:List zo:=[(l 21 20),(o 22 (.build [(i 0),(i 0)] [(0,(1,(t 16))),(1,(1,(t 21)))])),(o 23 (.buildSlice 1 [(i 0),(i 0)] [(0,(2,(t 22)))])),(oa 24 (.append 2 16 (t 11) (t 23)) [12]),(oa 3 (.move (t 24)) [13,12])]
def L66r1:List zo:=((l 16 15) :: (m 17 0) :: (m 18 4) :: (o 19 (.indexAddrS 2 (t 17) (t 18))) :: (f 20 1 19) :: L66r0)
def L66s0:zk:=(.reg [(m 9 4),(o 10 (b .add (t 9) (k 1))),(m 4 10)])
def L66s1:zk:=(.seq (.block 1 (.draw 11 ((m 11 3) :: (m 12 0) :: (m 13 4) :: (o 14 (.indexAddrS 2 (t 12) (t 13))) :: (f 15 0 14) :: L66r1))) L66s0)
def L66w0:zk:=(.seq (.seq (.reg [(m 5 4),(m 6 0),(o 7 (.len .slice (t 6))),(o 8 (b .lss (t 5) (t 7)))]) (.cond (t 8) .skip (.exit 0))) L66s1)
def L66s2:zk:=(.seq (.reg [(m 25 3),(m 2 25)]) .ret)
def L66s3:zk:=(.seq (.seq (.reg [(o 4 (.move (k 0)))]) (.block 0 (.loop L66w0))) L66s2)
def L66:zr:=⟨26,(.seq (.reg [(o 2 (.move (.c (.slice .none 0 0))))]) (.seq (.reg [(o 3 (.move (.c (.slice .none 0 0))))]) L66s3)),[(.t 2)],.true,.none,vO⟩
theorem lp66:LP 66 = some L66:=by kernel_rfl
def L70r0:List zo:=[(x 13 8 1),(o 6 (.alloc (Zr 174))),(s 174 6 12),(m 7 13)]
def L70s0:zk:=(.cond (t 15) (.seq (.reg [(m 16 7),(o 4 (.move (.c (.slice .none 0 0)))),(m 5 16)]) .ret) .skip)
def L70s1:zk:=(.seq (.reg [(g 17 174 6),(o 18 (c 108 [(t 17)])),(m 4 18),(o 5 (.move (k 0)))]) .ret)
def L70s2:zk:=(.seq (.seq (.reg [(m 14 7),(o 15 (.eq (.cell (.i .i64)) .true (t 14) (k 0)))]) L70s0) L70s1)
def L70s3:zk:=(.seq (.reg ((g 9 4 2) :: (m 10 1) :: (o 11 (c 94 [(t 9),(t 10),(.c (.bool .true))])) :: (m 8 11) :: (x 12 8 0) :: L70r0)) L70s2)
def L70:zr:=⟨19,(.seq (.reg [(o 2 (.box (t 0))),(o 4 (.move (.c (.slice .none 0 0)))),(o 5 (.move (k 0)))]) L70s3),[(.t 4),(.t 5)],.true,.none,vO⟩
theorem lp70:LP 70 = some L70:=by kernel_rfl
def L86r0:List zo:=[(og 17 (b .leq (t 15) (t 16)) 13 .true),(o 18 (.pick (t 13) (t 17) (.c (.bool .false)))),(m 6 18)]
def L86r1:List zo:=((o 12 (c 25 [(t 8),(t 9),(t 11)])) :: (m 13 12) :: (og 14 (.fieldAddr 1 (t 3)) 13 .true) :: (og 15 (.load .false 1 (t 14)) 13 .true) :: (og 16 (.move (t 2)) 13 .true) :: L86r0)
def L86s0:zk:=(.seq (.reg ((f 7 0 3) :: (l 8 7) :: (m 9 1) :: (f 10 1 3) :: (l 11 10) :: L86r1)) .ret)
def L86:zr:=⟨19,(.seq (.reg [(o 3 (.box (t 0))),(o 6 (.move (.c (.bool .false))))]) L86s0),[(.t 6)],.false,.none,vO⟩
theorem lp86:LP 86 = some L86:=by kernel_rfl
def L94s0:zk:=(.cond (t 15) (.seq (.reg [(o 16 (.build (Zr 174) [])),(m 17 8),(s 174 6 16),(m 7 17)]) .ret) .skip)
def L94s1:zk:=(.seq (.reg [(m 14 8),(o 15 (.eq (.cell (.i .i64)) .true (t 14) (k 0)))]) L94s0)
def L94s2:zk:=(.cond (t 19) (.seq (.reg [(o 20 (.build (Zr 174) [])),(s 174 6 20),(o 7 (.move (k 2)))]) .ret) .skip)
def L94r0:List zo:=[(x 26 21 1),(o 9 (.alloc (Zr 174))),(s 174 9 25),(m 10 26)]
def L94s3:zk:=(.cond (t 28) (.seq (.reg [(o 29 (.build (Zr 174) [])),(s 174 6 29),(o 7 (.move (k 9)))]) .ret) .skip)
def L94s4:zk:=(.seq (.reg [(g 30 174 9),(s 174 6 30),(o 7 (.move (k 0)))]) .ret)
def L94s5:zk:=(.seq (.seq (.reg [(m 27 10),(o 28 (.un .not (t 27)))]) L94s3) L94s4)
def L94s6:zk:=(.seq (.reg ((g 22 4 3) :: (m 23 1) :: (o 24 (c 135 [(t 22),(t 23)])) :: (m 21 24) :: (x 25 21 0) :: L94r0)) L94s5)
def L94s7:zk:=(.seq (.seq (.reg [(m 18 2),(o 19 (.un .not (t 18)))]) L94s2) L94s6)
def L94s8:zk:=(.seq (.seq (.reg [(g 11 4 3),(m 12 1),(o 13 (c 134 [(t 11),(t 12)])),(m 8 13)]) L94s1) L94s7)
def L94:zr:=⟨31,(.seq (.reg [(o 3 (.box (t 0))),(o 6 (.alloc (Zr 174))),(o 7 (.move (k 0)))]) L94s8),[(.cell 6 .true 174),(.t 7)],.false,.none,vO⟩
theorem lp94:LP 94 = some L94:=by kernel_rfl
def L98r0:List zo:=[(og 12 (.move (t 2)) 10 .true),(og 13 (b .leq (t 11) (t 12)) 10 .true),(o 14 (.pick (t 10) (t 13) (.c (.bool .false)))),(m 6 14)]
def L98s0:zk:=(.seq (.reg ((m 7 0) :: (m 8 1) :: (o 9 (b .geq (t 7) (t 8))) :: (m 10 9) :: (og 11 (.move (t 0)) 10 .true) :: L98r0)) .ret)
def L98:zr:=⟨15,(.seq (.reg [(o 6 (.move (.c (.bool .false))))]) L98s0),[(.t 6)],.false,.none,vO⟩
theorem lp98:LP 98 = some L98:=by kernel_rfl
def L102r0:List zo:=[(og 20 (c 110 [(t 17),(t 19)]) 16 .true),(o 21 (.pick (t 16) (t 20) (.c (.bool .false)))),(m 4 21)]
def L102r1:List zo:=((o 15 (.pick (t 10) (t 14) (.c (.bool .false)))) :: (m 16 15) :: (og 17 (.load .true 2 (t 3)) 16 .true) :: (og 18 (.fieldAddr 1 (t 2)) 16 .true) :: (og 19 (.load .false 1 (t 18)) 16 .true) :: L102r0)
def L102r2:List zo:=((m 10 9) :: (og 11 (.load .true 2 (t 3)) 10 .true) :: (og 12 (.fieldAddr 0 (t 2)) 10 .true) :: (og 13 (.load .false 1 (t 12)) 10 .true) :: (og 14 (c 110 [(t 11),(t 13)]) 10 .true) :: L102r1)
def L102s0:zk:=(.seq (.reg ((f 5 0 2) :: (l 6 5) :: (f 7 1 2) :: (l 8 7) :: (o 9 (b .leq (t 6) (t 8))) :: L102r2)) .ret)
def L102:zr:=⟨22,(.seq (.reg [(o 2 (.box (t 0))),(o 3 (.box (t 1))),(o 4 (.move (.c (.bool .false))))]) L102s0),[(.t 4)],.false,.none,vO⟩
theorem lp102:LP 102 = some L102:=by kernel_rfl
def L106r0:List zo:=[(l 15 14),(m 16 1),(o 17 (b .mul (t 15) (t 16))),(o 18 (.build [(i 0),(i 0)] [(0,(1,(t 17))),(1,(1,(k 100)))])),(o 19 (c 142 [(t 11),(t 18)])),(s 2 4 19)]
def L106r1:List zo:=((o 10 (b .mul (t 8) (t 9))) :: (o 11 (.build [(i 0),(i 0)] [(0,(1,(t 10))),(1,(1,(k 100)))])) :: (f 12 0 2) :: (f 13 8 12) :: (f 14 1 13) :: L106r0)
def L106s0:zk:=(.seq (.reg ((f 5 0 2) :: (f 6 8 5) :: (f 7 0 6) :: (l 8 7) :: (m 9 1) :: L106r1)) .ret)
def L106:zr:=⟨20,(.seq (.reg [(o 2 (.box (t 0))),(o 4 (.alloc [(i 0),(i 0)]))]) L106s0),[(.cell 4 .true 2)],.false,.none,vO⟩
theorem lp106:LP 106 = some L106:=by kernel_rfl
def L110r0:List zo:=[(og 10 (.move (t 1)) 9 .true),(og 11 (.fieldAddr 1 (t 2)) 9 .true),(og 12 (.load .false 1 (t 11)) 9 .true),(og 13 (b .leq (t 10) (t 12)) 9 .true),(o 14 (.pick (t 9) (t 13) (.c (.bool .false)))),(m 4 14)]
def L110s0:zk:=(.seq (.reg ((f 5 0 2) :: (l 6 5) :: (m 7 1) :: (o 8 (b .leq (t 6) (t 7))) :: (m 9 8) :: L110r0)) .ret)
def L110:zr:=⟨15,(.seq (.reg [(o 2 (.box (t 0))),(o 4 (.move (.c (.bool .false))))]) L110s0),[(.t 4)],.false,.none,vO⟩
theorem lp110:LP 110 = some L110:=by kernel_rfl
def L134s0:zk:=(.cond (t 9) (.seq (.reg [(m 10 5),(m 4 10)]) .ret) .skip)
def L134s1:zk:=(.seq (.reg [(m 8 5),(o 9 (.eq (.cell (.i .i64)) .true (t 8) (k 0)))]) L134s0)
def L134s2:zk:=(.cond (t 13) (.seq (.reg [(o 4 (.move (k 3)))]) .ret) .skip)
def L134s3:zk:=(.cond (t 18) (.seq (.reg [(o 4 (.move (k 2)))]) .ret) .skip)
def L134s4:zk:=(.seq (.seq (.reg [(m 14 1),(g 15 4 2),(o 16 (.makeFunc 152 [(t 15)] [])),(o 17 (c 151 [(t 14),(t 16)])),(o 18 (.un .not (t 17)))]) L134s3) (.seq (.reg [(o 4 (.move (k 0)))]) .ret))
def L134s5:zk:=(.seq (.seq (.reg [(m 11 1),(o 12 (.len .slice (t 11))),(o 13 (b .gtr (t 12) (k 12)))]) L134s2) L134s4)
def L134s6:zk:=(.seq (.seq (.reg [(g 6 4 2),(o 7 (c 150 [(t 6)])),(m 5 7)]) L134s1) L134s5)
def L134:zr:=⟨19,(.seq (.reg [(o 2 (.box (t 0))),(o 4 (.move (k 0)))]) L134s6),[(.t 4)],.false,.none,vO⟩
theorem lp134:LP 134 = some L134:=by kernel_rfl
def L138s0:zk:=(.cond (t 5) (.seq (.reg [(o 2 (.move (k 3)))]) .ret) .skip)
def L138r0:List zo:=[(og 16 (c 157 [(t 15),(.c (.func 158 [] []))]) 14 .false),(og 17 (.un .not (t 16)) 14 .false),(o 18 (.pick (t 14) (.c (.bool .true)) (t 17)))]
def L138r1:List zo:=((og 11 (c 155 [(t 10),(.c (.func 156 [] []))]) 9 .false) :: (og 12 (.un .not (t 11)) 9 .false) :: (o 13 (.pick (t 9) (.c (.bool .true)) (t 12))) :: (m 14 13) :: (og 15 (.move (t 0)) 14 .false) :: L138r0)
def L138s1:zk:=(.cond (t 18) (.seq (.reg [(o 2 (.move (k 1)))]) .ret) .skip)
def L138s2:zk:=(.seq (.seq (.reg ((m 6 0) :: (o 7 (.len .slice (t 6))) :: (o 8 (b .lss (t 7) (k 2))) :: (m 9 8) :: (og 10 (.move (t 0)) 9 .false) :: L138r1)) L138s1) (.seq (.reg [(o 2 (.move (k 0)))]) .ret))
def L138s3:zk:=(.seq (.seq (.reg [(m 3 0),(o 4 (.len .slice (t 3))),(o 5 (b .gtr (t 4) (k 8)))]) L138s0) L138s2)
def L138:zr:=⟨19,(.seq (.reg [(o 2 (.move (k 0)))]) L138s3),[(.t 2)],.false,.none,vO⟩
theorem lp138:LP 138 = some L138:=by kernel_rfl
def L142r0:List zo:=[(l 12 11),(g 13 2 3),(oa 14 (.call (t 12) [(t 13)]) [3]),(oa 15 (.build [(i 0),(i 0)] [(0,(1,(t 10))),(1,(1,(t 14)))]) [7,3]),(ona (.store 2 (t 4) (t 15)) [7,3])]
def L142s0:zk:=(.seq (.draw 7 ((f 7 0 5) :: (l 8 7) :: (g 9 2 2) :: (o 10 (.call (t 8) [(t 9)])) :: (f 11 1 5) :: L142r0)) .ret)
def L142s1:zk:=(.seq (.reg [(o 6 (c 161 [])),(o 5 (.alloc [.nilFunc,.nilFunc])),(s 2 5 6)]) L142s0)
def L142:zr:=⟨16,(.seq (.reg [(o 2 (.box (t 0))),(o 3 (.box (t 1))),(o 4 (.alloc [(i 0),(i 0)]))]) L142s1),[(.cell 4 .true 2)],.false,.none,vO⟩
theorem lp142:LP 142 = some L142:=by kernel_rfl
def L150s0:zk:=(.cond (t 5) (.seq (.reg [(o 2 (.move (k 1)))]) .ret) .skip)
def L150s1:zk:=(.seq (.seq (.reg [(g 3 4 1),(o 4 (c 168 [(t 3)])),(o 5 (.un .not (t 4)))]) L150s0) (.seq (.reg [(o 2 (.move (k 0)))]) .ret))
def L150:zr:=⟨6,(.seq (.reg [(o 1 (.box (t 0))),(o 2 (.move (k 0)))]) L150s1),[(.t 2)],.false,.none,vO⟩
theorem lp150:LP 150 = some L150:=by kernel_rfl
def L154r0:List zo:=[(f 11 2 3),(f 12 1 11),(l 13 12),(o 14 (c 170 [(t 6),(t 8),(t 10),(t 13)])),(o 15 (.un .not (t 14)))]
def L154s0:zk:=(.cond (t 15) (.seq (.reg [(o 16 (.build (Zr 174) [])),(s 174 4 16),(o 5 (.move (.c (.bool .false))))]) .ret) .skip)
def L154r1:List zo:=[(og 32 (.load .false 1 (t 31)) 23 .true),(og 33 (.un .neg (t 32)) 23 .true),(og 34 (b .sub (t 33) (k 1)) 23 .true),(og 35 (c 170 [(t 24),(t 27),(t 29),(t 34)]) 23 .true),(og 36 (.un .not (t 35)) 23 .true),(o 37 (.pick (t 23) (t 36) (.c (.bool .false))))]
def L154r2:List zo:=((og 27 (b .add (t 26) (k 1)) 23 .true) :: (og 28 (.fieldAddr 0 (t 3)) 23 .true) :: (og 29 (.load .false 1 (t 28)) 23 .true) :: (og 30 (.fieldAddr 2 (t 3)) 23 .true) :: (og 31 (.fieldAddr 0 (t 30)) 23 .true) :: L154r1)
def L154r3:List zo:=((o 22 (b .lss (t 18) (t 21))) :: (m 23 22) :: (og 24 (.fieldAddr 4 (t 2)) 23 .true) :: (og 25 (.fieldAddr 1 (t 3)) 23 .true) :: (og 26 (.load .false 1 (t 25)) 23 .true) :: L154r2)
def L154s1:zk:=(.cond (t 37) (.seq (.reg [(o 38 (.build (Zr 174) [])),(s 174 4 38),(o 5 (.move (.c (.bool .false))))]) .ret) .skip)
def L154s2:zk:=(.seq (.reg [(g 39 174 2),(s 174 4 39),(o 5 (.move (.c (.bool .true))))]) .ret)
def L154s3:zk:=(.seq (.seq (.reg ((f 17 1 3) :: (l 18 17) :: (f 19 0 2) :: (f 20 0 19) :: (l 21 20) :: L154r3)) L154s1) L154s2)
def L154s4:zk:=(.seq (.seq (.reg ((f 6 4 2) :: (f 7 0 3) :: (l 8 7) :: (f 9 1 3) :: (l 10 9) :: L154r0)) L154s0) L154s3)
def L154:zr:=⟨40,(.seq (.reg [(o 2 (.box (t 0))),(o 3 (.box (t 1))),(o 4 (.alloc (Zr 174))),(o 5 (.move (.c (.bool .false))))]) L154s4),[(.cell 4 .true 174),(.t 5)],.false,.none,vO⟩
theorem lp154:LP 154 = some L154:=by kernel_rfl
def L158r0:List zo:=[(og 15 (b .lss (t 12) (t 14)) 10 .true),(o 16 (.pick (t 10) (t 15) (.c (.bool .false)))),(m 4 16)]
def L158r1:List zo:=((m 10 9) :: (og 11 (.fieldAddr 1 (t 2)) 10 .true) :: (og 12 (.load .false 1 (t 11)) 10 .true) :: (og 13 (.fieldAddr 1 (t 3)) 10 .true) :: (og 14 (.load .false 1 (t 13)) 10 .true) :: L158r0)
def L158s0:zk:=(.seq (.reg ((f 5 0 2) :: (l 6 5) :: (f 7 0 3) :: (l 8 7) :: (o 9 (b .lss (t 6) (t 8))) :: L158r1)) .ret)
def L158:zr:=⟨17,(.seq (.reg [(o 2 (.box (t 0))),(o 3 (.box (t 1))),(o 4 (.move (.c (.bool .false))))]) L158s0),[(.t 4)],.false,.none,vO⟩
theorem lp158:LP 158 = some L158:=by kernel_rfl
def L170s0:zk:=(.cond (t 18) (.seq (.reg [(o 8 (.move (.c (.bool .false))))]) .ret) .skip)
def L170r0:List zo:=[(o 31 (.indexAddrA 13 13 (t 30) (t 27))),(o 32 (.indexAddrA 13 1 (t 31) (t 28))),(l 33 32),(m 34 3),(o 35 (b .add (t 33) (t 34))),(m 10 35)]
def L170r1:List zo:=[(f 41 1 40),(o 42 (.indexAddrA 13 13 (t 41) (t 38))),(o 43 (.indexAddrA 13 1 (t 42) (t 39))),(l 44 43),(o 45 (b .geq (t 36) (t 44)))]
def L170r2:List zo:=[(f 58 1 57),(o 59 (.indexAddrA 13 13 (t 58) (t 55))),(o 60 (.indexAddrA 13 1 (t 59) (t 56))),(l 61 60),(o 62 (b .add (t 53) (t 61))),(m 12 62)]
def L170r3:List zo:=[(f 68 1 67),(o 69 (.indexAddrA 13 13 (t 68) (t 65))),(o 70 (.indexAddrA 13 1 (t 69) (t 66))),(l 71 70),(o 72 (b .lss (t 63) (t 71)))]
def L170r4:List zo:=[(f 78 1 77),(o 79 (.indexAddrA 13 13 (t 78) (t 74))),(o 80 (.indexAddrA 13 1 (t 79) (t 75))),(s 1 80 76)]
def L170s1:zk:=(.cond (t 72) (.reg ((m 73 0) :: (m 74 9) :: (m 75 11) :: (m 76 12) :: (o 77 (.nilCheck (t 73))) :: L170r4)) .skip)
def L170s2:zk:=(.seq (.reg ((m 63 12) :: (m 64 0) :: (m 65 9) :: (m 66 11) :: (o 67 (.nilCheck (t 64))) :: L170r3)) L170s1)
def L170s3:zk:=(.seq (.reg ((m 53 10) :: (m 54 0) :: (m 55 2) :: (m 56 11) :: (o 57 (.nilCheck (t 54))) :: L170r2)) L170s2)
def L170s4:zk:=(.reg [(o 81 (b .add (t 50) (k 1))),(m 50 81)])
def L170s5:zk:=(.seq (.block 3 (.seq (.reg [(m 52 50),(m 11 52)]) L170s3)) L170s4)
def L170w0:zk:=(.seq (.reg [(o 51 (b .lss (t 50) (t 49)))]) (.seq (.cond (t 51) .skip (.exit 2)) L170s5))
def L170s6:zk:=(.seq (.reg [(m 46 0),(o 47 (.nilCheck (t 46))),(f 48 0 47),(l 49 48),(o 50 (.move (k 0)))]) (.block 2 (.loop L170w0)))
def L170s7:zk:=(.seq (.seq (.reg ((m 36 10) :: (m 37 0) :: (m 38 9) :: (m 39 2) :: (o 40 (.nilCheck (t 37))) :: L170r1)) (.cond (t 45) (.exit 1) .skip)) L170s6)
def L170s8:zk:=(.seq (.reg ((m 26 0) :: (m 27 9) :: (m 28 1) :: (o 29 (.nilCheck (t 26))) :: (f 30 1 29) :: L170r0)) L170s7)
def L170s9:zk:=(.reg [(o 82 (b .add (t 23) (k 1))),(m 23 82)])
def L170s10:zk:=(.seq (.block 1 (.seq (.reg [(m 25 23),(m 9 25)]) L170s8)) L170s9)
def L170w1:zk:=(.seq (.reg [(o 24 (b .lss (t 23) (t 22)))]) (.seq (.cond (t 24) .skip (.exit 0)) L170s10))
def L170s11:zk:=(.seq (.seq (.reg [(m 19 0),(o 20 (.nilCheck (t 19))),(f 21 0 20),(l 22 21),(o 23 (.move (k 0)))]) (.block 0 (.loop L170w1))) (.seq (.reg [(o 8 (.move (.c (.bool .true))))]) .ret))
def L170s12:zk:=(.seq (.seq (.reg [(m 13 0),(m 14 1),(m 15 2),(m 16 3),(o 17 (c 181 [(t 13),(t 14),(t 15),(t 16)])),(o 18 (.un .not (t 17)))]) L170s0) L170s11)
def L170:zr:=⟨83,(.seq (.reg [(o 8 (.move (.c (.bool .false))))]) L170s12),[(.t 8)],.true,.none,vO⟩
theorem lp170:LP 170 = some L170:=by kernel_rfl
def L3s0:zk:=(.cond (t 17) (.seq (.reg [(o 18 (c 19 [])),(m 4 18)]) .ret) .skip)
def L3r0:List zo:=[(x 27 22 0),(x 28 22 1),(m 6 27),(m 7 28)]
def L3r1:List zo:=[(x 34 29 0),(x 35 29 1),(m 8 34),(m 9 35)]
def L3s1:zk:=(.cond (t 43) (.seq (.reg [(o 4 (.move (.c (.bool .false))))]) .ret) .skip)
def L3s2:zk:=(.cond (t 50) (.reg [(o 11 (.move (k 2)))]) .skip)
def L3r2:List zo:=[(o 68 (.pick (t 61) (t 67) (.c (.bool .false)))),(m 69 68),(og 70 (c 19 []) 69 .true),(o 71 (.pick (t 69) (t 70) (.c (.bool .false)))),(m 4 71)]
def L3r3:List zo:=((og 63 (.len .slice (t 62)) 61 .true) :: (og 64 (.move (t 8)) 61 .true) :: (og 65 (.len .slice (t 64)) 61 .true) :: (og 66 (b .add (t 63) (t 65)) 61 .true) :: (og 67 (.eq (.cell (.i .i64)) .false (t 66) (k 0)) 61 .true) :: L3r2)
def L3r4:List zo:=((og 58 (.move (t 11)) 56 .true) :: (og 59 (.eq (.cell (.i .i64)) .false (t 57) (t 58)) 56 .true) :: (o 60 (.pick (t 56) (t 59) (.c (.bool .false)))) :: (m 61 60) :: (og 62 (.move (t 6)) 61 .true) :: L3r3)
def L3s3:zk:=(.cond (t 52) (.seq (.reg ((m 53 7) :: (m 54 11) :: (o 55 (.eq (.cell (.i .i64)) .false (t 53) (t 54))) :: (m 56 55) :: (og 57 (.move (t 9)) 56 .true) :: L3r4)) .ret) .skip)
def L3r5:List zo:=[(og 87 (.len .slice (t 86)) 85 .false),(og 88 (.move (t 10)) 85 .false),(og 89 (.len .slice (t 88)) 85 .false),(og 90 (.eq (.cell (.i .i64)) .true (t 87) (t 89)) 85 .false),(o 91 (.pick (t 85) (.c (.bool .true)) (t 90)))]
def L3r6:List zo:=((og 82 (.len .slice (t 81)) 78 .false) :: (og 83 (.eq (.cell (.i .i64)) .true (t 80) (t 82)) 78 .false) :: (o 84 (.pick (t 78) (.c (.bool .true)) (t 83))) :: (m 85 84) :: (og 86 (.move (t 8)) 85 .false) :: L3r5)
def L3r7:List zo:=((o 77 (.pick (t 74) (.c (.bool .true)) (t 76))) :: (m 78 77) :: (og 79 (.move (t 6)) 78 .false) :: (og 80 (.len .slice (t 79)) 78 .false) :: (og 81 (.move (t 10)) 78 .false) :: L3r6)
def L3s4:zk:=(.cond (t 91) (.seq (.reg [(o 4 (.move (.c (.bool .false))))]) .ret) .skip)
def L3r8:List zo:=[(m 108 12),(oa 109 (c 28 [(t 107),(t 108)]) [8,6]),(o 13 (.alloc [(i 0),(i 0)])),(ona (.store 2 (t 13) (t 106)) [12,11,8,6]),(oa 14 (.move (t 109)) [12,11,8,6])]
def L3r9:List zo:=((g 103 10 2) :: (o 104 (c 27 [(t 103)])) :: (m 105 1) :: (oa 106 (c 26 [(t 98),(t 102),(t 104),(t 105)]) [6]) :: (g 107 10 2) :: L3r8)
def L3r10:List zo:=[(oga 135 (.fieldAddr 1 (t 13)) 129 .false [5]),(oga 136 (.load .false 1 (t 135)) 129 .false [5]),(oga 137 (.move (t 14)) 129 .false [5]),(oga 138 (b .sub (t 136) (t 137)) 129 .false [5]),(oga 139 (.eq (.cell (.i .i64)) .true (t 134) (t 138)) 129 .false [5]),(oa 140 (.pick (t 129) (.c (.bool .true)) (t 139)) [5])]
def L3r11:List zo:=((oga 130 (.move (t 8)) 129 .false [5]) :: (oga 131 (.move (t 12)) 129 .false [5]) :: (oga 132 (.indexAddrS 2 (t 130) (t 131)) 129 .false [5]) :: (oga 133 (.fieldAddr 1 (t 132)) 129 .false [5]) :: (oga 134 (.load .false 1 (t 133)) 129 .false [5]) :: L3r10)
def L3r12:List zo:=((oga 125 (.move (t 14)) 117 .false [5]) :: (oga 126 (b .sub (t 124) (t 125)) 117 .false [5]) :: (oga 127 (.eq (.cell (.i .i64)) .true (t 122) (t 126)) 117 .false [5]) :: (oa 128 (.pick (t 117) (.c (.bool .true)) (t 127)) [5]) :: (oa 129 (.move (t 128)) [5]) :: L3r11)
def L3r13:List zo:=((oga 120 (.indexAddrS 2 (t 118) (t 119)) 117 .false [5]) :: (oga 121 (.fieldAddr 0 (t 120)) 117 .false [5]) :: (oga 122 (.load .false 1 (t 121)) 117 .false [5]) :: (oga 123 (.fieldAddr 0 (t 13)) 117 .false [5]) :: (oga 124 (.load .false 1 (t 123)) 117 .false [5]) :: L3r12)
def L3r14:List zo:=((o 115 (c 29 [(t 114)])) :: (oa 116 (.eq (.row [(.i .i64),(.i .i64)]) .true (t 113) (t 115)) [5]) :: (oa 117 (.move (t 116)) [5]) :: (oga 118 (.move (t 8)) 117 .false [5]) :: (oga 119 (.move (t 12)) 117 .false [5]) :: L3r13)
def L3s5:zk:=(.cond (t 140) (.seq (.reg [(o 4 (.move (.c (.bool .false))))]) .ret) .skip)
def L3s6:zk:=(.seq (.draw 27 ((m 110 6) :: (m 111 12) :: (o 112 (.indexAddrS 2 (t 110) (t 111))) :: (g 113 2 112) :: (g 114 2 13) :: L3r14)) L3s5)
def L3s7:zk:=(.reg [(m 96 12),(o 97 (b .add (t 96) (k 1))),(m 12 97)])
def L3s8:zk:=(.seq (.block 1 (.seq (.draw 13 ((g 98 10 2) :: (m 99 10) :: (m 100 12) :: (o 101 (.indexAddrS 2 (t 99) (t 100))) :: (g 102 2 101) :: L3r9)) L3s6)) L3s7)
def L3w0:zk:=(.seq (.seq (.reg [(m 92 12),(m 93 10),(o 94 (.len .slice (t 93))),(o 95 (b .lss (t 92) (t 94)))]) (.cond (t 95) .skip (.exit 0))) L3s8)
def L3s9:zk:=(.seq (.reg [(o 141 (c 19 [])),(m 4 141)]) .ret)
def L3s10:zk:=(.seq (.seq (.reg [(o 12 (.move (k 0)))]) (.block 0 (.loop L3w0))) L3s9)
def L3s11:zk:=(.seq (.seq (.reg ((m 72 7) :: (o 73 (.eq (.cell (.i .i64)) .true (t 72) (k 0))) :: (m 74 73) :: (og 75 (.move (t 9)) 74 .false) :: (og 76 (.eq (.cell (.i .i64)) .true (t 75) (k 0)) 74 .false) :: L3r7)) L3s4) L3s10)
def L3s12:zk:=(.seq (.seq (.reg [(m 51 11),(o 52 (.eq (.cell (.i .i64)) .true (t 51) (k 0)))]) L3s3) L3s11)
def L3s13:zk:=(.seq (.seq (.reg [(m 44 11),(o 45 (.eq (.cell (.i .i64)) .false (t 44) (k 0))),(m 46 45),(og 47 (.move (t 1)) 46 .true),(og 48 (c 25 [(t 47),(k 0),(k 10000)]) 46 .true),(og 49 (.un .not (t 48)) 46 .true),(o 50 (.pick (t 46) (t 49) (.c (.bool .false))))]) L3s2) L3s12)
def L3s14:zk:=(.seq (.seq (.reg [(m 41 5),(m 42 11),(o 43 (.eq (.cell (.i .i64)) .true (t 41) (t 42)))]) L3s1) L3s13)
def L3s15:zk:=(.seq (.reg [(g 37 10 2),(o 38 (c 24 [(t 37)])),(m 36 38),(x 39 36 0),(x 40 36 1),(m 10 39),(m 11 40)]) L3s14)
def L3s16:zk:=(.seq (.reg ((g 30 10 2) :: (o 31 (c 21 [(t 30)])) :: (m 32 1) :: (o 33 (c 23 [(t 31),(t 32)])) :: (m 29 33) :: L3r1)) L3s15)
def L3s17:zk:=(.seq (.reg ((g 23 10 2) :: (o 24 (c 21 [(t 23)])) :: (m 25 1) :: (o 26 (c 22 [(t 24),(t 25)])) :: (m 22 26) :: L3r0)) L3s16)
def L3s18:zk:=(.seq (.reg [(g 19 10 2),(o 20 (c 21 [(t 19)])),(o 21 (c 20 [(t 20)])),(m 5 21)]) L3s17)
def L3s19:zk:=(.seq (.seq (.reg [(g 15 10 2),(o 16 (c 18 [(t 15)])),(o 17 (.un .not (t 16)))]) L3s0) L3s18)
def L3:zr:=⟨142,(.seq (.reg [(o 2 (.box (t 0))),(o 4 (.move (.c (.bool .false))))]) L3s19),[(.t 4)],.false,.none,vO⟩
def L27r0:List zo:=[(l 13 12),(oa 14 (c 73 [(t 10),(t 13)]) [5]),(oa 15 (.build [(i 0),(i 0)] [(0,(1,(t 8))),(1,(1,(t 14)))]) [11,5]),(ona (.store 2 (t 2) (t 15)) [11,5])]
def L27r1:List zo:=((o 8 (c 73 [(t 4),(t 7)])) :: (f 9 5 1) :: (l 10 9) :: (f 11 6 1) :: (f 12 1 11) :: L27r0)
def L27s0:zk:=(.seq (.draw 11 ((f 3 5 1) :: (l 4 3) :: (f 5 6 1) :: (f 6 0 5) :: (l 7 6) :: L27r1)) .ret)
def L27:zr:=⟨16,(.seq (.reg [(o 1 (.box (t 0))),(o 2 (.alloc [(i 0),(i 0)]))]) L27s0),[(.cell 2 .true 2)],.false,.none,vO⟩
theorem lp27:LP 27 = some L27:=by kernel_rfl
def L55r0:List zo:=[(o 15 (b .mul (t 13) (t 14))),(o 16 (b .add (t 15) (k 99))),(o 17 (b .quo (t 16) (k 100))),(o 18 (.build [(i 0),(i 0)] [(0,(1,(t 10))),(1,(1,(t 17)))])),(s 2 4 18)]
def L55r1:List zo:=((o 10 (b .quo (t 9) (k 100))) :: (f 11 8 2) :: (f 12 1 11) :: (l 13 12) :: (m 14 1) :: L55r0)
def L55s0:zk:=(.seq (.reg ((f 5 8 2) :: (f 6 0 5) :: (l 7 6) :: (m 8 1) :: (o 9 (b .mul (t 7) (t 8))) :: L55r1)) .ret)
def L55:zr:=⟨19,(.seq (.reg [(o 2 (.box (t 0))),(o 4 (.alloc [(i 0),(i 0)]))]) L55s0),[(.cell 4 .true 2)],.false,.none,vO⟩
theorem lp55:LP 55 = some L55:=by kernel_rfl
def L59r0:List zo:=[(g 8 2 7),(o 9 (c 97 [(t 8)])),(oa 10 (.build [(i 0),(i 0),(i 0),(i 0)] [(0,(1,(t 4))),(1,(1,(t 6))),(2,(2,(t 9)))]) [6]),(ona (.store 4 (t 2) (t 10)) [6])]
def L59s0:zk:=(.seq (.draw 7 ((f 3 0 1) :: (l 4 3) :: (f 5 1 1) :: (l 6 5) :: (f 7 2 1) :: L59r0)) .ret)
def L59:zr:=⟨11,(.seq (.reg [(o 1 (.box (t 0))),(o 2 (.alloc [(i 0),(i 0),(i 0),(i 0)]))]) L59s0),[(.cell 2 .true 4)],.false,.none,vO⟩
theorem lp59:LP 59 = some L59:=by kernel_rfl
def L67r0:List zo:=[(x 17 12 1),(o 8 (.alloc [(i 0),(i 0),(i 0),(i 0),(.slice .none 0 0),(.slice .none 0 0),(i 0),(i 0),(i 0),(i 0),(i 0),(i 0),(i 0),(i 0),(i 0),(i 0),(i 0),(i 0),(i 0),(i 0),(i 0),(i 0),(i 0),(i 0),(i 0),(i 0),(i 0),(i 0),(i 0),(i 0),(i 0),(i 0)])),(s 32 8 16),(m 9 17)]
def L67s0:zk:=(.cond (t 19) (.seq (.reg [(m 20 9),(o 6 (.move (.c (.slice .none 0 0)))),(m 7 20)]) .ret) .skip)
def L67r1:List zo:=[(o 40 (.call (t 36) [(t 37),(t 38),(t 39)])),(o 41 (.buildSlice 1 [(i 0),(i 0)] [(0,(2,(t 40)))])),(o 42 (.append 2 16 (t 35) (t 41))),(m 10 42)]
def L67s1:zk:=(.reg [(m 33 11),(o 34 (b .add (t 33) (k 1))),(m 11 34)])
def L67s2:zk:=(.seq (.block 1 (.reg ((m 35 10) :: (m 36 2) :: (g 37 32 8) :: (m 38 11) :: (m 39 1) :: L67r1))) L67s1)
def L67w0:zk:=(.seq (.seq (.reg [(m 27 11),(f 28 0 8),(f 29 0 28),(f 30 0 29),(l 31 30),(o 32 (b .leq (t 27) (t 31)))]) (.cond (t 32) .skip (.exit 0))) L67s2)
def L67s3:zk:=(.seq (.reg [(m 43 10),(m 6 43),(o 7 (.move (k 0)))]) .ret)
def L67s4:zk:=(.seq (.seq (.reg [(o 11 (.move (k 0)))]) (.block 0 (.loop L67w0))) L67s3)
def L67s5:zk:=(.seq (.reg [(f 21 0 8),(f 22 0 21),(f 23 0 22),(l 24 23),(o 25 (b .add (t 24) (k 1))),(o 26 (.makeSlice [(i 0),(i 0)] 16 (k 0) (t 25))),(m 10 26)]) L67s4)
def L67s6:zk:=(.seq (.seq (.reg [(m 18 9),(o 19 (.eq (.cell (.i .i64)) .true (t 18) (k 0)))]) L67s0) L67s5)
def L67s7:zk:=(.seq (.reg ((g 13 10 3) :: (m 14 1) :: (o 15 (c 105 [(t 13),(t 14)])) :: (m 12 15) :: (x 16 12 0) :: L67r0)) L67s6)
def L67:zr:=⟨44,(.seq (.reg [(o 3 (.box (t 0))),(o 6 (.move (.c (.slice .none 0 0)))),(o 7 (.move (k 0)))]) L67s7),[(.t 6),(.t 7)],.true,.none,vO⟩
theorem lp67:LP 67 = some L67:=by kernel_rfl
def L75s0:zk:=(.seq (.reg [(o 3 (c 103 [(k 10000)])),(m 4 0),(o 5 (c 110 [(t 3),(t 4)])),(m 2 5)]) .ret)
def L75:zr:=⟨6,(.seq (.reg [(o 2 (.move (.c (.bool .false))))]) L75s0),[(.t 2)],.false,.none,vO⟩
theorem lp75:LP 75 = some L75:=by kernel_rfl
def L95r0:List zo:=[(m 23 1),(m 24 6),(o 25 (.call (t 23) [(t 2),(t 24)])),(o 26 (b .sub (t 22) (t 25))),(o 27 (.buildSlice 1 [(i 0)] [(0,(1,(t 26)))])),(o 28 (.append 1 8 (t 18) (t 27))),(m 5 28)]
def L95s0:zk:=(.reg [(m 16 6),(o 17 (b .add (t 16) (k 1))),(m 6 17)])
def L95s1:zk:=(.seq (.block 1 (.reg ((m 18 5) :: (m 19 1) :: (m 20 6) :: (o 21 (b .add (t 20) (k 1))) :: (o 22 (.call (t 19) [(t 2),(t 21)])) :: L95r0))) L95s0)
def L95w0:zk:=(.seq (.seq (.reg [(m 11 6),(f 12 0 2),(f 13 0 12),(l 14 13),(o 15 (b .lss (t 11) (t 14)))]) (.cond (t 15) .skip (.exit 0))) L95s1)
def L95s2:zk:=(.seq (.reg [(m 29 5),(m 4 29)]) .ret)
def L95s3:zk:=(.seq (.seq (.reg [(o 6 (.move (k 0)))]) (.block 0 (.loop L95w0))) L95s2)
def L95s4:zk:=(.seq (.reg [(f 7 0 2),(f 8 0 7),(l 9 8),(o 10 (.makeSlice [(i 0)] 8 (k 0) (t 9))),(m 5 10)]) L95s3)
def L95:zr:=⟨30,(.seq (.reg [(o 2 (.box (t 0))),(o 4 (.move (.c (.slice .none 0 0))))]) L95s4),[(.t 4)],.true,.none,vO⟩
theorem lp95:LP 95 = some L95:=by kernel_rfl
def L99r0:List zo:=[(f 24 2 4),(f 25 1 24),(l 26 25),(oa 8 (.move (t 23)) [6]),(oa 9 (.move (t 26)) [6])]
def L99r1:List zo:=((l 19 18) :: (o 20 (c 56 [(t 17),(t 19)])) :: (m 21 7) :: (oa 22 (b .sub (t 20) (t 21)) [6]) :: (oa 23 (.max [(t 16),(t 22)]) [6]) :: L99r0)
def L99r2:List zo:=[(o 37 (c 56 [(t 33),(t 36)])),(m 38 7),(o 39 (b .sub (t 37) (t 38))),(o 40 (b .sub (t 39) (k 1))),(o 41 (.min [(t 32),(t 40)])),(m 9 41)]
def L99s0:zk:=(.cond (t 31) (.reg ((m 32 9) :: (m 33 2) :: (f 34 1 4) :: (l 35 34) :: (o 36 (b .add (t 35) (k 1))) :: L99r2)) .skip)
def L99s1:zk:=(.seq (.reg [(m 42 8),(m 43 9),(o 44 (b .leq (t 42) (t 43))),(m 6 44)]) .ret)
def L99s2:zk:=(.seq (.seq (.reg [(f 27 1 4),(l 28 27),(f 29 0 3),(l 30 29),(o 31 (b .lss (t 28) (t 30)))]) L99s0) L99s1)
def L99s3:zk:=(.seq (.draw 13 ((f 14 2 4) :: (f 15 0 14) :: (l 16 15) :: (m 17 2) :: (f 18 1 4) :: L99r1)) L99s2)
def L99s4:zk:=(.seq (.reg [(m 10 2),(f 11 0 4),(l 12 11),(o 13 (c 56 [(t 10),(t 12)])),(m 7 13)]) L99s3)
def L99:zr:=⟨45,(.seq (.reg [(o 3 (.box (t 0))),(o 4 (.box (t 1))),(o 6 (.move (.c (.bool .false))))]) L99s4),[(.t 6)],.false,.none,vO⟩
theorem lp99:LP 99 = some L99:=by kernel_rfl
def L103s0:zk:=(.seq (.reg [(m 3 0),(o 4 (.build [(i 0),(i 0)] [(1,(1,(t 3)))])),(s 2 2 4)]) .ret)
def L103:zr:=⟨5,(.seq (.reg [(o 2 (.alloc [(i 0),(i 0)]))]) L103s0),[(.cell 2 .true 2)],.false,.none,vO⟩
theorem lp103:LP 103 = some L103:=by kernel_rfl
def L107s0:zk:=(.seq (.reg [(f 3 0 1),(l 4 3),(f 5 1 1),(l 6 5),(o 7 (b .quo (t 4) (t 6))),(m 2 7)]) .ret)
def L107:zr:=⟨8,(.seq (.reg [(o 1 (.box (t 0))),(o 2 (.move (k 0)))]) L107s0),[(.t 2)],.false,.none,vO⟩
theorem lp107:LP 107 = some L107:=by kernel_rfl
def L123r0:List zo:=[(og 28 (.fieldAddr 1 (t 27)) 16 .true),(og 29 (.load .false 1 (t 28)) 16 .true),(og 30 (b .mul (t 26) (t 29)) 16 .true),(og 31 (c 98 [(t 18),(t 24),(t 30)]) 16 .true),(o 32 (.pick (t 16) (t 31) (.c (.bool .false)))),(m 2 32)]
def L123r1:List zo:=((og 23 (.load .false 1 (t 22)) 16 .true) :: (og 24 (b .mul (t 20) (t 23)) 16 .true) :: (og 25 (.fieldAddr 0 (t 1)) 16 .true) :: (og 26 (.load .false 1 (t 25)) 16 .true) :: (og 27 (.fieldAddr 2 (t 1)) 16 .true) :: L123r0)
def L123r2:List zo:=((og 18 (.load .false 1 (t 17)) 16 .true) :: (og 19 (.fieldAddr 0 (t 1)) 16 .true) :: (og 20 (.load .false 1 (t 19)) 16 .true) :: (og 21 (.fieldAddr 2 (t 1)) 16 .true) :: (og 22 (.fieldAddr 0 (t 21)) 16 .true) :: L123r1)
def L123r3:List zo:=((og 13 (.load .false 1 (t 12)) 11 .true) :: (og 14 (c 98 [(t 13),(k 1),(k 2000)]) 11 .true) :: (o 15 (.pick (t 11) (t 14) (.c (.bool .false)))) :: (m 16 15) :: (og 17 (.fieldAddr 1 (t 1)) 16 .true) :: L123r2)
def L123r4:List zo:=((og 8 (.load .true 2 (t 7)) 6 .true) :: (og 9 (c 124 [(t 8),(k 1),(k 200)]) 6 .true) :: (o 10 (.pick (t 6) (t 9) (.c (.bool .false)))) :: (m 11 10) :: (og 12 (.fieldAddr 1 (t 1)) 11 .true) :: L123r3)
def L123s0:zk:=(.seq (.reg ((f 3 0 1) :: (l 4 3) :: (o 5 (c 98 [(t 4),(k 1),(k 10)])) :: (m 6 5) :: (og 7 (.fieldAddr 2 (t 1)) 6 .true) :: L123r4)) .ret)
def L123:zr:=⟨33,(.seq (.reg [(o 1 (.box (t 0))),(o 2 (.move (.c (.bool .false))))]) L123s0),[(.t 2)],.false,.none,vO⟩
theorem lp123:LP 123 = some L123:=by kernel_rfl
def L135r0:List zo:=[(x 30 25 1),(s 174 6 29),(m 7 30)]
def L135s0:zk:=(.cond (t 32) (.seq (.reg [(o 33 (.build (Zr 174) [])),(s 174 4 33),(o 5 (.move (.c (.bool .false))))]) .ret) .skip)
def L135s1:zk:=(.seq (.reg [(m 31 7),(o 32 (.un .not (t 31)))]) L135s0)
def L135s2:zk:=(.seq (.reg ((g 26 174 6) :: (g 27 4 10) :: (o 28 (c 154 [(t 26),(t 27)])) :: (m 25 28) :: (x 29 25 0) :: L135r0)) L135s1)
def L135s3:zk:=(.seq (.reg [(m 23 8),(g 24 4 10),(on (.mapUpdate (.row [(.i .i64),(.i .i64),(.i .i64),(.i .i64)]) (t 23) (t 24) (.c (.bool .true))))]) L135s2)
def L135s4:zk:=(.seq (.seq (.reg [(m 20 8),(g 21 4 10),(o 22 (.lookup (.row [(.i .i64),(.i .i64),(.i .i64),(.i .i64)]) (.bool .false) .false (t 20) (t 21)))]) (.cond (t 22) (.exit 1) .skip)) L135s3)
def L135s5:zk:=(.reg [(o 34 (b .add (t 16) (k 1))),(m 16 34)])
def L135s6:zk:=(.seq (.block 1 (.seq (.reg [(o 18 (.indexAddrS 4 (t 14) (t 16))),(g 19 4 18),(o 10 (.alloc [(i 0),(i 0),(i 0),(i 0)])),(s 4 10 19)]) L135s4)) L135s5)
def L135w0:zk:=(.seq (.reg [(o 17 (b .lss (t 16) (t 15)))]) (.seq (.cond (t 17) .skip (.exit 0)) L135s6))
def L135s7:zk:=(.seq (.reg [(g 35 174 6),(s 174 4 35),(o 5 (.move (.c (.bool .true))))]) .ret)
def L135s8:zk:=(.seq (.seq (.reg [(m 14 1),(o 15 (.len .slice (t 14))),(o 16 (.move (k 0)))]) (.block 0 (.loop L135w0))) L135s7)
def L135s9:zk:=(.seq (.reg [(o 13 .makeMap),(m 8 13)]) L135s8)
def L135s10:zk:=(.seq (.reg [(g 11 4 2),(o 12 (c 153 [(t 11)])),(o 6 (.alloc (Zr 174))),(s 174 6 12),(o 7 (.move (.c (.bool .true))))]) L135s9)
def L135:zr:=⟨36,(.seq (.reg [(o 2 (.box (t 0))),(o 4 (.alloc (Zr 174))),(o 5 (.move (.c (.bool .false))))]) L135s10),[(.cell 4 .true 174),(.t 5)],.false,.none,vO⟩
theorem lp135:LP 135 = some L135:=by kernel_rfl
def L139r0:List zo:=[(og 20 (c 144 [(t 17),(t 19)]) 16 .true),(o 21 (.pick (t 16) (t 20) (.c (.bool .false)))),(m 4 21)]
def L139r1:List zo:=((o 15 (.pick (t 10) (t 14) (.c (.bool .false)))) :: (m 16 15) :: (og 17 (.load .true 2 (t 3)) 16 .true) :: (og 18 (.fieldAddr 1 (t 2)) 16 .true) :: (og 19 (.load .false 1 (t 18)) 16 .true) :: L139r0)
def L139r2:List zo:=((m 10 9) :: (og 11 (.load .true 2 (t 3)) 10 .true) :: (og 12 (.fieldAddr 0 (t 2)) 10 .true) :: (og 13 (.load .false 1 (t 12)) 10 .true) :: (og 14 (c 144 [(t 11),(t 13)]) 10 .true) :: L139r1)
def L139s0:zk:=(.seq (.reg ((f 5 0 2) :: (l 6 5) :: (f 7 1 2) :: (l 8 7) :: (o 9 (b .leq (t 6) (t 8))) :: L139r2)) .ret)
def L139:zr:=⟨22,(.seq (.reg [(o 2 (.box (t 0))),(o 3 (.box (t 1))),(o 4 (.move (.c (.bool .false))))]) L139s0),[(.t 4)],.false,.none,vO⟩
theorem lp139:LP 139 = some L139:=by kernel_rfl
def L151s0:zk:=(.cond (t 16) (.seq (.reg [(o 4 (.move (.c (.bool .false))))]) .ret) .skip)
def L151s1:zk:=(.seq (.reg [(m 13 1),(g 14 4 6),(o 15 (.call (t 13) [(t 14)])),(o 16 (.un .not (t 15)))]) L151s0)
def L151s2:zk:=(.reg [(o 17 (b .add (t 9) (k 1))),(m 9 17)])
def L151s3:zk:=(.seq (.block 1 (.seq (.reg [(o 11 (.indexAddrS 4 (t 7) (t 9))),(g 12 4 11),(o 6 (.alloc [(i 0),(i 0),(i 0),(i 0)])),(s 4 6 12)]) L151s1)) L151s2)
def L151w0:zk:=(.seq (.reg [(o 10 (b .lss (t 9) (t 8)))]) (.seq (.cond (t 10) .skip (.exit 0)) L151s3))
def L151s4:zk:=(.seq (.seq (.reg [(m 7 0),(o 8 (.len .slice (t 7))),(o 9 (.move (k 0)))]) (.block 0 (.loop L151w0))) (.seq (.reg [(o 4 (.move (.c (.bool .true))))]) .ret))
def L151:zr:=⟨18,(.seq (.reg [(o 4 (.move (.c (.bool .false))))]) L151s4),[(.t 4)],.false,.none,vO⟩
theorem lp151:LP 151 = some L151:=by kernel_rfl
def L155s0:zk:=(.cond (t 16) (.seq (.reg [(o 4 (.move (.c (.bool .false))))]) .ret) .skip)
def L155s1:zk:=(.seq (.reg [(m 13 1),(g 14 2 6),(o 15 (.call (t 13) [(t 14)])),(o 16 (.un .not (t 15)))]) L155s0)
def L155s2:zk:=(.reg [(o 17 (b .add (t 9) (k 1))),(m 9 17)])
def L155s3:zk:=(.seq (.block 1 (.seq (.reg [(o 11 (.indexAddrS 2 (t 7) (t 9))),(g 12 2 11),(o 6 (.alloc [(i 0),(i 0)])),(s 2 6 12)]) L155s1)) L155s2)
def L155w0:zk:=(.seq (.reg [(o 10 (b .lss (t 9) (t 8)))]) (.seq (.cond (t 10) .skip (.exit 0)) L155s3))
def L155s4:zk:=(.seq (.seq (.reg [(m 7 0),(o 8 (.len .slice (t 7))),(o 9 (.move (k 0)))]) (.block 0 (.loop L155w0))) (.seq (.reg [(o 4 (.move (.c (.bool .true))))]) .ret))
def L155:zr:=⟨18,(.seq (.reg [(o 4 (.move (.c (.bool .false))))]) L155s4),[(.t 4)],.false,.none,vO⟩
theorem lp155:LP 155 = some L155:=by kernel_rfl
def L159s0:zk:=(.seq (.reg [(o 5 (.makeFunc 171 [] [(t 2),(t 3)])),(m 4 5)]) .ret)
def L159:zr:=⟨6,(.seq (.reg [(o 2 (.box (t 0))),(o 3 (.box (t 1))),(o 4 (.move (.c .nilFunc)))]) L159s0),[(.t 4)],.true,.none,vO⟩
theorem lp159:LP 159 = some L159:=by kernel_rfl
def L171r0:List zo:=[(o 17 (.sliceS 2 (t 12) (.some (t 14)) (.some (t 16)))),(o 18 (c 140 [(t 17)])),(o 5 (.alloc [(i 0),(i 0)])),(s 2 5 18)]
def L171r1:List zo:=[(oga 29 (.load .false 1 (t 1)) 22 .true [2]),(oga 30 (.move (t 4)) 22 .true [2]),(oga 31 (.indexAddrS 2 (t 29) (t 30)) 22 .true [2]),(oga 32 (.load .true 2 (t 31)) 22 .true [2]),(oga 33 (.call (t 23) [(t 28),(t 32)]) 22 .true [2]),(oga 34 (.un .not (t 33)) 22 .true [14,2]),(oa 35 (.pick (t 22) (t 34) (.c (.bool .false))) [14,2])]
def L171r2:List zo:=((oga 24 (.load .false 1 (t 1)) 22 .true [2]) :: (oga 25 (.move (t 4)) 22 .true [2]) :: (oga 26 (b .sub (t 25) (k 1)) 22 .true [2]) :: (oga 27 (.indexAddrS 2 (t 24) (t 26)) 22 .true [2]) :: (oga 28 (.load .true 2 (t 27)) 22 .true [2]) :: L171r1)
def L171s0:zk:=(.seq (.draw 14 ((g 19 2 5) :: (l 20 2) :: (o 21 (c 144 [(t 19),(t 20)])) :: (oa 22 (.move (t 21)) [2]) :: (oga 23 (.move (t 0)) 22 .true [2]) :: L171r2)) (.cond (t 35) .ret .skip))
def L171s1:zk:=(.reg [(m 10 4),(o 11 (b .add (t 10) (k 1))),(m 4 11)])
def L171s2:zk:=(.seq (.block 1 (.seq (.reg ((l 12 1) :: (m 13 4) :: (o 14 (b .sub (t 13) (k 1))) :: (m 15 4) :: (o 16 (b .add (t 15) (k 1))) :: L171r0)) L171s0)) L171s1)
def L171w0:zk:=(.seq (.seq (.reg [(m 6 4),(l 7 1),(o 8 (.len .slice (t 7))),(o 9 (b .lss (t 6) (t 8)))]) (.cond (t 9) .skip (.exit 0))) L171s2)
def L171:zr:=⟨36,(.seq (.reg [(o 4 (.move (k 1)))]) (.block 0 (.loop L171w0))),[],.true,.none,vO⟩
theorem lp171:LP 171 = some L171:=by kernel_rfl
end
end Go.Hx

namespace Go.Hx
noncomputable section
def spWakes : List HV → HS → Option (HV × HS)
 | [], σ => some (.bool true, σ)
 | _, _ => none
def LW : Nat → Option zr := withS LP 19 spWakes
theorem withS_of {lp : Nat → Option zr} {f : Nat} {g : List HV → HS → Option (HV × HS)} {k : Nat} {lf : zr} (hk : Nat.beq k f = false) (h : lp k = some lf) : withS lp f g k = some lf := by
 unfold withS
 rw [hk]
 exact h
theorem zQ {k : Nat} {lf : zr} (hk : Nat.beq k 19 = false) (h : LP k = some lf) : LW k = some lf := withS_of hk h
theorem lw10 : LW 10 = some L10 := zQ rfl lp10
theorem lw18 : LW 18 = some L18 := zQ rfl lp18
theorem lw21 : LW 21 = some L21 := zQ rfl lp21
theorem lw22 : LW 22 = some L22 := zQ rfl lp22
theorem lw25 : LW 25 = some L25 := zQ rfl lp25
theorem lw27 : LW 27 = some L27 := zQ rfl lp27
theorem lw29 : LW 29 = some L29 := zQ rfl lp29
theorem lw40 : LW 40 = some L40 := zQ rfl lp40
theorem lw52 : LW 52 = some L52 := zQ rfl lp52
theorem lw53 : LW 53 = some L53 := zQ rfl lp53
theorem lw55 : LW 55 = some L55 := zQ rfl lp55
theorem lw56 : LW 56 = some L56 := zQ rfl lp56
theorem lw58 : LW 58 = some L58 := zQ rfl lp58
theorem lw59 : LW 59 = some L59 := zQ rfl lp59
theorem lw60 : LW 60 = some L60 := zQ rfl lp60
theorem lw61 : LW 61 = some L61 := zQ rfl lp61
theorem lw65 : LW 65 = some L65 := zQ rfl lp65
theorem lw66 : LW 66 = some L66 := zQ rfl lp66
theorem lw67 : LW 67 = some L67 := zQ rfl lp67
theorem lw68 : LW 68 = some L68 := zQ rfl lp68
theorem lw70 : LW 70 = some L70 := zQ rfl lp70
theorem lw73 : LW 73 = some L73 := zQ rfl lp73
theorem lw75 : LW 75 = some L75 := zQ rfl lp75
theorem lw84 : LW 84 = some L84 := zQ rfl lp84
theorem lw85 : LW 85 = some L85 := zQ rfl lp85
theorem lw86 : LW 86 = some L86 := zQ rfl lp86
theorem lw92 : LW 92 = some L92 := zQ rfl lp92
theorem lw93 : LW 93 = some L93 := zQ rfl lp93
theorem lw94 : LW 94 = some L94 := zQ rfl lp94
theorem lw95 : LW 95 = some L95 := zQ rfl lp95
theorem lw96 : LW 96 = some L96 := zQ rfl lp96
theorem lw97 : LW 97 = some L97 := zQ rfl lp97
theorem lw98 : LW 98 = some L98 := zQ rfl lp98
theorem lw99 : LW 99 = some L99 := zQ rfl lp99
theorem lw101 : LW 101 = some L101 := zQ rfl lp101
theorem lw102 : LW 102 = some L102 := zQ rfl lp102
theorem lw103 : LW 103 = some L103 := zQ rfl lp103
theorem lw104 : LW 104 = some L104 := zQ rfl lp104
theorem lw105 : LW 105 = some L105 := zQ rfl lp105
theorem lw106 : LW 106 = some L106 := zQ rfl lp106
theorem lw107 : LW 107 = some L107 := zQ rfl lp107
theorem lw108 : LW 108 = some L108 := zQ rfl lp108
theorem lw110 : LW 110 = some L110 := zQ rfl lp110
theorem lw123 : LW 123 = some L123 := zQ rfl lp123
theorem lw124 : LW 124 = some L124 := zQ rfl lp124
theorem lw133 : LW 133 = some L133 := zQ rfl lp133
theorem lw134 : LW 134 = some L134 := zQ rfl lp134
theorem lw135 : LW 135 = some L135 := zQ rfl lp135
theorem lw136 : LW 136 = some L136 := zQ rfl lp136
theorem lw137 : LW 137 = some L137 := zQ rfl lp137
theorem lw138 : LW 138 = some L138 := zQ rfl lp138
theorem lw139 : LW 139 = some L139 := zQ rfl lp139
theorem lw140 : LW 140 = some L140 := zQ rfl lp140
theorem lw141 : LW 141 = some L141 := zQ rfl lp141
theorem lw142 : LW 142 = some L142 := zQ rfl lp142
theorem lw144 : LW 144 = some L144 := zQ rfl lp144
theorem lw150 : LW 150 = some L150 := zQ rfl lp150
theorem lw151 : LW 151 = some L151 := zQ rfl lp151
theorem lw152 : LW 152 = some L152 := zQ rfl lp152
theorem lw153 : LW 153 = some L153 := zQ rfl lp153
theorem lw154 : LW 154 = some L154 := zQ rfl lp154
theorem lw155 : LW 155 = some L155 := zQ rfl lp155
theorem lw156 : LW 156 = some L156 := zQ rfl lp156
theorem lw157 : LW 157 = some L157 := zQ rfl lp157
theorem lw158 : LW 158 = some L158 := zQ rfl lp158
theorem lw159 : LW 159 = some L159 := zQ rfl lp159
theorem lw160 : LW 160 = some L160 := zQ rfl lp160
theorem lw161 : LW 161 = some L161 := zQ rfl lp161
theorem lw168 : LW 168 = some L168 := zQ rfl lp168
theorem lw169 : LW 169 = some L169 := zQ rfl lp169
theorem lw170 : LW 170 = some L170 := zQ rfl lp170
theorem lw171 : LW 171 = some L171 := zQ rfl lp171
theorem lw172 : LW 172 = some L172 := zQ rfl lp172
theorem lw180 : LW 180 = some L180 := zQ rfl lp180
theorem lw181 : LW 181 = some L181 := zQ rfl lp181
theorem V.ct_wakes {fl : Nat} {h : Tr HBlk} {nx : Nat} : C LW fl 19 [] ⟨h, nx⟩ (V.KS (.bool true) nx h) :=
 c_spec (lf := ⟨0, .bad, [], false, some spWakes, fun _ _ => none⟩) rfl rfl rfl (Nat.le_refl _) ⟨rfl, nx, Nat.le_refl _, rfl⟩
end
end Go.Hx

namespace Go.Hx.V
open Go.Hx
variable {lp : Nat → Option zr} {fl nt : Nat} {rd : Option Nat} {Q : HExit → HAct → HS → Prop} {T : Tr HV} {ds : List Nat} {σ : HS} {c : zk}
end Go.Hx.V

namespace Go.Hx.V
open Go.Hx
def eI (k : IntKind) (n : Nat) (f : Nat → Int) : List HV := (List.range n).map fun i => .int k (f i)
def eB (n : Nat) (f : Nat → Bool) : List HV := (List.range n).map fun i => .bool (f i)
def ups {α : Type} (f : Nat → α) (j : Nat) (v : α) : Nat → α := fun i => if i = j then v else f i
section
variable {k : IntKind} {n : Nat} {f : Nat → Int} {g : Nat → Bool}
theorem zy : (eI k n f).length = n := by unfold eI; rw [List.length_map, List.length_range]
theorem yn : (eB n g).length = n := by unfold eB; rw [List.length_map, List.length_range]
theorem ym : (eI k n f).all HV.one = true := by
 unfold eI; rw [List.all_map, List.all_eq_true]; intro i _; rfl
theorem eB_one : (eB n g).all HV.one = true := by
 unfold eB; rw [List.all_map, List.all_eq_true]; intro i _; rfl
theorem Ym {i : Nat} (h : i < n) : (eI k n f)[i]? = some (.int k (f i)) := by
 unfold eI; rw [List.getElem?_map, List.getElem?_range h]; rfl
theorem ovw1 : ∀ (l : List HV) (i : Nat) (v : HV), i < l.length → overwrite l i [v] = some (l.set i v)
 | [], i, v, h => by simp at h
 | x :: l, 0, v, h => by cases l <;> rfl
 | x :: l, i + 1, v, h => by
  show (overwrite l i [v]).map _ = _
  rw [ovw1 l i v (by simpa using h)]; rfl
theorem Yl {i : Nat} {v : Int} : (eI k n f).set i (.int k v) = eI k n (ups f i v) := by
 apply List.ext_getElem?
 intro j
 rw [List.getElem?_set]
 by_cases hj : j < n
 ·rw [Ym (f := ups f i v) hj, zy]
  by_cases e : i = j
  ·subst e; rw [if_pos rfl, if_pos hj]; unfold ups; rw [if_pos rfl]
  ·rw [if_neg e, Ym hj]; unfold ups; rw [if_neg (Ne.symm e)]
 ·rw [List.getElem?_eq_none (l := eI k n (ups f i v)) (by rw [zy]; omega), List.getElem?_eq_none (l := eI k n f) (by rw [zy]; omega), zy]
  by_cases e : i = j
  ·subst e; rw [if_pos rfl, if_neg hj]
  ·rw [if_neg e]
theorem yw (P : List HV) {p off ix : Nat} (hp : P.length = p) (ho : off = p + ix) (hl : ix < n) : (P ++ eI k n f)[off]? = some (.int k (f ix)) := by
 rw [List.getElem?_append_right (by omega), show off - P.length = ix by omega]; exact Ym hl
theorem uE (P : List HV) {p off ix : Nat} {v : Int} (hp : P.length = p) (ho : off = p + ix) (hl : ix < n) : overwrite (P ++ eI k n f) off [.int k v] = some (P ++ eI k n (ups f ix v)) := by
 rw [ovw1 _ _ _ (by rw [List.length_append, zy]; omega), List.set_append_right _ _ (by omega), show off - P.length = ix by omega, Yl]
end
theorem zS (P1 P2 : List HV) {E : List HV} {m off n : Nat} (h1 : P1.length = off) (hE : E.length = m) (h2 : P2.length + m = n) : takeN n ((P1 ++ (P2 ++ E)).drop off) = some (P2 ++ E) := by
 rw [← h1, List.drop_left, ← h2, ← hE, ← List.length_append]; exact jc _
theorem YK : ∀ (q r : List HV), q.length = r.length → overwrite q 0 r = some r
 | [], [], _ => rfl
 | x :: q, [], h => by simp at h
 | [], y :: r, h => by simp at h
 | x :: q, y :: r, h => by
  show (overwrite q 0 r).map _ = _
  rw [YK q r (by simpa using h)]; rfl
theorem yc : ∀ (P : List HV) {q r : List HV} {off : Nat}, P.length = off → q.length = r.length → overwrite (P ++ q) off r = some (P ++ r)
 | [], q, r, off, h, e => by rw [← h]; exact YK q r e
 | x :: P, q, [], off, h, e => by
  have : q = [] := List.length_eq_zero_iff.1 (by simpa using e)
  subst this
  cases off <;> rfl
 | x :: P, q, y :: r, off, h, e => by
  subst h
  show (overwrite (P ++ q) P.length (y :: r)).map _ = _
  rw [yc P rfl e]; rfl
theorem zY (P : List HV) {E : List HV} {m n : Nat} (hE : E.length = m) (h : P.length + m = n) : (P ++ E).length = n := by rw [List.length_append, hE, h]
theorem zX (P : List HV) {E : List HV} (h : P.all HV.one = true) (hE : E.all HV.one = true) : (P ++ E).all HV.one = true := by rw [List.all_append, h, hE]; rfl
section
variable {n0 nx : Nat} {h0 h : Tr HBlk} {F0 F : PH} {L : List LE}
theorem St.cells (st : St n0 h0 F0 F h nx L) (i : Nat) {b : Nat} {cs : List HV} (hi : L[i]? = some (.bx b cs)) (cs' : List HV) (he : cs = cs') : St n0 h0 F0 F h nx (L.set i (.bx b cs')) := by
 subst he
 have : L.set i (.bx b cs) = L := by
  apply List.ext_getElem?
  intro j
  rw [List.getElem?_set]
  by_cases e : i = j
  ·subst e
   rw [if_pos rfl, hi]
   split
   ·rfl
   ·rename_i hn; rw [List.getElem?_eq_none (by omega)] at hi; cases hi
  ·rw [if_neg e]
 rw [this]; exact st
end
def rF (k : IntKind) (n : Nat) : Rel (Nat → Int) := fun _ f r => r = eI k n f
def rFB (n : Nat) : Rel (Nat → Bool) := fun _ f r => r = eB n f
instance {k : IntKind} {n : Nat} : OkR (rF k n) n := ⟨fun _ h => h, fun h => by rw [h]; exact zy, fun h => by rw [h]; exact ym⟩
instance {n : Nat} : OkR (rFB n) n := ⟨fun _ h => h, fun h => by rw [h]; exact yn, fun h => by rw [h]; exact eB_one⟩
end Go.Hx.V

namespace Go.Hx.V
open Go.Hx
def KD {κ : Type} [DecidableEq κ] (D : ED) (en : κ → HV) : Prop := ∀ a b : κ, eqH D (en a) (en b) = some (decide (a = b))
def KRw {κ : Type} [DecidableEq κ] (ks : List Leaf) (en : κ → List HV) : Prop := ∀ a b : κ, eqRow ks (en a) (en b) = some (decide (a = b))
theorem KRw.one {k : IntKind} : KRw [.i k] (fun x : Int => [.int k x]) := fun a b => by
 show (match (if k = k ∧ k = k then some (a == b) else none), some true with | some a, some b => some (a && b) | _, _ => none) = _
 rw [if_pos ⟨rfl, rfl⟩]
 show some ((a == b) && true) = _
 rw [Bool.and_true]; rfl
theorem KRw.cons {κ : Type} [DecidableEq κ] {ks : List Leaf} {en : κ → List HV} {k : IntKind} (h : KRw ks en) : KRw (.i k :: ks) (fun p : Int × κ => .int k p.1 :: en p.2) := fun a b => by
 show (match (if k = k ∧ k = k then some (a.1 == b.1) else none), eqRow ks (en a.2) (en b.2) with | some a, some b => some (a && b) | _, _ => none) = _
 rw [if_pos ⟨rfl, rfl⟩, h a.2 b.2]
 show some ((a.1 == b.1) && decide (a.2 = b.2)) = _
 congr 1
 obtain ⟨a1, a2⟩ := a
 obtain ⟨b1, b2⟩ := b
 by_cases c : a1 = b1
 ·by_cases c' : a2 = b2
  ·subst c; subst c'; simp
  ·simp [c, c']
 ·simp [c]
theorem KD.row {κ : Type} [DecidableEq κ] {ks : List Leaf} {en : κ → List HV} (h : KRw ks en) : KD (.row ks) (fun k => .agg (en k)) := h
section
variable {κ β : Type} [DecidableEq κ]
def look : List (κ × β) → κ → Option β
 | [], _ => none
 | (x, v) :: l, k => if k = x then some v else look l k
def putM (k : κ) (v : β) : List (κ × β) → List (κ × β)
 | [] => [(k, v)]
 | (x, u) :: l => if k = x then (k, v) :: l else (x, u) :: putM k v l
def upm (m : κ → Option β) (k : κ) (v : β) : κ → Option β := fun j => if j = k then some v else m j
theorem Xw {k : κ} {v : β} : ∀ (l : List (κ × β)) (j : κ), look (putM k v l) j = if j = k then some v else look l j
 | [], j => rfl
 | (x, u) :: l, j => by
  unfold putM
  by_cases c : k = x
  ·rw [if_pos c]
   unfold look
   by_cases c' : j = k
   ·rw [if_pos c', if_pos c']
   ·rw [if_neg c', if_neg c', if_neg (fun e => c' (e.trans c.symm))]
  ·rw [if_neg c]
   unfold look
   by_cases c' : j = x
   ·rw [if_pos c', if_neg (fun e => c (e.symm.trans c')), if_pos c']
   ·rw [if_neg c', if_neg c', Xw l j]
def MR (D : ED) (en : κ → HV) (ev : β → HV) (es : List (HV × HV)) (m : κ → Option β) : Prop := KD D en ∧ ∃ l : List (κ × β), es = l.map (fun p => (en p.1, ev p.2)) ∧ ∀ k, m k = look l k
theorem MR.nil {D : ED} {en : κ → HV} {ev : β → HV} (h : KD D en) : MR D en ev [] (fun _ => none) := ⟨h, [], rfl, fun _ => rfl⟩
theorem MR.find {D : ED} {en : κ → HV} {ev : β → HV} {es : List (HV × HV)} {m : κ → Option β} (h : MR D en ev es m) (k : κ) : findH D (en k) es = some ((m k).map ev) := by
 obtain ⟨hd, l, rfl, hm⟩ := h
 rw [hm k]
 clear hm
 induction l with
 | nil => rfl
 | cons p l ih =>
  obtain ⟨x, v⟩ := p
  show (match eqH D (en k) (en x) with | some true => some (some (ev v)) | some false => findH D (en k) (l.map fun p : κ × β => (en p.1, ev p.2)) | none => none) = _
  rw [hd k x]
  unfold look
  by_cases c : k = x
  ·rw [decide_eq_true c, if_pos c]; rfl
  ·rw [decide_eq_false c, if_neg c]; exact ih
theorem MR.upd {D : ED} {en : κ → HV} {ev : β → HV} {es : List (HV × HV)} {m : κ → Option β} (h : MR D en ev es m) (k : κ) (v : β) : ∃ es', updH D (en k) (ev v) es = some es' ∧ MR D en ev es' (upm m k v) := by
 obtain ⟨hd, l, rfl, hm⟩ := h
 refine ⟨(putM k v l).map (fun p => (en p.1, ev p.2)), ?_, hd, putM k v l, rfl, fun j => ?_⟩
 ·clear hm
  induction l with
  | nil => rfl
  | cons p l ih =>
   obtain ⟨x, u⟩ := p
   show (match eqH D (en k) (en x) with | some true => some ((en k, ev v) :: l.map fun p : κ × β => (en p.1, ev p.2)) | some false => (updH D (en k) (ev v) (l.map fun p : κ × β => (en p.1, ev p.2))).map ((en x, ev u) :: ·) | none => none) = _
   rw [hd k x]
   unfold putM
   by_cases c : k = x
   ·rw [decide_eq_true c, if_pos c]; rfl
   ·rw [decide_eq_false c, if_neg c]
    show (updH D (en k) (ev v) (l.map fun p : κ × β => (en p.1, ev p.2))).map ((en x, ev u) :: ·) = _
    rw [ih]; rfl
 ·rw [Xw]
  unfold upm
  rw [hm j]
theorem MR.key {D : ED} {en : κ → HV} {ev : β → HV} {es : List (HV × HV)} {m : κ → Option β} (h : MR D en ev es m) (k : κ) : keyOk D (en k) = true := by
 unfold keyOk; rw [h.1 k k]; rfl
end
section
variable {lp : Nat → Option zr} {fl : Nat} {N : HAct → HS → Prop} {nt d : Nat} {T : Tr HV} {ds : List Nat} {h : Tr HBlk} {nx : Nat} {os : List zo} {anc : List Nat} {κ β : Type} [DecidableEq κ]
theorem v_mm {n0 : Nat} {h0 : Tr HBlk} {F0 F : PH} {L : List LE} (st : St n0 h0 F0 F h nx L) (hn : ∀ b h' n', St n0 h0 F0 F h' n' (L ++ [.any b (.map [])]) → R lp fl os N ⟨nt, T.set d (some (.map (some b))), ds⟩ ⟨h', n'⟩) (hd : Nat.blt d nt = true := by rfl) : R lp fl (⟨some d, .makeMap, none, anc⟩ :: os) N ⟨nt, T, ds⟩ ⟨h, nx⟩ :=
 r_mm (by
  rw [z9 hd]
  have hne := st.ext.le
  exact hn _ _ _ (st.push (b := nx) (Ext.set st.d (by omega) (by omega) (by omega)) (fun c hc => by rw [X6 hc]; omega) ⟨by omega, by omega, yy _ _ _⟩))
theorem v_lk1 {D : ED} {en : κ → HV} {ev : β → HV} {es : List (HV × HV)} {m : κ → Option β} {b : Nat} {x y : Lo} {kv zero : HV} (hm : MR D en ev es m) (hg : h.get b = some (.map es)) (k : κ) (z : β) (hk : kv = en k) (hz : zero = ev z) (hn : R lp fl os N ⟨nt, T.set d (some (ev ((m k).getD z))), ds⟩ ⟨h, nx⟩) (hx : lo T x = .map (some b) := by first | exact ev_c | (apply ev_t; exact gA)) (hy : lo T y = kv := by first | exact ev_c | (apply ev_t; exact gA)) (hd : Nat.blt d nt = true := by rfl) : R lp fl (⟨some d, .lookup D zero false x y, none, anc⟩ :: os) N ⟨nt, T, ds⟩ ⟨h, nx⟩ := by
 subst hk; subst hz
 refine r_lku ((zJ x).trans hx) ((zJ y).trans hy) (hm.key k) hg (hm.find k) ?_
 rw [z9 hd]
 cases e : m k <;> (rw [e] at hn; exact hn)
theorem v_mu {n0 : Nat} {h0 : Tr HBlk} {F0 F : PH} {L : List LE} {D : ED} {en : κ → HV} {ev : β → HV} {es : List (HV × HV)} {m : κ → Option β} {b : Nat} {x y z : Lo} {kv vv : HV} (st : St n0 h0 F0 F h nx L) (i : Nat) (hi : L[i]? = some (.any b (.map es))) (hm : MR D en ev es m) (k : κ) (v : β) (hk : kv = en k) (hv : vv = ev v) (hfl : fl ≤ n0) (hn : ∀ es' h', MR D en ev es' (upm m k v) → St n0 h0 F0 F h' nx (L.set i (.any b (.map es'))) → R lp fl os N ⟨nt, T, ds⟩ ⟨h', nx⟩) (hx : lo T x = .map (some b) := by first | exact ev_c | (apply ev_t; exact gA)) (hy : lo T y = kv := by first | exact ev_c | (apply ev_t; exact gA)) (hw : lo T z = vv := by first | exact ev_c | (apply ev_t; exact gA)) : R lp fl (⟨none, .mapUpdate D x y z, none, anc⟩ :: os) N ⟨nt, T, ds⟩ ⟨h, nx⟩ := by
 subst hk; subst hv
 obtain ⟨es', e1, e2⟩ := hm.upd k v
 obtain ⟨h1, h2, h3⟩ := st.at hi
 refine r_mup ((zJ x).trans hx) ((zJ y).trans hy) ((zJ z).trans hw) (hm.key k) h3 (Nat.le_trans hfl h1) e1 ?_
 exact hn es' _ e2 (st.swap hi (Nat.le_refl _) (st.d.upd h2) (fun c hc hne => yr _ _ fun e => hne (List.mem_singleton.2 e)) (fun c hc => .inl hc) ⟨h1, h2, yy _ _ _⟩)
end
end Go.Hx.V

namespace Go.Hx.V
open Go.Hx
section
variable {lp : Nat → Option zr} {fl : Nat} {N : HAct → HS → Prop} {nt d : Nat} {T : Tr HV} {ds : List Nat} {os : List zo}
variable {h1 hm h0 : Tr HBlk} {nx s n1 n0 i : Nat} {done : List (Nat × List (Nat × HBlk))} {V : List (Nat × PH)} {F F0 : PH} {L : List LE}
theorem sl_len {α : Type} {l : List α} {a b : Nat} (h : b ≤ l.length) : b - a = ((l.drop a).take (b - a)).length := by rw [List.length_take, List.length_drop]; omega
theorem XC {anc : List Nat} : ∀ {done : List (Nat × List (Nat × HBlk))}, (∀ p ∈ done, anc.contains p.1 = true) → dropAll anc done = []
 | [], _ => rfl
 | (j, l) :: ds, h => by
  have hj : anc.contains j = true := h (j, l) (List.mem_cons_self ..)
  rw [dr_in hj]
  exact XC fun p hp => h p (List.mem_cons_of_mem _ hp)
end
end Go.Hx.V

namespace Go.Hx.V
open Go.Hx
theorem ovw2 : ∀ (l : List HV) (i : Nat) (a b : HV), i + 1 < l.length → overwrite l i [a, b] = some ((l.set i a).set (i + 1) b)
 | [], i, a, b, h => by simp at h
 | [x], 0, a, b, h => by simp at h
 | x :: y :: l, 0, a, b, h => by cases l <;> rfl
 | x :: l, i + 1, a, b, h => by
  show (overwrite l i [a, b]).map _ = _
  rw [ovw2 l i a b (by simpa using h)]; rfl
section
variable {k : IntKind} {n : Nat} {f : Nat → Int}
theorem ar_set2 (P : List HV) {p off ix : Nat} {v w : Int} (hp : P.length = p) (ho : off = p + ix) (hl : ix + 1 < n) : overwrite (P ++ eI k n f) off [.int k v, .int k w] = some (P ++ eI k n (ups (ups f ix v) (ix + 1) w)) := by
 rw [ovw2 _ _ _ _ (by rw [List.length_append, zy]; omega), List.set_append_right _ _ (by omega), show off - P.length = ix by omega, Yl, List.set_append_right _ _ (by omega), show off + 1 - P.length = ix + 1 by omega, Yl]
theorem ar_set20 {off ix : Nat} {v w : Int} (ho : off = ix) (hl : ix + 1 < n) : overwrite (eI k n f) off [.int k v, .int k w] = some (eI k n (ups (ups f ix v) (ix + 1) w)) := ar_set2 (p := 0) [] rfl (by omega) hl
end
def rqL {α β : Type} (rel : Rel α) (b : PH → β → HV → Prop) : PH → α × β → List HV → HV → Prop := fun F x r w => rel F x.1 r ∧ b F x.2 w
def rqC {α β : Type} (rel : Rel α) (q : PH → β → List HV → HV → Prop) : PH → α × β → List HV → HV → Prop := fun F x r w => ∃ r1 r2, r = r1 ++ r2 ∧ rel F x.1 r1 ∧ q F x.2 r2 w
def rvT2A {α : Type} (q : PH → α → List HV → HV → Prop) : PH → α → HV → Prop := fun F x v => ∃ r w, v = .tuple [.agg r, w] ∧ q F x r w
section
variable {k : IntKind} {n : Nat} {f : Nat → Int}
end
end Go.Hx.V

namespace Go.Hx.V
open Go.Hx
def bls : List (Nat × List HV) → PH
 | [], _ => none
 | e :: l, b => if b = e.1 then some (.cells e.2 .exact) else bls l b
theorem bls_0 {a : Nat} {cs : List HV} {l : List (Nat × List HV)} : bls ((a, cs) :: l) a = some (.cells cs .exact) := if_pos rfl
theorem bls_s {a b : Nat} {cs : List HV} {l : List (Nat × List HV)} {x : HBlk} (h : b ≠ a) (hb : bls l b = some x) : bls ((a, cs) :: l) b = some x := (if_neg h).trans hb
theorem bls_nil {P : Nat → HBlk → Prop} : ∀ a x, bls [] a = some x → P a x := fun _ _ h => by cases h
theorem XJ {P : Nat → HBlk → Prop} {a0 : Nat} {cs : List HV} {l : List (Nat × List HV)} (h0 : P a0 (.cells cs .exact)) (h : ∀ a x, bls l a = some x → P a x) : ∀ a x, bls ((a0, cs) :: l) a = some x → P a x := fun a x q => by
 have q' : (if a = a0 then some (.cells cs .exact) else bls l a) = some x := q
 by_cases e : a = a0
 ·rw [if_pos e] at q'; cases q'; rw [e]; exact h0
 ·rw [if_neg e] at q'; exact h a x q'
section
variable {lp : Nat → Option zr} {fl : Nat} {N : HAct → HS → Prop} {nt d : Nat} {T : Tr HV} {ds : List Nat} {os : List zo}
variable {h1 hm h0 : Tr HBlk} {nx s n1 n0 i : Nat} {done : List (Nat × List (Nat × HBlk))} {V : List (Nat × PH)} {F F0 : PH} {L : List LE}
theorem y_upd {o : zo} {E : List (Nat × List HV)} (st : St n0 h0 F0 F h1 n1 L) (dw : Dw n1 nx h1 done V) (hV : V.all (fun e => o.anc.contains e.1) = true)
  (h2 : ∀ hm, Vw n1 nx h1 hm o.anc V → R lp (max fl n1) [o] (fun a σ => a = ⟨nt, T, ds⟩ ∧ nx = σ.nx ∧ D σ.h σ.nx ∧ ∀ b x, bls E b = some x → n1 ≤ b ∧ σ.h.get b = some x) ⟨nt, T, ds⟩ ⟨hm, nx⟩)
  (hr : ∀ done' G, Dw n1 nx h1 done' [(i, G)] → (∀ b x, bls E b = some x → G b = some x) → DG lp fl s n1 h1 os (i + 1) done' N ⟨nt, T, ds⟩ nx)
  (hi : Nat.blt i s = true := by rfl) (hw : o.anc.contains i = true := by rfl) : DG lp fl s n1 h1 (o :: os) i done N ⟨nt, T, ds⟩ nx := by
 obtain ⟨n, a, σ, e, rfl, g1, g2, g3⟩ := h2 _ (dw.view st.d o.anc)
 obtain ⟨h', n'⟩ := σ
 dsimp only at g1 g2 g3
 subst g1
 have hle := dw.le
 have hdr : dropAll o.anc done = [] := XC fun p hp => by
  obtain ⟨e, he, h⟩ := dw.idx p hp
  rw [← h]
  exact List.all_eq_true.1 hV e he
 refine x_stepW hi hw rfl ⟨n, _, _, e, x_extW (Nat.le_refl _) g2 hdr fun l1 a1 a2 a3 => ?_⟩
 have dom : ∀ b x, h'.get b = some x → b < nx := fun b x hx => Nat.not_le.1 fun h => by
  have g2' := g2
  unfold D at g2'
  rw [g2' b h] at hx
  cases hx
 have hG : ∀ b x, (if n1 ≤ b then h'.get b else none) = some x → n1 ≤ b ∧ h'.get b = some x := fun b x hx => by
  by_cases c : n1 ≤ b
  ·rw [if_pos c] at hx; exact ⟨c, hx⟩
  ·rw [if_neg c] at hx; cases hx
 have dw' : Dw n1 nx h1 [(i, l1)] [(i, fun b => if n1 ≤ b then h'.get b else none)] := by
  refine ⟨hle, fun e he b x hx => ?_, fun f g e he hf b x hx => ?_, fun f g b hb => ?_, fun f g e he hf b x hx => ?_, List.pairwise_singleton .., fun p hp => ⟨_, List.mem_singleton.2 rfl, by rw [List.mem_singleton.1 hp]⟩⟩
  ·rw [List.mem_singleton.1 he] at hx
   obtain ⟨q1, q2⟩ := hG b x hx
   exact ⟨q1, dom b x q2⟩
  ·rw [List.mem_singleton.1 he] at hx hf
   obtain ⟨q1, q2⟩ := hG b x hx
   show (bif f i then addAll g l1 else g).get b = _
   have hf' : f i = true := hf
   rw [hf', cond_true]
   exact a2 g b x q1 q2
  ·show (bif f i then addAll g l1 else g).get b = _
   cases f i with
   | false => rfl
   | true => exact a1 g b hb
  ·rw [List.mem_singleton.1 he] at hf
   show (bif f i then addAll g l1 else g).get b = _
   have hf' : f i = false := hf
   rw [hf']; rfl
 exact hr _ _ dw' fun b x hx => by
  obtain ⟨q1, q2⟩ := g3 b x hx
  show (if n1 ≤ b then h'.get b else none) = _
  rw [if_pos q1]; exact q2
theorem u_st {A anc : List Nat} {E : List (Nat × List HV)} {n b o : Nat} {x y : Lo} {cs cs' : List HV} {v : HV} (vw : Vw n1 nx h1 hm A V) (hfl : fl ≤ n1) (hb : n1 ≤ b) (hg : hm.get b = some (.cells cs .exact)) (hw : overwrite cs o v.cells = some cs') (hl : v.cells.length = n) (hone : v.cells.all HV.one = true)
  (hE : ∀ a z, bls E a = some z → (a = b ∧ z = .cells cs' .exact) ∨ (a ≠ b ∧ n1 ≤ a ∧ hm.get a = some z))
  (hx : lo T x = .ptr (some (b, o)) := by first | exact ev_c | (apply ev_t; repeat first | exact ge_h | refine ge_w rfl ?_ | refine ge_f rfl ?_ | refine ge_m rfl ?_ | assumption)) (hy : lo T y = v := by first | exact ev_c | (apply ev_t; repeat first | exact ge_h | refine ge_w rfl ?_ | refine ge_f rfl ?_ | refine ge_m rfl ?_ | assumption)) :
  R lp (max fl n1) [⟨none, .store n x y, none, anc⟩] (fun a σ => a = ⟨nt, T, ds⟩ ∧ nx = σ.nx ∧ D σ.h σ.nx ∧ ∀ b x, bls E b = some x → n1 ≤ b ∧ σ.h.get b = some x) ⟨nt, T, ds⟩ ⟨hm, nx⟩ := by
 have hlt : b < nx := Nat.not_le.1 fun h => by
  have hd' := vw.d
  unfold D at hd'
  rw [hd' b h] at hg
  cases hg
 refine r_st ((zJ x).trans hx) ((zJ y).trans hy) hg trivial hl hone hw (by omega) (zf ⟨rfl, rfl, ?_, fun a z hz => ?_⟩)
 ·exact vw.d.put (Nat.le_refl _) hlt
 ·rcases hE a z hz with ⟨rfl, rfl⟩ | ⟨q1, q2, q3⟩
  ·exact ⟨hb, yy _ _ _⟩
  ·refine ⟨q2, ?_⟩
   show (hm.set b _).get a = _
   rw [Tr.get_set, if_neg q1]; exact q3
end
end Go.Hx.V

namespace Go.Hx.V
open Go.Hx
set_option maxRecDepth 20000
set_option maxHeartbeats 4000000
def sf18 (N:Nat) (a0_0 a0_1 a0_2 a0_3:Int) (a0_4:(List (Int × Int × Int × Int))) (a0_5:(List (Int × Int))) (a0_6 a0_7 a0_8 a0_9:Int):Option Bool :=
 (bif (decide (((a0_4).length:Int) ≤ (15:Int))) then some (decide (((a0_5).length:Int) ≤ (11:Int))) else some false)
def sf97 (N:Nat) (a0_0 a0_1:Int):Option (Int × Int) :=
 some (a0_0,a0_1)
def sf59 (N:Nat) (a0_0 a0_1 a0_2 a0_3:Int):Option (Int × Int × Int × Int) :=
 (bnd (sf97 N a0_2 a0_3) fun v7=>some (a0_0,a0_1,v7.1,v7.2))
def sf60_L1 (N:Nat) (a0:(List (Int × Int × Int × Int))) (x3:((List (Int × Int × Int × Int)) × Int)):Option (((List (Int × Int × Int × Int)) × Int) ⊕ (List (Int × Int × Int × Int))) :=
 (bif (decide (x3.2 < ((a0).length:Int))) then (ix a0 x3.2 fun x23=>(ix a0 x3.2 fun x24=>(ix a0 x3.2 fun x25=>(bnd (sf97 N x25.2.2.1 x25.2.2.2) fun v26=>(ck ((x3.1.length+1) * 32 ≤ 35184372088832 ∧ x3.1.length+1 ≤ 35184372088832) ((ck (rng (x3.2+(1:Int))) (some (.inl ((x3.1 ++ [(x23.1,x24.2.1,v26.1,v26.2)]),(x3.2+(1:Int)))))))))))) else some (.inr x3.1))
def sf60 (N:Nat) (a0:(List (Int × Int × Int × Int))):Option (List (Int × Int × Int × Int)) :=
 bnd (iter (sf60_L1 N a0) N (([]:List (Int × Int × Int × Int)),(0:Int))) (fun y19=>some y19)
def sf66_L1 (a0:(List (Int × Int))) (x3:((List (Int × Int)) × Int)):Option (((List (Int × Int)) × Int) ⊕ (List (Int × Int))) :=
 (bif (decide (x3.2 < ((a0).length:Int))) then (ix a0 x3.2 fun x19=>(ix a0 x3.2 fun x20=>(ck ((x3.1.length+1) * 16 ≤ 35184372088832 ∧ x3.1.length+1 ≤ 35184372088832) ((ck (rng (x3.2+(1:Int))) (some (.inl ((x3.1 ++ [(x19.1,x20.2)]),(x3.2+(1:Int)))))))))) else some (.inr x3.1))
def sf66 (N:Nat) (a0:(List (Int × Int))):Option (List (Int × Int)) :=
 bnd (iter (sf66_L1 a0) N (([]:List (Int × Int)),(0:Int))) (fun y15=>some y15)
def sf29 (N:Nat) (a0_0 a0_1:Int):Option (Int × Int) :=
 some (a0_0,a0_1)
def sf21 (N:Nat) (a0_0 a0_1 a0_2 a0_3:Int) (a0_4:(List (Int × Int × Int × Int))) (a0_5:(List (Int × Int))) (a0_6 a0_7 a0_8 a0_9:Int):Option (Int × Int × Int × Int × (List (Int × Int × Int × Int)) × (List (Int × Int)) × Int × Int × Int × Int) :=
 (bnd (sf59 N a0_0 a0_1 a0_2 a0_3) fun v7=>(bnd (sf60 N a0_4) fun v10=>(bnd (sf66 N a0_5) fun v14=>(bnd (sf29 N a0_8 a0_9) fun v19=>some (v7.1,v7.2.1,v7.2.2.1,v7.2.2.2,v10,v14,a0_6,a0_7,v19.1,v19.2)))))
def sf169 (N:Nat) (a0_0 a0_1 a1 a2:Int):Option Bool :=
 (bif (decide (a1 ≤ a0_0)) then (bif (decide (a0_0 ≤ a0_1)) then some (decide (a0_1 ≤ a2)) else some false) else some false)
def sf180 (N:Nat) (a0_0 a0_1 a1:Int):Option Bool :=
 (bif (decide (a0_0 ≤ a1)) then some (decide (a1 ≤ a0_1)) else some false)
def sf168 (N:Nat) (a0_0 a0_1 a0_2 a0_3:Int):Option Bool :=
 bnd (bnd ((bif (decide (a0_0 < (1:Int))) then some true else (bif (decide ((10:Int) < a0_0)) then some true else (bnd (sf169 N a0_2 a0_3 (1:Int) (200:Int)) fun v37=>some (!v37)))):Option (Bool)) (fun y31=>(bif y31 then some (.inl ()) else some (.inr ()))):Option (Unit ⊕ Unit)) (sel (fun w22=>some false) (fun w24=>(ck (rng (a0_0 * a0_2)) ((ck (rng (a0_0 * a0_3)) ((bif (decide (a0_1 ≤ (2000:Int))) then (bnd (sf180 N (a0_0 * a0_2) (a0_0 * a0_3) a0_1) fun v48=>some v48) else some false)))))))
def sf150 (N:Nat) (a0_0 a0_1 a0_2 a0_3:Int):Option Int :=
 (bnd (sf168 N a0_0 a0_1 a0_2 a0_3) fun v4=>(bif (!v4) then some (1:Int) else some (0:Int)))
def sf152 (N:Nat) (a0_0 a0_1 a0_2 a0_3 a1_0 a1_1 a1_2 a1_3:Int):Option Bool :=
 (bif (decide ((0:Int) ≤ a1_0)) then (bif (decide (a1_0 < a0_0)) then (bif (decide (a1_0 ≤ a1_1)) then (bif (decide (a1_1 ≤ a0_0)) then (bnd (sf169 N a1_2 a1_3 (0:Int) (2000:Int)) fun v11=>some v11) else some false) else some false) else some false) else some false)
def sf151_L1 (N:Nat) (a0:(List (Int × Int × Int × Int))) (a1f0_0 a1f0_1 a1f0_2 a1f0_3 x1:Int):Option (Int ⊕ (Unit ⊕ Unit)) :=
 (bif (decide (x1 < ((a0).length:Int))) then (ix a0 x1 fun x20=>(bnd (sf152 N a1f0_0 a1f0_1 a1f0_2 a1f0_3 x20.1 x20.2.1 x20.2.2.1 x20.2.2.2) fun v25=>(bif (!v25) then some (.inr (.inl ())) else (ck (rng (x1+(1:Int))) (some (.inl (x1+(1:Int)))))))) else some (.inr (.inr ())))
def sf151 (N:Nat) (a0:(List (Int × Int × Int × Int))) (a1f0_0 a1f0_1 a1f0_2 a1f0_3:Int):Option Bool :=
 bnd (iter (sf151_L1 N a0 a1f0_0 a1f0_1 a1f0_2 a1f0_3) N (0:Int)) (sel (fun w15=>some false) (fun w17=>some true))
def sf134 (N:Nat) (a0_0 a0_1 a0_2 a0_3:Int) (a1:(List (Int × Int × Int × Int))):Option Int :=
 (bnd (sf150 N a0_0 a0_1 a0_2 a0_3) fun v4=>(bif (!(decide (v4 = (0:Int)))) then some v4 else (bif (decide ((12:Int) < ((a1).length:Int))) then some (3:Int) else (bnd (sf151 N a1 a0_0 a0_1 a0_2 a0_3) fun v9=>(bif (!v9) then some (2:Int) else some (0:Int))))))
def sf181 (N:Nat) (a0p0 a0p1 a0p2 a0p3 a0p4:Int) (a0p5:(Nat → Int)) (a1 a2 a3:Int):Option Bool :=
 (ck (0 ≤ a2 ∧ a2 < 13) ((ck (0 ≤ a1 ∧ a1 < 13) ((ck (rng (a3+(a0p5 (((Int.toNat a2) * 13)+(Int.toNat a1))))) (some (decide ((0:Int) ≤ (a3+(a0p5 (((Int.toNat a2) * 13)+(Int.toNat a1))))))))))))
def sf153_L1 (a0_0 a0_2 a0_3:Int) (x69:(Int × (Nat → Int))) (x146:(Int × (Nat → Int))):Option ((Int × (Nat → Int)) ⊕ (Nat → Int)) :=
 (bif (decide (x146.1 ≤ a0_0)) then (ck (rng (x146.1 - x69.1)) ((ck (rng ((x146.1 - x69.1) * a0_3)) ((ck (0 ≤ x69.1 ∧ x69.1 < 13) ((ck (0 ≤ x146.1 ∧ x146.1 < 13) ((ck (rng (x69.1 - x146.1)) ((ck (rng ((x69.1 - x146.1) * a0_2)) ((ck (0 ≤ x146.1 ∧ x146.1 < 13) ((ck (0 ≤ x69.1 ∧ x69.1 < 13) ((ck (rng (x146.1+(1:Int))) (some (.inl ((x146.1+(1:Int)),(ups (ups x146.2 (((Int.toNat x69.1) * 13)+(Int.toNat x146.1)) ((x146.1 - x69.1) * a0_3)) (((Int.toNat x146.1) * 13)+(Int.toNat x69.1)) ((x69.1 - x146.1) * a0_2)))))))))))))))))))))) else some (.inr x146.2))
def sf153_L2 (N:Nat) (a0_0 a0_2 a0_3:Int) (x69:(Int × (Nat → Int))):Option ((Int × (Nat → Int)) ⊕ (Nat → Int)) :=
 (bif (decide (x69.1 ≤ a0_0)) then bnd (iter (sf153_L1 a0_0 a0_2 a0_3 x69) N (x69.1,x69.2)) (fun y163=>(ck (rng (x69.1+(1:Int))) (some (.inl ((x69.1+(1:Int)),y163))))) else some (.inr x69.2))
def sf153_L3 (a0_0 a0_1:Int) (x259:(Int × (Nat → Int))) (x347:(Int × (Nat → Int))):Option ((Int × (Nat → Int)) ⊕ (Nat → Int)) :=
 (bif (decide (x347.1 < (a0_0+(1:Int)))) then (ck (0 ≤ (0:Int) ∧ (0:Int) < 13) ((ck (0 ≤ x347.1 ∧ x347.1 < 13) ((ck (rng (((x259.2 (((Int.toNat x259.1) * 13)+(Int.toNat a0_0)))+(-a0_1))+(x347.2 (((Int.toNat (0:Int)) * 13)+(Int.toNat x347.1))))) ((ck (0 ≤ x259.1 ∧ x259.1 < 13) ((ck (0 ≤ x347.1 ∧ x347.1 < 13) ((bif (decide ((((x259.2 (((Int.toNat x259.1) * 13)+(Int.toNat a0_0)))+(-a0_1))+(x347.2 (((Int.toNat (0:Int)) * 13)+(Int.toNat x347.1)))) < (x347.2 (((Int.toNat x259.1) * 13)+(Int.toNat x347.1))))) then (ck (0 ≤ x259.1 ∧ x259.1 < 13) ((ck (0 ≤ x347.1 ∧ x347.1 < 13) ((ck (rng (x347.1+(1:Int))) (some (.inl ((x347.1+(1:Int)),(ups x347.2 (((Int.toNat x259.1) * 13)+(Int.toNat x347.1)) (((x259.2 (((Int.toNat x259.1) * 13)+(Int.toNat a0_0)))+(-a0_1))+(x347.2 (((Int.toNat (0:Int)) * 13)+(Int.toNat x347.1))))))))))))) else (ck (rng (x347.1+(1:Int))) (some (.inl ((x347.1+(1:Int)),x347.2))))))))))))))) else some (.inr x347.2))
def sf153_L4 (N:Nat) (a0_0 a0_1:Int) (x259:(Int × (Nat → Int))):Option ((Int × (Nat → Int)) ⊕ (Nat → Int)) :=
 (bif (decide (x259.1 < (a0_0+(1:Int)))) then (ck (0 ≤ x259.1 ∧ x259.1 < 13) ((ck (0 ≤ a0_0 ∧ a0_0 < 13) ((ck (rng ((x259.2 (((Int.toNat x259.1) * 13)+(Int.toNat a0_0)))+(-a0_1))) ((ck (0 ≤ x259.1 ∧ x259.1 < 13) ((ck (0 ≤ (0:Int) ∧ (0:Int) < 13) ((bif (decide ((x259.2 (((Int.toNat x259.1) * 13)+(Int.toNat (0:Int)))) ≤ ((x259.2 (((Int.toNat x259.1) * 13)+(Int.toNat a0_0)))+(-a0_1)))) then (ck (rng (x259.1+(1:Int))) (some (.inl ((x259.1+(1:Int)),x259.2)))) else bnd (iter (sf153_L3 a0_0 a0_1 x259) N ((0:Int),x259.2)) (fun y363=>(ck (rng (x259.1+(1:Int))) (some (.inl ((x259.1+(1:Int)),y363)))))))))))))))) else some (.inr x259.2))
def sf153_L5 (a0_0 a0_1:Int) (x448:(Int × (Nat → Int))) (x536:(Int × (Nat → Int))):Option ((Int × (Nat → Int)) ⊕ (Nat → Int)) :=
 (bif (decide (x536.1 < (a0_0+(1:Int)))) then (ck (0 ≤ a0_0 ∧ a0_0 < 13) ((ck (0 ≤ x536.1 ∧ x536.1 < 13) ((ck (rng (((x448.2 (((Int.toNat x448.1) * 13)+(Int.toNat (0:Int))))+a0_1)+(x536.2 (((Int.toNat a0_0) * 13)+(Int.toNat x536.1))))) ((ck (0 ≤ x448.1 ∧ x448.1 < 13) ((ck (0 ≤ x536.1 ∧ x536.1 < 13) ((bif (decide ((((x448.2 (((Int.toNat x448.1) * 13)+(Int.toNat (0:Int))))+a0_1)+(x536.2 (((Int.toNat a0_0) * 13)+(Int.toNat x536.1)))) < (x536.2 (((Int.toNat x448.1) * 13)+(Int.toNat x536.1))))) then (ck (0 ≤ x448.1 ∧ x448.1 < 13) ((ck (0 ≤ x536.1 ∧ x536.1 < 13) ((ck (rng (x536.1+(1:Int))) (some (.inl ((x536.1+(1:Int)),(ups x536.2 (((Int.toNat x448.1) * 13)+(Int.toNat x536.1)) (((x448.2 (((Int.toNat x448.1) * 13)+(Int.toNat (0:Int))))+a0_1)+(x536.2 (((Int.toNat a0_0) * 13)+(Int.toNat x536.1))))))))))))) else (ck (rng (x536.1+(1:Int))) (some (.inl ((x536.1+(1:Int)),x536.2))))))))))))))) else some (.inr x536.2))
def sf153_L6 (N:Nat) (a0_0 a0_1:Int) (x448:(Int × (Nat → Int))):Option ((Int × (Nat → Int)) ⊕ (Nat → Int)) :=
 (bif (decide (x448.1 < (a0_0+(1:Int)))) then (ck (0 ≤ x448.1 ∧ x448.1 < 13) ((ck (0 ≤ (0:Int) ∧ (0:Int) < 13) ((ck (rng ((x448.2 (((Int.toNat x448.1) * 13)+(Int.toNat (0:Int))))+a0_1)) ((ck (0 ≤ x448.1 ∧ x448.1 < 13) ((ck (0 ≤ a0_0 ∧ a0_0 < 13) ((bif (decide ((x448.2 (((Int.toNat x448.1) * 13)+(Int.toNat a0_0))) ≤ ((x448.2 (((Int.toNat x448.1) * 13)+(Int.toNat (0:Int))))+a0_1))) then (ck (rng (x448.1+(1:Int))) (some (.inl ((x448.1+(1:Int)),x448.2)))) else bnd (iter (sf153_L5 a0_0 a0_1 x448) N ((0:Int),x448.2)) (fun y552=>(ck (rng (x448.1+(1:Int))) (some (.inl ((x448.1+(1:Int)),y552)))))))))))))))) else some (.inr x448.2))
def sf153_L7 (a0_0 a0_1:Int) (x647:(Int × (Nat → Int))) (x740:(Int × (Nat → Int))):Option ((Int × (Nat → Int)) ⊕ (Nat → Int)) :=
 (bif (decide (x740.1 < (a0_0+(1:Int)))) then (ck (0 ≤ (0:Int) ∧ (0:Int) < 13) ((ck (0 ≤ x740.1 ∧ x740.1 < 13) ((ck (rng (((x647.2 (((Int.toNat x647.1) * 13)+(Int.toNat a0_0)))+(-a0_1))+(x740.2 (((Int.toNat (0:Int)) * 13)+(Int.toNat x740.1))))) ((ck (0 ≤ x647.1 ∧ x647.1 < 13) ((ck (0 ≤ x740.1 ∧ x740.1 < 13) ((bif (decide ((((x647.2 (((Int.toNat x647.1) * 13)+(Int.toNat a0_0)))+(-a0_1))+(x740.2 (((Int.toNat (0:Int)) * 13)+(Int.toNat x740.1)))) < (x740.2 (((Int.toNat x647.1) * 13)+(Int.toNat x740.1))))) then (ck (0 ≤ x647.1 ∧ x647.1 < 13) ((ck (0 ≤ x740.1 ∧ x740.1 < 13) ((ck (rng (x740.1+(1:Int))) (some (.inl ((x740.1+(1:Int)),(ups x740.2 (((Int.toNat x647.1) * 13)+(Int.toNat x740.1)) (((x647.2 (((Int.toNat x647.1) * 13)+(Int.toNat a0_0)))+(-a0_1))+(x740.2 (((Int.toNat (0:Int)) * 13)+(Int.toNat x740.1))))))))))))) else (ck (rng (x740.1+(1:Int))) (some (.inl ((x740.1+(1:Int)),x740.2))))))))))))))) else some (.inr x740.2))
def sf153_L8 (N:Nat) (a0_0 a0_1:Int) (x647:(Int × (Nat → Int))):Option ((Int × (Nat → Int)) ⊕ (Nat → Int)) :=
 (bif (decide (x647.1 < (a0_0+(1:Int)))) then (ck (0 ≤ x647.1 ∧ x647.1 < 13) ((ck (0 ≤ a0_0 ∧ a0_0 < 13) ((ck (rng ((x647.2 (((Int.toNat x647.1) * 13)+(Int.toNat a0_0)))+(-a0_1))) ((ck (0 ≤ x647.1 ∧ x647.1 < 13) ((ck (0 ≤ (0:Int) ∧ (0:Int) < 13) ((bif (decide ((x647.2 (((Int.toNat x647.1) * 13)+(Int.toNat (0:Int)))) ≤ ((x647.2 (((Int.toNat x647.1) * 13)+(Int.toNat a0_0)))+(-a0_1)))) then (ck (rng (x647.1+(1:Int))) (some (.inl ((x647.1+(1:Int)),x647.2)))) else bnd (iter (sf153_L7 a0_0 a0_1 x647) N ((0:Int),x647.2)) (fun y757=>(ck (rng (x647.1+(1:Int))) (some (.inl ((x647.1+(1:Int)),y757)))))))))))))))) else some (.inr x647.2))
def sf153 (N:Nat) (a0_0 a0_1 a0_2 a0_3:Int):Option (Int × Int × Int × Int × Int × (Nat → Int)) :=
 (ck (rng (a0_0+(1:Int))) (bnd (iter (sf153_L2 N a0_0 a0_2 a0_3) N ((0:Int),(fun _=>0))) (fun y126=>(bnd (sf181 N a0_0 a0_1 a0_2 a0_3 (a0_0+(1:Int)) y126 (0:Int) a0_0 a0_1) fun v186=>(bif (!v186) then (ck (rng (-a0_1)) ((bnd (sf181 N a0_0 a0_1 a0_2 a0_3 (a0_0+(1:Int)) y126 a0_0 (0:Int) (-a0_1)) fun v192=>(bif (!v192) then some (a0_0,a0_1,a0_2,a0_3,(a0_0+(1:Int)),y126) else bnd (iter (sf153_L4 N a0_0 a0_1) N ((0:Int),y126)) (fun y321=>some (a0_0,a0_1,a0_2,a0_3,(a0_0+(1:Int)),y321)))))) else bnd (iter (sf153_L6 N a0_0 a0_1) N ((0:Int),y126)) (fun y510=>(ck (rng (-a0_1)) ((bnd (sf181 N a0_0 a0_1 a0_2 a0_3 (a0_0+(1:Int)) y510 a0_0 (0:Int) (-a0_1)) fun v576=>(bif (!v576) then some (a0_0,a0_1,a0_2,a0_3,(a0_0+(1:Int)),y510) else bnd (iter (sf153_L8 N a0_0 a0_1) N ((0:Int),y510)) (fun y713=>some (a0_0,a0_1,a0_2,a0_3,(a0_0+(1:Int)),y713))))))))))))
def sf154_L1 (a0_4 a1_0 a1_1 a1_3:Int) (x75:(Int × (Nat → Int))) (x158:(Int × (Nat → Int))):Option ((Int × (Nat → Int)) ⊕ (Nat → Int)) :=
 (bif (decide (x158.1 < a0_4)) then (ck (0 ≤ a1_1 ∧ a1_1 < 13) ((ck (0 ≤ x158.1 ∧ x158.1 < 13) ((ck (rng (((x75.2 (((Int.toNat x75.1) * 13)+(Int.toNat a1_0)))+a1_3)+(x158.2 (((Int.toNat a1_1) * 13)+(Int.toNat x158.1))))) ((ck (0 ≤ x75.1 ∧ x75.1 < 13) ((ck (0 ≤ x158.1 ∧ x158.1 < 13) ((bif (decide ((((x75.2 (((Int.toNat x75.1) * 13)+(Int.toNat a1_0)))+a1_3)+(x158.2 (((Int.toNat a1_1) * 13)+(Int.toNat x158.1)))) < (x158.2 (((Int.toNat x75.1) * 13)+(Int.toNat x158.1))))) then (ck (0 ≤ x75.1 ∧ x75.1 < 13) ((ck (0 ≤ x158.1 ∧ x158.1 < 13) ((ck (rng (x158.1+(1:Int))) (some (.inl ((x158.1+(1:Int)),(ups x158.2 (((Int.toNat x75.1) * 13)+(Int.toNat x158.1)) (((x75.2 (((Int.toNat x75.1) * 13)+(Int.toNat a1_0)))+a1_3)+(x158.2 (((Int.toNat a1_1) * 13)+(Int.toNat x158.1))))))))))))) else (ck (rng (x158.1+(1:Int))) (some (.inl ((x158.1+(1:Int)),x158.2))))))))))))))) else some (.inr x158.2))
def sf154_L2 (N:Nat) (a0_4 a1_0 a1_1 a1_3:Int) (x75:(Int × (Nat → Int))):Option ((Int × (Nat → Int)) ⊕ (Nat → Int)) :=
 (bif (decide (x75.1 < a0_4)) then (ck (0 ≤ x75.1 ∧ x75.1 < 13) ((ck (0 ≤ a1_0 ∧ a1_0 < 13) ((ck (rng ((x75.2 (((Int.toNat x75.1) * 13)+(Int.toNat a1_0)))+a1_3)) ((ck (0 ≤ x75.1 ∧ x75.1 < 13) ((ck (0 ≤ a1_1 ∧ a1_1 < 13) ((bif (decide ((x75.2 (((Int.toNat x75.1) * 13)+(Int.toNat a1_1))) ≤ ((x75.2 (((Int.toNat x75.1) * 13)+(Int.toNat a1_0)))+a1_3))) then (ck (rng (x75.1+(1:Int))) (some (.inl ((x75.1+(1:Int)),x75.2)))) else bnd (iter (sf154_L1 a0_4 a1_0 a1_1 a1_3 x75) N ((0:Int),x75.2)) (fun y173=>(ck (rng (x75.1+(1:Int))) (some (.inl ((x75.1+(1:Int)),y173)))))))))))))))) else some (.inr x75.2))
def sf154_L3 (a0_4 a1_0 a1_1 a1_2:Int) (x466:(Int × (Nat → Int))) (x554:(Int × (Nat → Int))):Option ((Int × (Nat → Int)) ⊕ (Nat → Int)) :=
 (bif (decide (x554.1 < a0_4)) then (ck (0 ≤ a1_0 ∧ a1_0 < 13) ((ck (0 ≤ x554.1 ∧ x554.1 < 13) ((ck (rng (((x466.2 (((Int.toNat x466.1) * 13)+(Int.toNat (a1_1+(1:Int)))))+((-a1_2) - (1:Int)))+(x554.2 (((Int.toNat a1_0) * 13)+(Int.toNat x554.1))))) ((ck (0 ≤ x466.1 ∧ x466.1 < 13) ((ck (0 ≤ x554.1 ∧ x554.1 < 13) ((bif (decide ((((x466.2 (((Int.toNat x466.1) * 13)+(Int.toNat (a1_1+(1:Int)))))+((-a1_2) - (1:Int)))+(x554.2 (((Int.toNat a1_0) * 13)+(Int.toNat x554.1)))) < (x554.2 (((Int.toNat x466.1) * 13)+(Int.toNat x554.1))))) then (ck (0 ≤ x466.1 ∧ x466.1 < 13) ((ck (0 ≤ x554.1 ∧ x554.1 < 13) ((ck (rng (x554.1+(1:Int))) (some (.inl ((x554.1+(1:Int)),(ups x554.2 (((Int.toNat x466.1) * 13)+(Int.toNat x554.1)) (((x466.2 (((Int.toNat x466.1) * 13)+(Int.toNat (a1_1+(1:Int)))))+((-a1_2) - (1:Int)))+(x554.2 (((Int.toNat a1_0) * 13)+(Int.toNat x554.1))))))))))))) else (ck (rng (x554.1+(1:Int))) (some (.inl ((x554.1+(1:Int)),x554.2))))))))))))))) else some (.inr x554.2))
def sf154_L4 (N:Nat) (a0_4 a1_0 a1_1 a1_2:Int) (x466:(Int × (Nat → Int))):Option ((Int × (Nat → Int)) ⊕ (Nat → Int)) :=
 (bif (decide (x466.1 < a0_4)) then (ck (0 ≤ x466.1 ∧ x466.1 < 13) ((ck (0 ≤ (a1_1+(1:Int)) ∧ (a1_1+(1:Int)) < 13) ((ck (rng ((x466.2 (((Int.toNat x466.1) * 13)+(Int.toNat (a1_1+(1:Int)))))+((-a1_2) - (1:Int)))) ((ck (0 ≤ x466.1 ∧ x466.1 < 13) ((ck (0 ≤ a1_0 ∧ a1_0 < 13) ((bif (decide ((x466.2 (((Int.toNat x466.1) * 13)+(Int.toNat a1_0))) ≤ ((x466.2 (((Int.toNat x466.1) * 13)+(Int.toNat (a1_1+(1:Int)))))+((-a1_2) - (1:Int))))) then (ck (rng (x466.1+(1:Int))) (some (.inl ((x466.1+(1:Int)),x466.2)))) else bnd (iter (sf154_L3 a0_4 a1_0 a1_1 a1_2 x466) N ((0:Int),x466.2)) (fun y570=>(ck (rng (x466.1+(1:Int))) (some (.inl ((x466.1+(1:Int)),y570)))))))))))))))) else some (.inr x466.2))
def sf154 (N:Nat) (a0_0 a0_1 a0_2 a0_3 a0_4:Int) (a0_5:(Nat → Int)) (a1_0 a1_1 a1_2 a1_3:Int):Option (Int × Int × Int × Int × Int × (Nat → Int) × Bool) :=
 (bnd (sf181 N a0_0 a0_1 a0_2 a0_3 a0_4 a0_5 a1_0 a1_1 a1_3) fun v11=>(bif (!v11) then some ((0:Int),(0:Int),(0:Int),(0:Int),(0:Int),(fun _=>0),false) else bnd (iter (sf154_L2 N a0_4 a1_0 a1_1 a1_3) N ((0:Int),a0_5)) (fun y133=>bnd ((bif (decide (a1_1 < a0_0)) then (ck (rng (a1_1+(1:Int))) ((ck (rng (-a1_2)) ((ck (rng ((-a1_2) - (1:Int))) ((bnd (sf181 N a0_0 a0_1 a0_2 a0_3 a0_4 y133 (a1_1+(1:Int)) a1_0 ((-a1_2) - (1:Int))) fun v400=>(bif (!v400) then some ((!false),y133) else bnd (iter (sf154_L4 N a0_4 a1_0 a1_1 a1_2) N ((0:Int),y133)) (fun y528=>some ((!true),y528)))))))))) else some (false,y133)):Option ((Bool × (Nat → Int)))) (fun y391=>(bif y391.1 then some ((0:Int),(0:Int),(0:Int),(0:Int),(0:Int),(fun _=>0),false) else some (a0_0,a0_1,a0_2,a0_3,a0_4,y391.2,true))))))
def sf135_L1 (N:Nat) (a1:(List (Int × Int × Int × Int))) (x18:(Int × ((Int × Int × Int × Int) → Option Bool) × Int × Int × Int × Int × Int × (Nat → Int) × Int × Int × Int × Int × Int × (Nat → Int))):Option ((Int × ((Int × Int × Int × Int) → Option Bool) × Int × Int × Int × Int × Int × (Nat → Int) × Int × Int × Int × Int × Int × (Nat → Int)) ⊕ ((((Int × Int × Int × Int) → Option Bool) × Int × Int × Int × Int × Int × (Nat → Int) × Int × Int × Int × Int × Int × (Nat → Int)) ⊕ (((Int × Int × Int × Int) → Option Bool) × Int × Int × Int × Int × Int × (Nat → Int) × Int × Int × Int × Int × Int × (Nat → Int)))) :=
 (bif (decide (x18.1 < ((a1).length:Int))) then (ix a1 x18.1 fun x46=>(bif (Option.getD (x18.2.1 (x46.1,x46.2.1,x46.2.2.1,x46.2.2.2)) false) then (ck (rng (x18.1+(1:Int))) (some (.inl ((x18.1+(1:Int)),x18.2.1,x18.2.2.1,x18.2.2.2.1,x18.2.2.2.2.1,x18.2.2.2.2.2.1,x18.2.2.2.2.2.2.1,x18.2.2.2.2.2.2.2.1,x18.2.2.2.2.2.2.2.2.1,x18.2.2.2.2.2.2.2.2.2.1,x18.2.2.2.2.2.2.2.2.2.2.1,x18.2.2.2.2.2.2.2.2.2.2.2.1,x18.2.2.2.2.2.2.2.2.2.2.2.2.1,x18.2.2.2.2.2.2.2.2.2.2.2.2.2)))) else (bnd (sf154 N x18.2.2.1 x18.2.2.2.1 x18.2.2.2.2.1 x18.2.2.2.2.2.1 x18.2.2.2.2.2.2.1 x18.2.2.2.2.2.2.2.1 x46.1 x46.2.1 x46.2.2.1 x46.2.2.2) fun v55=>(bif (!v55.2.2.2.2.2.2) then some (.inr (.inl ((upm x18.2.1 (x46.1,x46.2.1,x46.2.2.1,x46.2.2.2) true),v55.1,v55.2.1,v55.2.2.1,v55.2.2.2.1,v55.2.2.2.2.1,v55.2.2.2.2.2.1,(0:Int),(0:Int),(0:Int),(0:Int),(0:Int),(fun _=>0)))) else (ck (rng (x18.1+(1:Int))) (some (.inl ((x18.1+(1:Int)),(upm x18.2.1 (x46.1,x46.2.1,x46.2.2.1,x46.2.2.2) true),v55.1,v55.2.1,v55.2.2.1,v55.2.2.2.1,v55.2.2.2.2.1,v55.2.2.2.2.2.1,x18.2.2.2.2.2.2.2.2.1,x18.2.2.2.2.2.2.2.2.2.1,x18.2.2.2.2.2.2.2.2.2.2.1,x18.2.2.2.2.2.2.2.2.2.2.2.1,x18.2.2.2.2.2.2.2.2.2.2.2.2.1,x18.2.2.2.2.2.2.2.2.2.2.2.2.2)))))))) else some (.inr (.inr (x18.2.1,x18.2.2.1,x18.2.2.2.1,x18.2.2.2.2.1,x18.2.2.2.2.2.1,x18.2.2.2.2.2.2.1,x18.2.2.2.2.2.2.2.1,x18.2.2.2.2.2.2.2.2.1,x18.2.2.2.2.2.2.2.2.2.1,x18.2.2.2.2.2.2.2.2.2.2.1,x18.2.2.2.2.2.2.2.2.2.2.2.1,x18.2.2.2.2.2.2.2.2.2.2.2.2.1,x18.2.2.2.2.2.2.2.2.2.2.2.2.2))))
def sf135 (N:Nat) (a0_0 a0_1 a0_2 a0_3:Int) (a1:(List (Int × Int × Int × Int))):Option (Int × Int × Int × Int × Int × (Nat → Int) × Bool) :=
 (bnd (sf153 N a0_0 a0_1 a0_2 a0_3) fun v7=>bnd (iter (sf135_L1 N a1) N ((0:Int),((fun _=>none):((Int × Int × Int × Int) → Option Bool)),v7.1,v7.2.1,v7.2.2.1,v7.2.2.2.1,v7.2.2.2.2.1,v7.2.2.2.2.2,(0:Int),(0:Int),(0:Int),(0:Int),(0:Int),(fun _=>0))) (sel (fun w39=>some (w39.2.2.2.2.2.2.2.1,w39.2.2.2.2.2.2.2.2.1,w39.2.2.2.2.2.2.2.2.2.1,w39.2.2.2.2.2.2.2.2.2.2.1,w39.2.2.2.2.2.2.2.2.2.2.2.1,w39.2.2.2.2.2.2.2.2.2.2.2.2,false)) (fun w42=>some (w42.2.1,w42.2.2.1,w42.2.2.2.1,w42.2.2.2.2.1,w42.2.2.2.2.2.1,w42.2.2.2.2.2.2.1,true))))
def sf94 (N:Nat) (a0_0 a0_1 a0_2 a0_3:Int) (a1:(List (Int × Int × Int × Int))) (a2:Bool):Option (Int × Int × Int × Int × Int × (Nat → Int) × Int) :=
 (bnd (sf134 N a0_0 a0_1 a0_2 a0_3 a1) fun v7=>(bif (!(decide (v7 = (0:Int)))) then some ((0:Int),(0:Int),(0:Int),(0:Int),(0:Int),(fun _=>0),v7) else (bif (!a2) then some ((0:Int),(0:Int),(0:Int),(0:Int),(0:Int),(fun _=>0),(2:Int)) else (bnd (sf135 N a0_0 a0_1 a0_2 a0_3 a1) fun v14=>(bif (!v14.2.2.2.2.2.2) then some ((0:Int),(0:Int),(0:Int),(0:Int),(0:Int),(fun _=>0),(9:Int)) else some (v14.1,v14.2.1,v14.2.2.1,v14.2.2.2.1,v14.2.2.2.2.1,v14.2.2.2.2.2.1,(0:Int)))))))
def sf96 (N:Nat):Option Unit :=
 some ()
def sf136 (N:Nat) (a0p0 a0p1 a0p2 a0p3 a0p4:Int) (a0p5:(Nat → Int)) (a1:Int):Option Int :=
 (ck (0 ≤ a1 ∧ a1 < 13) ((ck (0 ≤ (0:Int) ∧ (0:Int) < 13) ((ck (rng (-(a0p5 (((Int.toNat a1) * 13)+(Int.toNat (0:Int)))))) (some (-(a0p5 (((Int.toNat a1) * 13)+(Int.toNat (0:Int)))))))))))
def sf137 (N:Nat) (a0p0 a0p1 a0p2 a0p3 a0p4:Int) (a0p5:(Nat → Int)) (a1:Int):Option Int :=
 (ck (0 ≤ (0:Int) ∧ (0:Int) < 13) ((ck (0 ≤ a1 ∧ a1 < 13) (some (a0p5 (((Int.toNat (0:Int)) * 13)+(Int.toNat a1)))))))
def sf108_L1 (N:Nat) (a0_0 a0_1 a0_2 a0_3 a0_4:Int) (a0_5:(Nat → Int)) (x29:((List (Int × Int)) × Int)):Option (((List (Int × Int)) × Int) ⊕ (List (Int × Int))) :=
 (bif (decide (x29.2 ≤ a0_0)) then (bnd (sf136 N a0_0 a0_1 a0_2 a0_3 a0_4 a0_5 x29.2) fun v49=>(bnd (sf137 N a0_0 a0_1 a0_2 a0_3 a0_4 a0_5 x29.2) fun v53=>(ck ((x29.1.length+1) * 16 ≤ 35184372088832 ∧ x29.1.length+1 ≤ 35184372088832) ((ck (rng (x29.2+(1:Int))) (some (.inl ((x29.1 ++ [(v49,v53)]),(x29.2+(1:Int)))))))))) else some (.inr x29.1))
def sf108 (N:Nat) (a0_0 a0_1 a0_2 a0_3 a0_4:Int) (a0_5:(Nat → Int)):Option (List (Int × Int)) :=
 (bnd (sf96 N ) fun v4=>(ck (rng (a0_0+(1:Int))) ((ck (0 ≤ (0:Int) ∧ 0 ≤ (a0_0+(1:Int)) ∧ Int.toNat (0:Int) ≤ Int.toNat (a0_0+(1:Int)) ∧ (Int.toNat (a0_0+(1:Int)) * 16 ≤ 35184372088832 ∧ Int.toNat (a0_0+(1:Int)) ≤ 35184372088832)) (bnd (iter (sf108_L1 N a0_0 a0_1 a0_2 a0_3 a0_4 a0_5) N ((List.replicate (Int.toNat (0:Int)) (0,0)),(0:Int))) (fun y45=>some y45))))))
def sf70 (N:Nat) (a0_0 a0_1 a0_2 a0_3:Int) (a1:(List (Int × Int × Int × Int))):Option ((List (Int × Int)) × Int) :=
 (bnd (sf94 N a0_0 a0_1 a0_2 a0_3 a1 true) fun v4=>(bif (!(decide (v4.2.2.2.2.2.2 = (0:Int)))) then some ([],v4.2.2.2.2.2.2) else (bnd (sf108 N v4.1 v4.2.1 v4.2.2.1 v4.2.2.2.1 v4.2.2.2.2.1 v4.2.2.2.2.2.1) fun v12=>some (v12,(0:Int)))))
def sf144 (N:Nat) (a0_0 a0_1 a1:Int):Option Bool :=
 (bif (decide (a0_0 ≤ a1)) then some (decide (a1 ≤ a0_1)) else some false)
def sf156 (N:Nat) (a0_0 a0_1:Int):Option Bool :=
 (bnd (sf144 N (1:Int) (2000:Int) a0_0) fun v12=>(bif v12 then (bnd (sf144 N (1:Int) (2000:Int) a0_1) fun v16=>some v16) else some false))
def sf155_L1 (N:Nat) (a0:(List (Int × Int))) (x1:Int):Option (Int ⊕ (Unit ⊕ Unit)) :=
 (bif (decide (x1 < ((a0).length:Int))) then (ix a0 x1 fun x20=>(bnd (sf156 N x20.1 x20.2) fun v25=>(bif (!v25) then some (.inr (.inl ())) else (ck (rng (x1+(1:Int))) (some (.inl (x1+(1:Int)))))))) else some (.inr (.inr ())))
def sf155 (N:Nat) (a0:(List (Int × Int))):Option Bool :=
 bnd (iter (sf155_L1 N a0) N (0:Int)) (sel (fun w15=>some false) (fun w17=>some true))
def sf158 (N:Nat) (a0_0 a0_1 a1_0 a1_1:Int):Option Bool :=
 (bif (decide (a0_0 < a1_0)) then some (decide (a0_1 < a1_1)) else some false)
def sf157_L1 (N:Nat) (a0:(List (Int × Int))) (x1:Int):Option (Int ⊕ (Unit ⊕ Unit)) :=
 (bif (decide (x1 < ((a0).length:Int))) then (ck (rng (x1 - (1:Int))) ((ix a0 (x1 - (1:Int)) fun x20=>(ix a0 x1 fun x21=>(bnd (sf158 N x20.1 x20.2 x21.1 x21.2) fun v23=>(bif (!v23) then some (.inr (.inl ())) else (ck (rng (x1+(1:Int))) (some (.inl (x1+(1:Int))))))))))) else some (.inr (.inr ())))
def sf157 (N:Nat) (a0:(List (Int × Int))):Option Bool :=
 bnd (iter (sf157_L1 N a0) N (1:Int)) (sel (fun w14=>some false) (fun w16=>some true))
def sf138 (N:Nat) (a0:(List (Int × Int))):Option Int :=
 (bif (decide ((8:Int) < ((a0).length:Int))) then some (3:Int) else bnd ((bif (decide (((a0).length:Int) < (2:Int))) then some true else (bnd (sf155 N a0) fun v15=>(bif (!v15) then some true else (bnd (sf157 N a0) fun v19=>some (!v19))))):Option (Bool)) (fun y10=>(bif y10 then some (1:Int) else some (0:Int))))
def sf140 (N:Nat) (a0:(List (Int × Int))):Option (Int × Int) :=
 (ix a0 (0:Int) fun x4=>(ck (rng (((a0).length:Int) - (1:Int))) ((ix a0 (((a0).length:Int) - (1:Int)) fun x6=>some (x4.1,x6.1)))))
def sf139 (N:Nat) (a0_0 a0_1 a1_0 a1_1:Int):Option Bool :=
 (bif (decide (a0_0 ≤ a0_1)) then (bnd (sf144 N a1_0 a1_1 a0_0) fun v8=>(bif v8 then (bnd (sf144 N a1_0 a1_1 a0_1) fun v12=>some v12) else some false)) else some false)
def sf160 (N:Nat) (a0_0 a0_1:Int):Option Int :=
 (ck (a0_1 ≠ 0 ∧ rng (Int.tdiv a0_0 a0_1)) ((ck (a0_1 ≠ 0) ((bif (decide ((Int.tmod a0_0 a0_1) < (0:Int))) then (ck (rng ((Int.tdiv a0_0 a0_1) - (1:Int))) (some ((Int.tdiv a0_0 a0_1) - (1:Int)))) else some (Int.tdiv a0_0 a0_1))))))
def sf141_L1 (N:Nat) (a0:(List (Int × Int))) (a1:Int) (x16:(Int × Int)):Option ((Int × Int) ⊕ Int) :=
 (bif (decide (x16.1 < ((a0).length:Int))) then (ck (rng (x16.1 - (1:Int))) ((ck (rng (x16.1+(1:Int))) ((ck (0 ≤ (x16.1 - (1:Int)) ∧ 0 ≤ (x16.1+(1:Int)) ∧ ((Int.toNat (x16.1 - (1:Int))) ≤ (Int.toNat (x16.1+(1:Int))) ∧ (Int.toNat (x16.1+(1:Int))) ≤ a0.length)) ((bnd (sf140 N ((a0.drop (Int.toNat (x16.1 - (1:Int)))).take ((Int.toNat (x16.1+(1:Int))) - (Int.toNat (x16.1 - (1:Int)))))) fun v71=>(bnd (sf144 N v71.1 v71.2 a1) fun v78=>(bif v78 then (ck (rng (x16.1 - (1:Int))) ((ix a0 (x16.1 - (1:Int)) fun x83=>(ix a0 x16.1 fun x84=>(ck (rng (x84.2 - x83.2)) ((ck (rng (a1 - x83.1)) ((ck (rng ((x84.2 - x83.2) * (a1 - x83.1))) ((ck (rng (x84.1 - x83.1)) ((bnd (sf160 N ((x84.2 - x83.2) * (a1 - x83.1)) (x84.1 - x83.1)) fun v102=>(ck (rng (x83.2+v102)) ((ck (rng (x16.1+(1:Int))) (some (.inl ((x16.1+(1:Int)),(x83.2+v102)))))))))))))))))))) else (ck (rng (x16.1+(1:Int))) (some (.inl ((x16.1+(1:Int)),x16.2))))))))))))) else some (.inr x16.2))
def sf141 (N:Nat) (a0:(List (Int × Int))) (a1:Int):Option Int :=
 bnd (iter (sf141_L1 N a0 a1) N ((1:Int),(0:Int))) (fun y64=>some y64)
def sf101 (N:Nat) (a0:(List (Int × Int))) (a1_0 a1_1:Int):Option (Int × Int × Int) :=
 (bnd (sf138 N a0) fun v7=>(bif (!(decide (v7 = (0:Int)))) then some ((0:Int),(0:Int),v7) else (bnd (sf140 N a0) fun v12=>(bnd (sf139 N a1_0 a1_1 v12.1 v12.2) fun v16=>(bif (!v16) then some ((0:Int),(0:Int),(2:Int)) else (bnd (sf141 N a0 a1_0) fun v21=>(bnd (sf141 N a0 a1_1) fun v25=>some (v21,v25,(0:Int)))))))))
def sf103 (N:Nat) (a0:Int):Option (Int × Int) :=
 some ((0:Int),a0)
def sf110 (N:Nat) (a0_0 a0_1 a1:Int):Option Bool :=
 (bif (decide (a0_0 ≤ a1)) then some (decide (a1 ≤ a0_1)) else some false)
def sf102 (N:Nat) (a0_0 a0_1 a1_0 a1_1:Int):Option Bool :=
 (bif (decide (a0_0 ≤ a0_1)) then (bnd (sf110 N a1_0 a1_1 a0_0) fun v8=>(bif v8 then (bnd (sf110 N a1_0 a1_1 a0_1) fun v12=>some v12) else some false)) else some false)
def sf161 (N:Nat):Option Unit :=
 some ()
def sf107 (N:Nat) (a0_0 a0_1:Int):Option Int :=
 (ck (a0_1 ≠ 0 ∧ rng (Int.tdiv a0_0 a0_1)) (some (Int.tdiv a0_0 a0_1)))
def sf172 (N:Nat) (a0_0 a0_1:Int):Option Int :=
 (ck (rng (a0_0+a0_1)) ((ck (rng ((a0_0+a0_1) - (1:Int))) ((ck (a0_1 ≠ 0 ∧ rng (Int.tdiv ((a0_0+a0_1) - (1:Int)) a0_1)) (some (Int.tdiv ((a0_0+a0_1) - (1:Int)) a0_1)))))))
def sf142 (N:Nat) (a0_0 a0_1 a1_0 a1_1:Int):Option (Int × Int) :=
 (bnd (sf161 N ) fun v10=>(bnd (sf107 N a0_0 a0_1) fun v17=>(bnd (sf172 N a1_0 a1_1) fun v21=>some (v17,v21))))
def sf104_L1 (N:Nat) (a0:(List (Int × Int))) (a1_0 a1_1 a2:Int) (x10:(Int × (Nat → Int))):Option ((Int × (Nat → Int)) ⊕ (Nat → Int)) :=
 (bif (decide (x10.1 < ((a0).length:Int))) then (ix a0 x10.1 fun x29=>(ck (rng (x29.1 * a1_0)) ((ck (rng (x29.2 * a1_1)) ((bnd (sf142 N (x29.1 * a1_0) a2 (x29.2 * a1_1) a2) fun v36=>(ck (0 ≤ x10.1 ∧ x10.1 < 11) ((ck (rng (x10.1+(1:Int))) (some (.inl ((x10.1+(1:Int)),(ups (ups x10.2 ((Int.toNat x10.1) * 2) v36.1) (((Int.toNat x10.1) * 2)+1) v36.2))))))))))))) else some (.inr x10.2))
def sf104 (N:Nat) (a0:(List (Int × Int))) (a1_0 a1_1 a2:Int):Option (Nat → Int) :=
 bnd (iter (sf104_L1 N a0 a1_0 a1_1 a2) N ((0:Int),(fun _=>0))) (fun y26=>some y26)
def sf65 (N:Nat) (a0_0 a0_1 a0_2 a0_3:Int) (a0_4:(List (Int × Int × Int × Int))) (a0_5:(List (Int × Int))) (a0_6 a0_7 a0_8 a0_9:Int):Option (Int × Int × Int × Int × (List (Int × Int × Int × Int)) × (List (Int × Int)) × Int × Int × Int × Int × (Nat → Int) × Int) :=
 bnd (bnd ((bif (decide ((12:Int) < ((a0_4).length:Int))) then some true else some (decide ((8:Int) < ((a0_5).length:Int)))):Option (Bool)) (fun y23=>(bif y23 then some (.inl (3:Int)) else some (.inr ()))):Option (Int ⊕ Unit)) (sel (fun w18=>some ((0:Int),(0:Int),(0:Int),(0:Int),[],[],(0:Int),(0:Int),(0:Int),(0:Int),(fun _=>0),w18)) (fun w20=>(bnd (sf70 N a0_0 a0_1 a0_2 a0_3 a0_4) fun v30=>(bnd (sf101 N a0_5 a0_6 a0_7) fun v35=>bnd (bnd ((bif (!(decide (v30.2 = (0:Int)))) then (bif (!(decide (v30.2 = (9:Int)))) then some true else (bif (!(decide (v35.2.2 = (0:Int)))) then some true else (bnd (sf103 N (100:Int)) fun v129=>(bnd (sf102 N a0_8 a0_9 v129.1 v129.2) fun v133=>some (!v133))))) else (bif (!(decide (v35.2.2 = (0:Int)))) then some true else (bnd (sf103 N (100:Int)) fun v138=>(bnd (sf102 N a0_8 a0_9 v138.1 v138.2) fun v142=>some (!v142))))):Option (Bool)) (fun y120=>(bif y120 then some (.inl (1:Int)) else some (.inr ()))):Option (Int ⊕ Unit)) (sel (fun w95=>some ((0:Int),(0:Int),(0:Int),(0:Int),[],[],(0:Int),(0:Int),(0:Int),(0:Int),(fun _=>0),w95)) (fun w97=>(bif (decide (v30.2 = (9:Int))) then some ((0:Int),(0:Int),(0:Int),(0:Int),[],[],(0:Int),(0:Int),(0:Int),(0:Int),(fun _=>0),(9:Int)) else (bnd (sf104 N v30.1 v35.1 v35.2.1 a0_1) fun v155=>some (a0_0,a0_1,a0_2,a0_3,a0_4,a0_5,a0_6,a0_7,a0_8,a0_9,v155,(0:Int))))))))))
def sf75 (N:Nat) (a0:Int):Option Bool :=
 (bnd (sf103 N (10000:Int)) fun v1=>(bnd (sf110 N v1.1 v1.2 a0) fun v4=>some v4))
def sf105 (N:Nat) (a0_0 a0_1 a0_2 a0_3:Int) (a0_4:(List (Int × Int × Int × Int))) (a0_5:(List (Int × Int))) (a0_6 a0_7 a0_8 a0_9 a1:Int):Option (Int × Int × Int × Int × (List (Int × Int × Int × Int)) × (List (Int × Int)) × Int × Int × Int × Int × (Nat → Int) × Int) :=
 (bnd (sf65 N a0_0 a0_1 a0_2 a0_3 a0_4 a0_5 a0_6 a0_7 a0_8 a0_9) fun v7=>(bif (!(decide (v7.2.2.2.2.2.2.2.2.2.2.2 = (0:Int)))) then some ((0:Int),(0:Int),(0:Int),(0:Int),[],[],(0:Int),(0:Int),(0:Int),(0:Int),(fun _=>0),v7.2.2.2.2.2.2.2.2.2.2.2) else (bnd (sf75 N a1) fun v18=>(bif (!v18) then some ((0:Int),(0:Int),(0:Int),(0:Int),[],[],(0:Int),(0:Int),(0:Int),(0:Int),(fun _=>0),(2:Int)) else some (v7.1,v7.2.1,v7.2.2.1,v7.2.2.2.1,v7.2.2.2.2.1,v7.2.2.2.2.2.1,v7.2.2.2.2.2.2.1,v7.2.2.2.2.2.2.2.1,v7.2.2.2.2.2.2.2.2.1,v7.2.2.2.2.2.2.2.2.2.1,v7.2.2.2.2.2.2.2.2.2.2.1,(0:Int))))))
def sf106 (N:Nat) (a0_0 a0_1 a0_2 a0_3:Int) (a0_4:(List (Int × Int × Int × Int))) (a0_5:(List (Int × Int))) (a0_6 a0_7 a0_8 a0_9:Int) (a0_10:(Nat → Int)) (a1:Int):Option (Int × Int) :=
 (ck (rng (a0_8 * a1)) ((ck (rng (a0_9 * a1)) ((bnd (sf142 N (a0_8 * a1) (100:Int) (a0_9 * a1) (100:Int)) fun v9=>some (v9.1,v9.2))))))
def sf68 (N:Nat) (a0_0 a0_1 a0_2 a0_3:Int) (a0_4:(List (Int × Int × Int × Int))) (a0_5:(List (Int × Int))) (a0_6 a0_7 a0_8 a0_9:Int) (a0_10:(Nat → Int)) (a1 a2:Int):Option (Int × Int) :=
 (bnd (sf106 N a0_0 a0_1 a0_2 a0_3 a0_4 a0_5 a0_6 a0_7 a0_8 a0_9 a0_10 a2) fun v7=>(ck (0 ≤ a1 ∧ a1 < 11) ((ck (rng ((a0_10 (((Int.toNat a1) * 2)+0)) - v7.2)) ((ck (0 ≤ a1 ∧ a1 < 11) ((ck (rng ((a0_10 (((Int.toNat a1) * 2)+1)) - v7.1)) (some (((a0_10 (((Int.toNat a1) * 2)+0)) - v7.2),((a0_10 (((Int.toNat a1) * 2)+1)) - v7.1)))))))))))
def sf67_L1 (N:Nat) (a1:Int) (v4:(Int × Int × Int × Int × (List (Int × Int × Int × Int)) × (List (Int × Int)) × Int × Int × Int × Int × (Nat → Int) × Int)) (x16:((List (Int × Int)) × Int)):Option (((List (Int × Int)) × Int) ⊕ (List (Int × Int))) :=
 (bif (decide (x16.2 ≤ v4.1)) then (bnd (sf68 N v4.1 v4.2.1 v4.2.2.1 v4.2.2.2.1 v4.2.2.2.2.1 v4.2.2.2.2.2.1 v4.2.2.2.2.2.2.1 v4.2.2.2.2.2.2.2.1 v4.2.2.2.2.2.2.2.2.1 v4.2.2.2.2.2.2.2.2.2.1 v4.2.2.2.2.2.2.2.2.2.2.1 x16.2 a1) fun v33=>(ck ((x16.1.length+1) * 16 ≤ 35184372088832 ∧ x16.1.length+1 ≤ 35184372088832) ((ck (rng (x16.2+(1:Int))) (some (.inl ((x16.1 ++ [(v33.1,v33.2)]),(x16.2+(1:Int))))))))) else some (.inr x16.1))
def sf67 (N:Nat) (a0_0 a0_1 a0_2 a0_3:Int) (a0_4:(List (Int × Int × Int × Int))) (a0_5:(List (Int × Int))) (a0_6 a0_7 a0_8 a0_9 a1:Int):Option ((List (Int × Int)) × Int) :=
 (bnd (sf105 N a0_0 a0_1 a0_2 a0_3 a0_4 a0_5 a0_6 a0_7 a0_8 a0_9 a1) fun v4=>(bif (!(decide (v4.2.2.2.2.2.2.2.2.2.2.2 = (0:Int)))) then some ([],v4.2.2.2.2.2.2.2.2.2.2.2) else (ck (rng (v4.1+(1:Int))) ((ck (0 ≤ (0:Int) ∧ 0 ≤ (v4.1+(1:Int)) ∧ Int.toNat (0:Int) ≤ Int.toNat (v4.1+(1:Int)) ∧ (Int.toNat (v4.1+(1:Int)) * 16 ≤ 35184372088832 ∧ Int.toNat (v4.1+(1:Int)) ≤ 35184372088832)) (bnd (iter (sf67_L1 N a1 v4) N ((List.replicate (Int.toNat (0:Int)) (0,0)),(0:Int))) (fun y29=>some (y29,(0:Int)))))))))
def sf22 (N:Nat) (a0_0 a0_1 a0_2 a0_3:Int) (a0_4:(List (Int × Int × Int × Int))) (a0_5:(List (Int × Int))) (a0_6 a0_7 a0_8 a0_9 a1:Int):Option ((List (Int × Int)) × Int) :=
 (bnd (sf67 N a0_0 a0_1 a0_2 a0_3 a0_4 a0_5 a0_6 a0_7 a0_8 a0_9 a1) fun v4=>some (v4.1,v4.2))
def sf69 (N:Nat) (a0_0 a0_1 a0_2 a0_3:Int) (a0_4:(List (Int × Int × Int × Int))) (a0_5:(List (Int × Int))) (a0_6 a0_7 a0_8 a0_9:Int) (a0_10:(Nat → Int)) (a1 a2:Int):Option (Int × Int) :=
 (ck (rng ((1000:Int) * a1)) ((bnd (sf107 N ((1000:Int) * a1) a0_0) fun v8=>(bnd (sf68 N a0_0 a0_1 a0_2 a0_3 a0_4 a0_5 a0_6 a0_7 a0_8 a0_9 a0_10 a1 a2) fun v11=>(ck (rng (v11.1 - v8)) ((ck (rng (v11.2 - v8)) (some ((v11.1 - v8),(v11.2 - v8))))))))))
def sf67_2_L1 (N:Nat) (a1:Int) (v4:(Int × Int × Int × Int × (List (Int × Int × Int × Int)) × (List (Int × Int)) × Int × Int × Int × Int × (Nat → Int) × Int)) (x16:((List (Int × Int)) × Int)):Option (((List (Int × Int)) × Int) ⊕ (List (Int × Int))) :=
 (bif (decide (x16.2 ≤ v4.1)) then (bnd (sf69 N v4.1 v4.2.1 v4.2.2.1 v4.2.2.2.1 v4.2.2.2.2.1 v4.2.2.2.2.2.1 v4.2.2.2.2.2.2.1 v4.2.2.2.2.2.2.2.1 v4.2.2.2.2.2.2.2.2.1 v4.2.2.2.2.2.2.2.2.2.1 v4.2.2.2.2.2.2.2.2.2.2.1 x16.2 a1) fun v33=>(ck ((x16.1.length+1) * 16 ≤ 35184372088832 ∧ x16.1.length+1 ≤ 35184372088832) ((ck (rng (x16.2+(1:Int))) (some (.inl ((x16.1 ++ [(v33.1,v33.2)]),(x16.2+(1:Int))))))))) else some (.inr x16.1))
def sf67_2 (N:Nat) (a0_0 a0_1 a0_2 a0_3:Int) (a0_4:(List (Int × Int × Int × Int))) (a0_5:(List (Int × Int))) (a0_6 a0_7 a0_8 a0_9 a1:Int):Option ((List (Int × Int)) × Int) :=
 (bnd (sf105 N a0_0 a0_1 a0_2 a0_3 a0_4 a0_5 a0_6 a0_7 a0_8 a0_9 a1) fun v4=>(bif (!(decide (v4.2.2.2.2.2.2.2.2.2.2.2 = (0:Int)))) then some ([],v4.2.2.2.2.2.2.2.2.2.2.2) else (ck (rng (v4.1+(1:Int))) ((ck (0 ≤ (0:Int) ∧ 0 ≤ (v4.1+(1:Int)) ∧ Int.toNat (0:Int) ≤ Int.toNat (v4.1+(1:Int)) ∧ (Int.toNat (v4.1+(1:Int)) * 16 ≤ 35184372088832 ∧ Int.toNat (v4.1+(1:Int)) ≤ 35184372088832)) (bnd (iter (sf67_2_L1 N a1 v4) N ((List.replicate (Int.toNat (0:Int)) (0,0)),(0:Int))) (fun y29=>some (y29,(0:Int)))))))))
def sf98 (N:Nat) (a0 a1 a2:Int):Option Bool :=
 (bif (decide (a1 ≤ a0)) then some (decide (a0 ≤ a2)) else some false)
def sf124 (N:Nat) (a0_0 a0_1 a1 a2:Int):Option Bool :=
 (bnd (sf98 N a0_0 a1 a0_1) fun v4=>(bif v4 then some (decide (a0_1 ≤ a2)) else some false))
def sf123 (N:Nat) (a0_0 a0_1 a0_2 a0_3:Int):Option Bool :=
 (bnd (sf98 N a0_0 (1:Int) (10:Int)) fun v4=>(bif v4 then (bnd (sf124 N a0_2 a0_3 (1:Int) (200:Int)) fun v8=>(bif v8 then (bnd (sf98 N a0_1 (1:Int) (2000:Int)) fun v12=>(bif v12 then (ck (rng (a0_0 * a0_2)) ((ck (rng (a0_0 * a0_3)) ((bnd (sf98 N a0_1 (a0_0 * a0_2) (a0_0 * a0_3)) fun v18=>some v18))))) else some false)) else some false)) else some false))
def sf84_L1 (N:Nat) (a0_0:Int) (a1:(List (Int × Int × Int × Int))) (x9:Int):Option (Int ⊕ (Int ⊕ Unit)) :=
 (bif (decide (x9 < ((a1).length:Int))) then (ix a1 x9 fun x54=>bnd ((ck (rng (a0_0 - (1:Int))) ((bnd (sf98 N x54.1 (0:Int) (a0_0 - (1:Int))) fun v76=>(bif (!v76) then some true else (bnd (sf98 N x54.2.1 x54.1 a0_0) fun v80=>(bif (!v80) then some true else (bnd (sf124 N x54.2.2.1 x54.2.2.2 (0:Int) (2000:Int)) fun v84=>some (!v84)))))))):Option (Bool)) (fun y71=>(bif y71 then some (.inr (.inl (2:Int))) else (ck (rng (x9+(1:Int))) (some (.inl (x9+(1:Int)))))))) else some (.inr (.inr ())))
def sf84 (N:Nat) (a0_0 a0_1 a0_2 a0_3:Int) (a1:(List (Int × Int × Int × Int))):Option Int :=
 (bnd (sf123 N a0_0 a0_1 a0_2 a0_3) fun v4=>(bif (!v4) then some (1:Int) else (bif (decide ((12:Int) < ((a1).length:Int))) then some (3:Int) else bnd (iter (sf84_L1 N a0_0 a1) N (0:Int)) (sel (fun w49=>some w49) (fun w51=>some (0:Int))))))
def sf25 (N:Nat) (a0 a1 a2:Int):Option Bool :=
 (bif (decide (a1 ≤ a0)) then some (decide (a0 ≤ a2)) else some false)
def sf85_L1 (N:Nat) (a0:(List (Int × Int))) (x1:Int):Option (Int ⊕ (Unit ⊕ Unit)) :=
 (bif (decide (x1 < ((a0).length:Int))) then bnd ((ix a0 x1 fun x90=>(bnd (sf25 N x90.1 (1:Int) (2000:Int)) fun v91=>(bif (!v91) then some true else (ix a0 x1 fun x96=>(bnd (sf25 N x96.2 (1:Int) (2000:Int)) fun v97=>(bif (!v97) then some true else (bif (decide ((0:Int) < x1)) then (ix a0 x1 fun x103=>(ck (rng (x1 - (1:Int))) ((ix a0 (x1 - (1:Int)) fun x105=>(bif (decide (x103.1 ≤ x105.1)) then some true else (ix a0 x1 fun x108=>(ck (rng (x1 - (1:Int))) ((ix a0 (x1 - (1:Int)) fun x110=>some (decide (x108.2 ≤ x110.2))))))))))) else some false))))))):Option (Bool)) (fun y86=>(bif y86 then some (.inr (.inl ())) else (ck (rng (x1+(1:Int))) (some (.inl (x1+(1:Int))))))) else some (.inr (.inr ())))
def sf85 (N:Nat) (a0:(List (Int × Int))):Option Bool :=
 bnd (iter (sf85_L1 N a0) N (0:Int)) (sel (fun w58=>some false) (fun w60=>some (decide ((2:Int) ≤ ((a0).length:Int)))))
def sf86 (N:Nat) (a0_0 a0_1 a1 a2:Int):Option Bool :=
 (bnd (sf25 N a0_0 a1 a0_1) fun v4=>(bif v4 then some (decide (a0_1 ≤ a2)) else some false))
def sf40 (N:Nat) (a0_0 a0_1 a0_2 a0_3:Int) (a0_4:(List (Int × Int × Int × Int))) (a0_5:(List (Int × Int))) (a0_6 a0_7 a0_8 a0_9:Int):Option Int :=
 bnd (bnd ((bif (decide ((12:Int) < ((a0_4).length:Int))) then some true else some (decide ((8:Int) < ((a0_5).length:Int)))):Option (Bool)) (fun y19=>(bif y19 then some (.inl (3:Int)) else some (.inr ()))):Option (Int ⊕ Unit)) (sel (fun w14=>some w14) (fun w16=>bnd ((bnd (sf84 N a0_0 a0_1 a0_2 a0_3 a0_4) fun v52=>(bif (!(decide (v52 = (0:Int)))) then some true else (bnd (sf85 N a0_5) fun v57=>(bif (!v57) then some true else (ix a0_5 (0:Int) fun x62=>(ck (rng (((a0_5).length:Int) - (1:Int))) ((ix a0_5 (((a0_5).length:Int) - (1:Int)) fun x64=>(bnd (sf86 N a0_6 a0_7 x62.1 x64.1) fun v65=>(bif (!v65) then some true else (bnd (sf25 N a0_8 (0:Int) a0_9) fun v71=>(bif (!v71) then some true else some (decide ((100:Int) < a0_9)))))))))))))):Option (Bool)) (fun y48=>(bif y48 then some (1:Int) else some (0:Int)))))
def sf73_L1 (a0:(List (Int × Int))) (a1 x1:Int):Option (Int ⊕ Int) :=
 (ck (rng (x1+(1:Int))) ((ix a0 (x1+(1:Int)) fun x10=>(bif (decide (x10.1 < a1)) then (ck (rng (x1+(1:Int))) (some (.inl (x1+(1:Int))))) else some (.inr x1)))))
def sf73 (N:Nat) (a0:(List (Int × Int))) (a1:Int):Option Int :=
 bnd (iter (sf73_L1 a0 a1) N (0:Int)) (fun y7=>(ix a0 y7 fun x15=>(ck (rng (y7+(1:Int))) ((ix a0 (y7+(1:Int)) fun x17=>(ck (rng (x17.2 - x15.2)) ((ck (rng (a1 - x15.1)) ((ck (rng ((x17.2 - x15.2) * (a1 - x15.1))) ((ck (rng (x17.1 - x15.1)) ((ck ((x17.1 - x15.1) ≠ 0 ∧ rng (Int.tdiv ((x17.2 - x15.2) * (a1 - x15.1)) (x17.1 - x15.1))) ((ck (rng (x15.2+(Int.tdiv ((x17.2 - x15.2) * (a1 - x15.1)) (x17.1 - x15.1)))) (some (x15.2+(Int.tdiv ((x17.2 - x15.2) * (a1 - x15.1)) (x17.1 - x15.1))))))))))))))))))))
def sf27 (N:Nat) (a0_0 a0_1 a0_2 a0_3:Int) (a0_4:(List (Int × Int × Int × Int))) (a0_5:(List (Int × Int))) (a0_6 a0_7 a0_8 a0_9:Int):Option (Int × Int) :=
 (bnd (sf73 N a0_5 a0_6) fun v7=>(bnd (sf73 N a0_5 a0_7) fun v11=>some (v7,v11)))
def sf55 (N:Nat) (a0_0 a0_1 a0_2 a0_3:Int) (a0_4:(List (Int × Int × Int × Int))) (a0_5:(List (Int × Int))) (a0_6 a0_7 a0_8 a0_9 a1:Int):Option (Int × Int) :=
 (ck (rng (a0_8 * a1)) ((ck ((100:Int) ≠ 0 ∧ rng (Int.tdiv (a0_8 * a1) (100:Int))) ((ck (rng (a0_9 * a1)) ((ck (rng ((a0_9 * a1)+(99:Int))) ((ck ((100:Int) ≠ 0 ∧ rng (Int.tdiv ((a0_9 * a1)+(99:Int)) (100:Int))) (some ((Int.tdiv (a0_8 * a1) (100:Int)),(Int.tdiv ((a0_9 * a1)+(99:Int)) (100:Int)))))))))))))
def sf71_L1 (a0 a1 x2:Int):Option (Int ⊕ Int) :=
 (ck (rng (x2 * a1)) ((bif (decide (a0 < (x2 * a1))) then (ck (rng (x2 - (1:Int))) (some (.inl (x2 - (1:Int))))) else some (.inr x2))))
def sf71 (N:Nat) (a0 a1:Int):Option Int :=
 (ck (a1 ≠ 0 ∧ rng (Int.tdiv a0 a1)) (bnd (iter (sf71_L1 a0 a1) N (Int.tdiv a0 a1)) (fun y7=>some y7)))
def sf72_L1 (a0 a1 x2:Int):Option (Int ⊕ Int) :=
 (ck (rng (x2 * a1)) ((bif (decide ((x2 * a1) < a0)) then (ck (rng (x2+(1:Int))) (some (.inl (x2+(1:Int))))) else some (.inr x2))))
def sf72 (N:Nat) (a0 a1:Int):Option Int :=
 (ck (a1 ≠ 0 ∧ rng (Int.tdiv a0 a1)) (bnd (iter (sf72_L1 a0 a1) N (Int.tdiv a0 a1)) (fun y7=>some y7)))
def sf26 (N:Nat) (a0_0 a0_1 a0_2 a0_3:Int) (a0_4:(List (Int × Int × Int × Int))) (a0_5:(List (Int × Int))) (a0_6 a0_7 a0_8 a0_9 a1_0 a1_1 a2_0 a2_1 a3:Int):Option (Int × Int) :=
 (bnd (sf55 N a0_0 a0_1 a0_2 a0_3 a0_4 a0_5 a0_6 a0_7 a0_8 a0_9 a3) fun v13=>(ck (rng (a1_0 * a2_0)) ((bnd (sf71 N (a1_0 * a2_0) a0_1) fun v21=>(ck (rng (v21 - v13.2)) ((ck (rng (a1_1 * a2_1)) ((bnd (sf72 N (a1_1 * a2_1) a0_1) fun v26=>(ck (rng (v26 - v13.1)) (some ((v21 - v13.2),(v26 - v13.1)))))))))))))
def sf52 (N:Nat) (a0_0 a0_1 a0_2 a0_3:Int) (a0_4:(List (Int × Int × Int × Int))) (a0_5:(List (Int × Int))) (a0_6 a0_7 a0_8 a0_9:Int):Option Bool :=
 (bnd (sf18 N a0_0 a0_1 a0_2 a0_3 ([]) a0_5 a0_6 a0_7 a0_8 a0_9) fun v5=>(bif v5 then (bnd (sf40 N a0_0 a0_1 a0_2 a0_3 ([]) a0_5 a0_6 a0_7 a0_8 a0_9) fun v9=>some (decide (v9 = (0:Int)))) else some false))
def sf133 (N:Nat) (a0:(List Int)) (a1:Int):Option Int :=
 (bif (decide (((a0).length:Int) = (0:Int))) then some (0:Int) else (ck (((a0).length:Int) ≠ 0) ((ix a0 (Int.tmod a1 ((a0).length:Int)) fun x3=>(ck (IntKind.wrap .i64 x3 = x3) (some x3))))))
def sf92_L1 (N:Nat) (a0_0 a0_2 a0_3:Int) (a1:(List Int)) (x6:((List Int) × Int × Int)):Option (((List Int) × Int × Int) ⊕ (List Int)) :=
 (bif (decide (x6.2.2 < a0_0)) then (ck (rng (a0_0 - (1:Int))) ((ck (rng ((a0_0 - (1:Int)) - x6.2.2)) ((ck (rng (((a0_0 - (1:Int)) - x6.2.2) * a0_3)) ((ck (rng (x6.2.1 - (((a0_0 - (1:Int)) - x6.2.2) * a0_3))) ((ck (rng (((a0_0 - (1:Int)) - x6.2.2) * a0_2)) ((ck (rng (x6.2.1 - (((a0_0 - (1:Int)) - x6.2.2) * a0_2))) ((bnd (sf133 N a1 x6.2.2) fun v41=>(ck (rng ((min a0_3 (x6.2.1 - (((a0_0 - (1:Int)) - x6.2.2) * a0_2))) - (max a0_2 (x6.2.1 - (((a0_0 - (1:Int)) - x6.2.2) * a0_3))))) ((ck (rng (((min a0_3 (x6.2.1 - (((a0_0 - (1:Int)) - x6.2.2) * a0_2))) - (max a0_2 (x6.2.1 - (((a0_0 - (1:Int)) - x6.2.2) * a0_3))))+(1:Int))) ((ck ((((min a0_3 (x6.2.1 - (((a0_0 - (1:Int)) - x6.2.2) * a0_2))) - (max a0_2 (x6.2.1 - (((a0_0 - (1:Int)) - x6.2.2) * a0_3))))+(1:Int)) ≠ 0) ((ck (rng ((max a0_2 (x6.2.1 - (((a0_0 - (1:Int)) - x6.2.2) * a0_3)))+(Int.tmod v41 (((min a0_3 (x6.2.1 - (((a0_0 - (1:Int)) - x6.2.2) * a0_2))) - (max a0_2 (x6.2.1 - (((a0_0 - (1:Int)) - x6.2.2) * a0_3))))+(1:Int))))) ((ck ((x6.1.length+1) * 8 ≤ 35184372088832 ∧ x6.1.length+1 ≤ 35184372088832) ((ck (rng (x6.2.1 - ((max a0_2 (x6.2.1 - (((a0_0 - (1:Int)) - x6.2.2) * a0_3)))+(Int.tmod v41 (((min a0_3 (x6.2.1 - (((a0_0 - (1:Int)) - x6.2.2) * a0_2))) - (max a0_2 (x6.2.1 - (((a0_0 - (1:Int)) - x6.2.2) * a0_3))))+(1:Int)))))) ((ck (rng (x6.2.2+(1:Int))) (some (.inl ((x6.1 ++ [((max a0_2 (x6.2.1 - (((a0_0 - (1:Int)) - x6.2.2) * a0_3)))+(Int.tmod v41 (((min a0_3 (x6.2.1 - (((a0_0 - (1:Int)) - x6.2.2) * a0_2))) - (max a0_2 (x6.2.1 - (((a0_0 - (1:Int)) - x6.2.2) * a0_3))))+(1:Int))))]),(x6.2.1 - ((max a0_2 (x6.2.1 - (((a0_0 - (1:Int)) - x6.2.2) * a0_3)))+(Int.tmod v41 (((min a0_3 (x6.2.1 - (((a0_0 - (1:Int)) - x6.2.2) * a0_2))) - (max a0_2 (x6.2.1 - (((a0_0 - (1:Int)) - x6.2.2) * a0_3))))+(1:Int))))),(x6.2.2+(1:Int))))))))))))))))))))))))))))))) else some (.inr x6.1))
def sf92 (N:Nat) (a0_0 a0_1 a0_2 a0_3:Int) (a1:(List Int)):Option (List Int) :=
 bnd (iter (sf92_L1 N a0_0 a0_2 a0_3 a1) N (([]:List Int),a0_1,(0:Int))) (fun y30=>some y30)
def sf56_L1 (a0:(List Int)) (a1:Int) (x1:(Int × Int)):Option ((Int × Int) ⊕ Int) :=
 (bif (decide (x1.2 < a1)) then (ix a0 x1.2 fun x10=>(ck (rng (x1.1+x10)) ((ck (rng (x1.2+(1:Int))) (some (.inl ((x1.1+x10),(x1.2+(1:Int))))))))) else some (.inr x1.1))
def sf56 (N:Nat) (a0:(List Int)) (a1:Int):Option Int :=
 bnd (iter (sf56_L1 a0 a1) N ((0:Int),(0:Int))) (fun y7=>some y7)
def sf93_L1 (N:Nat) (a0_0 a0_1:Int) (a1:(List Int)) (x149 v154 x162:Int):Option (Int ⊕ Int) :=
 bnd ((bif (decide (x162 < a0_0)) then (ck (rng (x162+(1:Int))) ((bnd (sf56 N a1 (x162+(1:Int))) fun v210=>(bnd (sf56 N a1 (Int.tmod x149 a0_0)) fun v213=>(ck (rng (v210 - v213)) (some (decide ((v210 - v213) ≤ (Int.tdiv ((Int.tmod (Int.tdiv x149 (16:Int)) (256:Int)) * ((a0_1 - v154)+(5:Int))) (256:Int)))))))))) else some false):Option (Bool)) (fun y204=>(bif y204 then (ck (rng (x162+(1:Int))) (some (.inl (x162+(1:Int))))) else some (.inr x162)))
def sf93_L2 (N:Nat) (a0_0 a0_1:Int) (a1:(List Int)) (a2:(List Int)) (x6:((List (Int × Int × Int × Int)) × Int)):Option (((List (Int × Int × Int × Int)) × Int) ⊕ (List (Int × Int × Int × Int))) :=
 bnd (bnd ((bif (decide (x6.2 < ((a2).length:Int))) then some (decide (x6.2 < (12:Int))) else some false):Option (Bool)) (fun y141=>(bif y141 then some (.inl ()) else some (.inr ()))):Option (Unit ⊕ Unit)) (sel (fun w136=>(ix a2 x6.2 fun x149=>(ck (IntKind.wrap .i64 x149 = x149) ((ck (a0_0 ≠ 0) ((ck ((16:Int) ≠ 0 ∧ rng (Int.tdiv x149 (16:Int))) ((ck ((256:Int) ≠ 0) ((bnd (sf56 N a1 (Int.tmod x149 a0_0)) fun v154=>(ck (rng (a0_1 - v154)) ((ck (rng ((a0_1 - v154)+(5:Int))) ((ck (rng ((Int.tmod (Int.tdiv x149 (16:Int)) (256:Int)) * ((a0_1 - v154)+(5:Int)))) ((ck ((256:Int) ≠ 0 ∧ rng (Int.tdiv ((Int.tmod (Int.tdiv x149 (16:Int)) (256:Int)) * ((a0_1 - v154)+(5:Int))) (256:Int))) (bnd (iter (sf93_L1 N a0_0 a0_1 a1 x149 v154) N (Int.tmod x149 a0_0)) (fun y193=>(ck ((4096:Int) ≠ 0 ∧ rng (Int.tdiv x149 (4096:Int))) ((ck ((4:Int) ≠ 0) ((ck (rng ((Int.tdiv ((Int.tmod (Int.tdiv x149 (16:Int)) (256:Int)) * ((a0_1 - v154)+(5:Int))) (256:Int)) - (Int.tmod (Int.tdiv x149 (4096:Int)) (4:Int)))) ((ck ((8192:Int) ≠ 0 ∧ rng (Int.tdiv x149 (8192:Int))) ((ck ((3:Int) ≠ 0) ((ck (rng ((Int.tdiv ((Int.tmod (Int.tdiv x149 (16:Int)) (256:Int)) * ((a0_1 - v154)+(5:Int))) (256:Int))+(Int.tmod (Int.tdiv x149 (8192:Int)) (3:Int)))) ((ck ((x6.1.length+1) * 32 ≤ 35184372088832 ∧ x6.1.length+1 ≤ 35184372088832) ((ck (rng (x6.2+(1:Int))) (some (.inl ((x6.1 ++ [((Int.tmod x149 a0_0),y193,(max (0:Int) ((Int.tdiv ((Int.tmod (Int.tdiv x149 (16:Int)) (256:Int)) * ((a0_1 - v154)+(5:Int))) (256:Int)) - (Int.tmod (Int.tdiv x149 (4096:Int)) (4:Int)))),(min (2000:Int) ((Int.tdiv ((Int.tmod (Int.tdiv x149 (16:Int)) (256:Int)) * ((a0_1 - v154)+(5:Int))) (256:Int))+(Int.tmod (Int.tdiv x149 (8192:Int)) (3:Int)))))]),(x6.2+(1:Int)))))))))))))))))))))))))))))))))))))))) (fun w138=>some (.inr x6.1)))
def sf93 (N:Nat) (a0_0 a0_1 a0_2 a0_3:Int) (a1:(List Int)) (a2:(List Int)):Option (List (Int × Int × Int × Int)) :=
 bnd (iter (sf93_L2 N a0_0 a0_1 a1 a2) N (([]:List (Int × Int × Int × Int)),(0:Int))) (fun y122=>some y122)
def sf53 (N:Nat) (a0_0 a0_1 a0_2 a0_3:Int) (a0_4:(List (Int × Int × Int × Int))) (a0_5:(List (Int × Int))) (a0_6 a0_7 a0_8 a0_9:Int) (a1:(List Int)) (a2:(List Int)):Option (Int × Int × Int × Int × (List (Int × Int × Int × Int)) × (List (Int × Int)) × Int × Int × Int × Int × (List Int)) :=
 (bnd (sf92 N a0_0 a0_1 a0_2 a0_3 a1) fun v7=>(bnd (sf93 N a0_0 a0_1 a0_2 a0_3 v7 a2) fun v11=>some (a0_0,a0_1,a0_2,a0_3,v11,a0_5,a0_6,a0_7,a0_8,a0_9,v7)))
def sf54 (N:Nat) (a0_0 a0_1 a1:Int):Option Int :=
 (ck (IntKind.wrap .i64 a1 = a1) ((ck (rng (a0_1 - a0_0)) ((ck (rng ((a0_1 - a0_0)+(1:Int))) ((ck (((a0_1 - a0_0)+(1:Int)) ≠ 0) ((ck (rng (a0_0+(Int.tmod a1 ((a0_1 - a0_0)+(1:Int))))) (some (a0_0+(Int.tmod a1 ((a0_1 - a0_0)+(1:Int))))))))))))))
def sf95_L1 (N:Nat) (a0_0 a0_1 a0_2 a0_3 a0_4:Int) (a0_5:(Nat → Int)) (x22:((List Int) × Int)):Option (((List Int) × Int) ⊕ (List Int)) :=
 (bif (decide (x22.2 < a0_0)) then (ck (rng (x22.2+(1:Int))) ((bnd (sf137 N a0_0 a0_1 a0_2 a0_3 a0_4 a0_5 (x22.2+(1:Int))) fun v44=>(bnd (sf137 N a0_0 a0_1 a0_2 a0_3 a0_4 a0_5 x22.2) fun v47=>(ck (rng (v44 - v47)) ((ck ((x22.1.length+1) * 8 ≤ 35184372088832 ∧ x22.1.length+1 ≤ 35184372088832) ((ck (rng (x22.2+(1:Int))) (some (.inl ((x22.1 ++ [(v44 - v47)]),(x22.2+(1:Int)))))))))))))) else some (.inr x22.1))
def sf95 (N:Nat) (a0_0 a0_1 a0_2 a0_3 a0_4:Int) (a0_5:(Nat → Int)):Option (List Int) :=
 (ck (0 ≤ (0:Int) ∧ 0 ≤ a0_0 ∧ Int.toNat (0:Int) ≤ Int.toNat a0_0 ∧ (Int.toNat a0_0 * 8 ≤ 35184372088832 ∧ Int.toNat a0_0 ≤ 35184372088832)) (bnd (iter (sf95_L1 N a0_0 a0_1 a0_2 a0_3 a0_4 a0_5) N ((List.replicate (Int.toNat (0:Int)) 0),(0:Int))) (fun y39=>some y39)))
def sf95_2_L1 (N:Nat) (a0_0 a0_1 a0_2 a0_3 a0_4:Int) (a0_5:(Nat → Int)) (x22:((List Int) × Int)):Option (((List Int) × Int) ⊕ (List Int)) :=
 (bif (decide (x22.2 < a0_0)) then (ck (rng (x22.2+(1:Int))) ((bnd (sf136 N a0_0 a0_1 a0_2 a0_3 a0_4 a0_5 (x22.2+(1:Int))) fun v44=>(bnd (sf136 N a0_0 a0_1 a0_2 a0_3 a0_4 a0_5 x22.2) fun v47=>(ck (rng (v44 - v47)) ((ck ((x22.1.length+1) * 8 ≤ 35184372088832 ∧ x22.1.length+1 ≤ 35184372088832) ((ck (rng (x22.2+(1:Int))) (some (.inl ((x22.1 ++ [(v44 - v47)]),(x22.2+(1:Int)))))))))))))) else some (.inr x22.1))
def sf95_2 (N:Nat) (a0_0 a0_1 a0_2 a0_3 a0_4:Int) (a0_5:(Nat → Int)):Option (List Int) :=
 (ck (0 ≤ (0:Int) ∧ 0 ≤ a0_0 ∧ Int.toNat (0:Int) ≤ Int.toNat a0_0 ∧ (Int.toNat a0_0 * 8 ≤ 35184372088832 ∧ Int.toNat a0_0 ≤ 35184372088832)) (bnd (iter (sf95_2_L1 N a0_0 a0_1 a0_2 a0_3 a0_4 a0_5) N ((List.replicate (Int.toNat (0:Int)) 0),(0:Int))) (fun y39=>some y39)))
def sf58 (N:Nat) (a0_0 a0_1 a0_2 a0_3:Int) (a1:(List (Int × Int × Int × Int))) (a2:Int) (a3:Bool):Option ((List Int) × Int) :=
 (bif (decide ((0:Int) ≤ a2)) then (bnd (sf94 N a0_0 a0_1 a0_2 a0_3 a1 (decide (a2 ≤ a0_0))) fun v5=>(bif (!(decide (v5.2.2.2.2.2.2 = (0:Int)))) then some ([],v5.2.2.2.2.2.2) else (bif a3 then (bnd (sf96 N ) fun v14=>(bnd (sf95 N v5.1 v5.2.1 v5.2.2.1 v5.2.2.2.1 v5.2.2.2.2.1 v5.2.2.2.2.2.1) fun v18=>some (v18,(0:Int)))) else (bnd (sf96 N ) fun v22=>(bnd (sf95_2 N v5.1 v5.2.1 v5.2.2.1 v5.2.2.2.1 v5.2.2.2.2.1 v5.2.2.2.2.2.1) fun v26=>some (v26,(0:Int))))))) else (bnd (sf94 N a0_0 a0_1 a0_2 a0_3 a1 false) fun v30=>(bif (!(decide (v30.2.2.2.2.2.2 = (0:Int)))) then some ([],v30.2.2.2.2.2.2) else (bif a3 then (bnd (sf96 N ) fun v39=>(bnd (sf95 N v30.1 v30.2.1 v30.2.2.1 v30.2.2.2.1 v30.2.2.2.2.1 v30.2.2.2.2.2.1) fun v43=>some (v43,(0:Int)))) else (bnd (sf96 N ) fun v47=>(bnd (sf95_2 N v30.1 v30.2.1 v30.2.2.1 v30.2.2.2.1 v30.2.2.2.2.1 v30.2.2.2.2.2.1) fun v51=>some (v51,(0:Int))))))))
def sf99 (N:Nat) (a0_0 a0_1 a0_2 a0_3 a1_0 a1_1 a1_2 a1_3:Int) (a2:(List Int)):Option Bool :=
 (bnd (sf56 N a2 a1_0) fun v7=>(bnd (sf56 N a2 a1_1) fun v10=>(ck (rng (v10 - v7)) ((bif (decide (a1_1 < a0_0)) then (ck (rng (a1_1+(1:Int))) ((bnd (sf56 N a2 (a1_1+(1:Int))) fun v17=>(ck (rng (v17 - v7)) ((ck (rng ((v17 - v7) - (1:Int))) (some (decide ((max a1_2 (v10 - v7)) ≤ (min a1_3 ((v17 - v7) - (1:Int)))))))))))) else some (decide ((max a1_2 (v10 - v7)) ≤ a1_3)))))))
def sf61_L1 (N:Nat) (a0_2 a0_3:Int) (a2:(List Int)) (x5:Int):Option (Int ⊕ (Unit ⊕ Unit)) :=
 (bif (decide (x5 < ((a2).length:Int))) then (ix a2 x5 fun x21=>(bnd (sf98 N x21 a0_2 a0_3) fun v23=>(bif (!v23) then some (.inr (.inl ())) else (ck (rng (x5+(1:Int))) (some (.inl (x5+(1:Int)))))))) else some (.inr (.inr ())))
def sf61_L2 (N:Nat) (a0_0 a0_1 a0_2 a0_3:Int) (a1:(List (Int × Int × Int × Int))) (a2:(List Int)) (x32:Int):Option (Int ⊕ (Unit ⊕ Unit)) :=
 (bif (decide (x32 < ((a1).length:Int))) then (ix a1 x32 fun x49=>(bnd (sf99 N a0_0 a0_1 a0_2 a0_3 x49.1 x49.2.1 x49.2.2.1 x49.2.2.2 a2) fun v51=>(bif (!v51) then some (.inr (.inl ())) else (ck (rng (x32+(1:Int))) (some (.inl (x32+(1:Int)))))))) else some (.inr (.inr ())))
def sf61 (N:Nat) (a0_0 a0_1 a0_2 a0_3:Int) (a1:(List (Int × Int × Int × Int))) (a2:(List Int)):Option Bool :=
 (bif (!(decide (((a2).length:Int) = a0_0))) then some false else bnd (iter (sf61_L1 N a0_2 a0_3 a2) N (0:Int)) (sel (fun w16=>some false) (fun w18=>bnd (iter (sf61_L2 N a0_0 a0_1 a0_2 a0_3 a1 a2) N (0:Int)) (sel (fun w44=>some false) (fun w46=>(bnd (sf56 N a2 a0_0) fun v62=>some (decide (v62 = a0_1))))))))
def sf10_L1 (N:Nat) (a0_1:Int) (v9:(Int × Int × Int × Int × (List (Int × Int × Int × Int)) × (List (Int × Int)) × Int × Int × Int × Int × (List Int))) (v28:((List (Int × Int)) × Int)) (v71:(Int × Int)) (v74:(Int × Int)) (x80:Int):Option (Int ⊕ (Unit ⊕ Unit)) :=
 (bif (decide (x80 < ((v28.1).length:Int))) then (bnd (sf59 N v9.1 v9.2.1 v9.2.2.1 v9.2.2.2.1) fun v287=>(bnd (sf60 N v9.2.2.2.2.1) fun v291=>(bnd (sf58 N v287.1 v287.2.1 v287.2.2.1 v287.2.2.2 v291 x80 false) fun v300=>(bnd (sf59 N v9.1 v9.2.1 v9.2.2.1 v9.2.2.2.1) fun v310=>(bnd (sf60 N v9.2.2.2.2.1) fun v314=>(bnd (sf58 N v310.1 v310.2.1 v310.2.2.1 v310.2.2.2 v314 x80 true) fun v325=>bnd (bnd ((bif (!(decide (v300.2 = (0:Int)))) then some true else (bif (!(decide (v325.2 = (0:Int)))) then some true else (bnd (sf61 N v9.1 v9.2.1 v9.2.2.1 v9.2.2.2.1 v9.2.2.2.2.1 v300.1) fun v391=>(bif (!v391) then some true else (bnd (sf61 N v9.1 v9.2.1 v9.2.2.1 v9.2.2.2.1 v9.2.2.2.2.1 v325.1) fun v395=>some (!v395)))))):Option (Bool)) (fun y385=>(bif y385 then some (.inl ()) else some (.inr ()))):Option (Unit ⊕ Unit)) (sel (fun w372=>some (.inr (.inl ()))) (fun w374=>(bnd (sf56 N v300.1 x80) fun v426=>(ck (rng (v426 * v71.1)) ((ck (rng (v74.2 * a0_1)) ((ck (rng ((v426 * v71.1) - (v74.2 * a0_1))) ((bnd (sf56 N v325.1 x80) fun v432=>(ck (rng (v432 * v71.2)) ((ck (rng (v74.1 * a0_1)) ((ck (rng ((v432 * v71.2) - (v74.1 * a0_1))) (bnd ((ix v28.1 x80 fun x456=>(ck (rng (x456.1 * a0_1)) ((bif (decide (((v426 * v71.1) - (v74.2 * a0_1)) < (x456.1 * a0_1))) then some true else (ix v28.1 x80 fun x459=>(ck (rng (x459.1+(1:Int))) ((ck (rng ((x459.1+(1:Int)) * a0_1)) ((bif (decide (((x459.1+(1:Int)) * a0_1) ≤ ((v426 * v71.1) - (v74.2 * a0_1)))) then some true else (ix v28.1 x80 fun x463=>(ck (rng (x463.2 * a0_1)) ((bif (decide ((x463.2 * a0_1) < ((v432 * v71.2) - (v74.1 * a0_1)))) then some true else (ix v28.1 x80 fun x466=>(ck (rng (x466.2 - (1:Int))) ((ck (rng ((x466.2 - (1:Int)) * a0_1)) (some (decide (((v432 * v71.2) - (v74.1 * a0_1)) ≤ ((x466.2 - (1:Int)) * a0_1)))))))))))))))))))))):Option (Bool)) (fun y452=>(bif y452 then some (.inr (.inl ())) else (ck (rng (x80+(1:Int))) (some (.inl (x80+(1:Int))))))))))))))))))))))))))))) else some (.inr (.inr ())))
def sf10 (N:Nat) (a0_0 a0_1 a0_2 a0_3:Int) (a0_4:(List (Int × Int × Int × Int))) (a0_5:(List (Int × Int))) (a0_6 a0_7 a0_8 a0_9:Int) (a1:(List Int)) (a2:(List Int)) (a3:Int):Option Bool :=
 (bnd (sf52 N a0_0 a0_1 a0_2 a0_3 a0_4 a0_5 a0_6 a0_7 a0_8 a0_9) fun v4=>(bif (!v4) then some true else (bnd (sf53 N a0_0 a0_1 a0_2 a0_3 a0_4 a0_5 a0_6 a0_7 a0_8 a0_9 a1 a2) fun v9=>(ck (IntKind.wrap .i64 a3 = a3) ((ck ((10001:Int) ≠ 0) ((bnd (sf21 N v9.1 v9.2.1 v9.2.2.1 v9.2.2.2.1 v9.2.2.2.2.1 v9.2.2.2.2.2.1 v9.2.2.2.2.2.2.1 v9.2.2.2.2.2.2.2.1 v9.2.2.2.2.2.2.2.2.1 v9.2.2.2.2.2.2.2.2.2.1) fun v22=>(bnd (sf22 N v22.1 v22.2.1 v22.2.2.1 v22.2.2.2.1 v22.2.2.2.2.1 v22.2.2.2.2.2.1 v22.2.2.2.2.2.2.1 v22.2.2.2.2.2.2.2.1 v22.2.2.2.2.2.2.2.2.1 v22.2.2.2.2.2.2.2.2.2 (Int.tmod a3 (10001:Int))) fun v28=>bnd (bnd ((bif (!(decide (v28.2 = (0:Int)))) then some true else (ck (rng (v9.1+(1:Int))) (some (!(decide (((v28.1).length:Int) = (v9.1+(1:Int)))))))):Option (Bool)) (fun y55=>(bif y55 then some (.inl ()) else some (.inr ()))):Option (Unit ⊕ Unit)) (sel (fun w49=>some false) (fun w51=>(bnd (sf27 N v9.1 v9.2.1 v9.2.2.1 v9.2.2.2.1 v9.2.2.2.2.1 v9.2.2.2.2.2.1 v9.2.2.2.2.2.2.1 v9.2.2.2.2.2.2.2.1 v9.2.2.2.2.2.2.2.2.1 v9.2.2.2.2.2.2.2.2.2.1) fun v71=>(bnd (sf55 N v9.1 v9.2.1 v9.2.2.1 v9.2.2.2.1 v9.2.2.2.2.1 v9.2.2.2.2.2.1 v9.2.2.2.2.2.2.1 v9.2.2.2.2.2.2.2.1 v9.2.2.2.2.2.2.2.2.1 v9.2.2.2.2.2.2.2.2.2.1 (Int.tmod a3 (10001:Int))) fun v74=>bnd (iter (sf10_L1 N a0_1 v9 v28 v71 v74) N (0:Int)) (sel (fun w282=>some false) (fun w284=>some true)))))))))))))))
end Go.Hx.V

namespace Go.Hx.V
open Go.Hx
set_option maxRecDepth 20000
set_option maxHeartbeats 4000000
variable {fl : Nat} {h0 : Tr HBlk} {n0 : Nat} {F0 : PH}
attribute [local irreducible] W R C thenH inBlockH Tr.get Tr.set lo ck bnd ix iter
theorem ct18 (N:Nat) {a0_0 a0_1 a0_2 a0_3:Int} {a0_4:(List (Int × Int × Int × Int))} {a0_5:(List (Int × Int))} {a0_6 a0_7 a0_8 a0_9:Int} {r:Bool} (hF:sf18 N a0_0 a0_1 a0_2 a0_3 a0_4 a0_5 a0_6 a0_7 a0_8 a0_9 = some r) (hd:D h0 n0) (hs:F0.sub h0) {pa0_4:Option (Nat × Nat)} {ca0_4:Nat} {pa0_5:Option (Nat × Nat)} {ca0_5:Nat} (ra0_4:RowF (rP rI (rP rI (rP rI rI))) 4 F0 pa0_4 ca0_4 a0_4) (ra0_5:RowF (rP rI rI) 2 F0 pa0_5 ca0_5 a0_5):C LW fl 18 [(.agg [(i64 a0_0),(i64 a0_1),(i64 a0_2),(i64 a0_3),(.slice pa0_4 (a0_4).length ca0_4),(.slice pa0_5 (a0_5).length ca0_5),(i64 a0_6),(i64 a0_7),(i64 a0_8),(i64 a0_9)])] ⟨h0,n0⟩ (KS (.bool r) n0 h0):=by
 unfold sf18 at hF
 refine z8 hd hs lw18 rfl rfl (by rfl) (fun st T hT=>?_)
 have hfl:n0 ≤ n0:=Nat.le_refl n0
 have t0:=hT 0 _ rfl
 dsimp only [L18]
 refine zg (zh ?_);refine zW st (fun b1 h2 n3 st=>?_);refine za ?_;refine zf (th_n ?_);refine zg (zh ?_);refine v_fa ?_;refine zq (st.at (i:=0) rfl).2.2 rfl ?_;refine yA ?_;refine yx ?_;refine za ?_
 rcases Bool.eq_false_or_eq_true (decide (((a0_4).length:Int) ≤ (15:Int))) with hb4 | hb4
 ·have hF:=zw hb4 hF;refine zi hb4 (v_fa ?_);refine zi hb4 (zq (st.at (i:=0) rfl).2.2 rfl ?_);refine zi hb4 (yA ?_);refine zi hb4 (yx ?_);refine zG hb4 ?_;refine za ?_;refine zf (th_n ?_);refine zu ?_;obtain rfl:=inj hF
  exact zD st (Res.t gA Res.nil) rfl rfl
 ·have hF:=zx hb4 hF;refine ze hb4 ?_;refine ze hb4 ?_;refine ze hb4 ?_;refine ze hb4 ?_;refine zC hb4 ?_;refine za ?_;refine zf (th_n ?_);refine zu ?_;obtain rfl:=inj hF
  exact zD st (Res.t gA Res.nil) rfl rfl
theorem ct97 (N:Nat) {a0_0 a0_1:Int} {r:(Int × Int)} (hF:sf97 N a0_0 a0_1 = some r) (hd:D h0 n0) (hs:F0.sub h0):C LW fl 97 [(.agg [(i64 a0_0),(i64 a0_1)])] ⟨h0,n0⟩ (KS (.agg [(i64 r.1),(i64 r.2)]) n0 h0):=by
 unfold sf97 at hF
 refine z8 hd hs lw97 rfl rfl (by rfl) (fun st T hT=>?_)
 have hfl:n0 ≤ n0:=Nat.le_refl n0
 have t0:=hT 0 _ rfl
 dsimp only [L97]
 refine zg (zh ?_);refine zW st (fun b1 h2 n3 st=>?_);refine zM st (fun b4 h5 n6 st=>?_);refine zf (th_n ?_);refine zg (zh ?_);refine v_fa ?_;refine zq (st.at (i:=0) rfl).2.2 rfl ?_;refine v_fa ?_;refine zq (st.at (i:=0) rfl).2.2 rfl ?_;refine zR (cs:=[(i64 a0_0),(i64 a0_1)]) rfl ?_;refine v_st (cs':=[(i64 a0_0),(i64 a0_1)]) st 1 rfl rfl rfl rfl hfl (fun h7 st=>?_);refine zf (th_n ?_);refine zu ?_;obtain rfl:=inj hF
 exact zD st (Res.c gA (st.at (i:=1) rfl).2.2 (show takeN _ _ = some [(i64 a0_0),(i64 a0_1)] from rfl) Res.nil) rfl rfl
theorem ct66 (N:Nat) {a0:(List (Int × Int))} {r:(List (Int × Int))} (hF:sf66 N a0 = some r) (hd:D h0 n0) (hs:F0.sub h0) (hfl:fl ≤ n0) {pa0:Option (Nat × Nat)} {ca0:Nat} (ra0:RowF (rP rI rI) 2 F0 pa0 ca0 a0):C LW fl 66 [(.slice pa0 (a0).length ca0)] ⟨h0,n0⟩ (KR (lvL (rP rI rI) 2) F0 h0 n0 r):=by
 unfold sf66 at hF
 refine vu hd hs hfl lw66 rfl rfl (by rfl) (fun st T hT=>?_)
 have t0:=hT 0 _ rfl
 dsimp only [L66]
 refine zg (zh ?_);refine za ?_;refine zf (th_n ?_);refine zg (zh ?_);refine za ?_;refine zf (th_n ?_);refine zg ?_;refine zg (zh ?_);refine za ?_;refine zf (th_n ?_);refine zE ?_
 have st:=st.nilL 2
 have w1:LR (rP rI rI) 2 F0 ([]:List (Int × Int)) []:=LR.nil
 obtain ⟨y15,hy,hF⟩:=zm hF;refine z5 (sf66_L1 a0) (fun x3 T ds4 h nx=>∃ (F4:PH) (o5:Option Nat) (c5:Nat) (cs5:List HV),ds4 = [] ∧ PH.le F0 F4 ∧ St n0 h0 F0 F4 h nx [.ls o5 c5 cs5 2] ∧ LR (rP rI rI) 2 F4 x3.1 cs5 ∧ T.get 0 = some (.slice pa0 (a0).length ca0) ∧ T.get 3 = some (slv o5 (x3.1).length c5) ∧ T.get 4 = some (i64 x3.2)) (fun y e a σ=>e = .exit 0 ∧ a.nt = 26 ∧ ∃ (F16:PH) (o17:Option Nat) (c17:Nat) (cs17:List HV),a.defers = [] ∧ PH.le F0 F16 ∧ St n0 h0 F0 F16 σ.h σ.nx [.ls o17 c17 cs17 2] ∧ LR (rP rI rI) 2 F16 y cs17 ∧ a.tmps.get 3 = some (slv o17 (y).length c17)) (fun x3 T ds4 h nx s hp hF=>?_) N _ y15 _ _ _ _ hy ⟨F0,none,0,[],rfl,(PH.le.refl _),st,w1,gA,gA,gA⟩ (fun e a σ hne hq=>?_)
 ·obtain ⟨F4,o5,c5,cs5,rfl,le4,st,w5,t0,t3,t4⟩:=hp;unfold sf66_L1 at hF;unfold L66w0;refine zg ?_;refine zg (zh ?_);refine za ?_;refine za ?_;refine yA ?_;refine yg ?_;refine zf (th_n ?_);refine zB (fun hb18=>?_) (fun hb18=>?_)
  ·have hF:=zw hb18 hF;refine zA (th_n ?_);refine zg ?_;refine zE ?_;refine zV (Nat.le_trans hfl st.ext.le) (fun dw=>?_);refine zd st.d dw (fun hm vw=>za zb) ?_;refine zd st.d dw (fun hm vw=>za zb) ?_;refine zd st.d dw (fun hm vw=>za zb) ?_;obtain ⟨n19,x19,z19,l19,g19,hF⟩:=zZ hF;obtain ⟨b19,o19,s19,j19,r19,e19,f19,k19,⟨_,_,rfl,rfl,rfl⟩⟩:=RowF.get ra0 g19;refine zd st.d dw (fun hm vw=>yt e19 z19 l19 zb) ?_;refine zd st.d dw (fun hm vw=>v_fa zb) ?_;refine zd st.d dw (fun hm vw=>zq (vw.fz st (le4 _ _ f19)) (yp (j:=0) k19 rfl) zb) ?_;refine zd st.d dw (fun hm vw=>za zb) ?_
   refine zd st.d dw (fun hm vw=>za zb) ?_;obtain ⟨n20,x20,z20,l20,g20,hF⟩:=zZ hF;obtain ⟨b20,o20,s20,j20,r20,e20,f20,k20,⟨_,_,rfl,rfl,rfl⟩⟩:=RowF.get ra0 g20;refine zd st.d dw (fun hm vw=>yt e20 z20 l20 zb) ?_;refine zd st.d dw (fun hm vw=>v_fa zb) ?_;refine zd st.d dw (fun hm vw=>zq (vw.fz st (le4 _ _ f20)) (yp (j:=1) k20 rfl) zb) ?_;refine ye st.d dw rfl (fun h21 ex vs=>?_)
   have st:=st.ext1 ex
   refine zR (cs:=[(i64 x19.1),(i64 x20.2)]) rfl ?_;refine v_bs (cs:=[(i64 x19.1),(i64 x20.2)]) st rfl (fun b22 h23 n24 st=>?_);obtain ⟨q25,hF⟩:=zj hF
   have w25:LR (rP rI rI) 2 F4 (x3.1 ++ [(x19.1,x20.2)]) (cs5 ++ [(i64 x19.1),(i64 x20.2)]):=LR.app w5 (LR.one (⟨[(i64 x19.1)],_,rfl,rfl,rfl⟩))
   refine jn (n:=1) (ox:=0) (m:=(x3.1 ++ [(x19.1,x20.2)]).length) (row:=[(i64 x19.1),(i64 x20.2)]) st 0 rfl w5.1 (st.at (i:=1) rfl).2.2 rfl rfl q25 hfl (by decide) (by decide) (by simp) (fun o25 c25 h25 n25 st=>?_)
   refine za ?_;refine zf ?_;refine ib_n ?_;refine th_n ?_;refine zh ?_;refine za ?_;obtain ⟨q26,hF⟩:=zj hF;refine zO q26 ?_;refine za ?_;refine zf ?_;refine thn ⟨_,(inj hF).symm,rfl,?_⟩;dsimp only
   exact ⟨F4,o25,c25,(cs5 ++ [(i64 x19.1),(i64 x20.2)]),rfl,le4,(st.drop (by first | exact List.Sublist.refl _ | (repeat first | exact List.nil_sublist _ | refine List.Sublist.cons_cons _ ?_ | refine List.Sublist.cons _ ?_))),w25,gA,gA,gA⟩
  ·have hF:=zx hb18 hF;refine ya ?_;refine th_e ?_;refine th_e ?_;refine ⟨_,(inj hF).symm,rfl,rfl,?_⟩;dsimp only
   exact ⟨F4,o5,c5,cs5,rfl,le4,st,w5,gA⟩
 ·obtain ⟨N9,T,ds16⟩:=a;obtain ⟨h27,n28⟩:=σ;obtain ⟨rfl,e1,F16,o17,c17,cs17,e2,le16,st,w17,t3⟩:=hq
  dsimp only at e1 e2
  subst e1
  subst e2
  dsimp only at st t3
  refine ib_e ?_;refine th_n ?_;refine zg (zh ?_);refine za ?_;refine za ?_;refine zf (th_n ?_);refine zu ?_;obtain rfl:=inj hF
  obtain ⟨F29,le29,st,rf29⟩:=St.freeze st 0 rfl w17 (by decide)
  exact yJ st (Res.t gA Res.nil) ⟨_,_,rfl,rf29⟩
theorem ct29 (N:Nat) {a0_0 a0_1:Int} {r:(Int × Int)} (hF:sf29 N a0_0 a0_1 = some r) (hd:D h0 n0) (hs:F0.sub h0):C LW fl 29 [(.agg [(i64 a0_0),(i64 a0_1)])] ⟨h0,n0⟩ (KS (.agg [(i64 r.1),(i64 r.2)]) n0 h0):=by
 unfold sf29 at hF
 refine z8 hd hs lw29 rfl rfl (by rfl) (fun st T hT=>?_)
 have hfl:n0 ≤ n0:=Nat.le_refl n0
 have t0:=hT 0 _ rfl
 dsimp only [L29]
 refine zg (zh ?_);refine zW st (fun b1 h2 n3 st=>?_);refine zM st (fun b4 h5 n6 st=>?_);refine zf (th_n ?_);refine zg (zh ?_);refine v_fa ?_;refine zq (st.at (i:=0) rfl).2.2 rfl ?_;refine v_fa ?_;refine zq (st.at (i:=0) rfl).2.2 rfl ?_;refine zR (cs:=[(i64 a0_0),(i64 a0_1)]) rfl ?_;refine v_st (cs':=[(i64 a0_0),(i64 a0_1)]) st 1 rfl rfl rfl rfl hfl (fun h7 st=>?_);refine zf (th_n ?_);refine zu ?_;obtain rfl:=inj hF
 exact zD st (Res.c gA (st.at (i:=1) rfl).2.2 (show takeN _ _ = some [(i64 a0_0),(i64 a0_1)] from rfl) Res.nil) rfl rfl
theorem ct169 (N:Nat) {a0_0 a0_1 a1 a2:Int} {r:Bool} (hF:sf169 N a0_0 a0_1 a1 a2 = some r) (hd:D h0 n0) (hs:F0.sub h0):C LW fl 169 [(.agg [(i64 a0_0),(i64 a0_1)]),(i64 a1),(i64 a2)] ⟨h0,n0⟩ (KS (.bool r) n0 h0):=by
 unfold sf169 at hF
 refine z8 hd hs lw169 rfl rfl (by rfl) (fun st T hT=>?_)
 have hfl:n0 ≤ n0:=Nat.le_refl n0
 have t0:=hT 0 _ rfl
 have t1:=hT 1 _ rfl
 have t2:=hT 2 _ rfl
 dsimp only [L169]
 refine zg (zh ?_);refine zW st (fun b1 h2 n3 st=>?_);refine za ?_;refine zf (th_n ?_);refine zg (zh ?_);refine za ?_;refine v_fa ?_;refine zq (st.at (i:=0) rfl).2.2 rfl ?_;refine yx ?_;refine za ?_
 rcases Bool.eq_false_or_eq_true (decide (a1 ≤ a0_0)) with hb4 | hb4
 ·have hF:=zw hb4 hF;refine zi hb4 (v_fa ?_);refine zi hb4 (zq (st.at (i:=0) rfl).2.2 rfl ?_);refine zi hb4 (v_fa ?_);refine zi hb4 (zq (st.at (i:=0) rfl).2.2 rfl ?_);refine zi hb4 (yx ?_);refine zG hb4 ?_;refine za ?_
  rcases Bool.eq_false_or_eq_true (decide (a0_0 ≤ a0_1)) with hb5 | hb5
  ·have hF:=zw hb5 hF;refine zi hb5 (v_fa ?_);refine zi hb5 (zq (st.at (i:=0) rfl).2.2 rfl ?_);refine zi hb5 (za ?_);refine zi hb5 (yx ?_);refine zG hb5 ?_;refine za ?_;refine zf (th_n ?_);refine zu ?_;obtain rfl:=inj hF
   exact zD st (Res.t gA Res.nil) rfl rfl
  ·have hF:=zx hb5 hF;refine ze hb5 ?_;refine ze hb5 ?_;refine ze hb5 ?_;refine ze hb5 ?_;refine zC hb5 ?_;refine za ?_;refine zf (th_n ?_);refine zu ?_;obtain rfl:=inj hF
   exact zD st (Res.t gA Res.nil) rfl rfl
 ·have hF:=zx hb4 hF;refine ze hb4 ?_;refine ze hb4 ?_;refine ze hb4 ?_;refine ze hb4 ?_;refine ze hb4 ?_;refine zC hb4 ?_;refine za ?_;refine ze rfl ?_;refine ze rfl ?_;refine ze rfl ?_;refine ze rfl ?_;refine zC rfl ?_;refine za ?_;refine zf (th_n ?_);refine zu ?_;obtain rfl:=inj hF
  exact zD st (Res.t gA Res.nil) rfl rfl
theorem ct180 (N:Nat) {a0_0 a0_1 a1:Int} {r:Bool} (hF:sf180 N a0_0 a0_1 a1 = some r) (hd:D h0 n0) (hs:F0.sub h0):C LW fl 180 [(.agg [(i64 a0_0),(i64 a0_1)]),(i64 a1)] ⟨h0,n0⟩ (KS (.bool r) n0 h0):=by
 unfold sf180 at hF
 refine z8 hd hs lw180 rfl rfl (by rfl) (fun st T hT=>?_)
 have hfl:n0 ≤ n0:=Nat.le_refl n0
 have t0:=hT 0 _ rfl
 have t1:=hT 1 _ rfl
 dsimp only [L180]
 refine zg (zh ?_);refine zW st (fun b1 h2 n3 st=>?_);refine za ?_;refine zf (th_n ?_);refine zg (zh ?_);refine v_fa ?_;refine zq (st.at (i:=0) rfl).2.2 rfl ?_;refine za ?_;refine yx ?_;refine za ?_
 rcases Bool.eq_false_or_eq_true (decide (a0_0 ≤ a1)) with hb4 | hb4
 ·have hF:=zw hb4 hF;refine zi hb4 (za ?_);refine zi hb4 (v_fa ?_);refine zi hb4 (zq (st.at (i:=0) rfl).2.2 rfl ?_);refine zi hb4 (yx ?_);refine zG hb4 ?_;refine za ?_;refine zf (th_n ?_);refine zu ?_;obtain rfl:=inj hF
  exact zD st (Res.t gA Res.nil) rfl rfl
 ·have hF:=zx hb4 hF;refine ze hb4 ?_;refine ze hb4 ?_;refine ze hb4 ?_;refine ze hb4 ?_;refine zC hb4 ?_;refine za ?_;refine zf (th_n ?_);refine zu ?_;obtain rfl:=inj hF
  exact zD st (Res.t gA Res.nil) rfl rfl
theorem ct181 (N:Nat) {a0p0 a0p1 a0p2 a0p3 a0p4:Int} {a0p5:(Nat → Int)} {a1 a2 a3:Int} {r:Bool} (hF:sf181 N a0p0 a0p1 a0p2 a0p3 a0p4 a0p5 a1 a2 a3 = some r) (hd:D h0 n0) (hs:F0.sub h0) {ba0:Nat} (hba0:F0 ba0 = some (.cells ([(i64 a0p0),(i64 a0p1),(i64 a0p2),(i64 a0p3),(i64 a0p4)] ++ (eI .i64 169 a0p5)) .exact)):C LW fl 181 [(.ptr (some (ba0,4))),(i64 a1),(i64 a2),(i64 a3)] ⟨h0,n0⟩ (KS (.bool r) n0 h0):=by
 unfold sf181 at hF
 refine z8 hd hs lw181 rfl rfl (by rfl) (fun st T hT=>?_)
 have hfl:n0 ≤ n0:=Nat.le_refl n0
 have t0:=hT 0 _ rfl
 have t1:=hT 1 _ rfl
 have t2:=hT 2 _ rfl
 have t3:=hT 3 _ rfl
 dsimp only [L181]
 refine zg (zh ?_);refine za ?_;refine zf (th_n ?_);refine zg (zh ?_);refine za ?_;refine za ?_;refine za ?_;refine za ?_;refine v_nc ?_;refine v_fa ?_;obtain ⟨q1,hF⟩:=zj hF
 refine zT (j:=(Int.toNat a2)) (Int.toNat_of_nonneg q1.1).symm (by omega) ?_
 obtain ⟨q2,hF⟩:=zj hF
 refine zT (j:=(Int.toNat a1)) (Int.toNat_of_nonneg q2.1).symm (by omega) ?_
 refine zq (o:=((5+(Int.toNat a2) * 13)+(Int.toNat a1) * 1)) (st.sub _ _ hba0) (yw (p:=5) (ix:=(((Int.toNat a2) * 13)+(Int.toNat a1))) [(i64 a0p0),(i64 a0p1),(i64 a0p2),(i64 a0p3),(i64 a0p4)] rfl (by omega) (by omega)) ?_
 obtain ⟨q3,hF⟩:=zj hF;refine zO q3 ?_;refine uq ?_;refine za ?_;refine zf (th_n ?_);refine zu ?_;obtain rfl:=inj hF
 exact zD st (Res.t gA Res.nil) rfl rfl
theorem ct96 (N:Nat) {r:Unit} (hF:sf96 N = some r) (hd:D h0 n0) (hs:F0.sub h0):C LW fl 96 [] ⟨h0,n0⟩ (KS (.agg [(.via 215 "Lowest" 136),(.via 215 "Highest" 137)]) n0 h0):=by
 unfold sf96 at hF
 refine z8 hd hs lw96 rfl rfl (by rfl) (fun st T hT=>?_)
 have hfl:n0 ≤ n0:=Nat.le_refl n0
 dsimp only [L96]
 refine zg (zh ?_);refine zM st (fun b1 h2 n3 st=>?_);refine zf (th_n ?_);refine zg (zh ?_);refine za ?_;refine za ?_;refine zR (cs:=[(.via 215 "Lowest" 136),(.via 215 "Highest" 137)]) rfl ?_;refine v_st (cs':=[(.via 215 "Lowest" 136),(.via 215 "Highest" 137)]) st 0 rfl rfl rfl rfl hfl (fun h4 st=>?_);refine zf (th_n ?_);refine zu ?_;obtain rfl:=inj hF
 exact zD st (Res.c gA (st.at (i:=0) rfl).2.2 (show takeN _ _ = some [(.via 215 "Lowest" 136),(.via 215 "Highest" 137)] from rfl) Res.nil) rfl rfl
theorem ct136 (N:Nat) {a0p0 a0p1 a0p2 a0p3 a0p4:Int} {a0p5:(Nat → Int)} {a1 r:Int} (hF:sf136 N a0p0 a0p1 a0p2 a0p3 a0p4 a0p5 a1 = some r) (hd:D h0 n0) (hs:F0.sub h0) {ba0:Nat} (hba0:F0 ba0 = some (.cells ([(i64 a0p0),(i64 a0p1),(i64 a0p2),(i64 a0p3),(i64 a0p4)] ++ (eI .i64 169 a0p5)) .exact)):C LW fl 136 [(.ptr (some (ba0,4))),(i64 a1)] ⟨h0,n0⟩ (KS (i64 r) n0 h0):=by
 unfold sf136 at hF
 refine z8 hd hs lw136 rfl rfl (by rfl) (fun st T hT=>?_)
 have hfl:n0 ≤ n0:=Nat.le_refl n0
 have t0:=hT 0 _ rfl
 have t1:=hT 1 _ rfl
 dsimp only [L136]
 refine zg (zh ?_);refine za ?_;refine zf (th_n ?_);refine zg (zh ?_);refine za ?_;refine za ?_;refine v_nc ?_;refine v_fa ?_;obtain ⟨q1,hF⟩:=zj hF
 refine zT (j:=(Int.toNat a1)) (Int.toNat_of_nonneg q1.1).symm (by omega) ?_
 obtain ⟨q2,hF⟩:=zj hF
 refine zT (j:=(Int.toNat (0:Int))) (Int.toNat_of_nonneg q2.1).symm (by omega) ?_
 refine zq (o:=((5+(Int.toNat a1) * 13)+(Int.toNat (0:Int)) * 1)) (st.sub _ _ hba0) (yw (p:=5) (ix:=(((Int.toNat a1) * 13)+(Int.toNat (0:Int)))) [(i64 a0p0),(i64 a0p1),(i64 a0p2),(i64 a0p3),(i64 a0p4)] rfl (by omega) (by omega)) ?_
 obtain ⟨q3,hF⟩:=zj hF;refine Yy q3 ?_;refine za ?_;refine zf (th_n ?_);refine zu ?_;obtain rfl:=inj hF
 exact zD st (Res.t gA Res.nil) rfl rfl
theorem ct137 (N:Nat) {a0p0 a0p1 a0p2 a0p3 a0p4:Int} {a0p5:(Nat → Int)} {a1 r:Int} (hF:sf137 N a0p0 a0p1 a0p2 a0p3 a0p4 a0p5 a1 = some r) (hd:D h0 n0) (hs:F0.sub h0) {ba0:Nat} (hba0:F0 ba0 = some (.cells ([(i64 a0p0),(i64 a0p1),(i64 a0p2),(i64 a0p3),(i64 a0p4)] ++ (eI .i64 169 a0p5)) .exact)):C LW fl 137 [(.ptr (some (ba0,4))),(i64 a1)] ⟨h0,n0⟩ (KS (i64 r) n0 h0):=by
 unfold sf137 at hF
 refine z8 hd hs lw137 rfl rfl (by rfl) (fun st T hT=>?_)
 have hfl:n0 ≤ n0:=Nat.le_refl n0
 have t0:=hT 0 _ rfl
 have t1:=hT 1 _ rfl
 dsimp only [L137]
 refine zg (zh ?_);refine za ?_;refine zf (th_n ?_);refine zg (zh ?_);refine za ?_;refine za ?_;refine v_nc ?_;refine v_fa ?_;obtain ⟨q1,hF⟩:=zj hF
 refine zT (j:=(Int.toNat (0:Int))) (Int.toNat_of_nonneg q1.1).symm (by omega) ?_
 obtain ⟨q2,hF⟩:=zj hF
 refine zT (j:=(Int.toNat a1)) (Int.toNat_of_nonneg q2.1).symm (by omega) ?_
 refine zq (o:=((5+(Int.toNat (0:Int)) * 13)+(Int.toNat a1) * 1)) (st.sub _ _ hba0) (yw (p:=5) (ix:=(((Int.toNat (0:Int)) * 13)+(Int.toNat a1))) [(i64 a0p0),(i64 a0p1),(i64 a0p2),(i64 a0p3),(i64 a0p4)] rfl (by omega) (by omega)) ?_
 refine za ?_;refine zf (th_n ?_);refine zu ?_;obtain rfl:=inj hF
 exact zD st (Res.t gA Res.nil) rfl rfl
theorem ct144 (N:Nat) {a0_0 a0_1 a1:Int} {r:Bool} (hF:sf144 N a0_0 a0_1 a1 = some r) (hd:D h0 n0) (hs:F0.sub h0):C LW fl 144 [(.agg [(i64 a0_0),(i64 a0_1)]),(i64 a1)] ⟨h0,n0⟩ (KS (.bool r) n0 h0):=by
 unfold sf144 at hF
 refine z8 hd hs lw144 rfl rfl (by rfl) (fun st T hT=>?_)
 have hfl:n0 ≤ n0:=Nat.le_refl n0
 have t0:=hT 0 _ rfl
 have t1:=hT 1 _ rfl
 dsimp only [L144]
 refine zg (zh ?_);refine zW st (fun b1 h2 n3 st=>?_);refine za ?_;refine zf (th_n ?_);refine zg (zh ?_);refine v_fa ?_;refine zq (st.at (i:=0) rfl).2.2 rfl ?_;refine za ?_;refine yx ?_;refine za ?_
 rcases Bool.eq_false_or_eq_true (decide (a0_0 ≤ a1)) with hb4 | hb4
 ·have hF:=zw hb4 hF;refine zi hb4 (za ?_);refine zi hb4 (v_fa ?_);refine zi hb4 (zq (st.at (i:=0) rfl).2.2 rfl ?_);refine zi hb4 (yx ?_);refine zG hb4 ?_;refine za ?_;refine zf (th_n ?_);refine zu ?_;obtain rfl:=inj hF
  exact zD st (Res.t gA Res.nil) rfl rfl
 ·have hF:=zx hb4 hF;refine ze hb4 ?_;refine ze hb4 ?_;refine ze hb4 ?_;refine ze hb4 ?_;refine zC hb4 ?_;refine za ?_;refine zf (th_n ?_);refine zu ?_;obtain rfl:=inj hF
  exact zD st (Res.t gA Res.nil) rfl rfl
theorem ct158 (N:Nat) {a0_0 a0_1 a1_0 a1_1:Int} {r:Bool} (hF:sf158 N a0_0 a0_1 a1_0 a1_1 = some r) (hd:D h0 n0) (hs:F0.sub h0):C LW fl 158 [(.agg [(i64 a0_0),(i64 a0_1)]),(.agg [(i64 a1_0),(i64 a1_1)])] ⟨h0,n0⟩ (KS (.bool r) n0 h0):=by
 unfold sf158 at hF
 refine z8 hd hs lw158 rfl rfl (by rfl) (fun st T hT=>?_)
 have hfl:n0 ≤ n0:=Nat.le_refl n0
 have t0:=hT 0 _ rfl
 have t1:=hT 1 _ rfl
 dsimp only [L158]
 refine zg (zh ?_);refine zW st (fun b1 h2 n3 st=>?_);refine zW st (fun b4 h5 n6 st=>?_);refine za ?_;refine zf (th_n ?_);refine zg (zh ?_);refine v_fa ?_;refine zq (st.at (i:=0) rfl).2.2 rfl ?_;refine v_fa ?_;refine zq (st.at (i:=1) rfl).2.2 rfl ?_;refine yg ?_;refine za ?_
 rcases Bool.eq_false_or_eq_true (decide (a0_0 < a1_0)) with hb7 | hb7
 ·have hF:=zw hb7 hF;refine zi hb7 (v_fa ?_);refine zi hb7 (zq (st.at (i:=0) rfl).2.2 rfl ?_);refine zi hb7 (v_fa ?_);refine zi hb7 (zq (st.at (i:=1) rfl).2.2 rfl ?_);refine zi hb7 (yg ?_);refine zG hb7 ?_;refine za ?_;refine zf (th_n ?_);refine zu ?_;obtain rfl:=inj hF
  exact zD st (Res.t gA Res.nil) rfl rfl
 ·have hF:=zx hb7 hF;refine ze hb7 ?_;refine ze hb7 ?_;refine ze hb7 ?_;refine ze hb7 ?_;refine ze hb7 ?_;refine zC hb7 ?_;refine za ?_;refine zf (th_n ?_);refine zu ?_;obtain rfl:=inj hF
  exact zD st (Res.t gA Res.nil) rfl rfl
theorem ct140 (N:Nat) {a0:(List (Int × Int))} {r:(Int × Int)} (hF:sf140 N a0 = some r) (hd:D h0 n0) (hs:F0.sub h0) {pa0:Option (Nat × Nat)} {ca0:Nat} (ra0:RowF (rP rI rI) 2 F0 pa0 ca0 a0):C LW fl 140 [(.slice pa0 (a0).length ca0)] ⟨h0,n0⟩ (KS (.agg [(i64 r.1),(i64 r.2)]) n0 h0):=by
 unfold sf140 at hF
 refine z8 hd hs lw140 rfl rfl (by rfl) (fun st T hT=>?_)
 have hfl:n0 ≤ n0:=Nat.le_refl n0
 have t0:=hT 0 _ rfl
 dsimp only [L140]
 refine zg (zh ?_);refine zM st (fun b1 h2 n3 st=>?_);refine zf (th_n ?_);refine zg ?_;refine zV (Nat.le_trans hfl st.ext.le) (fun dw=>?_);refine zd st.d dw (fun hm vw=>za zb) ?_;obtain ⟨n4,x4,z4,l4,g4,hF⟩:=zZ hF;obtain ⟨b4,o4,s4,j4,r4,e4,f4,k4,⟨_,_,rfl,rfl,rfl⟩⟩:=RowF.get ra0 g4;refine zd st.d dw (fun hm vw=>yt e4 z4 l4 zb) ?_;refine zd st.d dw (fun hm vw=>v_fa zb) ?_;refine zd st.d dw (fun hm vw=>zq (vw.fz st f4) (yp (j:=0) k4 rfl) zb) ?_;refine zd st.d dw (fun hm vw=>za zb) ?_;refine zd st.d dw (fun hm vw=>za zb) ?_;refine zd st.d dw (fun hm vw=>yA zb) ?_
 obtain ⟨q5,hF⟩:=zj hF;refine zd st.d dw (fun hm vw=>yq q5 zb) ?_;obtain ⟨n6,x6,z6,l6,g6,hF⟩:=zZ hF;obtain ⟨b6,o6,s6,j6,r6,e6,f6,k6,⟨_,_,rfl,rfl,rfl⟩⟩:=RowF.get ra0 g6;refine zd st.d dw (fun hm vw=>yt e6 z6 l6 zb) ?_;refine zd st.d dw (fun hm vw=>v_fa zb) ?_;refine zd st.d dw (fun hm vw=>zq (vw.fz st f6) (yp (j:=0) k6 rfl) zb) ?_;refine ye st.d dw rfl (fun h7 ex vs=>?_)
 have st:=st.ext1 ex
 refine zR (cs:=[(i64 x4.1),(i64 x6.1)]) rfl ?_;refine v_st (cs':=[(i64 x4.1),(i64 x6.1)]) st 0 rfl rfl rfl rfl hfl (fun h8 st=>?_);refine zf (th_n ?_);refine zu ?_;obtain rfl:=inj hF
 exact zD st (Res.c gA (st.at (i:=0) rfl).2.2 (show takeN _ _ = some [(i64 x4.1),(i64 x6.1)] from rfl) Res.nil) rfl rfl
end Go.Hx.V

namespace Go.Hx.V
open Go.Hx
set_option maxRecDepth 20000
set_option maxHeartbeats 4000000
variable {fl : Nat} {h0 : Tr HBlk} {n0 : Nat} {F0 : PH}
attribute [local irreducible] W R C thenH inBlockH Tr.get Tr.set lo ck bnd ix iter
theorem ct160 (N:Nat) {a0_0 a0_1 r:Int} (hF:sf160 N a0_0 a0_1 = some r) (hd:D h0 n0) (hs:F0.sub h0):C LW fl 160 [(.agg [(i64 a0_0),(i64 a0_1)])] ⟨h0,n0⟩ (KS (i64 r) n0 h0):=by
 unfold sf160 at hF
 refine z8 hd hs lw160 rfl rfl (by rfl) (fun st T hT=>?_)
 have hfl:n0 ≤ n0:=Nat.le_refl n0
 have t0:=hT 0 _ rfl
 dsimp only [L160]
 refine zg (zh ?_);refine zW st (fun b1 h2 n3 st=>?_);refine za ?_;refine zf (th_n ?_);refine zg (zh ?_);refine v_fa ?_;refine zq (st.at (i:=0) rfl).2.2 rfl ?_;refine v_fa ?_;refine zq (st.at (i:=0) rfl).2.2 rfl ?_;obtain ⟨q4,hF⟩:=zj hF;refine uo q4 ?_;refine za ?_;refine zf (th_n ?_);refine zg ?_;refine zg (zh ?_);refine v_fa ?_;refine zq (st.at (i:=0) rfl).2.2 rfl ?_;refine v_fa ?_;refine zq (st.at (i:=0) rfl).2.2 rfl ?_;obtain ⟨q5,hF⟩:=zj hF;refine jm q5 ?_;refine yg ?_;refine zf (th_n ?_);refine zB (fun hb6=>?_) (fun hb6=>?_)
 ·have hF:=zw hb6 hF;refine zh ?_;refine za ?_;obtain ⟨q7,hF⟩:=zj hF;refine yq q7 ?_;refine za ?_;refine zf (th_n ?_);refine zg (zh ?_);refine za ?_;refine za ?_;refine zf (th_n ?_);refine zu ?_;obtain rfl:=inj hF
  exact zD st (Res.t gA Res.nil) rfl rfl
 ·have hF:=zx hb6 hF;refine zA (th_n ?_);refine zg (zh ?_);refine za ?_;refine za ?_;refine zf (th_n ?_);refine zu ?_;obtain rfl:=inj hF
  exact zD st (Res.t gA Res.nil) rfl rfl
theorem ct103 (N:Nat) {a0:Int} {r:(Int × Int)} (hF:sf103 N a0 = some r) (hd:D h0 n0) (hs:F0.sub h0):C LW fl 103 [(i64 a0)] ⟨h0,n0⟩ (KS (.agg [(i64 r.1),(i64 r.2)]) n0 h0):=by
 unfold sf103 at hF
 refine z8 hd hs lw103 rfl rfl (by rfl) (fun st T hT=>?_)
 have hfl:n0 ≤ n0:=Nat.le_refl n0
 have t0:=hT 0 _ rfl
 dsimp only [L103]
 refine zg (zh ?_);refine zM st (fun b1 h2 n3 st=>?_);refine zf (th_n ?_);refine zg (zh ?_);refine za ?_;refine zR (cs:=[(i64 0),(i64 a0)]) rfl ?_;refine v_st (cs':=[(i64 0),(i64 a0)]) st 0 rfl rfl rfl rfl hfl (fun h4 st=>?_);refine zf (th_n ?_);refine zu ?_;obtain rfl:=inj hF
 exact zD st (Res.c gA (st.at (i:=0) rfl).2.2 (show takeN _ _ = some [(i64 0),(i64 a0)] from rfl) Res.nil) rfl rfl
theorem ct110 (N:Nat) {a0_0 a0_1 a1:Int} {r:Bool} (hF:sf110 N a0_0 a0_1 a1 = some r) (hd:D h0 n0) (hs:F0.sub h0):C LW fl 110 [(.agg [(i64 a0_0),(i64 a0_1)]),(i64 a1)] ⟨h0,n0⟩ (KS (.bool r) n0 h0):=by
 unfold sf110 at hF
 refine z8 hd hs lw110 rfl rfl (by rfl) (fun st T hT=>?_)
 have hfl:n0 ≤ n0:=Nat.le_refl n0
 have t0:=hT 0 _ rfl
 have t1:=hT 1 _ rfl
 dsimp only [L110]
 refine zg (zh ?_);refine zW st (fun b1 h2 n3 st=>?_);refine za ?_;refine zf (th_n ?_);refine zg (zh ?_);refine v_fa ?_;refine zq (st.at (i:=0) rfl).2.2 rfl ?_;refine za ?_;refine yx ?_;refine za ?_
 rcases Bool.eq_false_or_eq_true (decide (a0_0 ≤ a1)) with hb4 | hb4
 ·have hF:=zw hb4 hF;refine zi hb4 (za ?_);refine zi hb4 (v_fa ?_);refine zi hb4 (zq (st.at (i:=0) rfl).2.2 rfl ?_);refine zi hb4 (yx ?_);refine zG hb4 ?_;refine za ?_;refine zf (th_n ?_);refine zu ?_;obtain rfl:=inj hF
  exact zD st (Res.t gA Res.nil) rfl rfl
 ·have hF:=zx hb4 hF;refine ze hb4 ?_;refine ze hb4 ?_;refine ze hb4 ?_;refine ze hb4 ?_;refine zC hb4 ?_;refine za ?_;refine zf (th_n ?_);refine zu ?_;obtain rfl:=inj hF
  exact zD st (Res.t gA Res.nil) rfl rfl
theorem ct161 (N:Nat) {r:Unit} (hF:sf161 N = some r) (hd:D h0 n0) (hs:F0.sub h0):C LW fl 161 [] ⟨h0,n0⟩ (KS (.agg [(.func 107 [] []),(.func 172 [] [])]) n0 h0):=by
 unfold sf161 at hF
 refine z8 hd hs lw161 rfl rfl (by rfl) (fun st T hT=>?_)
 have hfl:n0 ≤ n0:=Nat.le_refl n0
 dsimp only [L161]
 refine zg (zh ?_);refine zM st (fun b1 h2 n3 st=>?_);refine zf (th_n ?_);refine zg (zh ?_);refine zR (cs:=[(.func 107 [] []),(.func 172 [] [])]) rfl ?_;refine v_st (cs':=[(.func 107 [] []),(.func 172 [] [])]) st 0 rfl rfl rfl rfl hfl (fun h4 st=>?_);refine zf (th_n ?_);refine zu ?_;obtain rfl:=inj hF
 exact zD st (Res.c gA (st.at (i:=0) rfl).2.2 (show takeN _ _ = some [(.func 107 [] []),(.func 172 [] [])] from rfl) Res.nil) rfl rfl
theorem ct107 (N:Nat) {a0_0 a0_1 r:Int} (hF:sf107 N a0_0 a0_1 = some r) (hd:D h0 n0) (hs:F0.sub h0):C LW fl 107 [(.agg [(i64 a0_0),(i64 a0_1)])] ⟨h0,n0⟩ (KS (i64 r) n0 h0):=by
 unfold sf107 at hF
 refine z8 hd hs lw107 rfl rfl (by rfl) (fun st T hT=>?_)
 have hfl:n0 ≤ n0:=Nat.le_refl n0
 have t0:=hT 0 _ rfl
 dsimp only [L107]
 refine zg (zh ?_);refine zW st (fun b1 h2 n3 st=>?_);refine za ?_;refine zf (th_n ?_);refine zg (zh ?_);refine v_fa ?_;refine zq (st.at (i:=0) rfl).2.2 rfl ?_;refine v_fa ?_;refine zq (st.at (i:=0) rfl).2.2 rfl ?_;obtain ⟨q4,hF⟩:=zj hF;refine uo q4 ?_;refine za ?_;refine zf (th_n ?_);refine zu ?_;obtain rfl:=inj hF
 exact zD st (Res.t gA Res.nil) rfl rfl
theorem ct172 (N:Nat) {a0_0 a0_1 r:Int} (hF:sf172 N a0_0 a0_1 = some r) (hd:D h0 n0) (hs:F0.sub h0):C LW fl 172 [(.agg [(i64 a0_0),(i64 a0_1)])] ⟨h0,n0⟩ (KS (i64 r) n0 h0):=by
 unfold sf172 at hF
 refine z8 hd hs lw172 rfl rfl (by rfl) (fun st T hT=>?_)
 have hfl:n0 ≤ n0:=Nat.le_refl n0
 have t0:=hT 0 _ rfl
 dsimp only [L172]
 refine zg (zh ?_);refine zW st (fun b1 h2 n3 st=>?_);refine za ?_;refine zf (th_n ?_);refine zg (zh ?_);refine v_fa ?_;refine zq (st.at (i:=0) rfl).2.2 rfl ?_;refine v_fa ?_;refine zq (st.at (i:=0) rfl).2.2 rfl ?_;obtain ⟨q4,hF⟩:=zj hF;refine zO q4 ?_;obtain ⟨q5,hF⟩:=zj hF;refine yq q5 ?_;refine v_fa ?_;refine zq (st.at (i:=0) rfl).2.2 rfl ?_;obtain ⟨q6,hF⟩:=zj hF;refine uo q6 ?_;refine za ?_;refine zf (th_n ?_);refine zu ?_;obtain rfl:=inj hF
 exact zD st (Res.t gA Res.nil) rfl rfl
theorem ct98 (N:Nat) {a0 a1 a2:Int} {r:Bool} (hF:sf98 N a0 a1 a2 = some r) (hd:D h0 n0) (hs:F0.sub h0):C LW fl 98 [(i64 a0),(i64 a1),(i64 a2)] ⟨h0,n0⟩ (KS (.bool r) n0 h0):=by
 unfold sf98 at hF
 refine z8 hd hs lw98 rfl rfl (by rfl) (fun st T hT=>?_)
 have hfl:n0 ≤ n0:=Nat.le_refl n0
 have t0:=hT 0 _ rfl
 have t1:=hT 1 _ rfl
 have t2:=hT 2 _ rfl
 dsimp only [L98]
 refine zg (zh ?_);refine za ?_;refine zf (th_n ?_);refine zg (zh ?_);refine za ?_;refine za ?_;refine uq ?_;refine za ?_
 rcases Bool.eq_false_or_eq_true (decide (a1 ≤ a0)) with hb1 | hb1
 ·have hF:=zw hb1 hF;refine zi hb1 (za ?_);refine zi hb1 (za ?_);refine zi hb1 (yx ?_);refine zG hb1 ?_;refine za ?_;refine zf (th_n ?_);refine zu ?_;obtain rfl:=inj hF
  exact zD st (Res.t gA Res.nil) rfl rfl
 ·have hF:=zx hb1 hF;refine ze hb1 ?_;refine ze hb1 ?_;refine ze hb1 ?_;refine zC hb1 ?_;refine za ?_;refine zf (th_n ?_);refine zu ?_;obtain rfl:=inj hF
  exact zD st (Res.t gA Res.nil) rfl rfl
theorem ct25 (N:Nat) {a0 a1 a2:Int} {r:Bool} (hF:sf25 N a0 a1 a2 = some r) (hd:D h0 n0) (hs:F0.sub h0):C LW fl 25 [(i64 a0),(i64 a1),(i64 a2)] ⟨h0,n0⟩ (KS (.bool r) n0 h0):=by
 unfold sf25 at hF
 refine z8 hd hs lw25 rfl rfl (by rfl) (fun st T hT=>?_)
 have hfl:n0 ≤ n0:=Nat.le_refl n0
 have t0:=hT 0 _ rfl
 have t1:=hT 1 _ rfl
 have t2:=hT 2 _ rfl
 dsimp only [L25]
 refine zg (zh ?_);refine za ?_;refine zf (th_n ?_);refine zg (zh ?_);refine za ?_;refine za ?_;refine uq ?_;refine za ?_
 rcases Bool.eq_false_or_eq_true (decide (a1 ≤ a0)) with hb1 | hb1
 ·have hF:=zw hb1 hF;refine zi hb1 (za ?_);refine zi hb1 (za ?_);refine zi hb1 (yx ?_);refine zG hb1 ?_;refine za ?_;refine zf (th_n ?_);refine zu ?_;obtain rfl:=inj hF
  exact zD st (Res.t gA Res.nil) rfl rfl
 ·have hF:=zx hb1 hF;refine ze hb1 ?_;refine ze hb1 ?_;refine ze hb1 ?_;refine zC hb1 ?_;refine za ?_;refine zf (th_n ?_);refine zu ?_;obtain rfl:=inj hF
  exact zD st (Res.t gA Res.nil) rfl rfl
theorem ct73 (N:Nat) {a0:(List (Int × Int))} {a1 r:Int} (hF:sf73 N a0 a1 = some r) (hd:D h0 n0) (hs:F0.sub h0) {pa0:Option (Nat × Nat)} {ca0:Nat} (ra0:RowF (rP rI rI) 2 F0 pa0 ca0 a0):C LW fl 73 [(.slice pa0 (a0).length ca0),(i64 a1)] ⟨h0,n0⟩ (KS (i64 r) n0 h0):=by
 unfold sf73 at hF
 refine z8 hd hs lw73 rfl rfl (by rfl) (fun st T hT=>?_)
 have hfl:n0 ≤ n0:=Nat.le_refl n0
 have t0:=hT 0 _ rfl
 have t1:=hT 1 _ rfl
 dsimp only [L73]
 refine zg (zh ?_);refine za ?_;refine zf (th_n ?_);refine zg (zh ?_);refine za ?_;refine zf (th_n ?_);refine zg ?_;refine zE ?_;obtain ⟨y7,hy,hF⟩:=zm hF;refine z5 (sf73_L1 a0 a1) (fun x1 T ds2 h nx=>∃ (F2:PH),ds2 = [] ∧ PH.le F0 F2 ∧ St n0 h0 F0 F2 h nx [] ∧ T.get 0 = some (.slice pa0 (a0).length ca0) ∧ T.get 1 = some (i64 a1) ∧ T.get 5 = some (i64 x1)) (fun y e a σ=>e = .exit 0 ∧ a.nt = 46 ∧ ∃ (F8:PH),a.defers = [] ∧ PH.le F0 F8 ∧ St n0 h0 F0 F8 σ.h σ.nx [] ∧ a.tmps.get 0 = some (.slice pa0 (a0).length ca0) ∧ a.tmps.get 1 = some (i64 a1) ∧ a.tmps.get 5 = some (i64 y)) (fun x1 T ds2 h nx s hp hF=>?_) N _ y7 _ _ _ _ hy ⟨F0,rfl,(PH.le.refl _),st,gA,gA,gA⟩ (fun e a σ hne hq=>?_)
 ·obtain ⟨F2,rfl,le2,st,t0,t1,t5⟩:=hp;unfold sf73_L1 at hF;unfold L73w0;refine zg ?_;refine zg (zh ?_);refine za ?_;refine za ?_;obtain ⟨q9,hF⟩:=zj hF;refine zO q9 ?_;obtain ⟨n10,x10,z10,l10,g10,hF⟩:=zZ hF;obtain ⟨b10,o10,s10,j10,r10,e10,f10,k10,⟨_,_,rfl,rfl,rfl⟩⟩:=RowF.get ra0 g10;refine yt e10 z10 l10 ?_;refine v_fa ?_;refine zq (st.sub _ _ (le2 _ _ f10)) (yp (j:=0) k10 rfl) ?_;refine za ?_;refine yg ?_;refine zf (th_n ?_);refine zB (fun hb11=>?_) (fun hb11=>?_)
  ·have hF:=zw hb11 hF;refine zA (th_n ?_);refine zE ?_;refine zh ?_;refine za ?_;obtain ⟨q12,hF⟩:=zj hF;refine zO q12 ?_;refine za ?_;refine zf ?_;refine ib_n ?_;refine thn ⟨_,(inj hF).symm,rfl,?_⟩;dsimp only
   exact ⟨F2,rfl,le2,st,gA,gA,gA⟩
  ·have hF:=zx hb11 hF;refine ya ?_;refine th_e ?_;refine th_e ?_;refine ⟨_,(inj hF).symm,rfl,rfl,?_⟩;dsimp only
   exact ⟨F2,rfl,le2,st,gA,gA,gA⟩
 ·obtain ⟨N9,T,ds8⟩:=a;obtain ⟨h13,n14⟩:=σ;obtain ⟨rfl,e1,F8,e2,le8,st,t0,t1,t5⟩:=hq
  dsimp only at e1 e2
  subst e1
  subst e2
  dsimp only at st t0 t1 t5
  refine ib_e ?_;refine th_n ?_;refine zg ?_;refine zV (Nat.le_trans hfl st.ext.le) (fun dw=>?_);refine zd st.d dw (fun hm vw=>za zb) ?_;refine zd st.d dw (fun hm vw=>za zb) ?_;obtain ⟨n15,x15,z15,l15,g15,hF⟩:=zZ hF;obtain ⟨b15,o15,s15,j15,r15,e15,f15,k15,⟨_,_,rfl,rfl,rfl⟩⟩:=RowF.get ra0 g15;refine zd st.d dw (fun hm vw=>yt e15 z15 l15 zb) ?_;refine zd st.d dw (fun hm vw=>zK (vw.fz st (le8 _ _ f15)) k15 zb) ?_;refine zd st.d dw (fun hm vw=>za zb) ?_;refine zd st.d dw (fun hm vw=>za zb) ?_;obtain ⟨q16,hF⟩:=zj hF;refine zd st.d dw (fun hm vw=>zO q16 zb) ?_
  obtain ⟨n17,x17,z17,l17,g17,hF⟩:=zZ hF;obtain ⟨b17,o17,s17,j17,r17,e17,f17,k17,⟨_,_,rfl,rfl,rfl⟩⟩:=RowF.get ra0 g17;refine zd st.d dw (fun hm vw=>yt e17 z17 l17 zb) ?_;refine zd st.d dw (fun hm vw=>zK (vw.fz st (le8 _ _ f17)) k17 zb) ?_;refine Yw st.d dw (fun hm vw=>jw zb) (fun done dw=>?_);refine Yw st.d dw (fun hm vw=>jw zb) (fun done dw=>?_)
  refine y_upd (E:=[(n14,[(i64 x15.1),(i64 x15.2)]),((n14+1),[(i64 0),(i64 0)])]) st dw rfl (fun hm vw=>u_st (E:=[(n14,[(i64 x15.1),(i64 x15.2)]),((n14+1),[(i64 0),(i64 0)])]) (b:=n14) (o:=0) (cs:=[(i64 0),(i64 0)]) (cs':=[(i64 x15.1),(i64 x15.2)]) (v:=(.agg [(i64 x15.1),(i64 x15.2)])) vw (Nat.le_trans hfl st.ext.le) (by have:=dw.le;omega) (vw.vis _ (List.mem_cons_of_mem _ (List.mem_cons_self ..)) rfl _ _ (if_pos rfl)) rfl rfl rfl (XJ (.inl ⟨rfl,rfl⟩) (XJ (.inr ⟨by omega,by have:=dw.le;omega,vw.vis _ (List.mem_cons_self ..) rfl _ _ (if_pos rfl)⟩) bls_nil))) (fun done G18 dw hG18=>?_)
  refine ye st.d dw rfl (fun h19 ex vs=>?_)
  have st:=St.laid st ex (Lay.cons (b:=n14) (cs:=[(i64 x15.1),(i64 x15.2)]) (by have:=dw.le;omega) (vs _ (List.mem_cons_self ..) _ _ (hG18 _ _ bls_0)) (Lay.cons (b:=(n14+1)) (cs:=[(i64 0),(i64 0)]) (by have:=dw.le;omega) (vs _ (List.mem_cons_self ..) _ _ (hG18 _ _ (bls_s (by omega) bls_0))) (Lay.nil (by have:=dw.le;omega))))
  refine v_st (cs':=[(i64 x17.1),(i64 x17.2)]) st 1 rfl rfl rfl rfl hfl (fun h20 st=>?_);refine zf (th_n ?_);refine zg ?_;refine zV (Nat.le_trans hfl st.ext.le) (fun dw=>?_);refine zd st.d dw (fun hm vw=>v_fa zb) ?_;refine zd st.d dw (fun hm vw=>zq (vw.bx (st.at (i:=0) rfl)) rfl zb) ?_;refine zd st.d dw (fun hm vw=>v_fa zb) ?_;refine zd st.d dw (fun hm vw=>zq (vw.bx (st.at (i:=1) rfl)) rfl zb) ?_;refine zd st.d dw (fun hm vw=>v_fa zb) ?_;refine zd st.d dw (fun hm vw=>zq (vw.bx (st.at (i:=0) rfl)) rfl zb) ?_;obtain ⟨q21,hF⟩:=zj hF;refine zd st.d dw (fun hm vw=>yq q21 zb) ?_
  refine zd st.d dw (fun hm vw=>za zb) ?_;refine zd st.d dw (fun hm vw=>v_fa zb) ?_;refine zd st.d dw (fun hm vw=>zq (vw.bx (st.at (i:=0) rfl)) rfl zb) ?_;obtain ⟨q22,hF⟩:=zj hF;refine zd st.d dw (fun hm vw=>yq q22 zb) ?_;obtain ⟨q23,hF⟩:=zj hF;refine zd st.d dw (fun hm vw=>yL q23 zb) ?_;refine zd st.d dw (fun hm vw=>v_fa zb) ?_;refine zd st.d dw (fun hm vw=>zq (vw.bx (st.at (i:=1) rfl)) rfl zb) ?_;refine zd st.d dw (fun hm vw=>v_fa zb) ?_;refine zd st.d dw (fun hm vw=>zq (vw.bx (st.at (i:=0) rfl)) rfl zb) ?_;refine ye st.d dw rfl (fun h24 ex vs=>?_)
  have st:=st.ext1 ex
  obtain ⟨q25,hF⟩:=zj hF;refine yq q25 ?_;obtain ⟨q26,hF⟩:=zj hF;refine uo q26 ?_;obtain ⟨q27,hF⟩:=zj hF;refine zO q27 ?_;refine za ?_;refine zf (th_n ?_);refine zu ?_;obtain rfl:=inj hF
  exact zD st (Res.t gA Res.nil) rfl rfl
theorem ct55 (N:Nat) {a0_0 a0_1 a0_2 a0_3:Int} {a0_4:(List (Int × Int × Int × Int))} {a0_5:(List (Int × Int))} {a0_6 a0_7 a0_8 a0_9 a1:Int} {r:(Int × Int)} (hF:sf55 N a0_0 a0_1 a0_2 a0_3 a0_4 a0_5 a0_6 a0_7 a0_8 a0_9 a1 = some r) (hd:D h0 n0) (hs:F0.sub h0) {pa0_4:Option (Nat × Nat)} {ca0_4:Nat} {pa0_5:Option (Nat × Nat)} {ca0_5:Nat} (ra0_4:RowF (rP rI (rP rI (rP rI rI))) 4 F0 pa0_4 ca0_4 a0_4) (ra0_5:RowF (rP rI rI) 2 F0 pa0_5 ca0_5 a0_5):C LW fl 55 [(.agg [(i64 a0_0),(i64 a0_1),(i64 a0_2),(i64 a0_3),(.slice pa0_4 (a0_4).length ca0_4),(.slice pa0_5 (a0_5).length ca0_5),(i64 a0_6),(i64 a0_7),(i64 a0_8),(i64 a0_9)]),(i64 a1)] ⟨h0,n0⟩ (KS (.agg [(i64 r.1),(i64 r.2)]) n0 h0):=by
 unfold sf55 at hF
 refine z8 hd hs lw55 rfl rfl (by rfl) (fun st T hT=>?_)
 have hfl:n0 ≤ n0:=Nat.le_refl n0
 have t0:=hT 0 _ rfl
 have t1:=hT 1 _ rfl
 dsimp only [L55]
 refine zg (zh ?_);refine zW st (fun b1 h2 n3 st=>?_);refine zM st (fun b4 h5 n6 st=>?_);refine zf (th_n ?_);refine zg (zh ?_);refine v_fa ?_;refine v_fa ?_;refine zq (st.at (i:=0) rfl).2.2 rfl ?_;refine za ?_;obtain ⟨q7,hF⟩:=zj hF;refine yL q7 ?_;obtain ⟨q8,hF⟩:=zj hF;refine uo q8 ?_;refine v_fa ?_;refine v_fa ?_;refine zq (st.at (i:=0) rfl).2.2 rfl ?_;refine za ?_;obtain ⟨q9,hF⟩:=zj hF;refine yL q9 ?_;obtain ⟨q10,hF⟩:=zj hF;refine zO q10 ?_;obtain ⟨q11,hF⟩:=zj hF;refine uo q11 ?_;refine zR (cs:=[(i64 (Int.tdiv (a0_8 * a1) (100:Int))),(i64 (Int.tdiv ((a0_9 * a1)+(99:Int)) (100:Int)))]) rfl ?_
 refine v_st (cs':=[(i64 (Int.tdiv (a0_8 * a1) (100:Int))),(i64 (Int.tdiv ((a0_9 * a1)+(99:Int)) (100:Int)))]) st 1 rfl rfl rfl rfl hfl (fun h12 st=>?_);refine zf (th_n ?_);refine zu ?_;obtain rfl:=inj hF
 exact zD st (Res.c gA (st.at (i:=1) rfl).2.2 (show takeN _ _ = some [(i64 (Int.tdiv (a0_8 * a1) (100:Int))),(i64 (Int.tdiv ((a0_9 * a1)+(99:Int)) (100:Int)))] from rfl) Res.nil) rfl rfl
end Go.Hx.V

namespace Go.Hx.V
open Go.Hx
set_option maxRecDepth 20000
set_option maxHeartbeats 4000000
variable {fl : Nat} {h0 : Tr HBlk} {n0 : Nat} {F0 : PH}
attribute [local irreducible] W R C thenH inBlockH Tr.get Tr.set lo ck bnd ix iter
theorem ct133 (N:Nat) {a0:(List Int)} {a1 r:Int} (hF:sf133 N a0 a1 = some r) (hd:D h0 n0) (hs:F0.sub h0) {pa0:Option (Nat × Nat)} {ca0:Nat} (ra0:RowF (rK .u16) 1 F0 pa0 ca0 a0):C LW fl 133 [(.slice pa0 (a0).length ca0),(i64 a1)] ⟨h0,n0⟩ (KS (i64 r) n0 h0):=by
 unfold sf133 at hF
 refine z8 hd hs lw133 rfl rfl (by rfl) (fun st T hT=>?_)
 have hfl:n0 ≤ n0:=Nat.le_refl n0
 have t0:=hT 0 _ rfl
 have t1:=hT 1 _ rfl
 dsimp only [L133]
 refine zg (zh ?_);refine za ?_;refine zf (th_n ?_);refine zg ?_;refine zg (zh ?_);refine za ?_;refine yA ?_;refine Yz ?_;refine zf (th_n ?_);refine zB (fun hb1=>?_) (fun hb1=>?_)
 ·have hF:=zw hb1 hF;refine zg (zh ?_);refine za ?_;refine zf (th_n ?_);refine zu ?_;refine th_r ?_;obtain rfl:=inj hF
  exact zD st (Res.t gA Res.nil) rfl rfl
 ·have hF:=zx hb1 hF;refine zA (th_n ?_);refine zg (zh ?_);refine za ?_;refine za ?_;refine za ?_;refine yA ?_;obtain ⟨q2,hF⟩:=zj hF;refine jm q2 ?_;obtain ⟨n3,x3,z3,l3,g3,hF⟩:=zZ hF;obtain ⟨b3,o3,s3,j3,r3,e3,f3,k3,rfl⟩:=RowF.get ra0 g3;refine yt e3 z3 l3 ?_;refine zq (st.sub _ _ f3) (yp (j:=0) k3 rfl) ?_;obtain ⟨q4,hF⟩:=zj hF;refine XT q4 ?_;refine za ?_;refine zf (th_n ?_);refine zu ?_;obtain rfl:=inj hF
  exact zD st (Res.t gA Res.nil) rfl rfl
theorem ct56 (N:Nat) {a0:(List Int)} {a1 r:Int} (hF:sf56 N a0 a1 = some r) (hd:D h0 n0) (hs:F0.sub h0) {pa0:Option (Nat × Nat)} {ca0:Nat} (ra0:RowF rI 1 F0 pa0 ca0 a0):C LW fl 56 [(.slice pa0 (a0).length ca0),(i64 a1)] ⟨h0,n0⟩ (KS (i64 r) n0 h0):=by
 unfold sf56 at hF
 refine z8 hd hs lw56 rfl rfl (by rfl) (fun st T hT=>?_)
 have hfl:n0 ≤ n0:=Nat.le_refl n0
 have t0:=hT 0 _ rfl
 have t1:=hT 1 _ rfl
 dsimp only [L56]
 refine zg (zh ?_);refine za ?_;refine zf (th_n ?_);refine zg (zh ?_);refine za ?_;refine zf (th_n ?_);refine zg ?_;refine zg (zh ?_);refine za ?_;refine zf (th_n ?_);refine zE ?_;obtain ⟨y7,hy,hF⟩:=zm hF;refine z5 (sf56_L1 a0 a1) (fun x1 T ds2 h nx=>∃ (F2:PH),ds2 = [] ∧ PH.le F0 F2 ∧ St n0 h0 F0 F2 h nx [] ∧ T.get 0 = some (.slice pa0 (a0).length ca0) ∧ T.get 1 = some (i64 a1) ∧ T.get 5 = some (i64 x1.1) ∧ T.get 6 = some (i64 x1.2)) (fun y e a σ=>e = .exit 0 ∧ a.nt = 19 ∧ ∃ (F8:PH),a.defers = [] ∧ PH.le F0 F8 ∧ St n0 h0 F0 F8 σ.h σ.nx [] ∧ a.tmps.get 5 = some (i64 y)) (fun x1 T ds2 h nx s hp hF=>?_) N _ y7 _ _ _ _ hy ⟨F0,rfl,(PH.le.refl _),st,gA,gA,gA,gA⟩ (fun e a σ hne hq=>?_)
 ·obtain ⟨F2,rfl,le2,st,t0,t1,t5,t6⟩:=hp;unfold sf56_L1 at hF;unfold L56w0;refine zg ?_;refine zg (zh ?_);refine za ?_;refine za ?_;refine yg ?_;refine zf (th_n ?_);refine zB (fun hb9=>?_) (fun hb9=>?_)
  ·have hF:=zw hb9 hF;refine zA (th_n ?_);refine zg ?_;refine zE ?_;refine zh ?_;refine za ?_;refine za ?_;refine za ?_;obtain ⟨n10,x10,z10,l10,g10,hF⟩:=zZ hF;obtain ⟨b10,o10,s10,j10,r10,e10,f10,k10,rfl⟩:=RowF.get ra0 g10;refine yt e10 z10 l10 ?_;refine zq (st.sub _ _ (le2 _ _ f10)) (yp (j:=0) k10 rfl) ?_;obtain ⟨q11,hF⟩:=zj hF;refine zO q11 ?_;refine za ?_;refine zf ?_;refine ib_n ?_;refine th_n ?_;refine zh ?_;refine za ?_;obtain ⟨q12,hF⟩:=zj hF;refine zO q12 ?_;refine za ?_;refine zf ?_;refine thn ⟨_,(inj hF).symm,rfl,?_⟩;dsimp only
   exact ⟨F2,rfl,le2,st,gA,gA,gA,gA⟩
  ·have hF:=zx hb9 hF;refine ya ?_;refine th_e ?_;refine th_e ?_;refine ⟨_,(inj hF).symm,rfl,rfl,?_⟩;dsimp only
   exact ⟨F2,rfl,le2,st,gA⟩
 ·obtain ⟨N9,T,ds8⟩:=a;obtain ⟨h13,n14⟩:=σ;obtain ⟨rfl,e1,F8,e2,le8,st,t5⟩:=hq
  dsimp only at e1 e2
  subst e1
  subst e2
  dsimp only at st t5
  refine ib_e ?_;refine th_n ?_;refine zg (zh ?_);refine za ?_;refine za ?_;refine zf (th_n ?_);refine zu ?_;obtain rfl:=inj hF
  exact zD st (Res.t gA Res.nil) rfl rfl
end Go.Hx.V

