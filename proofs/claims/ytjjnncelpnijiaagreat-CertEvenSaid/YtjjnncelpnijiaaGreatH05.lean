import Derived.Test.YtjjnncelpnijiaaGreatH04
import Derived.ProofKit
import Derived.Test.YtjjnncelpnijiaaGreatH02
import Derived.Test.YtjjnncelpnijiaaGreatH03
set_option linter.all false
namespace Go.Hx
set_option maxRecDepth 100000
noncomputable section
def L18r0 : List LOper := [(og 8 (.fieldAddr 5 (.t 1)) 7 .true), (og 9 (.load .false 1 (.t 8)) 7 .true), (og 10 (.len .slice (.t 9)) 7 .true), (og 11 (.bin .leq (.t 10) (.c (.int .i64 11))) 7 .true), (o 12 (.pick (.t 7) (.t 11) (.c (.bool .false)))), (o 2 (.move (.t 12)))]
def L18s0 : LCode := (.seq (.reg ((o 3 (.fieldAddr 4 (.t 1))) :: (o 4 (.load .false 1 (.t 3))) :: (o 5 (.len .slice (.t 4))) :: (o 6 (.bin .leq (.t 5) (.c (.int .i64 15)))) :: (o 7 (.move (.t 6))) :: L18r0)) .ret)
def L18 : LFunc := ⟨13, (.seq (.reg [(o 1 (.box (.t 0))), (o 2 (.move (.c (.bool .false))))]) L18s0), [(.t 2)], .false, .none, vO⟩
theorem lp18 : LP 18 = some L18 := by kernel_rfl
def L22s0 : LCode := (.seq (.reg [(o 6 (.load .true 10 (.t 2))), (o 7 (.move (.t 1))), (o 8 (.call (.c (.func 67 [] [])) [(.t 6), (.t 7), (.c (.func 68 [] []))])), (o 9 (.extract (.t 8) 0)), (o 10 (.extract (.t 8) 1)), (o 4 (.move (.t 9))), (o 5 (.move (.t 10)))]) .ret)
def L22 : LFunc := ⟨11, (.seq (.reg [(o 2 (.box (.t 0))), (o 4 (.move (.c (.slice .none 0 0)))), (o 5 (.move (.c (.int .i64 0))))]) L22s0), [(.t 4), (.t 5)], .true, .none, vO⟩
theorem lp22 : LP 22 = some L22 := by kernel_rfl
def L50s0 : LCode := (.seq (.reg [(o 5 (.move (.t 0))), (o 6 (.move (.t 1))), (o 7 (.build [(.int .i64 0), (.int .i64 0)] [(0, (1, (.t 5))), (1, (1, (.t 6)))])), (on (.store 2 (.t 4) (.t 7)))]) .ret)
def L50 : LFunc := ⟨8, (.seq (.reg [(o 4 (.alloc [(.int .i64 0), (.int .i64 0)]))]) L50s0), [(.cell 4 .true 2)], .false, .none, vO⟩
theorem lp50 : LP 50 = some L50 := by kernel_rfl
def L66r0 : List LOper := [(o 21 (.load .false 1 (.t 20))), (o 22 (.build [(.int .i64 0), (.int .i64 0)] [(0, (1, (.t 16))), (1, (1, (.t 21)))])), (o 23 (.buildSlice 1 [(.int .i64 0), (.int .i64 0)] [(0, (2, (.t 22)))])), (oa 24 (.append 2 16 (.t 11) (.t 23)) [12]), (oa 3 (.move (.t 24)) [13, 12])]
def L66r1 : List LOper := ((o 16 (.load .false 1 (.t 15))) :: (o 17 (.move (.t 0))) :: (o 18 (.move (.t 4))) :: (o 19 (.indexAddrS 2 (.t 17) (.t 18))) :: (o 20 (.fieldAddr 1 (.t 19))) :: L66r0)
def L66s0 : LCode := (.reg [(o 9 (.move (.t 4))), (o 10 (.bin .add (.t 9) (.c (.int .i64 1)))), (o 4 (.move (.t 10)))])
def L66s1 : LCode := (.seq (.block 1 (.draw 11 ((o 11 (.move (.t 3))) :: (o 12 (.move (.t 0))) :: (o 13 (.move (.t 4))) :: (o 14 (.indexAddrS 2 (.t 12) (.t 13))) :: (o 15 (.fieldAddr 0 (.t 14))) :: L66r1))) L66s0)
def L66w0 : LCode := (.seq (.seq (.reg [(o 5 (.move (.t 4))), (o 6 (.move (.t 0))), (o 7 (.len .slice (.t 6))), (o 8 (.bin .lss (.t 5) (.t 7)))]) (.cond (.t 8) .skip (.exit 0))) L66s1)
def L66s2 : LCode := (.seq (.reg [(o 25 (.move (.t 3))), (o 2 (.move (.t 25)))]) .ret)
def L66s3 : LCode := (.seq (.seq (.reg [(o 4 (.move (.c (.int .i64 0))))]) (.block 0 (.loop L66w0))) L66s2)
def L66 : LFunc := ⟨26, (.seq (.reg [(o 2 (.move (.c (.slice .none 0 0))))]) (.seq (.reg [(o 3 (.move (.c (.slice .none 0 0))))]) L66s3)), [(.t 2)], .true, .none, vO⟩
theorem lp66 : LP 66 = some L66 := by kernel_rfl
def L70r0 : List LOper := [(o 13 (.extract (.t 8) 1)), (o 6 (.alloc (Zr 174))), (on (.store 174 (.t 6) (.t 12))), (o 7 (.move (.t 13)))]
def L70s0 : LCode := (.cond (.t 15) (.seq (.reg [(o 16 (.move (.t 7))), (o 4 (.move (.c (.slice .none 0 0)))), (o 5 (.move (.t 16)))]) .ret) .skip)
def L70s1 : LCode := (.seq (.reg [(o 17 (.load .true 174 (.t 6))), (o 18 (.call (.c (.func 108 [] [])) [(.t 17)])), (o 4 (.move (.t 18))), (o 5 (.move (.c (.int .i64 0))))]) .ret)
def L70s2 : LCode := (.seq (.seq (.reg [(o 14 (.move (.t 7))), (o 15 (.eq (.cell (.i .i64)) .true (.t 14) (.c (.int .i64 0))))]) L70s0) L70s1)
def L70s3 : LCode := (.seq (.reg ((o 9 (.load .true 4 (.t 2))) :: (o 10 (.move (.t 1))) :: (o 11 (.call (.c (.func 94 [] [])) [(.t 9), (.t 10), (.c (.bool .true))])) :: (o 8 (.move (.t 11))) :: (o 12 (.extract (.t 8) 0)) :: L70r0)) L70s2)
def L70 : LFunc := ⟨19, (.seq (.reg [(o 2 (.box (.t 0))), (o 4 (.move (.c (.slice .none 0 0)))), (o 5 (.move (.c (.int .i64 0))))]) L70s3), [(.t 4), (.t 5)], .true, .none, vO⟩
theorem lp70 : LP 70 = some L70 := by kernel_rfl
def L86r0 : List LOper := [(og 17 (.bin .leq (.t 15) (.t 16)) 13 .true), (o 18 (.pick (.t 13) (.t 17) (.c (.bool .false)))), (o 6 (.move (.t 18)))]
def L86r1 : List LOper := ((o 12 (.call (.c (.func 25 [] [])) [(.t 8), (.t 9), (.t 11)])) :: (o 13 (.move (.t 12))) :: (og 14 (.fieldAddr 1 (.t 3)) 13 .true) :: (og 15 (.load .false 1 (.t 14)) 13 .true) :: (og 16 (.move (.t 2)) 13 .true) :: L86r0)
def L86s0 : LCode := (.seq (.reg ((o 7 (.fieldAddr 0 (.t 3))) :: (o 8 (.load .false 1 (.t 7))) :: (o 9 (.move (.t 1))) :: (o 10 (.fieldAddr 1 (.t 3))) :: (o 11 (.load .false 1 (.t 10))) :: L86r1)) .ret)
def L86 : LFunc := ⟨19, (.seq (.reg [(o 3 (.box (.t 0))), (o 6 (.move (.c (.bool .false))))]) L86s0), [(.t 6)], .false, .none, vO⟩
theorem lp86 : LP 86 = some L86 := by kernel_rfl
def L94s0 : LCode := (.cond (.t 15) (.seq (.reg [(o 16 (.build (Zr 174) [])), (o 17 (.move (.t 8))), (on (.store 174 (.t 6) (.t 16))), (o 7 (.move (.t 17)))]) .ret) .skip)
def L94s1 : LCode := (.seq (.reg [(o 14 (.move (.t 8))), (o 15 (.eq (.cell (.i .i64)) .true (.t 14) (.c (.int .i64 0))))]) L94s0)
def L94s2 : LCode := (.cond (.t 19) (.seq (.reg [(o 20 (.build (Zr 174) [])), (on (.store 174 (.t 6) (.t 20))), (o 7 (.move (.c (.int .i64 2))))]) .ret) .skip)
def L94r0 : List LOper := [(o 26 (.extract (.t 21) 1)), (o 9 (.alloc (Zr 174))), (on (.store 174 (.t 9) (.t 25))), (o 10 (.move (.t 26)))]
def L94s3 : LCode := (.cond (.t 28) (.seq (.reg [(o 29 (.build (Zr 174) [])), (on (.store 174 (.t 6) (.t 29))), (o 7 (.move (.c (.int .i64 9))))]) .ret) .skip)
def L94s4 : LCode := (.seq (.reg [(o 30 (.load .true 174 (.t 9))), (on (.store 174 (.t 6) (.t 30))), (o 7 (.move (.c (.int .i64 0))))]) .ret)
def L94s5 : LCode := (.seq (.seq (.reg [(o 27 (.move (.t 10))), (o 28 (.un .not (.t 27)))]) L94s3) L94s4)
def L94s6 : LCode := (.seq (.reg ((o 22 (.load .true 4 (.t 3))) :: (o 23 (.move (.t 1))) :: (o 24 (.call (.c (.func 135 [] [])) [(.t 22), (.t 23)])) :: (o 21 (.move (.t 24))) :: (o 25 (.extract (.t 21) 0)) :: L94r0)) L94s5)
def L94s7 : LCode := (.seq (.seq (.reg [(o 18 (.move (.t 2))), (o 19 (.un .not (.t 18)))]) L94s2) L94s6)
def L94s8 : LCode := (.seq (.seq (.reg [(o 11 (.load .true 4 (.t 3))), (o 12 (.move (.t 1))), (o 13 (.call (.c (.func 134 [] [])) [(.t 11), (.t 12)])), (o 8 (.move (.t 13)))]) L94s1) L94s7)
def L94 : LFunc := ⟨31, (.seq (.reg [(o 3 (.box (.t 0))), (o 6 (.alloc (Zr 174))), (o 7 (.move (.c (.int .i64 0))))]) L94s8), [(.cell 6 .true 174), (.t 7)], .false, .none, vO⟩
theorem lp94 : LP 94 = some L94 := by kernel_rfl
def L98r0 : List LOper := [(og 12 (.move (.t 2)) 10 .true), (og 13 (.bin .leq (.t 11) (.t 12)) 10 .true), (o 14 (.pick (.t 10) (.t 13) (.c (.bool .false)))), (o 6 (.move (.t 14)))]
def L98s0 : LCode := (.seq (.reg ((o 7 (.move (.t 0))) :: (o 8 (.move (.t 1))) :: (o 9 (.bin .geq (.t 7) (.t 8))) :: (o 10 (.move (.t 9))) :: (og 11 (.move (.t 0)) 10 .true) :: L98r0)) .ret)
def L98 : LFunc := ⟨15, (.seq (.reg [(o 6 (.move (.c (.bool .false))))]) L98s0), [(.t 6)], .false, .none, vO⟩
theorem lp98 : LP 98 = some L98 := by kernel_rfl
def L102r0 : List LOper := [(og 20 (.call (.c (.func 110 [] [])) [(.t 17), (.t 19)]) 16 .true), (o 21 (.pick (.t 16) (.t 20) (.c (.bool .false)))), (o 4 (.move (.t 21)))]
def L102r1 : List LOper := ((o 15 (.pick (.t 10) (.t 14) (.c (.bool .false)))) :: (o 16 (.move (.t 15))) :: (og 17 (.load .true 2 (.t 3)) 16 .true) :: (og 18 (.fieldAddr 1 (.t 2)) 16 .true) :: (og 19 (.load .false 1 (.t 18)) 16 .true) :: L102r0)
def L102r2 : List LOper := ((o 10 (.move (.t 9))) :: (og 11 (.load .true 2 (.t 3)) 10 .true) :: (og 12 (.fieldAddr 0 (.t 2)) 10 .true) :: (og 13 (.load .false 1 (.t 12)) 10 .true) :: (og 14 (.call (.c (.func 110 [] [])) [(.t 11), (.t 13)]) 10 .true) :: L102r1)
def L102s0 : LCode := (.seq (.reg ((o 5 (.fieldAddr 0 (.t 2))) :: (o 6 (.load .false 1 (.t 5))) :: (o 7 (.fieldAddr 1 (.t 2))) :: (o 8 (.load .false 1 (.t 7))) :: (o 9 (.bin .leq (.t 6) (.t 8))) :: L102r2)) .ret)
def L102 : LFunc := ⟨22, (.seq (.reg [(o 2 (.box (.t 0))), (o 3 (.box (.t 1))), (o 4 (.move (.c (.bool .false))))]) L102s0), [(.t 4)], .false, .none, vO⟩
theorem lp102 : LP 102 = some L102 := by kernel_rfl
def L106r0 : List LOper := [(o 15 (.load .false 1 (.t 14))), (o 16 (.move (.t 1))), (o 17 (.bin .mul (.t 15) (.t 16))), (o 18 (.build [(.int .i64 0), (.int .i64 0)] [(0, (1, (.t 17))), (1, (1, (.c (.int .i64 100))))])), (o 19 (.call (.c (.func 142 [] [])) [(.t 11), (.t 18)])), (on (.store 2 (.t 4) (.t 19)))]
def L106r1 : List LOper := ((o 10 (.bin .mul (.t 8) (.t 9))) :: (o 11 (.build [(.int .i64 0), (.int .i64 0)] [(0, (1, (.t 10))), (1, (1, (.c (.int .i64 100))))])) :: (o 12 (.fieldAddr 0 (.t 2))) :: (o 13 (.fieldAddr 8 (.t 12))) :: (o 14 (.fieldAddr 1 (.t 13))) :: L106r0)
def L106s0 : LCode := (.seq (.reg ((o 5 (.fieldAddr 0 (.t 2))) :: (o 6 (.fieldAddr 8 (.t 5))) :: (o 7 (.fieldAddr 0 (.t 6))) :: (o 8 (.load .false 1 (.t 7))) :: (o 9 (.move (.t 1))) :: L106r1)) .ret)
def L106 : LFunc := ⟨20, (.seq (.reg [(o 2 (.box (.t 0))), (o 4 (.alloc [(.int .i64 0), (.int .i64 0)]))]) L106s0), [(.cell 4 .true 2)], .false, .none, vO⟩
theorem lp106 : LP 106 = some L106 := by kernel_rfl
def L110r0 : List LOper := [(og 10 (.move (.t 1)) 9 .true), (og 11 (.fieldAddr 1 (.t 2)) 9 .true), (og 12 (.load .false 1 (.t 11)) 9 .true), (og 13 (.bin .leq (.t 10) (.t 12)) 9 .true), (o 14 (.pick (.t 9) (.t 13) (.c (.bool .false)))), (o 4 (.move (.t 14)))]
def L110s0 : LCode := (.seq (.reg ((o 5 (.fieldAddr 0 (.t 2))) :: (o 6 (.load .false 1 (.t 5))) :: (o 7 (.move (.t 1))) :: (o 8 (.bin .leq (.t 6) (.t 7))) :: (o 9 (.move (.t 8))) :: L110r0)) .ret)
def L110 : LFunc := ⟨15, (.seq (.reg [(o 2 (.box (.t 0))), (o 4 (.move (.c (.bool .false))))]) L110s0), [(.t 4)], .false, .none, vO⟩
theorem lp110 : LP 110 = some L110 := by kernel_rfl
def L134s0 : LCode := (.cond (.t 9) (.seq (.reg [(o 10 (.move (.t 5))), (o 4 (.move (.t 10)))]) .ret) .skip)
def L134s1 : LCode := (.seq (.reg [(o 8 (.move (.t 5))), (o 9 (.eq (.cell (.i .i64)) .true (.t 8) (.c (.int .i64 0))))]) L134s0)
def L134s2 : LCode := (.cond (.t 13) (.seq (.reg [(o 4 (.move (.c (.int .i64 3))))]) .ret) .skip)
def L134s3 : LCode := (.cond (.t 18) (.seq (.reg [(o 4 (.move (.c (.int .i64 2))))]) .ret) .skip)
def L134s4 : LCode := (.seq (.seq (.reg [(o 14 (.move (.t 1))), (o 15 (.load .true 4 (.t 2))), (o 16 (.makeFunc 152 [(.t 15)] [])), (o 17 (.call (.c (.func 151 [] [])) [(.t 14), (.t 16)])), (o 18 (.un .not (.t 17)))]) L134s3) (.seq (.reg [(o 4 (.move (.c (.int .i64 0))))]) .ret))
def L134s5 : LCode := (.seq (.seq (.reg [(o 11 (.move (.t 1))), (o 12 (.len .slice (.t 11))), (o 13 (.bin .gtr (.t 12) (.c (.int .i64 12))))]) L134s2) L134s4)
def L134s6 : LCode := (.seq (.seq (.reg [(o 6 (.load .true 4 (.t 2))), (o 7 (.call (.c (.func 150 [] [])) [(.t 6)])), (o 5 (.move (.t 7)))]) L134s1) L134s5)
def L134 : LFunc := ⟨19, (.seq (.reg [(o 2 (.box (.t 0))), (o 4 (.move (.c (.int .i64 0))))]) L134s6), [(.t 4)], .false, .none, vO⟩
theorem lp134 : LP 134 = some L134 := by kernel_rfl
def L138s0 : LCode := (.cond (.t 5) (.seq (.reg [(o 2 (.move (.c (.int .i64 3))))]) .ret) .skip)
def L138r0 : List LOper := [(og 16 (.call (.c (.func 157 [] [])) [(.t 15), (.c (.func 158 [] []))]) 14 .false), (og 17 (.un .not (.t 16)) 14 .false), (o 18 (.pick (.t 14) (.c (.bool .true)) (.t 17)))]
def L138r1 : List LOper := ((og 11 (.call (.c (.func 155 [] [])) [(.t 10), (.c (.func 156 [] []))]) 9 .false) :: (og 12 (.un .not (.t 11)) 9 .false) :: (o 13 (.pick (.t 9) (.c (.bool .true)) (.t 12))) :: (o 14 (.move (.t 13))) :: (og 15 (.move (.t 0)) 14 .false) :: L138r0)
def L138s1 : LCode := (.cond (.t 18) (.seq (.reg [(o 2 (.move (.c (.int .i64 1))))]) .ret) .skip)
def L138s2 : LCode := (.seq (.seq (.reg ((o 6 (.move (.t 0))) :: (o 7 (.len .slice (.t 6))) :: (o 8 (.bin .lss (.t 7) (.c (.int .i64 2)))) :: (o 9 (.move (.t 8))) :: (og 10 (.move (.t 0)) 9 .false) :: L138r1)) L138s1) (.seq (.reg [(o 2 (.move (.c (.int .i64 0))))]) .ret))
def L138s3 : LCode := (.seq (.seq (.reg [(o 3 (.move (.t 0))), (o 4 (.len .slice (.t 3))), (o 5 (.bin .gtr (.t 4) (.c (.int .i64 8))))]) L138s0) L138s2)
def L138 : LFunc := ⟨19, (.seq (.reg [(o 2 (.move (.c (.int .i64 0))))]) L138s3), [(.t 2)], .false, .none, vO⟩
theorem lp138 : LP 138 = some L138 := by kernel_rfl
def L142r0 : List LOper := [(o 12 (.load .false 1 (.t 11))), (o 13 (.load .true 2 (.t 3))), (oa 14 (.call (.t 12) [(.t 13)]) [3]), (oa 15 (.build [(.int .i64 0), (.int .i64 0)] [(0, (1, (.t 10))), (1, (1, (.t 14)))]) [7, 3]), (ona (.store 2 (.t 4) (.t 15)) [7, 3])]
def L142s0 : LCode := (.seq (.draw 7 ((o 7 (.fieldAddr 0 (.t 5))) :: (o 8 (.load .false 1 (.t 7))) :: (o 9 (.load .true 2 (.t 2))) :: (o 10 (.call (.t 8) [(.t 9)])) :: (o 11 (.fieldAddr 1 (.t 5))) :: L142r0)) .ret)
def L142s1 : LCode := (.seq (.reg [(o 6 (.call (.c (.func 161 [] [])) [])), (o 5 (.alloc [.nilFunc, .nilFunc])), (on (.store 2 (.t 5) (.t 6)))]) L142s0)
def L142 : LFunc := ⟨16, (.seq (.reg [(o 2 (.box (.t 0))), (o 3 (.box (.t 1))), (o 4 (.alloc [(.int .i64 0), (.int .i64 0)]))]) L142s1), [(.cell 4 .true 2)], .false, .none, vO⟩
theorem lp142 : LP 142 = some L142 := by kernel_rfl
def L150s0 : LCode := (.cond (.t 5) (.seq (.reg [(o 2 (.move (.c (.int .i64 1))))]) .ret) .skip)
def L150s1 : LCode := (.seq (.seq (.reg [(o 3 (.load .true 4 (.t 1))), (o 4 (.call (.c (.func 168 [] [])) [(.t 3)])), (o 5 (.un .not (.t 4)))]) L150s0) (.seq (.reg [(o 2 (.move (.c (.int .i64 0))))]) .ret))
def L150 : LFunc := ⟨6, (.seq (.reg [(o 1 (.box (.t 0))), (o 2 (.move (.c (.int .i64 0))))]) L150s1), [(.t 2)], .false, .none, vO⟩
theorem lp150 : LP 150 = some L150 := by kernel_rfl
def L154r0 : List LOper := [(o 11 (.fieldAddr 2 (.t 3))), (o 12 (.fieldAddr 1 (.t 11))), (o 13 (.load .false 1 (.t 12))), (o 14 (.call (.c (.func 170 [] [])) [(.t 6), (.t 8), (.t 10), (.t 13)])), (o 15 (.un .not (.t 14)))]
def L154s0 : LCode := (.cond (.t 15) (.seq (.reg [(o 16 (.build (Zr 174) [])), (on (.store 174 (.t 4) (.t 16))), (o 5 (.move (.c (.bool .false))))]) .ret) .skip)
def L154r1 : List LOper := [(og 32 (.load .false 1 (.t 31)) 23 .true), (og 33 (.un .neg (.t 32)) 23 .true), (og 34 (.bin .sub (.t 33) (.c (.int .i64 1))) 23 .true), (og 35 (.call (.c (.func 170 [] [])) [(.t 24), (.t 27), (.t 29), (.t 34)]) 23 .true), (og 36 (.un .not (.t 35)) 23 .true), (o 37 (.pick (.t 23) (.t 36) (.c (.bool .false))))]
def L154r2 : List LOper := ((og 27 (.bin .add (.t 26) (.c (.int .i64 1))) 23 .true) :: (og 28 (.fieldAddr 0 (.t 3)) 23 .true) :: (og 29 (.load .false 1 (.t 28)) 23 .true) :: (og 30 (.fieldAddr 2 (.t 3)) 23 .true) :: (og 31 (.fieldAddr 0 (.t 30)) 23 .true) :: L154r1)
def L154r3 : List LOper := ((o 22 (.bin .lss (.t 18) (.t 21))) :: (o 23 (.move (.t 22))) :: (og 24 (.fieldAddr 4 (.t 2)) 23 .true) :: (og 25 (.fieldAddr 1 (.t 3)) 23 .true) :: (og 26 (.load .false 1 (.t 25)) 23 .true) :: L154r2)
def L154s1 : LCode := (.cond (.t 37) (.seq (.reg [(o 38 (.build (Zr 174) [])), (on (.store 174 (.t 4) (.t 38))), (o 5 (.move (.c (.bool .false))))]) .ret) .skip)
def L154s2 : LCode := (.seq (.reg [(o 39 (.load .true 174 (.t 2))), (on (.store 174 (.t 4) (.t 39))), (o 5 (.move (.c (.bool .true))))]) .ret)
def L154s3 : LCode := (.seq (.seq (.reg ((o 17 (.fieldAddr 1 (.t 3))) :: (o 18 (.load .false 1 (.t 17))) :: (o 19 (.fieldAddr 0 (.t 2))) :: (o 20 (.fieldAddr 0 (.t 19))) :: (o 21 (.load .false 1 (.t 20))) :: L154r3)) L154s1) L154s2)
def L154s4 : LCode := (.seq (.seq (.reg ((o 6 (.fieldAddr 4 (.t 2))) :: (o 7 (.fieldAddr 0 (.t 3))) :: (o 8 (.load .false 1 (.t 7))) :: (o 9 (.fieldAddr 1 (.t 3))) :: (o 10 (.load .false 1 (.t 9))) :: L154r0)) L154s0) L154s3)
def L154 : LFunc := ⟨40, (.seq (.reg [(o 2 (.box (.t 0))), (o 3 (.box (.t 1))), (o 4 (.alloc (Zr 174))), (o 5 (.move (.c (.bool .false))))]) L154s4), [(.cell 4 .true 174), (.t 5)], .false, .none, vO⟩
theorem lp154 : LP 154 = some L154 := by kernel_rfl
def L158r0 : List LOper := [(og 15 (.bin .lss (.t 12) (.t 14)) 10 .true), (o 16 (.pick (.t 10) (.t 15) (.c (.bool .false)))), (o 4 (.move (.t 16)))]
def L158r1 : List LOper := ((o 10 (.move (.t 9))) :: (og 11 (.fieldAddr 1 (.t 2)) 10 .true) :: (og 12 (.load .false 1 (.t 11)) 10 .true) :: (og 13 (.fieldAddr 1 (.t 3)) 10 .true) :: (og 14 (.load .false 1 (.t 13)) 10 .true) :: L158r0)
def L158s0 : LCode := (.seq (.reg ((o 5 (.fieldAddr 0 (.t 2))) :: (o 6 (.load .false 1 (.t 5))) :: (o 7 (.fieldAddr 0 (.t 3))) :: (o 8 (.load .false 1 (.t 7))) :: (o 9 (.bin .lss (.t 6) (.t 8))) :: L158r1)) .ret)
def L158 : LFunc := ⟨17, (.seq (.reg [(o 2 (.box (.t 0))), (o 3 (.box (.t 1))), (o 4 (.move (.c (.bool .false))))]) L158s0), [(.t 4)], .false, .none, vO⟩
theorem lp158 : LP 158 = some L158 := by kernel_rfl
def L170s0 : LCode := (.cond (.t 18) (.seq (.reg [(o 8 (.move (.c (.bool .false))))]) .ret) .skip)
def L170r0 : List LOper := [(o 31 (.indexAddrA 13 13 (.t 30) (.t 27))), (o 32 (.indexAddrA 13 1 (.t 31) (.t 28))), (o 33 (.load .false 1 (.t 32))), (o 34 (.move (.t 3))), (o 35 (.bin .add (.t 33) (.t 34))), (o 10 (.move (.t 35)))]
def L170r1 : List LOper := [(o 41 (.fieldAddr 1 (.t 40))), (o 42 (.indexAddrA 13 13 (.t 41) (.t 38))), (o 43 (.indexAddrA 13 1 (.t 42) (.t 39))), (o 44 (.load .false 1 (.t 43))), (o 45 (.bin .geq (.t 36) (.t 44)))]
def L170r2 : List LOper := [(o 58 (.fieldAddr 1 (.t 57))), (o 59 (.indexAddrA 13 13 (.t 58) (.t 55))), (o 60 (.indexAddrA 13 1 (.t 59) (.t 56))), (o 61 (.load .false 1 (.t 60))), (o 62 (.bin .add (.t 53) (.t 61))), (o 12 (.move (.t 62)))]
def L170r3 : List LOper := [(o 68 (.fieldAddr 1 (.t 67))), (o 69 (.indexAddrA 13 13 (.t 68) (.t 65))), (o 70 (.indexAddrA 13 1 (.t 69) (.t 66))), (o 71 (.load .false 1 (.t 70))), (o 72 (.bin .lss (.t 63) (.t 71)))]
def L170r4 : List LOper := [(o 78 (.fieldAddr 1 (.t 77))), (o 79 (.indexAddrA 13 13 (.t 78) (.t 74))), (o 80 (.indexAddrA 13 1 (.t 79) (.t 75))), (on (.store 1 (.t 80) (.t 76)))]
def L170s1 : LCode := (.cond (.t 72) (.reg ((o 73 (.move (.t 0))) :: (o 74 (.move (.t 9))) :: (o 75 (.move (.t 11))) :: (o 76 (.move (.t 12))) :: (o 77 (.nilCheck (.t 73))) :: L170r4)) .skip)
def L170s2 : LCode := (.seq (.reg ((o 63 (.move (.t 12))) :: (o 64 (.move (.t 0))) :: (o 65 (.move (.t 9))) :: (o 66 (.move (.t 11))) :: (o 67 (.nilCheck (.t 64))) :: L170r3)) L170s1)
def L170s3 : LCode := (.seq (.reg ((o 53 (.move (.t 10))) :: (o 54 (.move (.t 0))) :: (o 55 (.move (.t 2))) :: (o 56 (.move (.t 11))) :: (o 57 (.nilCheck (.t 54))) :: L170r2)) L170s2)
def L170s4 : LCode := (.reg [(o 81 (.bin .add (.t 50) (.c (.int .i64 1)))), (o 50 (.move (.t 81)))])
def L170s5 : LCode := (.seq (.block 3 (.seq (.reg [(o 52 (.move (.t 50))), (o 11 (.move (.t 52)))]) L170s3)) L170s4)
def L170w0 : LCode := (.seq (.reg [(o 51 (.bin .lss (.t 50) (.t 49)))]) (.seq (.cond (.t 51) .skip (.exit 2)) L170s5))
def L170s6 : LCode := (.seq (.reg [(o 46 (.move (.t 0))), (o 47 (.nilCheck (.t 46))), (o 48 (.fieldAddr 0 (.t 47))), (o 49 (.load .false 1 (.t 48))), (o 50 (.move (.c (.int .i64 0))))]) (.block 2 (.loop L170w0)))
def L170s7 : LCode := (.seq (.seq (.reg ((o 36 (.move (.t 10))) :: (o 37 (.move (.t 0))) :: (o 38 (.move (.t 9))) :: (o 39 (.move (.t 2))) :: (o 40 (.nilCheck (.t 37))) :: L170r1)) (.cond (.t 45) (.exit 1) .skip)) L170s6)
def L170s8 : LCode := (.seq (.reg ((o 26 (.move (.t 0))) :: (o 27 (.move (.t 9))) :: (o 28 (.move (.t 1))) :: (o 29 (.nilCheck (.t 26))) :: (o 30 (.fieldAddr 1 (.t 29))) :: L170r0)) L170s7)
def L170s9 : LCode := (.reg [(o 82 (.bin .add (.t 23) (.c (.int .i64 1)))), (o 23 (.move (.t 82)))])
def L170s10 : LCode := (.seq (.block 1 (.seq (.reg [(o 25 (.move (.t 23))), (o 9 (.move (.t 25)))]) L170s8)) L170s9)
def L170w1 : LCode := (.seq (.reg [(o 24 (.bin .lss (.t 23) (.t 22)))]) (.seq (.cond (.t 24) .skip (.exit 0)) L170s10))
def L170s11 : LCode := (.seq (.seq (.reg [(o 19 (.move (.t 0))), (o 20 (.nilCheck (.t 19))), (o 21 (.fieldAddr 0 (.t 20))), (o 22 (.load .false 1 (.t 21))), (o 23 (.move (.c (.int .i64 0))))]) (.block 0 (.loop L170w1))) (.seq (.reg [(o 8 (.move (.c (.bool .true))))]) .ret))
def L170s12 : LCode := (.seq (.seq (.reg [(o 13 (.move (.t 0))), (o 14 (.move (.t 1))), (o 15 (.move (.t 2))), (o 16 (.move (.t 3))), (o 17 (.call (.c (.func 181 [] [])) [(.t 13), (.t 14), (.t 15), (.t 16)])), (o 18 (.un .not (.t 17)))]) L170s0) L170s11)
def L170 : LFunc := ⟨83, (.seq (.reg [(o 8 (.move (.c (.bool .false))))]) L170s12), [(.t 8)], .true, .none, vO⟩
theorem lp170 : LP 170 = some L170 := by kernel_rfl
def L3s0 : LCode := (.cond (.t 17) (.seq (.reg [(o 18 (.call (.c (.func 19 [] [])) [])), (o 4 (.move (.t 18)))]) .ret) .skip)
def L3r0 : List LOper := [(o 27 (.extract (.t 22) 0)), (o 28 (.extract (.t 22) 1)), (o 6 (.move (.t 27))), (o 7 (.move (.t 28)))]
def L3r1 : List LOper := [(o 34 (.extract (.t 29) 0)), (o 35 (.extract (.t 29) 1)), (o 8 (.move (.t 34))), (o 9 (.move (.t 35)))]
def L3s1 : LCode := (.cond (.t 43) (.seq (.reg [(o 4 (.move (.c (.bool .false))))]) .ret) .skip)
def L3s2 : LCode := (.cond (.t 50) (.reg [(o 11 (.move (.c (.int .i64 2))))]) .skip)
def L3r2 : List LOper := [(o 68 (.pick (.t 61) (.t 67) (.c (.bool .false)))), (o 69 (.move (.t 68))), (og 70 (.call (.c (.func 19 [] [])) []) 69 .true), (o 71 (.pick (.t 69) (.t 70) (.c (.bool .false)))), (o 4 (.move (.t 71)))]
def L3r3 : List LOper := ((og 63 (.len .slice (.t 62)) 61 .true) :: (og 64 (.move (.t 8)) 61 .true) :: (og 65 (.len .slice (.t 64)) 61 .true) :: (og 66 (.bin .add (.t 63) (.t 65)) 61 .true) :: (og 67 (.eq (.cell (.i .i64)) .false (.t 66) (.c (.int .i64 0))) 61 .true) :: L3r2)
def L3r4 : List LOper := ((og 58 (.move (.t 11)) 56 .true) :: (og 59 (.eq (.cell (.i .i64)) .false (.t 57) (.t 58)) 56 .true) :: (o 60 (.pick (.t 56) (.t 59) (.c (.bool .false)))) :: (o 61 (.move (.t 60))) :: (og 62 (.move (.t 6)) 61 .true) :: L3r3)
def L3s3 : LCode := (.cond (.t 52) (.seq (.reg ((o 53 (.move (.t 7))) :: (o 54 (.move (.t 11))) :: (o 55 (.eq (.cell (.i .i64)) .false (.t 53) (.t 54))) :: (o 56 (.move (.t 55))) :: (og 57 (.move (.t 9)) 56 .true) :: L3r4)) .ret) .skip)
def L3r5 : List LOper := [(og 87 (.len .slice (.t 86)) 85 .false), (og 88 (.move (.t 10)) 85 .false), (og 89 (.len .slice (.t 88)) 85 .false), (og 90 (.eq (.cell (.i .i64)) .true (.t 87) (.t 89)) 85 .false), (o 91 (.pick (.t 85) (.c (.bool .true)) (.t 90)))]
def L3r6 : List LOper := ((og 82 (.len .slice (.t 81)) 78 .false) :: (og 83 (.eq (.cell (.i .i64)) .true (.t 80) (.t 82)) 78 .false) :: (o 84 (.pick (.t 78) (.c (.bool .true)) (.t 83))) :: (o 85 (.move (.t 84))) :: (og 86 (.move (.t 8)) 85 .false) :: L3r5)
def L3r7 : List LOper := ((o 77 (.pick (.t 74) (.c (.bool .true)) (.t 76))) :: (o 78 (.move (.t 77))) :: (og 79 (.move (.t 6)) 78 .false) :: (og 80 (.len .slice (.t 79)) 78 .false) :: (og 81 (.move (.t 10)) 78 .false) :: L3r6)
def L3s4 : LCode := (.cond (.t 91) (.seq (.reg [(o 4 (.move (.c (.bool .false))))]) .ret) .skip)
def L3r8 : List LOper := [(o 108 (.move (.t 12))), (oa 109 (.call (.c (.func 28 [] [])) [(.t 107), (.t 108)]) [8, 6]), (o 13 (.alloc [(.int .i64 0), (.int .i64 0)])), (ona (.store 2 (.t 13) (.t 106)) [12, 11, 8, 6]), (oa 14 (.move (.t 109)) [12, 11, 8, 6])]
def L3r9 : List LOper := ((o 103 (.load .true 10 (.t 2))) :: (o 104 (.call (.c (.func 27 [] [])) [(.t 103)])) :: (o 105 (.move (.t 1))) :: (oa 106 (.call (.c (.func 26 [] [])) [(.t 98), (.t 102), (.t 104), (.t 105)]) [6]) :: (o 107 (.load .true 10 (.t 2))) :: L3r8)
def L3r10 : List LOper := [(oga 135 (.fieldAddr 1 (.t 13)) 129 .false [5]), (oga 136 (.load .false 1 (.t 135)) 129 .false [5]), (oga 137 (.move (.t 14)) 129 .false [5]), (oga 138 (.bin .sub (.t 136) (.t 137)) 129 .false [5]), (oga 139 (.eq (.cell (.i .i64)) .true (.t 134) (.t 138)) 129 .false [5]), (oa 140 (.pick (.t 129) (.c (.bool .true)) (.t 139)) [5])]
def L3r11 : List LOper := ((oga 130 (.move (.t 8)) 129 .false [5]) :: (oga 131 (.move (.t 12)) 129 .false [5]) :: (oga 132 (.indexAddrS 2 (.t 130) (.t 131)) 129 .false [5]) :: (oga 133 (.fieldAddr 1 (.t 132)) 129 .false [5]) :: (oga 134 (.load .false 1 (.t 133)) 129 .false [5]) :: L3r10)
def L3r12 : List LOper := ((oga 125 (.move (.t 14)) 117 .false [5]) :: (oga 126 (.bin .sub (.t 124) (.t 125)) 117 .false [5]) :: (oga 127 (.eq (.cell (.i .i64)) .true (.t 122) (.t 126)) 117 .false [5]) :: (oa 128 (.pick (.t 117) (.c (.bool .true)) (.t 127)) [5]) :: (oa 129 (.move (.t 128)) [5]) :: L3r11)
def L3r13 : List LOper := ((oga 120 (.indexAddrS 2 (.t 118) (.t 119)) 117 .false [5]) :: (oga 121 (.fieldAddr 0 (.t 120)) 117 .false [5]) :: (oga 122 (.load .false 1 (.t 121)) 117 .false [5]) :: (oga 123 (.fieldAddr 0 (.t 13)) 117 .false [5]) :: (oga 124 (.load .false 1 (.t 123)) 117 .false [5]) :: L3r12)
def L3r14 : List LOper := ((o 115 (.call (.c (.func 29 [] [])) [(.t 114)])) :: (oa 116 (.eq (.row [(.i .i64), (.i .i64)]) .true (.t 113) (.t 115)) [5]) :: (oa 117 (.move (.t 116)) [5]) :: (oga 118 (.move (.t 8)) 117 .false [5]) :: (oga 119 (.move (.t 12)) 117 .false [5]) :: L3r13)
def L3s5 : LCode := (.cond (.t 140) (.seq (.reg [(o 4 (.move (.c (.bool .false))))]) .ret) .skip)
def L3s6 : LCode := (.seq (.draw 27 ((o 110 (.move (.t 6))) :: (o 111 (.move (.t 12))) :: (o 112 (.indexAddrS 2 (.t 110) (.t 111))) :: (o 113 (.load .true 2 (.t 112))) :: (o 114 (.load .true 2 (.t 13))) :: L3r14)) L3s5)
def L3s7 : LCode := (.reg [(o 96 (.move (.t 12))), (o 97 (.bin .add (.t 96) (.c (.int .i64 1)))), (o 12 (.move (.t 97)))])
def L3s8 : LCode := (.seq (.block 1 (.seq (.draw 13 ((o 98 (.load .true 10 (.t 2))) :: (o 99 (.move (.t 10))) :: (o 100 (.move (.t 12))) :: (o 101 (.indexAddrS 2 (.t 99) (.t 100))) :: (o 102 (.load .true 2 (.t 101))) :: L3r9)) L3s6)) L3s7)
def L3w0 : LCode := (.seq (.seq (.reg [(o 92 (.move (.t 12))), (o 93 (.move (.t 10))), (o 94 (.len .slice (.t 93))), (o 95 (.bin .lss (.t 92) (.t 94)))]) (.cond (.t 95) .skip (.exit 0))) L3s8)
def L3s9 : LCode := (.seq (.reg [(o 141 (.call (.c (.func 19 [] [])) [])), (o 4 (.move (.t 141)))]) .ret)
def L3s10 : LCode := (.seq (.seq (.reg [(o 12 (.move (.c (.int .i64 0))))]) (.block 0 (.loop L3w0))) L3s9)
def L3s11 : LCode := (.seq (.seq (.reg ((o 72 (.move (.t 7))) :: (o 73 (.eq (.cell (.i .i64)) .true (.t 72) (.c (.int .i64 0)))) :: (o 74 (.move (.t 73))) :: (og 75 (.move (.t 9)) 74 .false) :: (og 76 (.eq (.cell (.i .i64)) .true (.t 75) (.c (.int .i64 0))) 74 .false) :: L3r7)) L3s4) L3s10)
def L3s12 : LCode := (.seq (.seq (.reg [(o 51 (.move (.t 11))), (o 52 (.eq (.cell (.i .i64)) .true (.t 51) (.c (.int .i64 0))))]) L3s3) L3s11)
def L3s13 : LCode := (.seq (.seq (.reg [(o 44 (.move (.t 11))), (o 45 (.eq (.cell (.i .i64)) .false (.t 44) (.c (.int .i64 0)))), (o 46 (.move (.t 45))), (og 47 (.move (.t 1)) 46 .true), (og 48 (.call (.c (.func 25 [] [])) [(.t 47), (.c (.int .i64 0)), (.c (.int .i64 10000))]) 46 .true), (og 49 (.un .not (.t 48)) 46 .true), (o 50 (.pick (.t 46) (.t 49) (.c (.bool .false))))]) L3s2) L3s12)
def L3s14 : LCode := (.seq (.seq (.reg [(o 41 (.move (.t 5))), (o 42 (.move (.t 11))), (o 43 (.eq (.cell (.i .i64)) .true (.t 41) (.t 42)))]) L3s1) L3s13)
def L3s15 : LCode := (.seq (.reg [(o 37 (.load .true 10 (.t 2))), (o 38 (.call (.c (.func 24 [] [])) [(.t 37)])), (o 36 (.move (.t 38))), (o 39 (.extract (.t 36) 0)), (o 40 (.extract (.t 36) 1)), (o 10 (.move (.t 39))), (o 11 (.move (.t 40)))]) L3s14)
def L3s16 : LCode := (.seq (.reg ((o 30 (.load .true 10 (.t 2))) :: (o 31 (.call (.c (.func 21 [] [])) [(.t 30)])) :: (o 32 (.move (.t 1))) :: (o 33 (.call (.c (.func 23 [] [])) [(.t 31), (.t 32)])) :: (o 29 (.move (.t 33))) :: L3r1)) L3s15)
def L3s17 : LCode := (.seq (.reg ((o 23 (.load .true 10 (.t 2))) :: (o 24 (.call (.c (.func 21 [] [])) [(.t 23)])) :: (o 25 (.move (.t 1))) :: (o 26 (.call (.c (.func 22 [] [])) [(.t 24), (.t 25)])) :: (o 22 (.move (.t 26))) :: L3r0)) L3s16)
def L3s18 : LCode := (.seq (.reg [(o 19 (.load .true 10 (.t 2))), (o 20 (.call (.c (.func 21 [] [])) [(.t 19)])), (o 21 (.call (.c (.func 20 [] [])) [(.t 20)])), (o 5 (.move (.t 21)))]) L3s17)
def L3s19 : LCode := (.seq (.seq (.reg [(o 15 (.load .true 10 (.t 2))), (o 16 (.call (.c (.func 18 [] [])) [(.t 15)])), (o 17 (.un .not (.t 16)))]) L3s0) L3s18)
def L3 : LFunc := ⟨142, (.seq (.reg [(o 2 (.box (.t 0))), (o 4 (.move (.c (.bool .false))))]) L3s19), [(.t 4)], .false, .none, vO⟩
def L15r0 : List LOper := [(o 18 (.fieldAddr 5 (.t 4))), (on (.store 1 (.t 18) (.t 15))), (o 19 (.fieldAddr 6 (.t 4))), (on (.store 2 (.t 19) (.t 16))), (o 20 (.fieldAddr 8 (.t 4))), (on (.store 2 (.t 20) (.t 17)))]
def L15s0 : LCode := (.cond (.t 23) (.seq (.reg [(o 24 (.call (.c (.func 19 [] [])) [])), (o 8 (.move (.t 24)))]) .ret) .skip)
def L15r1 : List LOper := [(o 30 (.extract (.t 25) 0)), (o 31 (.extract (.t 25) 1)), (o 9 (.alloc [(.int .i64 0), (.int .i64 0), (.int .i64 0), (.int .i64 0), (.slice .none 0 0), (.slice .none 0 0), (.int .i64 0), (.int .i64 0), (.int .i64 0), (.int .i64 0)])), (on (.store 10 (.t 9) (.t 30))), (o 10 (.move (.t 31)))]
def L15r2 : List LOper := [(o 38 (.call (.c (.func 22 [] [])) [(.t 34), (.t 37)])), (o 32 (.move (.t 38))), (o 39 (.extract (.t 32) 0)), (o 40 (.extract (.t 32) 1)), (o 11 (.move (.t 39))), (o 12 (.move (.t 40)))]
def L15r3 : List LOper := [(oga 66 (.call (.c (.func 50 [] [])) [(.c (.int .i64 1000)), (.c (.int .i64 1000))]) 59 .true [15]), (oga 67 (.eq (.row [(.i .i64), (.i .i64)]) .false (.t 65) (.t 66)) 59 .true [25, 15]), (oa 68 (.pick (.t 59) (.t 67) (.c (.bool .false))) [25, 15]), (oa 69 (.move (.t 68)) [25, 15]), (oga 70 (.call (.c (.func 19 [] [])) []) 69 .true [25, 15]), (oa 71 (.pick (.t 69) (.t 70) (.c (.bool .false))) [29, 25, 15]), (oa 8 (.move (.t 71)) [29, 25, 15])]
def L15r4 : List LOper := ((oga 61 (.move (.t 11)) 59 .true [15]) :: (oga 62 (.len .slice (.t 61)) 59 .true [15]) :: (oga 63 (.bin .sub (.t 62) (.c (.int .i64 1))) 59 .true [15]) :: (oga 64 (.indexAddrS 2 (.t 60) (.t 63)) 59 .true [15]) :: (oga 65 (.load .true 2 (.t 64)) 59 .true [15]) :: L15r3)
def L15r5 : List LOper := ((og 56 (.call (.c (.func 50 [] [])) [(.c (.int .i64 0)), (.c (.int .i64 0))]) 52 .true) :: (oga 57 (.eq (.row [(.i .i64), (.i .i64)]) .false (.t 55) (.t 56)) 52 .true [15]) :: (oa 58 (.pick (.t 52) (.t 57) (.c (.bool .false))) [15]) :: (oa 59 (.move (.t 58)) [15]) :: (oga 60 (.move (.t 11)) 59 .true [15]) :: L15r4)
def L15r6 : List LOper := ((o 51 (.pick (.t 43) (.t 50) (.c (.bool .false)))) :: (o 52 (.move (.t 51))) :: (og 53 (.move (.t 11)) 52 .true) :: (og 54 (.indexAddrS 2 (.t 53) (.c (.int .i64 0))) 52 .true) :: (og 55 (.load .true 2 (.t 54)) 52 .true) :: L15r5)
def L15r7 : List LOper := ((og 46 (.fieldAddr 0 (.t 9)) 43 .true) :: (og 47 (.fieldAddr 0 (.t 46)) 43 .true) :: (og 48 (.load .false 1 (.t 47)) 43 .true) :: (og 49 (.bin .add (.t 48) (.c (.int .i64 1))) 43 .true) :: (og 50 (.eq (.cell (.i .i64)) .false (.t 45) (.t 49)) 43 .true) :: L15r6)
def L15s1 : LCode := (.seq (.draw 26 ((o 41 (.move (.t 12))) :: (o 42 (.eq (.cell (.i .i64)) .false (.t 41) (.c (.int .i64 0)))) :: (o 43 (.move (.t 42))) :: (og 44 (.move (.t 11)) 43 .true) :: (og 45 (.len .slice (.t 44)) 43 .true) :: L15r7)) .ret)
def L15s2 : LCode := (.seq (.reg ((o 33 (.load .true 10 (.t 9))) :: (o 34 (.call (.c (.func 21 [] [])) [(.t 33)])) :: (o 35 (.move (.t 3))) :: (o 36 (.convInt .i64 (.t 35))) :: (o 37 (.bin .rem (.t 36) (.c (.int .i64 10001)))) :: L15r2)) L15s1)
def L15s3 : LCode := (.seq (.reg ((o 26 (.load .true 10 (.t 4))) :: (o 27 (.move (.t 1))) :: (o 28 (.move (.t 2))) :: (o 29 (.call (.c (.func 53 [] [])) [(.t 26), (.t 27), (.t 28)])) :: (o 25 (.move (.t 29))) :: L15r1)) L15s2)
def L15s4 : LCode := (.seq (.seq (.reg [(o 21 (.load .true 10 (.t 4))), (o 22 (.call (.c (.func 52 [] [])) [(.t 21)])), (o 23 (.un .not (.t 22)))]) L15s0) L15s3)
def L15s5 : LCode := (.seq (.reg ((o 13 (.build [(.int .i64 0), (.int .i64 0)] [(0, (1, (.c (.int .i64 700)))), (1, (1, (.c (.int .i64 940))))])) :: (o 14 (.build [(.int .i64 0), (.int .i64 0)] [(0, (1, (.c (.int .i64 760)))), (1, (1, (.c (.int .i64 1000))))])) :: (o 15 (.buildSlice 2 [(.int .i64 0), (.int .i64 0)] [(0, (2, (.t 13))), (2, (2, (.t 14)))])) :: (o 16 (.build [(.int .i64 0), (.int .i64 0)] [(0, (1, (.c (.int .i64 760)))), (1, (1, (.c (.int .i64 760))))])) :: (o 17 (.build [(.int .i64 0), (.int .i64 0)] [])) :: L15r0)) L15s4)
def L15 : LFunc := ⟨72, (.seq (.reg [(o 4 (.box (.t 0))), (o 8 (.move (.c (.bool .false))))]) L15s5), [(.t 8)], .false, .none, vO⟩
theorem lp15 : LP 15 = some L15 := by kernel_rfl
def L59r0 : List LOper := [(o 8 (.load .true 2 (.t 7))), (o 9 (.call (.c (.func 97 [] [])) [(.t 8)])), (oa 10 (.build [(.int .i64 0), (.int .i64 0), (.int .i64 0), (.int .i64 0)] [(0, (1, (.t 4))), (1, (1, (.t 6))), (2, (2, (.t 9)))]) [6]), (ona (.store 4 (.t 2) (.t 10)) [6])]
def L59s0 : LCode := (.seq (.draw 7 ((o 3 (.fieldAddr 0 (.t 1))) :: (o 4 (.load .false 1 (.t 3))) :: (o 5 (.fieldAddr 1 (.t 1))) :: (o 6 (.load .false 1 (.t 5))) :: (o 7 (.fieldAddr 2 (.t 1))) :: L59r0)) .ret)
def L59 : LFunc := ⟨11, (.seq (.reg [(o 1 (.box (.t 0))), (o 2 (.alloc [(.int .i64 0), (.int .i64 0), (.int .i64 0), (.int .i64 0)]))]) L59s0), [(.cell 2 .true 4)], .false, .none, vO⟩
theorem lp59 : LP 59 = some L59 := by kernel_rfl
def L67r0 : List LOper := [(o 17 (.extract (.t 12) 1)), (o 8 (.alloc [(.int .i64 0), (.int .i64 0), (.int .i64 0), (.int .i64 0), (.slice .none 0 0), (.slice .none 0 0), (.int .i64 0), (.int .i64 0), (.int .i64 0), (.int .i64 0), (.int .i64 0), (.int .i64 0), (.int .i64 0), (.int .i64 0), (.int .i64 0), (.int .i64 0), (.int .i64 0), (.int .i64 0), (.int .i64 0), (.int .i64 0), (.int .i64 0), (.int .i64 0), (.int .i64 0), (.int .i64 0), (.int .i64 0), (.int .i64 0), (.int .i64 0), (.int .i64 0), (.int .i64 0), (.int .i64 0), (.int .i64 0), (.int .i64 0)])), (on (.store 32 (.t 8) (.t 16))), (o 9 (.move (.t 17)))]
def L67s0 : LCode := (.cond (.t 19) (.seq (.reg [(o 20 (.move (.t 9))), (o 6 (.move (.c (.slice .none 0 0)))), (o 7 (.move (.t 20)))]) .ret) .skip)
def L67r1 : List LOper := [(o 40 (.call (.t 36) [(.t 37), (.t 38), (.t 39)])), (o 41 (.buildSlice 1 [(.int .i64 0), (.int .i64 0)] [(0, (2, (.t 40)))])), (o 42 (.append 2 16 (.t 35) (.t 41))), (o 10 (.move (.t 42)))]
def L67s1 : LCode := (.reg [(o 33 (.move (.t 11))), (o 34 (.bin .add (.t 33) (.c (.int .i64 1)))), (o 11 (.move (.t 34)))])
def L67s2 : LCode := (.seq (.block 1 (.reg ((o 35 (.move (.t 10))) :: (o 36 (.move (.t 2))) :: (o 37 (.load .true 32 (.t 8))) :: (o 38 (.move (.t 11))) :: (o 39 (.move (.t 1))) :: L67r1))) L67s1)
def L67w0 : LCode := (.seq (.seq (.reg [(o 27 (.move (.t 11))), (o 28 (.fieldAddr 0 (.t 8))), (o 29 (.fieldAddr 0 (.t 28))), (o 30 (.fieldAddr 0 (.t 29))), (o 31 (.load .false 1 (.t 30))), (o 32 (.bin .leq (.t 27) (.t 31)))]) (.cond (.t 32) .skip (.exit 0))) L67s2)
def L67s3 : LCode := (.seq (.reg [(o 43 (.move (.t 10))), (o 6 (.move (.t 43))), (o 7 (.move (.c (.int .i64 0))))]) .ret)
def L67s4 : LCode := (.seq (.seq (.reg [(o 11 (.move (.c (.int .i64 0))))]) (.block 0 (.loop L67w0))) L67s3)
def L67s5 : LCode := (.seq (.reg [(o 21 (.fieldAddr 0 (.t 8))), (o 22 (.fieldAddr 0 (.t 21))), (o 23 (.fieldAddr 0 (.t 22))), (o 24 (.load .false 1 (.t 23))), (o 25 (.bin .add (.t 24) (.c (.int .i64 1)))), (o 26 (.makeSlice [(.int .i64 0), (.int .i64 0)] 16 (.c (.int .i64 0)) (.t 25))), (o 10 (.move (.t 26)))]) L67s4)
def L67s6 : LCode := (.seq (.seq (.reg [(o 18 (.move (.t 9))), (o 19 (.eq (.cell (.i .i64)) .true (.t 18) (.c (.int .i64 0))))]) L67s0) L67s5)
def L67s7 : LCode := (.seq (.reg ((o 13 (.load .true 10 (.t 3))) :: (o 14 (.move (.t 1))) :: (o 15 (.call (.c (.func 105 [] [])) [(.t 13), (.t 14)])) :: (o 12 (.move (.t 15))) :: (o 16 (.extract (.t 12) 0)) :: L67r0)) L67s6)
def L67 : LFunc := ⟨44, (.seq (.reg [(o 3 (.box (.t 0))), (o 6 (.move (.c (.slice .none 0 0)))), (o 7 (.move (.c (.int .i64 0))))]) L67s7), [(.t 6), (.t 7)], .true, .none, vO⟩
theorem lp67 : LP 67 = some L67 := by kernel_rfl
def L75s0 : LCode := (.seq (.reg [(o 3 (.call (.c (.func 103 [] [])) [(.c (.int .i64 10000))])), (o 4 (.move (.t 0))), (o 5 (.call (.c (.func 110 [] [])) [(.t 3), (.t 4)])), (o 2 (.move (.t 5)))]) .ret)
def L75 : LFunc := ⟨6, (.seq (.reg [(o 2 (.move (.c (.bool .false))))]) L75s0), [(.t 2)], .false, .none, vO⟩
theorem lp75 : LP 75 = some L75 := by kernel_rfl
def L103s0 : LCode := (.seq (.reg [(o 3 (.move (.t 0))), (o 4 (.build [(.int .i64 0), (.int .i64 0)] [(1, (1, (.t 3)))])), (on (.store 2 (.t 2) (.t 4)))]) .ret)
def L103 : LFunc := ⟨5, (.seq (.reg [(o 2 (.alloc [(.int .i64 0), (.int .i64 0)]))]) L103s0), [(.cell 2 .true 2)], .false, .none, vO⟩
theorem lp103 : LP 103 = some L103 := by kernel_rfl
def L107s0 : LCode := (.seq (.reg [(o 3 (.fieldAddr 0 (.t 1))), (o 4 (.load .false 1 (.t 3))), (o 5 (.fieldAddr 1 (.t 1))), (o 6 (.load .false 1 (.t 5))), (o 7 (.bin .quo (.t 4) (.t 6))), (o 2 (.move (.t 7)))]) .ret)
def L107 : LFunc := ⟨8, (.seq (.reg [(o 1 (.box (.t 0))), (o 2 (.move (.c (.int .i64 0))))]) L107s0), [(.t 2)], .false, .none, vO⟩
theorem lp107 : LP 107 = some L107 := by kernel_rfl
def L123r0 : List LOper := [(og 28 (.fieldAddr 1 (.t 27)) 16 .true), (og 29 (.load .false 1 (.t 28)) 16 .true), (og 30 (.bin .mul (.t 26) (.t 29)) 16 .true), (og 31 (.call (.c (.func 98 [] [])) [(.t 18), (.t 24), (.t 30)]) 16 .true), (o 32 (.pick (.t 16) (.t 31) (.c (.bool .false)))), (o 2 (.move (.t 32)))]
def L123r1 : List LOper := ((og 23 (.load .false 1 (.t 22)) 16 .true) :: (og 24 (.bin .mul (.t 20) (.t 23)) 16 .true) :: (og 25 (.fieldAddr 0 (.t 1)) 16 .true) :: (og 26 (.load .false 1 (.t 25)) 16 .true) :: (og 27 (.fieldAddr 2 (.t 1)) 16 .true) :: L123r0)
def L123r2 : List LOper := ((og 18 (.load .false 1 (.t 17)) 16 .true) :: (og 19 (.fieldAddr 0 (.t 1)) 16 .true) :: (og 20 (.load .false 1 (.t 19)) 16 .true) :: (og 21 (.fieldAddr 2 (.t 1)) 16 .true) :: (og 22 (.fieldAddr 0 (.t 21)) 16 .true) :: L123r1)
def L123r3 : List LOper := ((og 13 (.load .false 1 (.t 12)) 11 .true) :: (og 14 (.call (.c (.func 98 [] [])) [(.t 13), (.c (.int .i64 1)), (.c (.int .i64 2000))]) 11 .true) :: (o 15 (.pick (.t 11) (.t 14) (.c (.bool .false)))) :: (o 16 (.move (.t 15))) :: (og 17 (.fieldAddr 1 (.t 1)) 16 .true) :: L123r2)
def L123r4 : List LOper := ((og 8 (.load .true 2 (.t 7)) 6 .true) :: (og 9 (.call (.c (.func 124 [] [])) [(.t 8), (.c (.int .i64 1)), (.c (.int .i64 200))]) 6 .true) :: (o 10 (.pick (.t 6) (.t 9) (.c (.bool .false)))) :: (o 11 (.move (.t 10))) :: (og 12 (.fieldAddr 1 (.t 1)) 11 .true) :: L123r3)
def L123s0 : LCode := (.seq (.reg ((o 3 (.fieldAddr 0 (.t 1))) :: (o 4 (.load .false 1 (.t 3))) :: (o 5 (.call (.c (.func 98 [] [])) [(.t 4), (.c (.int .i64 1)), (.c (.int .i64 10))])) :: (o 6 (.move (.t 5))) :: (og 7 (.fieldAddr 2 (.t 1)) 6 .true) :: L123r4)) .ret)
def L123 : LFunc := ⟨33, (.seq (.reg [(o 1 (.box (.t 0))), (o 2 (.move (.c (.bool .false))))]) L123s0), [(.t 2)], .false, .none, vO⟩
theorem lp123 : LP 123 = some L123 := by kernel_rfl
def L135r0 : List LOper := [(o 30 (.extract (.t 25) 1)), (on (.store 174 (.t 6) (.t 29))), (o 7 (.move (.t 30)))]
def L135s0 : LCode := (.cond (.t 32) (.seq (.reg [(o 33 (.build (Zr 174) [])), (on (.store 174 (.t 4) (.t 33))), (o 5 (.move (.c (.bool .false))))]) .ret) .skip)
def L135s1 : LCode := (.seq (.reg [(o 31 (.move (.t 7))), (o 32 (.un .not (.t 31)))]) L135s0)
def L135s2 : LCode := (.seq (.reg ((o 26 (.load .true 174 (.t 6))) :: (o 27 (.load .true 4 (.t 10))) :: (o 28 (.call (.c (.func 154 [] [])) [(.t 26), (.t 27)])) :: (o 25 (.move (.t 28))) :: (o 29 (.extract (.t 25) 0)) :: L135r0)) L135s1)
def L135s3 : LCode := (.seq (.reg [(o 23 (.move (.t 8))), (o 24 (.load .true 4 (.t 10))), (on (.mapUpdate (.row [(.i .i64), (.i .i64), (.i .i64), (.i .i64)]) (.t 23) (.t 24) (.c (.bool .true))))]) L135s2)
def L135s4 : LCode := (.seq (.seq (.reg [(o 20 (.move (.t 8))), (o 21 (.load .true 4 (.t 10))), (o 22 (.lookup (.row [(.i .i64), (.i .i64), (.i .i64), (.i .i64)]) (.bool .false) .false (.t 20) (.t 21)))]) (.cond (.t 22) (.exit 1) .skip)) L135s3)
def L135s5 : LCode := (.reg [(o 34 (.bin .add (.t 16) (.c (.int .i64 1)))), (o 16 (.move (.t 34)))])
def L135s6 : LCode := (.seq (.block 1 (.seq (.reg [(o 18 (.indexAddrS 4 (.t 14) (.t 16))), (o 19 (.load .true 4 (.t 18))), (o 10 (.alloc [(.int .i64 0), (.int .i64 0), (.int .i64 0), (.int .i64 0)])), (on (.store 4 (.t 10) (.t 19)))]) L135s4)) L135s5)
def L135w0 : LCode := (.seq (.reg [(o 17 (.bin .lss (.t 16) (.t 15)))]) (.seq (.cond (.t 17) .skip (.exit 0)) L135s6))
def L135s7 : LCode := (.seq (.reg [(o 35 (.load .true 174 (.t 6))), (on (.store 174 (.t 4) (.t 35))), (o 5 (.move (.c (.bool .true))))]) .ret)
def L135s8 : LCode := (.seq (.seq (.reg [(o 14 (.move (.t 1))), (o 15 (.len .slice (.t 14))), (o 16 (.move (.c (.int .i64 0))))]) (.block 0 (.loop L135w0))) L135s7)
def L135s9 : LCode := (.seq (.reg [(o 13 .makeMap), (o 8 (.move (.t 13)))]) L135s8)
def L135s10 : LCode := (.seq (.reg [(o 11 (.load .true 4 (.t 2))), (o 12 (.call (.c (.func 153 [] [])) [(.t 11)])), (o 6 (.alloc (Zr 174))), (on (.store 174 (.t 6) (.t 12))), (o 7 (.move (.c (.bool .true))))]) L135s9)
def L135 : LFunc := ⟨36, (.seq (.reg [(o 2 (.box (.t 0))), (o 4 (.alloc (Zr 174))), (o 5 (.move (.c (.bool .false))))]) L135s10), [(.cell 4 .true 174), (.t 5)], .false, .none, vO⟩
theorem lp135 : LP 135 = some L135 := by kernel_rfl
def L139r0 : List LOper := [(og 20 (.call (.c (.func 144 [] [])) [(.t 17), (.t 19)]) 16 .true), (o 21 (.pick (.t 16) (.t 20) (.c (.bool .false)))), (o 4 (.move (.t 21)))]
def L139r1 : List LOper := ((o 15 (.pick (.t 10) (.t 14) (.c (.bool .false)))) :: (o 16 (.move (.t 15))) :: (og 17 (.load .true 2 (.t 3)) 16 .true) :: (og 18 (.fieldAddr 1 (.t 2)) 16 .true) :: (og 19 (.load .false 1 (.t 18)) 16 .true) :: L139r0)
def L139r2 : List LOper := ((o 10 (.move (.t 9))) :: (og 11 (.load .true 2 (.t 3)) 10 .true) :: (og 12 (.fieldAddr 0 (.t 2)) 10 .true) :: (og 13 (.load .false 1 (.t 12)) 10 .true) :: (og 14 (.call (.c (.func 144 [] [])) [(.t 11), (.t 13)]) 10 .true) :: L139r1)
def L139s0 : LCode := (.seq (.reg ((o 5 (.fieldAddr 0 (.t 2))) :: (o 6 (.load .false 1 (.t 5))) :: (o 7 (.fieldAddr 1 (.t 2))) :: (o 8 (.load .false 1 (.t 7))) :: (o 9 (.bin .leq (.t 6) (.t 8))) :: L139r2)) .ret)
def L139 : LFunc := ⟨22, (.seq (.reg [(o 2 (.box (.t 0))), (o 3 (.box (.t 1))), (o 4 (.move (.c (.bool .false))))]) L139s0), [(.t 4)], .false, .none, vO⟩
theorem lp139 : LP 139 = some L139 := by kernel_rfl
def L151s0 : LCode := (.cond (.t 16) (.seq (.reg [(o 4 (.move (.c (.bool .false))))]) .ret) .skip)
def L151s1 : LCode := (.seq (.reg [(o 13 (.move (.t 1))), (o 14 (.load .true 4 (.t 6))), (o 15 (.call (.t 13) [(.t 14)])), (o 16 (.un .not (.t 15)))]) L151s0)
def L151s2 : LCode := (.reg [(o 17 (.bin .add (.t 9) (.c (.int .i64 1)))), (o 9 (.move (.t 17)))])
def L151s3 : LCode := (.seq (.block 1 (.seq (.reg [(o 11 (.indexAddrS 4 (.t 7) (.t 9))), (o 12 (.load .true 4 (.t 11))), (o 6 (.alloc [(.int .i64 0), (.int .i64 0), (.int .i64 0), (.int .i64 0)])), (on (.store 4 (.t 6) (.t 12)))]) L151s1)) L151s2)
def L151w0 : LCode := (.seq (.reg [(o 10 (.bin .lss (.t 9) (.t 8)))]) (.seq (.cond (.t 10) .skip (.exit 0)) L151s3))
def L151s4 : LCode := (.seq (.seq (.reg [(o 7 (.move (.t 0))), (o 8 (.len .slice (.t 7))), (o 9 (.move (.c (.int .i64 0))))]) (.block 0 (.loop L151w0))) (.seq (.reg [(o 4 (.move (.c (.bool .true))))]) .ret))
def L151 : LFunc := ⟨18, (.seq (.reg [(o 4 (.move (.c (.bool .false))))]) L151s4), [(.t 4)], .false, .none, vO⟩
theorem lp151 : LP 151 = some L151 := by kernel_rfl
def L155s0 : LCode := (.cond (.t 16) (.seq (.reg [(o 4 (.move (.c (.bool .false))))]) .ret) .skip)
def L155s1 : LCode := (.seq (.reg [(o 13 (.move (.t 1))), (o 14 (.load .true 2 (.t 6))), (o 15 (.call (.t 13) [(.t 14)])), (o 16 (.un .not (.t 15)))]) L155s0)
def L155s2 : LCode := (.reg [(o 17 (.bin .add (.t 9) (.c (.int .i64 1)))), (o 9 (.move (.t 17)))])
def L155s3 : LCode := (.seq (.block 1 (.seq (.reg [(o 11 (.indexAddrS 2 (.t 7) (.t 9))), (o 12 (.load .true 2 (.t 11))), (o 6 (.alloc [(.int .i64 0), (.int .i64 0)])), (on (.store 2 (.t 6) (.t 12)))]) L155s1)) L155s2)
def L155w0 : LCode := (.seq (.reg [(o 10 (.bin .lss (.t 9) (.t 8)))]) (.seq (.cond (.t 10) .skip (.exit 0)) L155s3))
def L155s4 : LCode := (.seq (.seq (.reg [(o 7 (.move (.t 0))), (o 8 (.len .slice (.t 7))), (o 9 (.move (.c (.int .i64 0))))]) (.block 0 (.loop L155w0))) (.seq (.reg [(o 4 (.move (.c (.bool .true))))]) .ret))
def L155 : LFunc := ⟨18, (.seq (.reg [(o 4 (.move (.c (.bool .false))))]) L155s4), [(.t 4)], .false, .none, vO⟩
theorem lp155 : LP 155 = some L155 := by kernel_rfl
def L159s0 : LCode := (.seq (.reg [(o 5 (.makeFunc 171 [] [(.t 2), (.t 3)])), (o 4 (.move (.t 5)))]) .ret)
def L159 : LFunc := ⟨6, (.seq (.reg [(o 2 (.box (.t 0))), (o 3 (.box (.t 1))), (o 4 (.move (.c .nilFunc)))]) L159s0), [(.t 4)], .true, .none, vO⟩
theorem lp159 : LP 159 = some L159 := by kernel_rfl
def L171r0 : List LOper := [(o 17 (.sliceS 2 (.t 12) (.some (.t 14)) (.some (.t 16)))), (o 18 (.call (.c (.func 140 [] [])) [(.t 17)])), (o 5 (.alloc [(.int .i64 0), (.int .i64 0)])), (on (.store 2 (.t 5) (.t 18)))]
def L171r1 : List LOper := [(oga 29 (.load .false 1 (.t 1)) 22 .true [2]), (oga 30 (.move (.t 4)) 22 .true [2]), (oga 31 (.indexAddrS 2 (.t 29) (.t 30)) 22 .true [2]), (oga 32 (.load .true 2 (.t 31)) 22 .true [2]), (oga 33 (.call (.t 23) [(.t 28), (.t 32)]) 22 .true [2]), (oga 34 (.un .not (.t 33)) 22 .true [14, 2]), (oa 35 (.pick (.t 22) (.t 34) (.c (.bool .false))) [14, 2])]
def L171r2 : List LOper := ((oga 24 (.load .false 1 (.t 1)) 22 .true [2]) :: (oga 25 (.move (.t 4)) 22 .true [2]) :: (oga 26 (.bin .sub (.t 25) (.c (.int .i64 1))) 22 .true [2]) :: (oga 27 (.indexAddrS 2 (.t 24) (.t 26)) 22 .true [2]) :: (oga 28 (.load .true 2 (.t 27)) 22 .true [2]) :: L171r1)
def L171s0 : LCode := (.seq (.draw 14 ((o 19 (.load .true 2 (.t 5))) :: (o 20 (.load .false 1 (.t 2))) :: (o 21 (.call (.c (.func 144 [] [])) [(.t 19), (.t 20)])) :: (oa 22 (.move (.t 21)) [2]) :: (oga 23 (.move (.t 0)) 22 .true [2]) :: L171r2)) (.cond (.t 35) .ret .skip))
def L171s1 : LCode := (.reg [(o 10 (.move (.t 4))), (o 11 (.bin .add (.t 10) (.c (.int .i64 1)))), (o 4 (.move (.t 11)))])
def L171s2 : LCode := (.seq (.block 1 (.seq (.reg ((o 12 (.load .false 1 (.t 1))) :: (o 13 (.move (.t 4))) :: (o 14 (.bin .sub (.t 13) (.c (.int .i64 1)))) :: (o 15 (.move (.t 4))) :: (o 16 (.bin .add (.t 15) (.c (.int .i64 1)))) :: L171r0)) L171s0)) L171s1)
def L171w0 : LCode := (.seq (.seq (.reg [(o 6 (.move (.t 4))), (o 7 (.load .false 1 (.t 1))), (o 8 (.len .slice (.t 7))), (o 9 (.bin .lss (.t 6) (.t 8)))]) (.cond (.t 9) .skip (.exit 0))) L171s2)
def L171 : LFunc := ⟨36, (.seq (.reg [(o 4 (.move (.c (.int .i64 1))))]) (.block 0 (.loop L171w0))), [], .true, .none, vO⟩
theorem lp171 : LP 171 = some L171 := by kernel_rfl
end
end Go.Hx

namespace Go.Hx
noncomputable section
def spWakes : List HV → HS → Option (HV × HS)
  | [], σ => some (.bool true, σ)
  | _, _ => none
def LW : Nat → Option LFunc := withS LP 19 spWakes
theorem withS_of {lp : Nat → Option LFunc} {f : Nat} {g : List HV → HS → Option (HV × HS)} {k : Nat} {lf : LFunc} (hk : Nat.beq k f = false) (h : lp k = some lf) : withS lp f g k = some lf := by
  unfold withS
  rw [hk]
  exact h
theorem lw_of {k : Nat} {lf : LFunc} (hk : Nat.beq k 19 = false) (h : LP k = some lf) : LW k = some lf := withS_of hk h
theorem lw15 : LW 15 = some L15 := lw_of rfl lp15
theorem lw18 : LW 18 = some L18 := lw_of rfl lp18
theorem lw21 : LW 21 = some L21 := lw_of rfl lp21
theorem lw22 : LW 22 = some L22 := lw_of rfl lp22
theorem lw25 : LW 25 = some L25 := lw_of rfl lp25
theorem lw29 : LW 29 = some L29 := lw_of rfl lp29
theorem lw40 : LW 40 = some L40 := lw_of rfl lp40
theorem lw50 : LW 50 = some L50 := lw_of rfl lp50
theorem lw52 : LW 52 = some L52 := lw_of rfl lp52
theorem lw53 : LW 53 = some L53 := lw_of rfl lp53
theorem lw56 : LW 56 = some L56 := lw_of rfl lp56
theorem lw59 : LW 59 = some L59 := lw_of rfl lp59
theorem lw60 : LW 60 = some L60 := lw_of rfl lp60
theorem lw65 : LW 65 = some L65 := lw_of rfl lp65
theorem lw66 : LW 66 = some L66 := lw_of rfl lp66
theorem lw67 : LW 67 = some L67 := lw_of rfl lp67
theorem lw68 : LW 68 = some L68 := lw_of rfl lp68
theorem lw70 : LW 70 = some L70 := lw_of rfl lp70
theorem lw75 : LW 75 = some L75 := lw_of rfl lp75
theorem lw84 : LW 84 = some L84 := lw_of rfl lp84
theorem lw85 : LW 85 = some L85 := lw_of rfl lp85
theorem lw86 : LW 86 = some L86 := lw_of rfl lp86
theorem lw92 : LW 92 = some L92 := lw_of rfl lp92
theorem lw93 : LW 93 = some L93 := lw_of rfl lp93
theorem lw94 : LW 94 = some L94 := lw_of rfl lp94
theorem lw96 : LW 96 = some L96 := lw_of rfl lp96
theorem lw97 : LW 97 = some L97 := lw_of rfl lp97
theorem lw98 : LW 98 = some L98 := lw_of rfl lp98
theorem lw101 : LW 101 = some L101 := lw_of rfl lp101
theorem lw102 : LW 102 = some L102 := lw_of rfl lp102
theorem lw103 : LW 103 = some L103 := lw_of rfl lp103
theorem lw104 : LW 104 = some L104 := lw_of rfl lp104
theorem lw105 : LW 105 = some L105 := lw_of rfl lp105
theorem lw106 : LW 106 = some L106 := lw_of rfl lp106
theorem lw107 : LW 107 = some L107 := lw_of rfl lp107
theorem lw108 : LW 108 = some L108 := lw_of rfl lp108
theorem lw110 : LW 110 = some L110 := lw_of rfl lp110
theorem lw123 : LW 123 = some L123 := lw_of rfl lp123
theorem lw124 : LW 124 = some L124 := lw_of rfl lp124
theorem lw133 : LW 133 = some L133 := lw_of rfl lp133
theorem lw134 : LW 134 = some L134 := lw_of rfl lp134
theorem lw135 : LW 135 = some L135 := lw_of rfl lp135
theorem lw136 : LW 136 = some L136 := lw_of rfl lp136
theorem lw137 : LW 137 = some L137 := lw_of rfl lp137
theorem lw138 : LW 138 = some L138 := lw_of rfl lp138
theorem lw139 : LW 139 = some L139 := lw_of rfl lp139
theorem lw140 : LW 140 = some L140 := lw_of rfl lp140
theorem lw141 : LW 141 = some L141 := lw_of rfl lp141
theorem lw142 : LW 142 = some L142 := lw_of rfl lp142
theorem lw144 : LW 144 = some L144 := lw_of rfl lp144
theorem lw150 : LW 150 = some L150 := lw_of rfl lp150
theorem lw151 : LW 151 = some L151 := lw_of rfl lp151
theorem lw152 : LW 152 = some L152 := lw_of rfl lp152
theorem lw153 : LW 153 = some L153 := lw_of rfl lp153
theorem lw154 : LW 154 = some L154 := lw_of rfl lp154
theorem lw155 : LW 155 = some L155 := lw_of rfl lp155
theorem lw156 : LW 156 = some L156 := lw_of rfl lp156
theorem lw157 : LW 157 = some L157 := lw_of rfl lp157
theorem lw158 : LW 158 = some L158 := lw_of rfl lp158
theorem lw159 : LW 159 = some L159 := lw_of rfl lp159
theorem lw160 : LW 160 = some L160 := lw_of rfl lp160
theorem lw161 : LW 161 = some L161 := lw_of rfl lp161
theorem lw168 : LW 168 = some L168 := lw_of rfl lp168
theorem lw169 : LW 169 = some L169 := lw_of rfl lp169
theorem lw170 : LW 170 = some L170 := lw_of rfl lp170
theorem lw171 : LW 171 = some L171 := lw_of rfl lp171
theorem lw172 : LW 172 = some L172 := lw_of rfl lp172
theorem lw180 : LW 180 = some L180 := lw_of rfl lp180
theorem lw181 : LW 181 = some L181 := lw_of rfl lp181
theorem V.ct_wakes {fl : Nat} {h : Tr HBlk} {nx : Nat} : C LW fl 19 [] ⟨h, nx⟩ (V.KS (.bool true) nx h) :=
  c_spec (lf := ⟨0, .bad, [], false, some spWakes, fun _ _ => none⟩) rfl rfl rfl (Nat.le_refl _) ⟨rfl, nx, Nat.le_refl _, rfl⟩
end
end Go.Hx

namespace Go.Hx.V
open Go.Hx
variable {lp : Nat → Option LFunc} {fl nt : Nat} {rd : Option Nat} {Q : HExit → HAct → HS → Prop} {T : Tr HV} {ds : List Nat} {σ : HS} {c : LCode}
end Go.Hx.V

namespace Go.Hx.V
open Go.Hx
def eI (k : IntKind) (n : Nat) (f : Nat → Int) : List HV := (List.range n).map fun i => .int k (f i)
def eB (n : Nat) (f : Nat → Bool) : List HV := (List.range n).map fun i => .bool (f i)
def ups {α : Type} (f : Nat → α) (j : Nat) (v : α) : Nat → α := fun i => if i = j then v else f i
section
variable {k : IntKind} {n : Nat} {f : Nat → Int} {g : Nat → Bool}
theorem eI_len : (eI k n f).length = n := by unfold eI; rw [List.length_map, List.length_range]
theorem eB_len : (eB n g).length = n := by unfold eB; rw [List.length_map, List.length_range]
theorem eI_one : (eI k n f).all HV.one = true := by
  unfold eI; rw [List.all_map, List.all_eq_true]; intro i _; rfl
theorem eB_one : (eB n g).all HV.one = true := by
  unfold eB; rw [List.all_map, List.all_eq_true]; intro i _; rfl
theorem eI_get {i : Nat} (h : i < n) : (eI k n f)[i]? = some (.int k (f i)) := by
  unfold eI; rw [List.getElem?_map, List.getElem?_range h]; rfl
theorem ovw1 : ∀ (l : List HV) (i : Nat) (v : HV), i < l.length → overwrite l i [v] = some (l.set i v)
  | [], i, v, h => by simp at h
  | x :: l, 0, v, h => by cases l <;> rfl
  | x :: l, i + 1, v, h => by
    show (overwrite l i [v]).map _ = _
    rw [ovw1 l i v (by simpa using h)]; rfl
theorem eI_set {i : Nat} {v : Int} : (eI k n f).set i (.int k v) = eI k n (ups f i v) := by
  apply List.ext_getElem?
  intro j
  rw [List.getElem?_set]
  by_cases hj : j < n
  · rw [eI_get (f := ups f i v) hj, eI_len]
    by_cases e : i = j
    · subst e; rw [if_pos rfl, if_pos hj]; unfold ups; rw [if_pos rfl]
    · rw [if_neg e, eI_get hj]; unfold ups; rw [if_neg (Ne.symm e)]
  · rw [List.getElem?_eq_none (l := eI k n (ups f i v)) (by rw [eI_len]; omega), List.getElem?_eq_none (l := eI k n f) (by rw [eI_len]; omega), eI_len]
    by_cases e : i = j
    · subst e; rw [if_pos rfl, if_neg hj]
    · rw [if_neg e]
theorem ar_get (P : List HV) {p off ix : Nat} (hp : P.length = p) (ho : off = p + ix) (hl : ix < n) : (P ++ eI k n f)[off]? = some (.int k (f ix)) := by
  rw [List.getElem?_append_right (by omega), show off - P.length = ix by omega]; exact eI_get hl
theorem ar_set (P : List HV) {p off ix : Nat} {v : Int} (hp : P.length = p) (ho : off = p + ix) (hl : ix < n) : overwrite (P ++ eI k n f) off [.int k v] = some (P ++ eI k n (ups f ix v)) := by
  rw [ovw1 _ _ _ (by rw [List.length_append, eI_len]; omega), List.set_append_right _ _ (by omega), show off - P.length = ix by omega, eI_set]
end
theorem tk_tail (P1 P2 : List HV) {E : List HV} {m off n : Nat} (h1 : P1.length = off) (hE : E.length = m) (h2 : P2.length + m = n) : takeN n ((P1 ++ (P2 ++ E)).drop off) = some (P2 ++ E) := by
  rw [← h1, List.drop_left, ← h2, ← hE, ← List.length_append]; exact takeN_all _
theorem ov_full : ∀ (q r : List HV), q.length = r.length → overwrite q 0 r = some r
  | [], [], _ => rfl
  | x :: q, [], h => by simp at h
  | [], y :: r, h => by simp at h
  | x :: q, y :: r, h => by
    show (overwrite q 0 r).map _ = _
    rw [ov_full q r (by simpa using h)]; rfl
theorem ov_tail : ∀ (P : List HV) {q r : List HV} {off : Nat}, P.length = off → q.length = r.length → overwrite (P ++ q) off r = some (P ++ r)
  | [], q, r, off, h, e => by rw [← h]; exact ov_full q r e
  | x :: P, q, [], off, h, e => by
    have : q = [] := List.length_eq_zero_iff.1 (by simpa using e)
    subst this
    cases off <;> rfl
  | x :: P, q, y :: r, off, h, e => by
    subst h
    show (overwrite (P ++ q) P.length (y :: r)).map _ = _
    rw [ov_tail P rfl e]; rfl
theorem len_tail (P : List HV) {E : List HV} {m n : Nat} (hE : E.length = m) (h : P.length + m = n) : (P ++ E).length = n := by rw [List.length_append, hE, h]
theorem one_tail (P : List HV) {E : List HV} (h : P.all HV.one = true) (hE : E.all HV.one = true) : (P ++ E).all HV.one = true := by rw [List.all_append, h, hE]; rfl
section
variable {n0 nx : Nat} {h0 h : Tr HBlk} {F0 F : PH} {L : List LE}
theorem St.cells (st : St n0 h0 F0 F h nx L) (i : Nat) {b : Nat} {cs : List HV} (hi : L[i]? = some (.bx b cs)) (cs' : List HV) (he : cs = cs') : St n0 h0 F0 F h nx (L.set i (.bx b cs')) := by
  subst he
  have : L.set i (.bx b cs) = L := by
    apply List.ext_getElem?
    intro j
    rw [List.getElem?_set]
    by_cases e : i = j
    · subst e
      rw [if_pos rfl, hi]
      split
      · rfl
      · rename_i hn; rw [List.getElem?_eq_none (by omega)] at hi; cases hi
    · rw [if_neg e]
  rw [this]; exact st
end
def rF (k : IntKind) (n : Nat) : Rel (Nat → Int) := fun _ f r => r = eI k n f
def rFB (n : Nat) : Rel (Nat → Bool) := fun _ f r => r = eB n f
instance {k : IntKind} {n : Nat} : OkR (rF k n) n := ⟨fun _ h => h, fun h => by rw [h]; exact eI_len, fun h => by rw [h]; exact eI_one⟩
instance {n : Nat} : OkR (rFB n) n := ⟨fun _ h => h, fun h => by rw [h]; exact eB_len, fun h => by rw [h]; exact eB_one⟩
end Go.Hx.V

namespace Go.Hx.V
open Go.Hx
def KD {κ : Type} [DecidableEq κ] (D : ED) (en : κ → HV) : Prop := ∀ a b : κ, eqH D (en a) (en b) = some (decide (a = b))
def KRw {κ : Type} [DecidableEq κ] (ks : List Leaf) (en : κ → List HV) : Prop := ∀ a b : κ, eqRow ks (en a) (en b) = some (decide (a = b))
theorem KRw.one {k : IntKind} : KRw [.i k] (fun x : Int => [.int k x]) := fun a b => by
  show (match (if k = k ∧ k = k then some (a == b) else none), some true with | some a, some b => some (a && b) | _, _ => none) = _
  rw [if_pos ⟨rfl, rfl⟩]
  show some ((a == b) && true) = _
  rw [Bool.and_true]; rfl
theorem KRw.cons {κ : Type} [DecidableEq κ] {ks : List Leaf} {en : κ → List HV} {k : IntKind} (h : KRw ks en) : KRw (.i k :: ks) (fun p : Int × κ => .int k p.1 :: en p.2) := fun a b => by
  show (match (if k = k ∧ k = k then some (a.1 == b.1) else none), eqRow ks (en a.2) (en b.2) with | some a, some b => some (a && b) | _, _ => none) = _
  rw [if_pos ⟨rfl, rfl⟩, h a.2 b.2]
  show some ((a.1 == b.1) && decide (a.2 = b.2)) = _
  congr 1
  obtain ⟨a1, a2⟩ := a
  obtain ⟨b1, b2⟩ := b
  by_cases c : a1 = b1
  · by_cases c' : a2 = b2
    · subst c; subst c'; simp
    · simp [c, c']
  · simp [c]
theorem KD.row {κ : Type} [DecidableEq κ] {ks : List Leaf} {en : κ → List HV} (h : KRw ks en) : KD (.row ks) (fun k => .agg (en k)) := h
section
variable {κ β : Type} [DecidableEq κ]
def look : List (κ × β) → κ → Option β
  | [], _ => none
  | (x, v) :: l, k => if k = x then some v else look l k
def putM (k : κ) (v : β) : List (κ × β) → List (κ × β)
  | [] => [(k, v)]
  | (x, u) :: l => if k = x then (k, v) :: l else (x, u) :: putM k v l
def upm (m : κ → Option β) (k : κ) (v : β) : κ → Option β := fun j => if j = k then some v else m j
theorem look_put {k : κ} {v : β} : ∀ (l : List (κ × β)) (j : κ), look (putM k v l) j = if j = k then some v else look l j
  | [], j => rfl
  | (x, u) :: l, j => by
    unfold putM
    by_cases c : k = x
    · rw [if_pos c]
      unfold look
      by_cases c' : j = k
      · rw [if_pos c', if_pos c']
      · rw [if_neg c', if_neg c', if_neg (fun e => c' (e.trans c.symm))]
    · rw [if_neg c]
      unfold look
      by_cases c' : j = x
      · rw [if_pos c', if_neg (fun e => c (e.symm.trans c')), if_pos c']
      · rw [if_neg c', if_neg c', look_put l j]
def MR (D : ED) (en : κ → HV) (ev : β → HV) (es : List (HV × HV)) (m : κ → Option β) : Prop := KD D en ∧ ∃ l : List (κ × β), es = l.map (fun p => (en p.1, ev p.2)) ∧ ∀ k, m k = look l k
theorem MR.nil {D : ED} {en : κ → HV} {ev : β → HV} (h : KD D en) : MR D en ev [] (fun _ => none) := ⟨h, [], rfl, fun _ => rfl⟩
theorem MR.find {D : ED} {en : κ → HV} {ev : β → HV} {es : List (HV × HV)} {m : κ → Option β} (h : MR D en ev es m) (k : κ) : findH D (en k) es = some ((m k).map ev) := by
  obtain ⟨hd, l, rfl, hm⟩ := h
  rw [hm k]
  clear hm
  induction l with
  | nil => rfl
  | cons p l ih =>
    obtain ⟨x, v⟩ := p
    show (match eqH D (en k) (en x) with | some true => some (some (ev v)) | some false => findH D (en k) (l.map fun p : κ × β => (en p.1, ev p.2)) | none => none) = _
    rw [hd k x]
    unfold look
    by_cases c : k = x
    · rw [decide_eq_true c, if_pos c]; rfl
    · rw [decide_eq_false c, if_neg c]; exact ih
theorem MR.upd {D : ED} {en : κ → HV} {ev : β → HV} {es : List (HV × HV)} {m : κ → Option β} (h : MR D en ev es m) (k : κ) (v : β) : ∃ es', updH D (en k) (ev v) es = some es' ∧ MR D en ev es' (upm m k v) := by
  obtain ⟨hd, l, rfl, hm⟩ := h
  refine ⟨(putM k v l).map (fun p => (en p.1, ev p.2)), ?_, hd, putM k v l, rfl, fun j => ?_⟩
  · clear hm
    induction l with
    | nil => rfl
    | cons p l ih =>
      obtain ⟨x, u⟩ := p
      show (match eqH D (en k) (en x) with | some true => some ((en k, ev v) :: l.map fun p : κ × β => (en p.1, ev p.2)) | some false => (updH D (en k) (ev v) (l.map fun p : κ × β => (en p.1, ev p.2))).map ((en x, ev u) :: ·) | none => none) = _
      rw [hd k x]
      unfold putM
      by_cases c : k = x
      · rw [decide_eq_true c, if_pos c]; rfl
      · rw [decide_eq_false c, if_neg c]
        show (updH D (en k) (ev v) (l.map fun p : κ × β => (en p.1, ev p.2))).map ((en x, ev u) :: ·) = _
        rw [ih]; rfl
  · rw [look_put]
    unfold upm
    rw [hm j]
theorem MR.key {D : ED} {en : κ → HV} {ev : β → HV} {es : List (HV × HV)} {m : κ → Option β} (h : MR D en ev es m) (k : κ) : keyOk D (en k) = true := by
  unfold keyOk; rw [h.1 k k]; rfl
end
section
variable {lp : Nat → Option LFunc} {fl : Nat} {N : HAct → HS → Prop} {nt d : Nat} {T : Tr HV} {ds : List Nat} {h : Tr HBlk} {nx : Nat} {os : List LOper} {anc : List Nat} {κ β : Type} [DecidableEq κ]
theorem v_mm {n0 : Nat} {h0 : Tr HBlk} {F0 F : PH} {L : List LE} (st : St n0 h0 F0 F h nx L) (hn : ∀ b h' n', St n0 h0 F0 F h' n' (L ++ [.any b (.map [])]) → R lp fl os N ⟨nt, T.set d (some (.map (some b))), ds⟩ ⟨h', n'⟩) (hd : Nat.blt d nt = true := by rfl) : R lp fl (⟨some d, .makeMap, none, anc⟩ :: os) N ⟨nt, T, ds⟩ ⟨h, nx⟩ :=
  r_mm (by
    rw [put_eq hd]
    have hne := st.ext.le
    exact hn _ _ _ (st.push (b := nx) (Ext.set st.d (by omega) (by omega) (by omega)) (fun c hc => by rw [os_any hc]; omega) ⟨by omega, by omega, get_same _ _ _⟩))
theorem v_lk1 {D : ED} {en : κ → HV} {ev : β → HV} {es : List (HV × HV)} {m : κ → Option β} {b : Nat} {x y : Lo} {kv zero : HV} (hm : MR D en ev es m) (hg : h.get b = some (.map es)) (k : κ) (z : β) (hk : kv = en k) (hz : zero = ev z) (hn : R lp fl os N ⟨nt, T.set d (some (ev ((m k).getD z))), ds⟩ ⟨h, nx⟩) (hx : lo T x = .map (some b) := by first | exact ev_c | (apply ev_t; exact gA)) (hy : lo T y = kv := by first | exact ev_c | (apply ev_t; exact gA)) (hd : Nat.blt d nt = true := by rfl) : R lp fl (⟨some d, .lookup D zero false x y, none, anc⟩ :: os) N ⟨nt, T, ds⟩ ⟨h, nx⟩ := by
  subst hk; subst hz
  refine r_lku ((ev_eq x).trans hx) ((ev_eq y).trans hy) (hm.key k) hg (hm.find k) ?_
  rw [put_eq hd]
  cases e : m k <;> (rw [e] at hn; exact hn)
theorem v_mu {n0 : Nat} {h0 : Tr HBlk} {F0 F : PH} {L : List LE} {D : ED} {en : κ → HV} {ev : β → HV} {es : List (HV × HV)} {m : κ → Option β} {b : Nat} {x y z : Lo} {kv vv : HV} (st : St n0 h0 F0 F h nx L) (i : Nat) (hi : L[i]? = some (.any b (.map es))) (hm : MR D en ev es m) (k : κ) (v : β) (hk : kv = en k) (hv : vv = ev v) (hfl : fl ≤ n0) (hn : ∀ es' h', MR D en ev es' (upm m k v) → St n0 h0 F0 F h' nx (L.set i (.any b (.map es'))) → R lp fl os N ⟨nt, T, ds⟩ ⟨h', nx⟩) (hx : lo T x = .map (some b) := by first | exact ev_c | (apply ev_t; exact gA)) (hy : lo T y = kv := by first | exact ev_c | (apply ev_t; exact gA)) (hw : lo T z = vv := by first | exact ev_c | (apply ev_t; exact gA)) : R lp fl (⟨none, .mapUpdate D x y z, none, anc⟩ :: os) N ⟨nt, T, ds⟩ ⟨h, nx⟩ := by
  subst hk; subst hv
  obtain ⟨es', e1, e2⟩ := hm.upd k v
  obtain ⟨h1, h2, h3⟩ := st.at hi
  refine r_mup ((ev_eq x).trans hx) ((ev_eq y).trans hy) ((ev_eq z).trans hw) (hm.key k) h3 (Nat.le_trans hfl h1) e1 ?_
  exact hn es' _ e2 (st.swap hi (Nat.le_refl _) (st.d.upd h2) (fun c hc hne => get_other _ _ fun e => hne (List.mem_singleton.2 e)) (fun c hc => .inl hc) ⟨h1, h2, get_same _ _ _⟩)
end
end Go.Hx.V

namespace Go.Hx.V
open Go.Hx
section
variable {lp : Nat → Option LFunc} {fl : Nat} {N : HAct → HS → Prop} {nt d : Nat} {T : Tr HV} {ds : List Nat} {os : List LOper}
variable {h1 hm h0 : Tr HBlk} {nx s n1 n0 i : Nat} {done : List (Nat × List (Nat × HBlk))} {V : List (Nat × PH)} {F F0 : PH} {L : List LE}
theorem sl_len {α : Type} {l : List α} {a b : Nat} (h : b ≤ l.length) : b - a = ((l.drop a).take (b - a)).length := by rw [List.length_take, List.length_drop]; omega
end
end Go.Hx.V

namespace Go.Hx.V
open Go.Hx
theorem ovw2 : ∀ (l : List HV) (i : Nat) (a b : HV), i + 1 < l.length → overwrite l i [a, b] = some ((l.set i a).set (i + 1) b)
  | [], i, a, b, h => by simp at h
  | [x], 0, a, b, h => by simp at h
  | x :: y :: l, 0, a, b, h => by cases l <;> rfl
  | x :: l, i + 1, a, b, h => by
    show (overwrite l i [a, b]).map _ = _
    rw [ovw2 l i a b (by simpa using h)]; rfl
section
variable {k : IntKind} {n : Nat} {f : Nat → Int}
theorem ar_set2 (P : List HV) {p off ix : Nat} {v w : Int} (hp : P.length = p) (ho : off = p + ix) (hl : ix + 1 < n) : overwrite (P ++ eI k n f) off [.int k v, .int k w] = some (P ++ eI k n (ups (ups f ix v) (ix + 1) w)) := by
  rw [ovw2 _ _ _ _ (by rw [List.length_append, eI_len]; omega), List.set_append_right _ _ (by omega), show off - P.length = ix by omega, eI_set, List.set_append_right _ _ (by omega), show off + 1 - P.length = ix + 1 by omega, eI_set]
theorem ar_set20 {off ix : Nat} {v w : Int} (ho : off = ix) (hl : ix + 1 < n) : overwrite (eI k n f) off [.int k v, .int k w] = some (eI k n (ups (ups f ix v) (ix + 1) w)) := ar_set2 (p := 0) [] rfl (by omega) hl
end
def rqL {α β : Type} (rel : Rel α) (b : PH → β → HV → Prop) : PH → α × β → List HV → HV → Prop := fun F x r w => rel F x.1 r ∧ b F x.2 w
def rqC {α β : Type} (rel : Rel α) (q : PH → β → List HV → HV → Prop) : PH → α × β → List HV → HV → Prop := fun F x r w => ∃ r1 r2, r = r1 ++ r2 ∧ rel F x.1 r1 ∧ q F x.2 r2 w
def rvT2A {α : Type} (q : PH → α → List HV → HV → Prop) : PH → α → HV → Prop := fun F x v => ∃ r w, v = .tuple [.agg r, w] ∧ q F x r w
section
variable {k : IntKind} {n : Nat} {f : Nat → Int}
end
end Go.Hx.V

namespace Go.Hx.V
open Go.Hx
theorem LR.cons1 {α : Type} {rel : Rel α} {sz : Nat} [OkR rel sz] {F : PH} {x : α} {r : List HV} {l : List α} {cs : List HV} (h : rel F x r) (t : LR rel sz F l cs) : LR rel sz F (x :: l) (r ++ cs) := (LR.one h).app t
section
variable {lp : Nat → Option LFunc} {fl : Nat} {N : HAct → HS → Prop} {nt d : Nat} {T : Tr HV} {ds : List Nat} {os : List LOper}
variable {h1 hm h0 : Tr HBlk} {nx s n1 n0 i : Nat} {done : List (Nat × List (Nat × HBlk))} {V : List (Nat × PH)} {F F0 : PH} {L : List LE}
end
end Go.Hx.V

namespace Go.Hx.V
open Go.Hx
set_option maxRecDepth 20000
set_option maxHeartbeats 4000000
def sf18 (N : Nat) (a0_0 a0_1 a0_2 a0_3 : Int) (a0_4 : (List (Int × Int × Int × Int))) (a0_5 : (List (Int × Int))) (a0_6 a0_7 a0_8 a0_9 : Int) : Option Bool :=
  (bif (decide (((a0_4).length : Int) ≤ (15 : Int))) then some (decide (((a0_5).length : Int) ≤ (11 : Int))) else some false)
def sf97 (N : Nat) (a0_0 a0_1 : Int) : Option (Int × Int) :=
  some (a0_0, a0_1)
def sf59 (N : Nat) (a0_0 a0_1 a0_2 a0_3 : Int) : Option (Int × Int × Int × Int) :=
  (bnd (sf97 N a0_2 a0_3) fun v7 => some (a0_0, a0_1, v7.1, v7.2))
def sf60_L1 (N : Nat) (a0 : (List (Int × Int × Int × Int))) (x3 : ((List (Int × Int × Int × Int)) × Int)) : Option (((List (Int × Int × Int × Int)) × Int) ⊕ (List (Int × Int × Int × Int))) :=
  (bif (decide (x3.2 < ((a0).length : Int))) then (ix a0 x3.2 fun x23 => (ix a0 x3.2 fun x24 => (ix a0 x3.2 fun x25 => (bnd (sf97 N x25.2.2.1 x25.2.2.2) fun v26 => (ck ((x3.1.length + 1) * 32 ≤ 35184372088832 ∧ x3.1.length + 1 ≤ 35184372088832) ((ck (rng (x3.2 + (1 : Int))) (some (.inl ((x3.1 ++ [(x23.1, x24.2.1, v26.1, v26.2)]), (x3.2 + (1 : Int)))))))))))) else some (.inr x3.1))
def sf60 (N : Nat) (a0 : (List (Int × Int × Int × Int))) : Option (List (Int × Int × Int × Int)) :=
  bnd (iter (sf60_L1 N a0) N (([] : List (Int × Int × Int × Int)), (0 : Int))) (fun y19 => some y19)
def sf66_L1 (a0 : (List (Int × Int))) (x3 : ((List (Int × Int)) × Int)) : Option (((List (Int × Int)) × Int) ⊕ (List (Int × Int))) :=
  (bif (decide (x3.2 < ((a0).length : Int))) then (ix a0 x3.2 fun x19 => (ix a0 x3.2 fun x20 => (ck ((x3.1.length + 1) * 16 ≤ 35184372088832 ∧ x3.1.length + 1 ≤ 35184372088832) ((ck (rng (x3.2 + (1 : Int))) (some (.inl ((x3.1 ++ [(x19.1, x20.2)]), (x3.2 + (1 : Int)))))))))) else some (.inr x3.1))
def sf66 (N : Nat) (a0 : (List (Int × Int))) : Option (List (Int × Int)) :=
  bnd (iter (sf66_L1 a0) N (([] : List (Int × Int)), (0 : Int))) (fun y15 => some y15)
def sf29 (N : Nat) (a0_0 a0_1 : Int) : Option (Int × Int) :=
  some (a0_0, a0_1)
def sf21 (N : Nat) (a0_0 a0_1 a0_2 a0_3 : Int) (a0_4 : (List (Int × Int × Int × Int))) (a0_5 : (List (Int × Int))) (a0_6 a0_7 a0_8 a0_9 : Int) : Option (Int × Int × Int × Int × (List (Int × Int × Int × Int)) × (List (Int × Int)) × Int × Int × Int × Int) :=
  (bnd (sf59 N a0_0 a0_1 a0_2 a0_3) fun v7 => (bnd (sf60 N a0_4) fun v10 => (bnd (sf66 N a0_5) fun v14 => (bnd (sf29 N a0_8 a0_9) fun v19 => some (v7.1, v7.2.1, v7.2.2.1, v7.2.2.2, v10, v14, a0_6, a0_7, v19.1, v19.2)))))
def sf169 (N : Nat) (a0_0 a0_1 a1 a2 : Int) : Option Bool :=
  (bif (decide (a1 ≤ a0_0)) then (bif (decide (a0_0 ≤ a0_1)) then some (decide (a0_1 ≤ a2)) else some false) else some false)
def sf180 (N : Nat) (a0_0 a0_1 a1 : Int) : Option Bool :=
  (bif (decide (a0_0 ≤ a1)) then some (decide (a1 ≤ a0_1)) else some false)
def sf168 (N : Nat) (a0_0 a0_1 a0_2 a0_3 : Int) : Option Bool :=
  bnd (bnd ((bif (decide (a0_0 < (1 : Int))) then some true else (bif (decide ((10 : Int) < a0_0)) then some true else (bnd (sf169 N a0_2 a0_3 (1 : Int) (200 : Int)) fun v37 => some (!v37)))) : Option (Bool)) (fun y31 => (bif y31 then some (.inl ()) else some (.inr ()))) : Option (Unit ⊕ Unit)) (sel (fun w22 => some false) (fun w24 => (ck (rng (a0_0 * a0_2)) ((ck (rng (a0_0 * a0_3)) ((bif (decide (a0_1 ≤ (2000 : Int))) then (bnd (sf180 N (a0_0 * a0_2) (a0_0 * a0_3) a0_1) fun v48 => some v48) else some false)))))))
def sf150 (N : Nat) (a0_0 a0_1 a0_2 a0_3 : Int) : Option Int :=
  (bnd (sf168 N a0_0 a0_1 a0_2 a0_3) fun v4 => (bif (!v4) then some (1 : Int) else some (0 : Int)))
def sf152 (N : Nat) (a0_0 a0_1 a0_2 a0_3 a1_0 a1_1 a1_2 a1_3 : Int) : Option Bool :=
  (bif (decide ((0 : Int) ≤ a1_0)) then (bif (decide (a1_0 < a0_0)) then (bif (decide (a1_0 ≤ a1_1)) then (bif (decide (a1_1 ≤ a0_0)) then (bnd (sf169 N a1_2 a1_3 (0 : Int) (2000 : Int)) fun v11 => some v11) else some false) else some false) else some false) else some false)
def sf151_L1 (N : Nat) (a0 : (List (Int × Int × Int × Int))) (a1f0_0 a1f0_1 a1f0_2 a1f0_3 x1 : Int) : Option (Int ⊕ (Unit ⊕ Unit)) :=
  (bif (decide (x1 < ((a0).length : Int))) then (ix a0 x1 fun x20 => (bnd (sf152 N a1f0_0 a1f0_1 a1f0_2 a1f0_3 x20.1 x20.2.1 x20.2.2.1 x20.2.2.2) fun v25 => (bif (!v25) then some (.inr (.inl ())) else (ck (rng (x1 + (1 : Int))) (some (.inl (x1 + (1 : Int)))))))) else some (.inr (.inr ())))
def sf151 (N : Nat) (a0 : (List (Int × Int × Int × Int))) (a1f0_0 a1f0_1 a1f0_2 a1f0_3 : Int) : Option Bool :=
  bnd (iter (sf151_L1 N a0 a1f0_0 a1f0_1 a1f0_2 a1f0_3) N (0 : Int)) (sel (fun w15 => some false) (fun w17 => some true))
def sf134 (N : Nat) (a0_0 a0_1 a0_2 a0_3 : Int) (a1 : (List (Int × Int × Int × Int))) : Option Int :=
  (bnd (sf150 N a0_0 a0_1 a0_2 a0_3) fun v4 => (bif (!(decide (v4 = (0 : Int)))) then some v4 else (bif (decide ((12 : Int) < ((a1).length : Int))) then some (3 : Int) else (bnd (sf151 N a1 a0_0 a0_1 a0_2 a0_3) fun v9 => (bif (!v9) then some (2 : Int) else some (0 : Int))))))
def sf181 (N : Nat) (a0p0 a0p1 a0p2 a0p3 a0p4 : Int) (a0p5 : (Nat → Int)) (a1 a2 a3 : Int) : Option Bool :=
  (ck (0 ≤ a2 ∧ a2 < 13) ((ck (0 ≤ a1 ∧ a1 < 13) ((ck (rng (a3 + (a0p5 (((Int.toNat a2) * 13) + (Int.toNat a1))))) (some (decide ((0 : Int) ≤ (a3 + (a0p5 (((Int.toNat a2) * 13) + (Int.toNat a1))))))))))))
def sf153_L1 (a0_0 a0_2 a0_3 : Int) (x69 : (Int × (Nat → Int))) (x146 : (Int × (Nat → Int))) : Option ((Int × (Nat → Int)) ⊕ (Nat → Int)) :=
  (bif (decide (x146.1 ≤ a0_0)) then (ck (rng (x146.1 - x69.1)) ((ck (rng ((x146.1 - x69.1) * a0_3)) ((ck (0 ≤ x69.1 ∧ x69.1 < 13) ((ck (0 ≤ x146.1 ∧ x146.1 < 13) ((ck (rng (x69.1 - x146.1)) ((ck (rng ((x69.1 - x146.1) * a0_2)) ((ck (0 ≤ x146.1 ∧ x146.1 < 13) ((ck (0 ≤ x69.1 ∧ x69.1 < 13) ((ck (rng (x146.1 + (1 : Int))) (some (.inl ((x146.1 + (1 : Int)), (ups (ups x146.2 (((Int.toNat x69.1) * 13) + (Int.toNat x146.1)) ((x146.1 - x69.1) * a0_3)) (((Int.toNat x146.1) * 13) + (Int.toNat x69.1)) ((x69.1 - x146.1) * a0_2)))))))))))))))))))))) else some (.inr x146.2))
def sf153_L2 (N : Nat) (a0_0 a0_2 a0_3 : Int) (x69 : (Int × (Nat → Int))) : Option ((Int × (Nat → Int)) ⊕ (Nat → Int)) :=
  (bif (decide (x69.1 ≤ a0_0)) then bnd (iter (sf153_L1 a0_0 a0_2 a0_3 x69) N (x69.1, x69.2)) (fun y163 => (ck (rng (x69.1 + (1 : Int))) (some (.inl ((x69.1 + (1 : Int)), y163))))) else some (.inr x69.2))
def sf153_L3 (a0_0 a0_1 : Int) (x259 : (Int × (Nat → Int))) (x347 : (Int × (Nat → Int))) : Option ((Int × (Nat → Int)) ⊕ (Nat → Int)) :=
  (bif (decide (x347.1 < (a0_0 + (1 : Int)))) then (ck (0 ≤ (0 : Int) ∧ (0 : Int) < 13) ((ck (0 ≤ x347.1 ∧ x347.1 < 13) ((ck (rng (((x259.2 (((Int.toNat x259.1) * 13) + (Int.toNat a0_0))) + (-a0_1)) + (x347.2 (((Int.toNat (0 : Int)) * 13) + (Int.toNat x347.1))))) ((ck (0 ≤ x259.1 ∧ x259.1 < 13) ((ck (0 ≤ x347.1 ∧ x347.1 < 13) ((bif (decide ((((x259.2 (((Int.toNat x259.1) * 13) + (Int.toNat a0_0))) + (-a0_1)) + (x347.2 (((Int.toNat (0 : Int)) * 13) + (Int.toNat x347.1)))) < (x347.2 (((Int.toNat x259.1) * 13) + (Int.toNat x347.1))))) then (ck (0 ≤ x259.1 ∧ x259.1 < 13) ((ck (0 ≤ x347.1 ∧ x347.1 < 13) ((ck (rng (x347.1 + (1 : Int))) (some (.inl ((x347.1 + (1 : Int)), (ups x347.2 (((Int.toNat x259.1) * 13) + (Int.toNat x347.1)) (((x259.2 (((Int.toNat x259.1) * 13) + (Int.toNat a0_0))) + (-a0_1)) + (x347.2 (((Int.toNat (0 : Int)) * 13) + (Int.toNat x347.1))))))))))))) else (ck (rng (x347.1 + (1 : Int))) (some (.inl ((x347.1 + (1 : Int)), x347.2))))))))))))))) else some (.inr x347.2))
def sf153_L4 (N : Nat) (a0_0 a0_1 : Int) (x259 : (Int × (Nat → Int))) : Option ((Int × (Nat → Int)) ⊕ (Nat → Int)) :=
  (bif (decide (x259.1 < (a0_0 + (1 : Int)))) then (ck (0 ≤ x259.1 ∧ x259.1 < 13) ((ck (0 ≤ a0_0 ∧ a0_0 < 13) ((ck (rng ((x259.2 (((Int.toNat x259.1) * 13) + (Int.toNat a0_0))) + (-a0_1))) ((ck (0 ≤ x259.1 ∧ x259.1 < 13) ((ck (0 ≤ (0 : Int) ∧ (0 : Int) < 13) ((bif (decide ((x259.2 (((Int.toNat x259.1) * 13) + (Int.toNat (0 : Int)))) ≤ ((x259.2 (((Int.toNat x259.1) * 13) + (Int.toNat a0_0))) + (-a0_1)))) then (ck (rng (x259.1 + (1 : Int))) (some (.inl ((x259.1 + (1 : Int)), x259.2)))) else bnd (iter (sf153_L3 a0_0 a0_1 x259) N ((0 : Int), x259.2)) (fun y363 => (ck (rng (x259.1 + (1 : Int))) (some (.inl ((x259.1 + (1 : Int)), y363)))))))))))))))) else some (.inr x259.2))
def sf153_L5 (a0_0 a0_1 : Int) (x448 : (Int × (Nat → Int))) (x536 : (Int × (Nat → Int))) : Option ((Int × (Nat → Int)) ⊕ (Nat → Int)) :=
  (bif (decide (x536.1 < (a0_0 + (1 : Int)))) then (ck (0 ≤ a0_0 ∧ a0_0 < 13) ((ck (0 ≤ x536.1 ∧ x536.1 < 13) ((ck (rng (((x448.2 (((Int.toNat x448.1) * 13) + (Int.toNat (0 : Int)))) + a0_1) + (x536.2 (((Int.toNat a0_0) * 13) + (Int.toNat x536.1))))) ((ck (0 ≤ x448.1 ∧ x448.1 < 13) ((ck (0 ≤ x536.1 ∧ x536.1 < 13) ((bif (decide ((((x448.2 (((Int.toNat x448.1) * 13) + (Int.toNat (0 : Int)))) + a0_1) + (x536.2 (((Int.toNat a0_0) * 13) + (Int.toNat x536.1)))) < (x536.2 (((Int.toNat x448.1) * 13) + (Int.toNat x536.1))))) then (ck (0 ≤ x448.1 ∧ x448.1 < 13) ((ck (0 ≤ x536.1 ∧ x536.1 < 13) ((ck (rng (x536.1 + (1 : Int))) (some (.inl ((x536.1 + (1 : Int)), (ups x536.2 (((Int.toNat x448.1) * 13) + (Int.toNat x536.1)) (((x448.2 (((Int.toNat x448.1) * 13) + (Int.toNat (0 : Int)))) + a0_1) + (x536.2 (((Int.toNat a0_0) * 13) + (Int.toNat x536.1))))))))))))) else (ck (rng (x536.1 + (1 : Int))) (some (.inl ((x536.1 + (1 : Int)), x536.2))))))))))))))) else some (.inr x536.2))
def sf153_L6 (N : Nat) (a0_0 a0_1 : Int) (x448 : (Int × (Nat → Int))) : Option ((Int × (Nat → Int)) ⊕ (Nat → Int)) :=
  (bif (decide (x448.1 < (a0_0 + (1 : Int)))) then (ck (0 ≤ x448.1 ∧ x448.1 < 13) ((ck (0 ≤ (0 : Int) ∧ (0 : Int) < 13) ((ck (rng ((x448.2 (((Int.toNat x448.1) * 13) + (Int.toNat (0 : Int)))) + a0_1)) ((ck (0 ≤ x448.1 ∧ x448.1 < 13) ((ck (0 ≤ a0_0 ∧ a0_0 < 13) ((bif (decide ((x448.2 (((Int.toNat x448.1) * 13) + (Int.toNat a0_0))) ≤ ((x448.2 (((Int.toNat x448.1) * 13) + (Int.toNat (0 : Int)))) + a0_1))) then (ck (rng (x448.1 + (1 : Int))) (some (.inl ((x448.1 + (1 : Int)), x448.2)))) else bnd (iter (sf153_L5 a0_0 a0_1 x448) N ((0 : Int), x448.2)) (fun y552 => (ck (rng (x448.1 + (1 : Int))) (some (.inl ((x448.1 + (1 : Int)), y552)))))))))))))))) else some (.inr x448.2))
def sf153_L7 (a0_0 a0_1 : Int) (x647 : (Int × (Nat → Int))) (x740 : (Int × (Nat → Int))) : Option ((Int × (Nat → Int)) ⊕ (Nat → Int)) :=
  (bif (decide (x740.1 < (a0_0 + (1 : Int)))) then (ck (0 ≤ (0 : Int) ∧ (0 : Int) < 13) ((ck (0 ≤ x740.1 ∧ x740.1 < 13) ((ck (rng (((x647.2 (((Int.toNat x647.1) * 13) + (Int.toNat a0_0))) + (-a0_1)) + (x740.2 (((Int.toNat (0 : Int)) * 13) + (Int.toNat x740.1))))) ((ck (0 ≤ x647.1 ∧ x647.1 < 13) ((ck (0 ≤ x740.1 ∧ x740.1 < 13) ((bif (decide ((((x647.2 (((Int.toNat x647.1) * 13) + (Int.toNat a0_0))) + (-a0_1)) + (x740.2 (((Int.toNat (0 : Int)) * 13) + (Int.toNat x740.1)))) < (x740.2 (((Int.toNat x647.1) * 13) + (Int.toNat x740.1))))) then (ck (0 ≤ x647.1 ∧ x647.1 < 13) ((ck (0 ≤ x740.1 ∧ x740.1 < 13) ((ck (rng (x740.1 + (1 : Int))) (some (.inl ((x740.1 + (1 : Int)), (ups x740.2 (((Int.toNat x647.1) * 13) + (Int.toNat x740.1)) (((x647.2 (((Int.toNat x647.1) * 13) + (Int.toNat a0_0))) + (-a0_1)) + (x740.2 (((Int.toNat (0 : Int)) * 13) + (Int.toNat x740.1))))))))))))) else (ck (rng (x740.1 + (1 : Int))) (some (.inl ((x740.1 + (1 : Int)), x740.2))))))))))))))) else some (.inr x740.2))
def sf153_L8 (N : Nat) (a0_0 a0_1 : Int) (x647 : (Int × (Nat → Int))) : Option ((Int × (Nat → Int)) ⊕ (Nat → Int)) :=
  (bif (decide (x647.1 < (a0_0 + (1 : Int)))) then (ck (0 ≤ x647.1 ∧ x647.1 < 13) ((ck (0 ≤ a0_0 ∧ a0_0 < 13) ((ck (rng ((x647.2 (((Int.toNat x647.1) * 13) + (Int.toNat a0_0))) + (-a0_1))) ((ck (0 ≤ x647.1 ∧ x647.1 < 13) ((ck (0 ≤ (0 : Int) ∧ (0 : Int) < 13) ((bif (decide ((x647.2 (((Int.toNat x647.1) * 13) + (Int.toNat (0 : Int)))) ≤ ((x647.2 (((Int.toNat x647.1) * 13) + (Int.toNat a0_0))) + (-a0_1)))) then (ck (rng (x647.1 + (1 : Int))) (some (.inl ((x647.1 + (1 : Int)), x647.2)))) else bnd (iter (sf153_L7 a0_0 a0_1 x647) N ((0 : Int), x647.2)) (fun y757 => (ck (rng (x647.1 + (1 : Int))) (some (.inl ((x647.1 + (1 : Int)), y757)))))))))))))))) else some (.inr x647.2))
def sf153 (N : Nat) (a0_0 a0_1 a0_2 a0_3 : Int) : Option (Int × Int × Int × Int × Int × (Nat → Int)) :=
  (ck (rng (a0_0 + (1 : Int))) (bnd (iter (sf153_L2 N a0_0 a0_2 a0_3) N ((0 : Int), (fun _ => 0))) (fun y126 => (bnd (sf181 N a0_0 a0_1 a0_2 a0_3 (a0_0 + (1 : Int)) y126 (0 : Int) a0_0 a0_1) fun v186 => (bif (!v186) then (ck (rng (-a0_1)) ((bnd (sf181 N a0_0 a0_1 a0_2 a0_3 (a0_0 + (1 : Int)) y126 a0_0 (0 : Int) (-a0_1)) fun v192 => (bif (!v192) then some (a0_0, a0_1, a0_2, a0_3, (a0_0 + (1 : Int)), y126) else bnd (iter (sf153_L4 N a0_0 a0_1) N ((0 : Int), y126)) (fun y321 => some (a0_0, a0_1, a0_2, a0_3, (a0_0 + (1 : Int)), y321)))))) else bnd (iter (sf153_L6 N a0_0 a0_1) N ((0 : Int), y126)) (fun y510 => (ck (rng (-a0_1)) ((bnd (sf181 N a0_0 a0_1 a0_2 a0_3 (a0_0 + (1 : Int)) y510 a0_0 (0 : Int) (-a0_1)) fun v576 => (bif (!v576) then some (a0_0, a0_1, a0_2, a0_3, (a0_0 + (1 : Int)), y510) else bnd (iter (sf153_L8 N a0_0 a0_1) N ((0 : Int), y510)) (fun y713 => some (a0_0, a0_1, a0_2, a0_3, (a0_0 + (1 : Int)), y713))))))))))))
def sf154_L1 (a0_4 a1_0 a1_1 a1_3 : Int) (x75 : (Int × (Nat → Int))) (x158 : (Int × (Nat → Int))) : Option ((Int × (Nat → Int)) ⊕ (Nat → Int)) :=
  (bif (decide (x158.1 < a0_4)) then (ck (0 ≤ a1_1 ∧ a1_1 < 13) ((ck (0 ≤ x158.1 ∧ x158.1 < 13) ((ck (rng (((x75.2 (((Int.toNat x75.1) * 13) + (Int.toNat a1_0))) + a1_3) + (x158.2 (((Int.toNat a1_1) * 13) + (Int.toNat x158.1))))) ((ck (0 ≤ x75.1 ∧ x75.1 < 13) ((ck (0 ≤ x158.1 ∧ x158.1 < 13) ((bif (decide ((((x75.2 (((Int.toNat x75.1) * 13) + (Int.toNat a1_0))) + a1_3) + (x158.2 (((Int.toNat a1_1) * 13) + (Int.toNat x158.1)))) < (x158.2 (((Int.toNat x75.1) * 13) + (Int.toNat x158.1))))) then (ck (0 ≤ x75.1 ∧ x75.1 < 13) ((ck (0 ≤ x158.1 ∧ x158.1 < 13) ((ck (rng (x158.1 + (1 : Int))) (some (.inl ((x158.1 + (1 : Int)), (ups x158.2 (((Int.toNat x75.1) * 13) + (Int.toNat x158.1)) (((x75.2 (((Int.toNat x75.1) * 13) + (Int.toNat a1_0))) + a1_3) + (x158.2 (((Int.toNat a1_1) * 13) + (Int.toNat x158.1))))))))))))) else (ck (rng (x158.1 + (1 : Int))) (some (.inl ((x158.1 + (1 : Int)), x158.2))))))))))))))) else some (.inr x158.2))
def sf154_L2 (N : Nat) (a0_4 a1_0 a1_1 a1_3 : Int) (x75 : (Int × (Nat → Int))) : Option ((Int × (Nat → Int)) ⊕ (Nat → Int)) :=
  (bif (decide (x75.1 < a0_4)) then (ck (0 ≤ x75.1 ∧ x75.1 < 13) ((ck (0 ≤ a1_0 ∧ a1_0 < 13) ((ck (rng ((x75.2 (((Int.toNat x75.1) * 13) + (Int.toNat a1_0))) + a1_3)) ((ck (0 ≤ x75.1 ∧ x75.1 < 13) ((ck (0 ≤ a1_1 ∧ a1_1 < 13) ((bif (decide ((x75.2 (((Int.toNat x75.1) * 13) + (Int.toNat a1_1))) ≤ ((x75.2 (((Int.toNat x75.1) * 13) + (Int.toNat a1_0))) + a1_3))) then (ck (rng (x75.1 + (1 : Int))) (some (.inl ((x75.1 + (1 : Int)), x75.2)))) else bnd (iter (sf154_L1 a0_4 a1_0 a1_1 a1_3 x75) N ((0 : Int), x75.2)) (fun y173 => (ck (rng (x75.1 + (1 : Int))) (some (.inl ((x75.1 + (1 : Int)), y173)))))))))))))))) else some (.inr x75.2))
def sf154_L3 (a0_4 a1_0 a1_1 a1_2 : Int) (x466 : (Int × (Nat → Int))) (x554 : (Int × (Nat → Int))) : Option ((Int × (Nat → Int)) ⊕ (Nat → Int)) :=
  (bif (decide (x554.1 < a0_4)) then (ck (0 ≤ a1_0 ∧ a1_0 < 13) ((ck (0 ≤ x554.1 ∧ x554.1 < 13) ((ck (rng (((x466.2 (((Int.toNat x466.1) * 13) + (Int.toNat (a1_1 + (1 : Int))))) + ((-a1_2) - (1 : Int))) + (x554.2 (((Int.toNat a1_0) * 13) + (Int.toNat x554.1))))) ((ck (0 ≤ x466.1 ∧ x466.1 < 13) ((ck (0 ≤ x554.1 ∧ x554.1 < 13) ((bif (decide ((((x466.2 (((Int.toNat x466.1) * 13) + (Int.toNat (a1_1 + (1 : Int))))) + ((-a1_2) - (1 : Int))) + (x554.2 (((Int.toNat a1_0) * 13) + (Int.toNat x554.1)))) < (x554.2 (((Int.toNat x466.1) * 13) + (Int.toNat x554.1))))) then (ck (0 ≤ x466.1 ∧ x466.1 < 13) ((ck (0 ≤ x554.1 ∧ x554.1 < 13) ((ck (rng (x554.1 + (1 : Int))) (some (.inl ((x554.1 + (1 : Int)), (ups x554.2 (((Int.toNat x466.1) * 13) + (Int.toNat x554.1)) (((x466.2 (((Int.toNat x466.1) * 13) + (Int.toNat (a1_1 + (1 : Int))))) + ((-a1_2) - (1 : Int))) + (x554.2 (((Int.toNat a1_0) * 13) + (Int.toNat x554.1))))))))))))) else (ck (rng (x554.1 + (1 : Int))) (some (.inl ((x554.1 + (1 : Int)), x554.2))))))))))))))) else some (.inr x554.2))
def sf154_L4 (N : Nat) (a0_4 a1_0 a1_1 a1_2 : Int) (x466 : (Int × (Nat → Int))) : Option ((Int × (Nat → Int)) ⊕ (Nat → Int)) :=
  (bif (decide (x466.1 < a0_4)) then (ck (0 ≤ x466.1 ∧ x466.1 < 13) ((ck (0 ≤ (a1_1 + (1 : Int)) ∧ (a1_1 + (1 : Int)) < 13) ((ck (rng ((x466.2 (((Int.toNat x466.1) * 13) + (Int.toNat (a1_1 + (1 : Int))))) + ((-a1_2) - (1 : Int)))) ((ck (0 ≤ x466.1 ∧ x466.1 < 13) ((ck (0 ≤ a1_0 ∧ a1_0 < 13) ((bif (decide ((x466.2 (((Int.toNat x466.1) * 13) + (Int.toNat a1_0))) ≤ ((x466.2 (((Int.toNat x466.1) * 13) + (Int.toNat (a1_1 + (1 : Int))))) + ((-a1_2) - (1 : Int))))) then (ck (rng (x466.1 + (1 : Int))) (some (.inl ((x466.1 + (1 : Int)), x466.2)))) else bnd (iter (sf154_L3 a0_4 a1_0 a1_1 a1_2 x466) N ((0 : Int), x466.2)) (fun y570 => (ck (rng (x466.1 + (1 : Int))) (some (.inl ((x466.1 + (1 : Int)), y570)))))))))))))))) else some (.inr x466.2))
def sf154 (N : Nat) (a0_0 a0_1 a0_2 a0_3 a0_4 : Int) (a0_5 : (Nat → Int)) (a1_0 a1_1 a1_2 a1_3 : Int) : Option (Int × Int × Int × Int × Int × (Nat → Int) × Bool) :=
  (bnd (sf181 N a0_0 a0_1 a0_2 a0_3 a0_4 a0_5 a1_0 a1_1 a1_3) fun v11 => (bif (!v11) then some ((0 : Int), (0 : Int), (0 : Int), (0 : Int), (0 : Int), (fun _ => 0), false) else bnd (iter (sf154_L2 N a0_4 a1_0 a1_1 a1_3) N ((0 : Int), a0_5)) (fun y133 => bnd ((bif (decide (a1_1 < a0_0)) then (ck (rng (a1_1 + (1 : Int))) ((ck (rng (-a1_2)) ((ck (rng ((-a1_2) - (1 : Int))) ((bnd (sf181 N a0_0 a0_1 a0_2 a0_3 a0_4 y133 (a1_1 + (1 : Int)) a1_0 ((-a1_2) - (1 : Int))) fun v400 => (bif (!v400) then some ((!false), y133) else bnd (iter (sf154_L4 N a0_4 a1_0 a1_1 a1_2) N ((0 : Int), y133)) (fun y528 => some ((!true), y528)))))))))) else some (false, y133)) : Option ((Bool × (Nat → Int)))) (fun y391 => (bif y391.1 then some ((0 : Int), (0 : Int), (0 : Int), (0 : Int), (0 : Int), (fun _ => 0), false) else some (a0_0, a0_1, a0_2, a0_3, a0_4, y391.2, true))))))
def sf135_L1 (N : Nat) (a1 : (List (Int × Int × Int × Int))) (x18 : (Int × ((Int × Int × Int × Int) → Option Bool) × Int × Int × Int × Int × Int × (Nat → Int) × Int × Int × Int × Int × Int × (Nat → Int))) : Option ((Int × ((Int × Int × Int × Int) → Option Bool) × Int × Int × Int × Int × Int × (Nat → Int) × Int × Int × Int × Int × Int × (Nat → Int)) ⊕ ((((Int × Int × Int × Int) → Option Bool) × Int × Int × Int × Int × Int × (Nat → Int) × Int × Int × Int × Int × Int × (Nat → Int)) ⊕ (((Int × Int × Int × Int) → Option Bool) × Int × Int × Int × Int × Int × (Nat → Int) × Int × Int × Int × Int × Int × (Nat → Int)))) :=
  (bif (decide (x18.1 < ((a1).length : Int))) then (ix a1 x18.1 fun x46 => (bif (Option.getD (x18.2.1 (x46.1, x46.2.1, x46.2.2.1, x46.2.2.2)) false) then (ck (rng (x18.1 + (1 : Int))) (some (.inl ((x18.1 + (1 : Int)), x18.2.1, x18.2.2.1, x18.2.2.2.1, x18.2.2.2.2.1, x18.2.2.2.2.2.1, x18.2.2.2.2.2.2.1, x18.2.2.2.2.2.2.2.1, x18.2.2.2.2.2.2.2.2.1, x18.2.2.2.2.2.2.2.2.2.1, x18.2.2.2.2.2.2.2.2.2.2.1, x18.2.2.2.2.2.2.2.2.2.2.2.1, x18.2.2.2.2.2.2.2.2.2.2.2.2.1, x18.2.2.2.2.2.2.2.2.2.2.2.2.2)))) else (bnd (sf154 N x18.2.2.1 x18.2.2.2.1 x18.2.2.2.2.1 x18.2.2.2.2.2.1 x18.2.2.2.2.2.2.1 x18.2.2.2.2.2.2.2.1 x46.1 x46.2.1 x46.2.2.1 x46.2.2.2) fun v55 => (bif (!v55.2.2.2.2.2.2) then some (.inr (.inl ((upm x18.2.1 (x46.1, x46.2.1, x46.2.2.1, x46.2.2.2) true), v55.1, v55.2.1, v55.2.2.1, v55.2.2.2.1, v55.2.2.2.2.1, v55.2.2.2.2.2.1, (0 : Int), (0 : Int), (0 : Int), (0 : Int), (0 : Int), (fun _ => 0)))) else (ck (rng (x18.1 + (1 : Int))) (some (.inl ((x18.1 + (1 : Int)), (upm x18.2.1 (x46.1, x46.2.1, x46.2.2.1, x46.2.2.2) true), v55.1, v55.2.1, v55.2.2.1, v55.2.2.2.1, v55.2.2.2.2.1, v55.2.2.2.2.2.1, x18.2.2.2.2.2.2.2.2.1, x18.2.2.2.2.2.2.2.2.2.1, x18.2.2.2.2.2.2.2.2.2.2.1, x18.2.2.2.2.2.2.2.2.2.2.2.1, x18.2.2.2.2.2.2.2.2.2.2.2.2.1, x18.2.2.2.2.2.2.2.2.2.2.2.2.2)))))))) else some (.inr (.inr (x18.2.1, x18.2.2.1, x18.2.2.2.1, x18.2.2.2.2.1, x18.2.2.2.2.2.1, x18.2.2.2.2.2.2.1, x18.2.2.2.2.2.2.2.1, x18.2.2.2.2.2.2.2.2.1, x18.2.2.2.2.2.2.2.2.2.1, x18.2.2.2.2.2.2.2.2.2.2.1, x18.2.2.2.2.2.2.2.2.2.2.2.1, x18.2.2.2.2.2.2.2.2.2.2.2.2.1, x18.2.2.2.2.2.2.2.2.2.2.2.2.2))))
def sf135 (N : Nat) (a0_0 a0_1 a0_2 a0_3 : Int) (a1 : (List (Int × Int × Int × Int))) : Option (Int × Int × Int × Int × Int × (Nat → Int) × Bool) :=
  (bnd (sf153 N a0_0 a0_1 a0_2 a0_3) fun v7 => bnd (iter (sf135_L1 N a1) N ((0 : Int), ((fun _ => none) : ((Int × Int × Int × Int) → Option Bool)), v7.1, v7.2.1, v7.2.2.1, v7.2.2.2.1, v7.2.2.2.2.1, v7.2.2.2.2.2, (0 : Int), (0 : Int), (0 : Int), (0 : Int), (0 : Int), (fun _ => 0))) (sel (fun w39 => some (w39.2.2.2.2.2.2.2.1, w39.2.2.2.2.2.2.2.2.1, w39.2.2.2.2.2.2.2.2.2.1, w39.2.2.2.2.2.2.2.2.2.2.1, w39.2.2.2.2.2.2.2.2.2.2.2.1, w39.2.2.2.2.2.2.2.2.2.2.2.2, false)) (fun w42 => some (w42.2.1, w42.2.2.1, w42.2.2.2.1, w42.2.2.2.2.1, w42.2.2.2.2.2.1, w42.2.2.2.2.2.2.1, true))))
def sf94 (N : Nat) (a0_0 a0_1 a0_2 a0_3 : Int) (a1 : (List (Int × Int × Int × Int))) (a2 : Bool) : Option (Int × Int × Int × Int × Int × (Nat → Int) × Int) :=
  (bnd (sf134 N a0_0 a0_1 a0_2 a0_3 a1) fun v7 => (bif (!(decide (v7 = (0 : Int)))) then some ((0 : Int), (0 : Int), (0 : Int), (0 : Int), (0 : Int), (fun _ => 0), v7) else (bif (!a2) then some ((0 : Int), (0 : Int), (0 : Int), (0 : Int), (0 : Int), (fun _ => 0), (2 : Int)) else (bnd (sf135 N a0_0 a0_1 a0_2 a0_3 a1) fun v14 => (bif (!v14.2.2.2.2.2.2) then some ((0 : Int), (0 : Int), (0 : Int), (0 : Int), (0 : Int), (fun _ => 0), (9 : Int)) else some (v14.1, v14.2.1, v14.2.2.1, v14.2.2.2.1, v14.2.2.2.2.1, v14.2.2.2.2.2.1, (0 : Int)))))))
def sf96 (N : Nat) : Option Unit :=
  some ()
def sf136 (N : Nat) (a0p0 a0p1 a0p2 a0p3 a0p4 : Int) (a0p5 : (Nat → Int)) (a1 : Int) : Option Int :=
  (ck (0 ≤ a1 ∧ a1 < 13) ((ck (0 ≤ (0 : Int) ∧ (0 : Int) < 13) ((ck (rng (-(a0p5 (((Int.toNat a1) * 13) + (Int.toNat (0 : Int)))))) (some (-(a0p5 (((Int.toNat a1) * 13) + (Int.toNat (0 : Int)))))))))))
def sf137 (N : Nat) (a0p0 a0p1 a0p2 a0p3 a0p4 : Int) (a0p5 : (Nat → Int)) (a1 : Int) : Option Int :=
  (ck (0 ≤ (0 : Int) ∧ (0 : Int) < 13) ((ck (0 ≤ a1 ∧ a1 < 13) (some (a0p5 (((Int.toNat (0 : Int)) * 13) + (Int.toNat a1)))))))
def sf108_L1 (N : Nat) (a0_0 a0_1 a0_2 a0_3 a0_4 : Int) (a0_5 : (Nat → Int)) (x29 : ((List (Int × Int)) × Int)) : Option (((List (Int × Int)) × Int) ⊕ (List (Int × Int))) :=
  (bif (decide (x29.2 ≤ a0_0)) then (bnd (sf136 N a0_0 a0_1 a0_2 a0_3 a0_4 a0_5 x29.2) fun v49 => (bnd (sf137 N a0_0 a0_1 a0_2 a0_3 a0_4 a0_5 x29.2) fun v53 => (ck ((x29.1.length + 1) * 16 ≤ 35184372088832 ∧ x29.1.length + 1 ≤ 35184372088832) ((ck (rng (x29.2 + (1 : Int))) (some (.inl ((x29.1 ++ [(v49, v53)]), (x29.2 + (1 : Int)))))))))) else some (.inr x29.1))
def sf108 (N : Nat) (a0_0 a0_1 a0_2 a0_3 a0_4 : Int) (a0_5 : (Nat → Int)) : Option (List (Int × Int)) :=
  (bnd (sf96 N ) fun v4 => (ck (rng (a0_0 + (1 : Int))) ((ck (0 ≤ (0 : Int) ∧ 0 ≤ (a0_0 + (1 : Int)) ∧ Int.toNat (0 : Int) ≤ Int.toNat (a0_0 + (1 : Int)) ∧ (Int.toNat (a0_0 + (1 : Int)) * 16 ≤ 35184372088832 ∧ Int.toNat (a0_0 + (1 : Int)) ≤ 35184372088832)) (bnd (iter (sf108_L1 N a0_0 a0_1 a0_2 a0_3 a0_4 a0_5) N ((List.replicate (Int.toNat (0 : Int)) (0, 0)), (0 : Int))) (fun y45 => some y45))))))
def sf70 (N : Nat) (a0_0 a0_1 a0_2 a0_3 : Int) (a1 : (List (Int × Int × Int × Int))) : Option ((List (Int × Int)) × Int) :=
  (bnd (sf94 N a0_0 a0_1 a0_2 a0_3 a1 true) fun v4 => (bif (!(decide (v4.2.2.2.2.2.2 = (0 : Int)))) then some ([], v4.2.2.2.2.2.2) else (bnd (sf108 N v4.1 v4.2.1 v4.2.2.1 v4.2.2.2.1 v4.2.2.2.2.1 v4.2.2.2.2.2.1) fun v12 => some (v12, (0 : Int)))))
def sf144 (N : Nat) (a0_0 a0_1 a1 : Int) : Option Bool :=
  (bif (decide (a0_0 ≤ a1)) then some (decide (a1 ≤ a0_1)) else some false)
def sf156 (N : Nat) (a0_0 a0_1 : Int) : Option Bool :=
  (bnd (sf144 N (1 : Int) (2000 : Int) a0_0) fun v12 => (bif v12 then (bnd (sf144 N (1 : Int) (2000 : Int) a0_1) fun v16 => some v16) else some false))
def sf155_L1 (N : Nat) (a0 : (List (Int × Int))) (x1 : Int) : Option (Int ⊕ (Unit ⊕ Unit)) :=
  (bif (decide (x1 < ((a0).length : Int))) then (ix a0 x1 fun x20 => (bnd (sf156 N x20.1 x20.2) fun v25 => (bif (!v25) then some (.inr (.inl ())) else (ck (rng (x1 + (1 : Int))) (some (.inl (x1 + (1 : Int)))))))) else some (.inr (.inr ())))
def sf155 (N : Nat) (a0 : (List (Int × Int))) : Option Bool :=
  bnd (iter (sf155_L1 N a0) N (0 : Int)) (sel (fun w15 => some false) (fun w17 => some true))
def sf158 (N : Nat) (a0_0 a0_1 a1_0 a1_1 : Int) : Option Bool :=
  (bif (decide (a0_0 < a1_0)) then some (decide (a0_1 < a1_1)) else some false)
def sf157_L1 (N : Nat) (a0 : (List (Int × Int))) (x1 : Int) : Option (Int ⊕ (Unit ⊕ Unit)) :=
  (bif (decide (x1 < ((a0).length : Int))) then (ck (rng (x1 - (1 : Int))) ((ix a0 (x1 - (1 : Int)) fun x20 => (ix a0 x1 fun x21 => (bnd (sf158 N x20.1 x20.2 x21.1 x21.2) fun v23 => (bif (!v23) then some (.inr (.inl ())) else (ck (rng (x1 + (1 : Int))) (some (.inl (x1 + (1 : Int))))))))))) else some (.inr (.inr ())))
def sf157 (N : Nat) (a0 : (List (Int × Int))) : Option Bool :=
  bnd (iter (sf157_L1 N a0) N (1 : Int)) (sel (fun w14 => some false) (fun w16 => some true))
def sf138 (N : Nat) (a0 : (List (Int × Int))) : Option Int :=
  (bif (decide ((8 : Int) < ((a0).length : Int))) then some (3 : Int) else bnd ((bif (decide (((a0).length : Int) < (2 : Int))) then some true else (bnd (sf155 N a0) fun v15 => (bif (!v15) then some true else (bnd (sf157 N a0) fun v19 => some (!v19))))) : Option (Bool)) (fun y10 => (bif y10 then some (1 : Int) else some (0 : Int))))
def sf140 (N : Nat) (a0 : (List (Int × Int))) : Option (Int × Int) :=
  (ix a0 (0 : Int) fun x4 => (ck (rng (((a0).length : Int) - (1 : Int))) ((ix a0 (((a0).length : Int) - (1 : Int)) fun x6 => some (x4.1, x6.1)))))
def sf139 (N : Nat) (a0_0 a0_1 a1_0 a1_1 : Int) : Option Bool :=
  (bif (decide (a0_0 ≤ a0_1)) then (bnd (sf144 N a1_0 a1_1 a0_0) fun v8 => (bif v8 then (bnd (sf144 N a1_0 a1_1 a0_1) fun v12 => some v12) else some false)) else some false)
def sf160 (N : Nat) (a0_0 a0_1 : Int) : Option Int :=
  (ck (a0_1 ≠ 0 ∧ rng (Int.tdiv a0_0 a0_1)) ((ck (a0_1 ≠ 0) ((bif (decide ((Int.tmod a0_0 a0_1) < (0 : Int))) then (ck (rng ((Int.tdiv a0_0 a0_1) - (1 : Int))) (some ((Int.tdiv a0_0 a0_1) - (1 : Int)))) else some (Int.tdiv a0_0 a0_1))))))
def sf141_L1 (N : Nat) (a0 : (List (Int × Int))) (a1 : Int) (x16 : (Int × Int)) : Option ((Int × Int) ⊕ Int) :=
  (bif (decide (x16.1 < ((a0).length : Int))) then (ck (rng (x16.1 - (1 : Int))) ((ck (rng (x16.1 + (1 : Int))) ((ck (0 ≤ (x16.1 - (1 : Int)) ∧ 0 ≤ (x16.1 + (1 : Int)) ∧ ((Int.toNat (x16.1 - (1 : Int))) ≤ (Int.toNat (x16.1 + (1 : Int))) ∧ (Int.toNat (x16.1 + (1 : Int))) ≤ a0.length)) ((bnd (sf140 N ((a0.drop (Int.toNat (x16.1 - (1 : Int)))).take ((Int.toNat (x16.1 + (1 : Int))) - (Int.toNat (x16.1 - (1 : Int)))))) fun v71 => (bnd (sf144 N v71.1 v71.2 a1) fun v78 => (bif v78 then (ck (rng (x16.1 - (1 : Int))) ((ix a0 (x16.1 - (1 : Int)) fun x83 => (ix a0 x16.1 fun x84 => (ck (rng (x84.2 - x83.2)) ((ck (rng (a1 - x83.1)) ((ck (rng ((x84.2 - x83.2) * (a1 - x83.1))) ((ck (rng (x84.1 - x83.1)) ((bnd (sf160 N ((x84.2 - x83.2) * (a1 - x83.1)) (x84.1 - x83.1)) fun v102 => (ck (rng (x83.2 + v102)) ((ck (rng (x16.1 + (1 : Int))) (some (.inl ((x16.1 + (1 : Int)), (x83.2 + v102)))))))))))))))))))) else (ck (rng (x16.1 + (1 : Int))) (some (.inl ((x16.1 + (1 : Int)), x16.2))))))))))))) else some (.inr x16.2))
def sf141 (N : Nat) (a0 : (List (Int × Int))) (a1 : Int) : Option Int :=
  bnd (iter (sf141_L1 N a0 a1) N ((1 : Int), (0 : Int))) (fun y64 => some y64)
def sf101 (N : Nat) (a0 : (List (Int × Int))) (a1_0 a1_1 : Int) : Option (Int × Int × Int) :=
  (bnd (sf138 N a0) fun v7 => (bif (!(decide (v7 = (0 : Int)))) then some ((0 : Int), (0 : Int), v7) else (bnd (sf140 N a0) fun v12 => (bnd (sf139 N a1_0 a1_1 v12.1 v12.2) fun v16 => (bif (!v16) then some ((0 : Int), (0 : Int), (2 : Int)) else (bnd (sf141 N a0 a1_0) fun v21 => (bnd (sf141 N a0 a1_1) fun v25 => some (v21, v25, (0 : Int)))))))))
def sf103 (N : Nat) (a0 : Int) : Option (Int × Int) :=
  some ((0 : Int), a0)
def sf110 (N : Nat) (a0_0 a0_1 a1 : Int) : Option Bool :=
  (bif (decide (a0_0 ≤ a1)) then some (decide (a1 ≤ a0_1)) else some false)
def sf102 (N : Nat) (a0_0 a0_1 a1_0 a1_1 : Int) : Option Bool :=
  (bif (decide (a0_0 ≤ a0_1)) then (bnd (sf110 N a1_0 a1_1 a0_0) fun v8 => (bif v8 then (bnd (sf110 N a1_0 a1_1 a0_1) fun v12 => some v12) else some false)) else some false)
def sf161 (N : Nat) : Option Unit :=
  some ()
def sf107 (N : Nat) (a0_0 a0_1 : Int) : Option Int :=
  (ck (a0_1 ≠ 0 ∧ rng (Int.tdiv a0_0 a0_1)) (some (Int.tdiv a0_0 a0_1)))
def sf172 (N : Nat) (a0_0 a0_1 : Int) : Option Int :=
  (ck (rng (a0_0 + a0_1)) ((ck (rng ((a0_0 + a0_1) - (1 : Int))) ((ck (a0_1 ≠ 0 ∧ rng (Int.tdiv ((a0_0 + a0_1) - (1 : Int)) a0_1)) (some (Int.tdiv ((a0_0 + a0_1) - (1 : Int)) a0_1)))))))
def sf142 (N : Nat) (a0_0 a0_1 a1_0 a1_1 : Int) : Option (Int × Int) :=
  (bnd (sf161 N ) fun v10 => (bnd (sf107 N a0_0 a0_1) fun v17 => (bnd (sf172 N a1_0 a1_1) fun v21 => some (v17, v21))))
def sf104_L1 (N : Nat) (a0 : (List (Int × Int))) (a1_0 a1_1 a2 : Int) (x10 : (Int × (Nat → Int))) : Option ((Int × (Nat → Int)) ⊕ (Nat → Int)) :=
  (bif (decide (x10.1 < ((a0).length : Int))) then (ix a0 x10.1 fun x29 => (ck (rng (x29.1 * a1_0)) ((ck (rng (x29.2 * a1_1)) ((bnd (sf142 N (x29.1 * a1_0) a2 (x29.2 * a1_1) a2) fun v36 => (ck (0 ≤ x10.1 ∧ x10.1 < 11) ((ck (rng (x10.1 + (1 : Int))) (some (.inl ((x10.1 + (1 : Int)), (ups (ups x10.2 ((Int.toNat x10.1) * 2) v36.1) (((Int.toNat x10.1) * 2) + 1) v36.2))))))))))))) else some (.inr x10.2))
def sf104 (N : Nat) (a0 : (List (Int × Int))) (a1_0 a1_1 a2 : Int) : Option (Nat → Int) :=
  bnd (iter (sf104_L1 N a0 a1_0 a1_1 a2) N ((0 : Int), (fun _ => 0))) (fun y26 => some y26)
def sf65 (N : Nat) (a0_0 a0_1 a0_2 a0_3 : Int) (a0_4 : (List (Int × Int × Int × Int))) (a0_5 : (List (Int × Int))) (a0_6 a0_7 a0_8 a0_9 : Int) : Option (Int × Int × Int × Int × (List (Int × Int × Int × Int)) × (List (Int × Int)) × Int × Int × Int × Int × (Nat → Int) × Int) :=
  bnd (bnd ((bif (decide ((12 : Int) < ((a0_4).length : Int))) then some true else some (decide ((8 : Int) < ((a0_5).length : Int)))) : Option (Bool)) (fun y23 => (bif y23 then some (.inl (3 : Int)) else some (.inr ()))) : Option (Int ⊕ Unit)) (sel (fun w18 => some ((0 : Int), (0 : Int), (0 : Int), (0 : Int), [], [], (0 : Int), (0 : Int), (0 : Int), (0 : Int), (fun _ => 0), w18)) (fun w20 => (bnd (sf70 N a0_0 a0_1 a0_2 a0_3 a0_4) fun v30 => (bnd (sf101 N a0_5 a0_6 a0_7) fun v35 => bnd (bnd ((bif (!(decide (v30.2 = (0 : Int)))) then (bif (!(decide (v30.2 = (9 : Int)))) then some true else (bif (!(decide (v35.2.2 = (0 : Int)))) then some true else (bnd (sf103 N (100 : Int)) fun v129 => (bnd (sf102 N a0_8 a0_9 v129.1 v129.2) fun v133 => some (!v133))))) else (bif (!(decide (v35.2.2 = (0 : Int)))) then some true else (bnd (sf103 N (100 : Int)) fun v138 => (bnd (sf102 N a0_8 a0_9 v138.1 v138.2) fun v142 => some (!v142))))) : Option (Bool)) (fun y120 => (bif y120 then some (.inl (1 : Int)) else some (.inr ()))) : Option (Int ⊕ Unit)) (sel (fun w95 => some ((0 : Int), (0 : Int), (0 : Int), (0 : Int), [], [], (0 : Int), (0 : Int), (0 : Int), (0 : Int), (fun _ => 0), w95)) (fun w97 => (bif (decide (v30.2 = (9 : Int))) then some ((0 : Int), (0 : Int), (0 : Int), (0 : Int), [], [], (0 : Int), (0 : Int), (0 : Int), (0 : Int), (fun _ => 0), (9 : Int)) else (bnd (sf104 N v30.1 v35.1 v35.2.1 a0_1) fun v155 => some (a0_0, a0_1, a0_2, a0_3, a0_4, a0_5, a0_6, a0_7, a0_8, a0_9, v155, (0 : Int))))))))))
def sf75 (N : Nat) (a0 : Int) : Option Bool :=
  (bnd (sf103 N (10000 : Int)) fun v1 => (bnd (sf110 N v1.1 v1.2 a0) fun v4 => some v4))
def sf105 (N : Nat) (a0_0 a0_1 a0_2 a0_3 : Int) (a0_4 : (List (Int × Int × Int × Int))) (a0_5 : (List (Int × Int))) (a0_6 a0_7 a0_8 a0_9 a1 : Int) : Option (Int × Int × Int × Int × (List (Int × Int × Int × Int)) × (List (Int × Int)) × Int × Int × Int × Int × (Nat → Int) × Int) :=
  (bnd (sf65 N a0_0 a0_1 a0_2 a0_3 a0_4 a0_5 a0_6 a0_7 a0_8 a0_9) fun v7 => (bif (!(decide (v7.2.2.2.2.2.2.2.2.2.2.2 = (0 : Int)))) then some ((0 : Int), (0 : Int), (0 : Int), (0 : Int), [], [], (0 : Int), (0 : Int), (0 : Int), (0 : Int), (fun _ => 0), v7.2.2.2.2.2.2.2.2.2.2.2) else (bnd (sf75 N a1) fun v18 => (bif (!v18) then some ((0 : Int), (0 : Int), (0 : Int), (0 : Int), [], [], (0 : Int), (0 : Int), (0 : Int), (0 : Int), (fun _ => 0), (2 : Int)) else some (v7.1, v7.2.1, v7.2.2.1, v7.2.2.2.1, v7.2.2.2.2.1, v7.2.2.2.2.2.1, v7.2.2.2.2.2.2.1, v7.2.2.2.2.2.2.2.1, v7.2.2.2.2.2.2.2.2.1, v7.2.2.2.2.2.2.2.2.2.1, v7.2.2.2.2.2.2.2.2.2.2.1, (0 : Int))))))
def sf106 (N : Nat) (a0_0 a0_1 a0_2 a0_3 : Int) (a0_4 : (List (Int × Int × Int × Int))) (a0_5 : (List (Int × Int))) (a0_6 a0_7 a0_8 a0_9 : Int) (a0_10 : (Nat → Int)) (a1 : Int) : Option (Int × Int) :=
  (ck (rng (a0_8 * a1)) ((ck (rng (a0_9 * a1)) ((bnd (sf142 N (a0_8 * a1) (100 : Int) (a0_9 * a1) (100 : Int)) fun v9 => some (v9.1, v9.2))))))
def sf68 (N : Nat) (a0_0 a0_1 a0_2 a0_3 : Int) (a0_4 : (List (Int × Int × Int × Int))) (a0_5 : (List (Int × Int))) (a0_6 a0_7 a0_8 a0_9 : Int) (a0_10 : (Nat → Int)) (a1 a2 : Int) : Option (Int × Int) :=
  (bnd (sf106 N a0_0 a0_1 a0_2 a0_3 a0_4 a0_5 a0_6 a0_7 a0_8 a0_9 a0_10 a2) fun v7 => (ck (0 ≤ a1 ∧ a1 < 11) ((ck (rng ((a0_10 (((Int.toNat a1) * 2) + 0)) - v7.2)) ((ck (0 ≤ a1 ∧ a1 < 11) ((ck (rng ((a0_10 (((Int.toNat a1) * 2) + 1)) - v7.1)) (some (((a0_10 (((Int.toNat a1) * 2) + 0)) - v7.2), ((a0_10 (((Int.toNat a1) * 2) + 1)) - v7.1)))))))))))
def sf67_L1 (N : Nat) (a1 : Int) (v4 : (Int × Int × Int × Int × (List (Int × Int × Int × Int)) × (List (Int × Int)) × Int × Int × Int × Int × (Nat → Int) × Int)) (x16 : ((List (Int × Int)) × Int)) : Option (((List (Int × Int)) × Int) ⊕ (List (Int × Int))) :=
  (bif (decide (x16.2 ≤ v4.1)) then (bnd (sf68 N v4.1 v4.2.1 v4.2.2.1 v4.2.2.2.1 v4.2.2.2.2.1 v4.2.2.2.2.2.1 v4.2.2.2.2.2.2.1 v4.2.2.2.2.2.2.2.1 v4.2.2.2.2.2.2.2.2.1 v4.2.2.2.2.2.2.2.2.2.1 v4.2.2.2.2.2.2.2.2.2.2.1 x16.2 a1) fun v33 => (ck ((x16.1.length + 1) * 16 ≤ 35184372088832 ∧ x16.1.length + 1 ≤ 35184372088832) ((ck (rng (x16.2 + (1 : Int))) (some (.inl ((x16.1 ++ [(v33.1, v33.2)]), (x16.2 + (1 : Int))))))))) else some (.inr x16.1))
def sf67 (N : Nat) (a0_0 a0_1 a0_2 a0_3 : Int) (a0_4 : (List (Int × Int × Int × Int))) (a0_5 : (List (Int × Int))) (a0_6 a0_7 a0_8 a0_9 a1 : Int) : Option ((List (Int × Int)) × Int) :=
  (bnd (sf105 N a0_0 a0_1 a0_2 a0_3 a0_4 a0_5 a0_6 a0_7 a0_8 a0_9 a1) fun v4 => (bif (!(decide (v4.2.2.2.2.2.2.2.2.2.2.2 = (0 : Int)))) then some ([], v4.2.2.2.2.2.2.2.2.2.2.2) else (ck (rng (v4.1 + (1 : Int))) ((ck (0 ≤ (0 : Int) ∧ 0 ≤ (v4.1 + (1 : Int)) ∧ Int.toNat (0 : Int) ≤ Int.toNat (v4.1 + (1 : Int)) ∧ (Int.toNat (v4.1 + (1 : Int)) * 16 ≤ 35184372088832 ∧ Int.toNat (v4.1 + (1 : Int)) ≤ 35184372088832)) (bnd (iter (sf67_L1 N a1 v4) N ((List.replicate (Int.toNat (0 : Int)) (0, 0)), (0 : Int))) (fun y29 => some (y29, (0 : Int)))))))))
def sf22 (N : Nat) (a0_0 a0_1 a0_2 a0_3 : Int) (a0_4 : (List (Int × Int × Int × Int))) (a0_5 : (List (Int × Int))) (a0_6 a0_7 a0_8 a0_9 a1 : Int) : Option ((List (Int × Int)) × Int) :=
  (bnd (sf67 N a0_0 a0_1 a0_2 a0_3 a0_4 a0_5 a0_6 a0_7 a0_8 a0_9 a1) fun v4 => some (v4.1, v4.2))
def sf69 (N : Nat) (a0_0 a0_1 a0_2 a0_3 : Int) (a0_4 : (List (Int × Int × Int × Int))) (a0_5 : (List (Int × Int))) (a0_6 a0_7 a0_8 a0_9 : Int) (a0_10 : (Nat → Int)) (a1 a2 : Int) : Option (Int × Int) :=
  (ck (rng ((1000 : Int) * a1)) ((bnd (sf107 N ((1000 : Int) * a1) a0_0) fun v8 => (bnd (sf68 N a0_0 a0_1 a0_2 a0_3 a0_4 a0_5 a0_6 a0_7 a0_8 a0_9 a0_10 a1 a2) fun v11 => (ck (rng (v11.1 - v8)) ((ck (rng (v11.2 - v8)) (some ((v11.1 - v8), (v11.2 - v8))))))))))
def sf67_2_L1 (N : Nat) (a1 : Int) (v4 : (Int × Int × Int × Int × (List (Int × Int × Int × Int)) × (List (Int × Int)) × Int × Int × Int × Int × (Nat → Int) × Int)) (x16 : ((List (Int × Int)) × Int)) : Option (((List (Int × Int)) × Int) ⊕ (List (Int × Int))) :=
  (bif (decide (x16.2 ≤ v4.1)) then (bnd (sf69 N v4.1 v4.2.1 v4.2.2.1 v4.2.2.2.1 v4.2.2.2.2.1 v4.2.2.2.2.2.1 v4.2.2.2.2.2.2.1 v4.2.2.2.2.2.2.2.1 v4.2.2.2.2.2.2.2.2.1 v4.2.2.2.2.2.2.2.2.2.1 v4.2.2.2.2.2.2.2.2.2.2.1 x16.2 a1) fun v33 => (ck ((x16.1.length + 1) * 16 ≤ 35184372088832 ∧ x16.1.length + 1 ≤ 35184372088832) ((ck (rng (x16.2 + (1 : Int))) (some (.inl ((x16.1 ++ [(v33.1, v33.2)]), (x16.2 + (1 : Int))))))))) else some (.inr x16.1))
def sf67_2 (N : Nat) (a0_0 a0_1 a0_2 a0_3 : Int) (a0_4 : (List (Int × Int × Int × Int))) (a0_5 : (List (Int × Int))) (a0_6 a0_7 a0_8 a0_9 a1 : Int) : Option ((List (Int × Int)) × Int) :=
  (bnd (sf105 N a0_0 a0_1 a0_2 a0_3 a0_4 a0_5 a0_6 a0_7 a0_8 a0_9 a1) fun v4 => (bif (!(decide (v4.2.2.2.2.2.2.2.2.2.2.2 = (0 : Int)))) then some ([], v4.2.2.2.2.2.2.2.2.2.2.2) else (ck (rng (v4.1 + (1 : Int))) ((ck (0 ≤ (0 : Int) ∧ 0 ≤ (v4.1 + (1 : Int)) ∧ Int.toNat (0 : Int) ≤ Int.toNat (v4.1 + (1 : Int)) ∧ (Int.toNat (v4.1 + (1 : Int)) * 16 ≤ 35184372088832 ∧ Int.toNat (v4.1 + (1 : Int)) ≤ 35184372088832)) (bnd (iter (sf67_2_L1 N a1 v4) N ((List.replicate (Int.toNat (0 : Int)) (0, 0)), (0 : Int))) (fun y29 => some (y29, (0 : Int)))))))))
def sf98 (N : Nat) (a0 a1 a2 : Int) : Option Bool :=
  (bif (decide (a1 ≤ a0)) then some (decide (a0 ≤ a2)) else some false)
def sf124 (N : Nat) (a0_0 a0_1 a1 a2 : Int) : Option Bool :=
  (bnd (sf98 N a0_0 a1 a0_1) fun v4 => (bif v4 then some (decide (a0_1 ≤ a2)) else some false))
def sf123 (N : Nat) (a0_0 a0_1 a0_2 a0_3 : Int) : Option Bool :=
  (bnd (sf98 N a0_0 (1 : Int) (10 : Int)) fun v4 => (bif v4 then (bnd (sf124 N a0_2 a0_3 (1 : Int) (200 : Int)) fun v8 => (bif v8 then (bnd (sf98 N a0_1 (1 : Int) (2000 : Int)) fun v12 => (bif v12 then (ck (rng (a0_0 * a0_2)) ((ck (rng (a0_0 * a0_3)) ((bnd (sf98 N a0_1 (a0_0 * a0_2) (a0_0 * a0_3)) fun v18 => some v18))))) else some false)) else some false)) else some false))
def sf84_L1 (N : Nat) (a0_0 : Int) (a1 : (List (Int × Int × Int × Int))) (x9 : Int) : Option (Int ⊕ (Int ⊕ Unit)) :=
  (bif (decide (x9 < ((a1).length : Int))) then (ix a1 x9 fun x54 => bnd ((ck (rng (a0_0 - (1 : Int))) ((bnd (sf98 N x54.1 (0 : Int) (a0_0 - (1 : Int))) fun v76 => (bif (!v76) then some true else (bnd (sf98 N x54.2.1 x54.1 a0_0) fun v80 => (bif (!v80) then some true else (bnd (sf124 N x54.2.2.1 x54.2.2.2 (0 : Int) (2000 : Int)) fun v84 => some (!v84)))))))) : Option (Bool)) (fun y71 => (bif y71 then some (.inr (.inl (2 : Int))) else (ck (rng (x9 + (1 : Int))) (some (.inl (x9 + (1 : Int)))))))) else some (.inr (.inr ())))
def sf84 (N : Nat) (a0_0 a0_1 a0_2 a0_3 : Int) (a1 : (List (Int × Int × Int × Int))) : Option Int :=
  (bnd (sf123 N a0_0 a0_1 a0_2 a0_3) fun v4 => (bif (!v4) then some (1 : Int) else (bif (decide ((12 : Int) < ((a1).length : Int))) then some (3 : Int) else bnd (iter (sf84_L1 N a0_0 a1) N (0 : Int)) (sel (fun w49 => some w49) (fun w51 => some (0 : Int))))))
def sf25 (N : Nat) (a0 a1 a2 : Int) : Option Bool :=
  (bif (decide (a1 ≤ a0)) then some (decide (a0 ≤ a2)) else some false)
def sf85_L1 (N : Nat) (a0 : (List (Int × Int))) (x1 : Int) : Option (Int ⊕ (Unit ⊕ Unit)) :=
  (bif (decide (x1 < ((a0).length : Int))) then bnd ((ix a0 x1 fun x90 => (bnd (sf25 N x90.1 (1 : Int) (2000 : Int)) fun v91 => (bif (!v91) then some true else (ix a0 x1 fun x96 => (bnd (sf25 N x96.2 (1 : Int) (2000 : Int)) fun v97 => (bif (!v97) then some true else (bif (decide ((0 : Int) < x1)) then (ix a0 x1 fun x103 => (ck (rng (x1 - (1 : Int))) ((ix a0 (x1 - (1 : Int)) fun x105 => (bif (decide (x103.1 ≤ x105.1)) then some true else (ix a0 x1 fun x108 => (ck (rng (x1 - (1 : Int))) ((ix a0 (x1 - (1 : Int)) fun x110 => some (decide (x108.2 ≤ x110.2))))))))))) else some false))))))) : Option (Bool)) (fun y86 => (bif y86 then some (.inr (.inl ())) else (ck (rng (x1 + (1 : Int))) (some (.inl (x1 + (1 : Int))))))) else some (.inr (.inr ())))
def sf85 (N : Nat) (a0 : (List (Int × Int))) : Option Bool :=
  bnd (iter (sf85_L1 N a0) N (0 : Int)) (sel (fun w58 => some false) (fun w60 => some (decide ((2 : Int) ≤ ((a0).length : Int)))))
def sf86 (N : Nat) (a0_0 a0_1 a1 a2 : Int) : Option Bool :=
  (bnd (sf25 N a0_0 a1 a0_1) fun v4 => (bif v4 then some (decide (a0_1 ≤ a2)) else some false))
def sf40 (N : Nat) (a0_0 a0_1 a0_2 a0_3 : Int) (a0_4 : (List (Int × Int × Int × Int))) (a0_5 : (List (Int × Int))) (a0_6 a0_7 a0_8 a0_9 : Int) : Option Int :=
  bnd (bnd ((bif (decide ((12 : Int) < ((a0_4).length : Int))) then some true else some (decide ((8 : Int) < ((a0_5).length : Int)))) : Option (Bool)) (fun y19 => (bif y19 then some (.inl (3 : Int)) else some (.inr ()))) : Option (Int ⊕ Unit)) (sel (fun w14 => some w14) (fun w16 => bnd ((bnd (sf84 N a0_0 a0_1 a0_2 a0_3 a0_4) fun v52 => (bif (!(decide (v52 = (0 : Int)))) then some true else (bnd (sf85 N a0_5) fun v57 => (bif (!v57) then some true else (ix a0_5 (0 : Int) fun x62 => (ck (rng (((a0_5).length : Int) - (1 : Int))) ((ix a0_5 (((a0_5).length : Int) - (1 : Int)) fun x64 => (bnd (sf86 N a0_6 a0_7 x62.1 x64.1) fun v65 => (bif (!v65) then some true else (bnd (sf25 N a0_8 (0 : Int) a0_9) fun v71 => (bif (!v71) then some true else some (decide ((100 : Int) < a0_9)))))))))))))) : Option (Bool)) (fun y48 => (bif y48 then some (1 : Int) else some (0 : Int)))))
def sf73_L1 (a0 : (List (Int × Int))) (a1 x1 : Int) : Option (Int ⊕ Int) :=
  (ck (rng (x1 + (1 : Int))) ((ix a0 (x1 + (1 : Int)) fun x10 => (bif (decide (x10.1 < a1)) then (ck (rng (x1 + (1 : Int))) (some (.inl (x1 + (1 : Int))))) else some (.inr x1)))))
def sf73 (N : Nat) (a0 : (List (Int × Int))) (a1 : Int) : Option Int :=
  bnd (iter (sf73_L1 a0 a1) N (0 : Int)) (fun y7 => (ix a0 y7 fun x15 => (ck (rng (y7 + (1 : Int))) ((ix a0 (y7 + (1 : Int)) fun x17 => (ck (rng (x17.2 - x15.2)) ((ck (rng (a1 - x15.1)) ((ck (rng ((x17.2 - x15.2) * (a1 - x15.1))) ((ck (rng (x17.1 - x15.1)) ((ck ((x17.1 - x15.1) ≠ 0 ∧ rng (Int.tdiv ((x17.2 - x15.2) * (a1 - x15.1)) (x17.1 - x15.1))) ((ck (rng (x15.2 + (Int.tdiv ((x17.2 - x15.2) * (a1 - x15.1)) (x17.1 - x15.1)))) (some (x15.2 + (Int.tdiv ((x17.2 - x15.2) * (a1 - x15.1)) (x17.1 - x15.1))))))))))))))))))))
def sf27 (N : Nat) (a0_0 a0_1 a0_2 a0_3 : Int) (a0_4 : (List (Int × Int × Int × Int))) (a0_5 : (List (Int × Int))) (a0_6 a0_7 a0_8 a0_9 : Int) : Option (Int × Int) :=
  (bnd (sf73 N a0_5 a0_6) fun v7 => (bnd (sf73 N a0_5 a0_7) fun v11 => some (v7, v11)))
def sf55 (N : Nat) (a0_0 a0_1 a0_2 a0_3 : Int) (a0_4 : (List (Int × Int × Int × Int))) (a0_5 : (List (Int × Int))) (a0_6 a0_7 a0_8 a0_9 a1 : Int) : Option (Int × Int) :=
  (ck (rng (a0_8 * a1)) ((ck ((100 : Int) ≠ 0 ∧ rng (Int.tdiv (a0_8 * a1) (100 : Int))) ((ck (rng (a0_9 * a1)) ((ck (rng ((a0_9 * a1) + (99 : Int))) ((ck ((100 : Int) ≠ 0 ∧ rng (Int.tdiv ((a0_9 * a1) + (99 : Int)) (100 : Int))) (some ((Int.tdiv (a0_8 * a1) (100 : Int)), (Int.tdiv ((a0_9 * a1) + (99 : Int)) (100 : Int)))))))))))))
def sf71_L1 (a0 a1 x2 : Int) : Option (Int ⊕ Int) :=
  (ck (rng (x2 * a1)) ((bif (decide (a0 < (x2 * a1))) then (ck (rng (x2 - (1 : Int))) (some (.inl (x2 - (1 : Int))))) else some (.inr x2))))
def sf71 (N : Nat) (a0 a1 : Int) : Option Int :=
  (ck (a1 ≠ 0 ∧ rng (Int.tdiv a0 a1)) (bnd (iter (sf71_L1 a0 a1) N (Int.tdiv a0 a1)) (fun y7 => some y7)))
def sf72_L1 (a0 a1 x2 : Int) : Option (Int ⊕ Int) :=
  (ck (rng (x2 * a1)) ((bif (decide ((x2 * a1) < a0)) then (ck (rng (x2 + (1 : Int))) (some (.inl (x2 + (1 : Int))))) else some (.inr x2))))
def sf72 (N : Nat) (a0 a1 : Int) : Option Int :=
  (ck (a1 ≠ 0 ∧ rng (Int.tdiv a0 a1)) (bnd (iter (sf72_L1 a0 a1) N (Int.tdiv a0 a1)) (fun y7 => some y7)))
def sf26 (N : Nat) (a0_0 a0_1 a0_2 a0_3 : Int) (a0_4 : (List (Int × Int × Int × Int))) (a0_5 : (List (Int × Int))) (a0_6 a0_7 a0_8 a0_9 a1_0 a1_1 a2_0 a2_1 a3 : Int) : Option (Int × Int) :=
  (bnd (sf55 N a0_0 a0_1 a0_2 a0_3 a0_4 a0_5 a0_6 a0_7 a0_8 a0_9 a3) fun v13 => (ck (rng (a1_0 * a2_0)) ((bnd (sf71 N (a1_0 * a2_0) a0_1) fun v21 => (ck (rng (v21 - v13.2)) ((ck (rng (a1_1 * a2_1)) ((bnd (sf72 N (a1_1 * a2_1) a0_1) fun v26 => (ck (rng (v26 - v13.1)) (some ((v21 - v13.2), (v26 - v13.1)))))))))))))
def sf52 (N : Nat) (a0_0 a0_1 a0_2 a0_3 : Int) (a0_4 : (List (Int × Int × Int × Int))) (a0_5 : (List (Int × Int))) (a0_6 a0_7 a0_8 a0_9 : Int) : Option Bool :=
  (bnd (sf18 N a0_0 a0_1 a0_2 a0_3 ([]) a0_5 a0_6 a0_7 a0_8 a0_9) fun v5 => (bif v5 then (bnd (sf40 N a0_0 a0_1 a0_2 a0_3 ([]) a0_5 a0_6 a0_7 a0_8 a0_9) fun v9 => some (decide (v9 = (0 : Int)))) else some false))
def sf133 (N : Nat) (a0 : (List Int)) (a1 : Int) : Option Int :=
  (bif (decide (((a0).length : Int) = (0 : Int))) then some (0 : Int) else (ck (((a0).length : Int) ≠ 0) ((ix a0 (Int.tmod a1 ((a0).length : Int)) fun x3 => (ck (IntKind.wrap .i64 x3 = x3) (some x3))))))
def sf92_L1 (N : Nat) (a0_0 a0_2 a0_3 : Int) (a1 : (List Int)) (x6 : ((List Int) × Int × Int)) : Option (((List Int) × Int × Int) ⊕ (List Int)) :=
  (bif (decide (x6.2.2 < a0_0)) then (ck (rng (a0_0 - (1 : Int))) ((ck (rng ((a0_0 - (1 : Int)) - x6.2.2)) ((ck (rng (((a0_0 - (1 : Int)) - x6.2.2) * a0_3)) ((ck (rng (x6.2.1 - (((a0_0 - (1 : Int)) - x6.2.2) * a0_3))) ((ck (rng (((a0_0 - (1 : Int)) - x6.2.2) * a0_2)) ((ck (rng (x6.2.1 - (((a0_0 - (1 : Int)) - x6.2.2) * a0_2))) ((bnd (sf133 N a1 x6.2.2) fun v41 => (ck (rng ((min a0_3 (x6.2.1 - (((a0_0 - (1 : Int)) - x6.2.2) * a0_2))) - (max a0_2 (x6.2.1 - (((a0_0 - (1 : Int)) - x6.2.2) * a0_3))))) ((ck (rng (((min a0_3 (x6.2.1 - (((a0_0 - (1 : Int)) - x6.2.2) * a0_2))) - (max a0_2 (x6.2.1 - (((a0_0 - (1 : Int)) - x6.2.2) * a0_3)))) + (1 : Int))) ((ck ((((min a0_3 (x6.2.1 - (((a0_0 - (1 : Int)) - x6.2.2) * a0_2))) - (max a0_2 (x6.2.1 - (((a0_0 - (1 : Int)) - x6.2.2) * a0_3)))) + (1 : Int)) ≠ 0) ((ck (rng ((max a0_2 (x6.2.1 - (((a0_0 - (1 : Int)) - x6.2.2) * a0_3))) + (Int.tmod v41 (((min a0_3 (x6.2.1 - (((a0_0 - (1 : Int)) - x6.2.2) * a0_2))) - (max a0_2 (x6.2.1 - (((a0_0 - (1 : Int)) - x6.2.2) * a0_3)))) + (1 : Int))))) ((ck ((x6.1.length + 1) * 8 ≤ 35184372088832 ∧ x6.1.length + 1 ≤ 35184372088832) ((ck (rng (x6.2.1 - ((max a0_2 (x6.2.1 - (((a0_0 - (1 : Int)) - x6.2.2) * a0_3))) + (Int.tmod v41 (((min a0_3 (x6.2.1 - (((a0_0 - (1 : Int)) - x6.2.2) * a0_2))) - (max a0_2 (x6.2.1 - (((a0_0 - (1 : Int)) - x6.2.2) * a0_3)))) + (1 : Int)))))) ((ck (rng (x6.2.2 + (1 : Int))) (some (.inl ((x6.1 ++ [((max a0_2 (x6.2.1 - (((a0_0 - (1 : Int)) - x6.2.2) * a0_3))) + (Int.tmod v41 (((min a0_3 (x6.2.1 - (((a0_0 - (1 : Int)) - x6.2.2) * a0_2))) - (max a0_2 (x6.2.1 - (((a0_0 - (1 : Int)) - x6.2.2) * a0_3)))) + (1 : Int))))]), (x6.2.1 - ((max a0_2 (x6.2.1 - (((a0_0 - (1 : Int)) - x6.2.2) * a0_3))) + (Int.tmod v41 (((min a0_3 (x6.2.1 - (((a0_0 - (1 : Int)) - x6.2.2) * a0_2))) - (max a0_2 (x6.2.1 - (((a0_0 - (1 : Int)) - x6.2.2) * a0_3)))) + (1 : Int))))), (x6.2.2 + (1 : Int))))))))))))))))))))))))))))))) else some (.inr x6.1))
def sf92 (N : Nat) (a0_0 a0_1 a0_2 a0_3 : Int) (a1 : (List Int)) : Option (List Int) :=
  bnd (iter (sf92_L1 N a0_0 a0_2 a0_3 a1) N (([] : List Int), a0_1, (0 : Int))) (fun y30 => some y30)
def sf56_L1 (a0 : (List Int)) (a1 : Int) (x1 : (Int × Int)) : Option ((Int × Int) ⊕ Int) :=
  (bif (decide (x1.2 < a1)) then (ix a0 x1.2 fun x10 => (ck (rng (x1.1 + x10)) ((ck (rng (x1.2 + (1 : Int))) (some (.inl ((x1.1 + x10), (x1.2 + (1 : Int))))))))) else some (.inr x1.1))
def sf56 (N : Nat) (a0 : (List Int)) (a1 : Int) : Option Int :=
  bnd (iter (sf56_L1 a0 a1) N ((0 : Int), (0 : Int))) (fun y7 => some y7)
def sf93_L1 (N : Nat) (a0_0 a0_1 : Int) (a1 : (List Int)) (x149 v154 x162 : Int) : Option (Int ⊕ Int) :=
  bnd ((bif (decide (x162 < a0_0)) then (ck (rng (x162 + (1 : Int))) ((bnd (sf56 N a1 (x162 + (1 : Int))) fun v210 => (bnd (sf56 N a1 (Int.tmod x149 a0_0)) fun v213 => (ck (rng (v210 - v213)) (some (decide ((v210 - v213) ≤ (Int.tdiv ((Int.tmod (Int.tdiv x149 (16 : Int)) (256 : Int)) * ((a0_1 - v154) + (5 : Int))) (256 : Int)))))))))) else some false) : Option (Bool)) (fun y204 => (bif y204 then (ck (rng (x162 + (1 : Int))) (some (.inl (x162 + (1 : Int))))) else some (.inr x162)))
def sf93_L2 (N : Nat) (a0_0 a0_1 : Int) (a1 : (List Int)) (a2 : (List Int)) (x6 : ((List (Int × Int × Int × Int)) × Int)) : Option (((List (Int × Int × Int × Int)) × Int) ⊕ (List (Int × Int × Int × Int))) :=
  bnd (bnd ((bif (decide (x6.2 < ((a2).length : Int))) then some (decide (x6.2 < (12 : Int))) else some false) : Option (Bool)) (fun y141 => (bif y141 then some (.inl ()) else some (.inr ()))) : Option (Unit ⊕ Unit)) (sel (fun w136 => (ix a2 x6.2 fun x149 => (ck (IntKind.wrap .i64 x149 = x149) ((ck (a0_0 ≠ 0) ((ck ((16 : Int) ≠ 0 ∧ rng (Int.tdiv x149 (16 : Int))) ((ck ((256 : Int) ≠ 0) ((bnd (sf56 N a1 (Int.tmod x149 a0_0)) fun v154 => (ck (rng (a0_1 - v154)) ((ck (rng ((a0_1 - v154) + (5 : Int))) ((ck (rng ((Int.tmod (Int.tdiv x149 (16 : Int)) (256 : Int)) * ((a0_1 - v154) + (5 : Int)))) ((ck ((256 : Int) ≠ 0 ∧ rng (Int.tdiv ((Int.tmod (Int.tdiv x149 (16 : Int)) (256 : Int)) * ((a0_1 - v154) + (5 : Int))) (256 : Int))) (bnd (iter (sf93_L1 N a0_0 a0_1 a1 x149 v154) N (Int.tmod x149 a0_0)) (fun y193 => (ck ((4096 : Int) ≠ 0 ∧ rng (Int.tdiv x149 (4096 : Int))) ((ck ((4 : Int) ≠ 0) ((ck (rng ((Int.tdiv ((Int.tmod (Int.tdiv x149 (16 : Int)) (256 : Int)) * ((a0_1 - v154) + (5 : Int))) (256 : Int)) - (Int.tmod (Int.tdiv x149 (4096 : Int)) (4 : Int)))) ((ck ((8192 : Int) ≠ 0 ∧ rng (Int.tdiv x149 (8192 : Int))) ((ck ((3 : Int) ≠ 0) ((ck (rng ((Int.tdiv ((Int.tmod (Int.tdiv x149 (16 : Int)) (256 : Int)) * ((a0_1 - v154) + (5 : Int))) (256 : Int)) + (Int.tmod (Int.tdiv x149 (8192 : Int)) (3 : Int)))) ((ck ((x6.1.length + 1) * 32 ≤ 35184372088832 ∧ x6.1.length + 1 ≤ 35184372088832) ((ck (rng (x6.2 + (1 : Int))) (some (.inl ((x6.1 ++ [((Int.tmod x149 a0_0), y193, (max (0 : Int) ((Int.tdiv ((Int.tmod (Int.tdiv x149 (16 : Int)) (256 : Int)) * ((a0_1 - v154) + (5 : Int))) (256 : Int)) - (Int.tmod (Int.tdiv x149 (4096 : Int)) (4 : Int)))), (min (2000 : Int) ((Int.tdiv ((Int.tmod (Int.tdiv x149 (16 : Int)) (256 : Int)) * ((a0_1 - v154) + (5 : Int))) (256 : Int)) + (Int.tmod (Int.tdiv x149 (8192 : Int)) (3 : Int)))))]), (x6.2 + (1 : Int)))))))))))))))))))))))))))))))))))))))) (fun w138 => some (.inr x6.1)))
def sf93 (N : Nat) (a0_0 a0_1 a0_2 a0_3 : Int) (a1 : (List Int)) (a2 : (List Int)) : Option (List (Int × Int × Int × Int)) :=
  bnd (iter (sf93_L2 N a0_0 a0_1 a1 a2) N (([] : List (Int × Int × Int × Int)), (0 : Int))) (fun y122 => some y122)
def sf53 (N : Nat) (a0_0 a0_1 a0_2 a0_3 : Int) (a0_4 : (List (Int × Int × Int × Int))) (a0_5 : (List (Int × Int))) (a0_6 a0_7 a0_8 a0_9 : Int) (a1 : (List Int)) (a2 : (List Int)) : Option (Int × Int × Int × Int × (List (Int × Int × Int × Int)) × (List (Int × Int)) × Int × Int × Int × Int × (List Int)) :=
  (bnd (sf92 N a0_0 a0_1 a0_2 a0_3 a1) fun v7 => (bnd (sf93 N a0_0 a0_1 a0_2 a0_3 v7 a2) fun v11 => some (a0_0, a0_1, a0_2, a0_3, v11, a0_5, a0_6, a0_7, a0_8, a0_9, v7)))
def sf50 (N : Nat) (a0 a1 : Int) : Option (Int × Int) :=
  some (a0, a1)
def sf15 (N : Nat) (a0_0 a0_1 a0_2 a0_3 : Int) (a0_4 : (List (Int × Int × Int × Int))) (a0_5 : (List (Int × Int))) (a0_6 a0_7 a0_8 a0_9 : Int) (a1 : (List Int)) (a2 : (List Int)) (a3 : Int) : Option Bool :=
  (bnd (sf52 N a0_0 a0_1 a0_2 a0_3 a0_4 ([((700 : Int), (940 : Int)), ((760 : Int), (1000 : Int))]) (760 : Int) (760 : Int) (0 : Int) (0 : Int)) fun v12 => (bif (!v12) then some true else (bnd (sf53 N a0_0 a0_1 a0_2 a0_3 a0_4 ([((700 : Int), (940 : Int)), ((760 : Int), (1000 : Int))]) (760 : Int) (760 : Int) (0 : Int) (0 : Int) a1 a2) fun v17 => (bnd (sf21 N v17.1 v17.2.1 v17.2.2.1 v17.2.2.2.1 v17.2.2.2.2.1 v17.2.2.2.2.2.1 v17.2.2.2.2.2.2.1 v17.2.2.2.2.2.2.2.1 v17.2.2.2.2.2.2.2.2.1 v17.2.2.2.2.2.2.2.2.2.1) fun v28 => (ck (IntKind.wrap .i64 a3 = a3) ((ck ((10001 : Int) ≠ 0) ((bnd (sf22 N v28.1 v28.2.1 v28.2.2.1 v28.2.2.2.1 v28.2.2.2.2.1 v28.2.2.2.2.2.1 v28.2.2.2.2.2.2.1 v28.2.2.2.2.2.2.2.1 v28.2.2.2.2.2.2.2.2.1 v28.2.2.2.2.2.2.2.2.2 (Int.tmod a3 (10001 : Int))) fun v37 => (bif (decide (v37.2 = (0 : Int))) then (ck (rng (v17.1 + (1 : Int))) ((bif (decide (((v37.1).length : Int) = (v17.1 + (1 : Int)))) then (ix v37.1 (0 : Int) fun x47 => (bnd (sf50 N (0 : Int) (0 : Int)) fun v48 => (bif (x47.1 == v48.1 && (x47.2 == v48.2 && true)) then (ck (rng (((v37.1).length : Int) - (1 : Int))) ((ix v37.1 (((v37.1).length : Int) - (1 : Int)) fun x53 => (bnd (sf50 N (1000 : Int) (1000 : Int)) fun v54 => (bif (x53.1 == v54.1 && (x53.2 == v54.2 && true)) then some true else some false))))) else some false))) else some false))) else some false))))))))))
end Go.Hx.V

namespace Go.Hx.V
open Go.Hx
set_option maxRecDepth 20000
set_option maxHeartbeats 4000000
variable {fl : Nat} {h0 : Tr HBlk} {n0 : Nat} {F0 : PH}
attribute [local irreducible] W R C thenH inBlockH Tr.get Tr.set lo ck bnd ix iter
theorem ct18 (N : Nat) {a0_0 a0_1 a0_2 a0_3 : Int} {a0_4 : (List (Int × Int × Int × Int))} {a0_5 : (List (Int × Int))} {a0_6 a0_7 a0_8 a0_9 : Int} {r : Bool} (hF : sf18 N a0_0 a0_1 a0_2 a0_3 a0_4 a0_5 a0_6 a0_7 a0_8 a0_9 = some r) (hd : D h0 n0) (hs : F0.sub h0) {pa0_4 : Option (Nat × Nat)} {ca0_4 : Nat} {pa0_5 : Option (Nat × Nat)} {ca0_5 : Nat} (ra0_4 : RowF (rP rI (rP rI (rP rI rI))) 4 F0 pa0_4 ca0_4 a0_4) (ra0_5 : RowF (rP rI rI) 2 F0 pa0_5 ca0_5 a0_5) : C LW fl 18 [(.agg [(i64 a0_0), (i64 a0_1), (i64 a0_2), (i64 a0_3), (.slice pa0_4 (a0_4).length ca0_4), (.slice pa0_5 (a0_5).length ca0_5), (i64 a0_6), (i64 a0_7), (i64 a0_8), (i64 a0_9)])] ⟨h0, n0⟩ (KS (.bool r) n0 h0) := by
  unfold sf18 at hF
  refine in_cT hd hs lw18 rfl rfl (by rfl) (fun st T hT => ?_)
  have hfl : n0 ≤ n0 := Nat.le_refl n0
  have t0 := hT 0 _ rfl
  dsimp only [L18]
  refine w_seq (w_reg ?_); refine v_box st (fun b1 h2 n3 st => ?_); refine v_move ?_; refine r_nil (th_n ?_); refine w_seq (w_reg ?_); refine v_fa ?_; refine v_ld1 (st.at (i := 0) rfl).2.2 rfl ?_; refine v_len ?_; refine v_leq ?_; refine v_move ?_
  rcases Bool.eq_false_or_eq_true (decide (((a0_4).length : Int) ≤ (15 : Int))) with hb4 | hb4
  · have hF := bif_t hb4 hF; refine g_take hb4 (v_fa ?_); refine g_take hb4 (v_ld1 (st.at (i := 0) rfl).2.2 rfl ?_); refine g_take hb4 (v_len ?_); refine g_take hb4 (v_leq ?_); refine v_pick hb4 ?_; refine v_move ?_; refine r_nil (th_n ?_); refine w_ret ?_; obtain rfl := inj hF
    exact end_s st (Res.t gA Res.nil) rfl rfl
  · have hF := bif_f hb4 hF; refine g_skip hb4 ?_; refine g_skip hb4 ?_; refine g_skip hb4 ?_; refine g_skip hb4 ?_; refine v_pick' hb4 ?_; refine v_move ?_; refine r_nil (th_n ?_); refine w_ret ?_; obtain rfl := inj hF
    exact end_s st (Res.t gA Res.nil) rfl rfl
theorem ct97 (N : Nat) {a0_0 a0_1 : Int} {r : (Int × Int)} (hF : sf97 N a0_0 a0_1 = some r) (hd : D h0 n0) (hs : F0.sub h0) : C LW fl 97 [(.agg [(i64 a0_0), (i64 a0_1)])] ⟨h0, n0⟩ (KS (.agg [(i64 r.1), (i64 r.2)]) n0 h0) := by
  unfold sf97 at hF
  refine in_cT hd hs lw97 rfl rfl (by rfl) (fun st T hT => ?_)
  have hfl : n0 ≤ n0 := Nat.le_refl n0
  have t0 := hT 0 _ rfl
  dsimp only [L97]
  refine w_seq (w_reg ?_); refine v_box st (fun b1 h2 n3 st => ?_); refine v_alloc st (fun b4 h5 n6 st => ?_); refine r_nil (th_n ?_); refine w_seq (w_reg ?_); refine v_fa ?_; refine v_ld1 (st.at (i := 0) rfl).2.2 rfl ?_; refine v_fa ?_; refine v_ld1 (st.at (i := 0) rfl).2.2 rfl ?_; refine v_build (cs := [(i64 a0_0), (i64 a0_1)]) rfl ?_; refine v_st (cs' := [(i64 a0_0), (i64 a0_1)]) st 1 rfl rfl rfl rfl hfl (fun h7 st => ?_); refine r_nil (th_n ?_); refine w_ret ?_; obtain rfl := inj hF
  exact end_s st (Res.c gA (st.at (i := 1) rfl).2.2 (show takeN _ _ = some [(i64 a0_0), (i64 a0_1)] from rfl) Res.nil) rfl rfl
theorem ct66 (N : Nat) {a0 : (List (Int × Int))} {r : (List (Int × Int))} (hF : sf66 N a0 = some r) (hd : D h0 n0) (hs : F0.sub h0) (hfl : fl ≤ n0) {pa0 : Option (Nat × Nat)} {ca0 : Nat} (ra0 : RowF (rP rI rI) 2 F0 pa0 ca0 a0) : C LW fl 66 [(.slice pa0 (a0).length ca0)] ⟨h0, n0⟩ (KR (lvL (rP rI rI) 2) F0 h0 n0 r) := by
  unfold sf66 at hF
  refine in_mT hd hs hfl lw66 rfl rfl (by rfl) (fun st T hT => ?_)
  have t0 := hT 0 _ rfl
  dsimp only [L66]
  refine w_seq (w_reg ?_); refine v_move ?_; refine r_nil (th_n ?_); refine w_seq (w_reg ?_); refine v_move ?_; refine r_nil (th_n ?_); refine w_seq ?_; refine w_seq (w_reg ?_); refine v_move ?_; refine r_nil (th_n ?_); refine w_block ?_
  have st := st.nilL 2
  have w1 : LR (rP rI rI) 2 F0 ([] : List (Int × Int)) [] := LR.nil
  obtain ⟨y15, hy, hF⟩ := bnd_some hF; refine v_loopD (sf66_L1 a0) (fun x3 T ds4 h nx => ∃ (F4 : PH) (o5 : Option Nat) (c5 : Nat) (cs5 : List HV), ds4 = [] ∧ PH.le F0 F4 ∧ St n0 h0 F0 F4 h nx [.ls o5 c5 cs5 2] ∧ LR (rP rI rI) 2 F4 x3.1 cs5 ∧ T.get 0 = some (.slice pa0 (a0).length ca0) ∧ T.get 3 = some (slv o5 (x3.1).length c5) ∧ T.get 4 = some (i64 x3.2)) (fun y e a σ => e = .exit 0 ∧ a.nt = 26 ∧ ∃ (F16 : PH) (o17 : Option Nat) (c17 : Nat) (cs17 : List HV), a.defers = [] ∧ PH.le F0 F16 ∧ St n0 h0 F0 F16 σ.h σ.nx [.ls o17 c17 cs17 2] ∧ LR (rP rI rI) 2 F16 y cs17 ∧ a.tmps.get 3 = some (slv o17 (y).length c17)) (fun x3 T ds4 h nx s hp hF => ?_) N _ y15 _ _ _ _ hy ⟨F0, none, 0, [], rfl, (PH.le.refl _), st, w1, gA, gA, gA⟩ (fun e a σ hne hq => ?_)
  · obtain ⟨F4, o5, c5, cs5, rfl, le4, st, w5, t0, t3, t4⟩ := hp; unfold sf66_L1 at hF; unfold L66w0; refine w_seq ?_; refine w_seq (w_reg ?_); refine v_move ?_; refine v_move ?_; refine v_len ?_; refine v_lss ?_; refine r_nil (th_n ?_); refine v_cond (fun hb18 => ?_) (fun hb18 => ?_)
    · have hF := bif_t hb18 hF; refine w_skip (th_n ?_); refine w_seq ?_; refine w_block ?_; refine w_drawV (Nat.le_trans hfl st.ext.le) (fun dw => ?_); refine y_pure st.d dw (fun hm vw => v_move pr_nil) ?_; refine y_pure st.d dw (fun hm vw => v_move pr_nil) ?_; refine y_pure st.d dw (fun hm vw => v_move pr_nil) ?_; obtain ⟨n19, x19, z19, l19, g19, hF⟩ := ix_some hF; obtain ⟨b19, o19, s19, j19, r19, e19, f19, k19, ⟨_, _, rfl, rfl, rfl⟩⟩ := RowF.get ra0 g19; refine y_pure st.d dw (fun hm vw => v_ixp e19 z19 l19 pr_nil) ?_; refine y_pure st.d dw (fun hm vw => v_fa pr_nil) ?_; refine y_pure st.d dw (fun hm vw => v_ld1 (vw.fz st (le4 _ _ f19)) (take_at (j := 0) k19 rfl) pr_nil) ?_; refine y_pure st.d dw (fun hm vw => v_move pr_nil) ?_
      refine y_pure st.d dw (fun hm vw => v_move pr_nil) ?_; obtain ⟨n20, x20, z20, l20, g20, hF⟩ := ix_some hF; obtain ⟨b20, o20, s20, j20, r20, e20, f20, k20, ⟨_, _, rfl, rfl, rfl⟩⟩ := RowF.get ra0 g20; refine y_pure st.d dw (fun hm vw => v_ixp e20 z20 l20 pr_nil) ?_; refine y_pure st.d dw (fun hm vw => v_fa pr_nil) ?_; refine y_pure st.d dw (fun hm vw => v_ld1 (vw.fz st (le4 _ _ f20)) (take_at (j := 1) k20 rfl) pr_nil) ?_; refine y_end st.d dw rfl (fun h21 ex vs => ?_)
      have st := st.ext1 ex
      refine v_build (cs := [(i64 x19.1), (i64 x20.2)]) rfl ?_; refine v_bs (cs := [(i64 x19.1), (i64 x20.2)]) st rfl (fun b22 h23 n24 st => ?_); obtain ⟨q25, hF⟩ := ck_some hF
      have w25 : LR (rP rI rI) 2 F4 (x3.1 ++ [(x19.1, x20.2)]) (cs5 ++ [(i64 x19.1), (i64 x20.2)]) := LR.app w5 (LR.one (⟨[(i64 x19.1)], [(i64 x20.2)], rfl, rfl, rfl⟩))
      refine v_aps (n := 1) (ox := 0) (m := (x3.1 ++ [(x19.1, x20.2)]).length) (row := [(i64 x19.1), (i64 x20.2)]) st 0 rfl w5.1 (st.at (i := 1) rfl).2.2 rfl rfl q25 hfl (by decide) (by decide) (by simp) (fun o25 c25 h25 n25 st => ?_)
      refine v_move ?_; refine r_nil ?_; refine ib_n ?_; refine th_n ?_; refine w_reg ?_; refine v_move ?_; obtain ⟨q26, hF⟩ := ck_some hF; refine v_add q26 ?_; refine v_move ?_; refine r_nil ?_; refine thn ⟨_, (inj hF).symm, rfl, ?_⟩; dsimp only
      exact ⟨F4, o25, c25, (cs5 ++ [(i64 x19.1), (i64 x20.2)]), rfl, le4, (st.drop (by first | exact List.Sublist.refl _ | (repeat first | exact List.nil_sublist _ | refine List.Sublist.cons_cons _ ?_ | refine List.Sublist.cons _ ?_))), w25, gA, gA, gA⟩
    · have hF := bif_f hb18 hF; refine w_exit ?_; refine th_e ?_; refine th_e ?_; refine ⟨_, (inj hF).symm, rfl, rfl, ?_⟩; dsimp only
      exact ⟨F4, o5, c5, cs5, rfl, le4, st, w5, gA⟩
  · obtain ⟨N9, T, ds16⟩ := a; obtain ⟨h27, n28⟩ := σ; obtain ⟨rfl, e1, F16, o17, c17, cs17, e2, le16, st, w17, t3⟩ := hq
    dsimp only at e1 e2
    subst e1
    subst e2
    dsimp only at st t3
    refine ib_e ?_; refine th_n ?_; refine w_seq (w_reg ?_); refine v_move ?_; refine v_move ?_; refine r_nil (th_n ?_); refine w_ret ?_; obtain rfl := inj hF
    obtain ⟨F29, le29, st, rf29⟩ := St.freeze st 0 rfl w17 (by decide)
    have le30 := PH.le.trans le16 le29
    exact end_r st (Res.t gA Res.nil) ⟨_, _, rfl, rf29⟩
theorem ct29 (N : Nat) {a0_0 a0_1 : Int} {r : (Int × Int)} (hF : sf29 N a0_0 a0_1 = some r) (hd : D h0 n0) (hs : F0.sub h0) : C LW fl 29 [(.agg [(i64 a0_0), (i64 a0_1)])] ⟨h0, n0⟩ (KS (.agg [(i64 r.1), (i64 r.2)]) n0 h0) := by
  unfold sf29 at hF
  refine in_cT hd hs lw29 rfl rfl (by rfl) (fun st T hT => ?_)
  have hfl : n0 ≤ n0 := Nat.le_refl n0
  have t0 := hT 0 _ rfl
  dsimp only [L29]
  refine w_seq (w_reg ?_); refine v_box st (fun b1 h2 n3 st => ?_); refine v_alloc st (fun b4 h5 n6 st => ?_); refine r_nil (th_n ?_); refine w_seq (w_reg ?_); refine v_fa ?_; refine v_ld1 (st.at (i := 0) rfl).2.2 rfl ?_; refine v_fa ?_; refine v_ld1 (st.at (i := 0) rfl).2.2 rfl ?_; refine v_build (cs := [(i64 a0_0), (i64 a0_1)]) rfl ?_; refine v_st (cs' := [(i64 a0_0), (i64 a0_1)]) st 1 rfl rfl rfl rfl hfl (fun h7 st => ?_); refine r_nil (th_n ?_); refine w_ret ?_; obtain rfl := inj hF
  exact end_s st (Res.c gA (st.at (i := 1) rfl).2.2 (show takeN _ _ = some [(i64 a0_0), (i64 a0_1)] from rfl) Res.nil) rfl rfl
theorem ct169 (N : Nat) {a0_0 a0_1 a1 a2 : Int} {r : Bool} (hF : sf169 N a0_0 a0_1 a1 a2 = some r) (hd : D h0 n0) (hs : F0.sub h0) : C LW fl 169 [(.agg [(i64 a0_0), (i64 a0_1)]), (i64 a1), (i64 a2)] ⟨h0, n0⟩ (KS (.bool r) n0 h0) := by
  unfold sf169 at hF
  refine in_cT hd hs lw169 rfl rfl (by rfl) (fun st T hT => ?_)
  have hfl : n0 ≤ n0 := Nat.le_refl n0
  have t0 := hT 0 _ rfl
  have t1 := hT 1 _ rfl
  have t2 := hT 2 _ rfl
  dsimp only [L169]
  refine w_seq (w_reg ?_); refine v_box st (fun b1 h2 n3 st => ?_); refine v_move ?_; refine r_nil (th_n ?_); refine w_seq (w_reg ?_); refine v_move ?_; refine v_fa ?_; refine v_ld1 (st.at (i := 0) rfl).2.2 rfl ?_; refine v_leq ?_; refine v_move ?_
  rcases Bool.eq_false_or_eq_true (decide (a1 ≤ a0_0)) with hb4 | hb4
  · have hF := bif_t hb4 hF; refine g_take hb4 (v_fa ?_); refine g_take hb4 (v_ld1 (st.at (i := 0) rfl).2.2 rfl ?_); refine g_take hb4 (v_fa ?_); refine g_take hb4 (v_ld1 (st.at (i := 0) rfl).2.2 rfl ?_); refine g_take hb4 (v_leq ?_); refine v_pick hb4 ?_; refine v_move ?_
    rcases Bool.eq_false_or_eq_true (decide (a0_0 ≤ a0_1)) with hb5 | hb5
    · have hF := bif_t hb5 hF; refine g_take hb5 (v_fa ?_); refine g_take hb5 (v_ld1 (st.at (i := 0) rfl).2.2 rfl ?_); refine g_take hb5 (v_move ?_); refine g_take hb5 (v_leq ?_); refine v_pick hb5 ?_; refine v_move ?_; refine r_nil (th_n ?_); refine w_ret ?_; obtain rfl := inj hF
      exact end_s st (Res.t gA Res.nil) rfl rfl
    · have hF := bif_f hb5 hF; refine g_skip hb5 ?_; refine g_skip hb5 ?_; refine g_skip hb5 ?_; refine g_skip hb5 ?_; refine v_pick' hb5 ?_; refine v_move ?_; refine r_nil (th_n ?_); refine w_ret ?_; obtain rfl := inj hF
      exact end_s st (Res.t gA Res.nil) rfl rfl
  · have hF := bif_f hb4 hF; refine g_skip hb4 ?_; refine g_skip hb4 ?_; refine g_skip hb4 ?_; refine g_skip hb4 ?_; refine g_skip hb4 ?_; refine v_pick' hb4 ?_; refine v_move ?_; refine g_skip rfl ?_; refine g_skip rfl ?_; refine g_skip rfl ?_; refine g_skip rfl ?_; refine v_pick' rfl ?_; refine v_move ?_; refine r_nil (th_n ?_); refine w_ret ?_; obtain rfl := inj hF
    exact end_s st (Res.t gA Res.nil) rfl rfl
theorem ct180 (N : Nat) {a0_0 a0_1 a1 : Int} {r : Bool} (hF : sf180 N a0_0 a0_1 a1 = some r) (hd : D h0 n0) (hs : F0.sub h0) : C LW fl 180 [(.agg [(i64 a0_0), (i64 a0_1)]), (i64 a1)] ⟨h0, n0⟩ (KS (.bool r) n0 h0) := by
  unfold sf180 at hF
  refine in_cT hd hs lw180 rfl rfl (by rfl) (fun st T hT => ?_)
  have hfl : n0 ≤ n0 := Nat.le_refl n0
  have t0 := hT 0 _ rfl
  have t1 := hT 1 _ rfl
  dsimp only [L180]
  refine w_seq (w_reg ?_); refine v_box st (fun b1 h2 n3 st => ?_); refine v_move ?_; refine r_nil (th_n ?_); refine w_seq (w_reg ?_); refine v_fa ?_; refine v_ld1 (st.at (i := 0) rfl).2.2 rfl ?_; refine v_move ?_; refine v_leq ?_; refine v_move ?_
  rcases Bool.eq_false_or_eq_true (decide (a0_0 ≤ a1)) with hb4 | hb4
  · have hF := bif_t hb4 hF; refine g_take hb4 (v_move ?_); refine g_take hb4 (v_fa ?_); refine g_take hb4 (v_ld1 (st.at (i := 0) rfl).2.2 rfl ?_); refine g_take hb4 (v_leq ?_); refine v_pick hb4 ?_; refine v_move ?_; refine r_nil (th_n ?_); refine w_ret ?_; obtain rfl := inj hF
    exact end_s st (Res.t gA Res.nil) rfl rfl
  · have hF := bif_f hb4 hF; refine g_skip hb4 ?_; refine g_skip hb4 ?_; refine g_skip hb4 ?_; refine g_skip hb4 ?_; refine v_pick' hb4 ?_; refine v_move ?_; refine r_nil (th_n ?_); refine w_ret ?_; obtain rfl := inj hF
    exact end_s st (Res.t gA Res.nil) rfl rfl
theorem ct181 (N : Nat) {a0p0 a0p1 a0p2 a0p3 a0p4 : Int} {a0p5 : (Nat → Int)} {a1 a2 a3 : Int} {r : Bool} (hF : sf181 N a0p0 a0p1 a0p2 a0p3 a0p4 a0p5 a1 a2 a3 = some r) (hd : D h0 n0) (hs : F0.sub h0) {ba0 : Nat} (hba0 : F0 ba0 = some (.cells ([(i64 a0p0), (i64 a0p1), (i64 a0p2), (i64 a0p3), (i64 a0p4)] ++ (eI .i64 169 a0p5)) .exact)) : C LW fl 181 [(.ptr (some (ba0, 4))), (i64 a1), (i64 a2), (i64 a3)] ⟨h0, n0⟩ (KS (.bool r) n0 h0) := by
  unfold sf181 at hF
  refine in_cT hd hs lw181 rfl rfl (by rfl) (fun st T hT => ?_)
  have hfl : n0 ≤ n0 := Nat.le_refl n0
  have t0 := hT 0 _ rfl
  have t1 := hT 1 _ rfl
  have t2 := hT 2 _ rfl
  have t3 := hT 3 _ rfl
  dsimp only [L181]
  refine w_seq (w_reg ?_); refine v_move ?_; refine r_nil (th_n ?_); refine w_seq (w_reg ?_); refine v_move ?_; refine v_move ?_; refine v_move ?_; refine v_move ?_; refine v_nc ?_; refine v_fa ?_; obtain ⟨q1, hF⟩ := ck_some hF
  refine v_ixa (j := (Int.toNat a2)) (Int.toNat_of_nonneg q1.1).symm (by omega) ?_
  obtain ⟨q2, hF⟩ := ck_some hF
  refine v_ixa (j := (Int.toNat a1)) (Int.toNat_of_nonneg q2.1).symm (by omega) ?_
  refine v_ld1 (o := ((5 + (Int.toNat a2) * 13) + (Int.toNat a1) * 1)) (st.sub _ _ hba0) (ar_get (p := 5) (ix := (((Int.toNat a2) * 13) + (Int.toNat a1))) [(i64 a0p0), (i64 a0p1), (i64 a0p2), (i64 a0p3), (i64 a0p4)] rfl (by omega) (by omega)) ?_
  obtain ⟨q3, hF⟩ := ck_some hF; refine v_add q3 ?_; refine v_geq ?_; refine v_move ?_; refine r_nil (th_n ?_); refine w_ret ?_; obtain rfl := inj hF
  exact end_s st (Res.t gA Res.nil) rfl rfl
theorem ct96 (N : Nat) {r : Unit} (hF : sf96 N = some r) (hd : D h0 n0) (hs : F0.sub h0) : C LW fl 96 [] ⟨h0, n0⟩ (KS (.agg [(.via 215 "Lowest" 136), (.via 215 "Highest" 137)]) n0 h0) := by
  unfold sf96 at hF
  refine in_cT hd hs lw96 rfl rfl (by rfl) (fun st T hT => ?_)
  have hfl : n0 ≤ n0 := Nat.le_refl n0
  dsimp only [L96]
  refine w_seq (w_reg ?_); refine v_alloc st (fun b1 h2 n3 st => ?_); refine r_nil (th_n ?_); refine w_seq (w_reg ?_); refine v_move ?_; refine v_move ?_; refine v_build (cs := [(.via 215 "Lowest" 136), (.via 215 "Highest" 137)]) rfl ?_; refine v_st (cs' := [(.via 215 "Lowest" 136), (.via 215 "Highest" 137)]) st 0 rfl rfl rfl rfl hfl (fun h4 st => ?_); refine r_nil (th_n ?_); refine w_ret ?_; obtain rfl := inj hF
  exact end_s st (Res.c gA (st.at (i := 0) rfl).2.2 (show takeN _ _ = some [(.via 215 "Lowest" 136), (.via 215 "Highest" 137)] from rfl) Res.nil) rfl rfl
theorem ct136 (N : Nat) {a0p0 a0p1 a0p2 a0p3 a0p4 : Int} {a0p5 : (Nat → Int)} {a1 r : Int} (hF : sf136 N a0p0 a0p1 a0p2 a0p3 a0p4 a0p5 a1 = some r) (hd : D h0 n0) (hs : F0.sub h0) {ba0 : Nat} (hba0 : F0 ba0 = some (.cells ([(i64 a0p0), (i64 a0p1), (i64 a0p2), (i64 a0p3), (i64 a0p4)] ++ (eI .i64 169 a0p5)) .exact)) : C LW fl 136 [(.ptr (some (ba0, 4))), (i64 a1)] ⟨h0, n0⟩ (KS (i64 r) n0 h0) := by
  unfold sf136 at hF
  refine in_cT hd hs lw136 rfl rfl (by rfl) (fun st T hT => ?_)
  have hfl : n0 ≤ n0 := Nat.le_refl n0
  have t0 := hT 0 _ rfl
  have t1 := hT 1 _ rfl
  dsimp only [L136]
  refine w_seq (w_reg ?_); refine v_move ?_; refine r_nil (th_n ?_); refine w_seq (w_reg ?_); refine v_move ?_; refine v_move ?_; refine v_nc ?_; refine v_fa ?_; obtain ⟨q1, hF⟩ := ck_some hF
  refine v_ixa (j := (Int.toNat a1)) (Int.toNat_of_nonneg q1.1).symm (by omega) ?_
  obtain ⟨q2, hF⟩ := ck_some hF
  refine v_ixa (j := (Int.toNat (0 : Int))) (Int.toNat_of_nonneg q2.1).symm (by omega) ?_
  refine v_ld1 (o := ((5 + (Int.toNat a1) * 13) + (Int.toNat (0 : Int)) * 1)) (st.sub _ _ hba0) (ar_get (p := 5) (ix := (((Int.toNat a1) * 13) + (Int.toNat (0 : Int)))) [(i64 a0p0), (i64 a0p1), (i64 a0p2), (i64 a0p3), (i64 a0p4)] rfl (by omega) (by omega)) ?_
  obtain ⟨q3, hF⟩ := ck_some hF; refine v_neg q3 ?_; refine v_move ?_; refine r_nil (th_n ?_); refine w_ret ?_; obtain rfl := inj hF
  exact end_s st (Res.t gA Res.nil) rfl rfl
theorem ct137 (N : Nat) {a0p0 a0p1 a0p2 a0p3 a0p4 : Int} {a0p5 : (Nat → Int)} {a1 r : Int} (hF : sf137 N a0p0 a0p1 a0p2 a0p3 a0p4 a0p5 a1 = some r) (hd : D h0 n0) (hs : F0.sub h0) {ba0 : Nat} (hba0 : F0 ba0 = some (.cells ([(i64 a0p0), (i64 a0p1), (i64 a0p2), (i64 a0p3), (i64 a0p4)] ++ (eI .i64 169 a0p5)) .exact)) : C LW fl 137 [(.ptr (some (ba0, 4))), (i64 a1)] ⟨h0, n0⟩ (KS (i64 r) n0 h0) := by
  unfold sf137 at hF
  refine in_cT hd hs lw137 rfl rfl (by rfl) (fun st T hT => ?_)
  have hfl : n0 ≤ n0 := Nat.le_refl n0
  have t0 := hT 0 _ rfl
  have t1 := hT 1 _ rfl
  dsimp only [L137]
  refine w_seq (w_reg ?_); refine v_move ?_; refine r_nil (th_n ?_); refine w_seq (w_reg ?_); refine v_move ?_; refine v_move ?_; refine v_nc ?_; refine v_fa ?_; obtain ⟨q1, hF⟩ := ck_some hF
  refine v_ixa (j := (Int.toNat (0 : Int))) (Int.toNat_of_nonneg q1.1).symm (by omega) ?_
  obtain ⟨q2, hF⟩ := ck_some hF
  refine v_ixa (j := (Int.toNat a1)) (Int.toNat_of_nonneg q2.1).symm (by omega) ?_
  refine v_ld1 (o := ((5 + (Int.toNat (0 : Int)) * 13) + (Int.toNat a1) * 1)) (st.sub _ _ hba0) (ar_get (p := 5) (ix := (((Int.toNat (0 : Int)) * 13) + (Int.toNat a1))) [(i64 a0p0), (i64 a0p1), (i64 a0p2), (i64 a0p3), (i64 a0p4)] rfl (by omega) (by omega)) ?_
  refine v_move ?_; refine r_nil (th_n ?_); refine w_ret ?_; obtain rfl := inj hF
  exact end_s st (Res.t gA Res.nil) rfl rfl
theorem ct144 (N : Nat) {a0_0 a0_1 a1 : Int} {r : Bool} (hF : sf144 N a0_0 a0_1 a1 = some r) (hd : D h0 n0) (hs : F0.sub h0) : C LW fl 144 [(.agg [(i64 a0_0), (i64 a0_1)]), (i64 a1)] ⟨h0, n0⟩ (KS (.bool r) n0 h0) := by
  unfold sf144 at hF
  refine in_cT hd hs lw144 rfl rfl (by rfl) (fun st T hT => ?_)
  have hfl : n0 ≤ n0 := Nat.le_refl n0
  have t0 := hT 0 _ rfl
  have t1 := hT 1 _ rfl
  dsimp only [L144]
  refine w_seq (w_reg ?_); refine v_box st (fun b1 h2 n3 st => ?_); refine v_move ?_; refine r_nil (th_n ?_); refine w_seq (w_reg ?_); refine v_fa ?_; refine v_ld1 (st.at (i := 0) rfl).2.2 rfl ?_; refine v_move ?_; refine v_leq ?_; refine v_move ?_
  rcases Bool.eq_false_or_eq_true (decide (a0_0 ≤ a1)) with hb4 | hb4
  · have hF := bif_t hb4 hF; refine g_take hb4 (v_move ?_); refine g_take hb4 (v_fa ?_); refine g_take hb4 (v_ld1 (st.at (i := 0) rfl).2.2 rfl ?_); refine g_take hb4 (v_leq ?_); refine v_pick hb4 ?_; refine v_move ?_; refine r_nil (th_n ?_); refine w_ret ?_; obtain rfl := inj hF
    exact end_s st (Res.t gA Res.nil) rfl rfl
  · have hF := bif_f hb4 hF; refine g_skip hb4 ?_; refine g_skip hb4 ?_; refine g_skip hb4 ?_; refine g_skip hb4 ?_; refine v_pick' hb4 ?_; refine v_move ?_; refine r_nil (th_n ?_); refine w_ret ?_; obtain rfl := inj hF
    exact end_s st (Res.t gA Res.nil) rfl rfl
theorem ct158 (N : Nat) {a0_0 a0_1 a1_0 a1_1 : Int} {r : Bool} (hF : sf158 N a0_0 a0_1 a1_0 a1_1 = some r) (hd : D h0 n0) (hs : F0.sub h0) : C LW fl 158 [(.agg [(i64 a0_0), (i64 a0_1)]), (.agg [(i64 a1_0), (i64 a1_1)])] ⟨h0, n0⟩ (KS (.bool r) n0 h0) := by
  unfold sf158 at hF
  refine in_cT hd hs lw158 rfl rfl (by rfl) (fun st T hT => ?_)
  have hfl : n0 ≤ n0 := Nat.le_refl n0
  have t0 := hT 0 _ rfl
  have t1 := hT 1 _ rfl
  dsimp only [L158]
  refine w_seq (w_reg ?_); refine v_box st (fun b1 h2 n3 st => ?_); refine v_box st (fun b4 h5 n6 st => ?_); refine v_move ?_; refine r_nil (th_n ?_); refine w_seq (w_reg ?_); refine v_fa ?_; refine v_ld1 (st.at (i := 0) rfl).2.2 rfl ?_; refine v_fa ?_; refine v_ld1 (st.at (i := 1) rfl).2.2 rfl ?_; refine v_lss ?_; refine v_move ?_
  rcases Bool.eq_false_or_eq_true (decide (a0_0 < a1_0)) with hb7 | hb7
  · have hF := bif_t hb7 hF; refine g_take hb7 (v_fa ?_); refine g_take hb7 (v_ld1 (st.at (i := 0) rfl).2.2 rfl ?_); refine g_take hb7 (v_fa ?_); refine g_take hb7 (v_ld1 (st.at (i := 1) rfl).2.2 rfl ?_); refine g_take hb7 (v_lss ?_); refine v_pick hb7 ?_; refine v_move ?_; refine r_nil (th_n ?_); refine w_ret ?_; obtain rfl := inj hF
    exact end_s st (Res.t gA Res.nil) rfl rfl
  · have hF := bif_f hb7 hF; refine g_skip hb7 ?_; refine g_skip hb7 ?_; refine g_skip hb7 ?_; refine g_skip hb7 ?_; refine g_skip hb7 ?_; refine v_pick' hb7 ?_; refine v_move ?_; refine r_nil (th_n ?_); refine w_ret ?_; obtain rfl := inj hF
    exact end_s st (Res.t gA Res.nil) rfl rfl
theorem ct140 (N : Nat) {a0 : (List (Int × Int))} {r : (Int × Int)} (hF : sf140 N a0 = some r) (hd : D h0 n0) (hs : F0.sub h0) {pa0 : Option (Nat × Nat)} {ca0 : Nat} (ra0 : RowF (rP rI rI) 2 F0 pa0 ca0 a0) : C LW fl 140 [(.slice pa0 (a0).length ca0)] ⟨h0, n0⟩ (KS (.agg [(i64 r.1), (i64 r.2)]) n0 h0) := by
  unfold sf140 at hF
  refine in_cT hd hs lw140 rfl rfl (by rfl) (fun st T hT => ?_)
  have hfl : n0 ≤ n0 := Nat.le_refl n0
  have t0 := hT 0 _ rfl
  dsimp only [L140]
  refine w_seq (w_reg ?_); refine v_alloc st (fun b1 h2 n3 st => ?_); refine r_nil (th_n ?_); refine w_seq ?_; refine w_drawV (Nat.le_trans hfl st.ext.le) (fun dw => ?_); refine y_pure st.d dw (fun hm vw => v_move pr_nil) ?_; obtain ⟨n4, x4, z4, l4, g4, hF⟩ := ix_some hF; obtain ⟨b4, o4, s4, j4, r4, e4, f4, k4, ⟨_, _, rfl, rfl, rfl⟩⟩ := RowF.get ra0 g4; refine y_pure st.d dw (fun hm vw => v_ixp e4 z4 l4 pr_nil) ?_; refine y_pure st.d dw (fun hm vw => v_fa pr_nil) ?_; refine y_pure st.d dw (fun hm vw => v_ld1 (vw.fz st f4) (take_at (j := 0) k4 rfl) pr_nil) ?_; refine y_pure st.d dw (fun hm vw => v_move pr_nil) ?_; refine y_pure st.d dw (fun hm vw => v_move pr_nil) ?_; refine y_pure st.d dw (fun hm vw => v_len pr_nil) ?_
  obtain ⟨q5, hF⟩ := ck_some hF; refine y_pure st.d dw (fun hm vw => v_sub q5 pr_nil) ?_; obtain ⟨n6, x6, z6, l6, g6, hF⟩ := ix_some hF; obtain ⟨b6, o6, s6, j6, r6, e6, f6, k6, ⟨_, _, rfl, rfl, rfl⟩⟩ := RowF.get ra0 g6; refine y_pure st.d dw (fun hm vw => v_ixp e6 z6 l6 pr_nil) ?_; refine y_pure st.d dw (fun hm vw => v_fa pr_nil) ?_; refine y_pure st.d dw (fun hm vw => v_ld1 (vw.fz st f6) (take_at (j := 0) k6 rfl) pr_nil) ?_; refine y_end st.d dw rfl (fun h7 ex vs => ?_)
  have st := st.ext1 ex
  refine v_build (cs := [(i64 x4.1), (i64 x6.1)]) rfl ?_; refine v_st (cs' := [(i64 x4.1), (i64 x6.1)]) st 0 rfl rfl rfl rfl hfl (fun h8 st => ?_); refine r_nil (th_n ?_); refine w_ret ?_; obtain rfl := inj hF
  exact end_s st (Res.c gA (st.at (i := 0) rfl).2.2 (show takeN _ _ = some [(i64 x4.1), (i64 x6.1)] from rfl) Res.nil) rfl rfl
end Go.Hx.V

namespace Go.Hx.V
open Go.Hx
set_option maxRecDepth 20000
set_option maxHeartbeats 4000000
variable {fl : Nat} {h0 : Tr HBlk} {n0 : Nat} {F0 : PH}
attribute [local irreducible] W R C thenH inBlockH Tr.get Tr.set lo ck bnd ix iter
theorem ct160 (N : Nat) {a0_0 a0_1 r : Int} (hF : sf160 N a0_0 a0_1 = some r) (hd : D h0 n0) (hs : F0.sub h0) : C LW fl 160 [(.agg [(i64 a0_0), (i64 a0_1)])] ⟨h0, n0⟩ (KS (i64 r) n0 h0) := by
  unfold sf160 at hF
  refine in_cT hd hs lw160 rfl rfl (by rfl) (fun st T hT => ?_)
  have hfl : n0 ≤ n0 := Nat.le_refl n0
  have t0 := hT 0 _ rfl
  dsimp only [L160]
  refine w_seq (w_reg ?_); refine v_box st (fun b1 h2 n3 st => ?_); refine v_move ?_; refine r_nil (th_n ?_); refine w_seq (w_reg ?_); refine v_fa ?_; refine v_ld1 (st.at (i := 0) rfl).2.2 rfl ?_; refine v_fa ?_; refine v_ld1 (st.at (i := 0) rfl).2.2 rfl ?_; obtain ⟨q4, hF⟩ := ck_some hF; refine v_quo q4 ?_; refine v_move ?_; refine r_nil (th_n ?_); refine w_seq ?_; refine w_seq (w_reg ?_); refine v_fa ?_; refine v_ld1 (st.at (i := 0) rfl).2.2 rfl ?_; refine v_fa ?_; refine v_ld1 (st.at (i := 0) rfl).2.2 rfl ?_; obtain ⟨q5, hF⟩ := ck_some hF; refine v_rem q5 ?_; refine v_lss ?_; refine r_nil (th_n ?_); refine v_cond (fun hb6 => ?_) (fun hb6 => ?_)
  · have hF := bif_t hb6 hF; refine w_reg ?_; refine v_move ?_; obtain ⟨q7, hF⟩ := ck_some hF; refine v_sub q7 ?_; refine v_move ?_; refine r_nil (th_n ?_); refine w_seq (w_reg ?_); refine v_move ?_; refine v_move ?_; refine r_nil (th_n ?_); refine w_ret ?_; obtain rfl := inj hF
    exact end_s st (Res.t gA Res.nil) rfl rfl
  · have hF := bif_f hb6 hF; refine w_skip (th_n ?_); refine w_seq (w_reg ?_); refine v_move ?_; refine v_move ?_; refine r_nil (th_n ?_); refine w_ret ?_; obtain rfl := inj hF
    exact end_s st (Res.t gA Res.nil) rfl rfl
theorem ct103 (N : Nat) {a0 : Int} {r : (Int × Int)} (hF : sf103 N a0 = some r) (hd : D h0 n0) (hs : F0.sub h0) : C LW fl 103 [(i64 a0)] ⟨h0, n0⟩ (KS (.agg [(i64 r.1), (i64 r.2)]) n0 h0) := by
  unfold sf103 at hF
  refine in_cT hd hs lw103 rfl rfl (by rfl) (fun st T hT => ?_)
  have hfl : n0 ≤ n0 := Nat.le_refl n0
  have t0 := hT 0 _ rfl
  dsimp only [L103]
  refine w_seq (w_reg ?_); refine v_alloc st (fun b1 h2 n3 st => ?_); refine r_nil (th_n ?_); refine w_seq (w_reg ?_); refine v_move ?_; refine v_build (cs := [(i64 (0 : Int)), (i64 a0)]) rfl ?_; refine v_st (cs' := [(i64 (0 : Int)), (i64 a0)]) st 0 rfl rfl rfl rfl hfl (fun h4 st => ?_); refine r_nil (th_n ?_); refine w_ret ?_; obtain rfl := inj hF
  exact end_s st (Res.c gA (st.at (i := 0) rfl).2.2 (show takeN _ _ = some [(i64 (0 : Int)), (i64 a0)] from rfl) Res.nil) rfl rfl
theorem ct110 (N : Nat) {a0_0 a0_1 a1 : Int} {r : Bool} (hF : sf110 N a0_0 a0_1 a1 = some r) (hd : D h0 n0) (hs : F0.sub h0) : C LW fl 110 [(.agg [(i64 a0_0), (i64 a0_1)]), (i64 a1)] ⟨h0, n0⟩ (KS (.bool r) n0 h0) := by
  unfold sf110 at hF
  refine in_cT hd hs lw110 rfl rfl (by rfl) (fun st T hT => ?_)
  have hfl : n0 ≤ n0 := Nat.le_refl n0
  have t0 := hT 0 _ rfl
  have t1 := hT 1 _ rfl
  dsimp only [L110]
  refine w_seq (w_reg ?_); refine v_box st (fun b1 h2 n3 st => ?_); refine v_move ?_; refine r_nil (th_n ?_); refine w_seq (w_reg ?_); refine v_fa ?_; refine v_ld1 (st.at (i := 0) rfl).2.2 rfl ?_; refine v_move ?_; refine v_leq ?_; refine v_move ?_
  rcases Bool.eq_false_or_eq_true (decide (a0_0 ≤ a1)) with hb4 | hb4
  · have hF := bif_t hb4 hF; refine g_take hb4 (v_move ?_); refine g_take hb4 (v_fa ?_); refine g_take hb4 (v_ld1 (st.at (i := 0) rfl).2.2 rfl ?_); refine g_take hb4 (v_leq ?_); refine v_pick hb4 ?_; refine v_move ?_; refine r_nil (th_n ?_); refine w_ret ?_; obtain rfl := inj hF
    exact end_s st (Res.t gA Res.nil) rfl rfl
  · have hF := bif_f hb4 hF; refine g_skip hb4 ?_; refine g_skip hb4 ?_; refine g_skip hb4 ?_; refine g_skip hb4 ?_; refine v_pick' hb4 ?_; refine v_move ?_; refine r_nil (th_n ?_); refine w_ret ?_; obtain rfl := inj hF
    exact end_s st (Res.t gA Res.nil) rfl rfl
theorem ct161 (N : Nat) {r : Unit} (hF : sf161 N = some r) (hd : D h0 n0) (hs : F0.sub h0) : C LW fl 161 [] ⟨h0, n0⟩ (KS (.agg [(.func 107 [] []), (.func 172 [] [])]) n0 h0) := by
  unfold sf161 at hF
  refine in_cT hd hs lw161 rfl rfl (by rfl) (fun st T hT => ?_)
  have hfl : n0 ≤ n0 := Nat.le_refl n0
  dsimp only [L161]
  refine w_seq (w_reg ?_); refine v_alloc st (fun b1 h2 n3 st => ?_); refine r_nil (th_n ?_); refine w_seq (w_reg ?_); refine v_build (cs := [(.func 107 [] []), (.func 172 [] [])]) rfl ?_; refine v_st (cs' := [(.func 107 [] []), (.func 172 [] [])]) st 0 rfl rfl rfl rfl hfl (fun h4 st => ?_); refine r_nil (th_n ?_); refine w_ret ?_; obtain rfl := inj hF
  exact end_s st (Res.c gA (st.at (i := 0) rfl).2.2 (show takeN _ _ = some [(.func 107 [] []), (.func 172 [] [])] from rfl) Res.nil) rfl rfl
theorem ct107 (N : Nat) {a0_0 a0_1 r : Int} (hF : sf107 N a0_0 a0_1 = some r) (hd : D h0 n0) (hs : F0.sub h0) : C LW fl 107 [(.agg [(i64 a0_0), (i64 a0_1)])] ⟨h0, n0⟩ (KS (i64 r) n0 h0) := by
  unfold sf107 at hF
  refine in_cT hd hs lw107 rfl rfl (by rfl) (fun st T hT => ?_)
  have hfl : n0 ≤ n0 := Nat.le_refl n0
  have t0 := hT 0 _ rfl
  dsimp only [L107]
  refine w_seq (w_reg ?_); refine v_box st (fun b1 h2 n3 st => ?_); refine v_move ?_; refine r_nil (th_n ?_); refine w_seq (w_reg ?_); refine v_fa ?_; refine v_ld1 (st.at (i := 0) rfl).2.2 rfl ?_; refine v_fa ?_; refine v_ld1 (st.at (i := 0) rfl).2.2 rfl ?_; obtain ⟨q4, hF⟩ := ck_some hF; refine v_quo q4 ?_; refine v_move ?_; refine r_nil (th_n ?_); refine w_ret ?_; obtain rfl := inj hF
  exact end_s st (Res.t gA Res.nil) rfl rfl
theorem ct172 (N : Nat) {a0_0 a0_1 r : Int} (hF : sf172 N a0_0 a0_1 = some r) (hd : D h0 n0) (hs : F0.sub h0) : C LW fl 172 [(.agg [(i64 a0_0), (i64 a0_1)])] ⟨h0, n0⟩ (KS (i64 r) n0 h0) := by
  unfold sf172 at hF
  refine in_cT hd hs lw172 rfl rfl (by rfl) (fun st T hT => ?_)
  have hfl : n0 ≤ n0 := Nat.le_refl n0
  have t0 := hT 0 _ rfl
  dsimp only [L172]
  refine w_seq (w_reg ?_); refine v_box st (fun b1 h2 n3 st => ?_); refine v_move ?_; refine r_nil (th_n ?_); refine w_seq (w_reg ?_); refine v_fa ?_; refine v_ld1 (st.at (i := 0) rfl).2.2 rfl ?_; refine v_fa ?_; refine v_ld1 (st.at (i := 0) rfl).2.2 rfl ?_; obtain ⟨q4, hF⟩ := ck_some hF; refine v_add q4 ?_; obtain ⟨q5, hF⟩ := ck_some hF; refine v_sub q5 ?_; refine v_fa ?_; refine v_ld1 (st.at (i := 0) rfl).2.2 rfl ?_; obtain ⟨q6, hF⟩ := ck_some hF; refine v_quo q6 ?_; refine v_move ?_; refine r_nil (th_n ?_); refine w_ret ?_; obtain rfl := inj hF
  exact end_s st (Res.t gA Res.nil) rfl rfl
theorem ct98 (N : Nat) {a0 a1 a2 : Int} {r : Bool} (hF : sf98 N a0 a1 a2 = some r) (hd : D h0 n0) (hs : F0.sub h0) : C LW fl 98 [(i64 a0), (i64 a1), (i64 a2)] ⟨h0, n0⟩ (KS (.bool r) n0 h0) := by
  unfold sf98 at hF
  refine in_cT hd hs lw98 rfl rfl (by rfl) (fun st T hT => ?_)
  have hfl : n0 ≤ n0 := Nat.le_refl n0
  have t0 := hT 0 _ rfl
  have t1 := hT 1 _ rfl
  have t2 := hT 2 _ rfl
  dsimp only [L98]
  refine w_seq (w_reg ?_); refine v_move ?_; refine r_nil (th_n ?_); refine w_seq (w_reg ?_); refine v_move ?_; refine v_move ?_; refine v_geq ?_; refine v_move ?_
  rcases Bool.eq_false_or_eq_true (decide (a1 ≤ a0)) with hb1 | hb1
  · have hF := bif_t hb1 hF; refine g_take hb1 (v_move ?_); refine g_take hb1 (v_move ?_); refine g_take hb1 (v_leq ?_); refine v_pick hb1 ?_; refine v_move ?_; refine r_nil (th_n ?_); refine w_ret ?_; obtain rfl := inj hF
    exact end_s st (Res.t gA Res.nil) rfl rfl
  · have hF := bif_f hb1 hF; refine g_skip hb1 ?_; refine g_skip hb1 ?_; refine g_skip hb1 ?_; refine v_pick' hb1 ?_; refine v_move ?_; refine r_nil (th_n ?_); refine w_ret ?_; obtain rfl := inj hF
    exact end_s st (Res.t gA Res.nil) rfl rfl
theorem ct25 (N : Nat) {a0 a1 a2 : Int} {r : Bool} (hF : sf25 N a0 a1 a2 = some r) (hd : D h0 n0) (hs : F0.sub h0) : C LW fl 25 [(i64 a0), (i64 a1), (i64 a2)] ⟨h0, n0⟩ (KS (.bool r) n0 h0) := by
  unfold sf25 at hF
  refine in_cT hd hs lw25 rfl rfl (by rfl) (fun st T hT => ?_)
  have hfl : n0 ≤ n0 := Nat.le_refl n0
  have t0 := hT 0 _ rfl
  have t1 := hT 1 _ rfl
  have t2 := hT 2 _ rfl
  dsimp only [L25]
  refine w_seq (w_reg ?_); refine v_move ?_; refine r_nil (th_n ?_); refine w_seq (w_reg ?_); refine v_move ?_; refine v_move ?_; refine v_geq ?_; refine v_move ?_
  rcases Bool.eq_false_or_eq_true (decide (a1 ≤ a0)) with hb1 | hb1
  · have hF := bif_t hb1 hF; refine g_take hb1 (v_move ?_); refine g_take hb1 (v_move ?_); refine g_take hb1 (v_leq ?_); refine v_pick hb1 ?_; refine v_move ?_; refine r_nil (th_n ?_); refine w_ret ?_; obtain rfl := inj hF
    exact end_s st (Res.t gA Res.nil) rfl rfl
  · have hF := bif_f hb1 hF; refine g_skip hb1 ?_; refine g_skip hb1 ?_; refine g_skip hb1 ?_; refine v_pick' hb1 ?_; refine v_move ?_; refine r_nil (th_n ?_); refine w_ret ?_; obtain rfl := inj hF
    exact end_s st (Res.t gA Res.nil) rfl rfl
end Go.Hx.V

namespace Go.Hx.V
open Go.Hx
set_option maxRecDepth 20000
set_option maxHeartbeats 4000000
variable {fl : Nat} {h0 : Tr HBlk} {n0 : Nat} {F0 : PH}
attribute [local irreducible] W R C thenH inBlockH Tr.get Tr.set lo ck bnd ix iter
theorem ct133 (N : Nat) {a0 : (List Int)} {a1 r : Int} (hF : sf133 N a0 a1 = some r) (hd : D h0 n0) (hs : F0.sub h0) {pa0 : Option (Nat × Nat)} {ca0 : Nat} (ra0 : RowF (rK .u16) 1 F0 pa0 ca0 a0) : C LW fl 133 [(.slice pa0 (a0).length ca0), (i64 a1)] ⟨h0, n0⟩ (KS (i64 r) n0 h0) := by
  unfold sf133 at hF
  refine in_cT hd hs lw133 rfl rfl (by rfl) (fun st T hT => ?_)
  have hfl : n0 ≤ n0 := Nat.le_refl n0
  have t0 := hT 0 _ rfl
  have t1 := hT 1 _ rfl
  dsimp only [L133]
  refine w_seq (w_reg ?_); refine v_move ?_; refine r_nil (th_n ?_); refine w_seq ?_; refine w_seq (w_reg ?_); refine v_move ?_; refine v_len ?_; refine v_eqi ?_; refine r_nil (th_n ?_); refine v_cond (fun hb1 => ?_) (fun hb1 => ?_)
  · have hF := bif_t hb1 hF; refine w_seq (w_reg ?_); refine v_move ?_; refine r_nil (th_n ?_); refine w_ret ?_; refine th_r ?_; obtain rfl := inj hF
    exact end_s st (Res.t gA Res.nil) rfl rfl
  · have hF := bif_f hb1 hF; refine w_skip (th_n ?_); refine w_seq (w_reg ?_); refine v_move ?_; refine v_move ?_; refine v_move ?_; refine v_len ?_; obtain ⟨q2, hF⟩ := ck_some hF; refine v_rem q2 ?_; obtain ⟨n3, x3, z3, l3, g3, hF⟩ := ix_some hF; obtain ⟨b3, o3, s3, j3, r3, e3, f3, k3, rfl⟩ := RowF.get ra0 g3; refine v_ixp e3 z3 l3 ?_; refine v_ld1 (st.sub _ _ f3) (take_at (j := 0) k3 rfl) ?_; obtain ⟨q4, hF⟩ := ck_some hF; refine v_conv q4 ?_; refine v_move ?_; refine r_nil (th_n ?_); refine w_ret ?_; obtain rfl := inj hF
    exact end_s st (Res.t gA Res.nil) rfl rfl
theorem ct56 (N : Nat) {a0 : (List Int)} {a1 r : Int} (hF : sf56 N a0 a1 = some r) (hd : D h0 n0) (hs : F0.sub h0) {pa0 : Option (Nat × Nat)} {ca0 : Nat} (ra0 : RowF rI 1 F0 pa0 ca0 a0) : C LW fl 56 [(.slice pa0 (a0).length ca0), (i64 a1)] ⟨h0, n0⟩ (KS (i64 r) n0 h0) := by
  unfold sf56 at hF
  refine in_cT hd hs lw56 rfl rfl (by rfl) (fun st T hT => ?_)
  have hfl : n0 ≤ n0 := Nat.le_refl n0
  have t0 := hT 0 _ rfl
  have t1 := hT 1 _ rfl
  dsimp only [L56]
  refine w_seq (w_reg ?_); refine v_move ?_; refine r_nil (th_n ?_); refine w_seq (w_reg ?_); refine v_move ?_; refine r_nil (th_n ?_); refine w_seq ?_; refine w_seq (w_reg ?_); refine v_move ?_; refine r_nil (th_n ?_); refine w_block ?_; obtain ⟨y7, hy, hF⟩ := bnd_some hF; refine v_loopD (sf56_L1 a0 a1) (fun x1 T ds2 h nx => ∃ (F2 : PH), ds2 = [] ∧ PH.le F0 F2 ∧ St n0 h0 F0 F2 h nx [] ∧ T.get 0 = some (.slice pa0 (a0).length ca0) ∧ T.get 1 = some (i64 a1) ∧ T.get 5 = some (i64 x1.1) ∧ T.get 6 = some (i64 x1.2)) (fun y e a σ => e = .exit 0 ∧ a.nt = 19 ∧ ∃ (F8 : PH), a.defers = [] ∧ PH.le F0 F8 ∧ St n0 h0 F0 F8 σ.h σ.nx [] ∧ a.tmps.get 5 = some (i64 y)) (fun x1 T ds2 h nx s hp hF => ?_) N _ y7 _ _ _ _ hy ⟨F0, rfl, (PH.le.refl _), st, gA, gA, gA, gA⟩ (fun e a σ hne hq => ?_)
  · obtain ⟨F2, rfl, le2, st, t0, t1, t5, t6⟩ := hp; unfold sf56_L1 at hF; unfold L56w0; refine w_seq ?_; refine w_seq (w_reg ?_); refine v_move ?_; refine v_move ?_; refine v_lss ?_; refine r_nil (th_n ?_); refine v_cond (fun hb9 => ?_) (fun hb9 => ?_)
    · have hF := bif_t hb9 hF; refine w_skip (th_n ?_); refine w_seq ?_; refine w_block ?_; refine w_reg ?_; refine v_move ?_; refine v_move ?_; refine v_move ?_; obtain ⟨n10, x10, z10, l10, g10, hF⟩ := ix_some hF; obtain ⟨b10, o10, s10, j10, r10, e10, f10, k10, rfl⟩ := RowF.get ra0 g10; refine v_ixp e10 z10 l10 ?_; refine v_ld1 (st.sub _ _ (le2 _ _ f10)) (take_at (j := 0) k10 rfl) ?_; obtain ⟨q11, hF⟩ := ck_some hF; refine v_add q11 ?_; refine v_move ?_; refine r_nil ?_; refine ib_n ?_; refine th_n ?_; refine w_reg ?_; refine v_move ?_; obtain ⟨q12, hF⟩ := ck_some hF; refine v_add q12 ?_; refine v_move ?_; refine r_nil ?_; refine thn ⟨_, (inj hF).symm, rfl, ?_⟩; dsimp only
      exact ⟨F2, rfl, le2, st, gA, gA, gA, gA⟩
    · have hF := bif_f hb9 hF; refine w_exit ?_; refine th_e ?_; refine th_e ?_; refine ⟨_, (inj hF).symm, rfl, rfl, ?_⟩; dsimp only
      exact ⟨F2, rfl, le2, st, gA⟩
  · obtain ⟨N9, T, ds8⟩ := a; obtain ⟨h13, n14⟩ := σ; obtain ⟨rfl, e1, F8, e2, le8, st, t5⟩ := hq
    dsimp only at e1 e2
    subst e1
    subst e2
    dsimp only at st t5
    refine ib_e ?_; refine th_n ?_; refine w_seq (w_reg ?_); refine v_move ?_; refine v_move ?_; refine r_nil (th_n ?_); refine w_ret ?_; obtain rfl := inj hF
    exact end_s st (Res.t gA Res.nil) rfl rfl
theorem ct50 (N : Nat) {a0 a1 : Int} {r : (Int × Int)} (hF : sf50 N a0 a1 = some r) (hd : D h0 n0) (hs : F0.sub h0) : C LW fl 50 [(i64 a0), (i64 a1)] ⟨h0, n0⟩ (KS (.agg [(i64 r.1), (i64 r.2)]) n0 h0) := by
  unfold sf50 at hF
  refine in_cT hd hs lw50 rfl rfl (by rfl) (fun st T hT => ?_)
  have hfl : n0 ≤ n0 := Nat.le_refl n0
  have t0 := hT 0 _ rfl
  have t1 := hT 1 _ rfl
  dsimp only [L50]
  refine w_seq (w_reg ?_); refine v_alloc st (fun b1 h2 n3 st => ?_); refine r_nil (th_n ?_); refine w_seq (w_reg ?_); refine v_move ?_; refine v_move ?_; refine v_build (cs := [(i64 a0), (i64 a1)]) rfl ?_; refine v_st (cs' := [(i64 a0), (i64 a1)]) st 0 rfl rfl rfl rfl hfl (fun h4 st => ?_); refine r_nil (th_n ?_); refine w_ret ?_; obtain rfl := inj hF
  exact end_s st (Res.c gA (st.at (i := 0) rfl).2.2 (show takeN _ _ = some [(i64 a0), (i64 a1)] from rfl) Res.nil) rfl rfl
end Go.Hx.V

