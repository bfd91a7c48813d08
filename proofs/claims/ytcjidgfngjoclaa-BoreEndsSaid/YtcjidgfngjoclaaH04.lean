/- The functions of the program, as the plain machine runs them. -/
import Derived.Test.YtcjidgfngjoclaaH00
import Derived.Test.YtcjidgfngjoclaaProg
import Derived.ProofKit
set_option linter.all false
/- The functions of the program, as the plain machine runs them. -/
namespace Go.Hx
set_option maxRecDepth 100000
abbrev o (d : Nat) (p : LOp) : LOper := ⟨some d, p, none, []⟩
abbrev oa (d : Nat) (p : LOp) (a : List Nat) : LOper := ⟨some d, p, none, a⟩
abbrev og (d : Nat) (p : LOp) (t : Nat) (b : Bool) : LOper := ⟨some d, p, some (t, b), []⟩
abbrev oga (d : Nat) (p : LOp) (t : Nat) (b : Bool) (a : List Nat) : LOper := ⟨some d, p, some (t, b), a⟩
abbrev on (p : LOp) : LOper := ⟨none, p, none, []⟩
abbrev ona (p : LOp) (a : List Nat) : LOper := ⟨none, p, none, a⟩
noncomputable def Zr (n : Nat) : List HV := List.replicate n (.int .i64 0)
noncomputable abbrev LP : Nat → Option LFunc := lowP Go.Proofs.Try.prog [23, 24, 29, 30, 32, 36, 39, 41, 43, 44, 46, 50, 53, 54, 59, 60, 67, 73, 76, 78, 80, 82, 92, 95, 99, 100, 101, 102, 104]
noncomputable def L4s0 : LCode := (.cond (.t 18) (.seq (.reg [(o 19 (.call (.c (.func 19 [] [])) [])), (o 4 (.move (.t 19)))]) .ret) .skip)
noncomputable def L4r0 : List LOper := [(o 20 (.move (.t 25))), (o 26 (.extract (.t 20) 0)), (o 27 (.extract (.t 20) 1)), (o 5 (.move (.t 26))), (o 6 (.move (.t 27)))]
noncomputable def L4r1 : List LOper := [(o 28 (.move (.t 33))), (o 34 (.extract (.t 28) 0)), (o 35 (.extract (.t 28) 1)), (o 7 (.move (.t 34))), (o 8 (.move (.t 35)))]
noncomputable def L4r2 : List LOper := [(o 36 (.move (.t 41))), (o 42 (.extract (.t 36) 0)), (o 43 (.extract (.t 36) 1)), (o 9 (.move (.t 42))), (o 10 (.move (.t 43)))]
noncomputable def L4r3 : List LOper := [(o 49 (.extract (.t 44) 1)), (o 11 (.move (.t 48))), (o 12 (.move (.t 49)))]
noncomputable def L4r4 : List LOper := [(o 77 (.move (.t 76))), (og 78 (.call (.c (.func 19 [] [])) []) 77 .true), (o 79 (.pick (.t 77) (.t 78) (.c (.bool .false)))), (o 4 (.move (.t 79)))]
noncomputable def L4r5 : List LOper := ((o 72 (.pick (.t 65) (.t 71) (.c (.bool .false)))) :: (o 73 (.move (.t 72))) :: (og 74 (.move (.t 9)) 73 .true) :: (og 75 (.eq (.cell (.i .i64)) .false (.t 74) (.c (.int .i64 0))) 73 .true) :: (o 76 (.pick (.t 73) (.t 75) (.c (.bool .false)))) :: L4r4)
noncomputable def L4r6 : List LOper := ((og 67 (.len .slice (.t 66)) 65 .true) :: (og 68 (.move (.t 7)) 65 .true) :: (og 69 (.len .slice (.t 68)) 65 .true) :: (og 70 (.bin .add (.t 67) (.t 69)) 65 .true) :: (og 71 (.eq (.cell (.i .i64)) .false (.t 70) (.c (.int .i64 0))) 65 .true) :: L4r5)
noncomputable def L4r7 : List LOper := ((og 62 (.move (.t 12)) 60 .true) :: (og 63 (.eq (.cell (.i .i64)) .false (.t 61) (.t 62)) 60 .true) :: (o 64 (.pick (.t 60) (.t 63) (.c (.bool .false)))) :: (o 65 (.move (.t 64))) :: (og 66 (.move (.t 5)) 65 .true) :: L4r6)
noncomputable def L4r8 : List LOper := ((og 57 (.move (.t 12)) 55 .true) :: (og 58 (.eq (.cell (.i .i64)) .false (.t 56) (.t 57)) 55 .true) :: (o 59 (.pick (.t 55) (.t 58) (.c (.bool .false)))) :: (o 60 (.move (.t 59))) :: (og 61 (.move (.t 10)) 60 .true) :: L4r7)
noncomputable def L4s1 : LCode := (.cond (.t 51) (.seq (.reg ((o 52 (.move (.t 6))) :: (o 53 (.move (.t 12))) :: (o 54 (.eq (.cell (.i .i64)) .false (.t 52) (.t 53))) :: (o 55 (.move (.t 54))) :: (og 56 (.move (.t 8)) 55 .true) :: L4r8)) .ret) .skip)
noncomputable def L4r9 : List LOper := [(og 110 (.call (.c (.func 33 [] [])) [(.t 108), (.t 109)]) 106 .false), (og 111 (.eq (.cell (.i .i64)) .true (.t 107) (.t 110)) 106 .false), (o 112 (.pick (.t 106) (.c (.bool .true)) (.t 111)))]
noncomputable def L4r10 : List LOper := ((o 105 (.pick (.t 98) (.c (.bool .true)) (.t 104))) :: (o 106 (.move (.t 105))) :: (og 107 (.move (.t 9)) 106 .false) :: (og 108 (.load .true 4 (.t 2)) 106 .false) :: (og 109 (.move (.t 11)) 106 .false) :: L4r9)
noncomputable def L4r11 : List LOper := ((og 100 (.len .slice (.t 99)) 98 .false) :: (og 101 (.fieldAddr 0 (.t 2)) 98 .false) :: (og 102 (.load .false 1 (.t 101)) 98 .false) :: (og 103 (.bin .add (.t 102) (.c (.int .i64 1))) 98 .false) :: (og 104 (.eq (.cell (.i .i64)) .true (.t 100) (.t 103)) 98 .false) :: L4r10)
noncomputable def L4r12 : List LOper := ((og 95 (.bin .add (.t 94) (.c (.int .i64 1))) 90 .false) :: (og 96 (.eq (.cell (.i .i64)) .true (.t 92) (.t 95)) 90 .false) :: (o 97 (.pick (.t 90) (.c (.bool .true)) (.t 96))) :: (o 98 (.move (.t 97))) :: (og 99 (.move (.t 7)) 98 .false) :: L4r11)
noncomputable def L4r13 : List LOper := ((o 90 (.move (.t 89))) :: (og 91 (.move (.t 5)) 90 .false) :: (og 92 (.len .slice (.t 91)) 90 .false) :: (og 93 (.fieldAddr 0 (.t 2)) 90 .false) :: (og 94 (.load .false 1 (.t 93)) 90 .false) :: L4r12)
noncomputable def L4r14 : List LOper := ((o 85 (.pick (.t 82) (.c (.bool .true)) (.t 84))) :: (o 86 (.move (.t 85))) :: (og 87 (.move (.t 10)) 86 .false) :: (og 88 (.eq (.cell (.i .i64)) .true (.t 87) (.c (.int .i64 0))) 86 .false) :: (o 89 (.pick (.t 86) (.c (.bool .true)) (.t 88))) :: L4r13)
noncomputable def L4s2 : LCode := (.cond (.t 112) (.seq (.reg [(o 4 (.move (.c (.bool .false))))]) .ret) .skip)
noncomputable def L4r15 : List LOper := [(oga 157 (.bin .mul (.t 154) (.t 156)) 146 .false [5]), (oga 158 (.fieldAddr 1 (.t 2)) 146 .false [5]), (oga 159 (.load .false 1 (.t 158)) 146 .false [5]), (oga 160 (.bin .quo (.t 157) (.t 159)) 146 .false [5]), (oga 161 (.eq (.cell (.i .i64)) .true (.t 151) (.t 160)) 146 .false [5]), (oa 162 (.pick (.t 146) (.c (.bool .true)) (.t 161)) [5])]
noncomputable def L4r16 : List LOper := ((oga 152 (.fieldAddr 0 (.t 2)) 146 .false [5]) :: (oga 153 (.load .false 1 (.t 152)) 146 .false [5]) :: (oga 154 (.bin .mul (.c (.int .i64 1000)) (.t 153)) 146 .false [5]) :: (oga 155 (.fieldAddr 1 (.t 14)) 146 .false [5]) :: (oga 156 (.load .false 1 (.t 155)) 146 .false [5]) :: L4r15)
noncomputable def L4r17 : List LOper := ((oga 147 (.move (.t 7)) 146 .false [5]) :: (oga 148 (.move (.t 13)) 146 .false [5]) :: (oga 149 (.indexAddrS 2 (.t 147) (.t 148)) 146 .false [5]) :: (oga 150 (.fieldAddr 1 (.t 149)) 146 .false [5]) :: (oga 151 (.load .false 1 (.t 150)) 146 .false [5]) :: L4r16)
noncomputable def L4r18 : List LOper := ((oga 142 (.load .false 1 (.t 141)) 129 .false [5]) :: (oga 143 (.bin .quo (.t 140) (.t 142)) 129 .false [5]) :: (oga 144 (.eq (.cell (.i .i64)) .true (.t 134) (.t 143)) 129 .false [5]) :: (oa 145 (.pick (.t 129) (.c (.bool .true)) (.t 144)) [5]) :: (oa 146 (.move (.t 145)) [5]) :: L4r17)
noncomputable def L4r19 : List LOper := ((oga 137 (.bin .mul (.c (.int .i64 1000)) (.t 136)) 129 .false [5]) :: (oga 138 (.fieldAddr 0 (.t 14)) 129 .false [5]) :: (oga 139 (.load .false 1 (.t 138)) 129 .false [5]) :: (oga 140 (.bin .mul (.t 137) (.t 139)) 129 .false [5]) :: (oga 141 (.fieldAddr 1 (.t 2)) 129 .false [5]) :: L4r18)
noncomputable def L4r20 : List LOper := ((oga 132 (.indexAddrS 2 (.t 130) (.t 131)) 129 .false [5]) :: (oga 133 (.fieldAddr 0 (.t 132)) 129 .false [5]) :: (oga 134 (.load .false 1 (.t 133)) 129 .false [5]) :: (oga 135 (.fieldAddr 0 (.t 2)) 129 .false [5]) :: (oga 136 (.load .false 1 (.t 135)) 129 .false [5]) :: L4r19)
noncomputable def L4r21 : List LOper := ((o 127 (.call (.c (.func 35 [] [])) [(.t 126)])) :: (oa 128 (.eq (.row [(.i .i64), (.i .i64)]) .true (.t 125) (.t 127)) [5]) :: (oa 129 (.move (.t 128)) [5]) :: (oga 130 (.move (.t 7)) 129 .false [5]) :: (oga 131 (.move (.t 13)) 129 .false [5]) :: L4r20)
noncomputable def L4s3 : LCode := (.cond (.t 162) (.seq (.reg [(o 4 (.move (.c (.bool .false))))]) .ret) .skip)
noncomputable def L4s4 : LCode := (.seq (.draw 38 ((o 122 (.move (.t 5))) :: (o 123 (.move (.t 13))) :: (o 124 (.indexAddrS 2 (.t 122) (.t 123))) :: (o 125 (.load .true 2 (.t 124))) :: (o 126 (.load .true 2 (.t 14))) :: L4r21)) L4s3)
noncomputable def L4s5 : LCode := (.reg [(o 117 (.move (.t 13))), (o 118 (.bin .add (.t 117) (.c (.int .i64 1)))), (o 13 (.move (.t 118)))])
noncomputable def L4s6 : LCode := (.seq (.block 1 (.seq (.reg [(o 119 (.move (.t 11))), (o 120 (.move (.t 13))), (o 121 (.call (.c (.func 34 [] [])) [(.t 119), (.t 120)])), (o 14 (.alloc [(.int .i64 0), (.int .i64 0)])), (on (.store 2 (.t 14) (.t 121)))]) L4s4)) L4s5)
noncomputable def L4w0 : LCode := (.seq (.seq (.reg [(o 113 (.move (.t 13))), (o 114 (.move (.t 5))), (o 115 (.len .slice (.t 114))), (o 116 (.bin .lss (.t 113) (.t 115)))]) (.cond (.t 116) .skip (.exit 0))) L4s6)
noncomputable def L4s7 : LCode := (.seq (.reg [(o 163 (.call (.c (.func 19 [] [])) [])), (o 4 (.move (.t 163)))]) .ret)
noncomputable def L4s8 : LCode := (.seq (.seq (.reg [(o 13 (.move (.c (.int .i64 0))))]) (.block 0 (.loop L4w0))) L4s7)
noncomputable def L4s9 : LCode := (.seq (.seq (.reg ((o 80 (.move (.t 6))) :: (o 81 (.eq (.cell (.i .i64)) .true (.t 80) (.c (.int .i64 0)))) :: (o 82 (.move (.t 81))) :: (og 83 (.move (.t 8)) 82 .false) :: (og 84 (.eq (.cell (.i .i64)) .true (.t 83) (.c (.int .i64 0))) 82 .false) :: L4r14)) L4s2) L4s8)
noncomputable def L4s10 : LCode := (.seq (.seq (.reg [(o 50 (.move (.t 12))), (o 51 (.eq (.cell (.i .i64)) .true (.t 50) (.c (.int .i64 0))))]) L4s1) L4s9)
noncomputable def L4s11 : LCode := (.seq (.reg ((o 45 (.load .true 4 (.t 2))) :: (o 46 (.move (.t 1))) :: (o 47 (.call (.c (.func 32 [] [])) [(.t 45), (.t 46), (.c (.bool .true))])) :: (o 44 (.move (.t 47))) :: (o 48 (.extract (.t 44) 0)) :: L4r3)) L4s10)
noncomputable def L4s12 : LCode := (.seq (.reg ((o 37 (.load .true 4 (.t 2))) :: (o 38 (.call (.c (.func 21 [] [])) [(.t 37)])) :: (o 39 (.move (.t 1))) :: (o 40 (.call (.c (.func 23 [] [])) [(.t 39)])) :: (o 41 (.call (.c (.func 31 [] [])) [(.t 38), (.t 40)])) :: L4r2)) L4s11)
noncomputable def L4s13 : LCode := (.seq (.reg ((o 29 (.load .true 4 (.t 2))) :: (o 30 (.call (.c (.func 21 [] [])) [(.t 29)])) :: (o 31 (.move (.t 1))) :: (o 32 (.call (.c (.func 23 [] [])) [(.t 31)])) :: (o 33 (.call (.c (.func 30 [] [])) [(.t 30), (.t 32)])) :: L4r1)) L4s12)
noncomputable def L4s14 : LCode := (.seq (.reg ((o 21 (.load .true 4 (.t 2))) :: (o 22 (.call (.c (.func 21 [] [])) [(.t 21)])) :: (o 23 (.move (.t 1))) :: (o 24 (.call (.c (.func 23 [] [])) [(.t 23)])) :: (o 25 (.call (.c (.func 29 [] [])) [(.t 22), (.t 24)])) :: L4r0)) L4s13)
noncomputable def L4s15 : LCode := (.seq (.seq (.reg [(o 15 (.load .true 4 (.t 2))), (o 16 (.move (.t 1))), (o 17 (.call (.c (.func 28 [] [])) [(.t 15), (.t 16)])), (o 18 (.un .not (.t 17)))]) L4s0) L4s14)
noncomputable def L4 : LFunc := ⟨164, (.seq (.reg [(o 2 (.box (.t 0))), (o 4 (.move (.c (.bool .false))))]) L4s15), [(.t 4)], .false, .none, viaOff Go.Proofs.Try.prog⟩
noncomputable def L20s0 : LCode := (.cond (.t 5) (.seq (.reg [(o 2 (.move (.c (.int .i64 1))))]) .ret) .skip)
noncomputable def L20s1 : LCode := (.seq (.seq (.reg [(o 3 (.load .true 4 (.t 1))), (o 4 (.call (.c (.func 63 [] [])) [(.t 3)])), (o 5 (.un .not (.t 4)))]) L20s0) (.seq (.reg [(o 2 (.move (.c (.int .i64 0))))]) .ret))
noncomputable def L20 : LFunc := ⟨6, (.seq (.reg [(o 1 (.box (.t 0))), (o 2 (.move (.c (.int .i64 0))))]) L20s1), [(.t 2)], .false, .none, viaOff Go.Proofs.Try.prog⟩
theorem lp20 : LP 20 = some L20 := by kernel_rfl
noncomputable def L36r0 : List LOper := [(o 23 (.call (.c (.func 72 [] [])) [(.t 13), (.t 14), (.t 22)])), (o 12 (.move (.t 23))), (o 24 (.extract (.t 12) 0)), (o 25 (.extract (.t 12) 1)), (o 10 (.alloc (Zr 174))), (on (.store 174 (.t 10) (.t 24))), (o 11 (.move (.t 25)))]
noncomputable def L36r1 : List LOper := ((og 18 (.move (.t 2)) 17 .true) :: (og 19 (.fieldAddr 0 (.t 4)) 17 .true) :: (og 20 (.load .false 1 (.t 19)) 17 .true) :: (og 21 (.bin .leq (.t 18) (.t 20)) 17 .true) :: (o 22 (.pick (.t 17) (.t 21) (.c (.bool .false)))) :: L36r0)
noncomputable def L36s0 : LCode := (.cond (.t 27) (.seq (.reg [(o 28 (.move (.t 11))), (o 8 (.move (.c (.slice .none 0 0)))), (o 9 (.move (.t 28)))]) .ret) .skip)
noncomputable def L36s1 : LCode := (.cond (.t 29) (.seq (.draw 2 [(o 30 (.load .true 174 (.t 10))), (o 31 (.call (.c (.func 77 [] [])) [])), (oa 32 (.field .false 1 1 (.t 31)) [1]), (oa 33 (.call (.c (.func 76 [] [])) [(.t 30), (.t 32)]) [1]), (oa 8 (.move (.t 33)) [3, 1]), (oa 9 (.move (.c (.int .i64 0))) [3, 1])]) .ret) .skip)
noncomputable def L36s2 : LCode := (.seq (.draw 2 [(o 34 (.load .true 174 (.t 10))), (o 35 (.call (.c (.func 77 [] [])) [])), (oa 36 (.field .false 1 0 (.t 35)) [1]), (oa 37 (.call (.c (.func 76 [] [])) [(.t 34), (.t 36)]) [1]), (oa 8 (.move (.t 37)) [3, 1]), (oa 9 (.move (.c (.int .i64 0))) [3, 1])]) .ret)
noncomputable def L36s3 : LCode := (.seq (.seq (.reg [(o 26 (.move (.t 11))), (o 27 (.eq (.cell (.i .i64)) .true (.t 26) (.c (.int .i64 0))))]) L36s0) (.seq (.seq (.reg [(o 29 (.move (.t 3)))]) L36s1) L36s2))
noncomputable def L36s4 : LCode := (.seq (.reg ((o 13 (.load .true 4 (.t 4))) :: (o 14 (.move (.t 1))) :: (o 15 (.move (.t 2))) :: (o 16 (.bin .leq (.c (.int .i64 0)) (.t 15))) :: (o 17 (.move (.t 16))) :: L36r1)) L36s3)
noncomputable def L36 : LFunc := ⟨38, (.seq (.reg [(o 4 (.box (.t 0))), (o 8 (.move (.c (.slice .none 0 0)))), (o 9 (.move (.c (.int .i64 0))))]) L36s4), [(.t 8), (.t 9)], .true, .none, viaOff Go.Proofs.Try.prog⟩
theorem lp36 : LP 36 = some L36 := by kernel_rfl
noncomputable def L48r0 : List LOper := [(og 17 (.bin .leq (.t 15) (.t 16)) 13 .true), (o 18 (.pick (.t 13) (.t 17) (.c (.bool .false)))), (o 6 (.move (.t 18)))]
noncomputable def L48r1 : List LOper := ((o 12 (.call (.c (.func 37 [] [])) [(.t 8), (.t 9), (.t 11)])) :: (o 13 (.move (.t 12))) :: (og 14 (.fieldAddr 1 (.t 3)) 13 .true) :: (og 15 (.load .false 1 (.t 14)) 13 .true) :: (og 16 (.move (.t 2)) 13 .true) :: L48r0)
noncomputable def L48s0 : LCode := (.seq (.reg ((o 7 (.fieldAddr 0 (.t 3))) :: (o 8 (.load .false 1 (.t 7))) :: (o 9 (.move (.t 1))) :: (o 10 (.fieldAddr 1 (.t 3))) :: (o 11 (.load .false 1 (.t 10))) :: L48r1)) .ret)
noncomputable def L48 : LFunc := ⟨19, (.seq (.reg [(o 3 (.box (.t 0))), (o 6 (.move (.c (.bool .false))))]) L48s0), [(.t 6)], .false, .none, viaOff Go.Proofs.Try.prog⟩
theorem lp48 : LP 48 = some L48 := by kernel_rfl
noncomputable def L64s0 : LCode := (.cond (.t 9) (.seq (.reg [(o 10 (.move (.t 5))), (o 4 (.move (.t 10)))]) .ret) .skip)
noncomputable def L64s1 : LCode := (.seq (.reg [(o 8 (.move (.t 5))), (o 9 (.eq (.cell (.i .i64)) .true (.t 8) (.c (.int .i64 0))))]) L64s0)
noncomputable def L64s2 : LCode := (.cond (.t 13) (.seq (.reg [(o 4 (.move (.c (.int .i64 3))))]) .ret) .skip)
noncomputable def L64s3 : LCode := (.cond (.t 18) (.seq (.reg [(o 4 (.move (.c (.int .i64 2))))]) .ret) .skip)
noncomputable def L64s4 : LCode := (.seq (.seq (.reg [(o 14 (.move (.t 1))), (o 15 (.load .true 4 (.t 2))), (o 16 (.makeFunc 86 [(.t 15)] [])), (o 17 (.call (.c (.func 68 [] [])) [(.t 14), (.t 16)])), (o 18 (.un .not (.t 17)))]) L64s3) (.seq (.reg [(o 4 (.move (.c (.int .i64 0))))]) .ret))
noncomputable def L64s5 : LCode := (.seq (.seq (.reg [(o 11 (.move (.t 1))), (o 12 (.len .slice (.t 11))), (o 13 (.bin .gtr (.t 12) (.c (.int .i64 12))))]) L64s2) L64s4)
noncomputable def L64s6 : LCode := (.seq (.seq (.reg [(o 6 (.load .true 4 (.t 2))), (o 7 (.call (.c (.func 20 [] [])) [(.t 6)])), (o 5 (.move (.t 7)))]) L64s1) L64s5)
noncomputable def L64 : LFunc := ⟨19, (.seq (.reg [(o 2 (.box (.t 0))), (o 4 (.move (.c (.int .i64 0))))]) L64s6), [(.t 4)], .false, .none, viaOff Go.Proofs.Try.prog⟩
theorem lp64 : LP 64 = some L64 := by kernel_rfl
noncomputable def L68s0 : LCode := (.cond (.t 16) (.seq (.reg [(o 4 (.move (.c (.bool .false))))]) .ret) .skip)
noncomputable def L68s1 : LCode := (.seq (.reg [(o 13 (.move (.t 1))), (o 14 (.load .true 4 (.t 6))), (o 15 (.call (.t 13) [(.t 14)])), (o 16 (.un .not (.t 15)))]) L68s0)
noncomputable def L68s2 : LCode := (.reg [(o 17 (.bin .add (.t 9) (.c (.int .i64 1)))), (o 9 (.move (.t 17)))])
noncomputable def L68s3 : LCode := (.seq (.block 1 (.seq (.reg [(o 11 (.indexAddrS 4 (.t 7) (.t 9))), (o 12 (.load .true 4 (.t 11))), (o 6 (.alloc [(.int .i64 0), (.int .i64 0), (.int .i64 0), (.int .i64 0)])), (on (.store 4 (.t 6) (.t 12)))]) L68s1)) L68s2)
noncomputable def L68w0 : LCode := (.seq (.reg [(o 10 (.bin .lss (.t 9) (.t 8)))]) (.seq (.cond (.t 10) .skip (.exit 0)) L68s3))
noncomputable def L68s4 : LCode := (.seq (.seq (.reg [(o 7 (.move (.t 0))), (o 8 (.len .slice (.t 7))), (o 9 (.move (.c (.int .i64 0))))]) (.block 0 (.loop L68w0))) (.seq (.reg [(o 4 (.move (.c (.bool .true))))]) .ret))
noncomputable def L68 : LFunc := ⟨18, (.seq (.reg [(o 4 (.move (.c (.bool .false))))]) L68s4), [(.t 4)], .false, .none, viaOff Go.Proofs.Try.prog⟩
theorem lp68 : LP 68 = some L68 := by kernel_rfl
noncomputable def L72s0 : LCode := (.cond (.t 15) (.seq (.reg [(o 16 (.build (Zr 174) [])), (o 17 (.move (.t 8))), (on (.store 174 (.t 6) (.t 16))), (o 7 (.move (.t 17)))]) .ret) .skip)
noncomputable def L72s1 : LCode := (.seq (.reg [(o 14 (.move (.t 8))), (o 15 (.eq (.cell (.i .i64)) .true (.t 14) (.c (.int .i64 0))))]) L72s0)
noncomputable def L72s2 : LCode := (.cond (.t 19) (.seq (.reg [(o 20 (.build (Zr 174) [])), (on (.store 174 (.t 6) (.t 20))), (o 7 (.move (.c (.int .i64 2))))]) .ret) .skip)
noncomputable def L72r0 : List LOper := [(o 26 (.extract (.t 21) 1)), (o 9 (.alloc (Zr 174))), (on (.store 174 (.t 9) (.t 25))), (o 10 (.move (.t 26)))]
noncomputable def L72s3 : LCode := (.cond (.t 28) (.seq (.reg [(o 29 (.build (Zr 174) [])), (on (.store 174 (.t 6) (.t 29))), (o 7 (.move (.c (.int .i64 9))))]) .ret) .skip)
noncomputable def L72s4 : LCode := (.seq (.reg [(o 30 (.load .true 174 (.t 9))), (on (.store 174 (.t 6) (.t 30))), (o 7 (.move (.c (.int .i64 0))))]) .ret)
noncomputable def L72s5 : LCode := (.seq (.seq (.reg [(o 27 (.move (.t 10))), (o 28 (.un .not (.t 27)))]) L72s3) L72s4)
noncomputable def L72s6 : LCode := (.seq (.reg ((o 22 (.load .true 4 (.t 3))) :: (o 23 (.move (.t 1))) :: (o 24 (.call (.c (.func 89 [] [])) [(.t 22), (.t 23)])) :: (o 21 (.move (.t 24))) :: (o 25 (.extract (.t 21) 0)) :: L72r0)) L72s5)
noncomputable def L72s7 : LCode := (.seq (.seq (.reg [(o 18 (.move (.t 2))), (o 19 (.un .not (.t 18)))]) L72s2) L72s6)
noncomputable def L72s8 : LCode := (.seq (.seq (.reg [(o 11 (.load .true 4 (.t 3))), (o 12 (.move (.t 1))), (o 13 (.call (.c (.func 64 [] [])) [(.t 11), (.t 12)])), (o 8 (.move (.t 13)))]) L72s1) L72s7)
noncomputable def L72 : LFunc := ⟨31, (.seq (.reg [(o 3 (.box (.t 0))), (o 6 (.alloc (Zr 174))), (o 7 (.move (.c (.int .i64 0))))]) L72s8), [(.cell 6 .true 174), (.t 7)], .false, .none, viaOff Go.Proofs.Try.prog⟩
theorem lp72 : LP 72 = some L72 := by kernel_rfl
noncomputable def L76r0 : List LOper := [(o 23 (.move (.t 1))), (o 24 (.move (.t 6))), (o 25 (.call (.t 23) [(.t 2), (.t 24)])), (o 26 (.bin .sub (.t 22) (.t 25))), (o 27 (.buildSlice 1 [(.int .i64 0)] [(0, (1, (.t 26)))])), (o 28 (.append 1 8 (.t 18) (.t 27))), (o 5 (.move (.t 28)))]
noncomputable def L76s0 : LCode := (.reg [(o 16 (.move (.t 6))), (o 17 (.bin .add (.t 16) (.c (.int .i64 1)))), (o 6 (.move (.t 17)))])
noncomputable def L76s1 : LCode := (.seq (.block 1 (.reg ((o 18 (.move (.t 5))) :: (o 19 (.move (.t 1))) :: (o 20 (.move (.t 6))) :: (o 21 (.bin .add (.t 20) (.c (.int .i64 1)))) :: (o 22 (.call (.t 19) [(.t 2), (.t 21)])) :: L76r0))) L76s0)
noncomputable def L76w0 : LCode := (.seq (.seq (.reg [(o 11 (.move (.t 6))), (o 12 (.fieldAddr 0 (.t 2))), (o 13 (.fieldAddr 0 (.t 12))), (o 14 (.load .false 1 (.t 13))), (o 15 (.bin .lss (.t 11) (.t 14)))]) (.cond (.t 15) .skip (.exit 0))) L76s1)
noncomputable def L76s2 : LCode := (.seq (.reg [(o 29 (.move (.t 5))), (o 4 (.move (.t 29)))]) .ret)
noncomputable def L76s3 : LCode := (.seq (.seq (.reg [(o 6 (.move (.c (.int .i64 0))))]) (.block 0 (.loop L76w0))) L76s2)
noncomputable def L76s4 : LCode := (.seq (.reg [(o 7 (.fieldAddr 0 (.t 2))), (o 8 (.fieldAddr 0 (.t 7))), (o 9 (.load .false 1 (.t 8))), (o 10 (.makeSlice [(.int .i64 0)] 8 (.c (.int .i64 0)) (.t 9))), (o 5 (.move (.t 10)))]) L76s3)
noncomputable def L76 : LFunc := ⟨30, (.seq (.reg [(o 2 (.box (.t 0))), (o 4 (.move (.c (.slice .none 0 0))))]) L76s4), [(.t 4)], .true, .none, viaOff Go.Proofs.Try.prog⟩
theorem lp76 : LP 76 = some L76 := by kernel_rfl
noncomputable def L96r0 : List LOper := [(o 11 (.fieldAddr 2 (.t 3))), (o 12 (.fieldAddr 1 (.t 11))), (o 13 (.load .false 1 (.t 12))), (o 14 (.call (.c (.func 100 [] [])) [(.t 6), (.t 8), (.t 10), (.t 13)])), (o 15 (.un .not (.t 14)))]
noncomputable def L96s0 : LCode := (.cond (.t 15) (.seq (.reg [(o 16 (.build (Zr 174) [])), (on (.store 174 (.t 4) (.t 16))), (o 5 (.move (.c (.bool .false))))]) .ret) .skip)
noncomputable def L96r1 : List LOper := [(og 32 (.load .false 1 (.t 31)) 23 .true), (og 33 (.un .neg (.t 32)) 23 .true), (og 34 (.bin .sub (.t 33) (.c (.int .i64 1))) 23 .true), (og 35 (.call (.c (.func 100 [] [])) [(.t 24), (.t 27), (.t 29), (.t 34)]) 23 .true), (og 36 (.un .not (.t 35)) 23 .true), (o 37 (.pick (.t 23) (.t 36) (.c (.bool .false))))]
noncomputable def L96r2 : List LOper := ((og 27 (.bin .add (.t 26) (.c (.int .i64 1))) 23 .true) :: (og 28 (.fieldAddr 0 (.t 3)) 23 .true) :: (og 29 (.load .false 1 (.t 28)) 23 .true) :: (og 30 (.fieldAddr 2 (.t 3)) 23 .true) :: (og 31 (.fieldAddr 0 (.t 30)) 23 .true) :: L96r1)
noncomputable def L96r3 : List LOper := ((o 22 (.bin .lss (.t 18) (.t 21))) :: (o 23 (.move (.t 22))) :: (og 24 (.fieldAddr 4 (.t 2)) 23 .true) :: (og 25 (.fieldAddr 1 (.t 3)) 23 .true) :: (og 26 (.load .false 1 (.t 25)) 23 .true) :: L96r2)
noncomputable def L96s1 : LCode := (.cond (.t 37) (.seq (.reg [(o 38 (.build (Zr 174) [])), (on (.store 174 (.t 4) (.t 38))), (o 5 (.move (.c (.bool .false))))]) .ret) .skip)
noncomputable def L96s2 : LCode := (.seq (.reg [(o 39 (.load .true 174 (.t 2))), (on (.store 174 (.t 4) (.t 39))), (o 5 (.move (.c (.bool .true))))]) .ret)
noncomputable def L96s3 : LCode := (.seq (.seq (.reg ((o 17 (.fieldAddr 1 (.t 3))) :: (o 18 (.load .false 1 (.t 17))) :: (o 19 (.fieldAddr 0 (.t 2))) :: (o 20 (.fieldAddr 0 (.t 19))) :: (o 21 (.load .false 1 (.t 20))) :: L96r3)) L96s1) L96s2)
noncomputable def L96s4 : LCode := (.seq (.seq (.reg ((o 6 (.fieldAddr 4 (.t 2))) :: (o 7 (.fieldAddr 0 (.t 3))) :: (o 8 (.load .false 1 (.t 7))) :: (o 9 (.fieldAddr 1 (.t 3))) :: (o 10 (.load .false 1 (.t 9))) :: L96r0)) L96s0) L96s3)
noncomputable def L96 : LFunc := ⟨40, (.seq (.reg [(o 2 (.box (.t 0))), (o 3 (.box (.t 1))), (o 4 (.alloc (Zr 174))), (o 5 (.move (.c (.bool .false))))]) L96s4), [(.cell 4 .true 174), (.t 5)], .false, .none, viaOff Go.Proofs.Try.prog⟩
theorem lp96 : LP 96 = some L96 := by kernel_rfl
noncomputable def L100s0 : LCode := (.cond (.t 18) (.seq (.reg [(o 8 (.move (.c (.bool .false))))]) .ret) .skip)
noncomputable def L100r0 : List LOper := [(o 31 (.indexAddrA 13 13 (.t 30) (.t 27))), (o 32 (.indexAddrA 13 1 (.t 31) (.t 28))), (o 33 (.load .false 1 (.t 32))), (o 34 (.move (.t 3))), (o 35 (.bin .add (.t 33) (.t 34))), (o 10 (.move (.t 35)))]
noncomputable def L100r1 : List LOper := [(o 41 (.fieldAddr 1 (.t 40))), (o 42 (.indexAddrA 13 13 (.t 41) (.t 38))), (o 43 (.indexAddrA 13 1 (.t 42) (.t 39))), (o 44 (.load .false 1 (.t 43))), (o 45 (.bin .geq (.t 36) (.t 44)))]
noncomputable def L100r2 : List LOper := [(o 58 (.fieldAddr 1 (.t 57))), (o 59 (.indexAddrA 13 13 (.t 58) (.t 55))), (o 60 (.indexAddrA 13 1 (.t 59) (.t 56))), (o 61 (.load .false 1 (.t 60))), (o 62 (.bin .add (.t 53) (.t 61))), (o 12 (.move (.t 62)))]
noncomputable def L100r3 : List LOper := [(o 68 (.fieldAddr 1 (.t 67))), (o 69 (.indexAddrA 13 13 (.t 68) (.t 65))), (o 70 (.indexAddrA 13 1 (.t 69) (.t 66))), (o 71 (.load .false 1 (.t 70))), (o 72 (.bin .lss (.t 63) (.t 71)))]
noncomputable def L100r4 : List LOper := [(o 78 (.fieldAddr 1 (.t 77))), (o 79 (.indexAddrA 13 13 (.t 78) (.t 74))), (o 80 (.indexAddrA 13 1 (.t 79) (.t 75))), (on (.store 1 (.t 80) (.t 76)))]
noncomputable def L100s1 : LCode := (.cond (.t 72) (.reg ((o 73 (.move (.t 0))) :: (o 74 (.move (.t 9))) :: (o 75 (.move (.t 11))) :: (o 76 (.move (.t 12))) :: (o 77 (.nilCheck (.t 73))) :: L100r4)) .skip)
noncomputable def L100s2 : LCode := (.seq (.reg ((o 63 (.move (.t 12))) :: (o 64 (.move (.t 0))) :: (o 65 (.move (.t 9))) :: (o 66 (.move (.t 11))) :: (o 67 (.nilCheck (.t 64))) :: L100r3)) L100s1)
noncomputable def L100s3 : LCode := (.seq (.reg ((o 53 (.move (.t 10))) :: (o 54 (.move (.t 0))) :: (o 55 (.move (.t 2))) :: (o 56 (.move (.t 11))) :: (o 57 (.nilCheck (.t 54))) :: L100r2)) L100s2)
noncomputable def L100s4 : LCode := (.reg [(o 81 (.bin .add (.t 50) (.c (.int .i64 1)))), (o 50 (.move (.t 81)))])
noncomputable def L100s5 : LCode := (.seq (.block 3 (.seq (.reg [(o 52 (.move (.t 50))), (o 11 (.move (.t 52)))]) L100s3)) L100s4)
noncomputable def L100w0 : LCode := (.seq (.reg [(o 51 (.bin .lss (.t 50) (.t 49)))]) (.seq (.cond (.t 51) .skip (.exit 2)) L100s5))
noncomputable def L100s6 : LCode := (.seq (.reg [(o 46 (.move (.t 0))), (o 47 (.nilCheck (.t 46))), (o 48 (.fieldAddr 0 (.t 47))), (o 49 (.load .false 1 (.t 48))), (o 50 (.move (.c (.int .i64 0))))]) (.block 2 (.loop L100w0)))
noncomputable def L100s7 : LCode := (.seq (.seq (.reg ((o 36 (.move (.t 10))) :: (o 37 (.move (.t 0))) :: (o 38 (.move (.t 9))) :: (o 39 (.move (.t 2))) :: (o 40 (.nilCheck (.t 37))) :: L100r1)) (.cond (.t 45) (.exit 1) .skip)) L100s6)
noncomputable def L100s8 : LCode := (.seq (.reg ((o 26 (.move (.t 0))) :: (o 27 (.move (.t 9))) :: (o 28 (.move (.t 1))) :: (o 29 (.nilCheck (.t 26))) :: (o 30 (.fieldAddr 1 (.t 29))) :: L100r0)) L100s7)
noncomputable def L100s9 : LCode := (.reg [(o 82 (.bin .add (.t 23) (.c (.int .i64 1)))), (o 23 (.move (.t 82)))])
noncomputable def L100s10 : LCode := (.seq (.block 1 (.seq (.reg [(o 25 (.move (.t 23))), (o 9 (.move (.t 25)))]) L100s8)) L100s9)
noncomputable def L100w1 : LCode := (.seq (.reg [(o 24 (.bin .lss (.t 23) (.t 22)))]) (.seq (.cond (.t 24) .skip (.exit 0)) L100s10))
noncomputable def L100s11 : LCode := (.seq (.seq (.reg [(o 19 (.move (.t 0))), (o 20 (.nilCheck (.t 19))), (o 21 (.fieldAddr 0 (.t 20))), (o 22 (.load .false 1 (.t 21))), (o 23 (.move (.c (.int .i64 0))))]) (.block 0 (.loop L100w1))) (.seq (.reg [(o 8 (.move (.c (.bool .true))))]) .ret))
noncomputable def L100s12 : LCode := (.seq (.seq (.reg [(o 13 (.move (.t 0))), (o 14 (.move (.t 1))), (o 15 (.move (.t 2))), (o 16 (.move (.t 3))), (o 17 (.call (.c (.func 103 [] [])) [(.t 13), (.t 14), (.t 15), (.t 16)])), (o 18 (.un .not (.t 17)))]) L100s0) L100s11)
noncomputable def L100 : LFunc := ⟨83, (.seq (.reg [(o 8 (.move (.c (.bool .false))))]) L100s12), [(.t 8)], .true, .none, viaOff Go.Proofs.Try.prog⟩
theorem lp100 : LP 100 = some L100 := by kernel_rfl
noncomputable def L21r0 : List LOper := [(o 8 (.load .true 2 (.t 7))), (o 9 (.call (.c (.func 35 [] [])) [(.t 8)])), (oa 10 (.build [(.int .i64 0), (.int .i64 0), (.int .i64 0), (.int .i64 0)] [(0, (1, (.t 4))), (1, (1, (.t 6))), (2, (2, (.t 9)))]) [6]), (ona (.store 4 (.t 2) (.t 10)) [6])]
noncomputable def L21s0 : LCode := (.seq (.draw 7 ((o 3 (.fieldAddr 0 (.t 1))) :: (o 4 (.load .false 1 (.t 3))) :: (o 5 (.fieldAddr 1 (.t 1))) :: (o 6 (.load .false 1 (.t 5))) :: (o 7 (.fieldAddr 2 (.t 1))) :: L21r0)) .ret)
noncomputable def L21 : LFunc := ⟨11, (.seq (.reg [(o 1 (.box (.t 0))), (o 2 (.alloc [(.int .i64 0), (.int .i64 0), (.int .i64 0), (.int .i64 0)]))]) L21s0), [(.cell 2 .true 4)], .false, .none, viaOff Go.Proofs.Try.prog⟩
theorem lp21 : LP 21 = some L21 := by kernel_rfl
noncomputable def L25r0 : List LOper := [(og 28 (.fieldAddr 1 (.t 27)) 16 .true), (og 29 (.load .false 1 (.t 28)) 16 .true), (og 30 (.bin .mul (.t 26) (.t 29)) 16 .true), (og 31 (.call (.c (.func 37 [] [])) [(.t 18), (.t 24), (.t 30)]) 16 .true), (o 32 (.pick (.t 16) (.t 31) (.c (.bool .false)))), (o 2 (.move (.t 32)))]
noncomputable def L25r1 : List LOper := ((og 23 (.load .false 1 (.t 22)) 16 .true) :: (og 24 (.bin .mul (.t 20) (.t 23)) 16 .true) :: (og 25 (.fieldAddr 0 (.t 1)) 16 .true) :: (og 26 (.load .false 1 (.t 25)) 16 .true) :: (og 27 (.fieldAddr 2 (.t 1)) 16 .true) :: L25r0)
noncomputable def L25r2 : List LOper := ((og 18 (.load .false 1 (.t 17)) 16 .true) :: (og 19 (.fieldAddr 0 (.t 1)) 16 .true) :: (og 20 (.load .false 1 (.t 19)) 16 .true) :: (og 21 (.fieldAddr 2 (.t 1)) 16 .true) :: (og 22 (.fieldAddr 0 (.t 21)) 16 .true) :: L25r1)
noncomputable def L25r3 : List LOper := ((og 13 (.load .false 1 (.t 12)) 11 .true) :: (og 14 (.call (.c (.func 37 [] [])) [(.t 13), (.c (.int .i64 1)), (.c (.int .i64 2000))]) 11 .true) :: (o 15 (.pick (.t 11) (.t 14) (.c (.bool .false)))) :: (o 16 (.move (.t 15))) :: (og 17 (.fieldAddr 1 (.t 1)) 16 .true) :: L25r2)
noncomputable def L25r4 : List LOper := ((og 8 (.load .true 2 (.t 7)) 6 .true) :: (og 9 (.call (.c (.func 48 [] [])) [(.t 8), (.c (.int .i64 1)), (.c (.int .i64 200))]) 6 .true) :: (o 10 (.pick (.t 6) (.t 9) (.c (.bool .false)))) :: (o 11 (.move (.t 10))) :: (og 12 (.fieldAddr 1 (.t 1)) 11 .true) :: L25r3)
noncomputable def L25s0 : LCode := (.seq (.reg ((o 3 (.fieldAddr 0 (.t 1))) :: (o 4 (.load .false 1 (.t 3))) :: (o 5 (.call (.c (.func 37 [] [])) [(.t 4), (.c (.int .i64 1)), (.c (.int .i64 10))])) :: (o 6 (.move (.t 5))) :: (og 7 (.fieldAddr 2 (.t 1)) 6 .true) :: L25r4)) .ret)
noncomputable def L25 : LFunc := ⟨33, (.seq (.reg [(o 1 (.box (.t 0))), (o 2 (.move (.c (.bool .false))))]) L25s0), [(.t 2)], .false, .none, viaOff Go.Proofs.Try.prog⟩
theorem lp25 : LP 25 = some L25 := by kernel_rfl
noncomputable def L29r0 : List LOper := [(o 13 (.extract (.t 8) 1)), (o 6 (.alloc (Zr 174))), (on (.store 174 (.t 6) (.t 12))), (o 7 (.move (.t 13)))]
noncomputable def L29s0 : LCode := (.cond (.t 15) (.seq (.reg [(o 16 (.move (.t 7))), (o 4 (.move (.c (.slice .none 0 0)))), (o 5 (.move (.t 16)))]) .ret) .skip)
noncomputable def L29s1 : LCode := (.seq (.reg [(o 17 (.load .true 174 (.t 6))), (o 18 (.call (.c (.func 73 [] [])) [(.t 17)])), (o 4 (.move (.t 18))), (o 5 (.move (.c (.int .i64 0))))]) .ret)
noncomputable def L29s2 : LCode := (.seq (.seq (.reg [(o 14 (.move (.t 7))), (o 15 (.eq (.cell (.i .i64)) .true (.t 14) (.c (.int .i64 0))))]) L29s0) L29s1)
noncomputable def L29s3 : LCode := (.seq (.reg ((o 9 (.load .true 4 (.t 2))) :: (o 10 (.move (.t 1))) :: (o 11 (.call (.c (.func 72 [] [])) [(.t 9), (.t 10), (.c (.bool .true))])) :: (o 8 (.move (.t 11))) :: (o 12 (.extract (.t 8) 0)) :: L29r0)) L29s2)
noncomputable def L29 : LFunc := ⟨19, (.seq (.reg [(o 2 (.box (.t 0))), (o 4 (.move (.c (.slice .none 0 0)))), (o 5 (.move (.c (.int .i64 0))))]) L29s3), [(.t 4), (.t 5)], .true, .none, viaOff Go.Proofs.Try.prog⟩
theorem lp29 : LP 29 = some L29 := by kernel_rfl
noncomputable def L37r0 : List LOper := [(og 12 (.move (.t 2)) 10 .true), (og 13 (.bin .leq (.t 11) (.t 12)) 10 .true), (o 14 (.pick (.t 10) (.t 13) (.c (.bool .false)))), (o 6 (.move (.t 14)))]
noncomputable def L37s0 : LCode := (.seq (.reg ((o 7 (.move (.t 0))) :: (o 8 (.move (.t 1))) :: (o 9 (.bin .geq (.t 7) (.t 8))) :: (o 10 (.move (.t 9))) :: (og 11 (.move (.t 0)) 10 .true) :: L37r0)) .ret)
noncomputable def L37 : LFunc := ⟨15, (.seq (.reg [(o 6 (.move (.c (.bool .false))))]) L37s0), [(.t 6)], .false, .none, viaOff Go.Proofs.Try.prog⟩
theorem lp37 : LP 37 = some L37 := by kernel_rfl
noncomputable def L53r0 : List LOper := [(o 45 (.bin .sub (.t 39) (.t 44))), (o 46 (.min [(.t 38), (.t 45)])), (o 9 (.move (.t 35))), (o 10 (.move (.t 46)))]
noncomputable def L53r1 : List LOper := ((o 40 (.move (.t 8))) :: (o 41 (.fieldAddr 2 (.t 2))) :: (o 42 (.fieldAddr 0 (.t 41))) :: (o 43 (.load .false 1 (.t 42))) :: (o 44 (.bin .mul (.t 40) (.t 43))) :: L53r0)
noncomputable def L53r2 : List LOper := ((o 35 (.max [(.t 27), (.t 34)])) :: (o 36 (.fieldAddr 2 (.t 2))) :: (o 37 (.fieldAddr 1 (.t 36))) :: (o 38 (.load .false 1 (.t 37))) :: (o 39 (.move (.t 6))) :: L53r1)
noncomputable def L53r3 : List LOper := ((o 30 (.fieldAddr 2 (.t 2))) :: (o 31 (.fieldAddr 1 (.t 30))) :: (o 32 (.load .false 1 (.t 31))) :: (o 33 (.bin .mul (.t 29) (.t 32))) :: (o 34 (.bin .sub (.t 28) (.t 33))) :: L53r2)
noncomputable def L53r4 : List LOper := [(o 52 (.move (.t 9))), (o 53 (.bin .sub (.t 51) (.t 52))), (o 54 (.bin .add (.t 53) (.c (.int .i64 1)))), (o 55 (.bin .rem (.t 50) (.t 54))), (o 56 (.bin .add (.t 47) (.t 55))), (o 11 (.move (.t 56)))]
noncomputable def L53s0 : LCode := (.reg [(o 61 (.move (.t 6))), (o 62 (.move (.t 11))), (o 63 (.bin .sub (.t 61) (.t 62))), (o 6 (.move (.t 63)))])
noncomputable def L53s1 : LCode := (.seq (.reg [(o 57 (.move (.t 5))), (o 58 (.move (.t 11))), (o 59 (.buildSlice 1 [(.int .i64 0)] [(0, (1, (.t 58)))])), (o 60 (.append 1 8 (.t 57) (.t 59))), (o 5 (.move (.t 60)))]) L53s0)
noncomputable def L53s2 : LCode := (.seq (.reg ((o 47 (.move (.t 9))) :: (o 48 (.move (.t 1))) :: (o 49 (.move (.t 7))) :: (o 50 (.call (.c (.func 62 [] [])) [(.t 48), (.t 49)])) :: (o 51 (.move (.t 10))) :: L53r4)) L53s1)
noncomputable def L53s3 : LCode := (.seq (.draw 22 ((o 25 (.fieldAddr 2 (.t 2))) :: (o 26 (.fieldAddr 0 (.t 25))) :: (o 27 (.load .false 1 (.t 26))) :: (o 28 (.move (.t 6))) :: (o 29 (.move (.t 8))) :: L53r3)) L53s2)
noncomputable def L53s4 : LCode := (.reg [(o 18 (.move (.t 7))), (o 19 (.bin .add (.t 18) (.c (.int .i64 1)))), (o 7 (.move (.t 19)))])
noncomputable def L53s5 : LCode := (.seq (.block 1 (.seq (.reg [(o 20 (.fieldAddr 0 (.t 2))), (o 21 (.load .false 1 (.t 20))), (o 22 (.bin .sub (.t 21) (.c (.int .i64 1)))), (o 23 (.move (.t 7))), (o 24 (.bin .sub (.t 22) (.t 23))), (o 8 (.move (.t 24)))]) L53s3)) L53s4)
noncomputable def L53w0 : LCode := (.seq (.seq (.reg [(o 14 (.move (.t 7))), (o 15 (.fieldAddr 0 (.t 2))), (o 16 (.load .false 1 (.t 15))), (o 17 (.bin .lss (.t 14) (.t 16)))]) (.cond (.t 17) .skip (.exit 0))) L53s5)
noncomputable def L53s6 : LCode := (.seq (.reg [(o 64 (.move (.t 5))), (o 4 (.move (.t 64)))]) .ret)
noncomputable def L53s7 : LCode := (.seq (.seq (.reg [(o 7 (.move (.c (.int .i64 0))))]) (.block 0 (.loop L53w0))) L53s6)
noncomputable def L53s8 : LCode := (.seq (.reg [(o 12 (.fieldAddr 1 (.t 2))), (o 13 (.load .false 1 (.t 12))), (o 6 (.move (.t 13)))]) L53s7)
noncomputable def L53 : LFunc := ⟨65, (.seq (.reg [(o 2 (.box (.t 0))), (o 4 (.move (.c (.slice .none 0 0))))]) (.seq (.reg [(o 5 (.move (.c (.slice .none 0 0))))]) L53s8)), [(.t 4)], .true, .none, viaOff Go.Proofs.Try.prog⟩
theorem lp53 : LP 53 = some L53 := by kernel_rfl
noncomputable def L73r0 : List LOper := [(oa 29 (.buildSlice 1 [(.int .i64 0), (.int .i64 0)] [(0, (2, (.t 28)))]) [8, 4]), (oa 30 (.append 2 16 (.t 19) (.t 29)) [10, 8, 4]), (oa 4 (.move (.t 30)) [11, 10, 8, 4])]
noncomputable def L73r1 : List LOper := ((o 24 (.fieldAddr 1 (.t 3))) :: (o 25 (.load .false 1 (.t 24))) :: (o 26 (.move (.t 5))) :: (oa 27 (.call (.t 25) [(.t 1), (.t 26)]) [4]) :: (oa 28 (.build [(.int .i64 0), (.int .i64 0)] [(0, (1, (.t 23))), (1, (1, (.t 27)))]) [8, 4]) :: L73r0)
noncomputable def L73s0 : LCode := (.reg [(o 17 (.move (.t 5))), (o 18 (.bin .add (.t 17) (.c (.int .i64 1)))), (o 5 (.move (.t 18)))])
noncomputable def L73s1 : LCode := (.seq (.block 1 (.draw 7 ((o 19 (.move (.t 4))) :: (o 20 (.fieldAddr 0 (.t 3))) :: (o 21 (.load .false 1 (.t 20))) :: (o 22 (.move (.t 5))) :: (o 23 (.call (.t 21) [(.t 1), (.t 22)])) :: L73r1))) L73s0)
noncomputable def L73w0 : LCode := (.seq (.seq (.reg [(o 12 (.move (.t 5))), (o 13 (.fieldAddr 0 (.t 1))), (o 14 (.fieldAddr 0 (.t 13))), (o 15 (.load .false 1 (.t 14))), (o 16 (.bin .leq (.t 12) (.t 15)))]) (.cond (.t 16) .skip (.exit 0))) L73s1)
noncomputable def L73s2 : LCode := (.seq (.reg [(o 31 (.move (.t 4))), (o 2 (.move (.t 31)))]) .ret)
noncomputable def L73s3 : LCode := (.seq (.seq (.reg [(o 5 (.move (.c (.int .i64 0))))]) (.block 0 (.loop L73w0))) L73s2)
noncomputable def L73s4 : LCode := (.seq (.reg [(o 7 (.fieldAddr 0 (.t 1))), (o 8 (.fieldAddr 0 (.t 7))), (o 9 (.load .false 1 (.t 8))), (o 10 (.bin .add (.t 9) (.c (.int .i64 1)))), (o 11 (.makeSlice [(.int .i64 0), (.int .i64 0)] 16 (.c (.int .i64 0)) (.t 10))), (o 4 (.move (.t 11)))]) L73s3)
noncomputable def L73s5 : LCode := (.seq (.reg [(o 6 (.call (.c (.func 77 [] [])) [])), (o 3 (.alloc [.nilFunc, .nilFunc])), (on (.store 2 (.t 3) (.t 6)))]) L73s4)
noncomputable def L73 : LFunc := ⟨32, (.seq (.reg [(o 1 (.box (.t 0))), (o 2 (.move (.c (.slice .none 0 0))))]) L73s5), [(.t 2)], .true, .none, viaOff Go.Proofs.Try.prog⟩
theorem lp73 : LP 73 = some L73 := by kernel_rfl
noncomputable def L77s0 : LCode := (.seq (.reg [(o 1 (.move (.c (.via 131 "Lowest" 90)))), (o 2 (.move (.c (.via 131 "Highest" 91)))), (o 3 (.build [.nilFunc, .nilFunc] [(0, (1, (.t 1))), (1, (1, (.t 2)))])), (on (.store 2 (.t 0) (.t 3)))]) .ret)
noncomputable def L77 : LFunc := ⟨4, (.seq (.reg [(o 0 (.alloc [.nilFunc, .nilFunc]))]) L77s0), [(.cell 0 .true 2)], .false, .none, viaOff Go.Proofs.Try.prog⟩
theorem lp77 : LP 77 = some L77 := by kernel_rfl
noncomputable def L89r0 : List LOper := [(o 30 (.extract (.t 25) 1)), (on (.store 174 (.t 6) (.t 29))), (o 7 (.move (.t 30)))]
noncomputable def L89s0 : LCode := (.cond (.t 32) (.seq (.reg [(o 33 (.build (Zr 174) [])), (on (.store 174 (.t 4) (.t 33))), (o 5 (.move (.c (.bool .false))))]) .ret) .skip)
noncomputable def L89s1 : LCode := (.seq (.reg [(o 31 (.move (.t 7))), (o 32 (.un .not (.t 31)))]) L89s0)
noncomputable def L89s2 : LCode := (.seq (.reg ((o 26 (.load .true 174 (.t 6))) :: (o 27 (.load .true 4 (.t 10))) :: (o 28 (.call (.c (.func 96 [] [])) [(.t 26), (.t 27)])) :: (o 25 (.move (.t 28))) :: (o 29 (.extract (.t 25) 0)) :: L89r0)) L89s1)
noncomputable def L89s3 : LCode := (.seq (.reg [(o 23 (.move (.t 8))), (o 24 (.load .true 4 (.t 10))), (on (.mapUpdate (.row [(.i .i64), (.i .i64), (.i .i64), (.i .i64)]) (.t 23) (.t 24) (.c (.bool .true))))]) L89s2)
noncomputable def L89s4 : LCode := (.seq (.seq (.reg [(o 20 (.move (.t 8))), (o 21 (.load .true 4 (.t 10))), (o 22 (.lookup (.row [(.i .i64), (.i .i64), (.i .i64), (.i .i64)]) (.bool .false) .false (.t 20) (.t 21)))]) (.cond (.t 22) (.exit 1) .skip)) L89s3)
noncomputable def L89s5 : LCode := (.reg [(o 34 (.bin .add (.t 16) (.c (.int .i64 1)))), (o 16 (.move (.t 34)))])
noncomputable def L89s6 : LCode := (.seq (.block 1 (.seq (.reg [(o 18 (.indexAddrS 4 (.t 14) (.t 16))), (o 19 (.load .true 4 (.t 18))), (o 10 (.alloc [(.int .i64 0), (.int .i64 0), (.int .i64 0), (.int .i64 0)])), (on (.store 4 (.t 10) (.t 19)))]) L89s4)) L89s5)
noncomputable def L89w0 : LCode := (.seq (.reg [(o 17 (.bin .lss (.t 16) (.t 15)))]) (.seq (.cond (.t 17) .skip (.exit 0)) L89s6))
noncomputable def L89s7 : LCode := (.seq (.reg [(o 35 (.load .true 174 (.t 6))), (on (.store 174 (.t 4) (.t 35))), (o 5 (.move (.c (.bool .true))))]) .ret)
noncomputable def L89s8 : LCode := (.seq (.seq (.reg [(o 14 (.move (.t 1))), (o 15 (.len .slice (.t 14))), (o 16 (.move (.c (.int .i64 0))))]) (.block 0 (.loop L89w0))) L89s7)
noncomputable def L89s9 : LCode := (.seq (.reg [(o 11 (.load .true 4 (.t 2))), (o 12 (.call (.c (.func 97 [] [])) [(.t 11)])), (o 6 (.alloc (Zr 174))), (on (.store 174 (.t 6) (.t 12))), (o 7 (.move (.c (.bool .true))))]) (.seq (.reg [(o 13 .makeMap), (o 8 (.move (.t 13)))]) L89s8))
noncomputable def L89 : LFunc := ⟨36, (.seq (.reg [(o 2 (.box (.t 0))), (o 4 (.alloc (Zr 174))), (o 5 (.move (.c (.bool .false))))]) L89s9), [(.cell 4 .true 174), (.t 5)], .false, .none, viaOff Go.Proofs.Try.prog⟩
theorem lp89 : LP 89 = some L89 := by kernel_rfl
noncomputable def L97r0 : List LOper := [(o 11 (.build (Zr 174) [(0, (4, (.t 6))), (4, (170, (.t 10)))])), (o 3 (.alloc (Zr 174))), (on (.store 174 (.t 3) (.t 11)))]
noncomputable def L97r1 : List LOper := [(o 35 (.fieldAddr 1 (.t 34))), (o 36 (.indexAddrA 13 13 (.t 35) (.t 25))), (o 37 (.indexAddrA 13 1 (.t 36) (.t 26))), (on (.store 1 (.t 37) (.t 33)))]
noncomputable def L97r2 : List LOper := ((o 30 (.fieldAddr 2 (.t 1))) :: (o 31 (.fieldAddr 1 (.t 30))) :: (o 32 (.load .false 1 (.t 31))) :: (o 33 (.bin .mul (.t 29) (.t 32))) :: (o 34 (.fieldAddr 4 (.t 3))) :: L97r1)
noncomputable def L97r3 : List LOper := [(o 48 (.fieldAddr 1 (.t 47))), (o 49 (.indexAddrA 13 13 (.t 48) (.t 38))), (o 50 (.indexAddrA 13 1 (.t 49) (.t 39))), (on (.store 1 (.t 50) (.t 46)))]
noncomputable def L97r4 : List LOper := ((o 43 (.fieldAddr 2 (.t 1))) :: (o 44 (.fieldAddr 0 (.t 43))) :: (o 45 (.load .false 1 (.t 44))) :: (o 46 (.bin .mul (.t 42) (.t 45))) :: (o 47 (.fieldAddr 4 (.t 3))) :: L97r3)
noncomputable def L97s0 : LCode := (.draw 0 ((o 38 (.move (.t 5))) :: (o 39 (.move (.t 4))) :: (o 40 (.move (.t 4))) :: (o 41 (.move (.t 5))) :: (o 42 (.bin .sub (.t 40) (.t 41))) :: L97r4))
noncomputable def L97s1 : LCode := (.reg [(o 23 (.move (.t 5))), (o 24 (.bin .add (.t 23) (.c (.int .i64 1)))), (o 5 (.move (.t 24)))])
noncomputable def L97s2 : LCode := (.seq (.block 3 (.seq (.draw 0 ((o 25 (.move (.t 4))) :: (o 26 (.move (.t 5))) :: (o 27 (.move (.t 5))) :: (o 28 (.move (.t 4))) :: (o 29 (.bin .sub (.t 27) (.t 28))) :: L97r2)) L97s0)) L97s1)
noncomputable def L97w0 : LCode := (.seq (.seq (.reg [(o 19 (.move (.t 5))), (o 20 (.fieldAddr 0 (.t 1))), (o 21 (.load .false 1 (.t 20))), (o 22 (.bin .leq (.t 19) (.t 21)))]) (.cond (.t 22) .skip (.exit 2))) L97s2)
noncomputable def L97s3 : LCode := (.reg [(o 16 (.move (.t 4))), (o 17 (.bin .add (.t 16) (.c (.int .i64 1)))), (o 4 (.move (.t 17)))])
noncomputable def L97s4 : LCode := (.seq (.block 1 (.seq (.reg [(o 18 (.move (.t 4))), (o 5 (.move (.t 18)))]) (.block 2 (.loop L97w0)))) L97s3)
noncomputable def L97w1 : LCode := (.seq (.seq (.reg [(o 12 (.move (.t 4))), (o 13 (.fieldAddr 0 (.t 1))), (o 14 (.load .false 1 (.t 13))), (o 15 (.bin .leq (.t 12) (.t 14)))]) (.cond (.t 15) .skip (.exit 0))) L97s4)
noncomputable def L97s5 : LCode := (.seq (.reg [(o 64 (.load .true 174 (.t 3))), (on (.store 174 (.t 2) (.t 64)))]) .ret)
noncomputable def L97s6 : LCode := (.seq (.reg [(o 57 (.fieldAddr 4 (.t 3))), (o 58 (.fieldAddr 0 (.t 1))), (o 59 (.load .false 1 (.t 58))), (o 60 (.fieldAddr 1 (.t 1))), (o 61 (.load .false 1 (.t 60))), (o 62 (.un .neg (.t 61))), (o 63 (.call (.c (.func 100 [] [])) [(.t 57), (.t 59), (.c (.int .i64 0)), (.t 62)]))]) L97s5)
noncomputable def L97s7 : LCode := (.seq (.reg [(o 51 (.fieldAddr 4 (.t 3))), (o 52 (.fieldAddr 0 (.t 1))), (o 53 (.load .false 1 (.t 52))), (o 54 (.fieldAddr 1 (.t 1))), (o 55 (.load .false 1 (.t 54))), (o 56 (.call (.c (.func 100 [] [])) [(.t 51), (.c (.int .i64 0)), (.t 53), (.t 55)]))]) L97s6)
noncomputable def L97s8 : LCode := (.seq (.seq (.reg [(o 4 (.move (.c (.int .i64 0))))]) (.block 0 (.loop L97w1))) L97s7)
noncomputable def L97s9 : LCode := (.seq (.reg ((o 6 (.load .true 4 (.t 1))) :: (o 7 (.fieldAddr 0 (.t 1))) :: (o 8 (.load .false 1 (.t 7))) :: (o 9 (.bin .add (.t 8) (.c (.int .i64 1)))) :: (o 10 (.build (Zr 170) [(0, (1, (.t 9)))])) :: L97r0)) L97s8)
noncomputable def L97 : LFunc := ⟨65, (.seq (.reg [(o 1 (.box (.t 0))), (o 2 (.alloc (Zr 174)))]) L97s9), [(.cell 2 .true 174)], .false, .none, viaOff Go.Proofs.Try.prog⟩
theorem lp97 : LP 97 = some L97 := by kernel_rfl
noncomputable def L38s0 : LCode := (.reg [(o 10 (.move (.t 6))), (o 11 (.bin .add (.t 10) (.c (.int .i64 1)))), (o 6 (.move (.t 11)))])
noncomputable def L38s1 : LCode := (.seq (.block 1 (.reg [(o 12 (.move (.t 5))), (o 13 (.move (.t 0))), (o 14 (.move (.t 6))), (o 15 (.indexAddrS 1 (.t 13) (.t 14))), (o 16 (.load .false 1 (.t 15))), (o 17 (.bin .add (.t 12) (.t 16))), (o 5 (.move (.t 17)))])) L38s0)
noncomputable def L38w0 : LCode := (.seq (.seq (.reg [(o 7 (.move (.t 6))), (o 8 (.move (.t 1))), (o 9 (.bin .lss (.t 7) (.t 8)))]) (.cond (.t 9) .skip (.exit 0))) L38s1)
noncomputable def L38s2 : LCode := (.seq (.reg [(o 18 (.move (.t 5))), (o 4 (.move (.t 18)))]) .ret)
noncomputable def L38s3 : LCode := (.seq (.seq (.reg [(o 6 (.move (.c (.int .i64 0))))]) (.block 0 (.loop L38w0))) L38s2)
noncomputable def L38 : LFunc := ⟨19, (.seq (.reg [(o 4 (.move (.c (.int .i64 0))))]) (.seq (.reg [(o 5 (.move (.c (.int .i64 0))))]) L38s3)), [(.t 4)], .false, .none, viaOff Go.Proofs.Try.prog⟩
theorem lp38 : LP 38 = some L38 := by kernel_rfl
noncomputable def L54r0 : List LOper := [(og 18 (.move (.t 8)) 17 .true), (og 19 (.bin .lss (.t 18) (.c (.int .i64 12))) 17 .true), (o 20 (.pick (.t 17) (.t 19) (.c (.bool .false))))]
noncomputable def L54r1 : List LOper := [(oa 42 (.bin .mul (.t 34) (.t 41)) [7]), (oa 43 (.bin .quo (.t 42) (.c (.int .i64 256))) [7]), (oa 11 (.move (.t 43)) [7])]
noncomputable def L54r2 : List LOper := ((o 37 (.move (.t 1))) :: (o 38 (.move (.t 10))) :: (o 39 (.call (.c (.func 38 [] [])) [(.t 37), (.t 38)])) :: (oa 40 (.bin .sub (.t 36) (.t 39)) [7]) :: (oa 41 (.bin .add (.t 40) (.c (.int .i64 5))) [7]) :: L54r1)
noncomputable def L54r3 : List LOper := [(og 55 (.move (.t 10)) 49 .true), (og 56 (.call (.c (.func 38 [] [])) [(.t 54), (.t 55)]) 49 .true), (og 57 (.bin .sub (.t 53) (.t 56)) 49 .true), (og 58 (.move (.t 11)) 49 .true), (og 59 (.bin .leq (.t 57) (.t 58)) 49 .true), (o 60 (.pick (.t 49) (.t 59) (.c (.bool .false))))]
noncomputable def L54r4 : List LOper := ((og 50 (.move (.t 1)) 49 .true) :: (og 51 (.move (.t 12)) 49 .true) :: (og 52 (.bin .add (.t 51) (.c (.int .i64 1))) 49 .true) :: (og 53 (.call (.c (.func 38 [] [])) [(.t 50), (.t 52)]) 49 .true) :: (og 54 (.move (.t 1)) 49 .true) :: L54r3)
noncomputable def L54s0 : LCode := (.block 3 (.reg [(o 61 (.move (.t 12))), (o 62 (.bin .add (.t 61) (.c (.int .i64 1)))), (o 12 (.move (.t 62)))]))
noncomputable def L54w0 : LCode := (.seq (.seq (.reg ((o 45 (.move (.t 12))) :: (o 46 (.fieldAddr 0 (.t 3))) :: (o 47 (.load .false 1 (.t 46))) :: (o 48 (.bin .lss (.t 45) (.t 47))) :: (o 49 (.move (.t 48))) :: L54r4)) (.cond (.t 60) .skip (.exit 2))) L54s0)
noncomputable def L54r5 : List LOper := [(o 78 (.build [(.int .i64 0), (.int .i64 0)] [(0, (1, (.t 71))), (1, (1, (.t 77)))])), (o 79 (.build [(.int .i64 0), (.int .i64 0), (.int .i64 0), (.int .i64 0)] [(0, (1, (.t 64))), (1, (1, (.t 65))), (2, (2, (.t 78)))])), (o 80 (.buildSlice 1 [(.int .i64 0), (.int .i64 0), (.int .i64 0), (.int .i64 0)] [(0, (4, (.t 79)))])), (o 81 (.append 4 32 (.t 63) (.t 80))), (o 7 (.move (.t 81)))]
noncomputable def L54r6 : List LOper := ((o 73 (.move (.t 9))) :: (o 74 (.bin .quo (.t 73) (.c (.int .i64 8192)))) :: (o 75 (.bin .rem (.t 74) (.c (.int .i64 3)))) :: (o 76 (.bin .add (.t 72) (.t 75))) :: (o 77 (.min [(.c (.int .i64 2000)), (.t 76)])) :: L54r5)
noncomputable def L54r7 : List LOper := ((o 68 (.bin .quo (.t 67) (.c (.int .i64 4096)))) :: (o 69 (.bin .rem (.t 68) (.c (.int .i64 4)))) :: (o 70 (.bin .sub (.t 66) (.t 69))) :: (o 71 (.max [(.c (.int .i64 0)), (.t 70)])) :: (o 72 (.move (.t 11))) :: L54r6)
noncomputable def L54s1 : LCode := (.reg ((o 63 (.move (.t 7))) :: (o 64 (.move (.t 10))) :: (o 65 (.move (.t 12))) :: (o 66 (.move (.t 11))) :: (o 67 (.move (.t 9))) :: L54r7))
noncomputable def L54s2 : LCode := (.seq (.reg [(o 44 (.move (.t 10))), (o 12 (.move (.t 44)))]) (.seq (.block 2 (.loop L54w0)) L54s1))
noncomputable def L54s3 : LCode := (.seq (.draw 8 ((o 32 (.move (.t 9))) :: (o 33 (.bin .quo (.t 32) (.c (.int .i64 16)))) :: (o 34 (.bin .rem (.t 33) (.c (.int .i64 256)))) :: (o 35 (.fieldAddr 1 (.t 3))) :: (o 36 (.load .false 1 (.t 35))) :: L54r2)) L54s2)
noncomputable def L54s4 : LCode := (.seq (.reg [(o 28 (.move (.t 9))), (o 29 (.fieldAddr 0 (.t 3))), (o 30 (.load .false 1 (.t 29))), (o 31 (.bin .rem (.t 28) (.t 30))), (o 10 (.move (.t 31)))]) L54s3)
noncomputable def L54s5 : LCode := (.reg [(o 21 (.move (.t 8))), (o 22 (.bin .add (.t 21) (.c (.int .i64 1)))), (o 8 (.move (.t 22)))])
noncomputable def L54s6 : LCode := (.seq (.block 1 (.seq (.reg [(o 23 (.move (.t 2))), (o 24 (.move (.t 8))), (o 25 (.indexAddrS 1 (.t 23) (.t 24))), (o 26 (.load .false 1 (.t 25))), (o 27 (.convInt .i64 (.t 26))), (o 9 (.move (.t 27)))]) L54s4)) L54s5)
noncomputable def L54w1 : LCode := (.seq (.seq (.reg ((o 13 (.move (.t 8))) :: (o 14 (.move (.t 2))) :: (o 15 (.len .slice (.t 14))) :: (o 16 (.bin .lss (.t 13) (.t 15))) :: (o 17 (.move (.t 16))) :: L54r0)) (.cond (.t 20) .skip (.exit 0))) L54s6)
noncomputable def L54s7 : LCode := (.seq (.reg [(o 82 (.move (.t 7))), (o 6 (.move (.t 82)))]) .ret)
noncomputable def L54s8 : LCode := (.seq (.seq (.reg [(o 8 (.move (.c (.int .i64 0))))]) (.block 0 (.loop L54w1))) L54s7)
noncomputable def L54 : LFunc := ⟨83, (.seq (.reg [(o 3 (.box (.t 0))), (o 6 (.move (.c (.slice .none 0 0))))]) (.seq (.reg [(o 7 (.move (.c (.slice .none 0 0))))]) L54s8)), [(.t 6)], .true, .none, viaOff Go.Proofs.Try.prog⟩
theorem lp54 : LP 54 = some L54 := by kernel_rfl
noncomputable def L62s0 : LCode := (.cond (.t 7) (.seq (.reg [(o 4 (.move (.c (.int .i64 0))))]) .ret) .skip)
noncomputable def L62r0 : List LOper := [(o 13 (.indexAddrS 1 (.t 8) (.t 12))), (o 14 (.load .false 1 (.t 13))), (o 15 (.convInt .i64 (.t 14))), (o 4 (.move (.t 15)))]
noncomputable def L62s1 : LCode := (.seq (.reg ((o 8 (.move (.t 0))) :: (o 9 (.move (.t 1))) :: (o 10 (.move (.t 0))) :: (o 11 (.len .slice (.t 10))) :: (o 12 (.bin .rem (.t 9) (.t 11))) :: L62r0)) .ret)
noncomputable def L62s2 : LCode := (.seq (.seq (.reg [(o 5 (.move (.t 0))), (o 6 (.len .slice (.t 5))), (o 7 (.eq (.cell (.i .i64)) .false (.t 6) (.c (.int .i64 0))))]) L62s0) L62s1)
noncomputable def L62 : LFunc := ⟨16, (.seq (.reg [(o 4 (.move (.c (.int .i64 0))))]) L62s2), [(.t 4)], .false, .none, viaOff Go.Proofs.Try.prog⟩
theorem lp62 : LP 62 = some L62 := by kernel_rfl
noncomputable def L66r0 : List LOper := [(og 10 (.move (.t 1)) 9 .true), (og 11 (.fieldAddr 1 (.t 2)) 9 .true), (og 12 (.load .false 1 (.t 11)) 9 .true), (og 13 (.bin .leq (.t 10) (.t 12)) 9 .true), (o 14 (.pick (.t 9) (.t 13) (.c (.bool .false)))), (o 4 (.move (.t 14)))]
noncomputable def L66s0 : LCode := (.seq (.reg ((o 5 (.fieldAddr 0 (.t 2))) :: (o 6 (.load .false 1 (.t 5))) :: (o 7 (.move (.t 1))) :: (o 8 (.bin .leq (.t 6) (.t 7))) :: (o 9 (.move (.t 8))) :: L66r0)) .ret)
noncomputable def L66 : LFunc := ⟨15, (.seq (.reg [(o 2 (.box (.t 0))), (o 4 (.move (.c (.bool .false))))]) L66s0), [(.t 4)], .false, .none, viaOff Go.Proofs.Try.prog⟩
theorem lp66 : LP 66 = some L66 := by kernel_rfl
noncomputable def L86r0 : List LOper := [(og 30 (.fieldAddr 2 (.t 3)) 29 .true), (og 31 (.load .true 2 (.t 30)) 29 .true), (og 32 (.call (.c (.func 83 [] [])) [(.t 31), (.c (.int .i64 0)), (.c (.int .i64 2000))]) 29 .true), (o 33 (.pick (.t 29) (.t 32) (.c (.bool .false)))), (o 4 (.move (.t 33)))]
noncomputable def L86r1 : List LOper := ((og 25 (.fieldAddr 0 (.t 2)) 22 .true) :: (og 26 (.load .false 1 (.t 25)) 22 .true) :: (og 27 (.bin .leq (.t 24) (.t 26)) 22 .true) :: (o 28 (.pick (.t 22) (.t 27) (.c (.bool .false)))) :: (o 29 (.move (.t 28))) :: L86r0)
noncomputable def L86r2 : List LOper := ((og 20 (.bin .leq (.t 17) (.t 19)) 15 .true) :: (o 21 (.pick (.t 15) (.t 20) (.c (.bool .false)))) :: (o 22 (.move (.t 21))) :: (og 23 (.fieldAddr 1 (.t 3)) 22 .true) :: (og 24 (.load .false 1 (.t 23)) 22 .true) :: L86r1)
noncomputable def L86r3 : List LOper := ((o 15 (.move (.t 14))) :: (og 16 (.fieldAddr 0 (.t 3)) 15 .true) :: (og 17 (.load .false 1 (.t 16)) 15 .true) :: (og 18 (.fieldAddr 1 (.t 3)) 15 .true) :: (og 19 (.load .false 1 (.t 18)) 15 .true) :: L86r2)
noncomputable def L86r4 : List LOper := ((og 10 (.load .false 1 (.t 9)) 8 .true) :: (og 11 (.fieldAddr 0 (.t 2)) 8 .true) :: (og 12 (.load .false 1 (.t 11)) 8 .true) :: (og 13 (.bin .lss (.t 10) (.t 12)) 8 .true) :: (o 14 (.pick (.t 8) (.t 13) (.c (.bool .false)))) :: L86r3)
noncomputable def L86s0 : LCode := (.seq (.reg ((o 5 (.fieldAddr 0 (.t 3))) :: (o 6 (.load .false 1 (.t 5))) :: (o 7 (.bin .leq (.c (.int .i64 0)) (.t 6))) :: (o 8 (.move (.t 7))) :: (og 9 (.fieldAddr 0 (.t 3)) 8 .true) :: L86r4)) .ret)
noncomputable def L86 : LFunc := ⟨34, (.seq (.reg [(o 2 (.box (.t 0))), (o 3 (.box (.t 1))), (o 4 (.move (.c (.bool .false))))]) L86s0), [(.t 4)], .false, .none, viaOff Go.Proofs.Try.prog⟩
theorem lp86 : LP 86 = some L86 := by kernel_rfl
noncomputable def L90r0 : List LOper := [(o 10 (.indexAddrA 13 1 (.t 9) (.c (.int .i64 0)))), (o 11 (.load .false 1 (.t 10))), (o 12 (.un .neg (.t 11))), (o 4 (.move (.t 12)))]
noncomputable def L90s0 : LCode := (.seq (.reg ((o 5 (.move (.t 0))) :: (o 6 (.move (.t 1))) :: (o 7 (.nilCheck (.t 5))) :: (o 8 (.fieldAddr 1 (.t 7))) :: (o 9 (.indexAddrA 13 13 (.t 8) (.t 6))) :: L90r0)) .ret)
noncomputable def L90 : LFunc := ⟨13, (.seq (.reg [(o 4 (.move (.c (.int .i64 0))))]) L90s0), [(.t 4)], .false, .none, viaOff Go.Proofs.Try.prog⟩
theorem lp90 : LP 90 = some L90 := by kernel_rfl
noncomputable def L3r0 : List LOper := [(og 15 (.len .slice (.t 14)) 13 .false), (og 16 (.bin .gtr (.t 15) (.c (.int .i64 15))) 13 .false), (o 17 (.pick (.t 13) (.c (.bool .true)) (.t 16)))]
noncomputable def L3s0 : LCode := (.cond (.t 17) (.seq (.reg [(o 18 (.call (.c (.func 19 [] [])) [])), (o 6 (.move (.t 18)))]) .ret) .skip)
noncomputable def L3r1 : List LOper := [(o 27 (.call (.c (.func 24 [] [])) [(.t 26)])), (o 28 (.call (.c (.func 22 [] [])) [(.t 23), (.t 25), (.t 27)])), (o 8 (.move (.t 28)))]
noncomputable def L3s1 : LCode := (.cond (.t 31) (.reg [(o 9 (.move (.c (.int .i64 1))))]) .skip)
noncomputable def L3r2 : List LOper := [(og 47 (.eq (.cell .b) .false (.t 36) (.t 46)) 35 .true), (o 48 (.pick (.t 35) (.t 47) (.c (.bool .false)))), (o 49 (.move (.t 48))), (og 50 (.call (.c (.func 19 [] [])) []) 49 .true), (o 51 (.pick (.t 49) (.t 50) (.c (.bool .false)))), (o 6 (.move (.t 51)))]
noncomputable def L3r3 : List LOper := ((og 42 (.load .true 4 (.t 3)) 41 .true) :: (og 43 (.move (.t 1)) 41 .true) :: (og 44 (.move (.t 2)) 41 .true) :: (og 45 (.call (.c (.func 27 [] [])) [(.t 42), (.t 43), (.t 44)]) 41 .true) :: (og 46 (.pick (.t 41) (.t 45) (.c (.bool .false))) 35 .true) :: L3r2)
noncomputable def L3r4 : List LOper := ((og 37 (.load .true 4 (.t 3)) 35 .true) :: (og 38 (.move (.t 1)) 35 .true) :: (og 39 (.call (.c (.func 26 [] [])) [(.t 37), (.t 38)]) 35 .true) :: (og 40 (.eq (.cell (.i .i64)) .false (.t 39) (.c (.int .i64 0))) 35 .true) :: (og 41 (.move (.t 40)) 35 .true) :: L3r3)
noncomputable def L3s2 : LCode := (.seq (.reg ((o 32 (.move (.t 7))) :: (o 33 (.move (.t 9))) :: (o 34 (.eq (.cell (.i .i64)) .false (.t 32) (.t 33))) :: (o 35 (.move (.t 34))) :: (og 36 (.move (.t 8)) 35 .true) :: L3r4)) .ret)
noncomputable def L3s3 : LCode := (.seq (.seq (.reg [(o 29 (.load .true 4 (.t 3))), (o 30 (.call (.c (.func 25 [] [])) [(.t 29)])), (o 31 (.un .not (.t 30)))]) L3s1) L3s2)
noncomputable def L3s4 : LCode := (.seq (.reg ((o 22 (.load .true 4 (.t 3))) :: (o 23 (.call (.c (.func 21 [] [])) [(.t 22)])) :: (o 24 (.move (.t 1))) :: (o 25 (.call (.c (.func 23 [] [])) [(.t 24)])) :: (o 26 (.move (.t 2))) :: L3r1)) (.seq (.reg [(o 9 (.move (.c (.int .i64 0))))]) L3s3))
noncomputable def L3s5 : LCode := (.seq (.reg [(o 19 (.load .true 4 (.t 3))), (o 20 (.call (.c (.func 21 [] [])) [(.t 19)])), (o 21 (.call (.c (.func 20 [] [])) [(.t 20)])), (o 7 (.move (.t 21)))]) L3s4)
noncomputable def L3s6 : LCode := (.seq (.seq (.reg ((o 10 (.move (.t 1))) :: (o 11 (.len .slice (.t 10))) :: (o 12 (.bin .gtr (.t 11) (.c (.int .i64 15)))) :: (o 13 (.move (.t 12))) :: (og 14 (.move (.t 2)) 13 .false) :: L3r0)) L3s0) L3s5)
noncomputable def L3 : LFunc := ⟨52, (.seq (.reg [(o 3 (.box (.t 0))), (o 6 (.move (.c (.bool .false))))]) L3s6), [(.t 6)], .false, .none, viaOff Go.Proofs.Try.prog⟩
noncomputable def L11s0 : LCode := (.cond (.t 17) (.seq (.reg [(o 18 (.call (.c (.func 19 [] [])) [])), (o 6 (.move (.t 18)))]) .ret) .skip)
noncomputable def L11r0 : List LOper := [(o 25 (.move (.t 30))), (o 31 (.extract (.t 25) 0)), (o 32 (.extract (.t 25) 1)), (o 8 (.move (.t 31))), (o 9 (.move (.t 32)))]
noncomputable def L11r1 : List LOper := [(og 38 (.fieldAddr 0 (.t 3)) 35 .false), (og 39 (.load .false 1 (.t 38)) 35 .false), (og 40 (.bin .add (.t 39) (.c (.int .i64 1))) 35 .false), (og 41 (.eq (.cell (.i .i64)) .true (.t 37) (.t 40)) 35 .false), (o 42 (.pick (.t 35) (.c (.bool .true)) (.t 41)))]
noncomputable def L11s1 : LCode := (.cond (.t 42) (.seq (.reg [(o 6 (.move (.c (.bool .false))))]) .ret) .skip)
noncomputable def L11r2 : List LOper := [(o 55 (.call (.c (.func 36 [] [])) [(.t 51), (.t 53), (.t 54), (.c (.bool .false))])), (o 49 (.move (.t 55))), (o 56 (.extract (.t 49) 0)), (o 57 (.extract (.t 49) 1)), (o 11 (.move (.t 56))), (o 12 (.move (.t 57)))]
noncomputable def L11r3 : List LOper := [(o 64 (.call (.c (.func 36 [] [])) [(.t 60), (.t 62), (.t 63), (.c (.bool .true))])), (o 58 (.move (.t 64))), (o 65 (.extract (.t 58) 0)), (o 66 (.extract (.t 58) 1)), (o 13 (.move (.t 65))), (o 14 (.move (.t 66)))]
noncomputable def L11r4 : List LOper := [(oga 102 (.move (.t 8)) 98 .false [23, 17, 10]), (oga 103 (.move (.t 10)) 98 .false [23, 17, 10]), (oga 104 (.indexAddrS 2 (.t 102) (.t 103)) 98 .false [23, 17, 10]), (oga 105 (.fieldAddr 1 (.t 104)) 98 .false [23, 17, 10]), (oga 106 (.load .false 1 (.t 105)) 98 .false [23, 17, 10]), (oga 107 (.eq (.cell (.i .i64)) .true (.t 101) (.t 106)) 98 .false [34, 23, 17, 10]), (oa 108 (.pick (.t 98) (.c (.bool .true)) (.t 107)) [34, 23, 17, 10])]
noncomputable def L11r5 : List LOper := ((oa 97 (.pick (.t 87) (.c (.bool .true)) (.t 96)) [23, 17, 10]) :: (oa 98 (.move (.t 97)) [23, 17, 10]) :: (oga 99 (.move (.t 13)) 98 .false [23, 17, 10]) :: (oga 100 (.move (.t 10)) 98 .false [23, 17, 10]) :: (oga 101 (.call (.c (.func 38 [] [])) [(.t 99), (.t 100)]) 98 .false [23, 17, 10]) :: L11r4)
noncomputable def L11r6 : List LOper := ((oga 92 (.move (.t 10)) 87 .false [17, 10]) :: (oga 93 (.indexAddrS 2 (.t 91) (.t 92)) 87 .false [17, 10]) :: (oga 94 (.fieldAddr 0 (.t 93)) 87 .false [17, 10]) :: (oga 95 (.load .false 1 (.t 94)) 87 .false [17, 10]) :: (oga 96 (.eq (.cell (.i .i64)) .true (.t 90) (.t 95)) 87 .false [23, 17, 10]) :: L11r5)
noncomputable def L11r7 : List LOper := ((oa 87 (.move (.t 86)) [17, 10]) :: (oga 88 (.move (.t 11)) 87 .false [17, 10]) :: (oga 89 (.move (.t 10)) 87 .false [17, 10]) :: (oga 90 (.call (.c (.func 38 [] [])) [(.t 88), (.t 89)]) 87 .false [17, 10]) :: (oga 91 (.move (.t 8)) 87 .false [17, 10]) :: L11r6)
noncomputable def L11r8 : List LOper := ((oga 82 (.move (.t 7)) 80 .false [10]) :: (oga 83 (.move (.t 13)) 80 .false [10]) :: (oga 84 (.call (.c (.func 27 [] [])) [(.t 81), (.t 82), (.t 83)]) 80 .false [10]) :: (oga 85 (.un .not (.t 84)) 80 .false [17, 10]) :: (oa 86 (.pick (.t 80) (.c (.bool .true)) (.t 85)) [17, 10]) :: L11r7)
noncomputable def L11r9 : List LOper := ((og 77 (.call (.c (.func 27 [] [])) [(.t 74), (.t 75), (.t 76)]) 73 .false) :: (oga 78 (.un .not (.t 77)) 73 .false [10]) :: (oa 79 (.pick (.t 73) (.c (.bool .true)) (.t 78)) [10]) :: (oa 80 (.move (.t 79)) [10]) :: (oga 81 (.load .true 4 (.t 3)) 80 .false [10]) :: L11r8)
noncomputable def L11r10 : List LOper := ((o 72 (.pick (.t 69) (.c (.bool .true)) (.t 71))) :: (o 73 (.move (.t 72))) :: (og 74 (.load .true 4 (.t 3)) 73 .false) :: (og 75 (.move (.t 7)) 73 .false) :: (og 76 (.move (.t 11)) 73 .false) :: L11r9)
noncomputable def L11s2 : LCode := (.cond (.t 108) (.seq (.reg [(o 6 (.move (.c (.bool .false))))]) .ret) .skip)
noncomputable def L11s3 : LCode := (.seq (.draw 40 ((o 67 (.move (.t 12))) :: (o 68 (.eq (.cell (.i .i64)) .true (.t 67) (.c (.int .i64 0)))) :: (o 69 (.move (.t 68))) :: (og 70 (.move (.t 14)) 69 .false) :: (og 71 (.eq (.cell (.i .i64)) .true (.t 70) (.c (.int .i64 0))) 69 .false) :: L11r10)) L11s2)
noncomputable def L11s4 : LCode := (.seq (.reg ((o 59 (.load .true 4 (.t 3))) :: (o 60 (.call (.c (.func 21 [] [])) [(.t 59)])) :: (o 61 (.move (.t 7))) :: (o 62 (.call (.c (.func 23 [] [])) [(.t 61)])) :: (o 63 (.move (.t 10))) :: L11r3)) L11s3)
noncomputable def L11s5 : LCode := (.reg [(o 47 (.move (.t 10))), (o 48 (.bin .add (.t 47) (.c (.int .i64 1)))), (o 10 (.move (.t 48)))])
noncomputable def L11s6 : LCode := (.seq (.block 1 (.seq (.reg ((o 50 (.load .true 4 (.t 3))) :: (o 51 (.call (.c (.func 21 [] [])) [(.t 50)])) :: (o 52 (.move (.t 7))) :: (o 53 (.call (.c (.func 23 [] [])) [(.t 52)])) :: (o 54 (.move (.t 10))) :: L11r2)) L11s4)) L11s5)
noncomputable def L11w0 : LCode := (.seq (.seq (.reg [(o 43 (.move (.t 10))), (o 44 (.fieldAddr 0 (.t 3))), (o 45 (.load .false 1 (.t 44))), (o 46 (.bin .leq (.t 43) (.t 45)))]) (.cond (.t 46) .skip (.exit 0))) L11s6)
noncomputable def L11s7 : LCode := (.seq (.reg [(o 109 (.call (.c (.func 19 [] [])) [])), (o 6 (.move (.t 109)))]) .ret)
noncomputable def L11s8 : LCode := (.seq (.seq (.reg [(o 10 (.move (.c (.int .i64 0))))]) (.block 0 (.loop L11w0))) L11s7)
noncomputable def L11s9 : LCode := (.seq (.seq (.reg ((o 33 (.move (.t 9))) :: (o 34 (.eq (.cell (.i .i64)) .true (.t 33) (.c (.int .i64 0)))) :: (o 35 (.move (.t 34))) :: (og 36 (.move (.t 8)) 35 .false) :: (og 37 (.len .slice (.t 36)) 35 .false) :: L11r1)) L11s1) L11s8)
noncomputable def L11s10 : LCode := (.seq (.reg ((o 26 (.load .true 4 (.t 3))) :: (o 27 (.call (.c (.func 21 [] [])) [(.t 26)])) :: (o 28 (.move (.t 7))) :: (o 29 (.call (.c (.func 23 [] [])) [(.t 28)])) :: (o 30 (.call (.c (.func 29 [] [])) [(.t 27), (.t 29)])) :: L11r0)) L11s9)
noncomputable def L11s11 : LCode := (.seq (.draw 4 [(o 19 (.load .true 4 (.t 3))), (o 20 (.load .true 4 (.t 3))), (o 21 (.move (.t 1))), (o 22 (.call (.c (.func 53 [] [])) [(.t 20), (.t 21)])), (o 23 (.move (.t 2))), (oa 24 (.call (.c (.func 54 [] [])) [(.t 19), (.t 22), (.t 23)]) [3]), (oa 7 (.move (.t 24)) [5, 3])]) L11s10)
noncomputable def L11s12 : LCode := (.seq (.seq (.reg [(o 15 (.load .true 4 (.t 3))), (o 16 (.call (.c (.func 25 [] [])) [(.t 15)])), (o 17 (.un .not (.t 16)))]) L11s0) L11s11)
noncomputable def L11 : LFunc := ⟨110, (.seq (.reg [(o 3 (.box (.t 0))), (o 6 (.move (.c (.bool .false))))]) L11s12), [(.t 6)], .false, .none, viaOff Go.Proofs.Try.prog⟩
theorem lp11 : LP 11 = some L11 := by kernel_rfl
noncomputable def L23r0 : List LOper := [(o 26 (.load .true 2 (.t 25))), (o 27 (.call (.c (.func 35 [] [])) [(.t 26)])), (oa 28 (.build [(.int .i64 0), (.int .i64 0), (.int .i64 0), (.int .i64 0)] [(0, (1, (.t 16))), (1, (1, (.t 21))), (2, (2, (.t 27)))]) [16]), (oa 29 (.buildSlice 1 [(.int .i64 0), (.int .i64 0), (.int .i64 0), (.int .i64 0)] [(0, (4, (.t 28)))]) [16]), (oa 30 (.append 4 32 (.t 11) (.t 29)) [18, 16]), (oa 3 (.move (.t 30)) [19, 18, 16])]
noncomputable def L23r1 : List LOper := ((o 21 (.load .false 1 (.t 20))) :: (o 22 (.move (.t 0))) :: (o 23 (.move (.t 4))) :: (o 24 (.indexAddrS 4 (.t 22) (.t 23))) :: (o 25 (.fieldAddr 2 (.t 24))) :: L23r0)
noncomputable def L23r2 : List LOper := ((o 16 (.load .false 1 (.t 15))) :: (o 17 (.move (.t 0))) :: (o 18 (.move (.t 4))) :: (o 19 (.indexAddrS 4 (.t 17) (.t 18))) :: (o 20 (.fieldAddr 1 (.t 19))) :: L23r1)
noncomputable def L23s0 : LCode := (.reg [(o 9 (.move (.t 4))), (o 10 (.bin .add (.t 9) (.c (.int .i64 1)))), (o 4 (.move (.t 10)))])
noncomputable def L23s1 : LCode := (.seq (.block 1 (.draw 17 ((o 11 (.move (.t 3))) :: (o 12 (.move (.t 0))) :: (o 13 (.move (.t 4))) :: (o 14 (.indexAddrS 4 (.t 12) (.t 13))) :: (o 15 (.fieldAddr 0 (.t 14))) :: L23r2))) L23s0)
noncomputable def L23w0 : LCode := (.seq (.seq (.reg [(o 5 (.move (.t 4))), (o 6 (.move (.t 0))), (o 7 (.len .slice (.t 6))), (o 8 (.bin .lss (.t 5) (.t 7)))]) (.cond (.t 8) .skip (.exit 0))) L23s1)
noncomputable def L23s2 : LCode := (.seq (.reg [(o 31 (.move (.t 3))), (o 2 (.move (.t 31)))]) .ret)
noncomputable def L23s3 : LCode := (.seq (.seq (.reg [(o 4 (.move (.c (.int .i64 0))))]) (.block 0 (.loop L23w0))) L23s2)
noncomputable def L23 : LFunc := ⟨32, (.seq (.reg [(o 2 (.move (.c (.slice .none 0 0))))]) (.seq (.reg [(o 3 (.move (.c (.slice .none 0 0))))]) L23s3)), [(.t 2)], .true, .none, viaOff Go.Proofs.Try.prog⟩
theorem lp23 : LP 23 = some L23 := by kernel_rfl
noncomputable def L27s0 : LCode := (.cond (.t 13) (.seq (.reg [(o 6 (.move (.c (.bool .false))))]) .ret) .skip)
noncomputable def L27r0 : List LOper := [(o 25 (.fieldAddr 0 (.t 24))), (o 26 (.load .false 1 (.t 25))), (o 27 (.fieldAddr 2 (.t 3))), (o 28 (.fieldAddr 1 (.t 27))), (o 29 (.load .false 1 (.t 28))), (o 30 (.call (.c (.func 37 [] [])) [(.t 23), (.t 26), (.t 29)])), (oa 31 (.un .not (.t 30)) [10])]
noncomputable def L27s1 : LCode := (.cond (.t 31) (.seq (.reg [(o 6 (.move (.c (.bool .false))))]) .ret) .skip)
noncomputable def L27s2 : LCode := (.reg [(o 18 (.move (.t 7))), (o 19 (.bin .add (.t 18) (.c (.int .i64 1)))), (o 7 (.move (.t 19)))])
noncomputable def L27s3 : LCode := (.seq (.block 1 (.seq (.draw 10 ((o 20 (.move (.t 2))) :: (o 21 (.move (.t 7))) :: (o 22 (.indexAddrS 1 (.t 20) (.t 21))) :: (o 23 (.load .false 1 (.t 22))) :: (o 24 (.fieldAddr 2 (.t 3))) :: L27r0)) L27s1)) L27s2)
noncomputable def L27w1 : LCode := (.seq (.seq (.reg [(o 14 (.move (.t 7))), (o 15 (.move (.t 2))), (o 16 (.len .slice (.t 15))), (o 17 (.bin .lss (.t 14) (.t 16)))]) (.cond (.t 17) .skip (.exit 0))) L27s3)
noncomputable def L27r1 : List LOper := [(o 43 (.move (.t 2))), (o 44 (.call (.c (.func 71 [] [])) [(.t 38), (.t 42), (.t 43)])), (oa 45 (.un .not (.t 44)) [6])]
noncomputable def L27s4 : LCode := (.cond (.t 45) (.seq (.reg [(o 6 (.move (.c (.bool .false))))]) .ret) .skip)
noncomputable def L27s5 : LCode := (.reg [(o 36 (.move (.t 8))), (o 37 (.bin .add (.t 36) (.c (.int .i64 1)))), (o 8 (.move (.t 37)))])
noncomputable def L27s6 : LCode := (.seq (.block 3 (.seq (.draw 5 ((o 38 (.load .true 4 (.t 3))) :: (o 39 (.move (.t 1))) :: (o 40 (.move (.t 8))) :: (o 41 (.indexAddrS 4 (.t 39) (.t 40))) :: (o 42 (.load .true 4 (.t 41))) :: L27r1)) L27s4)) L27s5)
noncomputable def L27w0 : LCode := (.seq (.seq (.reg [(o 32 (.move (.t 8))), (o 33 (.move (.t 1))), (o 34 (.len .slice (.t 33))), (o 35 (.bin .lss (.t 32) (.t 34)))]) (.cond (.t 35) .skip (.exit 2))) L27s6)
noncomputable def L27r2 : List LOper := [(o 51 (.load .false 1 (.t 50))), (oa 52 (.eq (.cell (.i .i64)) .false (.t 49) (.t 51)) [3]), (oa 6 (.move (.t 52)) [3])]
noncomputable def L27s7 : LCode := (.seq (.draw 6 ((o 46 (.move (.t 2))) :: (o 47 (.fieldAddr 0 (.t 3))) :: (o 48 (.load .false 1 (.t 47))) :: (o 49 (.call (.c (.func 38 [] [])) [(.t 46), (.t 48)])) :: (o 50 (.fieldAddr 1 (.t 3))) :: L27r2)) .ret)
noncomputable def L27s8 : LCode := (.seq (.seq (.reg [(o 8 (.move (.c (.int .i64 0))))]) (.block 2 (.loop L27w0))) L27s7)
noncomputable def L27s9 : LCode := (.seq (.seq (.reg [(o 7 (.move (.c (.int .i64 0))))]) (.block 0 (.loop L27w1))) L27s8)
noncomputable def L27s10 : LCode := (.seq (.seq (.reg [(o 9 (.move (.t 2))), (o 10 (.len .slice (.t 9))), (o 11 (.fieldAddr 0 (.t 3))), (o 12 (.load .false 1 (.t 11))), (o 13 (.eq (.cell (.i .i64)) .true (.t 10) (.t 12)))]) L27s0) L27s9)
noncomputable def L27 : LFunc := ⟨53, (.seq (.reg [(o 3 (.box (.t 0))), (o 6 (.move (.c (.bool .false))))]) L27s10), [(.t 6)], .false, .none, viaOff Go.Proofs.Try.prog⟩
theorem lp27 : LP 27 = some L27 := by kernel_rfl
noncomputable def L35s0 : LCode := (.seq (.reg [(o 3 (.fieldAddr 0 (.t 1))), (o 4 (.load .false 1 (.t 3))), (o 5 (.fieldAddr 1 (.t 1))), (o 6 (.load .false 1 (.t 5))), (o 7 (.build [(.int .i64 0), (.int .i64 0)] [(0, (1, (.t 4))), (1, (1, (.t 6)))])), (on (.store 2 (.t 2) (.t 7)))]) .ret)
noncomputable def L35 : LFunc := ⟨8, (.seq (.reg [(o 1 (.box (.t 0))), (o 2 (.alloc [(.int .i64 0), (.int .i64 0)]))]) L35s0), [(.cell 2 .true 2)], .false, .none, viaOff Go.Proofs.Try.prog⟩
theorem lp35 : LP 35 = some L35 := by kernel_rfl
noncomputable def L63r0 : List LOper := [(og 14 (.load .true 2 (.t 13)) 12 .false), (og 15 (.call (.c (.func 83 [] [])) [(.t 14), (.c (.int .i64 1)), (.c (.int .i64 200))]) 12 .false), (og 16 (.un .not (.t 15)) 12 .false), (o 17 (.pick (.t 12) (.c (.bool .true)) (.t 16)))]
noncomputable def L63r1 : List LOper := ((og 9 (.load .false 1 (.t 8)) 7 .false) :: (og 10 (.bin .gtr (.t 9) (.c (.int .i64 10))) 7 .false) :: (o 11 (.pick (.t 7) (.c (.bool .true)) (.t 10))) :: (o 12 (.move (.t 11))) :: (og 13 (.fieldAddr 2 (.t 1)) 12 .false) :: L63r0)
noncomputable def L63s0 : LCode := (.cond (.t 17) (.seq (.reg [(o 2 (.move (.c (.bool .false))))]) .ret) .skip)
noncomputable def L63r2 : List LOper := [(o 28 (.load .false 1 (.t 27))), (o 29 (.bin .mul (.t 25) (.t 28))), (o 30 (.build [(.int .i64 0), (.int .i64 0)] [(0, (1, (.t 23))), (1, (1, (.t 29)))])), (o 3 (.alloc [(.int .i64 0), (.int .i64 0)])), (on (.store 2 (.t 3) (.t 30)))]
noncomputable def L63r3 : List LOper := ((o 23 (.bin .mul (.t 19) (.t 22))) :: (o 24 (.fieldAddr 0 (.t 1))) :: (o 25 (.load .false 1 (.t 24))) :: (o 26 (.fieldAddr 2 (.t 1))) :: (o 27 (.fieldAddr 1 (.t 26))) :: L63r2)
noncomputable def L63r4 : List LOper := [(og 36 (.fieldAddr 1 (.t 1)) 34 .true), (og 37 (.load .false 1 (.t 36)) 34 .true), (og 38 (.call (.c (.func 66 [] [])) [(.t 35), (.t 37)]) 34 .true), (o 39 (.pick (.t 34) (.t 38) (.c (.bool .false)))), (o 2 (.move (.t 39)))]
noncomputable def L63s1 : LCode := (.seq (.reg ((o 31 (.fieldAddr 1 (.t 1))) :: (o 32 (.load .false 1 (.t 31))) :: (o 33 (.bin .leq (.t 32) (.c (.int .i64 2000)))) :: (o 34 (.move (.t 33))) :: (og 35 (.load .true 2 (.t 3)) 34 .true) :: L63r4)) .ret)
noncomputable def L63s2 : LCode := (.seq (.reg ((o 18 (.fieldAddr 0 (.t 1))) :: (o 19 (.load .false 1 (.t 18))) :: (o 20 (.fieldAddr 2 (.t 1))) :: (o 21 (.fieldAddr 0 (.t 20))) :: (o 22 (.load .false 1 (.t 21))) :: L63r3)) L63s1)
noncomputable def L63s3 : LCode := (.seq (.seq (.reg ((o 4 (.fieldAddr 0 (.t 1))) :: (o 5 (.load .false 1 (.t 4))) :: (o 6 (.bin .lss (.t 5) (.c (.int .i64 1)))) :: (o 7 (.move (.t 6))) :: (og 8 (.fieldAddr 0 (.t 1)) 7 .false) :: L63r1)) L63s0) L63s2)
noncomputable def L63 : LFunc := ⟨40, (.seq (.reg [(o 1 (.box (.t 0))), (o 2 (.move (.c (.bool .false))))]) L63s3), [(.t 2)], .false, .none, viaOff Go.Proofs.Try.prog⟩
theorem lp63 : LP 63 = some L63 := by kernel_rfl
noncomputable def L71r0 : List LOper := [(o 24 (.fieldAddr 2 (.t 4))), (o 25 (.fieldAddr 1 (.t 24))), (o 26 (.load .false 1 (.t 25))), (oa 8 (.move (.t 23)) [6]), (oa 9 (.move (.t 26)) [6])]
noncomputable def L71r1 : List LOper := ((o 19 (.load .false 1 (.t 18))) :: (o 20 (.call (.c (.func 38 [] [])) [(.t 17), (.t 19)])) :: (o 21 (.move (.t 7))) :: (oa 22 (.bin .sub (.t 20) (.t 21)) [6]) :: (oa 23 (.max [(.t 16), (.t 22)]) [6]) :: L71r0)
noncomputable def L71r2 : List LOper := [(o 37 (.call (.c (.func 38 [] [])) [(.t 33), (.t 36)])), (o 38 (.move (.t 7))), (o 39 (.bin .sub (.t 37) (.t 38))), (o 40 (.bin .sub (.t 39) (.c (.int .i64 1)))), (o 41 (.min [(.t 32), (.t 40)])), (o 9 (.move (.t 41)))]
noncomputable def L71s0 : LCode := (.cond (.t 31) (.reg ((o 32 (.move (.t 9))) :: (o 33 (.move (.t 2))) :: (o 34 (.fieldAddr 1 (.t 4))) :: (o 35 (.load .false 1 (.t 34))) :: (o 36 (.bin .add (.t 35) (.c (.int .i64 1)))) :: L71r2)) .skip)
noncomputable def L71s1 : LCode := (.seq (.reg [(o 42 (.move (.t 8))), (o 43 (.move (.t 9))), (o 44 (.bin .leq (.t 42) (.t 43))), (o 6 (.move (.t 44)))]) .ret)
noncomputable def L71s2 : LCode := (.seq (.seq (.reg [(o 27 (.fieldAddr 1 (.t 4))), (o 28 (.load .false 1 (.t 27))), (o 29 (.fieldAddr 0 (.t 3))), (o 30 (.load .false 1 (.t 29))), (o 31 (.bin .lss (.t 28) (.t 30)))]) L71s0) L71s1)
noncomputable def L71s3 : LCode := (.seq (.draw 13 ((o 14 (.fieldAddr 2 (.t 4))) :: (o 15 (.fieldAddr 0 (.t 14))) :: (o 16 (.load .false 1 (.t 15))) :: (o 17 (.move (.t 2))) :: (o 18 (.fieldAddr 1 (.t 4))) :: L71r1)) L71s2)
noncomputable def L71s4 : LCode := (.seq (.reg [(o 10 (.move (.t 2))), (o 11 (.fieldAddr 0 (.t 4))), (o 12 (.load .false 1 (.t 11))), (o 13 (.call (.c (.func 38 [] [])) [(.t 10), (.t 12)])), (o 7 (.move (.t 13)))]) L71s3)
noncomputable def L71 : LFunc := ⟨45, (.seq (.reg [(o 3 (.box (.t 0))), (o 4 (.box (.t 1))), (o 6 (.move (.c (.bool .false))))]) L71s4), [(.t 6)], .false, .none, viaOff Go.Proofs.Try.prog⟩
theorem lp71 : LP 71 = some L71 := by kernel_rfl
end Go.Hx

