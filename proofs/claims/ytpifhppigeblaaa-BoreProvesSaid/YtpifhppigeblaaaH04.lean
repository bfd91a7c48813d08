/- The functions of the program, as the plain machine runs them. -/
import Derived.Test.YtpifhppigeblaaaH00
import Derived.Test.YtpifhppigeblaaaProg
import Derived.ProofKit
set_option linter.all false
/- The functions of the program, as the plain machine runs them. -/
namespace Go.Hx
set_option maxRecDepth 100000
abbrev o (d : Nat) (p : LOp) : LOper := ⟨some d, p, none, []⟩
abbrev oa (d : Nat) (p : LOp) (a : List Nat) : LOper := ⟨some d, p, none, a⟩
abbrev og (d : Nat) (p : LOp) (t : Nat) (b : Bool) : LOper := ⟨some d, p, some (t, b), []⟩
abbrev oga (d : Nat) (p : LOp) (t : Nat) (b : Bool) (a : List Nat) : LOper := ⟨some d, p, some (t, b), a⟩
abbrev on (p : LOp) : LOper := ⟨none, p, none, []⟩
abbrev ona (p : LOp) (a : List Nat) : LOper := ⟨none, p, none, a⟩
noncomputable abbrev LP : Nat → Option LFunc := lowP Go.Proofs.Try.prog [23, 24, 29, 30, 32, 36, 39, 41, 43, 44, 46, 50, 53, 54, 59, 60, 67, 73, 76, 78, 80, 82, 92, 95, 99, 100, 101, 102, 104]
noncomputable def L4s0 : LCode := (.cond (.t 18) (.seq (.reg [(o 19 (.call (.c (.func 19 [] [])) [])), (o 4 (.move (.t 19)))]) .ret) .skip)
noncomputable def L4r0 : List LOper := [(o 20 (.move (.t 25))), (o 26 (.extract (.t 20) 0)), (o 27 (.extract (.t 20) 1)), (o 5 (.move (.t 26))), (o 6 (.move (.t 27)))]
noncomputable def L4r1 : List LOper := [(o 28 (.move (.t 33))), (o 34 (.extract (.t 28) 0)), (o 35 (.extract (.t 28) 1)), (o 7 (.move (.t 34))), (o 8 (.move (.t 35)))]
noncomputable def L4r2 : List LOper := [(o 36 (.move (.t 41))), (o 42 (.extract (.t 36) 0)), (o 43 (.extract (.t 36) 1)), (o 9 (.move (.t 42))), (o 10 (.move (.t 43)))]
noncomputable def L4r3 : List LOper := [(o 49 (.extract (.t 44) 1)), (o 11 (.move (.t 48))), (o 12 (.move (.t 49)))]
noncomputable def L4r4 : List LOper := [(o 77 (.move (.t 76))), (og 78 (.call (.c (.func 19 [] [])) []) 77 .true), (o 79 (.pick (.t 77) (.t 78) (.c (.bool .false)))), (o 4 (.move (.t 79)))]
noncomputable def L4r5 : List LOper := ((o 72 (.pick (.t 65) (.t 71) (.c (.bool .false)))) :: (o 73 (.move (.t 72))) :: (og 74 (.move (.t 9)) 73 .true) :: (og 75 (.eq (.cell (.i .i64)) .false (.t 74) (.c (.int .i64 0))) 73 .true) :: (o 76 (.pick (.t 73) (.t 75) (.c (.bool .false)))) :: L4r4)
noncomputable def L4r6 : List LOper := ((og 67 (.len .slice (.t 66)) 65 .true) :: (og 68 (.move (.t 7)) 65 .true) :: (og 69 (.len .slice (.t 68)) 65 .true) :: (og 70 (.bin .add (.t 67) (.t 69)) 65 .true) :: (og 71 (.eq (.cell (.i .i64)) .false (.t 70) (.c (.int .i64 0))) 65 .true) :: L4r5)
noncomputable def L4r7 : List LOper := ((og 62 (.move (.t 12)) 60 .true) :: (og 63 (.eq (.cell (.i .i64)) .false (.t 61) (.t 62)) 60 .true) :: (o 64 (.pick (.t 60) (.t 63) (.c (.bool .false)))) :: (o 65 (.move (.t 64))) :: (og 66 (.move (.t 5)) 65 .true) :: L4r6)
noncomputable def L4r8 : List LOper := ((og 57 (.move (.t 12)) 55 .true) :: (og 58 (.eq (.cell (.i .i64)) .false (.t 56) (.t 57)) 55 .true) :: (o 59 (.pick (.t 55) (.t 58) (.c (.bool .false)))) :: (o 60 (.move (.t 59))) :: (og 61 (.move (.t 10)) 60 .true) :: L4r7)
noncomputable def L4s1 : LCode := (.cond (.t 51) (.seq (.reg ((o 52 (.move (.t 6))) :: (o 53 (.move (.t 12))) :: (o 54 (.eq (.cell (.i .i64)) .false (.t 52) (.t 53))) :: (o 55 (.move (.t 54))) :: (og 56 (.move (.t 8)) 55 .true) :: L4r8)) .ret) .skip)
noncomputable def L4r9 : List LOper := [(og 110 (.call (.c (.func 33 [] [])) [(.t 108), (.t 109)]) 106 .false), (og 111 (.eq (.cell (.i .i64)) .true (.t 107) (.t 110)) 106 .false), (o 112 (.pick (.t 106) (.c (.bool .true)) (.t 111)))]
noncomputable def L4r10 : List LOper := ((o 105 (.pick (.t 98) (.c (.bool .true)) (.t 104))) :: (o 106 (.move (.t 105))) :: (og 107 (.move (.t 9)) 106 .false) :: (og 108 (.load .true 4 (.t 2)) 106 .false) :: (og 109 (.move (.t 11)) 106 .false) :: L4r9)
noncomputable def L4r11 : List LOper := ((og 100 (.len .slice (.t 99)) 98 .false) :: (og 101 (.fieldAddr 0 (.t 2)) 98 .false) :: (og 102 (.load .false 1 (.t 101)) 98 .false) :: (og 103 (.bin .add (.t 102) (.c (.int .i64 1))) 98 .false) :: (og 104 (.eq (.cell (.i .i64)) .true (.t 100) (.t 103)) 98 .false) :: L4r10)
noncomputable def L4r12 : List LOper := ((og 95 (.bin .add (.t 94) (.c (.int .i64 1))) 90 .false) :: (og 96 (.eq (.cell (.i .i64)) .true (.t 92) (.t 95)) 90 .false) :: (o 97 (.pick (.t 90) (.c (.bool .true)) (.t 96))) :: (o 98 (.move (.t 97))) :: (og 99 (.move (.t 7)) 98 .false) :: L4r11)
noncomputable def L4r13 : List LOper := ((o 90 (.move (.t 89))) :: (og 91 (.move (.t 5)) 90 .false) :: (og 92 (.len .slice (.t 91)) 90 .false) :: (og 93 (.fieldAddr 0 (.t 2)) 90 .false) :: (og 94 (.load .false 1 (.t 93)) 90 .false) :: L4r12)
noncomputable def L4r14 : List LOper := ((o 85 (.pick (.t 82) (.c (.bool .true)) (.t 84))) :: (o 86 (.move (.t 85))) :: (og 87 (.move (.t 10)) 86 .false) :: (og 88 (.eq (.cell (.i .i64)) .true (.t 87) (.c (.int .i64 0))) 86 .false) :: (o 89 (.pick (.t 86) (.c (.bool .true)) (.t 88))) :: L4r13)
noncomputable def L4s2 : LCode := (.cond (.t 112) (.seq (.reg [(o 4 (.move (.c (.bool .false))))]) .ret) .skip)
noncomputable def L4r15 : List LOper := [(oga 157 (.bin .mul (.t 154) (.t 156)) 146 .false [5]), (oga 158 (.fieldAddr 1 (.t 2)) 146 .false [5]), (oga 159 (.load .false 1 (.t 158)) 146 .false [5]), (oga 160 (.bin .quo (.t 157) (.t 159)) 146 .false [5]), (oga 161 (.eq (.cell (.i .i64)) .true (.t 151) (.t 160)) 146 .false [5]), (oa 162 (.pick (.t 146) (.c (.bool .true)) (.t 161)) [5])]
noncomputable def L4r16 : List LOper := ((oga 152 (.fieldAddr 0 (.t 2)) 146 .false [5]) :: (oga 153 (.load .false 1 (.t 152)) 146 .false [5]) :: (oga 154 (.bin .mul (.c (.int .i64 1000)) (.t 153)) 146 .false [5]) :: (oga 155 (.fieldAddr 1 (.t 14)) 146 .false [5]) :: (oga 156 (.load .false 1 (.t 155)) 146 .false [5]) :: L4r15)
noncomputable def L4r17 : List LOper := ((oga 147 (.move (.t 7)) 146 .false [5]) :: (oga 148 (.move (.t 13)) 146 .false [5]) :: (oga 149 (.indexAddrS 2 (.t 147) (.t 148)) 146 .false [5]) :: (oga 150 (.fieldAddr 1 (.t 149)) 146 .false [5]) :: (oga 151 (.load .false 1 (.t 150)) 146 .false [5]) :: L4r16)
noncomputable def L4r18 : List LOper := ((oga 142 (.load .false 1 (.t 141)) 129 .false [5]) :: (oga 143 (.bin .quo (.t 140) (.t 142)) 129 .false [5]) :: (oga 144 (.eq (.cell (.i .i64)) .true (.t 134) (.t 143)) 129 .false [5]) :: (oa 145 (.pick (.t 129) (.c (.bool .true)) (.t 144)) [5]) :: (oa 146 (.move (.t 145)) [5]) :: L4r17)
noncomputable def L4r19 : List LOper := ((oga 137 (.bin .mul (.c (.int .i64 1000)) (.t 136)) 129 .false [5]) :: (oga 138 (.fieldAddr 0 (.t 14)) 129 .false [5]) :: (oga 139 (.load .false 1 (.t 138)) 129 .false [5]) :: (oga 140 (.bin .mul (.t 137) (.t 139)) 129 .false [5]) :: (oga 141 (.fieldAddr 1 (.t 2)) 129 .false [5]) :: L4r18)
noncomputable def L4r20 : List LOper := ((oga 132 (.indexAddrS 2 (.t 130) (.t 131)) 129 .false [5]) :: (oga 133 (.fieldAddr 0 (.t 132)) 129 .false [5]) :: (oga 134 (.load .false 1 (.t 133)) 129 .false [5]) :: (oga 135 (.fieldAddr 0 (.t 2)) 129 .false [5]) :: (oga 136 (.load .false 1 (.t 135)) 129 .false [5]) :: L4r19)
noncomputable def L4r21 : List LOper := ((o 127 (.call (.c (.func 35 [] [])) [(.t 126)])) :: (oa 128 (.eq (.row [(.i .i64), (.i .i64)]) .true (.t 125) (.t 127)) [5]) :: (oa 129 (.move (.t 128)) [5]) :: (oga 130 (.move (.t 7)) 129 .false [5]) :: (oga 131 (.move (.t 13)) 129 .false [5]) :: L4r20)
noncomputable def L4s3 : LCode := (.cond (.t 162) (.seq (.reg [(o 4 (.move (.c (.bool .false))))]) .ret) .skip)
noncomputable def L4s4 : LCode := (.seq (.draw 38 ((o 122 (.move (.t 5))) :: (o 123 (.move (.t 13))) :: (o 124 (.indexAddrS 2 (.t 122) (.t 123))) :: (o 125 (.load .true 2 (.t 124))) :: (o 126 (.load .true 2 (.t 14))) :: L4r21)) L4s3)
noncomputable def L4s5 : LCode := (.reg [(o 117 (.move (.t 13))), (o 118 (.bin .add (.t 117) (.c (.int .i64 1)))), (o 13 (.move (.t 118)))])
noncomputable def L4s6 : LCode := (.seq (.block 1 (.seq (.reg [(o 119 (.move (.t 11))), (o 120 (.move (.t 13))), (o 121 (.call (.c (.func 34 [] [])) [(.t 119), (.t 120)])), (o 14 (.alloc [(.int .i64 0), (.int .i64 0)])), (on (.store 2 (.t 14) (.t 121)))]) L4s4)) L4s5)
noncomputable def L4w0 : LCode := (.seq (.seq (.reg [(o 113 (.move (.t 13))), (o 114 (.move (.t 5))), (o 115 (.len .slice (.t 114))), (o 116 (.bin .lss (.t 113) (.t 115)))]) (.cond (.t 116) .skip (.exit 0))) L4s6)
noncomputable def L4s7 : LCode := (.seq (.reg [(o 163 (.call (.c (.func 19 [] [])) [])), (o 4 (.move (.t 163)))]) .ret)
noncomputable def L4s8 : LCode := (.seq (.seq (.reg [(o 13 (.move (.c (.int .i64 0))))]) (.block 0 (.loop L4w0))) L4s7)
noncomputable def L4s9 : LCode := (.seq (.seq (.reg ((o 80 (.move (.t 6))) :: (o 81 (.eq (.cell (.i .i64)) .true (.t 80) (.c (.int .i64 0)))) :: (o 82 (.move (.t 81))) :: (og 83 (.move (.t 8)) 82 .false) :: (og 84 (.eq (.cell (.i .i64)) .true (.t 83) (.c (.int .i64 0))) 82 .false) :: L4r14)) L4s2) L4s8)
noncomputable def L4s10 : LCode := (.seq (.seq (.reg [(o 50 (.move (.t 12))), (o 51 (.eq (.cell (.i .i64)) .true (.t 50) (.c (.int .i64 0))))]) L4s1) L4s9)
noncomputable def L4s11 : LCode := (.seq (.reg ((o 45 (.load .true 4 (.t 2))) :: (o 46 (.move (.t 1))) :: (o 47 (.call (.c (.func 32 [] [])) [(.t 45), (.t 46), (.c (.bool .true))])) :: (o 44 (.move (.t 47))) :: (o 48 (.extract (.t 44) 0)) :: L4r3)) L4s10)
noncomputable def L4s12 : LCode := (.seq (.reg ((o 37 (.load .true 4 (.t 2))) :: (o 38 (.call (.c (.func 21 [] [])) [(.t 37)])) :: (o 39 (.move (.t 1))) :: (o 40 (.call (.c (.func 23 [] [])) [(.t 39)])) :: (o 41 (.call (.c (.func 31 [] [])) [(.t 38), (.t 40)])) :: L4r2)) L4s11)
noncomputable def L4s13 : LCode := (.seq (.reg ((o 29 (.load .true 4 (.t 2))) :: (o 30 (.call (.c (.func 21 [] [])) [(.t 29)])) :: (o 31 (.move (.t 1))) :: (o 32 (.call (.c (.func 23 [] [])) [(.t 31)])) :: (o 33 (.call (.c (.func 30 [] [])) [(.t 30), (.t 32)])) :: L4r1)) L4s12)
noncomputable def L4s14 : LCode := (.seq (.reg ((o 21 (.load .true 4 (.t 2))) :: (o 22 (.call (.c (.func 21 [] [])) [(.t 21)])) :: (o 23 (.move (.t 1))) :: (o 24 (.call (.c (.func 23 [] [])) [(.t 23)])) :: (o 25 (.call (.c (.func 29 [] [])) [(.t 22), (.t 24)])) :: L4r0)) L4s13)
noncomputable def L4s15 : LCode := (.seq (.seq (.reg [(o 15 (.load .true 4 (.t 2))), (o 16 (.move (.t 1))), (o 17 (.call (.c (.func 28 [] [])) [(.t 15), (.t 16)])), (o 18 (.un .not (.t 17)))]) L4s0) L4s14)
noncomputable def L4 : LFunc := ⟨164, (.seq (.reg [(o 2 (.box (.t 0))), (o 4 (.move (.c (.bool .false))))]) L4s15), [(.t 4)], .false, .none, viaOff Go.Proofs.Try.prog⟩
noncomputable def L20s0 : LCode := (.cond (.t 5) (.seq (.reg [(o 2 (.move (.c (.int .i64 1))))]) .ret) .skip)
noncomputable def L20s1 : LCode := (.seq (.seq (.reg [(o 3 (.load .true 4 (.t 1))), (o 4 (.call (.c (.func 63 [] [])) [(.t 3)])), (o 5 (.un .not (.t 4)))]) L20s0) (.seq (.reg [(o 2 (.move (.c (.int .i64 0))))]) .ret))
noncomputable def L20 : LFunc := ⟨6, (.seq (.reg [(o 1 (.box (.t 0))), (o 2 (.move (.c (.int .i64 0))))]) L20s1), [(.t 2)], .false, .none, viaOff Go.Proofs.Try.prog⟩
theorem lp20 : LP 20 = some L20 := by kernel_rfl
noncomputable def L24s0 : LCode := (.seq (.reg [(o 3 (.buildSlice 0 [(.int .i64 0)] [])), (o 4 (.move (.t 0))), (o 5 (.append 1 8 (.t 3) (.t 4))), (o 2 (.move (.t 5)))]) .ret)
noncomputable def L24 : LFunc := ⟨6, (.seq (.reg [(o 2 (.move (.c (.slice .none 0 0))))]) L24s0), [(.t 2)], .true, .none, viaOff Go.Proofs.Try.prog⟩
theorem lp24 : LP 24 = some L24 := by kernel_rfl
noncomputable def L48r0 : List LOper := [(og 17 (.bin .leq (.t 15) (.t 16)) 13 .true), (o 18 (.pick (.t 13) (.t 17) (.c (.bool .false)))), (o 6 (.move (.t 18)))]
noncomputable def L48r1 : List LOper := ((o 12 (.call (.c (.func 37 [] [])) [(.t 8), (.t 9), (.t 11)])) :: (o 13 (.move (.t 12))) :: (og 14 (.fieldAddr 1 (.t 3)) 13 .true) :: (og 15 (.load .false 1 (.t 14)) 13 .true) :: (og 16 (.move (.t 2)) 13 .true) :: L48r0)
noncomputable def L48s0 : LCode := (.seq (.reg ((o 7 (.fieldAddr 0 (.t 3))) :: (o 8 (.load .false 1 (.t 7))) :: (o 9 (.move (.t 1))) :: (o 10 (.fieldAddr 1 (.t 3))) :: (o 11 (.load .false 1 (.t 10))) :: L48r1)) .ret)
noncomputable def L48 : LFunc := ⟨19, (.seq (.reg [(o 3 (.box (.t 0))), (o 6 (.move (.c (.bool .false))))]) L48s0), [(.t 6)], .false, .none, viaOff Go.Proofs.Try.prog⟩
theorem lp48 : LP 48 = some L48 := by kernel_rfl
noncomputable def L64s0 : LCode := (.cond (.t 9) (.seq (.reg [(o 10 (.move (.t 5))), (o 4 (.move (.t 10)))]) .ret) .skip)
noncomputable def L64s1 : LCode := (.seq (.reg [(o 8 (.move (.t 5))), (o 9 (.eq (.cell (.i .i64)) .true (.t 8) (.c (.int .i64 0))))]) L64s0)
noncomputable def L64s2 : LCode := (.cond (.t 13) (.seq (.reg [(o 4 (.move (.c (.int .i64 3))))]) .ret) .skip)
noncomputable def L64s3 : LCode := (.cond (.t 18) (.seq (.reg [(o 4 (.move (.c (.int .i64 2))))]) .ret) .skip)
noncomputable def L64s4 : LCode := (.seq (.seq (.reg [(o 14 (.move (.t 1))), (o 15 (.load .true 4 (.t 2))), (o 16 (.makeFunc 86 [(.t 15)] [])), (o 17 (.call (.c (.func 68 [] [])) [(.t 14), (.t 16)])), (o 18 (.un .not (.t 17)))]) L64s3) (.seq (.reg [(o 4 (.move (.c (.int .i64 0))))]) .ret))
noncomputable def L64s5 : LCode := (.seq (.seq (.reg [(o 11 (.move (.t 1))), (o 12 (.len .slice (.t 11))), (o 13 (.bin .gtr (.t 12) (.c (.int .i64 12))))]) L64s2) L64s4)
noncomputable def L64s6 : LCode := (.seq (.seq (.reg [(o 6 (.load .true 4 (.t 2))), (o 7 (.call (.c (.func 20 [] [])) [(.t 6)])), (o 5 (.move (.t 7)))]) L64s1) L64s5)
noncomputable def L64 : LFunc := ⟨19, (.seq (.reg [(o 2 (.box (.t 0))), (o 4 (.move (.c (.int .i64 0))))]) L64s6), [(.t 4)], .false, .none, viaOff Go.Proofs.Try.prog⟩
theorem lp64 : LP 64 = some L64 := by kernel_rfl
noncomputable def L68s0 : LCode := (.cond (.t 16) (.seq (.reg [(o 4 (.move (.c (.bool .false))))]) .ret) .skip)
noncomputable def L68s1 : LCode := (.seq (.reg [(o 13 (.move (.t 1))), (o 14 (.load .true 4 (.t 6))), (o 15 (.call (.t 13) [(.t 14)])), (o 16 (.un .not (.t 15)))]) L68s0)
noncomputable def L68s2 : LCode := (.reg [(o 17 (.bin .add (.t 9) (.c (.int .i64 1)))), (o 9 (.move (.t 17)))])
noncomputable def L68s3 : LCode := (.seq (.block 1 (.seq (.reg [(o 11 (.indexAddrS 4 (.t 7) (.t 9))), (o 12 (.load .true 4 (.t 11))), (o 6 (.alloc [(.int .i64 0), (.int .i64 0), (.int .i64 0), (.int .i64 0)])), (on (.store 4 (.t 6) (.t 12)))]) L68s1)) L68s2)
noncomputable def L68w0 : LCode := (.seq (.reg [(o 10 (.bin .lss (.t 9) (.t 8)))]) (.seq (.cond (.t 10) .skip (.exit 0)) L68s3))
noncomputable def L68s4 : LCode := (.seq (.seq (.reg [(o 7 (.move (.t 0))), (o 8 (.len .slice (.t 7))), (o 9 (.move (.c (.int .i64 0))))]) (.block 0 (.loop L68w0))) (.seq (.reg [(o 4 (.move (.c (.bool .true))))]) .ret))
noncomputable def L68 : LFunc := ⟨18, (.seq (.reg [(o 4 (.move (.c (.bool .false))))]) L68s4), [(.t 4)], .false, .none, viaOff Go.Proofs.Try.prog⟩
theorem lp68 : LP 68 = some L68 := by kernel_rfl
noncomputable def L88s0 : LCode := (.cond (.t 15) (.reg [(o 16 (.move (.t 6))), (o 0 (.move (.t 16)))]) .skip)
noncomputable def L88s1 : LCode := (.seq (.reg [(o 13 (.move (.t 6))), (o 14 (.move (.t 0))), (o 15 (.bin .lss (.t 13) (.t 14)))]) L88s0)
noncomputable def L88s2 : LCode := (.reg [(o 17 (.bin .add (.t 9) (.c (.int .i64 1)))), (o 9 (.move (.t 17)))])
noncomputable def L88s3 : LCode := (.seq (.block 1 (.seq (.reg [(o 11 (.indexAddrS 1 (.t 7) (.t 9))), (o 12 (.load .false 1 (.t 11))), (o 6 (.move (.t 12)))]) L88s1)) L88s2)
noncomputable def L88w0 : LCode := (.seq (.reg [(o 10 (.bin .lss (.t 9) (.t 8)))]) (.seq (.cond (.t 10) .skip (.exit 0)) L88s3))
noncomputable def L88s4 : LCode := (.seq (.reg [(o 18 (.move (.t 0))), (o 4 (.move (.t 18)))]) .ret)
noncomputable def L88s5 : LCode := (.seq (.seq (.reg [(o 7 (.move (.t 1))), (o 8 (.len .slice (.t 7))), (o 9 (.move (.c (.int .i64 0))))]) (.block 0 (.loop L88w0))) L88s4)
noncomputable def L88 : LFunc := ⟨19, (.seq (.reg [(o 4 (.move (.c (.int .i64 0))))]) L88s5), [(.t 4)], .false, .none, viaOff Go.Proofs.Try.prog⟩
theorem lp88 : LP 88 = some L88 := by kernel_rfl
noncomputable def L21r0 : List LOper := [(o 8 (.load .true 2 (.t 7))), (o 9 (.call (.c (.func 35 [] [])) [(.t 8)])), (oa 10 (.build [(.int .i64 0), (.int .i64 0), (.int .i64 0), (.int .i64 0)] [(0, (1, (.t 4))), (1, (1, (.t 6))), (2, (2, (.t 9)))]) [6]), (ona (.store 4 (.t 2) (.t 10)) [6])]
noncomputable def L21s0 : LCode := (.seq (.draw 7 ((o 3 (.fieldAddr 0 (.t 1))) :: (o 4 (.load .false 1 (.t 3))) :: (o 5 (.fieldAddr 1 (.t 1))) :: (o 6 (.load .false 1 (.t 5))) :: (o 7 (.fieldAddr 2 (.t 1))) :: L21r0)) .ret)
noncomputable def L21 : LFunc := ⟨11, (.seq (.reg [(o 1 (.box (.t 0))), (o 2 (.alloc [(.int .i64 0), (.int .i64 0), (.int .i64 0), (.int .i64 0)]))]) L21s0), [(.cell 2 .true 4)], .false, .none, viaOff Go.Proofs.Try.prog⟩
theorem lp21 : LP 21 = some L21 := by kernel_rfl
noncomputable def L25r0 : List LOper := [(og 28 (.fieldAddr 1 (.t 27)) 16 .true), (og 29 (.load .false 1 (.t 28)) 16 .true), (og 30 (.bin .mul (.t 26) (.t 29)) 16 .true), (og 31 (.call (.c (.func 37 [] [])) [(.t 18), (.t 24), (.t 30)]) 16 .true), (o 32 (.pick (.t 16) (.t 31) (.c (.bool .false)))), (o 2 (.move (.t 32)))]
noncomputable def L25r1 : List LOper := ((og 23 (.load .false 1 (.t 22)) 16 .true) :: (og 24 (.bin .mul (.t 20) (.t 23)) 16 .true) :: (og 25 (.fieldAddr 0 (.t 1)) 16 .true) :: (og 26 (.load .false 1 (.t 25)) 16 .true) :: (og 27 (.fieldAddr 2 (.t 1)) 16 .true) :: L25r0)
noncomputable def L25r2 : List LOper := ((og 18 (.load .false 1 (.t 17)) 16 .true) :: (og 19 (.fieldAddr 0 (.t 1)) 16 .true) :: (og 20 (.load .false 1 (.t 19)) 16 .true) :: (og 21 (.fieldAddr 2 (.t 1)) 16 .true) :: (og 22 (.fieldAddr 0 (.t 21)) 16 .true) :: L25r1)
noncomputable def L25r3 : List LOper := ((og 13 (.load .false 1 (.t 12)) 11 .true) :: (og 14 (.call (.c (.func 37 [] [])) [(.t 13), (.c (.int .i64 1)), (.c (.int .i64 2000))]) 11 .true) :: (o 15 (.pick (.t 11) (.t 14) (.c (.bool .false)))) :: (o 16 (.move (.t 15))) :: (og 17 (.fieldAddr 1 (.t 1)) 16 .true) :: L25r2)
noncomputable def L25r4 : List LOper := ((og 8 (.load .true 2 (.t 7)) 6 .true) :: (og 9 (.call (.c (.func 48 [] [])) [(.t 8), (.c (.int .i64 1)), (.c (.int .i64 200))]) 6 .true) :: (o 10 (.pick (.t 6) (.t 9) (.c (.bool .false)))) :: (o 11 (.move (.t 10))) :: (og 12 (.fieldAddr 1 (.t 1)) 11 .true) :: L25r3)
noncomputable def L25s0 : LCode := (.seq (.reg ((o 3 (.fieldAddr 0 (.t 1))) :: (o 4 (.load .false 1 (.t 3))) :: (o 5 (.call (.c (.func 37 [] [])) [(.t 4), (.c (.int .i64 1)), (.c (.int .i64 10))])) :: (o 6 (.move (.t 5))) :: (og 7 (.fieldAddr 2 (.t 1)) 6 .true) :: L25r4)) .ret)
noncomputable def L25 : LFunc := ⟨33, (.seq (.reg [(o 1 (.box (.t 0))), (o 2 (.move (.c (.bool .false))))]) L25s0), [(.t 2)], .false, .none, viaOff Go.Proofs.Try.prog⟩
theorem lp25 : LP 25 = some L25 := by kernel_rfl
noncomputable def L37r0 : List LOper := [(og 12 (.move (.t 2)) 10 .true), (og 13 (.bin .leq (.t 11) (.t 12)) 10 .true), (o 14 (.pick (.t 10) (.t 13) (.c (.bool .false)))), (o 6 (.move (.t 14)))]
noncomputable def L37s0 : LCode := (.seq (.reg ((o 7 (.move (.t 0))) :: (o 8 (.move (.t 1))) :: (o 9 (.bin .geq (.t 7) (.t 8))) :: (o 10 (.move (.t 9))) :: (og 11 (.move (.t 0)) 10 .true) :: L37r0)) .ret)
noncomputable def L37 : LFunc := ⟨15, (.seq (.reg [(o 6 (.move (.c (.bool .false))))]) L37s0), [(.t 6)], .false, .none, viaOff Go.Proofs.Try.prog⟩
theorem lp37 : LP 37 = some L37 := by kernel_rfl
noncomputable def L65s0 : LCode := (.cond (.t 16) (.seq (.reg [(o 4 (.move (.c (.bool .false))))]) .ret) .skip)
noncomputable def L65s1 : LCode := (.seq (.reg [(o 13 (.move (.t 1))), (o 14 (.move (.t 6))), (o 15 (.call (.t 13) [(.t 14)])), (o 16 (.un .not (.t 15)))]) L65s0)
noncomputable def L65s2 : LCode := (.reg [(o 17 (.bin .add (.t 9) (.c (.int .i64 1)))), (o 9 (.move (.t 17)))])
noncomputable def L65s3 : LCode := (.seq (.block 1 (.seq (.reg [(o 11 (.indexAddrS 1 (.t 7) (.t 9))), (o 12 (.load .false 1 (.t 11))), (o 6 (.move (.t 12)))]) L65s1)) L65s2)
noncomputable def L65w0 : LCode := (.seq (.reg [(o 10 (.bin .lss (.t 9) (.t 8)))]) (.seq (.cond (.t 10) .skip (.exit 0)) L65s3))
noncomputable def L65s4 : LCode := (.seq (.seq (.reg [(o 7 (.move (.t 0))), (o 8 (.len .slice (.t 7))), (o 9 (.move (.c (.int .i64 0))))]) (.block 0 (.loop L65w0))) (.seq (.reg [(o 4 (.move (.c (.bool .true))))]) .ret))
noncomputable def L65 : LFunc := ⟨18, (.seq (.reg [(o 4 (.move (.c (.bool .false))))]) L65s4), [(.t 4)], .false, .none, viaOff Go.Proofs.Try.prog⟩
theorem lp65 : LP 65 = some L65 := by kernel_rfl
noncomputable def L69r0 : List LOper := [(o 17 (.load .false 1 (.t 16))), (o 18 (.indexAddrS 1 (.t 15) (.t 17))), (o 19 (.load .false 1 (.t 18))), (o 20 (.bin .sub (.t 14) (.t 19))), (o 21 (.buildSlice 1 [(.int .i64 0)] [(0, (1, (.t 20)))])), (oa 22 (.call (.c (.func 87 [] [])) [(.t 9), (.t 21)]) [14]), (oa 5 (.move (.t 22)) [15, 14])]
noncomputable def L69r1 : List LOper := ((o 12 (.load .false 1 (.t 11))) :: (o 13 (.indexAddrS 1 (.t 10) (.t 12))) :: (o 14 (.load .false 1 (.t 13))) :: (o 15 (.move (.t 0))) :: (o 16 (.fieldAddr 0 (.t 3))) :: L69r0)
noncomputable def L69r2 : List LOper := [(o 42 (.indexAddrS 1 (.t 39) (.t 41))), (o 43 (.load .false 1 (.t 42))), (o 44 (.bin .sub (.t 38) (.t 43))), (o 45 (.bin .sub (.t 44) (.c (.int .i64 1)))), (o 46 (.buildSlice 1 [(.int .i64 0)] [(0, (1, (.t 45)))])), (oa 47 (.call (.c (.func 88 [] [])) [(.t 32), (.t 46)]) [14]), (oa 6 (.move (.t 47)) [15, 14])]
noncomputable def L69r3 : List LOper := ((o 37 (.indexAddrS 1 (.t 33) (.t 36))) :: (o 38 (.load .false 1 (.t 37))) :: (o 39 (.move (.t 0))) :: (o 40 (.fieldAddr 0 (.t 3))) :: (o 41 (.load .false 1 (.t 40))) :: L69r2)
noncomputable def L69s0 : LCode := (.cond (.t 31) (.draw 12 ((o 32 (.move (.t 6))) :: (o 33 (.move (.t 0))) :: (o 34 (.fieldAddr 1 (.t 3))) :: (o 35 (.load .false 1 (.t 34))) :: (o 36 (.bin .add (.t 35) (.c (.int .i64 1)))) :: L69r3)) .skip)
noncomputable def L69s1 : LCode := (.seq (.reg [(o 48 (.move (.t 5))), (o 49 (.move (.t 6))), (o 50 (.bin .leq (.t 48) (.t 49))), (o 4 (.move (.t 50)))]) .ret)
noncomputable def L69s2 : LCode := (.seq (.seq (.reg [(o 26 (.fieldAddr 1 (.t 3))), (o 27 (.load .false 1 (.t 26))), (o 28 (.bin .add (.t 27) (.c (.int .i64 1)))), (o 29 (.move (.t 0))), (o 30 (.len .slice (.t 29))), (o 31 (.bin .lss (.t 28) (.t 30)))]) L69s0) L69s1)
noncomputable def L69s3 : LCode := (.seq (.reg [(o 23 (.fieldAddr 2 (.t 3))), (o 24 (.fieldAddr 1 (.t 23))), (o 25 (.load .false 1 (.t 24))), (o 6 (.move (.t 25)))]) L69s2)
noncomputable def L69s4 : LCode := (.seq (.draw 15 ((o 7 (.fieldAddr 2 (.t 3))) :: (o 8 (.fieldAddr 0 (.t 7))) :: (o 9 (.load .false 1 (.t 8))) :: (o 10 (.move (.t 0))) :: (o 11 (.fieldAddr 1 (.t 3))) :: L69r1)) L69s3)
noncomputable def L69 : LFunc := ⟨51, (.seq (.reg [(o 3 (.box (.t 1))), (o 4 (.move (.c (.bool .false))))]) L69s4), [(.t 4)], .false, .none, viaOff Go.Proofs.Try.prog⟩
theorem lp69 : LP 69 = some L69 := by kernel_rfl
noncomputable def L22r0 : List LOper := [(og 23 (.makeFunc 66 [(.t 22)] []) 19 .false), (og 24 (.call (.c (.func 65 [] [])) [(.t 20), (.t 23)]) 19 .false), (og 25 (.un .not (.t 24)) 19 .false), (o 26 (.pick (.t 19) (.c (.bool .true)) (.t 25)))]
noncomputable def L22r1 : List LOper := ((o 18 (.pick (.t 12) (.c (.bool .true)) (.t 17))) :: (o 19 (.move (.t 18))) :: (og 20 (.move (.t 2)) 19 .false) :: (og 21 (.fieldAddr 2 (.t 3)) 19 .false) :: (og 22 (.load .true 2 (.t 21)) 19 .false) :: L22r0)
noncomputable def L22r2 : List LOper := ((og 13 (.move (.t 2)) 12 .false) :: (og 14 (.len .slice (.t 13)) 12 .false) :: (og 15 (.fieldAddr 0 (.t 3)) 12 .false) :: (og 16 (.load .false 1 (.t 15)) 12 .false) :: (og 17 (.eq (.cell (.i .i64)) .true (.t 14) (.t 16)) 12 .false) :: L22r1)
noncomputable def L22s0 : LCode := (.cond (.t 26) (.seq (.reg [(o 6 (.move (.c (.bool .false))))]) .ret) .skip)
noncomputable def L22r3 : List LOper := [(og 39 (.move (.t 7)) 37 .true), (og 40 (.makeFunc 69 [(.t 39)] []) 37 .true), (og 41 (.call (.c (.func 68 [] [])) [(.t 38), (.t 40)]) 37 .true), (oa 42 (.pick (.t 37) (.t 41) (.c (.bool .false))) [12]), (oa 6 (.move (.t 42)) [12])]
noncomputable def L22r4 : List LOper := ((o 34 (.fieldAddr 1 (.t 3))) :: (o 35 (.load .false 1 (.t 34))) :: (o 36 (.eq (.cell (.i .i64)) .false (.t 33) (.t 35))) :: (o 37 (.move (.t 36))) :: (og 38 (.move (.t 1)) 37 .true) :: L22r3)
noncomputable def L22s1 : LCode := (.seq (.draw 7 ((o 29 (.move (.t 7))) :: (o 30 (.fieldAddr 0 (.t 3))) :: (o 31 (.load .false 1 (.t 30))) :: (o 32 (.indexAddrS 1 (.t 29) (.t 31))) :: (o 33 (.load .false 1 (.t 32))) :: L22r4)) .ret)
noncomputable def L22s2 : LCode := (.seq (.reg [(o 27 (.move (.t 2))), (o 28 (.call (.c (.func 67 [] [])) [(.t 27)])), (o 7 (.move (.t 28)))]) L22s1)
noncomputable def L22s3 : LCode := (.seq (.seq (.reg ((o 8 (.load .true 4 (.t 3))) :: (o 9 (.move (.t 1))) :: (o 10 (.call (.c (.func 64 [] [])) [(.t 8), (.t 9)])) :: (o 11 (.eq (.cell (.i .i64)) .true (.t 10) (.c (.int .i64 0)))) :: (o 12 (.move (.t 11))) :: L22r2)) L22s0) L22s2)
noncomputable def L22 : LFunc := ⟨43, (.seq (.reg [(o 3 (.box (.t 0))), (o 6 (.move (.c (.bool .false))))]) L22s3), [(.t 6)], .false, .none, viaOff Go.Proofs.Try.prog⟩
theorem lp22 : LP 22 = some L22 := by kernel_rfl
noncomputable def L26s0 : LCode := (.seq (.reg [(o 5 (.load .true 4 (.t 2))), (o 6 (.move (.t 1))), (o 7 (.call (.c (.func 70 [] [])) [(.t 5), (.t 6)])), (o 4 (.move (.t 7)))]) .ret)
noncomputable def L26 : LFunc := ⟨8, (.seq (.reg [(o 2 (.box (.t 0))), (o 4 (.move (.c (.int .i64 0))))]) L26s0), [(.t 4)], .false, .none, viaOff Go.Proofs.Try.prog⟩
theorem lp26 : LP 26 = some L26 := by kernel_rfl
noncomputable def L38s0 : LCode := (.reg [(o 10 (.move (.t 6))), (o 11 (.bin .add (.t 10) (.c (.int .i64 1)))), (o 6 (.move (.t 11)))])
noncomputable def L38s1 : LCode := (.seq (.block 1 (.reg [(o 12 (.move (.t 5))), (o 13 (.move (.t 0))), (o 14 (.move (.t 6))), (o 15 (.indexAddrS 1 (.t 13) (.t 14))), (o 16 (.load .false 1 (.t 15))), (o 17 (.bin .add (.t 12) (.t 16))), (o 5 (.move (.t 17)))])) L38s0)
noncomputable def L38w0 : LCode := (.seq (.seq (.reg [(o 7 (.move (.t 6))), (o 8 (.move (.t 1))), (o 9 (.bin .lss (.t 7) (.t 8)))]) (.cond (.t 9) .skip (.exit 0))) L38s1)
noncomputable def L38s2 : LCode := (.seq (.reg [(o 18 (.move (.t 5))), (o 4 (.move (.t 18)))]) .ret)
noncomputable def L38s3 : LCode := (.seq (.seq (.reg [(o 6 (.move (.c (.int .i64 0))))]) (.block 0 (.loop L38w0))) L38s2)
noncomputable def L38 : LFunc := ⟨19, (.seq (.reg [(o 4 (.move (.c (.int .i64 0))))]) (.seq (.reg [(o 5 (.move (.c (.int .i64 0))))]) L38s3)), [(.t 4)], .false, .none, viaOff Go.Proofs.Try.prog⟩
theorem lp38 : LP 38 = some L38 := by kernel_rfl
noncomputable def L66r0 : List LOper := [(og 10 (.move (.t 1)) 9 .true), (og 11 (.fieldAddr 1 (.t 2)) 9 .true), (og 12 (.load .false 1 (.t 11)) 9 .true), (og 13 (.bin .leq (.t 10) (.t 12)) 9 .true), (o 14 (.pick (.t 9) (.t 13) (.c (.bool .false)))), (o 4 (.move (.t 14)))]
noncomputable def L66s0 : LCode := (.seq (.reg ((o 5 (.fieldAddr 0 (.t 2))) :: (o 6 (.load .false 1 (.t 5))) :: (o 7 (.move (.t 1))) :: (o 8 (.bin .leq (.t 6) (.t 7))) :: (o 9 (.move (.t 8))) :: L66r0)) .ret)
noncomputable def L66 : LFunc := ⟨15, (.seq (.reg [(o 2 (.box (.t 0))), (o 4 (.move (.c (.bool .false))))]) L66s0), [(.t 4)], .false, .none, viaOff Go.Proofs.Try.prog⟩
theorem lp66 : LP 66 = some L66 := by kernel_rfl
noncomputable def L70s0 : LCode := (.cond (.t 9) (.seq (.reg [(o 4 (.move (.c (.int .i64 1))))]) .ret) .skip)
noncomputable def L70s1 : LCode := (.cond (.t 12) (.seq (.reg [(o 4 (.move (.c (.int .i64 3))))]) .ret) .skip)
noncomputable def L70r0 : List LOper := [(og 43 (.call (.c (.func 48 [] [])) [(.t 42), (.c (.int .i64 0)), (.c (.int .i64 2000))]) 40 .false), (og 44 (.un .not (.t 43)) 40 .false), (o 45 (.pick (.t 40) (.c (.bool .true)) (.t 44)))]
noncomputable def L70r1 : List LOper := ((og 38 (.un .not (.t 37)) 30 .false) :: (o 39 (.pick (.t 30) (.c (.bool .true)) (.t 38))) :: (o 40 (.move (.t 39))) :: (og 41 (.fieldAddr 2 (.t 6)) 40 .false) :: (og 42 (.load .true 2 (.t 41)) 40 .false) :: L70r0)
noncomputable def L70r2 : List LOper := ((og 33 (.fieldAddr 0 (.t 6)) 30 .false) :: (og 34 (.load .false 1 (.t 33)) 30 .false) :: (og 35 (.fieldAddr 0 (.t 2)) 30 .false) :: (og 36 (.load .false 1 (.t 35)) 30 .false) :: (og 37 (.call (.c (.func 37 [] [])) [(.t 32), (.t 34), (.t 36)]) 30 .false) :: L70r1)
noncomputable def L70r3 : List LOper := ((o 28 (.call (.c (.func 37 [] [])) [(.t 24), (.c (.int .i64 0)), (.t 27)])) :: (o 29 (.un .not (.t 28))) :: (o 30 (.move (.t 29))) :: (og 31 (.fieldAddr 1 (.t 6)) 30 .false) :: (og 32 (.load .false 1 (.t 31)) 30 .false) :: L70r2)
noncomputable def L70s2 : LCode := (.cond (.t 45) (.seq (.reg [(o 4 (.move (.c (.int .i64 2))))]) .ret) .skip)
noncomputable def L70s3 : LCode := (.seq (.reg ((o 23 (.fieldAddr 0 (.t 6))) :: (o 24 (.load .false 1 (.t 23))) :: (o 25 (.fieldAddr 0 (.t 2))) :: (o 26 (.load .false 1 (.t 25))) :: (o 27 (.bin .sub (.t 26) (.c (.int .i64 1)))) :: L70r3)) L70s2)
noncomputable def L70s4 : LCode := (.reg [(o 17 (.move (.t 5))), (o 18 (.bin .add (.t 17) (.c (.int .i64 1)))), (o 5 (.move (.t 18)))])
noncomputable def L70s5 : LCode := (.seq (.block 1 (.seq (.reg [(o 19 (.move (.t 1))), (o 20 (.move (.t 5))), (o 21 (.indexAddrS 4 (.t 19) (.t 20))), (o 22 (.load .true 4 (.t 21))), (o 6 (.alloc [(.int .i64 0), (.int .i64 0), (.int .i64 0), (.int .i64 0)])), (on (.store 4 (.t 6) (.t 22)))]) L70s3)) L70s4)
noncomputable def L70w0 : LCode := (.seq (.seq (.reg [(o 13 (.move (.t 5))), (o 14 (.move (.t 1))), (o 15 (.len .slice (.t 14))), (o 16 (.bin .lss (.t 13) (.t 15)))]) (.cond (.t 16) .skip (.exit 0))) L70s5)
noncomputable def L70s6 : LCode := (.seq (.seq (.reg [(o 5 (.move (.c (.int .i64 0))))]) (.block 0 (.loop L70w0))) (.seq (.reg [(o 4 (.move (.c (.int .i64 0))))]) .ret))
noncomputable def L70s7 : LCode := (.seq (.seq (.reg [(o 10 (.move (.t 1))), (o 11 (.len .slice (.t 10))), (o 12 (.bin .gtr (.t 11) (.c (.int .i64 12))))]) L70s1) L70s6)
noncomputable def L70s8 : LCode := (.seq (.seq (.reg [(o 7 (.load .true 4 (.t 2))), (o 8 (.call (.c (.func 25 [] [])) [(.t 7)])), (o 9 (.un .not (.t 8)))]) L70s0) L70s7)
noncomputable def L70 : LFunc := ⟨46, (.seq (.reg [(o 2 (.box (.t 0))), (o 4 (.move (.c (.int .i64 0))))]) L70s8), [(.t 4)], .false, .none, viaOff Go.Proofs.Try.prog⟩
theorem lp70 : LP 70 = some L70 := by kernel_rfl
noncomputable def L86r0 : List LOper := [(og 30 (.fieldAddr 2 (.t 3)) 29 .true), (og 31 (.load .true 2 (.t 30)) 29 .true), (og 32 (.call (.c (.func 83 [] [])) [(.t 31), (.c (.int .i64 0)), (.c (.int .i64 2000))]) 29 .true), (o 33 (.pick (.t 29) (.t 32) (.c (.bool .false)))), (o 4 (.move (.t 33)))]
noncomputable def L86r1 : List LOper := ((og 25 (.fieldAddr 0 (.t 2)) 22 .true) :: (og 26 (.load .false 1 (.t 25)) 22 .true) :: (og 27 (.bin .leq (.t 24) (.t 26)) 22 .true) :: (o 28 (.pick (.t 22) (.t 27) (.c (.bool .false)))) :: (o 29 (.move (.t 28))) :: L86r0)
noncomputable def L86r2 : List LOper := ((og 20 (.bin .leq (.t 17) (.t 19)) 15 .true) :: (o 21 (.pick (.t 15) (.t 20) (.c (.bool .false)))) :: (o 22 (.move (.t 21))) :: (og 23 (.fieldAddr 1 (.t 3)) 22 .true) :: (og 24 (.load .false 1 (.t 23)) 22 .true) :: L86r1)
noncomputable def L86r3 : List LOper := ((o 15 (.move (.t 14))) :: (og 16 (.fieldAddr 0 (.t 3)) 15 .true) :: (og 17 (.load .false 1 (.t 16)) 15 .true) :: (og 18 (.fieldAddr 1 (.t 3)) 15 .true) :: (og 19 (.load .false 1 (.t 18)) 15 .true) :: L86r2)
noncomputable def L86r4 : List LOper := ((og 10 (.load .false 1 (.t 9)) 8 .true) :: (og 11 (.fieldAddr 0 (.t 2)) 8 .true) :: (og 12 (.load .false 1 (.t 11)) 8 .true) :: (og 13 (.bin .lss (.t 10) (.t 12)) 8 .true) :: (o 14 (.pick (.t 8) (.t 13) (.c (.bool .false)))) :: L86r3)
noncomputable def L86s0 : LCode := (.seq (.reg ((o 5 (.fieldAddr 0 (.t 3))) :: (o 6 (.load .false 1 (.t 5))) :: (o 7 (.bin .leq (.c (.int .i64 0)) (.t 6))) :: (o 8 (.move (.t 7))) :: (og 9 (.fieldAddr 0 (.t 3)) 8 .true) :: L86r4)) .ret)
noncomputable def L86 : LFunc := ⟨34, (.seq (.reg [(o 2 (.box (.t 0))), (o 3 (.box (.t 1))), (o 4 (.move (.c (.bool .false))))]) L86s0), [(.t 4)], .false, .none, viaOff Go.Proofs.Try.prog⟩
theorem lp86 : LP 86 = some L86 := by kernel_rfl
noncomputable def L3r0 : List LOper := [(og 15 (.len .slice (.t 14)) 13 .false), (og 16 (.bin .gtr (.t 15) (.c (.int .i64 15))) 13 .false), (o 17 (.pick (.t 13) (.c (.bool .true)) (.t 16)))]
noncomputable def L3s0 : LCode := (.cond (.t 17) (.seq (.reg [(o 18 (.call (.c (.func 19 [] [])) [])), (o 6 (.move (.t 18)))]) .ret) .skip)
noncomputable def L3r1 : List LOper := [(o 27 (.call (.c (.func 24 [] [])) [(.t 26)])), (o 28 (.call (.c (.func 22 [] [])) [(.t 23), (.t 25), (.t 27)])), (o 8 (.move (.t 28)))]
noncomputable def L3s1 : LCode := (.cond (.t 31) (.reg [(o 9 (.move (.c (.int .i64 1))))]) .skip)
noncomputable def L3r2 : List LOper := [(og 47 (.eq (.cell .b) .false (.t 36) (.t 46)) 35 .true), (o 48 (.pick (.t 35) (.t 47) (.c (.bool .false)))), (o 49 (.move (.t 48))), (og 50 (.call (.c (.func 19 [] [])) []) 49 .true), (o 51 (.pick (.t 49) (.t 50) (.c (.bool .false)))), (o 6 (.move (.t 51)))]
noncomputable def L3r3 : List LOper := ((og 42 (.load .true 4 (.t 3)) 41 .true) :: (og 43 (.move (.t 1)) 41 .true) :: (og 44 (.move (.t 2)) 41 .true) :: (og 45 (.call (.c (.func 27 [] [])) [(.t 42), (.t 43), (.t 44)]) 41 .true) :: (og 46 (.pick (.t 41) (.t 45) (.c (.bool .false))) 35 .true) :: L3r2)
noncomputable def L3r4 : List LOper := ((og 37 (.load .true 4 (.t 3)) 35 .true) :: (og 38 (.move (.t 1)) 35 .true) :: (og 39 (.call (.c (.func 26 [] [])) [(.t 37), (.t 38)]) 35 .true) :: (og 40 (.eq (.cell (.i .i64)) .false (.t 39) (.c (.int .i64 0))) 35 .true) :: (og 41 (.move (.t 40)) 35 .true) :: L3r3)
noncomputable def L3s2 : LCode := (.seq (.reg ((o 32 (.move (.t 7))) :: (o 33 (.move (.t 9))) :: (o 34 (.eq (.cell (.i .i64)) .false (.t 32) (.t 33))) :: (o 35 (.move (.t 34))) :: (og 36 (.move (.t 8)) 35 .true) :: L3r4)) .ret)
noncomputable def L3s3 : LCode := (.seq (.seq (.reg [(o 29 (.load .true 4 (.t 3))), (o 30 (.call (.c (.func 25 [] [])) [(.t 29)])), (o 31 (.un .not (.t 30)))]) L3s1) L3s2)
noncomputable def L3s4 : LCode := (.seq (.reg ((o 22 (.load .true 4 (.t 3))) :: (o 23 (.call (.c (.func 21 [] [])) [(.t 22)])) :: (o 24 (.move (.t 1))) :: (o 25 (.call (.c (.func 23 [] [])) [(.t 24)])) :: (o 26 (.move (.t 2))) :: L3r1)) (.seq (.reg [(o 9 (.move (.c (.int .i64 0))))]) L3s3))
noncomputable def L3s5 : LCode := (.seq (.reg [(o 19 (.load .true 4 (.t 3))), (o 20 (.call (.c (.func 21 [] [])) [(.t 19)])), (o 21 (.call (.c (.func 20 [] [])) [(.t 20)])), (o 7 (.move (.t 21)))]) L3s4)
noncomputable def L3s6 : LCode := (.seq (.seq (.reg ((o 10 (.move (.t 1))) :: (o 11 (.len .slice (.t 10))) :: (o 12 (.bin .gtr (.t 11) (.c (.int .i64 15)))) :: (o 13 (.move (.t 12))) :: (og 14 (.move (.t 2)) 13 .false) :: L3r0)) L3s0) L3s5)
noncomputable def L3 : LFunc := ⟨52, (.seq (.reg [(o 3 (.box (.t 0))), (o 6 (.move (.c (.bool .false))))]) L3s6), [(.t 6)], .false, .none, viaOff Go.Proofs.Try.prog⟩
theorem lp3 : LP 3 = some L3 := by kernel_rfl
noncomputable def L23r0 : List LOper := [(o 26 (.load .true 2 (.t 25))), (o 27 (.call (.c (.func 35 [] [])) [(.t 26)])), (oa 28 (.build [(.int .i64 0), (.int .i64 0), (.int .i64 0), (.int .i64 0)] [(0, (1, (.t 16))), (1, (1, (.t 21))), (2, (2, (.t 27)))]) [16]), (oa 29 (.buildSlice 1 [(.int .i64 0), (.int .i64 0), (.int .i64 0), (.int .i64 0)] [(0, (4, (.t 28)))]) [16]), (oa 30 (.append 4 32 (.t 11) (.t 29)) [18, 16]), (oa 3 (.move (.t 30)) [19, 18, 16])]
noncomputable def L23r1 : List LOper := ((o 21 (.load .false 1 (.t 20))) :: (o 22 (.move (.t 0))) :: (o 23 (.move (.t 4))) :: (o 24 (.indexAddrS 4 (.t 22) (.t 23))) :: (o 25 (.fieldAddr 2 (.t 24))) :: L23r0)
noncomputable def L23r2 : List LOper := ((o 16 (.load .false 1 (.t 15))) :: (o 17 (.move (.t 0))) :: (o 18 (.move (.t 4))) :: (o 19 (.indexAddrS 4 (.t 17) (.t 18))) :: (o 20 (.fieldAddr 1 (.t 19))) :: L23r1)
noncomputable def L23s0 : LCode := (.reg [(o 9 (.move (.t 4))), (o 10 (.bin .add (.t 9) (.c (.int .i64 1)))), (o 4 (.move (.t 10)))])
noncomputable def L23s1 : LCode := (.seq (.block 1 (.draw 17 ((o 11 (.move (.t 3))) :: (o 12 (.move (.t 0))) :: (o 13 (.move (.t 4))) :: (o 14 (.indexAddrS 4 (.t 12) (.t 13))) :: (o 15 (.fieldAddr 0 (.t 14))) :: L23r2))) L23s0)
noncomputable def L23w0 : LCode := (.seq (.seq (.reg [(o 5 (.move (.t 4))), (o 6 (.move (.t 0))), (o 7 (.len .slice (.t 6))), (o 8 (.bin .lss (.t 5) (.t 7)))]) (.cond (.t 8) .skip (.exit 0))) L23s1)
noncomputable def L23s2 : LCode := (.seq (.reg [(o 31 (.move (.t 3))), (o 2 (.move (.t 31)))]) .ret)
noncomputable def L23s3 : LCode := (.seq (.seq (.reg [(o 4 (.move (.c (.int .i64 0))))]) (.block 0 (.loop L23w0))) L23s2)
noncomputable def L23 : LFunc := ⟨32, (.seq (.reg [(o 2 (.move (.c (.slice .none 0 0))))]) (.seq (.reg [(o 3 (.move (.c (.slice .none 0 0))))]) L23s3)), [(.t 2)], .true, .none, viaOff Go.Proofs.Try.prog⟩
theorem lp23 : LP 23 = some L23 := by kernel_rfl
noncomputable def L27s0 : LCode := (.cond (.t 13) (.seq (.reg [(o 6 (.move (.c (.bool .false))))]) .ret) .skip)
noncomputable def L27r0 : List LOper := [(o 25 (.fieldAddr 0 (.t 24))), (o 26 (.load .false 1 (.t 25))), (o 27 (.fieldAddr 2 (.t 3))), (o 28 (.fieldAddr 1 (.t 27))), (o 29 (.load .false 1 (.t 28))), (o 30 (.call (.c (.func 37 [] [])) [(.t 23), (.t 26), (.t 29)])), (oa 31 (.un .not (.t 30)) [10])]
noncomputable def L27s1 : LCode := (.cond (.t 31) (.seq (.reg [(o 6 (.move (.c (.bool .false))))]) .ret) .skip)
noncomputable def L27s2 : LCode := (.reg [(o 18 (.move (.t 7))), (o 19 (.bin .add (.t 18) (.c (.int .i64 1)))), (o 7 (.move (.t 19)))])
noncomputable def L27s3 : LCode := (.seq (.block 1 (.seq (.draw 10 ((o 20 (.move (.t 2))) :: (o 21 (.move (.t 7))) :: (o 22 (.indexAddrS 1 (.t 20) (.t 21))) :: (o 23 (.load .false 1 (.t 22))) :: (o 24 (.fieldAddr 2 (.t 3))) :: L27r0)) L27s1)) L27s2)
noncomputable def L27w1 : LCode := (.seq (.seq (.reg [(o 14 (.move (.t 7))), (o 15 (.move (.t 2))), (o 16 (.len .slice (.t 15))), (o 17 (.bin .lss (.t 14) (.t 16)))]) (.cond (.t 17) .skip (.exit 0))) L27s3)
noncomputable def L27r1 : List LOper := [(o 43 (.move (.t 2))), (o 44 (.call (.c (.func 71 [] [])) [(.t 38), (.t 42), (.t 43)])), (oa 45 (.un .not (.t 44)) [6])]
noncomputable def L27s4 : LCode := (.cond (.t 45) (.seq (.reg [(o 6 (.move (.c (.bool .false))))]) .ret) .skip)
noncomputable def L27s5 : LCode := (.reg [(o 36 (.move (.t 8))), (o 37 (.bin .add (.t 36) (.c (.int .i64 1)))), (o 8 (.move (.t 37)))])
noncomputable def L27s6 : LCode := (.seq (.block 3 (.seq (.draw 5 ((o 38 (.load .true 4 (.t 3))) :: (o 39 (.move (.t 1))) :: (o 40 (.move (.t 8))) :: (o 41 (.indexAddrS 4 (.t 39) (.t 40))) :: (o 42 (.load .true 4 (.t 41))) :: L27r1)) L27s4)) L27s5)
noncomputable def L27w0 : LCode := (.seq (.seq (.reg [(o 32 (.move (.t 8))), (o 33 (.move (.t 1))), (o 34 (.len .slice (.t 33))), (o 35 (.bin .lss (.t 32) (.t 34)))]) (.cond (.t 35) .skip (.exit 2))) L27s6)
noncomputable def L27r2 : List LOper := [(o 51 (.load .false 1 (.t 50))), (oa 52 (.eq (.cell (.i .i64)) .false (.t 49) (.t 51)) [3]), (oa 6 (.move (.t 52)) [3])]
noncomputable def L27s7 : LCode := (.seq (.draw 6 ((o 46 (.move (.t 2))) :: (o 47 (.fieldAddr 0 (.t 3))) :: (o 48 (.load .false 1 (.t 47))) :: (o 49 (.call (.c (.func 38 [] [])) [(.t 46), (.t 48)])) :: (o 50 (.fieldAddr 1 (.t 3))) :: L27r2)) .ret)
noncomputable def L27s8 : LCode := (.seq (.seq (.reg [(o 8 (.move (.c (.int .i64 0))))]) (.block 2 (.loop L27w0))) L27s7)
noncomputable def L27s9 : LCode := (.seq (.seq (.reg [(o 7 (.move (.c (.int .i64 0))))]) (.block 0 (.loop L27w1))) L27s8)
noncomputable def L27s10 : LCode := (.seq (.seq (.reg [(o 9 (.move (.t 2))), (o 10 (.len .slice (.t 9))), (o 11 (.fieldAddr 0 (.t 3))), (o 12 (.load .false 1 (.t 11))), (o 13 (.eq (.cell (.i .i64)) .true (.t 10) (.t 12)))]) L27s0) L27s9)
noncomputable def L27 : LFunc := ⟨53, (.seq (.reg [(o 3 (.box (.t 0))), (o 6 (.move (.c (.bool .false))))]) L27s10), [(.t 6)], .false, .none, viaOff Go.Proofs.Try.prog⟩
theorem lp27 : LP 27 = some L27 := by kernel_rfl
noncomputable def L35s0 : LCode := (.seq (.reg [(o 3 (.fieldAddr 0 (.t 1))), (o 4 (.load .false 1 (.t 3))), (o 5 (.fieldAddr 1 (.t 1))), (o 6 (.load .false 1 (.t 5))), (o 7 (.build [(.int .i64 0), (.int .i64 0)] [(0, (1, (.t 4))), (1, (1, (.t 6)))])), (on (.store 2 (.t 2) (.t 7)))]) .ret)
noncomputable def L35 : LFunc := ⟨8, (.seq (.reg [(o 1 (.box (.t 0))), (o 2 (.alloc [(.int .i64 0), (.int .i64 0)]))]) L35s0), [(.cell 2 .true 2)], .false, .none, viaOff Go.Proofs.Try.prog⟩
theorem lp35 : LP 35 = some L35 := by kernel_rfl
noncomputable def L63r0 : List LOper := [(og 14 (.load .true 2 (.t 13)) 12 .false), (og 15 (.call (.c (.func 83 [] [])) [(.t 14), (.c (.int .i64 1)), (.c (.int .i64 200))]) 12 .false), (og 16 (.un .not (.t 15)) 12 .false), (o 17 (.pick (.t 12) (.c (.bool .true)) (.t 16)))]
noncomputable def L63r1 : List LOper := ((og 9 (.load .false 1 (.t 8)) 7 .false) :: (og 10 (.bin .gtr (.t 9) (.c (.int .i64 10))) 7 .false) :: (o 11 (.pick (.t 7) (.c (.bool .true)) (.t 10))) :: (o 12 (.move (.t 11))) :: (og 13 (.fieldAddr 2 (.t 1)) 12 .false) :: L63r0)
noncomputable def L63s0 : LCode := (.cond (.t 17) (.seq (.reg [(o 2 (.move (.c (.bool .false))))]) .ret) .skip)
noncomputable def L63r2 : List LOper := [(o 28 (.load .false 1 (.t 27))), (o 29 (.bin .mul (.t 25) (.t 28))), (o 30 (.build [(.int .i64 0), (.int .i64 0)] [(0, (1, (.t 23))), (1, (1, (.t 29)))])), (o 3 (.alloc [(.int .i64 0), (.int .i64 0)])), (on (.store 2 (.t 3) (.t 30)))]
noncomputable def L63r3 : List LOper := ((o 23 (.bin .mul (.t 19) (.t 22))) :: (o 24 (.fieldAddr 0 (.t 1))) :: (o 25 (.load .false 1 (.t 24))) :: (o 26 (.fieldAddr 2 (.t 1))) :: (o 27 (.fieldAddr 1 (.t 26))) :: L63r2)
noncomputable def L63r4 : List LOper := [(og 36 (.fieldAddr 1 (.t 1)) 34 .true), (og 37 (.load .false 1 (.t 36)) 34 .true), (og 38 (.call (.c (.func 66 [] [])) [(.t 35), (.t 37)]) 34 .true), (o 39 (.pick (.t 34) (.t 38) (.c (.bool .false)))), (o 2 (.move (.t 39)))]
noncomputable def L63s1 : LCode := (.seq (.reg ((o 31 (.fieldAddr 1 (.t 1))) :: (o 32 (.load .false 1 (.t 31))) :: (o 33 (.bin .leq (.t 32) (.c (.int .i64 2000)))) :: (o 34 (.move (.t 33))) :: (og 35 (.load .true 2 (.t 3)) 34 .true) :: L63r4)) .ret)
noncomputable def L63s2 : LCode := (.seq (.reg ((o 18 (.fieldAddr 0 (.t 1))) :: (o 19 (.load .false 1 (.t 18))) :: (o 20 (.fieldAddr 2 (.t 1))) :: (o 21 (.fieldAddr 0 (.t 20))) :: (o 22 (.load .false 1 (.t 21))) :: L63r3)) L63s1)
noncomputable def L63s3 : LCode := (.seq (.seq (.reg ((o 4 (.fieldAddr 0 (.t 1))) :: (o 5 (.load .false 1 (.t 4))) :: (o 6 (.bin .lss (.t 5) (.c (.int .i64 1)))) :: (o 7 (.move (.t 6))) :: (og 8 (.fieldAddr 0 (.t 1)) 7 .false) :: L63r1)) L63s0) L63s2)
noncomputable def L63 : LFunc := ⟨40, (.seq (.reg [(o 1 (.box (.t 0))), (o 2 (.move (.c (.bool .false))))]) L63s3), [(.t 2)], .false, .none, viaOff Go.Proofs.Try.prog⟩
theorem lp63 : LP 63 = some L63 := by kernel_rfl
noncomputable def L67s0 : LCode := (.reg [(o 24 (.move (.t 3))), (o 25 (.move (.t 4))), (o 26 (.buildSlice 1 [(.int .i64 0)] [(0, (1, (.t 25)))])), (o 27 (.append 1 8 (.t 24) (.t 26))), (o 3 (.move (.t 27)))])
noncomputable def L67s1 : LCode := (.seq (.reg [(o 21 (.move (.t 4))), (o 22 (.move (.t 6))), (o 23 (.bin .add (.t 21) (.t 22))), (o 4 (.move (.t 23)))]) L67s0)
noncomputable def L67s2 : LCode := (.reg [(o 28 (.bin .add (.t 17) (.c (.int .i64 1)))), (o 17 (.move (.t 28)))])
noncomputable def L67s3 : LCode := (.seq (.block 1 (.seq (.reg [(o 19 (.indexAddrS 1 (.t 15) (.t 17))), (o 20 (.load .false 1 (.t 19))), (o 6 (.move (.t 20)))]) L67s1)) L67s2)
noncomputable def L67w0 : LCode := (.seq (.reg [(o 18 (.bin .lss (.t 17) (.t 16)))]) (.seq (.cond (.t 18) .skip (.exit 0)) L67s3))
noncomputable def L67s4 : LCode := (.seq (.reg [(o 29 (.move (.t 3))), (o 2 (.move (.t 29)))]) .ret)
noncomputable def L67s5 : LCode := (.seq (.seq (.reg [(o 15 (.move (.t 0))), (o 16 (.len .slice (.t 15))), (o 17 (.move (.c (.int .i64 0))))]) (.block 0 (.loop L67w0))) L67s4)
noncomputable def L67s6 : LCode := (.seq (.reg [(o 11 (.move (.t 3))), (o 12 (.move (.t 4))), (o 13 (.buildSlice 1 [(.int .i64 0)] [(0, (1, (.t 12)))])), (o 14 (.append 1 8 (.t 11) (.t 13))), (o 3 (.move (.t 14)))]) L67s5)
noncomputable def L67s7 : LCode := (.seq (.reg [(o 7 (.move (.t 0))), (o 8 (.len .slice (.t 7))), (o 9 (.bin .add (.t 8) (.c (.int .i64 1)))), (o 10 (.makeSlice [(.int .i64 0)] 8 (.c (.int .i64 0)) (.t 9))), (o 3 (.move (.t 10)))]) (.seq (.reg [(o 4 (.move (.c (.int .i64 0))))]) L67s6))
noncomputable def L67 : LFunc := ⟨30, (.seq (.reg [(o 2 (.move (.c (.slice .none 0 0))))]) L67s7), [(.t 2)], .true, .none, viaOff Go.Proofs.Try.prog⟩
theorem lp67 : LP 67 = some L67 := by kernel_rfl
noncomputable def L71r0 : List LOper := [(o 24 (.fieldAddr 2 (.t 4))), (o 25 (.fieldAddr 1 (.t 24))), (o 26 (.load .false 1 (.t 25))), (oa 8 (.move (.t 23)) [6]), (oa 9 (.move (.t 26)) [6])]
noncomputable def L71r1 : List LOper := ((o 19 (.load .false 1 (.t 18))) :: (o 20 (.call (.c (.func 38 [] [])) [(.t 17), (.t 19)])) :: (o 21 (.move (.t 7))) :: (oa 22 (.bin .sub (.t 20) (.t 21)) [6]) :: (oa 23 (.max [(.t 16), (.t 22)]) [6]) :: L71r0)
noncomputable def L71r2 : List LOper := [(o 37 (.call (.c (.func 38 [] [])) [(.t 33), (.t 36)])), (o 38 (.move (.t 7))), (o 39 (.bin .sub (.t 37) (.t 38))), (o 40 (.bin .sub (.t 39) (.c (.int .i64 1)))), (o 41 (.min [(.t 32), (.t 40)])), (o 9 (.move (.t 41)))]
noncomputable def L71s0 : LCode := (.cond (.t 31) (.reg ((o 32 (.move (.t 9))) :: (o 33 (.move (.t 2))) :: (o 34 (.fieldAddr 1 (.t 4))) :: (o 35 (.load .false 1 (.t 34))) :: (o 36 (.bin .add (.t 35) (.c (.int .i64 1)))) :: L71r2)) .skip)
noncomputable def L71s1 : LCode := (.seq (.reg [(o 42 (.move (.t 8))), (o 43 (.move (.t 9))), (o 44 (.bin .leq (.t 42) (.t 43))), (o 6 (.move (.t 44)))]) .ret)
noncomputable def L71s2 : LCode := (.seq (.seq (.reg [(o 27 (.fieldAddr 1 (.t 4))), (o 28 (.load .false 1 (.t 27))), (o 29 (.fieldAddr 0 (.t 3))), (o 30 (.load .false 1 (.t 29))), (o 31 (.bin .lss (.t 28) (.t 30)))]) L71s0) L71s1)
noncomputable def L71s3 : LCode := (.seq (.draw 13 ((o 14 (.fieldAddr 2 (.t 4))) :: (o 15 (.fieldAddr 0 (.t 14))) :: (o 16 (.load .false 1 (.t 15))) :: (o 17 (.move (.t 2))) :: (o 18 (.fieldAddr 1 (.t 4))) :: L71r1)) L71s2)
noncomputable def L71s4 : LCode := (.seq (.reg [(o 10 (.move (.t 2))), (o 11 (.fieldAddr 0 (.t 4))), (o 12 (.load .false 1 (.t 11))), (o 13 (.call (.c (.func 38 [] [])) [(.t 10), (.t 12)])), (o 7 (.move (.t 13)))]) L71s3)
noncomputable def L71 : LFunc := ⟨45, (.seq (.reg [(o 3 (.box (.t 0))), (o 4 (.box (.t 1))), (o 6 (.move (.c (.bool .false))))]) L71s4), [(.t 6)], .false, .none, viaOff Go.Proofs.Try.prog⟩
theorem lp71 : LP 71 = some L71 := by kernel_rfl
end Go.Hx

