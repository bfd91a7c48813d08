/- The functions of the program, as the plain machine runs them. -/
import Derived.Test.YtcjidgfngjoclaaH00
import Derived.Test.YtcjidgfngjoclaaProg
import Derived.ProofKit
set_option linter.all false
/- The functions of the program, as the plain machine runs them. -/
namespace Go.Hx
set_option maxRecDepth 100000
abbrev o (d : Nat) (p : LOp) : LOper := ⟨some d, p, none, []⟩
abbrev oa (d : Nat) (p : LOp) (a : List Nat) : LOper := ⟨some d, p, none, a⟩
abbrev og (d : Nat) (p : LOp) (t : Nat) (b : Bool) : LOper := ⟨some d, p, some (t, b), []⟩
abbrev oga (d : Nat) (p : LOp) (t : Nat) (b : Bool) (a : List Nat) : LOper := ⟨some d, p, some (t, b), a⟩
abbrev on (p : LOp) : LOper := ⟨none, p, none, []⟩
noncomputable abbrev LP : Nat → Option LFunc := lowP Go.Proofs.Try.prog [23, 24, 29, 30, 32, 36, 39, 41, 43, 44, 46, 50, 53, 54, 59, 60, 67, 73, 76, 78, 80, 82, 92, 95, 99, 100, 101, 102, 104]
noncomputable def L4s0 : LCode := (.cond (.t 18) (.seq (.reg [(o 19 (.call (.c (.func 19 [] [])) [])), (o 4 (.move (.t 19)))]) .ret) .skip)
noncomputable def L4r0 : List LOper := [(o 20 (.move (.t 25))), (o 26 (.extract (.t 20) 0)), (o 27 (.extract (.t 20) 1)), (o 5 (.move (.t 26))), (o 6 (.move (.t 27)))]
noncomputable def L4r1 : List LOper := [(o 28 (.move (.t 33))), (o 34 (.extract (.t 28) 0)), (o 35 (.extract (.t 28) 1)), (o 7 (.move (.t 34))), (o 8 (.move (.t 35)))]
noncomputable def L4r2 : List LOper := [(o 36 (.move (.t 41))), (o 42 (.extract (.t 36) 0)), (o 43 (.extract (.t 36) 1)), (o 9 (.move (.t 42))), (o 10 (.move (.t 43)))]
noncomputable def L4r3 : List LOper := [(o 49 (.extract (.t 44) 1)), (o 11 (.move (.t 48))), (o 12 (.move (.t 49)))]
noncomputable def L4r4 : List LOper := [(o 77 (.move (.t 76))), (og 78 (.call (.c (.func 19 [] [])) []) 77 .true), (o 79 (.pick (.t 77) (.t 78) (.c (.bool .false)))), (o 4 (.move (.t 79)))]
noncomputable def L4r5 : List LOper := ((o 72 (.pick (.t 65) (.t 71) (.c (.bool .false)))) :: (o 73 (.move (.t 72))) :: (og 74 (.move (.t 9)) 73 .true) :: (og 75 (.eq (.cell (.i .i64)) .false (.t 74) (.c (.int .i64 0))) 73 .true) :: (o 76 (.pick (.t 73) (.t 75) (.c (.bool .false)))) :: L4r4)
noncomputable def L4r6 : List LOper := ((og 67 (.len .slice (.t 66)) 65 .true) :: (og 68 (.move (.t 7)) 65 .true) :: (og 69 (.len .slice (.t 68)) 65 .true) :: (og 70 (.bin .add (.t 67) (.t 69)) 65 .true) :: (og 71 (.eq (.cell (.i .i64)) .false (.t 70) (.c (.int .i64 0))) 65 .true) :: L4r5)
noncomputable def L4r7 : List LOper := ((og 62 (.move (.t 12)) 60 .true) :: (og 63 (.eq (.cell (.i .i64)) .false (.t 61) (.t 62)) 60 .true) :: (o 64 (.pick (.t 60) (.t 63) (.c (.bool .false)))) :: (o 65 (.move (.t 64))) :: (og 66 (.move (.t 5)) 65 .true) :: L4r6)
noncomputable def L4r8 : List LOper := ((og 57 (.move (.t 12)) 55 .true) :: (og 58 (.eq (.cell (.i .i64)) .false (.t 56) (.t 57)) 55 .true) :: (o 59 (.pick (.t 55) (.t 58) (.c (.bool .false)))) :: (o 60 (.move (.t 59))) :: (og 61 (.move (.t 10)) 60 .true) :: L4r7)
noncomputable def L4s1 : LCode := (.cond (.t 51) (.seq (.reg ((o 52 (.move (.t 6))) :: (o 53 (.move (.t 12))) :: (o 54 (.eq (.cell (.i .i64)) .false (.t 52) (.t 53))) :: (o 55 (.move (.t 54))) :: (og 56 (.move (.t 8)) 55 .true) :: L4r8)) .ret) .skip)
noncomputable def L4r9 : List LOper := [(og 110 (.call (.c (.func 33 [] [])) [(.t 108), (.t 109)]) 106 .false), (og 111 (.eq (.cell (.i .i64)) .true (.t 107) (.t 110)) 106 .false), (o 112 (.pick (.t 106) (.c (.bool .true)) (.t 111)))]
noncomputable def L4r10 : List LOper := ((o 105 (.pick (.t 98) (.c (.bool .true)) (.t 104))) :: (o 106 (.move (.t 105))) :: (og 107 (.move (.t 9)) 106 .false) :: (og 108 (.load .true 4 (.t 2)) 106 .false) :: (og 109 (.move (.t 11)) 106 .false) :: L4r9)
noncomputable def L4r11 : List LOper := ((og 100 (.len .slice (.t 99)) 98 .false) :: (og 101 (.fieldAddr 0 (.t 2)) 98 .false) :: (og 102 (.load .false 1 (.t 101)) 98 .false) :: (og 103 (.bin .add (.t 102) (.c (.int .i64 1))) 98 .false) :: (og 104 (.eq (.cell (.i .i64)) .true (.t 100) (.t 103)) 98 .false) :: L4r10)
noncomputable def L4r12 : List LOper := ((og 95 (.bin .add (.t 94) (.c (.int .i64 1))) 90 .false) :: (og 96 (.eq (.cell (.i .i64)) .true (.t 92) (.t 95)) 90 .false) :: (o 97 (.pick (.t 90) (.c (.bool .true)) (.t 96))) :: (o 98 (.move (.t 97))) :: (og 99 (.move (.t 7)) 98 .false) :: L4r11)
noncomputable def L4r13 : List LOper := ((o 90 (.move (.t 89))) :: (og 91 (.move (.t 5)) 90 .false) :: (og 92 (.len .slice (.t 91)) 90 .false) :: (og 93 (.fieldAddr 0 (.t 2)) 90 .false) :: (og 94 (.load .false 1 (.t 93)) 90 .false) :: L4r12)
noncomputable def L4r14 : List LOper := ((o 85 (.pick (.t 82) (.c (.bool .true)) (.t 84))) :: (o 86 (.move (.t 85))) :: (og 87 (.move (.t 10)) 86 .false) :: (og 88 (.eq (.cell (.i .i64)) .true (.t 87) (.c (.int .i64 0))) 86 .false) :: (o 89 (.pick (.t 86) (.c (.bool .true)) (.t 88))) :: L4r13)
noncomputable def L4s2 : LCode := (.cond (.t 112) (.seq (.reg [(o 4 (.move (.c (.bool .false))))]) .ret) .skip)
noncomputable def L4r15 : List LOper := [(oga 157 (.bin .mul (.t 154) (.t 156)) 146 .false [5]), (oga 158 (.fieldAddr 1 (.t 2)) 146 .false [5]), (oga 159 (.load .false 1 (.t 158)) 146 .false [5]), (oga 160 (.bin .quo (.t 157) (.t 159)) 146 .false [5]), (oga 161 (.eq (.cell (.i .i64)) .true (.t 151) (.t 160)) 146 .false [5]), (oa 162 (.pick (.t 146) (.c (.bool .true)) (.t 161)) [5])]
noncomputable def L4r16 : List LOper := ((oga 152 (.fieldAddr 0 (.t 2)) 146 .false [5]) :: (oga 153 (.load .false 1 (.t 152)) 146 .false [5]) :: (oga 154 (.bin .mul (.c (.int .i64 1000)) (.t 153)) 146 .false [5]) :: (oga 155 (.fieldAddr 1 (.t 14)) 146 .false [5]) :: (oga 156 (.load .false 1 (.t 155)) 146 .false [5]) :: L4r15)
noncomputable def L4r17 : List LOper := ((oga 147 (.move (.t 7)) 146 .false [5]) :: (oga 148 (.move (.t 13)) 146 .false [5]) :: (oga 149 (.indexAddrS 2 (.t 147) (.t 148)) 146 .false [5]) :: (oga 150 (.fieldAddr 1 (.t 149)) 146 .false [5]) :: (oga 151 (.load .false 1 (.t 150)) 146 .false [5]) :: L4r16)
noncomputable def L4r18 : List LOper := ((oga 142 (.load .false 1 (.t 141)) 129 .false [5]) :: (oga 143 (.bin .quo (.t 140) (.t 142)) 129 .false [5]) :: (oga 144 (.eq (.cell (.i .i64)) .true (.t 134) (.t 143)) 129 .false [5]) :: (oa 145 (.pick (.t 129) (.c (.bool .true)) (.t 144)) [5]) :: (oa 146 (.move (.t 145)) [5]) :: L4r17)
noncomputable def L4r19 : List LOper := ((oga 137 (.bin .mul (.c (.int .i64 1000)) (.t 136)) 129 .false [5]) :: (oga 138 (.fieldAddr 0 (.t 14)) 129 .false [5]) :: (oga 139 (.load .false 1 (.t 138)) 129 .false [5]) :: (oga 140 (.bin .mul (.t 137) (.t 139)) 129 .false [5]) :: (oga 141 (.fieldAddr 1 (.t 2)) 129 .false [5]) :: L4r18)
noncomputable def L4r20 : List LOper := ((oga 132 (.indexAddrS 2 (.t 130) (.t 131)) 129 .false [5]) :: (oga 133 (.fieldAddr 0 (.t 132)) 129 .false [5]) :: (oga 134 (.load .false 1 (.t 133)) 129 .false [5]) :: (oga 135 (.fieldAddr 0 (.t 2)) 129 .false [5]) :: (oga 136 (.load .false 1 (.t 135)) 129 .false [5]) :: L4r19)
noncomputable def L4r21 : List LOper := ((o 127 (.call (.c (.func 35 [] [])) [(.t 126)])) :: (oa 128 (.eq (.row [(.i .i64), (.i .i64)]) .true (.t 125) (.t 127)) [5]) :: (oa 129 (.move (.t 128)) [5]) :: (oga 130 (.move (.t 7)) 129 .false [5]) :: (oga 131 (.move (.t 13)) 129 .false [5]) :: L4r20)
noncomputable def L4s3 : LCode := (.cond (.t 162) (.seq (.reg [(o 4 (.move (.c (.bool .false))))]) .ret) .skip)
noncomputable def L4s4 : LCode := (.seq (.draw 38 ((o 122 (.move (.t 5))) :: (o 123 (.move (.t 13))) :: (o 124 (.indexAddrS 2 (.t 122) (.t 123))) :: (o 125 (.load .true 2 (.t 124))) :: (o 126 (.load .true 2 (.t 14))) :: L4r21)) L4s3)
noncomputable def L4s5 : LCode := (.reg [(o 117 (.move (.t 13))), (o 118 (.bin .add (.t 117) (.c (.int .i64 1)))), (o 13 (.move (.t 118)))])
noncomputable def L4s6 : LCode := (.seq (.block 1 (.seq (.reg [(o 119 (.move (.t 11))), (o 120 (.move (.t 13))), (o 121 (.call (.c (.func 34 [] [])) [(.t 119), (.t 120)])), (o 14 (.alloc [(.int .i64 0), (.int .i64 0)])), (on (.store 2 (.t 14) (.t 121)))]) L4s4)) L4s5)
noncomputable def L4w0 : LCode := (.seq (.seq (.reg [(o 113 (.move (.t 13))), (o 114 (.move (.t 5))), (o 115 (.len .slice (.t 114))), (o 116 (.bin .lss (.t 113) (.t 115)))]) (.cond (.t 116) .skip (.exit 0))) L4s6)
noncomputable def L4s7 : LCode := (.seq (.reg [(o 163 (.call (.c (.func 19 [] [])) [])), (o 4 (.move (.t 163)))]) .ret)
noncomputable def L4s8 : LCode := (.seq (.seq (.reg [(o 13 (.move (.c (.int .i64 0))))]) (.block 0 (.loop L4w0))) L4s7)
noncomputable def L4s9 : LCode := (.seq (.seq (.reg ((o 80 (.move (.t 6))) :: (o 81 (.eq (.cell (.i .i64)) .true (.t 80) (.c (.int .i64 0)))) :: (o 82 (.move (.t 81))) :: (og 83 (.move (.t 8)) 82 .false) :: (og 84 (.eq (.cell (.i .i64)) .true (.t 83) (.c (.int .i64 0))) 82 .false) :: L4r14)) L4s2) L4s8)
noncomputable def L4s10 : LCode := (.seq (.seq (.reg [(o 50 (.move (.t 12))), (o 51 (.eq (.cell (.i .i64)) .true (.t 50) (.c (.int .i64 0))))]) L4s1) L4s9)
noncomputable def L4s11 : LCode := (.seq (.reg ((o 45 (.load .true 4 (.t 2))) :: (o 46 (.move (.t 1))) :: (o 47 (.call (.c (.func 32 [] [])) [(.t 45), (.t 46), (.c (.bool .true))])) :: (o 44 (.move (.t 47))) :: (o 48 (.extract (.t 44) 0)) :: L4r3)) L4s10)
noncomputable def L4s12 : LCode := (.seq (.reg ((o 37 (.load .true 4 (.t 2))) :: (o 38 (.call (.c (.func 21 [] [])) [(.t 37)])) :: (o 39 (.move (.t 1))) :: (o 40 (.call (.c (.func 23 [] [])) [(.t 39)])) :: (o 41 (.call (.c (.func 31 [] [])) [(.t 38), (.t 40)])) :: L4r2)) L4s11)
noncomputable def L4s13 : LCode := (.seq (.reg ((o 29 (.load .true 4 (.t 2))) :: (o 30 (.call (.c (.func 21 [] [])) [(.t 29)])) :: (o 31 (.move (.t 1))) :: (o 32 (.call (.c (.func 23 [] [])) [(.t 31)])) :: (o 33 (.call (.c (.func 30 [] [])) [(.t 30), (.t 32)])) :: L4r1)) L4s12)
noncomputable def L4s14 : LCode := (.seq (.reg ((o 21 (.load .true 4 (.t 2))) :: (o 22 (.call (.c (.func 21 [] [])) [(.t 21)])) :: (o 23 (.move (.t 1))) :: (o 24 (.call (.c (.func 23 [] [])) [(.t 23)])) :: (o 25 (.call (.c (.func 29 [] [])) [(.t 22), (.t 24)])) :: L4r0)) L4s13)
noncomputable def L4s15 : LCode := (.seq (.seq (.reg [(o 15 (.load .true 4 (.t 2))), (o 16 (.move (.t 1))), (o 17 (.call (.c (.func 28 [] [])) [(.t 15), (.t 16)])), (o 18 (.un .not (.t 17)))]) L4s0) L4s14)
noncomputable def L4 : LFunc := ⟨164, (.seq (.reg [(o 2 (.box (.t 0))), (o 4 (.move (.c (.bool .false))))]) L4s15), [(.t 4)], .false, .none, viaOff Go.Proofs.Try.prog⟩
end Go.Hx

