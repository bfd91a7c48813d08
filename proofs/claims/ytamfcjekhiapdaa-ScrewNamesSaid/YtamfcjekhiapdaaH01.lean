/- The functions of the program, as the plain machine runs them. -/
import Derived.Test.YtamfcjekhiapdaaH00
import Derived.Test.YtamfcjekhiapdaaProg
import Derived.ProofKit
set_option linter.all false
/- The functions of the program, as the plain machine runs them. -/
namespace Go.Hx
set_option maxRecDepth 100000
abbrev o (d : Nat) (p : LOp) : LOper := ⟨some d, p, none, []⟩
abbrev oa (d : Nat) (p : LOp) (a : List Nat) : LOper := ⟨some d, p, none, a⟩
abbrev og (d : Nat) (p : LOp) (t : Nat) (b : Bool) : LOper := ⟨some d, p, some (t, b), []⟩
abbrev on (p : LOp) : LOper := ⟨none, p, none, []⟩
abbrev ona (p : LOp) (a : List Nat) : LOper := ⟨none, p, none, a⟩
noncomputable abbrev LP : Nat → Option LFunc := lowP Go.Proofs.Try.prog [19, 21, 29, 30, 35, 36, 41, 42, 44, 45, 53, 54, 58, 62, 65, 69, 70, 81, 84, 92, 104]
noncomputable def L4s0 : LCode := (.cond (.t 21) (.seq (.reg [(o 22 (.call (.c (.func 17 [] [])) [])), (o 8 (.move (.t 22)))]) .ret) .skip)
noncomputable def L4r0 : List LOper := [(o 29 (.call (.c (.func 30 [] [])) [(.t 28)])), (o 30 (.call (.c (.func 29 [] [])) [(.t 25), (.t 27), (.t 29)])), (o 23 (.move (.t 30))), (o 31 (.extract (.t 23) 0)), (o 32 (.extract (.t 23) 1)), (o 9 (.move (.t 31))), (o 10 (.move (.t 32)))]
noncomputable def L4r1 : List LOper := [(o 43 (.extract (.t 33) 1)), (o 11 (.move (.t 42))), (o 12 (.move (.t 43)))]
noncomputable def L4r2 : List LOper := ((o 39 (.call (.c (.func 30 [] [])) [(.t 38)])) :: (o 40 (.move (.t 3))) :: (o 41 (.call (.c (.func 31 [] [])) [(.t 35), (.t 37), (.t 39), (.t 40)])) :: (o 33 (.move (.t 41))) :: (o 42 (.extract (.t 33) 0)) :: L4r1)
noncomputable def L4r3 : List LOper := [(og 65 (.eq (.cell (.i .i64)) .false (.t 64) (.c (.int .i64 0))) 63 .true), (o 66 (.pick (.t 63) (.t 65) (.c (.bool .false)))), (o 67 (.move (.t 66))), (og 68 (.call (.c (.func 17 [] [])) []) 67 .true), (o 69 (.pick (.t 67) (.t 68) (.c (.bool .false)))), (o 8 (.move (.t 69)))]
noncomputable def L4r4 : List LOper := ((og 60 (.len .slice (.t 59)) 58 .true) :: (og 61 (.eq (.cell (.i .i64)) .false (.t 60) (.c (.int .i64 0))) 58 .true) :: (o 62 (.pick (.t 58) (.t 61) (.c (.bool .false)))) :: (o 63 (.move (.t 62))) :: (og 64 (.move (.t 11)) 63 .true) :: L4r3)
noncomputable def L4r5 : List LOper := ((og 55 (.move (.t 13)) 53 .true) :: (og 56 (.eq (.cell (.i .i64)) .false (.t 54) (.t 55)) 53 .true) :: (o 57 (.pick (.t 53) (.t 56) (.c (.bool .false)))) :: (o 58 (.move (.t 57))) :: (og 59 (.move (.t 9)) 58 .true) :: L4r4)
noncomputable def L4s1 : LCode := (.cond (.t 49) (.seq (.reg ((o 50 (.move (.t 10))) :: (o 51 (.move (.t 13))) :: (o 52 (.eq (.cell (.i .i64)) .false (.t 50) (.t 51))) :: (o 53 (.move (.t 52))) :: (og 54 (.move (.t 12)) 53 .true) :: L4r5)) .ret) .skip)
noncomputable def L4r6 : List LOper := [(og 75 (.move (.t 1)) 72 .false), (og 76 (.len .slice (.t 75)) 72 .false), (og 77 (.eq (.cell (.i .i64)) .true (.t 74) (.t 76)) 72 .false), (o 78 (.pick (.t 72) (.c (.bool .true)) (.t 77)))]
noncomputable def L4s2 : LCode := (.cond (.t 78) (.seq (.reg [(o 8 (.move (.c (.bool .false))))]) .ret) .skip)
noncomputable def L4r7 : List LOper := [(o 93 (.call (.c (.func 26 [] [])) [(.t 88), (.t 92)])), (o 16 (.alloc [(.int .i64 0), (.int .i64 0)])), (ona (.store 2 (.t 16) (.t 93)) [6, 5])]
noncomputable def L4r8 : List LOper := [(o 109 (.indexAddrS 1 (.t 107) (.t 108))), (o 110 (.load .false 1 (.t 109))), (o 111 (.bin .sub (.t 106) (.t 110))), (o 112 (.call (.c (.func 33 [] [])) [(.t 104), (.t 111)])), (oa 113 (.eq (.row [(.i .i64), (.i .i64)]) .true (.t 97) (.t 112)) [18])]
noncomputable def L4r9 : List LOper := ((o 104 (.bin .sub (.t 99) (.t 103))) :: (o 105 (.fieldAddr 1 (.t 16))) :: (o 106 (.load .false 1 (.t 105))) :: (o 107 (.move (.t 1))) :: (o 108 (.move (.t 15))) :: L4r8)
noncomputable def L4r10 : List LOper := ((o 99 (.load .false 1 (.t 98))) :: (o 100 (.move (.t 1))) :: (o 101 (.move (.t 15))) :: (o 102 (.indexAddrS 1 (.t 100) (.t 101))) :: (o 103 (.load .false 1 (.t 102))) :: L4r9)
noncomputable def L4s3 : LCode := (.cond (.t 113) (.seq (.reg [(o 8 (.move (.c (.bool .false))))]) .ret) .skip)
noncomputable def L4r11 : List LOper := [(o 119 (.move (.t 1))), (o 120 (.move (.t 15))), (o 121 (.indexAddrS 1 (.t 119) (.t 120))), (o 122 (.load .false 1 (.t 121))), (o 123 (.call (.c (.func 34 [] [])) [(.t 114), (.t 118), (.t 122)])), (o 124 (.move (.t 3))), (oa 125 (.bin .gtr (.t 123) (.t 124)) [9])]
noncomputable def L4s4 : LCode := (.cond (.t 125) (.reg [(o 126 (.move (.t 15))), (o 14 (.move (.t 126)))]) .skip)
noncomputable def L4s5 : LCode := (.seq (.draw 9 ((o 114 (.load .true 4 (.t 4))) :: (o 115 (.move (.t 2))) :: (o 116 (.move (.t 15))) :: (o 117 (.indexAddrS 1 (.t 115) (.t 116))) :: (o 118 (.load .false 1 (.t 117))) :: L4r11)) L4s4)
noncomputable def L4s6 : LCode := (.seq (.seq (.draw 19 ((o 94 (.move (.t 9))) :: (o 95 (.move (.t 15))) :: (o 96 (.indexAddrS 2 (.t 94) (.t 95))) :: (o 97 (.load .true 2 (.t 96))) :: (o 98 (.fieldAddr 0 (.t 16))) :: L4r10)) L4s3) L4s5)
noncomputable def L4s7 : LCode := (.reg [(o 86 (.move (.t 15))), (o 87 (.bin .sub (.t 86) (.c (.int .i64 1)))), (o 15 (.move (.t 87)))])
noncomputable def L4s8 : LCode := (.seq (.block 1 (.seq (.draw 7 ((o 88 (.load .true 4 (.t 4))) :: (o 89 (.move (.t 2))) :: (o 90 (.move (.t 15))) :: (o 91 (.indexAddrS 1 (.t 89) (.t 90))) :: (o 92 (.load .false 1 (.t 91))) :: L4r7)) L4s6)) L4s7)
noncomputable def L4w0 : LCode := (.seq (.seq (.reg [(o 84 (.move (.t 15))), (o 85 (.bin .geq (.t 84) (.c (.int .i64 0))))]) (.cond (.t 85) .skip (.exit 0))) L4s8)
noncomputable def L4r12 : List LOper := [(o 135 (.pick (.t 132) (.t 134) (.c (.bool .false)))), (o 136 (.move (.t 135))), (og 137 (.call (.c (.func 17 [] [])) []) 136 .true), (o 138 (.pick (.t 136) (.t 137) (.c (.bool .false)))), (o 8 (.move (.t 138)))]
noncomputable def L4s9 : LCode := (.cond (.t 129) (.seq (.reg ((o 130 (.move (.t 12))) :: (o 131 (.eq (.cell (.i .i64)) .false (.t 130) (.c (.int .i64 2)))) :: (o 132 (.move (.t 131))) :: (og 133 (.move (.t 11)) 132 .true) :: (og 134 (.eq (.cell (.i .i64)) .false (.t 133) (.c (.int .i64 0))) 132 .true) :: L4r12)) .ret) .skip)
noncomputable def L4r13 : List LOper := [(o 148 (.pick (.t 145) (.t 147) (.c (.bool .false)))), (o 149 (.move (.t 148))), (og 150 (.call (.c (.func 17 [] [])) []) 149 .true), (o 151 (.pick (.t 149) (.t 150) (.c (.bool .false)))), (o 8 (.move (.t 151)))]
noncomputable def L4s10 : LCode := (.cond (.t 142) (.seq (.reg ((o 143 (.move (.t 12))) :: (o 144 (.eq (.cell (.i .i64)) .false (.t 143) (.c (.int .i64 7)))) :: (o 145 (.move (.t 144))) :: (og 146 (.move (.t 11)) 145 .true) :: (og 147 (.eq (.cell (.i .i64)) .false (.t 146) (.c (.int .i64 0))) 145 .true) :: L4r13)) .ret) .skip)
noncomputable def L4r14 : List LOper := [(og 157 (.eq (.cell (.i .i64)) .false (.t 155) (.t 156)) 154 .true), (o 158 (.pick (.t 154) (.t 157) (.c (.bool .false)))), (o 159 (.move (.t 158))), (og 160 (.call (.c (.func 17 [] [])) []) 159 .true), (o 161 (.pick (.t 159) (.t 160) (.c (.bool .false)))), (o 8 (.move (.t 161)))]
noncomputable def L4s11 : LCode := (.seq (.reg ((o 152 (.move (.t 12))) :: (o 153 (.eq (.cell (.i .i64)) .false (.t 152) (.c (.int .i64 0)))) :: (o 154 (.move (.t 153))) :: (og 155 (.move (.t 11)) 154 .true) :: (og 156 (.move (.t 14)) 154 .true) :: L4r14)) .ret)
noncomputable def L4s12 : LCode := (.seq (.seq (.reg [(o 139 (.move (.t 14))), (o 140 (.move (.t 9))), (o 141 (.len .slice (.t 140))), (o 142 (.eq (.cell (.i .i64)) .false (.t 139) (.t 141)))]) L4s10) L4s11)
noncomputable def L4s13 : LCode := (.seq (.seq (.reg [(o 127 (.move (.t 3))), (o 128 (.call (.c (.func 24 [] [])) [(.t 127), (.c (.int .i64 0)), (.c (.int .i64 5000))])), (o 129 (.un .not (.t 128)))]) L4s9) L4s12)
noncomputable def L4s14 : LCode := (.seq (.seq (.reg [(o 81 (.move (.t 9))), (o 82 (.len .slice (.t 81))), (o 83 (.bin .sub (.t 82) (.c (.int .i64 1)))), (o 15 (.move (.t 83)))]) (.block 0 (.loop L4w0))) L4s13)
noncomputable def L4s15 : LCode := (.seq (.reg [(o 79 (.move (.t 9))), (o 80 (.len .slice (.t 79))), (o 14 (.move (.t 80)))]) L4s14)
noncomputable def L4s16 : LCode := (.seq (.seq (.reg ((o 70 (.move (.t 10))) :: (o 71 (.eq (.cell (.i .i64)) .true (.t 70) (.c (.int .i64 0)))) :: (o 72 (.move (.t 71))) :: (og 73 (.move (.t 9)) 72 .false) :: (og 74 (.len .slice (.t 73)) 72 .false) :: L4r6)) L4s2) L4s15)
noncomputable def L4s17 : LCode := (.seq (.seq (.reg [(o 48 (.move (.t 13))), (o 49 (.eq (.cell (.i .i64)) .true (.t 48) (.c (.int .i64 0))))]) L4s1) L4s16)
noncomputable def L4s18 : LCode := (.seq (.reg [(o 44 (.load .true 4 (.t 4))), (o 45 (.move (.t 1))), (o 46 (.move (.t 2))), (o 47 (.call (.c (.func 32 [] [])) [(.t 44), (.t 45), (.t 46)])), (o 13 (.move (.t 47)))]) L4s17)
noncomputable def L4s19 : LCode := (.seq (.reg ((o 34 (.load .true 4 (.t 4))) :: (o 35 (.call (.c (.func 19 [] [])) [(.t 34)])) :: (o 36 (.move (.t 1))) :: (o 37 (.call (.c (.func 30 [] [])) [(.t 36)])) :: (o 38 (.move (.t 2))) :: L4r2)) L4s18)
noncomputable def L4s20 : LCode := (.seq (.reg ((o 24 (.load .true 4 (.t 4))) :: (o 25 (.call (.c (.func 19 [] [])) [(.t 24)])) :: (o 26 (.move (.t 1))) :: (o 27 (.call (.c (.func 30 [] [])) [(.t 26)])) :: (o 28 (.move (.t 2))) :: L4r0)) L4s19)
noncomputable def L4s21 : LCode := (.seq (.seq (.reg [(o 17 (.load .true 4 (.t 4))), (o 18 (.move (.t 1))), (o 19 (.move (.t 2))), (o 20 (.call (.c (.func 16 [] [])) [(.t 17), (.t 18), (.t 19)])), (o 21 (.un .not (.t 20)))]) L4s0) L4s20)
noncomputable def L4 : LFunc := ⟨162, (.seq (.reg [(o 4 (.box (.t 0))), (o 8 (.move (.c (.bool .false))))]) L4s21), [(.t 8)], .false, .none⟩
end Go.Hx

