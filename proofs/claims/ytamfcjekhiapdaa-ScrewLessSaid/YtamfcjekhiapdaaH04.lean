/- The functions of the program, as the plain machine runs them. -/
import Derived.Test.YtamfcjekhiapdaaH00
import Derived.Test.YtamfcjekhiapdaaProg
import Derived.ProofKit
set_option linter.all false
/- The functions of the program, as the plain machine runs them. -/
namespace Go.Hx
set_option maxRecDepth 100000
abbrev o (d : Nat) (p : LOp) : LOper := ⟨some d, p, none, []⟩
abbrev oa (d : Nat) (p : LOp) (a : List Nat) : LOper := ⟨some d, p, none, a⟩
abbrev og (d : Nat) (p : LOp) (t : Nat) (b : Bool) : LOper := ⟨some d, p, some (t, b), []⟩
abbrev oga (d : Nat) (p : LOp) (t : Nat) (b : Bool) (a : List Nat) : LOper := ⟨some d, p, some (t, b), a⟩
abbrev on (p : LOp) : LOper := ⟨none, p, none, []⟩
abbrev ona (p : LOp) (a : List Nat) : LOper := ⟨none, p, none, a⟩
noncomputable abbrev LP : Nat → Option LFunc := lowP Go.Proofs.Try.prog [19, 21, 29, 30, 35, 36, 41, 42, 44, 45, 53, 54, 58, 62, 65, 69, 70, 81, 84, 92, 104]
noncomputable def L4s0 : LCode := (.cond (.t 21) (.seq (.reg [(o 22 (.call (.c (.func 17 [] [])) [])), (o 8 (.move (.t 22)))]) .ret) .skip)
noncomputable def L4r0 : List LOper := [(o 29 (.call (.c (.func 30 [] [])) [(.t 28)])), (o 30 (.call (.c (.func 29 [] [])) [(.t 25), (.t 27), (.t 29)])), (o 23 (.move (.t 30))), (o 31 (.extract (.t 23) 0)), (o 32 (.extract (.t 23) 1)), (o 9 (.move (.t 31))), (o 10 (.move (.t 32)))]
noncomputable def L4r1 : List LOper := [(o 43 (.extract (.t 33) 1)), (o 11 (.move (.t 42))), (o 12 (.move (.t 43)))]
noncomputable def L4r2 : List LOper := ((o 39 (.call (.c (.func 30 [] [])) [(.t 38)])) :: (o 40 (.move (.t 3))) :: (o 41 (.call (.c (.func 31 [] [])) [(.t 35), (.t 37), (.t 39), (.t 40)])) :: (o 33 (.move (.t 41))) :: (o 42 (.extract (.t 33) 0)) :: L4r1)
noncomputable def L4r3 : List LOper := [(og 65 (.eq (.cell (.i .i64)) .false (.t 64) (.c (.int .i64 0))) 63 .true), (o 66 (.pick (.t 63) (.t 65) (.c (.bool .false)))), (o 67 (.move (.t 66))), (og 68 (.call (.c (.func 17 [] [])) []) 67 .true), (o 69 (.pick (.t 67) (.t 68) (.c (.bool .false)))), (o 8 (.move (.t 69)))]
noncomputable def L4r4 : List LOper := ((og 60 (.len .slice (.t 59)) 58 .true) :: (og 61 (.eq (.cell (.i .i64)) .false (.t 60) (.c (.int .i64 0))) 58 .true) :: (o 62 (.pick (.t 58) (.t 61) (.c (.bool .false)))) :: (o 63 (.move (.t 62))) :: (og 64 (.move (.t 11)) 63 .true) :: L4r3)
noncomputable def L4r5 : List LOper := ((og 55 (.move (.t 13)) 53 .true) :: (og 56 (.eq (.cell (.i .i64)) .false (.t 54) (.t 55)) 53 .true) :: (o 57 (.pick (.t 53) (.t 56) (.c (.bool .false)))) :: (o 58 (.move (.t 57))) :: (og 59 (.move (.t 9)) 58 .true) :: L4r4)
noncomputable def L4s1 : LCode := (.cond (.t 49) (.seq (.reg ((o 50 (.move (.t 10))) :: (o 51 (.move (.t 13))) :: (o 52 (.eq (.cell (.i .i64)) .false (.t 50) (.t 51))) :: (o 53 (.move (.t 52))) :: (og 54 (.move (.t 12)) 53 .true) :: L4r5)) .ret) .skip)
noncomputable def L4r6 : List LOper := [(og 75 (.move (.t 1)) 72 .false), (og 76 (.len .slice (.t 75)) 72 .false), (og 77 (.eq (.cell (.i .i64)) .true (.t 74) (.t 76)) 72 .false), (o 78 (.pick (.t 72) (.c (.bool .true)) (.t 77)))]
noncomputable def L4s2 : LCode := (.cond (.t 78) (.seq (.reg [(o 8 (.move (.c (.bool .false))))]) .ret) .skip)
noncomputable def L4r7 : List LOper := [(o 93 (.call (.c (.func 26 [] [])) [(.t 88), (.t 92)])), (o 16 (.alloc [(.int .i64 0), (.int .i64 0)])), (ona (.store 2 (.t 16) (.t 93)) [6, 5])]
noncomputable def L4r8 : List LOper := [(o 109 (.indexAddrS 1 (.t 107) (.t 108))), (o 110 (.load .false 1 (.t 109))), (o 111 (.bin .sub (.t 106) (.t 110))), (o 112 (.call (.c (.func 33 [] [])) [(.t 104), (.t 111)])), (oa 113 (.eq (.row [(.i .i64), (.i .i64)]) .true (.t 97) (.t 112)) [18])]
noncomputable def L4r9 : List LOper := ((o 104 (.bin .sub (.t 99) (.t 103))) :: (o 105 (.fieldAddr 1 (.t 16))) :: (o 106 (.load .false 1 (.t 105))) :: (o 107 (.move (.t 1))) :: (o 108 (.move (.t 15))) :: L4r8)
noncomputable def L4r10 : List LOper := ((o 99 (.load .false 1 (.t 98))) :: (o 100 (.move (.t 1))) :: (o 101 (.move (.t 15))) :: (o 102 (.indexAddrS 1 (.t 100) (.t 101))) :: (o 103 (.load .false 1 (.t 102))) :: L4r9)
noncomputable def L4s3 : LCode := (.cond (.t 113) (.seq (.reg [(o 8 (.move (.c (.bool .false))))]) .ret) .skip)
noncomputable def L4r11 : List LOper := [(o 119 (.move (.t 1))), (o 120 (.move (.t 15))), (o 121 (.indexAddrS 1 (.t 119) (.t 120))), (o 122 (.load .false 1 (.t 121))), (o 123 (.call (.c (.func 34 [] [])) [(.t 114), (.t 118), (.t 122)])), (o 124 (.move (.t 3))), (oa 125 (.bin .gtr (.t 123) (.t 124)) [9])]
noncomputable def L4s4 : LCode := (.cond (.t 125) (.reg [(o 126 (.move (.t 15))), (o 14 (.move (.t 126)))]) .skip)
noncomputable def L4s5 : LCode := (.seq (.draw 9 ((o 114 (.load .true 4 (.t 4))) :: (o 115 (.move (.t 2))) :: (o 116 (.move (.t 15))) :: (o 117 (.indexAddrS 1 (.t 115) (.t 116))) :: (o 118 (.load .false 1 (.t 117))) :: L4r11)) L4s4)
noncomputable def L4s6 : LCode := (.seq (.seq (.draw 19 ((o 94 (.move (.t 9))) :: (o 95 (.move (.t 15))) :: (o 96 (.indexAddrS 2 (.t 94) (.t 95))) :: (o 97 (.load .true 2 (.t 96))) :: (o 98 (.fieldAddr 0 (.t 16))) :: L4r10)) L4s3) L4s5)
noncomputable def L4s7 : LCode := (.reg [(o 86 (.move (.t 15))), (o 87 (.bin .sub (.t 86) (.c (.int .i64 1)))), (o 15 (.move (.t 87)))])
noncomputable def L4s8 : LCode := (.seq (.block 1 (.seq (.draw 7 ((o 88 (.load .true 4 (.t 4))) :: (o 89 (.move (.t 2))) :: (o 90 (.move (.t 15))) :: (o 91 (.indexAddrS 1 (.t 89) (.t 90))) :: (o 92 (.load .false 1 (.t 91))) :: L4r7)) L4s6)) L4s7)
noncomputable def L4w0 : LCode := (.seq (.seq (.reg [(o 84 (.move (.t 15))), (o 85 (.bin .geq (.t 84) (.c (.int .i64 0))))]) (.cond (.t 85) .skip (.exit 0))) L4s8)
noncomputable def L4r12 : List LOper := [(o 135 (.pick (.t 132) (.t 134) (.c (.bool .false)))), (o 136 (.move (.t 135))), (og 137 (.call (.c (.func 17 [] [])) []) 136 .true), (o 138 (.pick (.t 136) (.t 137) (.c (.bool .false)))), (o 8 (.move (.t 138)))]
noncomputable def L4s9 : LCode := (.cond (.t 129) (.seq (.reg ((o 130 (.move (.t 12))) :: (o 131 (.eq (.cell (.i .i64)) .false (.t 130) (.c (.int .i64 2)))) :: (o 132 (.move (.t 131))) :: (og 133 (.move (.t 11)) 132 .true) :: (og 134 (.eq (.cell (.i .i64)) .false (.t 133) (.c (.int .i64 0))) 132 .true) :: L4r12)) .ret) .skip)
noncomputable def L4r13 : List LOper := [(o 148 (.pick (.t 145) (.t 147) (.c (.bool .false)))), (o 149 (.move (.t 148))), (og 150 (.call (.c (.func 17 [] [])) []) 149 .true), (o 151 (.pick (.t 149) (.t 150) (.c (.bool .false)))), (o 8 (.move (.t 151)))]
noncomputable def L4s10 : LCode := (.cond (.t 142) (.seq (.reg ((o 143 (.move (.t 12))) :: (o 144 (.eq (.cell (.i .i64)) .false (.t 143) (.c (.int .i64 7)))) :: (o 145 (.move (.t 144))) :: (og 146 (.move (.t 11)) 145 .true) :: (og 147 (.eq (.cell (.i .i64)) .false (.t 146) (.c (.int .i64 0))) 145 .true) :: L4r13)) .ret) .skip)
noncomputable def L4r14 : List LOper := [(og 157 (.eq (.cell (.i .i64)) .false (.t 155) (.t 156)) 154 .true), (o 158 (.pick (.t 154) (.t 157) (.c (.bool .false)))), (o 159 (.move (.t 158))), (og 160 (.call (.c (.func 17 [] [])) []) 159 .true), (o 161 (.pick (.t 159) (.t 160) (.c (.bool .false)))), (o 8 (.move (.t 161)))]
noncomputable def L4s11 : LCode := (.seq (.reg ((o 152 (.move (.t 12))) :: (o 153 (.eq (.cell (.i .i64)) .false (.t 152) (.c (.int .i64 0)))) :: (o 154 (.move (.t 153))) :: (og 155 (.move (.t 11)) 154 .true) :: (og 156 (.move (.t 14)) 154 .true) :: L4r14)) .ret)
noncomputable def L4s12 : LCode := (.seq (.seq (.reg [(o 139 (.move (.t 14))), (o 140 (.move (.t 9))), (o 141 (.len .slice (.t 140))), (o 142 (.eq (.cell (.i .i64)) .false (.t 139) (.t 141)))]) L4s10) L4s11)
noncomputable def L4s13 : LCode := (.seq (.seq (.reg [(o 127 (.move (.t 3))), (o 128 (.call (.c (.func 24 [] [])) [(.t 127), (.c (.int .i64 0)), (.c (.int .i64 5000))])), (o 129 (.un .not (.t 128)))]) L4s9) L4s12)
noncomputable def L4s14 : LCode := (.seq (.seq (.reg [(o 81 (.move (.t 9))), (o 82 (.len .slice (.t 81))), (o 83 (.bin .sub (.t 82) (.c (.int .i64 1)))), (o 15 (.move (.t 83)))]) (.block 0 (.loop L4w0))) L4s13)
noncomputable def L4s15 : LCode := (.seq (.reg [(o 79 (.move (.t 9))), (o 80 (.len .slice (.t 79))), (o 14 (.move (.t 80)))]) L4s14)
noncomputable def L4s16 : LCode := (.seq (.seq (.reg ((o 70 (.move (.t 10))) :: (o 71 (.eq (.cell (.i .i64)) .true (.t 70) (.c (.int .i64 0)))) :: (o 72 (.move (.t 71))) :: (og 73 (.move (.t 9)) 72 .false) :: (og 74 (.len .slice (.t 73)) 72 .false) :: L4r6)) L4s2) L4s15)
noncomputable def L4s17 : LCode := (.seq (.seq (.reg [(o 48 (.move (.t 13))), (o 49 (.eq (.cell (.i .i64)) .true (.t 48) (.c (.int .i64 0))))]) L4s1) L4s16)
noncomputable def L4s18 : LCode := (.seq (.reg [(o 44 (.load .true 4 (.t 4))), (o 45 (.move (.t 1))), (o 46 (.move (.t 2))), (o 47 (.call (.c (.func 32 [] [])) [(.t 44), (.t 45), (.t 46)])), (o 13 (.move (.t 47)))]) L4s17)
noncomputable def L4s19 : LCode := (.seq (.reg ((o 34 (.load .true 4 (.t 4))) :: (o 35 (.call (.c (.func 19 [] [])) [(.t 34)])) :: (o 36 (.move (.t 1))) :: (o 37 (.call (.c (.func 30 [] [])) [(.t 36)])) :: (o 38 (.move (.t 2))) :: L4r2)) L4s18)
noncomputable def L4s20 : LCode := (.seq (.reg ((o 24 (.load .true 4 (.t 4))) :: (o 25 (.call (.c (.func 19 [] [])) [(.t 24)])) :: (o 26 (.move (.t 1))) :: (o 27 (.call (.c (.func 30 [] [])) [(.t 26)])) :: (o 28 (.move (.t 2))) :: L4r0)) L4s19)
noncomputable def L4s21 : LCode := (.seq (.seq (.reg [(o 17 (.load .true 4 (.t 4))), (o 18 (.move (.t 1))), (o 19 (.move (.t 2))), (o 20 (.call (.c (.func 16 [] [])) [(.t 17), (.t 18), (.t 19)])), (o 21 (.un .not (.t 20)))]) L4s0) L4s20)
noncomputable def L4 : LFunc := ⟨162, (.seq (.reg [(o 4 (.box (.t 0))), (o 8 (.move (.c (.bool .false))))]) L4s21), [(.t 8)], .false, .none⟩
noncomputable def L16r0 : List LOper := [(o 22 (.move (.t 21))), (og 23 (.move (.t 2)) 22 .true), (og 24 (.len .slice (.t 23)) 22 .true), (og 25 (.bin .leq (.t 24) (.c (.int .i64 13))) 22 .true), (o 26 (.pick (.t 22) (.t 25) (.c (.bool .false)))), (o 6 (.move (.t 26)))]
noncomputable def L16r1 : List LOper := ((o 17 (.move (.t 16))) :: (og 18 (.move (.t 1)) 17 .true) :: (og 19 (.len .slice (.t 18)) 17 .true) :: (og 20 (.bin .leq (.t 19) (.c (.int .i64 13))) 17 .true) :: (o 21 (.pick (.t 17) (.t 20) (.c (.bool .false)))) :: L16r0)
noncomputable def L16r2 : List LOper := ((og 12 (.fieldAddr 2 (.t 3)) 11 .true) :: (og 13 (.load .false 1 (.t 12)) 11 .true) :: (og 14 (.len .slice (.t 13)) 11 .true) :: (og 15 (.bin .leq (.t 14) (.c (.int .i64 6))) 11 .true) :: (o 16 (.pick (.t 11) (.t 15) (.c (.bool .false)))) :: L16r1)
noncomputable def L16s0 : LCode := (.seq (.reg ((o 7 (.fieldAddr 1 (.t 3))) :: (o 8 (.load .false 1 (.t 7))) :: (o 9 (.len .slice (.t 8))) :: (o 10 (.bin .leq (.t 9) (.c (.int .i64 11)))) :: (o 11 (.move (.t 10))) :: L16r2)) .ret)
noncomputable def L16 : LFunc := ⟨27, (.seq (.reg [(o 3 (.box (.t 0))), (o 6 (.move (.c (.bool .false))))]) L16s0), [(.t 6)], .false, .none⟩
theorem lp16 : LP 16 = some L16 := by kernel_rfl
noncomputable def L24r0 : List LOper := [(og 12 (.move (.t 2)) 10 .true), (og 13 (.bin .leq (.t 11) (.t 12)) 10 .true), (o 14 (.pick (.t 10) (.t 13) (.c (.bool .false)))), (o 6 (.move (.t 14)))]
noncomputable def L24s0 : LCode := (.seq (.reg ((o 7 (.move (.t 0))) :: (o 8 (.move (.t 1))) :: (o 9 (.bin .geq (.t 7) (.t 8))) :: (o 10 (.move (.t 9))) :: (og 11 (.move (.t 0)) 10 .true) :: L24r0)) .ret)
noncomputable def L24 : LFunc := ⟨15, (.seq (.reg [(o 6 (.move (.c (.bool .false))))]) L24s0), [(.t 6)], .false, .none⟩
theorem lp24 : LP 24 = some L24 := by kernel_rfl
noncomputable def L32s0 : LCode := (.cond (.t 12) (.seq (.reg [(o 13 (.move (.t 7))), (o 6 (.move (.t 13)))]) .ret) .skip)
noncomputable def L32s1 : LCode := (.seq (.reg [(o 11 (.move (.t 7))), (o 12 (.eq (.cell (.i .i64)) .true (.t 11) (.c (.int .i64 0))))]) L32s0)
noncomputable def L32s2 : LCode := (.cond (.t 18) (.seq (.reg [(o 6 (.move (.c (.int .i64 2))))]) .ret) .skip)
noncomputable def L32s3 : LCode := (.seq (.seq (.reg [(o 14 (.load .true 4 (.t 3))), (o 15 (.move (.t 1))), (o 16 (.move (.t 2))), (o 17 (.call (.c (.func 64 [] [])) [(.t 14), (.t 15), (.t 16)])), (o 18 (.un .not (.t 17)))]) L32s2) (.seq (.reg [(o 6 (.move (.c (.int .i64 0))))]) .ret))
noncomputable def L32s4 : LCode := (.seq (.seq (.reg [(o 8 (.load .true 4 (.t 3))), (o 9 (.move (.t 1))), (o 10 (.call (.c (.func 39 [] [])) [(.t 8), (.t 9)])), (o 7 (.move (.t 10)))]) L32s1) L32s3)
noncomputable def L32 : LFunc := ⟨19, (.seq (.reg [(o 3 (.box (.t 0))), (o 6 (.move (.c (.int .i64 0))))]) L32s4), [(.t 6)], .false, .none⟩
theorem lp32 : LP 32 = some L32 := by kernel_rfl
noncomputable def L48r0 : List LOper := [(og 10 (.move (.t 1)) 8 .true), (og 11 (.call (.c (.func 39 [] [])) [(.t 9), (.t 10)]) 8 .true), (og 12 (.eq (.cell (.i .i64)) .false (.t 11) (.c (.int .i64 0))) 8 .true), (o 13 (.pick (.t 8) (.t 12) (.c (.bool .false)))), (o 4 (.move (.t 13)))]
noncomputable def L48s0 : LCode := (.seq (.reg ((o 5 (.load .true 4 (.t 2))) :: (o 6 (.move (.t 1))) :: (o 7 (.call (.c (.func 16 [] [])) [(.t 5), (.t 6), (.c (.slice .none 0 0))])) :: (o 8 (.move (.t 7))) :: (og 9 (.load .true 4 (.t 2)) 8 .true) :: L48r0)) .ret)
noncomputable def L48 : LFunc := ⟨14, (.seq (.reg [(o 2 (.box (.t 0))), (o 4 (.move (.c (.bool .false))))]) L48s0), [(.t 4)], .false, .none⟩
theorem lp48 : LP 48 = some L48 := by kernel_rfl
noncomputable def L56r0 : List LOper := [(og 12 (.fieldAddr 2 (.t 1)) 11 .false), (og 13 (.load .false 1 (.t 12)) 11 .false), (og 14 (.len .slice (.t 13)) 11 .false), (og 15 (.bin .gtr (.t 14) (.c (.int .i64 3))) 11 .false), (o 16 (.pick (.t 11) (.c (.bool .true)) (.t 15)))]
noncomputable def L56s0 : LCode := (.cond (.t 16) (.seq (.reg [(o 2 (.move (.c (.int .i64 3))))]) .ret) .skip)
noncomputable def L56r1 : List LOper := [(og 42 (.indexAddrS 3 (.t 41) (.c (.int .i64 0))) 39 .false), (og 43 (.fieldAddr 0 (.t 42)) 39 .false), (og 44 (.load .false 1 (.t 43)) 39 .false), (og 45 (.eq (.cell (.i .i64)) .true (.t 44) (.c (.int .i64 0))) 39 .false), (o 46 (.pick (.t 39) (.c (.bool .true)) (.t 45)))]
noncomputable def L56r2 : List LOper := ((og 37 (.eq (.cell (.i .i64)) .false (.t 36) (.c (.int .i64 0))) 33 .false) :: (o 38 (.pick (.t 33) (.c (.bool .true)) (.t 37))) :: (o 39 (.move (.t 38))) :: (og 40 (.fieldAddr 2 (.t 1)) 39 .false) :: (og 41 (.load .false 1 (.t 40)) 39 .false) :: L56r1)
noncomputable def L56r3 : List LOper := ((o 32 (.pick (.t 27) (.c (.bool .true)) (.t 31))) :: (o 33 (.move (.t 32))) :: (og 34 (.fieldAddr 2 (.t 1)) 33 .false) :: (og 35 (.load .false 1 (.t 34)) 33 .false) :: (og 36 (.len .slice (.t 35)) 33 .false) :: L56r2)
noncomputable def L56r4 : List LOper := ((o 27 (.move (.t 26))) :: (og 28 (.fieldAddr 1 (.t 1)) 27 .false) :: (og 29 (.load .false 1 (.t 28)) 27 .false) :: (og 30 (.len .slice (.t 29)) 27 .false) :: (og 31 (.eq (.cell (.i .i64)) .false (.t 30) (.c (.int .i64 0))) 27 .false) :: L56r3)
noncomputable def L56r5 : List LOper := ((og 22 (.fieldAddr 3 (.t 1)) 21 .false) :: (og 23 (.load .false 1 (.t 22)) 21 .false) :: (og 24 (.call (.c (.func 24 [] [])) [(.t 23), (.c (.int .i64 1)), (.c (.int .i64 60))]) 21 .false) :: (og 25 (.un .not (.t 24)) 21 .false) :: (o 26 (.pick (.t 21) (.c (.bool .true)) (.t 25))) :: L56r4)
noncomputable def L56s1 : LCode := (.cond (.t 46) (.seq (.reg [(o 2 (.move (.c (.int .i64 1))))]) .ret) .skip)
noncomputable def L56r6 : List LOper := [(oga 79 (.indexAddrS 3 (.t 76) (.t 78)) 72 .true [7, 2]), (oga 80 (.fieldAddr 0 (.t 79)) 72 .true [7, 2]), (oga 81 (.load .false 1 (.t 80)) 72 .true [7, 2]), (oga 82 (.bin .leq (.t 74) (.t 81)) 72 .true [7, 2]), (oga 83 (.pick (.t 72) (.t 82) (.c (.bool .false))) 69 .false [7, 2]), (oa 84 (.pick (.t 69) (.c (.bool .true)) (.t 83)) [7, 2])]
noncomputable def L56r7 : List LOper := ((oga 74 (.load .false 1 (.t 73)) 72 .true [7, 2]) :: (oga 75 (.fieldAddr 2 (.t 1)) 72 .true [7, 2]) :: (oga 76 (.load .false 1 (.t 75)) 72 .true [7, 2]) :: (oga 77 (.move (.t 3)) 72 .true [7, 2]) :: (oga 78 (.bin .sub (.t 77) (.c (.int .i64 1))) 72 .true [7, 2]) :: L56r6)
noncomputable def L56r8 : List LOper := ((oa 69 (.move (.t 68)) [7, 2]) :: (oga 70 (.move (.t 3)) 69 .false [7, 2]) :: (oga 71 (.bin .gtr (.t 70) (.c (.int .i64 0))) 69 .false [7, 2]) :: (oga 72 (.move (.t 71)) 69 .false [7, 2]) :: (oga 73 (.fieldAddr 0 (.t 4)) 72 .true [7, 2]) :: L56r7)
noncomputable def L56r9 : List LOper := ((oga 64 (.fieldAddr 1 (.t 4)) 63 .false [2]) :: (oga 65 (.load .true 2 (.t 64)) 63 .false [2]) :: (oga 66 (.call (.c (.func 86 [] [])) [(.t 65)]) 63 .false [2]) :: (oga 67 (.un .not (.t 66)) 63 .false [7, 2]) :: (oa 68 (.pick (.t 63) (.c (.bool .true)) (.t 67)) [7, 2]) :: L56r8)
noncomputable def L56s2 : LCode := (.cond (.t 84) (.seq (.reg [(o 2 (.move (.c (.int .i64 1))))]) .ret) .skip)
noncomputable def L56s3 : LCode := (.seq (.draw 23 ((o 59 (.fieldAddr 0 (.t 4))) :: (o 60 (.load .false 1 (.t 59))) :: (o 61 (.call (.c (.func 24 [] [])) [(.t 60), (.c (.int .i64 0)), (.c (.int .i64 60))])) :: (oa 62 (.un .not (.t 61)) [2]) :: (oa 63 (.move (.t 62)) [2]) :: L56r9)) L56s2)
noncomputable def L56s4 : LCode := (.reg [(o 52 (.move (.t 3))), (o 53 (.bin .add (.t 52) (.c (.int .i64 1)))), (o 3 (.move (.t 53)))])
noncomputable def L56s5 : LCode := (.seq (.block 1 (.seq (.reg [(o 54 (.fieldAddr 2 (.t 1))), (o 55 (.load .false 1 (.t 54))), (o 56 (.move (.t 3))), (o 57 (.indexAddrS 3 (.t 55) (.t 56))), (o 58 (.load .true 3 (.t 57))), (o 4 (.alloc [(.int .i64 0), (.int .i64 0), (.int .i64 0)])), (on (.store 3 (.t 4) (.t 58)))]) L56s3)) L56s4)
noncomputable def L56w2 : LCode := (.seq (.seq (.reg [(o 47 (.move (.t 3))), (o 48 (.fieldAddr 2 (.t 1))), (o 49 (.load .false 1 (.t 48))), (o 50 (.len .slice (.t 49))), (o 51 (.bin .lss (.t 47) (.t 50)))]) (.cond (.t 51) .skip (.exit 0))) L56s5)
noncomputable def L56s6 : LCode := (.cond (.t 98) (.seq (.reg [(o 2 (.move (.c (.int .i64 1))))]) .ret) .skip)
noncomputable def L56r10 : List LOper := [(o 121 (.load .false 1 (.t 120))), (o 122 (.bin .add (.t 114) (.t 121))), (o 123 (.bin .lss (.t 122) (.c (.int .i64 1))))]
noncomputable def L56r11 : List LOper := ((o 116 (.load .false 1 (.t 115))) :: (o 117 (.move (.t 6))) :: (o 118 (.indexAddrS 3 (.t 116) (.t 117))) :: (o 119 (.fieldAddr 1 (.t 118))) :: (o 120 (.fieldAddr 0 (.t 119))) :: L56r10)
noncomputable def L56r12 : List LOper := ((o 111 (.indexAddrS 2 (.t 109) (.t 110))) :: (o 112 (.fieldAddr 0 (.t 111))) :: (o 113 (.load .false 1 (.t 112))) :: (o 114 (.bin .add (.t 107) (.t 113))) :: (o 115 (.fieldAddr 2 (.t 1))) :: L56r11)
noncomputable def L56s7 : LCode := (.cond (.t 123) (.seq (.reg [(o 2 (.move (.c (.int .i64 1))))]) .ret) .skip)
noncomputable def L56s8 : LCode := (.reg [(o 104 (.move (.t 6))), (o 105 (.bin .add (.t 104) (.c (.int .i64 1)))), (o 6 (.move (.t 105)))])
noncomputable def L56s9 : LCode := (.seq (.block 5 (.seq (.draw 16 ((o 106 (.fieldAddr 0 (.t 1))) :: (o 107 (.load .false 1 (.t 106))) :: (o 108 (.fieldAddr 1 (.t 1))) :: (o 109 (.load .false 1 (.t 108))) :: (o 110 (.move (.t 5))) :: L56r12)) L56s7)) L56s8)
noncomputable def L56w0 : LCode := (.seq (.seq (.reg [(o 99 (.move (.t 6))), (o 100 (.fieldAddr 2 (.t 1))), (o 101 (.load .false 1 (.t 100))), (o 102 (.len .slice (.t 101))), (o 103 (.bin .lss (.t 99) (.t 102)))]) (.cond (.t 103) .skip (.exit 4))) L56s9)
noncomputable def L56s10 : LCode := (.seq (.reg [(o 6 (.move (.c (.int .i64 0))))]) (.block 4 (.loop L56w0)))
noncomputable def L56s11 : LCode := (.reg [(o 90 (.move (.t 5))), (o 91 (.bin .add (.t 90) (.c (.int .i64 1)))), (o 5 (.move (.t 91)))])
noncomputable def L56s12 : LCode := (.seq (.block 3 (.seq (.seq (.reg [(o 92 (.fieldAddr 1 (.t 1))), (o 93 (.load .false 1 (.t 92))), (o 94 (.move (.t 5))), (o 95 (.indexAddrS 2 (.t 93) (.t 94))), (o 96 (.load .true 2 (.t 95))), (o 97 (.call (.c (.func 86 [] [])) [(.t 96)])), (o 98 (.un .not (.t 97)))]) L56s6) L56s10)) L56s11)
noncomputable def L56w1 : LCode := (.seq (.seq (.reg [(o 85 (.move (.t 5))), (o 86 (.fieldAddr 1 (.t 1))), (o 87 (.load .false 1 (.t 86))), (o 88 (.len .slice (.t 87))), (o 89 (.bin .lss (.t 85) (.t 88)))]) (.cond (.t 89) .skip (.exit 2))) L56s12)
noncomputable def L56s13 : LCode := (.seq (.seq (.reg [(o 5 (.move (.c (.int .i64 0))))]) (.block 2 (.loop L56w1))) (.seq (.reg [(o 2 (.move (.c (.int .i64 0))))]) .ret))
noncomputable def L56s14 : LCode := (.seq (.seq (.reg [(o 3 (.move (.c (.int .i64 0))))]) (.block 0 (.loop L56w2))) L56s13)
noncomputable def L56s15 : LCode := (.seq (.seq (.reg ((o 17 (.fieldAddr 0 (.t 1))) :: (o 18 (.load .false 1 (.t 17))) :: (o 19 (.call (.c (.func 24 [] [])) [(.t 18), (.c (.int .i64 1)), (.c (.int .i64 50))])) :: (o 20 (.un .not (.t 19))) :: (o 21 (.move (.t 20))) :: L56r5)) L56s1) L56s14)
noncomputable def L56s16 : LCode := (.seq (.seq (.reg ((o 7 (.fieldAddr 1 (.t 1))) :: (o 8 (.load .false 1 (.t 7))) :: (o 9 (.len .slice (.t 8))) :: (o 10 (.bin .gtr (.t 9) (.c (.int .i64 8)))) :: (o 11 (.move (.t 10))) :: L56r0)) L56s0) L56s15)
noncomputable def L56 : LFunc := ⟨124, (.seq (.reg [(o 1 (.box (.t 0))), (o 2 (.move (.c (.int .i64 0))))]) L56s16), [(.t 2)], .false, .none⟩
theorem lp56 : LP 56 = some L56 := by kernel_rfl
noncomputable def L60s0 : LCode := (.seq (.reg [(o 3 (.move (.t 0))), (o 4 (.bin .leq (.c (.int .i64 0)) (.t 3))), (o 5 (.move (.t 4))), (og 6 (.move (.t 0)) 5 .true), (og 7 (.bin .leq (.t 6) (.c (.int .i64 5000))) 5 .true), (o 8 (.pick (.t 5) (.t 7) (.c (.bool .false)))), (o 2 (.move (.t 8)))]) .ret)
noncomputable def L60 : LFunc := ⟨9, (.seq (.reg [(o 2 (.move (.c (.bool .false))))]) L60s0), [(.t 2)], .false, .none⟩
theorem lp60 : LP 60 = some L60 := by kernel_rfl
noncomputable def L64r0 : List LOper := [(oga 34 (.load .false 1 (.t 33)) 25 .true [6]), (oga 35 (.bin .leq (.t 29) (.t 34)) 25 .true [6]), (oga 36 (.pick (.t 25) (.t 35) (.c (.bool .false))) 22 .false [6]), (oa 37 (.pick (.t 22) (.c (.bool .true)) (.t 36)) [6])]
noncomputable def L64r1 : List LOper := ((oga 29 (.load .false 1 (.t 28)) 25 .true [6]) :: (oga 30 (.move (.t 2)) 25 .true [6]) :: (oga 31 (.move (.t 7)) 25 .true [6]) :: (oga 32 (.bin .sub (.t 31) (.c (.int .i64 1))) 25 .true [6]) :: (oga 33 (.indexAddrS 1 (.t 30) (.t 32)) 25 .true [6]) :: L64r0)
noncomputable def L64r2 : List LOper := ((oga 24 (.bin .gtr (.t 23) (.c (.int .i64 0))) 22 .false [6]) :: (oga 25 (.move (.t 24)) 22 .false [6]) :: (oga 26 (.move (.t 2)) 25 .true [6]) :: (oga 27 (.move (.t 7)) 25 .true [6]) :: (oga 28 (.indexAddrS 1 (.t 26) (.t 27)) 25 .true [6]) :: L64r1)
noncomputable def L64r3 : List LOper := ((o 19 (.load .false 1 (.t 18))) :: (o 20 (.call (.c (.func 24 [] [])) [(.t 17), (.c (.int .i64 0)), (.t 19)])) :: (oa 21 (.un .not (.t 20)) [6]) :: (oa 22 (.move (.t 21)) [6]) :: (oga 23 (.move (.t 7)) 22 .false [6]) :: L64r2)
noncomputable def L64s0 : LCode := (.cond (.t 37) (.seq (.reg [(o 6 (.move (.c (.bool .false))))]) .ret) .skip)
noncomputable def L64s1 : LCode := (.reg [(o 12 (.move (.t 7))), (o 13 (.bin .add (.t 12) (.c (.int .i64 1)))), (o 7 (.move (.t 13)))])
noncomputable def L64s2 : LCode := (.seq (.block 1 (.seq (.draw 21 ((o 14 (.move (.t 2))) :: (o 15 (.move (.t 7))) :: (o 16 (.indexAddrS 1 (.t 14) (.t 15))) :: (o 17 (.load .false 1 (.t 16))) :: (o 18 (.fieldAddr 3 (.t 3))) :: L64r3)) L64s0)) L64s1)
noncomputable def L64w0 : LCode := (.seq (.seq (.reg [(o 8 (.move (.t 7))), (o 9 (.move (.t 2))), (o 10 (.len .slice (.t 9))), (o 11 (.bin .lss (.t 8) (.t 10)))]) (.cond (.t 11) .skip (.exit 0))) L64s2)
noncomputable def L64s3 : LCode := (.seq (.reg [(o 38 (.move (.t 2))), (o 39 (.len .slice (.t 38))), (o 40 (.move (.t 1))), (o 41 (.len .slice (.t 40))), (o 42 (.eq (.cell (.i .i64)) .false (.t 39) (.t 41))), (o 6 (.move (.t 42)))]) .ret)
noncomputable def L64s4 : LCode := (.seq (.seq (.reg [(o 7 (.move (.c (.int .i64 0))))]) (.block 0 (.loop L64w0))) L64s3)
noncomputable def L64 : LFunc := ⟨43, (.seq (.reg [(o 3 (.box (.t 0))), (o 6 (.move (.c (.bool .false))))]) L64s4), [(.t 6)], .false, .none⟩
theorem lp64 : LP 64 = some L64 := by kernel_rfl
noncomputable def L68s0 : LCode := (.cond (.t 6) (.seq (.reg [(o 2 (.move (.c (.int .i64 3))))]) .ret) .skip)
noncomputable def L68r0 : List LOper := [(oga 28 (.move (.t 3)) 22 .true [4]), (oga 29 (.bin .sub (.t 28) (.c (.int .i64 1))) 22 .true [4]), (oga 30 (.indexAddrS 1 (.t 27) (.t 29)) 22 .true [4]), (oga 31 (.load .false 1 (.t 30)) 22 .true [4]), (oga 32 (.bin .leq (.t 26) (.t 31)) 22 .true [4]), (oga 33 (.pick (.t 22) (.t 32) (.c (.bool .false))) 19 .false [4]), (oa 34 (.pick (.t 19) (.c (.bool .true)) (.t 33)) [4])]
noncomputable def L68r1 : List LOper := ((oga 23 (.move (.t 0)) 22 .true [4]) :: (oga 24 (.move (.t 3)) 22 .true [4]) :: (oga 25 (.indexAddrS 1 (.t 23) (.t 24)) 22 .true [4]) :: (oga 26 (.load .false 1 (.t 25)) 22 .true [4]) :: (oga 27 (.move (.t 0)) 22 .true [4]) :: L68r0)
noncomputable def L68r2 : List LOper := ((oa 18 (.un .not (.t 17)) [4]) :: (oa 19 (.move (.t 18)) [4]) :: (oga 20 (.move (.t 3)) 19 .false [4]) :: (oga 21 (.bin .gtr (.t 20) (.c (.int .i64 0))) 19 .false [4]) :: (oga 22 (.move (.t 21)) 19 .false [4]) :: L68r1)
noncomputable def L68s1 : LCode := (.cond (.t 34) (.seq (.reg [(o 2 (.move (.c (.int .i64 2))))]) .ret) .skip)
noncomputable def L68s2 : LCode := (.reg [(o 11 (.move (.t 3))), (o 12 (.bin .add (.t 11) (.c (.int .i64 1)))), (o 3 (.move (.t 12)))])
noncomputable def L68s3 : LCode := (.seq (.block 1 (.seq (.draw 19 ((o 13 (.move (.t 0))) :: (o 14 (.move (.t 3))) :: (o 15 (.indexAddrS 1 (.t 13) (.t 14))) :: (o 16 (.load .false 1 (.t 15))) :: (o 17 (.call (.c (.func 24 [] [])) [(.t 16), (.c (.int .i64 0)), (.c (.int .i64 5000))])) :: L68r2)) L68s1)) L68s2)
noncomputable def L68w0 : LCode := (.seq (.seq (.reg [(o 7 (.move (.t 3))), (o 8 (.move (.t 0))), (o 9 (.len .slice (.t 8))), (o 10 (.bin .lss (.t 7) (.t 9)))]) (.cond (.t 10) .skip (.exit 0))) L68s3)
noncomputable def L68s4 : LCode := (.cond (.t 37) (.seq (.reg [(o 2 (.move (.c (.int .i64 2))))]) .ret) .skip)
noncomputable def L68s5 : LCode := (.seq (.seq (.reg [(o 35 (.move (.t 0))), (o 36 (.len .slice (.t 35))), (o 37 (.eq (.cell (.i .i64)) .false (.t 36) (.c (.int .i64 0))))]) L68s4) (.seq (.reg [(o 2 (.move (.c (.int .i64 0))))]) .ret))
noncomputable def L68s6 : LCode := (.seq (.seq (.reg [(o 3 (.move (.c (.int .i64 0))))]) (.block 0 (.loop L68w0))) L68s5)
noncomputable def L68s7 : LCode := (.seq (.seq (.reg [(o 4 (.move (.t 0))), (o 5 (.len .slice (.t 4))), (o 6 (.bin .gtr (.t 5) (.c (.int .i64 10))))]) L68s0) L68s6)
noncomputable def L68 : LFunc := ⟨38, (.seq (.reg [(o 2 (.move (.c (.int .i64 0))))]) L68s7), [(.t 2)], .false, .none⟩
theorem lp68 : LP 68 = some L68 := by kernel_rfl
noncomputable def L72s0 : LCode := (.cond (.t 16) (.seq (.reg [(o 4 (.move (.c (.bool .false))))]) .ret) .skip)
noncomputable def L72s1 : LCode := (.seq (.reg [(o 13 (.move (.t 1))), (o 14 (.load .true 2 (.t 6))), (o 15 (.call (.t 13) [(.t 14)])), (o 16 (.un .not (.t 15)))]) L72s0)
noncomputable def L72s2 : LCode := (.reg [(o 17 (.bin .add (.t 9) (.c (.int .i64 1)))), (o 9 (.move (.t 17)))])
noncomputable def L72s3 : LCode := (.seq (.block 1 (.seq (.reg [(o 11 (.indexAddrS 2 (.t 7) (.t 9))), (o 12 (.load .true 2 (.t 11))), (o 6 (.alloc [(.int .i64 0), (.int .i64 0)])), (on (.store 2 (.t 6) (.t 12)))]) L72s1)) L72s2)
noncomputable def L72w0 : LCode := (.seq (.reg [(o 10 (.bin .lss (.t 9) (.t 8)))]) (.seq (.cond (.t 10) .skip (.exit 0)) L72s3))
noncomputable def L72s4 : LCode := (.seq (.seq (.reg [(o 7 (.move (.t 0))), (o 8 (.len .slice (.t 7))), (o 9 (.move (.c (.int .i64 0))))]) (.block 0 (.loop L72w0))) (.seq (.reg [(o 4 (.move (.c (.bool .true))))]) .ret))
noncomputable def L72 : LFunc := ⟨18, (.seq (.reg [(o 4 (.move (.c (.bool .false))))]) L72s4), [(.t 4)], .false, .none⟩
theorem lp72 : LP 72 = some L72 := by kernel_rfl
noncomputable def L76r0 : List LOper := [(og 8 (.fieldAddr 1 (.t 1)) 7 .true), (og 9 (.load .false 1 (.t 8)) 7 .true), (og 10 (.call (.c (.func 97 [] [])) [(.t 9), (.c (.func 98 [] []))]) 7 .true), (o 11 (.pick (.t 7) (.t 10) (.c (.bool .false)))), (o 2 (.move (.t 11)))]
noncomputable def L76s0 : LCode := (.seq (.reg ((o 3 (.fieldAddr 1 (.t 1))) :: (o 4 (.load .false 1 (.t 3))) :: (o 5 (.len .slice (.t 4))) :: (o 6 (.bin .gtr (.t 5) (.c (.int .i64 0)))) :: (o 7 (.move (.t 6))) :: L76r0)) .ret)
noncomputable def L76 : LFunc := ⟨12, (.seq (.reg [(o 1 (.box (.t 0))), (o 2 (.move (.c (.bool .false))))]) L76s0), [(.t 2)], .false, .none⟩
theorem lp76 : LP 76 = some L76 := by kernel_rfl
noncomputable def L84r0 : List LOper := [(o 22 (.call (.t 20) [(.t 21)])), (oa 23 (.buildSlice 1 [(.int .i64 0)] [(0, (1, (.t 22)))]) [5]), (oa 24 (.append 1 8 (.t 18) (.t 23)) [6, 5]), (oa 25 (.fieldAddr 0 (.t 5)) [7, 6, 5]), (ona (.store 1 (.t 25) (.t 24)) [7, 6, 5])]
noncomputable def L84s0 : LCode := (.draw 7 ((o 17 (.fieldAddr 0 (.t 5))) :: (o 18 (.load .false 1 (.t 17))) :: (o 19 (.fieldAddr 0 (.t 2))) :: (o 20 (.load .false 1 (.t 19))) :: (o 21 (.load .true 2 (.t 7))) :: L84r0))
noncomputable def L84s1 : LCode := (.reg [(o 26 (.bin .add (.t 13) (.c (.int .i64 1)))), (o 13 (.move (.t 26)))])
noncomputable def L84s2 : LCode := (.seq (.block 1 (.seq (.reg [(o 15 (.indexAddrS 2 (.t 11) (.t 13))), (o 16 (.load .true 2 (.t 15))), (o 7 (.alloc [(.int .i64 0), (.int .i64 0)])), (on (.store 2 (.t 7) (.t 16)))]) L84s0)) L84s1)
noncomputable def L84w1 : LCode := (.seq (.reg [(o 14 (.bin .lss (.t 13) (.t 12)))]) (.seq (.cond (.t 14) .skip (.exit 0)) L84s2))
noncomputable def L84r1 : List LOper := [(o 39 (.load .true 2 (.t 38))), (o 40 (.call (.t 37) [(.t 39)])), (oa 41 (.buildSlice 1 [(.int .i64 0)] [(0, (1, (.t 40)))]) [6]), (oa 42 (.append 1 8 (.t 35) (.t 41)) [7, 6]), (oa 43 (.fieldAddr 1 (.t 5)) [8, 7, 6]), (ona (.store 1 (.t 43) (.t 42)) [8, 7, 6])]
noncomputable def L84s3 : LCode := (.draw 8 ((o 34 (.fieldAddr 1 (.t 5))) :: (o 35 (.load .false 1 (.t 34))) :: (o 36 (.fieldAddr 0 (.t 2))) :: (o 37 (.load .false 1 (.t 36))) :: (o 38 (.fieldAddr 1 (.t 9))) :: L84r1))
noncomputable def L84s4 : LCode := (.reg [(o 44 (.bin .add (.t 30) (.c (.int .i64 1)))), (o 30 (.move (.t 44)))])
noncomputable def L84s5 : LCode := (.seq (.block 3 (.seq (.reg [(o 32 (.indexAddrS 3 (.t 28) (.t 30))), (o 33 (.load .true 3 (.t 32))), (o 9 (.alloc [(.int .i64 0), (.int .i64 0), (.int .i64 0)])), (on (.store 3 (.t 9) (.t 33)))]) L84s3)) L84s4)
noncomputable def L84w0 : LCode := (.seq (.reg [(o 31 (.bin .lss (.t 30) (.t 29)))]) (.seq (.cond (.t 31) .skip (.exit 2)) L84s5))
noncomputable def L84s6 : LCode := (.seq (.reg [(o 45 (.load .true 2 (.t 5))), (on (.store 2 (.t 4) (.t 45)))]) .ret)
noncomputable def L84s7 : LCode := (.seq (.seq (.reg [(o 27 (.fieldAddr 2 (.t 3))), (o 28 (.load .false 1 (.t 27))), (o 29 (.len .slice (.t 28))), (o 30 (.move (.c (.int .i64 0))))]) (.block 2 (.loop L84w0))) L84s6)
noncomputable def L84s8 : LCode := (.seq (.seq (.reg [(o 10 (.fieldAddr 1 (.t 3))), (o 11 (.load .false 1 (.t 10))), (o 12 (.len .slice (.t 11))), (o 13 (.move (.c (.int .i64 0))))]) (.block 0 (.loop L84w1))) L84s7)
noncomputable def L84s9 : LCode := (.seq (.reg [(o 5 (.alloc [(.slice .none 0 0), (.slice .none 0 0)]))]) L84s8)
noncomputable def L84 : LFunc := ⟨46, (.seq (.reg [(o 2 (.box (.t 0))), (o 3 (.box (.t 1))), (o 4 (.alloc [(.slice .none 0 0), (.slice .none 0 0)]))]) L84s9), [(.cell 4 .true 2)], .true, .none⟩
theorem lp84 : LP 84 = some L84 := by kernel_rfl
noncomputable def L88s0 : LCode := (.seq (.reg [(o 3 (.move (.t 0))), (o 4 (.call (.c (.func 107 [] [])) [(.t 3), (.c (.func 108 [] []))])), (o 2 (.move (.t 4)))]) .ret)
noncomputable def L88 : LFunc := ⟨5, (.seq (.reg [(o 2 (.move (.c (.bool .false))))]) L88s0), [(.t 2)], .false, .none⟩
theorem lp88 : LP 88 = some L88 := by kernel_rfl
noncomputable def L96s0 : LCode := (.cond (.t 15) (.reg [(o 16 (.move (.t 6))), (o 0 (.move (.t 16)))]) .skip)
noncomputable def L96s1 : LCode := (.seq (.reg [(o 13 (.move (.t 6))), (o 14 (.move (.t 0))), (o 15 (.bin .gtr (.t 13) (.t 14)))]) L96s0)
noncomputable def L96s2 : LCode := (.reg [(o 17 (.bin .add (.t 9) (.c (.int .i64 1)))), (o 9 (.move (.t 17)))])
noncomputable def L96s3 : LCode := (.seq (.block 1 (.seq (.reg [(o 11 (.indexAddrS 1 (.t 7) (.t 9))), (o 12 (.load .false 1 (.t 11))), (o 6 (.move (.t 12)))]) L96s1)) L96s2)
noncomputable def L96w0 : LCode := (.seq (.reg [(o 10 (.bin .lss (.t 9) (.t 8)))]) (.seq (.cond (.t 10) .skip (.exit 0)) L96s3))
noncomputable def L96s4 : LCode := (.seq (.reg [(o 18 (.move (.t 0))), (o 4 (.move (.t 18)))]) .ret)
noncomputable def L96s5 : LCode := (.seq (.seq (.reg [(o 7 (.move (.t 1))), (o 8 (.len .slice (.t 7))), (o 9 (.move (.c (.int .i64 0))))]) (.block 0 (.loop L96w0))) L96s4)
noncomputable def L96 : LFunc := ⟨19, (.seq (.reg [(o 4 (.move (.c (.int .i64 0))))]) L96s5), [(.t 4)], .false, .none⟩
theorem lp96 : LP 96 = some L96 := by kernel_rfl
noncomputable def L100r0 : List LOper := [(og 13 (.load .true 2 (.t 12)) 11 .true), (og 14 (.call (.c (.func 98 [] [])) [(.t 13)]) 11 .true), (o 15 (.pick (.t 11) (.t 14) (.c (.bool .false)))), (o 2 (.move (.t 15)))]
noncomputable def L100r1 : List LOper := ((og 8 (.load .false 1 (.t 7)) 6 .true) :: (og 9 (.bin .leq (.t 8) (.c (.int .i64 60))) 6 .true) :: (o 10 (.pick (.t 6) (.t 9) (.c (.bool .false)))) :: (o 11 (.move (.t 10))) :: (og 12 (.fieldAddr 1 (.t 1)) 11 .true) :: L100r0)
noncomputable def L100s0 : LCode := (.seq (.reg ((o 3 (.fieldAddr 0 (.t 1))) :: (o 4 (.load .false 1 (.t 3))) :: (o 5 (.bin .leq (.c (.int .i64 0)) (.t 4))) :: (o 6 (.move (.t 5))) :: (og 7 (.fieldAddr 0 (.t 1)) 6 .true) :: L100r1)) .ret)
noncomputable def L100 : LFunc := ⟨16, (.seq (.reg [(o 1 (.box (.t 0))), (o 2 (.move (.c (.bool .false))))]) L100s0), [(.t 2)], .false, .none⟩
theorem lp100 : LP 100 = some L100 := by kernel_rfl
noncomputable def L104r0 : List LOper := [(og 20 (.move (.t 0)) 19 .false), (og 21 (.move (.t 4)) 19 .false), (og 22 (.move (.t 5)) 19 .false), (og 23 (.call (.t 20) [(.t 21), (.t 22)]) 19 .false), (og 24 (.un .not (.t 23)) 19 .false), (o 25 (.pick (.t 19) (.c (.bool .true)) (.t 24)))]
noncomputable def L104s0 : LCode := (.seq (.reg ((o 15 (.move (.t 5))) :: (o 16 (.fieldAddr 3 (.t 1))) :: (o 17 (.load .false 1 (.t 16))) :: (o 18 (.eq (.cell (.i .i64)) .false (.t 15) (.t 17))) :: (o 19 (.move (.t 18))) :: L104r0)) (.cond (.t 25) .ret .skip))
noncomputable def L104s1 : LCode := (.seq (.reg [(o 12 (.load .false 1 (.t 2))), (o 13 (.move (.t 4))), (o 14 (.bin .add (.t 12) (.t 13))), (o 5 (.move (.t 14)))]) L104s0)
noncomputable def L104s2 : LCode := (.reg [(o 26 (.bin .add (.t 9) (.c (.int .i64 1)))), (o 9 (.move (.t 26)))])
noncomputable def L104s3 : LCode := (.seq (.block 1 (.seq (.reg [(o 11 (.move (.t 9))), (o 4 (.move (.t 11)))]) L104s1)) L104s2)
noncomputable def L104w0 : LCode := (.seq (.reg [(o 10 (.bin .lss (.t 9) (.t 8)))]) (.seq (.cond (.t 10) .skip (.exit 0)) L104s3))
noncomputable def L104 : LFunc := ⟨27, (.seq (.reg [(o 6 (.fieldAddr 1 (.t 1))), (o 7 (.load .false 1 (.t 6))), (o 8 (.len .slice (.t 7))), (o 9 (.move (.c (.int .i64 0))))]) (.block 0 (.loop L104w0))), [], .true, .none⟩
theorem lp104 : LP 104 = some L104 := by kernel_rfl
noncomputable def L108s0 : LCode := (.seq (.reg [(o 5 (.move (.t 0))), (o 6 (.move (.t 1))), (o 7 (.bin .lss (.t 5) (.t 6))), (o 4 (.move (.t 7)))]) .ret)
noncomputable def L108 : LFunc := ⟨8, (.seq (.reg [(o 4 (.move (.c (.bool .false))))]) L108s0), [(.t 4)], .false, .none⟩
theorem lp108 : LP 108 = some L108 := by kernel_rfl
noncomputable def L25s0 : LCode := (.seq (.reg [(o 3 (.fieldAddr 0 (.t 1))), (o 4 (.load .false 1 (.t 3))), (o 5 (.fieldAddr 1 (.t 1))), (o 6 (.load .false 1 (.t 5))), (o 7 (.build [(.int .i64 0), (.int .i64 0)] [(0, (1, (.t 4))), (1, (1, (.t 6)))])), (on (.store 2 (.t 2) (.t 7)))]) .ret)
noncomputable def L25 : LFunc := ⟨8, (.seq (.reg [(o 1 (.box (.t 0))), (o 2 (.alloc [(.int .i64 0), (.int .i64 0)]))]) L25s0), [(.cell 2 .true 2)], .false, .none⟩
theorem lp25 : LP 25 = some L25 := by kernel_rfl
noncomputable def L53r0 : List LOper := [(oa 43 (.load .false 1 (.t 42)) [13]), (oa 44 (.bin .add (.t 36) (.t 43)) [13]), (oa 45 (.bin .add (.t 28) (.t 44)) [13]), (ona (.store 1 (.t 6) (.t 45)) [13])]
noncomputable def L53r1 : List LOper := ((o 38 (.load .false 1 (.t 37))) :: (o 39 (.load .true 4 (.t 2))) :: (o 40 (.move (.t 9))) :: (o 41 (.call (.c (.func 82 [] [])) [(.t 39), (.t 40)])) :: (oa 42 (.indexAddrS 1 (.t 38) (.t 41)) [13]) :: L53r0)
noncomputable def L53r2 : List LOper := ((o 33 (.move (.t 8))) :: (o 34 (.indexAddrS 1 (.t 32) (.t 33))) :: (o 35 (.load .false 1 (.t 34))) :: (o 36 (.bin .add (.t 30) (.t 35))) :: (o 37 (.fieldAddr 1 (.t 3))) :: L53r1)
noncomputable def L53s0 : LCode := (.reg [(o 46 (.load .false 1 (.t 5))), (o 47 (.load .false 1 (.t 6))), (o 48 (.buildSlice 1 [(.int .i64 0)] [(0, (1, (.t 47)))])), (o 49 (.append 1 8 (.t 46) (.t 48))), (on (.store 1 (.t 5) (.t 49)))])
noncomputable def L53s1 : LCode := (.block 2 (.rangeFunc (.t 25) [26, 27] (.seq (.reg [(o 8 (.move (.t 26)))]) (.reg [(o 9 (.move (.t 27)))])) (.block 3 (.seq (.draw 16 ((o 28 (.load .false 1 (.t 6))) :: (o 29 (.fieldAddr 0 (.t 2))) :: (o 30 (.load .false 1 (.t 29))) :: (o 31 (.fieldAddr 0 (.t 3))) :: (o 32 (.load .false 1 (.t 31))) :: L53r2)) L53s0))))
noncomputable def L53s2 : LCode := (.reg [(o 18 (.move (.t 7))), (o 19 (.fieldAddr 1 (.t 2))), (o 20 (.load .false 1 (.t 19))), (o 21 (.len .slice (.t 20))), (o 22 (.bin .add (.t 18) (.t 21))), (o 7 (.move (.t 22)))])
noncomputable def L53s3 : LCode := (.seq (.block 1 (.seq (.reg [(o 23 (.load .true 4 (.t 2))), (o 24 (.move (.t 7))), (o 25 (.call (.c (.func 81 [] [])) [(.t 23), (.t 24)]))]) L53s1)) L53s2)
noncomputable def L53w0 : LCode := (.seq (.seq (.reg [(o 14 (.move (.t 7))), (o 15 (.fieldAddr 3 (.t 2))), (o 16 (.load .false 1 (.t 15))), (o 17 (.bin .lss (.t 14) (.t 16)))]) (.cond (.t 17) .skip (.exit 0))) L53s3)
noncomputable def L53s4 : LCode := (.seq (.reg [(o 50 (.load .false 1 (.t 5))), (o 4 (.move (.t 50)))]) .ret)
noncomputable def L53s5 : LCode := (.seq (.seq (.reg [(o 7 (.move (.c (.int .i64 0))))]) (.block 0 (.loop L53w0))) L53s4)
noncomputable def L53s6 : LCode := (.seq (.reg [(o 6 (.alloc [(.int .i64 0)])), (on (.store 1 (.t 6) (.c (.int .i64 0))))]) L53s5)
noncomputable def L53s7 : LCode := (.seq (.reg [(o 10 (.fieldAddr 3 (.t 2))), (o 11 (.load .false 1 (.t 10))), (o 12 (.bin .add (.t 11) (.c (.int .i64 1)))), (o 13 (.makeSlice [(.int .i64 0)] 8 (.c (.int .i64 1)) (.t 12))), (o 5 (.alloc [(.slice .none 0 0)])), (on (.store 1 (.t 5) (.t 13)))]) L53s6)
noncomputable def L53 : LFunc := ⟨51, (.seq (.reg [(o 2 (.box (.t 0))), (o 3 (.box (.t 1))), (o 4 (.move (.c (.slice .none 0 0))))]) L53s7), [(.t 4)], .true, .none⟩
theorem lp53 : LP 53 = some L53 := by kernel_rfl
noncomputable def L57s0 : LCode := (.cond (.t 12) (.seq (.reg [(o 13 (.move (.t 7))), (o 6 (.move (.t 13)))]) .ret) .skip)
noncomputable def L57s1 : LCode := (.seq (.reg [(o 11 (.move (.t 7))), (o 12 (.eq (.cell (.i .i64)) .true (.t 11) (.c (.int .i64 0))))]) L57s0)
noncomputable def L57r0 : List LOper := [(og 24 (.un .not (.t 23)) 19 .false), (o 25 (.pick (.t 19) (.c (.bool .true)) (.t 24))), (o 26 (.move (.t 25))), (og 27 (.move (.t 2)) 26 .false), (og 28 (.call (.c (.func 88 [] [])) [(.t 27)]) 26 .false), (og 29 (.un .not (.t 28)) 26 .false), (o 30 (.pick (.t 26) (.c (.bool .true)) (.t 29)))]
noncomputable def L57r1 : List LOper := ((o 19 (.move (.t 18))) :: (og 20 (.move (.t 2)) 19 .false) :: (og 21 (.load .true 4 (.t 3)) 19 .false) :: (og 22 (.makeFunc 79 [(.t 21)] []) 19 .false) :: (og 23 (.call (.c (.func 87 [] [])) [(.t 20), (.t 22)]) 19 .false) :: L57r0)
noncomputable def L57s2 : LCode := (.cond (.t 30) (.seq (.reg [(o 6 (.move (.c (.int .i64 2))))]) .ret) .skip)
noncomputable def L57s3 : LCode := (.seq (.seq (.reg ((o 14 (.move (.t 2))) :: (o 15 (.len .slice (.t 14))) :: (o 16 (.move (.t 1))) :: (o 17 (.len .slice (.t 16))) :: (o 18 (.eq (.cell (.i .i64)) .true (.t 15) (.t 17))) :: L57r1)) L57s2) (.seq (.reg [(o 6 (.move (.c (.int .i64 0))))]) .ret))
noncomputable def L57s4 : LCode := (.seq (.seq (.reg [(o 8 (.load .true 4 (.t 3))), (o 9 (.move (.t 1))), (o 10 (.call (.c (.func 66 [] [])) [(.t 8), (.t 9)])), (o 7 (.move (.t 10)))]) L57s1) L57s3)
noncomputable def L57 : LFunc := ⟨31, (.seq (.reg [(o 3 (.box (.t 0))), (o 6 (.move (.c (.int .i64 0))))]) L57s4), [(.t 6)], .false, .none⟩
theorem lp57 : LP 57 = some L57 := by kernel_rfl
noncomputable def L73r0 : List LOper := [(o 15 (.buildSlice 1 [(.int .i64 0)] [(0, (1, (.t 14)))])), (oa 16 (.call (.c (.func 96 [] [])) [(.t 12), (.t 15)]) [5]), (o 17 (.fieldAddr 6 (.t 2))), (o 18 (.load .false 1 (.t 17))), (oa 19 (.bin .leq (.t 16) (.t 18)) [6, 5]), (oa 4 (.move (.t 19)) [6, 5])]
noncomputable def L73s0 : LCode := (.seq (.draw 9 ((o 10 (.fieldAddr 0 (.t 5))) :: (o 11 (.load .false 1 (.t 10))) :: (o 12 (.un .neg (.t 11))) :: (o 13 (.fieldAddr 1 (.t 5))) :: (o 14 (.load .false 1 (.t 13))) :: L73r0)) .ret)
noncomputable def L73s1 : LCode := (.seq (.reg [(o 6 (.fieldAddr 0 (.t 2))), (o 7 (.load .true 6 (.t 6))), (o 8 (.load .true 2 (.t 3))), (o 9 (.call (.c (.func 59 [] [])) [(.t 7), (.t 8)])), (o 5 (.alloc [(.int .i64 0), (.int .i64 0)])), (on (.store 2 (.t 5) (.t 9)))]) L73s0)
noncomputable def L73 : LFunc := ⟨20, (.seq (.reg [(o 2 (.box (.t 0))), (o 3 (.box (.t 1))), (o 4 (.move (.c (.bool .false))))]) L73s1), [(.t 4)], .false, .none⟩
theorem lp73 : LP 73 = some L73 := by kernel_rfl
noncomputable def L77r0 : List LOper := [(og 23 (.call (.c (.func 101 [] [])) [(.t 22), (.c (.func 102 [] []))]) 20 .true), (o 24 (.pick (.t 20) (.t 23) (.c (.bool .false)))), (o 2 (.move (.t 24)))]
noncomputable def L77r1 : List LOper := ((og 18 (.call (.c (.func 99 [] [])) [(.t 17), (.c (.func 100 [] []))]) 15 .true) :: (o 19 (.pick (.t 15) (.t 18) (.c (.bool .false)))) :: (o 20 (.move (.t 19))) :: (og 21 (.fieldAddr 2 (.t 1)) 20 .true) :: (og 22 (.load .false 1 (.t 21)) 20 .true) :: L77r0)
noncomputable def L77r2 : List LOper := ((og 13 (.eq (.cell (.i .i64)) .false (.t 12) (.c (.int .i64 0))) 7 .true) :: (o 14 (.pick (.t 7) (.t 13) (.c (.bool .false)))) :: (o 15 (.move (.t 14))) :: (og 16 (.fieldAddr 2 (.t 1)) 15 .true) :: (og 17 (.load .false 1 (.t 16)) 15 .true) :: L77r1)
noncomputable def L77r3 : List LOper := ((og 8 (.fieldAddr 2 (.t 1)) 7 .true) :: (og 9 (.load .false 1 (.t 8)) 7 .true) :: (og 10 (.indexAddrS 3 (.t 9) (.c (.int .i64 0))) 7 .true) :: (og 11 (.fieldAddr 0 (.t 10)) 7 .true) :: (og 12 (.load .false 1 (.t 11)) 7 .true) :: L77r2)
noncomputable def L77s0 : LCode := (.seq (.reg ((o 3 (.fieldAddr 2 (.t 1))) :: (o 4 (.load .false 1 (.t 3))) :: (o 5 (.len .slice (.t 4))) :: (o 6 (.bin .gtr (.t 5) (.c (.int .i64 0)))) :: (o 7 (.move (.t 6))) :: L77r3)) .ret)
noncomputable def L77 : LFunc := ⟨25, (.seq (.reg [(o 1 (.box (.t 0))), (o 2 (.move (.c (.bool .false))))]) L77s0), [(.t 2)], .false, .none⟩
theorem lp77 : LP 77 = some L77 := by kernel_rfl
noncomputable def L81s0 : LCode := (.seq (.reg [(o 5 (.makeFunc 104 [] [(.t 2), (.t 3)])), (o 4 (.move (.t 5)))]) .ret)
noncomputable def L81 : LFunc := ⟨6, (.seq (.reg [(o 2 (.box (.t 0))), (o 3 (.box (.t 1))), (o 4 (.move (.c .nilFunc)))]) L81s0), [(.t 4)], .true, .none⟩
theorem lp81 : LP 81 = some L81 := by kernel_rfl
noncomputable def L85s0 : LCode := (.seq (.reg [(o 1 (.build [.nilFunc] [(0, (1, (.c (.func 106 [] []))))])), (on (.store 1 (.t 0) (.t 1)))]) .ret)
noncomputable def L85 : LFunc := ⟨2, (.seq (.reg [(o 0 (.alloc [.nilFunc]))]) L85s0), [(.cell 0 .true 1)], .false, .none⟩
theorem lp85 : LP 85 = some L85 := by kernel_rfl
noncomputable def L89s0 : LCode := (.cond (.t 21) (.reg [(o 22 (.move (.t 7))), (o 23 (.bin .add (.t 22) (.c (.int .i64 1)))), (o 5 (.move (.t 23)))]) (.reg [(o 24 (.move (.t 7))), (o 6 (.move (.t 24)))]))
noncomputable def L89s1 : LCode := (.seq (.reg [(o 18 (.move (.t 1))), (o 19 (.move (.t 7))), (o 20 (.call (.t 18) [(.t 19)])), (o 21 (.un .not (.t 20)))]) L89s0)
noncomputable def L89s2 : LCode := (.block 1 (.seq (.reg [(o 12 (.move (.t 5))), (o 13 (.move (.t 6))), (o 14 (.bin .add (.t 12) (.t 13))), (o 15 (.convInt .u64 (.t 14))), (o 16 (.bin .shr (.t 15) (.c (.int .u64 1)))), (o 17 (.convInt .i64 (.t 16))), (o 7 (.move (.t 17)))]) L89s1))
noncomputable def L89w0 : LCode := (.seq (.seq (.reg [(o 9 (.move (.t 5))), (o 10 (.move (.t 6))), (o 11 (.bin .lss (.t 9) (.t 10)))]) (.cond (.t 11) .skip (.exit 0))) L89s2)
noncomputable def L89s3 : LCode := (.seq (.reg [(o 25 (.move (.t 5))), (o 4 (.move (.t 25)))]) .ret)
noncomputable def L89s4 : LCode := (.seq (.reg [(o 8 (.move (.t 0))), (o 5 (.move (.c (.int .i64 0)))), (o 6 (.move (.t 8)))]) (.seq (.block 0 (.loop L89w0)) L89s3))
noncomputable def L89 : LFunc := ⟨26, (.seq (.reg [(o 4 (.move (.c (.int .i64 0))))]) L89s4), [(.t 4)], .false, .none⟩
theorem lp89 : LP 89 = some L89 := by kernel_rfl
noncomputable def L93s0 : LCode := (.cond (.t 7) (.seq (.reg [(o 8 (.move (.t 1))), (o 9 (.build [(.int .i64 0), (.int .i64 0), (.int .i64 0)] [(1, (1, (.t 8)))])), (on (.store 3 (.t 4) (.t 9)))]) .ret) .skip)
noncomputable def L93r0 : List LOper := [(o 15 (.fieldAddr 1 (.t 2))), (o 16 (.load .false 1 (.t 15))), (o 17 (.bin .sub (.t 14) (.t 16))), (o 18 (.build [(.int .i64 0), (.int .i64 0), (.int .i64 0)] [(0, (1, (.t 12))), (1, (1, (.t 13))), (2, (1, (.t 17)))])), (on (.store 3 (.t 4) (.t 18)))]
noncomputable def L93s1 : LCode := (.seq (.reg ((o 10 (.fieldAddr 0 (.t 2))) :: (o 11 (.load .false 1 (.t 10))) :: (o 12 (.bin .add (.t 11) (.c (.int .i64 1)))) :: (o 13 (.move (.t 1))) :: (o 14 (.move (.t 1))) :: L93r0)) .ret)
noncomputable def L93s2 : LCode := (.seq (.seq (.draw 2 [(o 5 (.load .true 3 (.t 2))), (o 6 (.call (.c (.func 95 [] [])) [])), (oa 7 (.eq (.row [(.i .i64), (.i .i64), (.i .i64)]) .false (.t 5) (.t 6)) [1])]) L93s0) L93s1)
noncomputable def L93 : LFunc := ⟨19, (.seq (.reg [(o 2 (.box (.t 0))), (o 4 (.alloc [(.int .i64 0), (.int .i64 0), (.int .i64 0)]))]) L93s2), [(.cell 4 .true 3)], .false, .none⟩
theorem lp93 : LP 93 = some L93 := by kernel_rfl
noncomputable def L97s0 : LCode := (.cond (.t 16) (.seq (.reg [(o 4 (.move (.c (.bool .false))))]) .ret) .skip)
noncomputable def L97s1 : LCode := (.seq (.reg [(o 13 (.move (.t 1))), (o 14 (.load .true 2 (.t 6))), (o 15 (.call (.t 13) [(.t 14)])), (o 16 (.un .not (.t 15)))]) L97s0)
noncomputable def L97s2 : LCode := (.reg [(o 17 (.bin .add (.t 9) (.c (.int .i64 1)))), (o 9 (.move (.t 17)))])
noncomputable def L97s3 : LCode := (.seq (.block 1 (.seq (.reg [(o 11 (.indexAddrS 2 (.t 7) (.t 9))), (o 12 (.load .true 2 (.t 11))), (o 6 (.alloc [(.int .i64 0), (.int .i64 0)])), (on (.store 2 (.t 6) (.t 12)))]) L97s1)) L97s2)
noncomputable def L97w0 : LCode := (.seq (.reg [(o 10 (.bin .lss (.t 9) (.t 8)))]) (.seq (.cond (.t 10) .skip (.exit 0)) L97s3))
noncomputable def L97s4 : LCode := (.seq (.seq (.reg [(o 7 (.move (.t 0))), (o 8 (.len .slice (.t 7))), (o 9 (.move (.c (.int .i64 0))))]) (.block 0 (.loop L97w0))) (.seq (.reg [(o 4 (.move (.c (.bool .true))))]) .ret))
noncomputable def L97 : LFunc := ⟨18, (.seq (.reg [(o 4 (.move (.c (.bool .false))))]) L97s4), [(.t 4)], .false, .none⟩
theorem lp97 : LP 97 = some L97 := by kernel_rfl
noncomputable def L101r0 : List LOper := [(o 17 (.load .true 3 (.t 16))), (o 18 (.move (.t 0))), (o 19 (.move (.t 5))), (o 20 (.indexAddrS 3 (.t 18) (.t 19))), (o 21 (.load .true 3 (.t 20))), (o 22 (.call (.t 12) [(.t 17), (.t 21)])), (oa 23 (.un .not (.t 22)) [10])]
noncomputable def L101s0 : LCode := (.cond (.t 23) (.seq (.reg [(o 4 (.move (.c (.bool .false))))]) .ret) .skip)
noncomputable def L101s1 : LCode := (.reg [(o 10 (.move (.t 5))), (o 11 (.bin .add (.t 10) (.c (.int .i64 1)))), (o 5 (.move (.t 11)))])
noncomputable def L101s2 : LCode := (.seq (.block 1 (.seq (.draw 10 ((o 12 (.move (.t 1))) :: (o 13 (.move (.t 0))) :: (o 14 (.move (.t 5))) :: (o 15 (.bin .sub (.t 14) (.c (.int .i64 1)))) :: (o 16 (.indexAddrS 3 (.t 13) (.t 15))) :: L101r0)) L101s0)) L101s1)
noncomputable def L101w0 : LCode := (.seq (.seq (.reg [(o 6 (.move (.t 5))), (o 7 (.move (.t 0))), (o 8 (.len .slice (.t 7))), (o 9 (.bin .lss (.t 6) (.t 8)))]) (.cond (.t 9) .skip (.exit 0))) L101s2)
noncomputable def L101s3 : LCode := (.seq (.seq (.reg [(o 5 (.move (.c (.int .i64 1))))]) (.block 0 (.loop L101w0))) (.seq (.reg [(o 4 (.move (.c (.bool .true))))]) .ret))
noncomputable def L101 : LFunc := ⟨24, (.seq (.reg [(o 4 (.move (.c (.bool .false))))]) L101s3), [(.t 4)], .false, .none⟩
theorem lp101 : LP 101 = some L101 := by kernel_rfl
noncomputable def L105s0 : LCode := (.seq (.reg [(o 3 (.fieldAddr 0 (.t 1))), (o 4 (.load .false 1 (.t 3))), (o 2 (.move (.t 4)))]) .ret)
noncomputable def L105 : LFunc := ⟨5, (.seq (.reg [(o 1 (.box (.t 0))), (o 2 (.move (.c (.int .i64 0))))]) L105s0), [(.t 2)], .false, .none⟩
theorem lp105 : LP 105 = some L105 := by kernel_rfl
noncomputable def L14r0 : List LOper := [(og 24 (.move (.t 2)) 23 .false), (og 25 (.len .slice (.t 24)) 23 .false), (og 26 (.bin .gtr (.t 25) (.c (.int .i64 13))) 23 .false), (o 27 (.pick (.t 23) (.c (.bool .true)) (.t 26)))]
noncomputable def L14s0 : LCode := (.cond (.t 27) (.seq (.reg [(o 28 (.call (.c (.func 17 [] [])) [])), (o 10 (.move (.t 28)))]) .ret) .skip)
noncomputable def L14r1 : List LOper := [(o 51 (.buildSlice 1 [(.int .i64 0)] [(0, (1, (.t 50)))])), (o 52 (.append 1 8 (.t 46) (.t 51))), (o 12 (.move (.t 52)))]
noncomputable def L14r2 : List LOper := [(o 59 (.buildSlice 1 [(.int .i64 0)] [(0, (1, (.t 58)))])), (o 60 (.append 1 8 (.t 54) (.t 59))), (o 13 (.move (.t 60)))]
noncomputable def L14s1 : LCode := (.cond (.t 53) (.reg ((o 54 (.move (.t 13))) :: (o 55 (.move (.t 2))) :: (o 56 (.move (.t 14))) :: (o 57 (.indexAddrS 1 (.t 55) (.t 56))) :: (o 58 (.load .false 1 (.t 57))) :: L14r2)) .skip)
noncomputable def L14s2 : LCode := (.seq (.reg ((o 46 (.move (.t 12))) :: (o 47 (.move (.t 1))) :: (o 48 (.move (.t 14))) :: (o 49 (.indexAddrS 1 (.t 47) (.t 48))) :: (o 50 (.load .false 1 (.t 49))) :: L14r1)) (.seq (.reg [(o 53 (.move (.t 11)))]) L14s1))
noncomputable def L14s3 : LCode := (.reg [(o 38 (.move (.t 14))), (o 39 (.bin .add (.t 38) (.c (.int .i64 1)))), (o 14 (.move (.t 39)))])
noncomputable def L14s4 : LCode := (.seq (.block 1 (.seq (.seq (.reg [(o 40 (.move (.t 4))), (o 41 (.move (.t 14))), (o 42 (.convInt .u64 (.t 41))), (o 43 (.bin .shr (.t 40) (.t 42))), (o 44 (.bin .rem (.t 43) (.c (.int .u16 2)))), (o 45 (.eq (.cell (.i .u16)) .false (.t 44) (.c (.int .u16 0))))]) (.cond (.t 45) (.exit 1) .skip)) L14s2)) L14s3)
noncomputable def L14w0 : LCode := (.seq (.seq (.reg [(o 34 (.move (.t 14))), (o 35 (.move (.t 1))), (o 36 (.len .slice (.t 35))), (o 37 (.bin .lss (.t 34) (.t 36)))]) (.cond (.t 37) .skip (.exit 0))) L14s4)
noncomputable def L14s5 : LCode := (.cond (.t 63) (.seq (.reg [(o 64 (.call (.c (.func 17 [] [])) [])), (o 10 (.move (.t 64)))]) .ret) .skip)
noncomputable def L14r3 : List LOper := [(og 85 (.convInt .i64 (.t 84)) 77 .true), (og 86 (.call (.c (.func 43 [] [])) [(.t 79), (.t 81), (.t 83), (.t 85), (.c (.int .i64 99))]) 77 .true), (og 87 (.un .not (.t 86)) 77 .true), (o 88 (.pick (.t 77) (.t 87) (.c (.bool .false))))]
noncomputable def L14r4 : List LOper := ((og 80 (.move (.t 12)) 77 .true) :: (og 81 (.call (.c (.func 30 [] [])) [(.t 80)]) 77 .true) :: (og 82 (.move (.t 13)) 77 .true) :: (og 83 (.call (.c (.func 30 [] [])) [(.t 82)]) 77 .true) :: (og 84 (.move (.t 3)) 77 .true) :: L14r3)
noncomputable def L14r5 : List LOper := ((og 75 (.call (.c (.func 43 [] [])) [(.t 68), (.t 70), (.t 72), (.t 74), (.c (.int .i64 99))]) 66 .true) :: (o 76 (.pick (.t 66) (.t 75) (.c (.bool .false)))) :: (o 77 (.move (.t 76))) :: (og 78 (.load .true 4 (.t 5)) 77 .true) :: (og 79 (.call (.c (.func 19 [] [])) [(.t 78)]) 77 .true) :: L14r4)
noncomputable def L14r6 : List LOper := ((og 70 (.call (.c (.func 30 [] [])) [(.t 69)]) 66 .true) :: (og 71 (.move (.t 2)) 66 .true) :: (og 72 (.call (.c (.func 30 [] [])) [(.t 71)]) 66 .true) :: (og 73 (.move (.t 3)) 66 .true) :: (og 74 (.convInt .i64 (.t 73)) 66 .true) :: L14r5)
noncomputable def L14s6 : LCode := (.cond (.t 88) (.seq (.reg [(o 10 (.move (.c (.bool .false))))]) .ret) .skip)
noncomputable def L14r7 : List LOper := [(o 89 (.move (.t 94))), (o 95 (.extract (.t 89) 0)), (o 96 (.extract (.t 89) 1)), (o 15 (.move (.t 95))), (o 16 (.move (.t 96)))]
noncomputable def L14r8 : List LOper := [(o 97 (.move (.t 102))), (o 103 (.extract (.t 97) 0)), (o 104 (.extract (.t 97) 1)), (o 17 (.move (.t 103))), (o 18 (.move (.t 104)))]
noncomputable def L14r9 : List LOper := [(o 120 (.move (.t 119))), (og 121 (.call (.c (.func 17 [] [])) []) 120 .true), (o 122 (.pick (.t 120) (.t 121) (.c (.bool .false)))), (o 10 (.move (.t 122)))]
noncomputable def L14r10 : List LOper := ((og 115 (.move (.t 17)) 114 .true) :: (og 116 (.move (.t 15)) 114 .true) :: (og 117 (.bin .leq (.t 115) (.t 116)) 114 .true) :: (og 118 (.pick (.t 114) (.t 117) (.c (.bool .false))) 111 .false) :: (o 119 (.pick (.t 111) (.c (.bool .true)) (.t 118))) :: L14r9)
noncomputable def L14r11 : List LOper := ((o 110 (.pick (.t 107) (.t 109) (.c (.bool .false)))) :: (o 111 (.move (.t 110))) :: (og 112 (.move (.t 18)) 111 .false) :: (og 113 (.eq (.cell (.i .i64)) .false (.t 112) (.c (.int .i64 0))) 111 .false) :: (og 114 (.move (.t 113)) 111 .false) :: L14r10)
noncomputable def L14s7 : LCode := (.seq (.reg ((o 105 (.move (.t 16))) :: (o 106 (.eq (.cell (.i .i64)) .true (.t 105) (.c (.int .i64 0)))) :: (o 107 (.move (.t 106))) :: (og 108 (.move (.t 16)) 107 .true) :: (og 109 (.eq (.cell (.i .i64)) .false (.t 108) (.c (.int .i64 9))) 107 .true) :: L14r11)) .ret)
noncomputable def L14s8 : LCode := (.seq (.reg ((o 98 (.load .true 4 (.t 5))) :: (o 99 (.call (.c (.func 19 [] [])) [(.t 98)])) :: (o 100 (.move (.t 12))) :: (o 101 (.call (.c (.func 30 [] [])) [(.t 100)])) :: (o 102 (.call (.c (.func 38 [] [])) [(.t 99), (.t 101)])) :: L14r8)) L14s7)
noncomputable def L14s9 : LCode := (.seq (.reg ((o 90 (.load .true 4 (.t 5))) :: (o 91 (.call (.c (.func 19 [] [])) [(.t 90)])) :: (o 92 (.move (.t 1))) :: (o 93 (.call (.c (.func 30 [] [])) [(.t 92)])) :: (o 94 (.call (.c (.func 38 [] [])) [(.t 91), (.t 93)])) :: L14r7)) L14s8)
noncomputable def L14s10 : LCode := (.seq (.seq (.reg ((o 65 (.move (.t 11))) :: (o 66 (.move (.t 65))) :: (og 67 (.load .true 4 (.t 5)) 66 .true) :: (og 68 (.call (.c (.func 19 [] [])) [(.t 67)]) 66 .true) :: (og 69 (.move (.t 1)) 66 .true) :: L14r6)) L14s6) L14s9)
noncomputable def L14s11 : LCode := (.seq (.seq (.reg [(o 61 (.move (.t 12))), (o 62 (.len .slice (.t 61))), (o 63 (.eq (.cell (.i .i64)) .false (.t 62) (.c (.int .i64 0))))]) L14s5) L14s10)
noncomputable def L14s12 : LCode := (.seq (.seq (.reg [(o 14 (.move (.c (.int .i64 0))))]) (.block 0 (.loop L14w0))) L14s11)
noncomputable def L14s13 : LCode := (.seq (.reg [(o 12 (.move (.c (.slice .none 0 0)))), (o 13 (.move (.c (.slice .none 0 0))))]) L14s12)
noncomputable def L14s14 : LCode := (.seq (.reg [(o 29 (.load .true 4 (.t 5))), (o 30 (.move (.t 1))), (o 31 (.move (.t 2))), (o 32 (.call (.c (.func 32 [] [])) [(.t 29), (.t 30), (.t 31)])), (o 33 (.eq (.cell (.i .i64)) .false (.t 32) (.c (.int .i64 0)))), (o 11 (.move (.t 33)))]) L14s13)
noncomputable def L14s15 : LCode := (.seq (.seq (.reg ((o 19 (.load .true 4 (.t 5))) :: (o 20 (.move (.t 1))) :: (o 21 (.call (.c (.func 48 [] [])) [(.t 19), (.t 20)])) :: (o 22 (.un .not (.t 21))) :: (o 23 (.move (.t 22))) :: L14r0)) L14s0) L14s14)
noncomputable def L14 : LFunc := ⟨123, (.seq (.reg [(o 5 (.box (.t 0))), (o 10 (.move (.c (.bool .false))))]) L14s15), [(.t 10)], .false, .none⟩
theorem lp14 : LP 14 = some L14 := by kernel_rfl
noncomputable def L18r0 : List LOper := [(og 8 (.fieldAddr 2 (.t 1)) 7 .false), (og 9 (.load .false 1 (.t 8)) 7 .false), (og 10 (.len .slice (.t 9)) 7 .false), (og 11 (.bin .gtr (.t 10) (.c (.int .i64 3))) 7 .false), (o 12 (.pick (.t 7) (.c (.bool .true)) (.t 11)))]
noncomputable def L18s0 : LCode := (.cond (.t 12) (.seq (.reg [(o 2 (.move (.c (.int .i64 3))))]) .ret) .skip)
noncomputable def L18s1 : LCode := (.cond (.t 15) (.seq (.reg [(o 2 (.move (.c (.int .i64 1))))]) .ret) .skip)
noncomputable def L18s2 : LCode := (.seq (.seq (.reg [(o 13 (.load .true 4 (.t 1))), (o 14 (.call (.c (.func 50 [] [])) [(.t 13)])), (o 15 (.un .not (.t 14)))]) L18s1) (.seq (.reg [(o 2 (.move (.c (.int .i64 0))))]) .ret))
noncomputable def L18s3 : LCode := (.seq (.seq (.reg ((o 3 (.fieldAddr 1 (.t 1))) :: (o 4 (.load .false 1 (.t 3))) :: (o 5 (.len .slice (.t 4))) :: (o 6 (.bin .gtr (.t 5) (.c (.int .i64 8)))) :: (o 7 (.move (.t 6))) :: L18r0)) L18s0) L18s2)
noncomputable def L18 : LFunc := ⟨16, (.seq (.reg [(o 1 (.box (.t 0))), (o 2 (.move (.c (.int .i64 0))))]) L18s3), [(.t 2)], .false, .none⟩
theorem lp18 : LP 18 = some L18 := by kernel_rfl
noncomputable def L30s0 : LCode := (.seq (.reg [(o 3 (.move (.t 0))), (o 4 (.append 1 8 (.c (.slice .none 0 0)) (.t 3))), (o 2 (.move (.t 4)))]) .ret)
noncomputable def L30 : LFunc := ⟨5, (.seq (.reg [(o 2 (.move (.c (.slice .none 0 0))))]) L30s0), [(.t 2)], .true, .none⟩
theorem lp30 : LP 30 = some L30 := by kernel_rfl
noncomputable def L38s0 : LCode := (.cond (.t 11) (.seq (.reg [(o 12 (.move (.t 6))), (o 4 (.move (.c (.int .i64 0)))), (o 5 (.move (.t 12)))]) .ret) .skip)
noncomputable def L38s1 : LCode := (.seq (.reg [(o 10 (.move (.t 6))), (o 11 (.eq (.cell (.i .i64)) .true (.t 10) (.c (.int .i64 0))))]) L38s0)
noncomputable def L38s2 : LCode := (.cond (.t 18) (.seq (.reg [(o 4 (.move (.c (.int .i64 0)))), (o 5 (.move (.c (.int .i64 9))))]) .ret) .skip)
noncomputable def L38s3 : LCode := (.seq (.reg [(o 19 (.load .true 4 (.t 2))), (o 20 (.call (.c (.func 54 [] [])) [(.t 19)])), (o 21 (.move (.t 1))), (o 22 (.call (.c (.func 67 [] [])) [(.t 20), (.t 21)])), (o 4 (.move (.t 22))), (o 5 (.move (.c (.int .i64 0))))]) .ret)
noncomputable def L38s4 : LCode := (.seq (.seq (.reg [(o 13 (.move (.t 1))), (o 14 (.len .slice (.t 13))), (o 15 (.fieldAddr 3 (.t 2))), (o 16 (.load .false 1 (.t 15))), (o 17 (.bin .add (.t 16) (.c (.int .i64 1)))), (o 18 (.bin .gtr (.t 14) (.t 17)))]) L38s2) L38s3)
noncomputable def L38s5 : LCode := (.seq (.seq (.reg [(o 7 (.load .true 4 (.t 2))), (o 8 (.move (.t 1))), (o 9 (.call (.c (.func 66 [] [])) [(.t 7), (.t 8)])), (o 6 (.move (.t 9)))]) L38s1) L38s4)
noncomputable def L38 : LFunc := ⟨23, (.seq (.reg [(o 2 (.box (.t 0))), (o 4 (.move (.c (.int .i64 0)))), (o 5 (.move (.c (.int .i64 0))))]) L38s5), [(.t 4), (.t 5)], .false, .none⟩
theorem lp38 : LP 38 = some L38 := by kernel_rfl
noncomputable def L50r0 : List LOper := [(o 28 (.pick (.t 25) (.t 27) (.c (.bool .false)))), (o 29 (.move (.t 28))), (og 30 (.load .true 4 (.t 1)) 29 .true), (og 31 (.call (.c (.func 78 [] [])) [(.t 30)]) 29 .true), (o 32 (.pick (.t 29) (.t 31) (.c (.bool .false)))), (o 2 (.move (.t 32)))]
noncomputable def L50r1 : List LOper := ((og 23 (.call (.c (.func 76 [] [])) [(.t 22)]) 21 .true) :: (o 24 (.pick (.t 21) (.t 23) (.c (.bool .false)))) :: (o 25 (.move (.t 24))) :: (og 26 (.load .true 4 (.t 1)) 25 .true) :: (og 27 (.call (.c (.func 77 [] [])) [(.t 26)]) 25 .true) :: L50r0)
noncomputable def L50r2 : List LOper := ((og 18 (.load .false 1 (.t 17)) 16 .true) :: (og 19 (.bin .leq (.t 18) (.c (.int .i64 60))) 16 .true) :: (o 20 (.pick (.t 16) (.t 19) (.c (.bool .false)))) :: (o 21 (.move (.t 20))) :: (og 22 (.load .true 4 (.t 1)) 21 .true) :: L50r1)
noncomputable def L50r3 : List LOper := ((og 13 (.load .false 1 (.t 12)) 11 .true) :: (og 14 (.bin .leq (.c (.int .i64 1)) (.t 13)) 11 .true) :: (o 15 (.pick (.t 11) (.t 14) (.c (.bool .false)))) :: (o 16 (.move (.t 15))) :: (og 17 (.fieldAddr 3 (.t 1)) 16 .true) :: L50r2)
noncomputable def L50r4 : List LOper := ((og 8 (.load .false 1 (.t 7)) 6 .true) :: (og 9 (.bin .leq (.t 8) (.c (.int .i64 50))) 6 .true) :: (o 10 (.pick (.t 6) (.t 9) (.c (.bool .false)))) :: (o 11 (.move (.t 10))) :: (og 12 (.fieldAddr 3 (.t 1)) 11 .true) :: L50r3)
noncomputable def L50s0 : LCode := (.seq (.reg ((o 3 (.fieldAddr 0 (.t 1))) :: (o 4 (.load .false 1 (.t 3))) :: (o 5 (.bin .leq (.c (.int .i64 1)) (.t 4))) :: (o 6 (.move (.t 5))) :: (og 7 (.fieldAddr 0 (.t 1)) 6 .true) :: L50r4)) .ret)
noncomputable def L50 : LFunc := ⟨33, (.seq (.reg [(o 1 (.box (.t 0))), (o 2 (.move (.c (.bool .false))))]) L50s0), [(.t 2)], .false, .none⟩
theorem lp50 : LP 50 = some L50 := by kernel_rfl
noncomputable def L54r0 : List LOper := [(oa 13 (.call (.c (.func 53 [] [])) [(.t 9), (.t 12)]) [9, 7, 5, 4, 2]), (oa 14 (.build [(.int .i64 0), (.slice .none 0 0), (.slice .none 0 0), (.int .i64 0), (.slice .none 0 0), (.slice .none 0 0)] [(0, (4, (.t 3))), (4, (1, (.t 8))), (5, (1, (.t 13)))]) [10, 9, 7, 5, 4, 2]), (ona (.store 6 (.t 2) (.t 14)) [10, 9, 7, 5, 4, 2])]
noncomputable def L54r1 : List LOper := ((oa 8 (.call (.c (.func 53 [] [])) [(.t 4), (.t 7)]) [4, 2]) :: (o 9 (.load .true 4 (.t 1))) :: (oa 10 (.call (.c (.func 85 [] [])) []) [5, 4, 2]) :: (o 11 (.load .true 4 (.t 1))) :: (oa 12 (.call (.c (.func 84 [] [])) [(.t 10), (.t 11)]) [7, 5, 4, 2]) :: L54r0)
noncomputable def L54s0 : LCode := (.seq (.draw 11 ((o 3 (.load .true 4 (.t 1))) :: (o 4 (.load .true 4 (.t 1))) :: (o 5 (.call (.c (.func 83 [] [])) [])) :: (o 6 (.load .true 4 (.t 1))) :: (oa 7 (.call (.c (.func 84 [] [])) [(.t 5), (.t 6)]) [2]) :: L54r1)) .ret)
noncomputable def L54 : LFunc := ⟨15, (.seq (.reg [(o 1 (.box (.t 0))), (o 2 (.alloc [(.int .i64 0), (.slice .none 0 0), (.slice .none 0 0), (.int .i64 0), (.slice .none 0 0), (.slice .none 0 0)]))]) L54s0), [(.cell 2 .true 6)], .true, .none⟩
theorem lp54 : LP 54 = some L54 := by kernel_rfl
noncomputable def L58r0 : List LOper := [(o 23 (.load .false 1 (.t 22))), (o 24 (.build [(.int .i64 0), (.int .i64 0)] [(0, (1, (.t 19))), (1, (1, (.t 23)))])), (o 25 (.buildSlice 1 [(.int .i64 0), (.int .i64 0)] [(0, (2, (.t 24)))])), (o 26 (.append 2 16 (.t 18) (.t 25))), (o 5 (.move (.t 26)))]
noncomputable def L58s0 : LCode := (.reg ((o 18 (.move (.t 5))) :: (o 19 (.move (.t 7))) :: (o 20 (.move (.t 1))) :: (o 21 (.move (.t 6))) :: (o 22 (.indexAddrS 1 (.t 20) (.t 21))) :: L58r0))
noncomputable def L58s1 : LCode := (.reg [(o 27 (.bin .add (.t 13) (.c (.int .i64 1)))), (o 13 (.move (.t 27)))])
noncomputable def L58s2 : LCode := (.seq (.block 1 (.seq (.reg [(o 15 (.move (.t 13))), (o 16 (.indexAddrS 1 (.t 11) (.t 13))), (o 17 (.load .false 1 (.t 16))), (o 6 (.move (.t 15))), (o 7 (.move (.t 17)))]) L58s0)) L58s1)
noncomputable def L58w0 : LCode := (.seq (.reg [(o 14 (.bin .lss (.t 13) (.t 12)))]) (.seq (.cond (.t 14) .skip (.exit 0)) L58s2))
noncomputable def L58s3 : LCode := (.seq (.reg [(o 28 (.move (.t 5))), (o 4 (.move (.t 28)))]) .ret)
noncomputable def L58s4 : LCode := (.seq (.seq (.reg [(o 11 (.move (.t 0))), (o 12 (.len .slice (.t 11))), (o 13 (.move (.c (.int .i64 0))))]) (.block 0 (.loop L58w0))) L58s3)
noncomputable def L58s5 : LCode := (.seq (.reg [(o 8 (.move (.t 0))), (o 9 (.len .slice (.t 8))), (o 10 (.makeSlice [(.int .i64 0), (.int .i64 0)] 16 (.c (.int .i64 0)) (.t 9))), (o 5 (.move (.t 10)))]) L58s4)
noncomputable def L58 : LFunc := ⟨29, (.seq (.reg [(o 4 (.move (.c (.slice .none 0 0))))]) L58s5), [(.t 4)], .true, .none⟩
theorem lp58 : LP 58 = some L58 := by kernel_rfl
noncomputable def L62s0 : LCode := (.seq (.reg [(o 5 (.load .true 4 (.t 2))), (o 6 (.call (.c (.func 54 [] [])) [(.t 5)])), (o 7 (.move (.t 1))), (o 8 (.build [(.int .i64 0), (.slice .none 0 0), (.slice .none 0 0), (.int .i64 0), (.slice .none 0 0), (.slice .none 0 0), (.int .i64 0)] [(0, (6, (.t 6))), (6, (1, (.t 7)))])), (on (.store 7 (.t 4) (.t 8)))]) .ret)
noncomputable def L62 : LFunc := ⟨9, (.seq (.reg [(o 2 (.box (.t 0))), (o 4 (.alloc [(.int .i64 0), (.slice .none 0 0), (.slice .none 0 0), (.int .i64 0), (.slice .none 0 0), (.slice .none 0 0), (.int .i64 0)]))]) L62s0), [(.cell 4 .true 7)], .true, .none⟩
theorem lp62 : LP 62 = some L62 := by kernel_rfl
noncomputable def L66s0 : LCode := (.cond (.t 9) (.seq (.reg [(o 10 (.move (.t 5))), (o 4 (.move (.t 10)))]) .ret) .skip)
noncomputable def L66s1 : LCode := (.seq (.reg [(o 8 (.move (.t 5))), (o 9 (.eq (.cell (.i .i64)) .true (.t 8) (.c (.int .i64 0))))]) L66s0)
noncomputable def L66s2 : LCode := (.cond (.t 13) (.seq (.reg [(o 4 (.move (.c (.int .i64 3))))]) .ret) .skip)
noncomputable def L66r0 : List LOper := [(og 24 (.call (.c (.func 88 [] [])) [(.t 23)]) 22 .false), (og 25 (.un .not (.t 24)) 22 .false), (o 26 (.pick (.t 22) (.c (.bool .true)) (.t 25)))]
noncomputable def L66r1 : List LOper := ((og 19 (.call (.c (.func 87 [] [])) [(.t 18), (.c (.func 60 [] []))]) 17 .false) :: (og 20 (.un .not (.t 19)) 17 .false) :: (o 21 (.pick (.t 17) (.c (.bool .true)) (.t 20))) :: (o 22 (.move (.t 21))) :: (og 23 (.move (.t 1)) 22 .false) :: L66r0)
noncomputable def L66s3 : LCode := (.cond (.t 26) (.seq (.reg [(o 4 (.move (.c (.int .i64 2))))]) .ret) .skip)
noncomputable def L66s4 : LCode := (.seq (.seq (.reg ((o 14 (.move (.t 1))) :: (o 15 (.len .slice (.t 14))) :: (o 16 (.eq (.cell (.i .i64)) .false (.t 15) (.c (.int .i64 0)))) :: (o 17 (.move (.t 16))) :: (og 18 (.move (.t 1)) 17 .false) :: L66r1)) L66s3) (.seq (.reg [(o 4 (.move (.c (.int .i64 0))))]) .ret))
noncomputable def L66s5 : LCode := (.seq (.seq (.reg [(o 11 (.move (.t 1))), (o 12 (.len .slice (.t 11))), (o 13 (.bin .gtr (.t 12) (.c (.int .i64 10))))]) L66s2) L66s4)
noncomputable def L66s6 : LCode := (.seq (.seq (.reg [(o 6 (.load .true 4 (.t 2))), (o 7 (.call (.c (.func 18 [] [])) [(.t 6)])), (o 5 (.move (.t 7)))]) L66s1) L66s5)
noncomputable def L66 : LFunc := ⟨27, (.seq (.reg [(o 2 (.box (.t 0))), (o 4 (.move (.c (.int .i64 0))))]) L66s6), [(.t 4)], .false, .none⟩
theorem lp66 : LP 66 = some L66 := by kernel_rfl
noncomputable def L78r0 : List LOper := [(o 14 (.load .false 1 (.t 13))), (o 15 (.sliceS 1 (.t 14) (.some (.c (.int .i64 1))) .none)), (o 16 (.call (.c (.func 103 [] [])) [(.t 12), (.t 15)])), (oa 4 (.move (.t 16)) [7])]
noncomputable def L78r1 : List LOper := [(o 22 (.load .false 1 (.t 21))), (o 23 (.sliceS 1 (.t 22) (.some (.c (.int .i64 1))) .none)), (o 24 (.call (.c (.func 103 [] [])) [(.t 20), (.t 23)])), (oa 5 (.move (.t 24)) [7])]
noncomputable def L78r2 : List LOper := [(o 30 (.bin .add (.t 28) (.t 29))), (o 31 (.bin .geq (.t 30) (.c (.int .i64 1)))), (o 2 (.move (.t 31)))]
noncomputable def L78s0 : LCode := (.seq (.reg ((o 25 (.fieldAddr 0 (.t 1))) :: (o 26 (.load .false 1 (.t 25))) :: (o 27 (.move (.t 4))) :: (o 28 (.bin .add (.t 26) (.t 27))) :: (o 29 (.move (.t 5))) :: L78r2)) .ret)
noncomputable def L78s1 : LCode := (.seq (.draw 7 ((o 17 (.fieldAddr 1 (.t 3))) :: (o 18 (.load .false 1 (.t 17))) :: (o 19 (.indexAddrS 1 (.t 18) (.c (.int .i64 0)))) :: (o 20 (.load .false 1 (.t 19))) :: (o 21 (.fieldAddr 1 (.t 3))) :: L78r1)) L78s0)
noncomputable def L78s2 : LCode := (.seq (.draw 7 ((o 9 (.fieldAddr 0 (.t 3))) :: (o 10 (.load .false 1 (.t 9))) :: (o 11 (.indexAddrS 1 (.t 10) (.c (.int .i64 0)))) :: (o 12 (.load .false 1 (.t 11))) :: (o 13 (.fieldAddr 0 (.t 3))) :: L78r0)) L78s1)
noncomputable def L78s3 : LCode := (.seq (.draw 4 [(o 6 (.call (.c (.func 83 [] [])) [])), (o 7 (.load .true 4 (.t 1))), (oa 8 (.call (.c (.func 84 [] [])) [(.t 6), (.t 7)]) [0]), (o 3 (.alloc [(.slice .none 0 0), (.slice .none 0 0)])), (ona (.store 2 (.t 3) (.t 8)) [3, 2, 0])]) L78s2)
noncomputable def L78 : LFunc := ⟨32, (.seq (.reg [(o 1 (.box (.t 0))), (o 2 (.move (.c (.bool .false))))]) L78s3), [(.t 2)], .false, .none⟩
theorem lp78 : LP 78 = some L78 := by kernel_rfl
noncomputable def L82s0 : LCode := (.cond (.t 19) (.reg [(o 20 (.move (.t 6))), (o 5 (.move (.t 20)))]) .skip)
noncomputable def L82s1 : LCode := (.seq (.reg [(o 16 (.fieldAddr 0 (.t 7))), (o 17 (.load .false 1 (.t 16))), (o 18 (.move (.t 1))), (o 19 (.bin .leq (.t 17) (.t 18)))]) L82s0)
noncomputable def L82s2 : LCode := (.reg [(o 21 (.bin .add (.t 11) (.c (.int .i64 1)))), (o 11 (.move (.t 21)))])
noncomputable def L82s3 : LCode := (.seq (.block 1 (.seq (.reg [(o 13 (.move (.t 11))), (o 14 (.indexAddrS 3 (.t 9) (.t 11))), (o 15 (.load .true 3 (.t 14))), (o 7 (.alloc [(.int .i64 0), (.int .i64 0), (.int .i64 0)])), (o 6 (.move (.t 13))), (on (.store 3 (.t 7) (.t 15)))]) L82s1)) L82s2)
noncomputable def L82w0 : LCode := (.seq (.reg [(o 12 (.bin .lss (.t 11) (.t 10)))]) (.seq (.cond (.t 12) .skip (.exit 0)) L82s3))
noncomputable def L82s4 : LCode := (.seq (.reg [(o 22 (.move (.t 5))), (o 4 (.move (.t 22)))]) .ret)
noncomputable def L82s5 : LCode := (.seq (.seq (.reg [(o 8 (.fieldAddr 2 (.t 2))), (o 9 (.load .false 1 (.t 8))), (o 10 (.len .slice (.t 9))), (o 11 (.move (.c (.int .i64 0))))]) (.block 0 (.loop L82w0))) L82s4)
noncomputable def L82 : LFunc := ⟨23, (.seq (.reg [(o 2 (.box (.t 0))), (o 4 (.move (.c (.int .i64 0))))]) (.seq (.reg [(o 5 (.move (.c (.int .i64 0))))]) L82s5)), [(.t 4)], .false, .none⟩
theorem lp82 : LP 82 = some L82 := by kernel_rfl
noncomputable def L86r0 : List LOper := [(o 8 (.move (.t 7))), (og 9 (.fieldAddr 1 (.t 1)) 8 .true), (og 10 (.load .false 1 (.t 9)) 8 .true), (og 11 (.bin .leq (.t 10) (.c (.int .i64 20))) 8 .true), (o 12 (.pick (.t 8) (.t 11) (.c (.bool .false)))), (o 2 (.move (.t 12)))]
noncomputable def L86s0 : LCode := (.seq (.reg ((o 3 (.fieldAddr 0 (.t 1))) :: (o 4 (.load .false 1 (.t 3))) :: (o 5 (.fieldAddr 1 (.t 1))) :: (o 6 (.load .false 1 (.t 5))) :: (o 7 (.call (.c (.func 24 [] [])) [(.t 4), (.c (.int .i64 (-20))), (.t 6)])) :: L86r0)) .ret)
noncomputable def L86 : LFunc := ⟨13, (.seq (.reg [(o 1 (.box (.t 0))), (o 2 (.move (.c (.bool .false))))]) L86s0), [(.t 2)], .false, .none⟩
theorem lp86 : LP 86 = some L86 := by kernel_rfl
noncomputable def L90s0 : LCode := (.seq (.reg [(o 5 (.load .true 6 (.t 1))), (o 6 (.move (.t 0))), (o 7 (.build [(.int .i64 0), (.slice .none 0 0), (.slice .none 0 0), (.int .i64 0), (.slice .none 0 0), (.slice .none 0 0), (.int .i64 0)] [(0, (6, (.t 5))), (6, (1, (.t 6)))])), (o 8 (.load .false 1 (.t 2))), (o 9 (.call (.c (.func 91 [] [])) [(.t 7), (.t 8)])), (o 4 (.move (.t 9)))]) .ret)
noncomputable def L90 : LFunc := ⟨10, (.seq (.reg [(o 4 (.move (.c (.bool .false))))]) L90s0), [(.t 4)], .false, .none⟩
theorem lp90 : LP 90 = some L90 := by kernel_rfl
noncomputable def L94s0 : LCode := (.cond (.t 9) (.seq (.reg [(o 4 (.move (.c (.int .i64 0))))]) .ret) .skip)
noncomputable def L94s1 : LCode := (.seq (.seq (.reg [(o 5 (.fieldAddr 2 (.t 3))), (o 6 (.load .false 1 (.t 5))), (o 7 (.fieldAddr 2 (.t 2))), (o 8 (.load .false 1 (.t 7))), (o 9 (.eq (.cell (.i .i64)) .false (.t 6) (.t 8)))]) L94s0) (.seq (.reg [(o 4 (.move (.c (.int .i64 1))))]) .ret))
noncomputable def L94 : LFunc := ⟨10, (.seq (.reg [(o 2 (.box (.t 0))), (o 3 (.box (.t 1))), (o 4 (.move (.c (.int .i64 0))))]) L94s1), [(.t 4)], .false, .none⟩
theorem lp94 : LP 94 = some L94 := by kernel_rfl
noncomputable def L98r0 : List LOper := [(o 13 (.move (.t 12))), (og 14 (.fieldAddr 1 (.t 1)) 13 .true), (og 15 (.load .false 1 (.t 14)) 13 .true), (og 16 (.bin .leq (.t 15) (.c (.int .i64 20))) 13 .true), (o 17 (.pick (.t 13) (.t 16) (.c (.bool .false)))), (o 2 (.move (.t 17)))]
noncomputable def L98r1 : List LOper := ((og 8 (.load .false 1 (.t 7)) 6 .true) :: (og 9 (.fieldAddr 1 (.t 1)) 6 .true) :: (og 10 (.load .false 1 (.t 9)) 6 .true) :: (og 11 (.bin .leq (.t 8) (.t 10)) 6 .true) :: (o 12 (.pick (.t 6) (.t 11) (.c (.bool .false)))) :: L98r0)
noncomputable def L98s0 : LCode := (.seq (.reg ((o 3 (.fieldAddr 0 (.t 1))) :: (o 4 (.load .false 1 (.t 3))) :: (o 5 (.bin .leq (.c (.int .i64 (-20))) (.t 4))) :: (o 6 (.move (.t 5))) :: (og 7 (.fieldAddr 0 (.t 1)) 6 .true) :: L98r1)) .ret)
noncomputable def L98 : LFunc := ⟨18, (.seq (.reg [(o 1 (.box (.t 0))), (o 2 (.move (.c (.bool .false))))]) L98s0), [(.t 2)], .false, .none⟩
theorem lp98 : LP 98 = some L98 := by kernel_rfl
noncomputable def L102s0 : LCode := (.seq (.reg [(o 5 (.fieldAddr 0 (.t 2))), (o 6 (.load .false 1 (.t 5))), (o 7 (.fieldAddr 0 (.t 3))), (o 8 (.load .false 1 (.t 7))), (o 9 (.bin .lss (.t 6) (.t 8))), (o 4 (.move (.t 9)))]) .ret)
noncomputable def L102 : LFunc := ⟨10, (.seq (.reg [(o 2 (.box (.t 0))), (o 3 (.box (.t 1))), (o 4 (.move (.c (.bool .false))))]) L102s0), [(.t 4)], .false, .none⟩
theorem lp102 : LP 102 = some L102 := by kernel_rfl
noncomputable def L106s0 : LCode := (.seq (.reg [(o 3 (.fieldAddr 1 (.t 1))), (o 4 (.load .false 1 (.t 3))), (o 2 (.move (.t 4)))]) .ret)
noncomputable def L106 : LFunc := ⟨5, (.seq (.reg [(o 1 (.box (.t 0))), (o 2 (.move (.c (.int .i64 0))))]) L106s0), [(.t 2)], .false, .none⟩
theorem lp106 : LP 106 = some L106 := by kernel_rfl
noncomputable def L19r0 : List LOper := [(o 23 (.indexAddrS 2 (.t 21) (.t 22))), (o 24 (.load .true 2 (.t 23))), (o 25 (.call (.c (.func 25 [] [])) [(.t 24)])), (oa 26 (.buildSlice 1 [(.int .i64 0), (.int .i64 0)] [(0, (2, (.t 25)))]) [7]), (oa 27 (.append 2 16 (.t 19) (.t 26)) [8, 7]), (oa 28 (.fieldAddr 1 (.t 3)) [9, 8, 7]), (ona (.store 1 (.t 28) (.t 27)) [9, 8, 7])]
noncomputable def L19s0 : LCode := (.reg [(o 16 (.move (.t 4))), (o 17 (.bin .add (.t 16) (.c (.int .i64 1)))), (o 4 (.move (.t 17)))])
noncomputable def L19s1 : LCode := (.seq (.block 1 (.draw 9 ((o 18 (.fieldAddr 1 (.t 3))) :: (o 19 (.load .false 1 (.t 18))) :: (o 20 (.fieldAddr 1 (.t 1))) :: (o 21 (.load .false 1 (.t 20))) :: (o 22 (.move (.t 4))) :: L19r0))) L19s0)
noncomputable def L19w1 : LCode := (.seq (.seq (.reg [(o 11 (.move (.t 4))), (o 12 (.fieldAddr 1 (.t 1))), (o 13 (.load .false 1 (.t 12))), (o 14 (.len .slice (.t 13))), (o 15 (.bin .lss (.t 11) (.t 14)))]) (.cond (.t 15) .skip (.exit 0))) L19s1)
noncomputable def L19r1 : List LOper := [(oa 51 (.build [(.int .i64 0), (.int .i64 0), (.int .i64 0)] [(0, (1, (.t 43))), (1, (2, (.t 50)))]) [14]), (oa 52 (.buildSlice 1 [(.int .i64 0), (.int .i64 0), (.int .i64 0)] [(0, (3, (.t 51)))]) [14]), (oa 53 (.append 3 24 (.t 37) (.t 52)) [16, 14]), (oa 54 (.fieldAddr 2 (.t 3)) [17, 16, 14]), (ona (.store 1 (.t 54) (.t 53)) [17, 16, 14])]
noncomputable def L19r2 : List LOper := ((o 46 (.move (.t 5))) :: (o 47 (.indexAddrS 3 (.t 45) (.t 46))) :: (o 48 (.fieldAddr 1 (.t 47))) :: (o 49 (.load .true 2 (.t 48))) :: (o 50 (.call (.c (.func 25 [] [])) [(.t 49)])) :: L19r1)
noncomputable def L19r3 : List LOper := ((o 41 (.indexAddrS 3 (.t 39) (.t 40))) :: (o 42 (.fieldAddr 0 (.t 41))) :: (o 43 (.load .false 1 (.t 42))) :: (o 44 (.fieldAddr 2 (.t 1))) :: (o 45 (.load .false 1 (.t 44))) :: L19r2)
noncomputable def L19s2 : LCode := (.reg [(o 34 (.move (.t 5))), (o 35 (.bin .add (.t 34) (.c (.int .i64 1)))), (o 5 (.move (.t 35)))])
noncomputable def L19s3 : LCode := (.seq (.block 3 (.draw 17 ((o 36 (.fieldAddr 2 (.t 3))) :: (o 37 (.load .false 1 (.t 36))) :: (o 38 (.fieldAddr 2 (.t 1))) :: (o 39 (.load .false 1 (.t 38))) :: (o 40 (.move (.t 5))) :: L19r3))) L19s2)
noncomputable def L19w0 : LCode := (.seq (.seq (.reg [(o 29 (.move (.t 5))), (o 30 (.fieldAddr 2 (.t 1))), (o 31 (.load .false 1 (.t 30))), (o 32 (.len .slice (.t 31))), (o 33 (.bin .lss (.t 29) (.t 32)))]) (.cond (.t 33) .skip (.exit 2))) L19s3)
noncomputable def L19s4 : LCode := (.seq (.reg [(o 55 (.load .true 4 (.t 3))), (on (.store 4 (.t 2) (.t 55)))]) .ret)
noncomputable def L19s5 : LCode := (.seq (.seq (.reg [(o 5 (.move (.c (.int .i64 0))))]) (.block 2 (.loop L19w0))) L19s4)
noncomputable def L19s6 : LCode := (.seq (.seq (.reg [(o 4 (.move (.c (.int .i64 0))))]) (.block 0 (.loop L19w1))) L19s5)
noncomputable def L19s7 : LCode := (.seq (.reg [(o 6 (.fieldAddr 0 (.t 1))), (o 7 (.load .false 1 (.t 6))), (o 8 (.fieldAddr 3 (.t 1))), (o 9 (.load .false 1 (.t 8))), (o 10 (.build [(.int .i64 0), (.slice .none 0 0), (.slice .none 0 0), (.int .i64 0)] [(0, (1, (.t 7))), (3, (1, (.t 9)))])), (o 3 (.alloc [(.int .i64 0), (.slice .none 0 0), (.slice .none 0 0), (.int .i64 0)])), (on (.store 4 (.t 3) (.t 10)))]) L19s6)
noncomputable def L19 : LFunc := ⟨56, (.seq (.reg [(o 1 (.box (.t 0))), (o 2 (.alloc [(.int .i64 0), (.slice .none 0 0), (.slice .none 0 0), (.int .i64 0)]))]) L19s7), [(.cell 2 .true 4)], .true, .none⟩
theorem lp19 : LP 19 = some L19 := by kernel_rfl
noncomputable def L23s0 : LCode := (.seq (.reg [(o 3 (.load .true 4 (.t 1))), (o 4 (.call (.c (.func 56 [] [])) [(.t 3)])), (o 2 (.move (.t 4)))]) .ret)
noncomputable def L23 : LFunc := ⟨5, (.seq (.reg [(o 1 (.box (.t 0))), (o 2 (.move (.c (.int .i64 0))))]) L23s0), [(.t 2)], .false, .none⟩
theorem lp23 : LP 23 = some L23 := by kernel_rfl
noncomputable def L39s0 : LCode := (.cond (.t 9) (.seq (.reg [(o 10 (.move (.t 5))), (o 4 (.move (.t 10)))]) .ret) .skip)
noncomputable def L39s1 : LCode := (.seq (.reg [(o 8 (.move (.t 5))), (o 9 (.eq (.cell (.i .i64)) .true (.t 8) (.c (.int .i64 0))))]) L39s0)
noncomputable def L39s2 : LCode := (.seq (.reg [(o 11 (.move (.t 1))), (o 12 (.call (.c (.func 68 [] [])) [(.t 11)])), (o 4 (.move (.t 12)))]) .ret)
noncomputable def L39s3 : LCode := (.seq (.seq (.reg [(o 6 (.load .true 4 (.t 2))), (o 7 (.call (.c (.func 23 [] [])) [(.t 6)])), (o 5 (.move (.t 7)))]) L39s1) L39s2)
noncomputable def L39 : LFunc := ⟨13, (.seq (.reg [(o 2 (.box (.t 0))), (o 4 (.move (.c (.int .i64 0))))]) L39s3), [(.t 4)], .false, .none⟩
theorem lp39 : LP 39 = some L39 := by kernel_rfl
noncomputable def L43r0 : List LOper := [(o 21 (.move (.t 20))), (og 22 (.move (.t 2)) 21 .false), (og 23 (.call (.c (.func 71 [] [])) [(.t 22)]) 21 .false), (og 24 (.move (.t 4)) 21 .false), (og 25 (.bin .gtr (.t 23) (.t 24)) 21 .false), (o 26 (.pick (.t 21) (.c (.bool .true)) (.t 25)))]
noncomputable def L43r1 : List LOper := ((o 16 (.move (.t 15))) :: (og 17 (.move (.t 3)) 16 .false) :: (og 18 (.call (.c (.func 60 [] [])) [(.t 17)]) 16 .false) :: (og 19 (.un .not (.t 18)) 16 .false) :: (o 20 (.pick (.t 16) (.c (.bool .true)) (.t 19))) :: L43r0)
noncomputable def L43s0 : LCode := (.cond (.t 26) (.seq (.reg [(o 10 (.move (.c (.bool .false))))]) .ret) .skip)
noncomputable def L43r2 : List LOper := [(oa 32 (.call (.c (.func 62 [] [])) [(.t 30), (.t 31)]) [2]), (oa 33 (.makeFunc 73 [(.t 32)] []) [5, 2]), (oa 34 (.call (.c (.func 72 [] [])) [(.t 29), (.t 33)]) [5, 2]), (oa 10 (.move (.t 34)) [7, 5, 2])]
noncomputable def L43s1 : LCode := (.seq (.draw 4 ((o 27 (.move (.t 1))) :: (o 28 (.move (.t 2))) :: (o 29 (.call (.c (.func 58 [] [])) [(.t 27), (.t 28)])) :: (o 30 (.load .true 4 (.t 5))) :: (o 31 (.move (.t 3))) :: L43r2)) .ret)
noncomputable def L43s2 : LCode := (.seq (.seq (.reg ((o 11 (.load .true 4 (.t 5))) :: (o 12 (.move (.t 1))) :: (o 13 (.move (.t 2))) :: (o 14 (.call (.c (.func 57 [] [])) [(.t 11), (.t 12), (.t 13)])) :: (o 15 (.eq (.cell (.i .i64)) .true (.t 14) (.c (.int .i64 0)))) :: L43r1)) L43s0) L43s1)
noncomputable def L43 : LFunc := ⟨35, (.seq (.reg [(o 5 (.box (.t 0))), (o 10 (.move (.c (.bool .false))))]) L43s2), [(.t 10)], .false, .none⟩
theorem lp43 : LP 43 = some L43 := by kernel_rfl
noncomputable def L55r0 : List LOper := [(o 10 (.fieldAddr 5 (.t 2))), (o 11 (.load .false 1 (.t 10))), (o 12 (.move (.t 1))), (o 13 (.indexAddrS 1 (.t 11) (.t 12))), (o 14 (.load .false 1 (.t 13))), (o 15 (.build [(.int .i64 0), (.int .i64 0)] [(0, (1, (.t 9))), (1, (1, (.t 14)))])), (on (.store 2 (.t 4) (.t 15)))]
noncomputable def L55s0 : LCode := (.seq (.draw 10 ((o 5 (.fieldAddr 4 (.t 2))) :: (o 6 (.load .false 1 (.t 5))) :: (o 7 (.move (.t 1))) :: (o 8 (.indexAddrS 1 (.t 6) (.t 7))) :: (o 9 (.load .false 1 (.t 8))) :: L55r0)) .ret)
noncomputable def L55 : LFunc := ⟨16, (.seq (.reg [(o 2 (.box (.t 0))), (o 4 (.alloc [(.int .i64 0), (.int .i64 0)]))]) L55s0), [(.cell 4 .true 2)], .false, .none⟩
theorem lp55 : LP 55 = some L55 := by kernel_rfl
noncomputable def L59r0 : List LOper := [(o 15 (.fieldAddr 1 (.t 5))), (o 16 (.load .false 1 (.t 15))), (o 17 (.fieldAddr 0 (.t 3))), (o 18 (.load .false 1 (.t 17))), (o 19 (.bin .sub (.t 16) (.t 18))), (o 20 (.build [(.int .i64 0), (.int .i64 0)] [(0, (1, (.t 14))), (1, (1, (.t 19)))])), (on (.store 2 (.t 4) (.t 20)))]
noncomputable def L59s0 : LCode := (.seq (.reg ((o 10 (.fieldAddr 0 (.t 5))) :: (o 11 (.load .false 1 (.t 10))) :: (o 12 (.fieldAddr 0 (.t 3))) :: (o 13 (.load .false 1 (.t 12))) :: (o 14 (.bin .sub (.t 11) (.t 13))) :: L59r0)) .ret)
noncomputable def L59s1 : LCode := (.seq (.reg [(o 6 (.load .true 6 (.t 2))), (o 7 (.fieldAddr 1 (.t 3))), (o 8 (.load .false 1 (.t 7))), (o 9 (.call (.c (.func 55 [] [])) [(.t 6), (.t 8)])), (o 5 (.alloc [(.int .i64 0), (.int .i64 0)])), (on (.store 2 (.t 5) (.t 9)))]) L59s0)
noncomputable def L59 : LFunc := ⟨21, (.seq (.reg [(o 2 (.box (.t 0))), (o 3 (.box (.t 1))), (o 4 (.alloc [(.int .i64 0), (.int .i64 0)]))]) L59s1), [(.cell 4 .true 2)], .false, .none⟩
theorem lp59 : LP 59 = some L59 := by kernel_rfl
noncomputable def L67s0 : LCode := (.seq (.reg [(o 5 (.makeFunc 90 [] [(.t 2), (.t 3)])), (o 6 (.call (.c (.func 89 [] [])) [(.c (.int .i64 5000)), (.t 5)])), (o 4 (.move (.t 6)))]) .ret)
noncomputable def L67 : LFunc := ⟨7, (.seq (.reg [(o 2 (.box (.t 0))), (o 3 (.box (.t 1))), (o 4 (.move (.c (.int .i64 0))))]) L67s0), [(.t 4)], .false, .none⟩
theorem lp67 : LP 67 = some L67 := by kernel_rfl
noncomputable def L71s0 : LCode := (.reg [(o 23 (.load .true 3 (.t 7))), (on (.store 3 (.t 4) (.t 23)))])
noncomputable def L71s1 : LCode := (.seq (.reg [(o 18 (.move (.t 3))), (o 19 (.load .true 3 (.t 4))), (o 20 (.load .true 3 (.t 7))), (o 21 (.call (.c (.func 94 [] [])) [(.t 19), (.t 20)])), (o 22 (.bin .add (.t 18) (.t 21))), (o 3 (.move (.t 22)))]) L71s0)
noncomputable def L71s2 : LCode := (.seq (.reg [(o 15 (.load .true 3 (.t 4))), (o 16 (.move (.t 6))), (o 17 (.call (.c (.func 93 [] [])) [(.t 15), (.t 16)])), (o 7 (.alloc [(.int .i64 0), (.int .i64 0), (.int .i64 0)])), (on (.store 3 (.t 7) (.t 17)))]) L71s1)
noncomputable def L71s3 : LCode := (.reg [(o 24 (.bin .add (.t 11) (.c (.int .i64 1)))), (o 11 (.move (.t 24)))])
noncomputable def L71s4 : LCode := (.seq (.block 1 (.seq (.reg [(o 13 (.indexAddrS 1 (.t 9) (.t 11))), (o 14 (.load .false 1 (.t 13))), (o 6 (.move (.t 14)))]) L71s2)) L71s3)
noncomputable def L71w0 : LCode := (.seq (.reg [(o 12 (.bin .lss (.t 11) (.t 10)))]) (.seq (.cond (.t 12) .skip (.exit 0)) L71s4))
noncomputable def L71s5 : LCode := (.seq (.reg [(o 25 (.move (.t 3))), (o 2 (.move (.t 25)))]) .ret)
noncomputable def L71s6 : LCode := (.seq (.seq (.reg [(o 9 (.move (.t 0))), (o 10 (.len .slice (.t 9))), (o 11 (.move (.c (.int .i64 0))))]) (.block 0 (.loop L71w0))) L71s5)
noncomputable def L71s7 : LCode := (.seq (.reg [(o 8 (.call (.c (.func 95 [] [])) [])), (o 4 (.alloc [(.int .i64 0), (.int .i64 0), (.int .i64 0)])), (o 3 (.move (.c (.int .i64 0)))), (on (.store 3 (.t 4) (.t 8)))]) L71s6)
noncomputable def L71 : LFunc := ⟨26, (.seq (.reg [(o 2 (.move (.c (.int .i64 0))))]) L71s7), [(.t 2)], .false, .none⟩
theorem lp71 : LP 71 = some L71 := by kernel_rfl
noncomputable def L79r0 : List LOper := [(og 10 (.load .false 1 (.t 9)) 7 .true), (og 11 (.bin .leq (.t 8) (.t 10)) 7 .true), (o 12 (.pick (.t 7) (.t 11) (.c (.bool .false)))), (o 4 (.move (.t 12)))]
noncomputable def L79s0 : LCode := (.seq (.reg ((o 5 (.move (.t 1))) :: (o 6 (.bin .leq (.c (.int .i64 0)) (.t 5))) :: (o 7 (.move (.t 6))) :: (og 8 (.move (.t 1)) 7 .true) :: (og 9 (.fieldAddr 3 (.t 2)) 7 .true) :: L79r0)) .ret)
noncomputable def L79 : LFunc := ⟨13, (.seq (.reg [(o 2 (.box (.t 0))), (o 4 (.move (.c (.bool .false))))]) L79s0), [(.t 4)], .false, .none⟩
theorem lp79 : LP 79 = some L79 := by kernel_rfl
noncomputable def L83s0 : LCode := (.seq (.reg [(o 1 (.build [.nilFunc] [(0, (1, (.c (.func 105 [] []))))])), (on (.store 1 (.t 0) (.t 1)))]) .ret)
noncomputable def L83 : LFunc := ⟨2, (.seq (.reg [(o 0 (.alloc [.nilFunc]))]) L83s0), [(.cell 0 .true 1)], .false, .none⟩
theorem lp83 : LP 83 = some L83 := by kernel_rfl
noncomputable def L87s0 : LCode := (.cond (.t 16) (.seq (.reg [(o 4 (.move (.c (.bool .false))))]) .ret) .skip)
noncomputable def L87s1 : LCode := (.seq (.reg [(o 13 (.move (.t 1))), (o 14 (.move (.t 6))), (o 15 (.call (.t 13) [(.t 14)])), (o 16 (.un .not (.t 15)))]) L87s0)
noncomputable def L87s2 : LCode := (.reg [(o 17 (.bin .add (.t 9) (.c (.int .i64 1)))), (o 9 (.move (.t 17)))])
noncomputable def L87s3 : LCode := (.seq (.block 1 (.seq (.reg [(o 11 (.indexAddrS 1 (.t 7) (.t 9))), (o 12 (.load .false 1 (.t 11))), (o 6 (.move (.t 12)))]) L87s1)) L87s2)
noncomputable def L87w0 : LCode := (.seq (.reg [(o 10 (.bin .lss (.t 9) (.t 8)))]) (.seq (.cond (.t 10) .skip (.exit 0)) L87s3))
noncomputable def L87s4 : LCode := (.seq (.seq (.reg [(o 7 (.move (.t 0))), (o 8 (.len .slice (.t 7))), (o 9 (.move (.c (.int .i64 0))))]) (.block 0 (.loop L87w0))) (.seq (.reg [(o 4 (.move (.c (.bool .true))))]) .ret))
noncomputable def L87 : LFunc := ⟨18, (.seq (.reg [(o 4 (.move (.c (.bool .false))))]) L87s4), [(.t 4)], .false, .none⟩
theorem lp87 : LP 87 = some L87 := by kernel_rfl
noncomputable def L91s0 : LCode := (.seq (.reg [(o 22 (.load .true 7 (.t 2))), (o 23 (.move (.t 7))), (o 24 (.move (.t 5))), (o 25 (.build [(.int .i64 0), (.int .i64 0)] [(0, (1, (.t 23))), (1, (1, (.t 24)))])), (o 26 (.call (.c (.func 73 [] [])) [(.t 22), (.t 25)]))]) (.cond (.t 26) (.exit 1) .skip))
noncomputable def L91s1 : LCode := (.block 3 (.seq (.reg [(o 20 (.move (.t 5))), (o 21 (.bin .add (.t 20) (.c (.int .i64 1)))), (o 5 (.move (.t 21)))]) L91s0))
noncomputable def L91w0 : LCode := (.seq (.seq (.reg [(o 14 (.move (.t 5))), (o 15 (.fieldAddr 0 (.t 2))), (o 16 (.fieldAddr 0 (.t 15))), (o 17 (.fieldAddr 3 (.t 16))), (o 18 (.load .false 1 (.t 17))), (o 19 (.bin .lss (.t 14) (.t 18)))]) (.cond (.t 19) .skip (.exit 2))) L91s1)
noncomputable def L91s2 : LCode := (.seq (.block 2 (.loop L91w0)) (.seq (.reg [(o 4 (.move (.c (.bool .false))))]) .ret))
noncomputable def L91s3 : LCode := (.reg [(o 27 (.bin .add (.t 10) (.c (.int .i64 1)))), (o 10 (.move (.t 27)))])
noncomputable def L91s4 : LCode := (.seq (.block 1 (.seq (.reg [(o 12 (.indexAddrS 1 (.t 8) (.t 10))), (o 13 (.load .false 1 (.t 12))), (o 7 (.move (.t 13)))]) L91s2)) L91s3)
noncomputable def L91w1 : LCode := (.seq (.reg [(o 11 (.bin .lss (.t 10) (.t 9)))]) (.seq (.cond (.t 11) .skip (.exit 0)) L91s4))
noncomputable def L91s5 : LCode := (.seq (.seq (.reg [(o 8 (.move (.t 1))), (o 9 (.len .slice (.t 8))), (o 10 (.move (.c (.int .i64 0))))]) (.block 0 (.loop L91w1))) (.seq (.reg [(o 4 (.move (.c (.bool .true))))]) .ret))
noncomputable def L91s6 : LCode := (.scope (.seq (.reg [(o 5 (.move (.c (.int .i64 (-1)))))]) (.seq .skip L91s5)))
noncomputable def L91 : LFunc := ⟨28, (.seq (.reg [(o 2 (.box (.t 0))), (o 4 (.move (.c (.bool .false))))]) L91s6), [(.t 4)], .false, .none⟩
theorem lp91 : LP 91 = some L91 := by kernel_rfl
noncomputable def L95s0 : LCode := (.seq (.reg [(o 1 (.build [(.int .i64 0), (.int .i64 0), (.int .i64 0)] [(0, (1, (.c (.int .i64 (-1))))), (1, (1, (.c (.int .i64 (-1)))))])), (on (.store 3 (.t 0) (.t 1)))]) .ret)
noncomputable def L95 : LFunc := ⟨2, (.seq (.reg [(o 0 (.alloc [(.int .i64 0), (.int .i64 0), (.int .i64 0)]))]) L95s0), [(.cell 0 .true 3)], .false, .none⟩
theorem lp95 : LP 95 = some L95 := by kernel_rfl
end Go.Hx

