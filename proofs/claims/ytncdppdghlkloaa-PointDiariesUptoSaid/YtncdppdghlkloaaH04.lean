/- The functions of the program, as the plain machine runs them. -/
import Derived.Test.YtncdppdghlkloaaH00
import Derived.Test.YtncdppdghlkloaaProg
import Derived.ProofKit
set_option linter.all false
/- The functions of the program, as the plain machine runs them. -/
namespace Go.Hx
set_option maxRecDepth 100000
abbrev o (d : Nat) (p : LOp) : LOper := ⟨some d, p, none, []⟩
abbrev oa (d : Nat) (p : LOp) (a : List Nat) : LOper := ⟨some d, p, none, a⟩
abbrev og (d : Nat) (p : LOp) (t : Nat) (b : Bool) : LOper := ⟨some d, p, some (t, b), []⟩
abbrev oga (d : Nat) (p : LOp) (t : Nat) (b : Bool) (a : List Nat) : LOper := ⟨some d, p, some (t, b), a⟩
abbrev on (p : LOp) : LOper := ⟨none, p, none, []⟩
abbrev ona (p : LOp) (a : List Nat) : LOper := ⟨none, p, none, a⟩
noncomputable abbrev LP : Nat → Option LFunc := lowP Go.Proofs.Try.prog [25, 31, 37, 38, 39, 41, 43, 45, 46, 68, 69, 90, 95, 96, 102]
noncomputable def L4s0 : LCode := (.cond (.t 15) (.seq (.reg [(o 16 (.call (.c (.func 22 [] [])) [])), (o 4 (.move (.t 16)))]) .ret) .skip)
noncomputable def L4r0 : List LOper := [(oa 17 (.move (.t 22)) [4, 3, 1]), (oa 23 (.extract (.t 17) 0) [4, 3, 1]), (oa 24 (.extract (.t 17) 1) [4, 3, 1]), (o 5 (.alloc [(.int .i64 0), (.int .i64 0)])), (ona (.store 2 (.t 5) (.t 23)) [8, 4, 3, 1]), (oa 6 (.move (.t 24)) [8, 4, 3, 1])]
noncomputable def L4s1 : LCode := (.cond (.t 34) (.reg [(o 7 (.move (.c (.int .i64 1))))]) .skip)
noncomputable def L4r1 : List LOper := [(o 42 (.extract (.t 37) 1)), (on (.store 2 (.t 8) (.t 41))), (o 9 (.move (.t 42)))]
noncomputable def L4s2 : LCode := (.cond (.t 44) (.reg [(o 45 (.build [(.int .i64 0), (.int .i64 0)] [])), (o 7 (.move (.c (.int .i64 10)))), (on (.store 2 (.t 8) (.t 45)))]) .skip)
noncomputable def L4s3 : LCode := (.seq (.reg [(o 43 (.move (.t 9))), (o 44 (.un .not (.t 43)))]) L4s2)
noncomputable def L4s4 : LCode := (.seq (.reg ((o 38 (.move (.t 0))) :: (o 39 (.load .true 2 (.t 3))) :: (o 40 (.call (.c (.func 26 [] [])) [(.t 38), (.t 39)])) :: (o 37 (.move (.t 40))) :: (o 41 (.extract (.t 37) 0)) :: L4r1)) L4s3)
noncomputable def L4s5 : LCode := (.cond (.t 36) (.seq (.reg [(o 9 (.move (.c (.bool .false))))]) L4s4) .skip)
noncomputable def L4r2 : List LOper := [(og 51 (.load .true 2 (.t 8)) 49 .false), (og 52 (.call (.c (.func 19 [] [])) [(.t 51)]) 49 .false), (oga 53 (.eq (.row [(.i .i64), (.i .i64)]) .true (.t 50) (.t 52)) 49 .false [6]), (oa 54 (.pick (.t 49) (.c (.bool .true)) (.t 53)) [6])]
noncomputable def L4s6 : LCode := (.cond (.t 54) (.seq (.reg [(o 4 (.move (.c (.bool .false))))]) .ret) .skip)
noncomputable def L4s7 : LCode := (.cond (.t 57) (.seq (.reg [(o 58 (.call (.c (.func 22 [] [])) [])), (o 4 (.move (.t 58)))]) .ret) .skip)
noncomputable def L4r3 : List LOper := [(oa 70 (.call (.c (.func 27 [] [])) [(.t 63), (.t 67), (.t 69)]) [9, 7, 3]), (oa 59 (.move (.t 70)) [10, 9, 7, 3]), (oa 71 (.extract (.t 59) 0) [10, 9, 7, 3]), (oa 72 (.extract (.t 59) 1) [10, 9, 7, 3]), (o 10 (.alloc [(.int .i64 0), (.int .i64 0)])), (ona (.store 2 (.t 10) (.t 71)) [14, 10, 9, 7, 3]), (oa 11 (.move (.t 72)) [14, 10, 9, 7, 3])]
noncomputable def L4r4 : List LOper := ((o 65 (.indexAddrS 2 (.t 64) (.c (.int .i64 1)))) :: (o 66 (.load .true 2 (.t 65))) :: (oa 67 (.call (.c (.func 17 [] [])) [(.t 66)]) [3]) :: (o 68 (.load .true 2 (.t 3))) :: (oa 69 (.call (.c (.func 19 [] [])) [(.t 68)]) [7, 3]) :: L4r3)
noncomputable def L4r5 : List LOper := [(og 84 (.build [(.int .i64 0), (.int .i64 0)] []) 82 .true), (og 85 (.eq (.row [(.i .i64), (.i .i64)]) .false (.t 83) (.t 84)) 82 .true), (o 86 (.pick (.t 82) (.t 85) (.c (.bool .false)))), (o 87 (.move (.t 86))), (og 88 (.call (.c (.func 22 [] [])) []) 87 .true), (o 89 (.pick (.t 87) (.t 88) (.c (.bool .false)))), (o 4 (.move (.t 89)))]
noncomputable def L4s8 : LCode := (.cond (.t 78) (.seq (.reg ((o 79 (.move (.t 11))) :: (o 80 (.move (.t 7))) :: (o 81 (.eq (.cell (.i .i64)) .false (.t 79) (.t 80))) :: (o 82 (.move (.t 81))) :: (og 83 (.load .true 2 (.t 10)) 82 .true) :: L4r5)) .ret) .skip)
noncomputable def L4s9 : LCode := (.seq (.reg [(o 77 (.move (.t 7))), (o 78 (.eq (.cell (.i .i64)) .true (.t 77) (.c (.int .i64 0))))]) L4s8)
noncomputable def L4r6 : List LOper := [(o 95 (.load .true 2 (.t 94))), (o 96 (.load .true 2 (.t 3))), (o 97 (.call (.c (.func 28 [] [])) [(.t 92), (.t 95), (.t 96)])), (o 12 (.alloc [(.int .i64 0), (.int .i64 0)])), (ona (.store 2 (.t 12) (.t 97)) [8, 7])]
noncomputable def L4r7 : List LOper := [(og 105 (.call (.c (.func 19 [] [])) [(.t 104)]) 102 .true), (oga 106 (.eq (.row [(.i .i64), (.i .i64)]) .false (.t 103) (.t 105)) 102 .true [5]), (oa 107 (.pick (.t 102) (.t 106) (.c (.bool .false))) [5]), (oa 108 (.move (.t 107)) [5]), (oga 109 (.call (.c (.func 22 [] [])) []) 108 .true [5]), (oa 110 (.pick (.t 108) (.t 109) (.c (.bool .false))) [9, 5]), (oa 4 (.move (.t 110)) [9, 5])]
noncomputable def L4s10 : LCode := (.cond (.t 99) (.seq (.draw 6 ((o 100 (.move (.t 11))) :: (o 101 (.eq (.cell (.i .i64)) .false (.t 100) (.c (.int .i64 0)))) :: (o 102 (.move (.t 101))) :: (og 103 (.load .true 2 (.t 10)) 102 .true) :: (og 104 (.load .true 2 (.t 12)) 102 .true) :: L4r7)) .ret) .skip)
noncomputable def L4s11 : LCode := (.seq (.reg [(o 98 (.load .true 2 (.t 12))), (o 99 (.call (.c (.func 29 [] [])) [(.t 98)]))]) L4s10)
noncomputable def L4r8 : List LOper := [(og 116 (.eq (.row [(.i .i64), (.i .i64)]) .false (.t 114) (.t 115)) 113 .true), (o 117 (.pick (.t 113) (.t 116) (.c (.bool .false)))), (o 118 (.move (.t 117))), (og 119 (.call (.c (.func 22 [] [])) []) 118 .true), (o 120 (.pick (.t 118) (.t 119) (.c (.bool .false)))), (o 4 (.move (.t 120)))]
noncomputable def L4s12 : LCode := (.seq (.reg ((o 111 (.move (.t 11))) :: (o 112 (.eq (.cell (.i .i64)) .false (.t 111) (.c (.int .i64 10)))) :: (o 113 (.move (.t 112))) :: (og 114 (.load .true 2 (.t 10)) 113 .true) :: (og 115 (.build [(.int .i64 0), (.int .i64 0)] []) 113 .true) :: L4r8)) .ret)
noncomputable def L4s13 : LCode := (.seq (.seq (.draw 9 ((o 90 (.move (.t 0))) :: (o 91 (.indexAddrS 2 (.t 90) (.c (.int .i64 0)))) :: (o 92 (.load .true 2 (.t 91))) :: (o 93 (.move (.t 0))) :: (o 94 (.indexAddrS 2 (.t 93) (.c (.int .i64 1)))) :: L4r6)) L4s11) L4s12)
noncomputable def L4s14 : LCode := (.seq (.seq (.draw 3 [(o 73 (.move (.t 0))), (o 74 (.sliceS 2 (.t 73) .none (.some (.c (.int .i64 2))))), (o 75 (.load .true 2 (.t 3))), (o 76 (.call (.c (.func 21 [] [])) [(.t 74), (.t 75)])), (oa 7 (.move (.t 76)) [3])]) L4s9) L4s13)
noncomputable def L4s15 : LCode := (.seq (.draw 15 ((o 60 (.move (.t 0))) :: (o 61 (.indexAddrS 2 (.t 60) (.c (.int .i64 0)))) :: (o 62 (.load .true 2 (.t 61))) :: (o 63 (.call (.c (.func 17 [] [])) [(.t 62)])) :: (o 64 (.move (.t 0))) :: L4r4)) L4s14)
noncomputable def L4s16 : LCode := (.seq (.seq (.reg [(o 55 (.move (.t 0))), (o 56 (.len .slice (.t 55))), (o 57 (.bin .lss (.t 56) (.c (.int .i64 2))))]) L4s7) L4s15)
noncomputable def L4s17 : LCode := (.seq (.seq (.draw 7 ((o 46 (.move (.t 6))) :: (o 47 (.move (.t 7))) :: (o 48 (.eq (.cell (.i .i64)) .true (.t 46) (.t 47))) :: (o 49 (.move (.t 48))) :: (og 50 (.load .true 2 (.t 5)) 49 .false) :: L4r2)) L4s6) L4s16)
noncomputable def L4s18 : LCode := (.seq (.seq (.reg [(o 35 (.move (.t 7))), (o 36 (.eq (.cell (.i .i64)) .false (.t 35) (.c (.int .i64 0))))]) L4s5) L4s17)
noncomputable def L4s19 : LCode := (.seq (.reg [(o 8 (.alloc [(.int .i64 0), (.int .i64 0)]))]) L4s18)
noncomputable def L4s20 : LCode := (.seq (.seq (.reg [(o 28 (.move (.t 7))), (o 29 (.eq (.cell (.i .i64)) .true (.t 28) (.c (.int .i64 3)))), (o 30 (.move (.t 29))), (og 31 (.move (.t 0)) 30 .true), (og 32 (.len .slice (.t 31)) 30 .true), (og 33 (.eq (.cell (.i .i64)) .false (.t 32) (.c (.int .i64 0))) 30 .true), (o 34 (.pick (.t 30) (.t 33) (.c (.bool .false))))]) L4s1) L4s19)
noncomputable def L4s21 : LCode := (.seq (.reg [(o 25 (.move (.t 0))), (o 26 (.load .true 2 (.t 3))), (o 27 (.call (.c (.func 21 [] [])) [(.t 25), (.t 26)])), (o 7 (.move (.t 27)))]) L4s20)
noncomputable def L4s22 : LCode := (.seq (.draw 9 ((o 18 (.move (.t 0))) :: (o 19 (.call (.c (.func 25 [] [])) [(.t 18)])) :: (o 20 (.load .true 2 (.t 3))) :: (oa 21 (.call (.c (.func 19 [] [])) [(.t 20)]) [1]) :: (oa 22 (.call (.c (.func 24 [] [])) [(.t 19), (.t 21)]) [3, 1]) :: L4r0)) L4s21)
noncomputable def L4s23 : LCode := (.seq (.seq (.reg [(o 13 (.move (.t 0))), (o 14 (.len .slice (.t 13))), (o 15 (.bin .gtr (.t 14) (.c (.int .i64 11))))]) L4s0) L4s22)
noncomputable def L4 : LFunc := ⟨121, (.seq (.reg [(o 3 (.box (.t 1))), (o 4 (.move (.c (.bool .false))))]) L4s23), [(.t 4)], .false, .none⟩
noncomputable def L20r0 : List LOper := [(og 13 (.load .false 1 (.t 12)) 11 .true), (og 14 (.fieldAddr 1 (.t 1)) 11 .true), (og 15 (.load .false 1 (.t 14)) 11 .true), (og 16 (.eq (.cell (.i .i64)) .true (.t 13) (.t 15)) 11 .true), (o 17 (.pick (.t 11) (.t 16) (.c (.bool .false)))), (o 2 (.move (.t 17)))]
noncomputable def L20r1 : List LOper := ((og 8 (.load .false 1 (.t 7)) 6 .true) :: (og 9 (.call (.c (.func 55 [] [])) [(.t 8), (.c (.int .i64 (-1000))), (.c (.int .i64 1000))]) 6 .true) :: (o 10 (.pick (.t 6) (.t 9) (.c (.bool .false)))) :: (o 11 (.move (.t 10))) :: (og 12 (.fieldAddr 0 (.t 1)) 11 .true) :: L20r0)
noncomputable def L20s0 : LCode := (.seq (.reg ((o 3 (.fieldAddr 0 (.t 1))) :: (o 4 (.load .false 1 (.t 3))) :: (o 5 (.call (.c (.func 55 [] [])) [(.t 4), (.c (.int .i64 (-1000))), (.c (.int .i64 1000))])) :: (o 6 (.move (.t 5))) :: (og 7 (.fieldAddr 1 (.t 1)) 6 .true) :: L20r1)) .ret)
noncomputable def L20 : LFunc := ⟨18, (.seq (.reg [(o 1 (.box (.t 0))), (o 2 (.move (.c (.bool .false))))]) L20s0), [(.t 2)], .false, .none⟩
theorem lp20 : LP 20 = some L20 := by kernel_rfl
noncomputable def L40r0 : List LOper := [(og 12 (.len .slice (.t 11)) 10 .false), (og 13 (.bin .gtr (.t 12) (.c (.int .i64 12))) 10 .false), (o 14 (.pick (.t 10) (.c (.bool .true)) (.t 13)))]
noncomputable def L40s0 : LCode := (.cond (.t 14) (.seq (.reg [(o 4 (.move (.c (.int .i64 3))))]) .ret) .skip)
noncomputable def L40s1 : LCode := (.cond (.t 19) (.seq (.reg [(o 20 (.move (.t 5))), (o 4 (.move (.t 20)))]) .ret) .skip)
noncomputable def L40s2 : LCode := (.seq (.reg [(o 18 (.move (.t 5))), (o 19 (.eq (.cell (.i .i64)) .true (.t 18) (.c (.int .i64 0))))]) L40s1)
noncomputable def L40s3 : LCode := (.cond (.t 32) (.seq (.reg [(o 4 (.move (.c (.int .i64 2))))]) .ret) .skip)
noncomputable def L40s4 : LCode := (.reg [(o 25 (.move (.t 6))), (o 26 (.bin .add (.t 25) (.c (.int .i64 1)))), (o 6 (.move (.t 26)))])
noncomputable def L40s5 : LCode := (.seq (.block 1 (.seq (.reg [(o 27 (.move (.t 1))), (o 28 (.move (.t 6))), (o 29 (.indexAddrS 3 (.t 27) (.t 28))), (o 30 (.load .true 3 (.t 29))), (o 31 (.call (.c (.func 70 [] [])) [(.t 30)])), (o 32 (.un .not (.t 31)))]) L40s3)) L40s4)
noncomputable def L40w0 : LCode := (.seq (.seq (.reg [(o 21 (.move (.t 6))), (o 22 (.move (.t 1))), (o 23 (.len .slice (.t 22))), (o 24 (.bin .lss (.t 21) (.t 23)))]) (.cond (.t 24) .skip (.exit 0))) L40s5)
noncomputable def L40s6 : LCode := (.seq (.seq (.reg [(o 6 (.move (.c (.int .i64 0))))]) (.block 0 (.loop L40w0))) (.seq (.reg [(o 4 (.move (.c (.int .i64 0))))]) .ret))
noncomputable def L40s7 : LCode := (.seq (.seq (.reg [(o 15 (.move (.t 0))), (o 16 (.build [(.int .i64 0), (.int .i64 0)] [])), (o 17 (.call (.c (.func 21 [] [])) [(.t 15), (.t 16)])), (o 5 (.move (.t 17)))]) L40s2) L40s6)
noncomputable def L40s8 : LCode := (.seq (.seq (.reg ((o 7 (.move (.t 0))) :: (o 8 (.len .slice (.t 7))) :: (o 9 (.bin .gtr (.t 8) (.c (.int .i64 8)))) :: (o 10 (.move (.t 9))) :: (og 11 (.move (.t 1)) 10 .false) :: L40r0)) L40s0) L40s7)
noncomputable def L40 : LFunc := ⟨33, (.seq (.reg [(o 4 (.move (.c (.int .i64 0))))]) L40s8), [(.t 4)], .false, .none⟩
theorem lp40 : LP 40 = some L40 := by kernel_rfl
noncomputable def L52r0 : List LOper := [(og 20 (.eq (.cell (.i .i64)) .true (.t 17) (.t 19)) 15 .true), (o 21 (.pick (.t 15) (.t 20) (.c (.bool .false)))), (o 2 (.move (.t 21)))]
noncomputable def L52r1 : List LOper := ((o 15 (.move (.t 14))) :: (og 16 (.fieldAddr 0 (.t 1)) 15 .true) :: (og 17 (.load .false 1 (.t 16)) 15 .true) :: (og 18 (.fieldAddr 1 (.t 1)) 15 .true) :: (og 19 (.load .false 1 (.t 18)) 15 .true) :: L52r0)
noncomputable def L52r2 : List LOper := ((og 10 (.load .true 2 (.t 3)) 9 .true) :: (og 11 (.fieldAddr 1 (.t 1)) 9 .true) :: (og 12 (.load .false 1 (.t 11)) 9 .true) :: (og 13 (.call (.c (.func 73 [] [])) [(.t 10), (.t 12)]) 9 .true) :: (o 14 (.pick (.t 9) (.t 13) (.c (.bool .false)))) :: L52r1)
noncomputable def L52s0 : LCode := (.seq (.reg ((o 5 (.load .true 2 (.t 3))) :: (o 6 (.fieldAddr 0 (.t 1))) :: (o 7 (.load .false 1 (.t 6))) :: (o 8 (.call (.c (.func 73 [] [])) [(.t 5), (.t 7)])) :: (o 9 (.move (.t 8))) :: L52r2)) .ret)
noncomputable def L52s1 : LCode := (.seq (.reg [(o 4 (.call (.c (.func 72 [] [])) [(.c (.int .i64 1000))])), (o 3 (.alloc [(.int .i64 0), (.int .i64 0)])), (on (.store 2 (.t 3) (.t 4)))]) L52s0)
noncomputable def L52 : LFunc := ⟨22, (.seq (.reg [(o 1 (.box (.t 0))), (o 2 (.move (.c (.bool .false))))]) L52s1), [(.t 2)], .false, .none⟩
theorem lp52 : LP 52 = some L52 := by kernel_rfl
noncomputable def L64r0 : List LOper := [(og 20 (.call (.c (.func 73 [] [])) [(.t 17), (.t 19)]) 16 .true), (o 21 (.pick (.t 16) (.t 20) (.c (.bool .false)))), (o 4 (.move (.t 21)))]
noncomputable def L64r1 : List LOper := ((o 15 (.pick (.t 10) (.t 14) (.c (.bool .false)))) :: (o 16 (.move (.t 15))) :: (og 17 (.load .true 2 (.t 3)) 16 .true) :: (og 18 (.fieldAddr 1 (.t 2)) 16 .true) :: (og 19 (.load .false 1 (.t 18)) 16 .true) :: L64r0)
noncomputable def L64r2 : List LOper := ((o 10 (.move (.t 9))) :: (og 11 (.load .true 2 (.t 3)) 10 .true) :: (og 12 (.fieldAddr 0 (.t 2)) 10 .true) :: (og 13 (.load .false 1 (.t 12)) 10 .true) :: (og 14 (.call (.c (.func 73 [] [])) [(.t 11), (.t 13)]) 10 .true) :: L64r1)
noncomputable def L64s0 : LCode := (.seq (.reg ((o 5 (.fieldAddr 0 (.t 2))) :: (o 6 (.load .false 1 (.t 5))) :: (o 7 (.fieldAddr 1 (.t 2))) :: (o 8 (.load .false 1 (.t 7))) :: (o 9 (.bin .leq (.t 6) (.t 8))) :: L64r2)) .ret)
noncomputable def L64 : LFunc := ⟨22, (.seq (.reg [(o 2 (.box (.t 0))), (o 3 (.box (.t 1))), (o 4 (.move (.c (.bool .false))))]) L64s0), [(.t 4)], .false, .none⟩
theorem lp64 : LP 64 = some L64 := by kernel_rfl
noncomputable def L68s0 : LCode := (.seq (.reg [(o 25 (.move (.t 6))), (o 26 (.load .true 2 (.t 8))), (o 27 (.load .true 3 (.t 10))), (o 28 (.call (.c (.func 95 [] [])) [(.t 25), (.t 26), (.t 27)])), (o 29 (.un .not (.t 28)))]) (.cond (.t 29) (.exit 1) .skip))
noncomputable def L68s1 : LCode := (.reg [(o 30 (.bin .add (.t 21) (.c (.int .i64 1)))), (o 21 (.move (.t 30)))])
noncomputable def L68s2 : LCode := (.seq (.block 3 (.seq (.reg [(o 23 (.indexAddrS 3 (.t 19) (.t 21))), (o 24 (.load .true 3 (.t 23))), (o 10 (.alloc [(.int .i64 0), (.int .i64 0), (.int .i64 0)])), (on (.store 3 (.t 10) (.t 24)))]) L68s0)) L68s1)
noncomputable def L68w0 : LCode := (.seq (.reg [(o 22 (.bin .lss (.t 21) (.t 20)))]) (.seq (.cond (.t 22) .skip (.exit 2)) L68s2))
noncomputable def L68s3 : LCode := (.reg [(o 31 (.move (.t 5))), (o 32 (.move (.t 7))), (o 33 (.buildSlice 1 [(.int .i64 0)] [(0, (1, (.t 32)))])), (o 34 (.append 1 8 (.t 31) (.t 33))), (o 5 (.move (.t 34)))])
noncomputable def L68s4 : LCode := (.seq (.seq (.reg [(o 19 (.move (.t 1))), (o 20 (.len .slice (.t 19))), (o 21 (.move (.c (.int .i64 0))))]) (.block 2 (.loop L68w0))) L68s3)
noncomputable def L68s5 : LCode := (.reg [(o 35 (.bin .add (.t 14) (.c (.int .i64 1)))), (o 14 (.move (.t 35)))])
noncomputable def L68s6 : LCode := (.seq (.block 1 (.seq (.reg [(o 16 (.move (.t 14))), (o 17 (.indexAddrS 2 (.t 12) (.t 14))), (o 18 (.load .true 2 (.t 17))), (o 8 (.alloc [(.int .i64 0), (.int .i64 0)])), (o 7 (.move (.t 16))), (on (.store 2 (.t 8) (.t 18)))]) L68s4)) L68s5)
noncomputable def L68w1 : LCode := (.seq (.reg [(o 15 (.bin .lss (.t 14) (.t 13)))]) (.seq (.cond (.t 15) .skip (.exit 0)) L68s6))
noncomputable def L68s7 : LCode := (.seq (.reg [(o 36 (.move (.t 5))), (o 4 (.move (.t 36)))]) .ret)
noncomputable def L68s8 : LCode := (.seq (.seq (.reg [(o 12 (.move (.t 0))), (o 13 (.len .slice (.t 12))), (o 14 (.move (.c (.int .i64 0))))]) (.block 0 (.loop L68w1))) L68s7)
noncomputable def L68s9 : LCode := (.seq (.reg [(o 11 .makeMap), (o 6 (.move (.t 11)))]) (.seq .skip L68s8))
noncomputable def L68s10 : LCode := (.scope (.seq (.reg [(o 5 (.move (.c (.slice .none 0 0))))]) L68s9))
noncomputable def L68 : LFunc := ⟨37, (.seq (.reg [(o 4 (.move (.c (.slice .none 0 0))))]) L68s10), [(.t 4)], .true, .none⟩
theorem lp68 : LP 68 = some L68 := by kernel_rfl
noncomputable def L72s0 : LCode := (.seq (.reg [(o 3 (.move (.t 0))), (o 4 (.un .neg (.t 3))), (o 5 (.move (.t 0))), (o 6 (.build [(.int .i64 0), (.int .i64 0)] [(0, (1, (.t 4))), (1, (1, (.t 5)))])), (on (.store 2 (.t 2) (.t 6)))]) .ret)
noncomputable def L72 : LFunc := ⟨7, (.seq (.reg [(o 2 (.alloc [(.int .i64 0), (.int .i64 0)]))]) L72s0), [(.cell 2 .true 2)], .false, .none⟩
theorem lp72 : LP 72 = some L72 := by kernel_rfl
noncomputable def L76s0 : LCode := (.cond (.t 7) (.seq (.reg [(o 8 (.load .true 2 (.t 1))), (o 9 (.build [(.int .i64 0), (.int .i64 0), (.bool .false)] [(0, (2, (.t 8)))])), (on (.store 3 (.t 2) (.t 9)))]) .ret) .skip)
noncomputable def L76r0 : List LOper := [(o 15 (.un .neg (.t 14))), (o 16 (.build [(.int .i64 0), (.int .i64 0)] [(0, (1, (.t 12))), (1, (1, (.t 15)))])), (o 17 (.build [(.int .i64 0), (.int .i64 0), (.bool .false)] [(0, (2, (.t 16))), (2, (1, (.c (.bool .true))))])), (on (.store 3 (.t 2) (.t 17)))]
noncomputable def L76s1 : LCode := (.seq (.reg ((o 10 (.fieldAddr 0 (.t 1))) :: (o 11 (.load .false 1 (.t 10))) :: (o 12 (.un .neg (.t 11))) :: (o 13 (.fieldAddr 1 (.t 1))) :: (o 14 (.load .false 1 (.t 13))) :: L76r0)) .ret)
noncomputable def L76s2 : LCode := (.seq (.seq (.reg [(o 3 (.fieldAddr 0 (.t 1))), (o 4 (.load .false 1 (.t 3))), (o 5 (.fieldAddr 1 (.t 1))), (o 6 (.load .false 1 (.t 5))), (o 7 (.bin .lss (.t 4) (.t 6)))]) L76s0) L76s1)
noncomputable def L76 : LFunc := ⟨18, (.seq (.reg [(o 1 (.box (.t 0))), (o 2 (.alloc [(.int .i64 0), (.int .i64 0), (.bool .false)]))]) L76s2), [(.cell 2 .true 3)], .false, .none⟩
theorem lp76 : LP 76 = some L76 := by kernel_rfl
noncomputable def L92s0 : LCode := (.cond (.t 16) (.seq (.reg [(o 4 (.move (.c (.bool .false))))]) .ret) .skip)
noncomputable def L92s1 : LCode := (.seq (.reg [(o 13 (.move (.t 1))), (o 14 (.load .true 3 (.t 6))), (o 15 (.call (.t 13) [(.t 14)])), (o 16 (.un .not (.t 15)))]) L92s0)
noncomputable def L92s2 : LCode := (.reg [(o 17 (.bin .add (.t 9) (.c (.int .i64 1)))), (o 9 (.move (.t 17)))])
noncomputable def L92s3 : LCode := (.seq (.block 1 (.seq (.reg [(o 11 (.indexAddrS 3 (.t 7) (.t 9))), (o 12 (.load .true 3 (.t 11))), (o 6 (.alloc [(.int .i64 0), (.int .i64 0), (.int .i64 0)])), (on (.store 3 (.t 6) (.t 12)))]) L92s1)) L92s2)
noncomputable def L92w0 : LCode := (.seq (.reg [(o 10 (.bin .lss (.t 9) (.t 8)))]) (.seq (.cond (.t 10) .skip (.exit 0)) L92s3))
noncomputable def L92s4 : LCode := (.seq (.seq (.reg [(o 7 (.move (.t 0))), (o 8 (.len .slice (.t 7))), (o 9 (.move (.c (.int .i64 0))))]) (.block 0 (.loop L92w0))) (.seq (.reg [(o 4 (.move (.c (.bool .true))))]) .ret))
noncomputable def L92 : LFunc := ⟨18, (.seq (.reg [(o 4 (.move (.c (.bool .false))))]) L92s4), [(.t 4)], .false, .none⟩
theorem lp92 : LP 92 = some L92 := by kernel_rfl
noncomputable def L96s0 : LCode := (.cond (.t 21) (.reg [(o 22 (.move (.t 7))), (o 23 (.move (.t 8))), (o 24 (.buildSlice 1 [(.int .i64 0)] [(0, (1, (.t 23)))])), (o 25 (.append 1 8 (.t 22) (.t 24))), (o 7 (.move (.t 25)))]) .skip)
noncomputable def L96s1 : LCode := (.seq (.reg [(o 17 (.move (.t 0))), (o 18 (.load .true 2 (.t 4))), (o 19 (.load .true 3 (.t 9))), (o 20 (.call (.c (.func 95 [] [])) [(.t 17), (.t 18), (.t 19)])), (o 21 (.un .not (.t 20)))]) L96s0)
noncomputable def L96s2 : LCode := (.reg [(o 26 (.bin .add (.t 12) (.c (.int .i64 1)))), (o 12 (.move (.t 26)))])
noncomputable def L96s3 : LCode := (.seq (.block 1 (.seq (.reg [(o 14 (.move (.t 12))), (o 15 (.indexAddrS 3 (.t 10) (.t 12))), (o 16 (.load .true 3 (.t 15))), (o 9 (.alloc [(.int .i64 0), (.int .i64 0), (.int .i64 0)])), (o 8 (.move (.t 14))), (on (.store 3 (.t 9) (.t 16)))]) L96s1)) L96s2)
noncomputable def L96w0 : LCode := (.seq (.reg [(o 13 (.bin .lss (.t 12) (.t 11)))]) (.seq (.cond (.t 13) .skip (.exit 0)) L96s3))
noncomputable def L96s4 : LCode := (.seq (.reg [(o 27 (.move (.t 7))), (o 6 (.move (.t 27)))]) .ret)
noncomputable def L96s5 : LCode := (.seq (.seq (.reg [(o 10 (.move (.t 2))), (o 11 (.len .slice (.t 10))), (o 12 (.move (.c (.int .i64 0))))]) (.block 0 (.loop L96w0))) L96s4)
noncomputable def L96 : LFunc := ⟨28, (.seq (.reg [(o 4 (.box (.t 1))), (o 6 (.move (.c (.slice .none 0 0))))]) (.seq (.reg [(o 7 (.move (.c (.slice .none 0 0))))]) L96s5)), [(.t 6)], .true, .none⟩
theorem lp96 : LP 96 = some L96 := by kernel_rfl
noncomputable def L100r0 : List LOper := [(o 8 (.load .false 1 (.t 7))), (o 9 (.bin .sub (.t 5) (.t 8))), (o 2 (.move (.t 9)))]
noncomputable def L100s0 : LCode := (.seq (.reg ((o 3 (.fieldAddr 0 (.t 1))) :: (o 4 (.fieldAddr 1 (.t 3))) :: (o 5 (.load .false 1 (.t 4))) :: (o 6 (.fieldAddr 0 (.t 1))) :: (o 7 (.fieldAddr 0 (.t 6))) :: L100r0)) .ret)
noncomputable def L100 : LFunc := ⟨10, (.seq (.reg [(o 1 (.box (.t 0))), (o 2 (.move (.c (.int .i64 0))))]) L100s0), [(.t 2)], .false, .none⟩
theorem lp100 : LP 100 = some L100 := by kernel_rfl
noncomputable def L17s0 : LCode := (.seq (.reg [(o 3 (.fieldAddr 0 (.t 1))), (o 4 (.load .false 1 (.t 3))), (o 5 (.fieldAddr 1 (.t 1))), (o 6 (.load .false 1 (.t 5))), (o 7 (.build [(.int .i64 0), (.int .i64 0)] [(0, (1, (.t 4))), (1, (1, (.t 6)))])), (on (.store 2 (.t 2) (.t 7)))]) .ret)
noncomputable def L17 : LFunc := ⟨8, (.seq (.reg [(o 1 (.box (.t 0))), (o 2 (.alloc [(.int .i64 0), (.int .i64 0)]))]) L17s0), [(.cell 2 .true 2)], .false, .none⟩
theorem lp17 : LP 17 = some L17 := by kernel_rfl
noncomputable def L21s0 : LCode := (.cond (.t 8) (.seq (.reg [(o 4 (.move (.c (.int .i64 3))))]) .ret) .skip)
noncomputable def L21s1 : LCode := (.cond (.t 20) (.seq (.reg [(o 4 (.move (.c (.int .i64 1))))]) .ret) .skip)
noncomputable def L21s2 : LCode := (.reg [(o 13 (.move (.t 5))), (o 14 (.bin .add (.t 13) (.c (.int .i64 1)))), (o 5 (.move (.t 14)))])
noncomputable def L21s3 : LCode := (.seq (.block 1 (.seq (.reg [(o 15 (.move (.t 0))), (o 16 (.move (.t 5))), (o 17 (.indexAddrS 2 (.t 15) (.t 16))), (o 18 (.load .true 2 (.t 17))), (o 19 (.call (.c (.func 20 [] [])) [(.t 18)])), (o 20 (.un .not (.t 19)))]) L21s1)) L21s2)
noncomputable def L21w0 : LCode := (.seq (.seq (.reg [(o 9 (.move (.t 5))), (o 10 (.move (.t 0))), (o 11 (.len .slice (.t 10))), (o 12 (.bin .lss (.t 9) (.t 11)))]) (.cond (.t 12) .skip (.exit 0))) L21s3)
noncomputable def L21s4 : LCode := (.cond (.t 23) (.seq (.reg [(o 4 (.move (.c (.int .i64 2))))]) .ret) .skip)
noncomputable def L21s5 : LCode := (.seq (.seq (.reg [(o 21 (.load .true 2 (.t 3))), (o 22 (.call (.c (.func 29 [] [])) [(.t 21)])), (o 23 (.un .not (.t 22)))]) L21s4) (.seq (.reg [(o 4 (.move (.c (.int .i64 0))))]) .ret))
noncomputable def L21s6 : LCode := (.seq (.seq (.reg [(o 5 (.move (.c (.int .i64 0))))]) (.block 0 (.loop L21w0))) L21s5)
noncomputable def L21s7 : LCode := (.seq (.seq (.reg [(o 6 (.move (.t 0))), (o 7 (.len .slice (.t 6))), (o 8 (.bin .gtr (.t 7) (.c (.int .i64 8))))]) L21s0) L21s6)
noncomputable def L21 : LFunc := ⟨24, (.seq (.reg [(o 3 (.box (.t 1))), (o 4 (.move (.c (.int .i64 0))))]) L21s7), [(.t 4)], .false, .none⟩
theorem lp21 : LP 21 = some L21 := by kernel_rfl
noncomputable def L25r0 : List LOper := [(o 16 (.call (.c (.func 17 [] [])) [(.t 15)])), (o 17 (.buildSlice 1 [(.int .i64 0), (.int .i64 0)] [(0, (2, (.t 16)))])), (o 18 (.append 2 16 (.t 11) (.t 17))), (o 3 (.move (.t 18)))]
noncomputable def L25s0 : LCode := (.reg [(o 9 (.move (.t 4))), (o 10 (.bin .add (.t 9) (.c (.int .i64 1)))), (o 4 (.move (.t 10)))])
noncomputable def L25s1 : LCode := (.seq (.block 1 (.reg ((o 11 (.move (.t 3))) :: (o 12 (.move (.t 0))) :: (o 13 (.move (.t 4))) :: (o 14 (.indexAddrS 2 (.t 12) (.t 13))) :: (o 15 (.load .true 2 (.t 14))) :: L25r0))) L25s0)
noncomputable def L25w0 : LCode := (.seq (.seq (.reg [(o 5 (.move (.t 4))), (o 6 (.move (.t 0))), (o 7 (.len .slice (.t 6))), (o 8 (.bin .lss (.t 5) (.t 7)))]) (.cond (.t 8) .skip (.exit 0))) L25s1)
noncomputable def L25s2 : LCode := (.seq (.reg [(o 19 (.move (.t 3))), (o 2 (.move (.t 19)))]) .ret)
noncomputable def L25s3 : LCode := (.seq (.seq (.reg [(o 4 (.move (.c (.int .i64 0))))]) (.block 0 (.loop L25w0))) L25s2)
noncomputable def L25 : LFunc := ⟨20, (.seq (.reg [(o 2 (.move (.c (.slice .none 0 0))))]) (.seq (.reg [(o 3 (.move (.c (.slice .none 0 0))))]) L25s3)), [(.t 2)], .true, .none⟩
theorem lp25 : LP 25 = some L25 := by kernel_rfl
noncomputable def L29s0 : LCode := (.seq (.reg [(o 3 (.load .true 2 (.t 1))), (o 4 (.call (.c (.func 34 [] [])) [(.t 3), (.c (.int .i64 (-1000000))), (.c (.int .i64 1000000))])), (o 2 (.move (.t 4)))]) .ret)
noncomputable def L29 : LFunc := ⟨5, (.seq (.reg [(o 1 (.box (.t 0))), (o 2 (.move (.c (.bool .false))))]) L29s0), [(.t 2)], .false, .none⟩
theorem lp29 : LP 29 = some L29 := by kernel_rfl
noncomputable def L37s0 : LCode := (.cond (.t 11) (.seq (.reg [(o 12 (.move (.t 6))), (o 4 (.move (.c (.slice .none 0 0)))), (o 5 (.move (.t 12)))]) .ret) .skip)
noncomputable def L37s1 : LCode := (.seq (.reg [(o 10 (.move (.t 6))), (o 11 (.eq (.cell (.i .i64)) .true (.t 10) (.c (.int .i64 0))))]) L37s0)
noncomputable def L37s2 : LCode := (.seq (.reg [(o 13 (.move (.t 0))), (o 14 (.move (.t 1))), (o 15 (.call (.c (.func 68 [] [])) [(.t 13), (.t 14)])), (o 4 (.move (.t 15))), (o 5 (.move (.c (.int .i64 0))))]) .ret)
noncomputable def L37s3 : LCode := (.seq (.seq (.reg [(o 7 (.move (.t 0))), (o 8 (.move (.t 1))), (o 9 (.call (.c (.func 67 [] [])) [(.t 7), (.t 8)])), (o 6 (.move (.t 9)))]) L37s1) L37s2)
noncomputable def L37 : LFunc := ⟨16, (.seq (.reg [(o 4 (.move (.c (.slice .none 0 0)))), (o 5 (.move (.c (.int .i64 0))))]) L37s3), [(.t 4), (.t 5)], .true, .none⟩
theorem lp37 : LP 37 = some L37 := by kernel_rfl
noncomputable def L69r0 : List LOper := [(o 24 (.len .slice (.t 23))), (o 25 (.indexAddrA 8 1 (.t 6) (.t 19))), (on (.store 1 (.t 25) (.t 24)))]
noncomputable def L69s0 : LCode := (.reg ((o 19 (.move (.t 8))) :: (o 20 (.move (.t 7))) :: (o 21 (.load .true 2 (.t 9))) :: (o 22 (.move (.t 1))) :: (o 23 (.call (.c (.func 96 [] [])) [(.t 20), (.t 21), (.t 22)])) :: L69r0))
noncomputable def L69s1 : LCode := (.reg [(o 26 (.bin .add (.t 14) (.c (.int .i64 1)))), (o 14 (.move (.t 26)))])
noncomputable def L69s2 : LCode := (.seq (.block 1 (.seq (.reg [(o 16 (.move (.t 14))), (o 17 (.indexAddrS 2 (.t 12) (.t 14))), (o 18 (.load .true 2 (.t 17))), (o 9 (.alloc [(.int .i64 0), (.int .i64 0)])), (o 8 (.move (.t 16))), (on (.store 2 (.t 9) (.t 18)))]) L69s0)) L69s1)
noncomputable def L69w1 : LCode := (.seq (.reg [(o 15 (.bin .lss (.t 14) (.t 13)))]) (.seq (.cond (.t 15) .skip (.exit 0)) L69s2))
noncomputable def L69s3 : LCode := (.cond (.t 38) (.reg [(o 39 (.move (.t 10))), (o 4 (.move (.t 39)))]) .skip)
noncomputable def L69s4 : LCode := (.seq (.draw 6 [(o 32 (.move (.t 10))), (o 33 (.indexAddrA 8 1 (.t 6) (.t 32))), (o 34 (.load .false 1 (.t 33))), (o 35 (.move (.t 4))), (o 36 (.indexAddrA 8 1 (.t 6) (.t 35))), (o 37 (.load .false 1 (.t 36))), (o 38 (.bin .lss (.t 34) (.t 37)))]) L69s3)
noncomputable def L69s5 : LCode := (.reg [(o 40 (.bin .add (.t 29) (.c (.int .i64 1)))), (o 29 (.move (.t 40)))])
noncomputable def L69s6 : LCode := (.seq (.block 3 (.seq (.reg [(o 31 (.move (.t 29))), (o 10 (.move (.t 31)))]) L69s4)) L69s5)
noncomputable def L69w0 : LCode := (.seq (.reg [(o 30 (.bin .lss (.t 29) (.t 28)))]) (.seq (.cond (.t 30) .skip (.exit 2)) L69s6))
noncomputable def L69r1 : List LOper := [(o 46 (.load .true 2 (.t 45))), (o 47 (.move (.t 1))), (o 48 (.call (.c (.func 96 [] [])) [(.t 42), (.t 46), (.t 47)])), (o 4 (.move (.t 41))), (o 5 (.move (.t 48)))]
noncomputable def L69s7 : LCode := (.seq (.reg ((o 41 (.move (.t 4))) :: (o 42 (.move (.t 7))) :: (o 43 (.move (.t 0))) :: (o 44 (.move (.t 4))) :: (o 45 (.indexAddrS 2 (.t 43) (.t 44))) :: L69r1)) .ret)
noncomputable def L69s8 : LCode := (.seq (.seq (.reg [(o 27 (.move (.t 0))), (o 28 (.len .slice (.t 27))), (o 29 (.move (.c (.int .i64 0))))]) (.block 2 (.loop L69w0))) L69s7)
noncomputable def L69s9 : LCode := (.seq (.seq (.reg [(o 12 (.move (.t 0))), (o 13 (.len .slice (.t 12))), (o 14 (.move (.c (.int .i64 0))))]) (.block 0 (.loop L69w1))) L69s8)
noncomputable def L69s10 : LCode := (.seq (.reg [(o 6 (.alloc [(.int .i64 0), (.int .i64 0), (.int .i64 0), (.int .i64 0), (.int .i64 0), (.int .i64 0), (.int .i64 0), (.int .i64 0)]))]) (.seq (.reg [(o 11 .makeMap), (o 7 (.move (.t 11)))]) L69s9))
noncomputable def L69 : LFunc := ⟨49, (.seq (.reg [(o 4 (.move (.c (.int .i64 0)))), (o 5 (.move (.c (.slice .none 0 0))))]) L69s10), [(.t 4), (.t 5)], .true, .none⟩
theorem lp69 : LP 69 = some L69 := by kernel_rfl
noncomputable def L73r0 : List LOper := [(og 10 (.move (.t 1)) 9 .true), (og 11 (.fieldAddr 1 (.t 2)) 9 .true), (og 12 (.load .false 1 (.t 11)) 9 .true), (og 13 (.bin .leq (.t 10) (.t 12)) 9 .true), (o 14 (.pick (.t 9) (.t 13) (.c (.bool .false)))), (o 4 (.move (.t 14)))]
noncomputable def L73s0 : LCode := (.seq (.reg ((o 5 (.fieldAddr 0 (.t 2))) :: (o 6 (.load .false 1 (.t 5))) :: (o 7 (.move (.t 1))) :: (o 8 (.bin .leq (.t 6) (.t 7))) :: (o 9 (.move (.t 8))) :: L73r0)) .ret)
noncomputable def L73 : LFunc := ⟨15, (.seq (.reg [(o 2 (.box (.t 0))), (o 4 (.move (.c (.bool .false))))]) L73s0), [(.t 4)], .false, .none⟩
theorem lp73 : LP 73 = some L73 := by kernel_rfl
noncomputable def L77r0 : List LOper := [(o 24 (.bin .add (.t 23) (.c (.int .i64 1)))), (o 25 (.build [(.int .i64 0), (.int .i64 0)] [(0, (1, (.t 16))), (1, (1, (.t 24)))])), (on (.store 2 (.t 4) (.t 25)))]
noncomputable def L77r1 : List LOper := ((o 19 (.fieldAddr 0 (.t 2))) :: (o 20 (.fieldAddr 0 (.t 19))) :: (o 21 (.load .false 1 (.t 20))) :: (o 22 (.bin .sub (.t 18) (.t 21))) :: (o 23 (.bin .mul (.c (.int .i64 2)) (.t 22))) :: L77r0)
noncomputable def L77r2 : List LOper := ((o 14 (.bin .sub (.t 10) (.t 13))) :: (o 15 (.bin .mul (.c (.int .i64 2)) (.t 14))) :: (o 16 (.bin .sub (.t 15) (.c (.int .i64 1)))) :: (o 17 (.fieldAddr 1 (.t 5))) :: (o 18 (.load .false 1 (.t 17))) :: L77r1)
noncomputable def L77s0 : LCode := (.seq (.reg ((o 9 (.fieldAddr 0 (.t 5))) :: (o 10 (.load .false 1 (.t 9))) :: (o 11 (.fieldAddr 0 (.t 2))) :: (o 12 (.fieldAddr 0 (.t 11))) :: (o 13 (.load .false 1 (.t 12))) :: L77r2)) .ret)
noncomputable def L77s1 : LCode := (.seq (.reg [(o 6 (.load .true 3 (.t 2))), (o 7 (.load .true 2 (.t 3))), (o 8 (.call (.c (.func 98 [] [])) [(.t 6), (.t 7)])), (o 5 (.alloc [(.int .i64 0), (.int .i64 0)])), (on (.store 2 (.t 5) (.t 8)))]) L77s0)
noncomputable def L77 : LFunc := ⟨26, (.seq (.reg [(o 2 (.box (.t 0))), (o 3 (.box (.t 1))), (o 4 (.alloc [(.int .i64 0), (.int .i64 0)]))]) L77s1), [(.cell 4 .true 2)], .false, .none⟩
theorem lp77 : LP 77 = some L77 := by kernel_rfl
noncomputable def L81r0 : List LOper := [(o 12 (.load .false 1 (.t 11))), (o 13 (.load .true 2 (.t 5))), (oa 14 (.call (.t 12) [(.t 13)]) [3]), (oa 15 (.build [(.int .i64 0), (.int .i64 0)] [(0, (1, (.t 10))), (1, (1, (.t 14)))]) [7, 3]), (ona (.store 2 (.t 6) (.t 15)) [7, 3])]
noncomputable def L81s0 : LCode := (.seq (.draw 7 ((o 7 (.fieldAddr 0 (.t 3))) :: (o 8 (.load .false 1 (.t 7))) :: (o 9 (.load .true 2 (.t 4))) :: (o 10 (.call (.t 8) [(.t 9)])) :: (o 11 (.fieldAddr 1 (.t 3))) :: L81r0)) .ret)
noncomputable def L81 : LFunc := ⟨16, (.seq (.reg [(o 3 (.box (.t 0))), (o 4 (.box (.t 1))), (o 5 (.box (.t 2))), (o 6 (.alloc [(.int .i64 0), (.int .i64 0)]))]) L81s0), [(.cell 6 .true 2)], .false, .none⟩
theorem lp81 : LP 81 = some L81 := by kernel_rfl
noncomputable def L93s0 : LCode := (.seq (.reg [(o 1 (.call (.c (.func 75 [] [])) [])), (o 2 (.call (.c (.func 72 [] [])) [(.c (.int .i64 100000))])), (o 3 (.build [(.int .i64 0), (.int .i64 0), (.int .i64 0), (.int .i64 0)] [(0, (2, (.t 1))), (2, (2, (.t 2)))])), (on (.store 4 (.t 0) (.t 3)))]) .ret)
noncomputable def L93 : LFunc := ⟨4, (.seq (.reg [(o 0 (.alloc [(.int .i64 0), (.int .i64 0), (.int .i64 0), (.int .i64 0)]))]) L93s0), [(.cell 0 .true 4)], .false, .none⟩
theorem lp93 : LP 93 = some L93 := by kernel_rfl
noncomputable def L97s0 : LCode := (.cond (.t 16) (.seq (.reg [(o 4 (.move (.c (.bool .false))))]) .ret) .skip)
noncomputable def L97s1 : LCode := (.seq (.reg [(o 13 (.move (.t 1))), (o 14 (.load .true 2 (.t 6))), (o 15 (.call (.t 13) [(.t 14)])), (o 16 (.un .not (.t 15)))]) L97s0)
noncomputable def L97s2 : LCode := (.reg [(o 17 (.bin .add (.t 9) (.c (.int .i64 1)))), (o 9 (.move (.t 17)))])
noncomputable def L97s3 : LCode := (.seq (.block 1 (.seq (.reg [(o 11 (.indexAddrS 2 (.t 7) (.t 9))), (o 12 (.load .true 2 (.t 11))), (o 6 (.alloc [(.int .i64 0), (.int .i64 0)])), (on (.store 2 (.t 6) (.t 12)))]) L97s1)) L97s2)
noncomputable def L97w0 : LCode := (.seq (.reg [(o 10 (.bin .lss (.t 9) (.t 8)))]) (.seq (.cond (.t 10) .skip (.exit 0)) L97s3))
noncomputable def L97s4 : LCode := (.seq (.seq (.reg [(o 7 (.move (.t 0))), (o 8 (.len .slice (.t 7))), (o 9 (.move (.c (.int .i64 0))))]) (.block 0 (.loop L97w0))) (.seq (.reg [(o 4 (.move (.c (.bool .true))))]) .ret))
noncomputable def L97 : LFunc := ⟨18, (.seq (.reg [(o 4 (.move (.c (.bool .false))))]) L97s4), [(.t 4)], .false, .none⟩
theorem lp97 : LP 97 = some L97 := by kernel_rfl
noncomputable def L101s0 : LCode := (.seq (.reg [(o 1 (.build [.nilFunc, .nilFunc] [(0, (1, (.c (.func 99 [] [])))), (1, (1, (.c (.func 91 [] []))))])), (on (.store 2 (.t 0) (.t 1)))]) .ret)
noncomputable def L101 : LFunc := ⟨2, (.seq (.reg [(o 0 (.alloc [.nilFunc, .nilFunc]))]) L101s0), [(.cell 0 .true 2)], .false, .none⟩
theorem lp101 : LP 101 = some L101 := by kernel_rfl
noncomputable def L34r0 : List LOper := [(og 17 (.bin .leq (.t 15) (.t 16)) 13 .true), (o 18 (.pick (.t 13) (.t 17) (.c (.bool .false)))), (o 6 (.move (.t 18)))]
noncomputable def L34r1 : List LOper := ((o 12 (.call (.c (.func 55 [] [])) [(.t 8), (.t 9), (.t 11)])) :: (o 13 (.move (.t 12))) :: (og 14 (.fieldAddr 1 (.t 3)) 13 .true) :: (og 15 (.load .false 1 (.t 14)) 13 .true) :: (og 16 (.move (.t 2)) 13 .true) :: L34r0)
noncomputable def L34s0 : LCode := (.seq (.reg ((o 7 (.fieldAddr 0 (.t 3))) :: (o 8 (.load .false 1 (.t 7))) :: (o 9 (.move (.t 1))) :: (o 10 (.fieldAddr 1 (.t 3))) :: (o 11 (.load .false 1 (.t 10))) :: L34r1)) .ret)
noncomputable def L34 : LFunc := ⟨19, (.seq (.reg [(o 3 (.box (.t 0))), (o 6 (.move (.c (.bool .false))))]) L34s0), [(.t 6)], .false, .none⟩
theorem lp34 : LP 34 = some L34 := by kernel_rfl
noncomputable def L38r0 : List LOper := [(o 21 (.load .true 2 (.t 20))), (o 22 (.call (.c (.func 19 [] [])) [(.t 21)])), (oa 23 (.build [(.int .i64 0), (.int .i64 0), (.int .i64 0)] [(0, (1, (.t 16))), (1, (2, (.t 22)))]) [11]), (oa 24 (.buildSlice 1 [(.int .i64 0), (.int .i64 0), (.int .i64 0)] [(0, (3, (.t 23)))]) [11]), (oa 25 (.append 3 24 (.t 11) (.t 24)) [13, 11]), (oa 3 (.move (.t 25)) [14, 13, 11])]
noncomputable def L38r1 : List LOper := ((o 16 (.load .false 1 (.t 15))) :: (o 17 (.move (.t 0))) :: (o 18 (.move (.t 4))) :: (o 19 (.indexAddrS 3 (.t 17) (.t 18))) :: (o 20 (.fieldAddr 1 (.t 19))) :: L38r0)
noncomputable def L38s0 : LCode := (.reg [(o 9 (.move (.t 4))), (o 10 (.bin .add (.t 9) (.c (.int .i64 1)))), (o 4 (.move (.t 10)))])
noncomputable def L38s1 : LCode := (.seq (.block 1 (.draw 12 ((o 11 (.move (.t 3))) :: (o 12 (.move (.t 0))) :: (o 13 (.move (.t 4))) :: (o 14 (.indexAddrS 3 (.t 12) (.t 13))) :: (o 15 (.fieldAddr 0 (.t 14))) :: L38r1))) L38s0)
noncomputable def L38w0 : LCode := (.seq (.seq (.reg [(o 5 (.move (.t 4))), (o 6 (.move (.t 0))), (o 7 (.len .slice (.t 6))), (o 8 (.bin .lss (.t 5) (.t 7)))]) (.cond (.t 8) .skip (.exit 0))) L38s1)
noncomputable def L38s2 : LCode := (.seq (.reg [(o 26 (.move (.t 3))), (o 2 (.move (.t 26)))]) .ret)
noncomputable def L38s3 : LCode := (.seq (.seq (.reg [(o 4 (.move (.c (.int .i64 0))))]) (.block 0 (.loop L38w0))) L38s2)
noncomputable def L38 : LFunc := ⟨27, (.seq (.reg [(o 2 (.move (.c (.slice .none 0 0))))]) (.seq (.reg [(o 3 (.move (.c (.slice .none 0 0))))]) L38s3)), [(.t 2)], .true, .none⟩
theorem lp38 : LP 38 = some L38 := by kernel_rfl
noncomputable def L42s0 : LCode := (.cond (.t 10) (.seq (.reg [(o 4 (.move (.c (.bool .false))))]) .ret) .skip)
noncomputable def L42r0 : List LOper := [(o 22 (.move (.t 5))), (o 23 (.indexAddrS 1 (.t 21) (.t 22))), (o 24 (.load .false 1 (.t 23))), (o 25 (.eq (.cell (.i .i64)) .true (.t 20) (.t 24)))]
noncomputable def L42s1 : LCode := (.cond (.t 25) (.seq (.reg [(o 4 (.move (.c (.bool .false))))]) .ret) .skip)
noncomputable def L42s2 : LCode := (.reg [(o 15 (.move (.t 5))), (o 16 (.bin .add (.t 15) (.c (.int .i64 1)))), (o 5 (.move (.t 16)))])
noncomputable def L42s3 : LCode := (.seq (.block 1 (.seq (.draw 8 ((o 17 (.move (.t 0))) :: (o 18 (.move (.t 5))) :: (o 19 (.indexAddrS 1 (.t 17) (.t 18))) :: (o 20 (.load .false 1 (.t 19))) :: (o 21 (.move (.t 1))) :: L42r0)) L42s1)) L42s2)
noncomputable def L42w0 : LCode := (.seq (.seq (.reg [(o 11 (.move (.t 5))), (o 12 (.move (.t 0))), (o 13 (.len .slice (.t 12))), (o 14 (.bin .lss (.t 11) (.t 13)))]) (.cond (.t 14) .skip (.exit 0))) L42s3)
noncomputable def L42s4 : LCode := (.seq (.seq (.reg [(o 5 (.move (.c (.int .i64 0))))]) (.block 0 (.loop L42w0))) (.seq (.reg [(o 4 (.move (.c (.bool .true))))]) .ret))
noncomputable def L42s5 : LCode := (.seq (.seq (.reg [(o 6 (.move (.t 0))), (o 7 (.len .slice (.t 6))), (o 8 (.move (.t 1))), (o 9 (.len .slice (.t 8))), (o 10 (.eq (.cell (.i .i64)) .true (.t 7) (.t 9)))]) L42s0) L42s4)
noncomputable def L42 : LFunc := ⟨26, (.seq (.reg [(o 4 (.move (.c (.bool .false))))]) L42s5), [(.t 4)], .false, .none⟩
theorem lp42 : LP 42 = some L42 := by kernel_rfl
noncomputable def L70r0 : List LOper := [(og 8 (.load .true 2 (.t 7)) 6 .true), (og 9 (.call (.c (.func 34 [] [])) [(.t 8), (.c (.int .i64 (-100000))), (.c (.int .i64 100000))]) 6 .true), (o 10 (.pick (.t 6) (.t 9) (.c (.bool .false)))), (o 2 (.move (.t 10)))]
noncomputable def L70s0 : LCode := (.seq (.reg ((o 3 (.fieldAddr 0 (.t 1))) :: (o 4 (.load .false 1 (.t 3))) :: (o 5 (.call (.c (.func 55 [] [])) [(.t 4), (.c (.int .i64 (-1000000))), (.c (.int .i64 1000000))])) :: (o 6 (.move (.t 5))) :: (og 7 (.fieldAddr 1 (.t 1)) 6 .true) :: L70r0)) .ret)
noncomputable def L70 : LFunc := ⟨11, (.seq (.reg [(o 1 (.box (.t 0))), (o 2 (.move (.c (.bool .false))))]) L70s0), [(.t 2)], .false, .none⟩
theorem lp70 : LP 70 = some L70 := by kernel_rfl
noncomputable def L74s0 : LCode := (.cond (.t 5) (.seq (.reg [(o 2 (.move (.c (.int .i64 3))))]) .ret) .skip)
noncomputable def L74s1 : LCode := (.cond (.t 8) (.seq (.reg [(o 2 (.move (.c (.int .i64 1))))]) .ret) .skip)
noncomputable def L74s2 : LCode := (.seq (.seq (.reg [(o 6 (.move (.t 0))), (o 7 (.call (.c (.func 97 [] [])) [(.t 6), (.c (.func 52 [] []))])), (o 8 (.un .not (.t 7)))]) L74s1) (.seq (.reg [(o 2 (.move (.c (.int .i64 0))))]) .ret))
noncomputable def L74s3 : LCode := (.seq (.seq (.reg [(o 3 (.move (.t 0))), (o 4 (.len .slice (.t 3))), (o 5 (.bin .gtr (.t 4) (.c (.int .i64 8))))]) L74s0) L74s2)
noncomputable def L74 : LFunc := ⟨9, (.seq (.reg [(o 2 (.move (.c (.int .i64 0))))]) L74s3), [(.t 2)], .false, .none⟩
theorem lp74 : LP 74 = some L74 := by kernel_rfl
noncomputable def L82s0 : LCode := (.seq (.reg [(o 5 (.move (.t 1))), (o 6 (.load .true 3 (.t 2))), (o 7 (.call (.c (.func 100 [] [])) [(.t 6)])), (o 8 (.bin .mul (.c (.int .i64 2)) (.t 7))), (o 9 (.build [(.int .i64 0), (.int .i64 0)] [(0, (1, (.t 5))), (1, (1, (.t 8)))])), (on (.store 2 (.t 4) (.t 9)))]) .ret)
noncomputable def L82 : LFunc := ⟨10, (.seq (.reg [(o 2 (.box (.t 0))), (o 4 (.alloc [(.int .i64 0), (.int .i64 0)]))]) L82s0), [(.cell 4 .true 2)], .false, .none⟩
theorem lp82 : LP 82 = some L82 := by kernel_rfl
noncomputable def L94r0 : List LOper := [(og 15 (.call (.c (.func 64 [] [])) [(.t 12), (.t 14)]) 10 .true), (o 16 (.pick (.t 10) (.t 15) (.c (.bool .false)))), (o 4 (.move (.t 16)))]
noncomputable def L94r1 : List LOper := ((o 10 (.move (.t 9))) :: (og 11 (.fieldAddr 1 (.t 3)) 10 .true) :: (og 12 (.load .true 2 (.t 11)) 10 .true) :: (og 13 (.fieldAddr 2 (.t 2)) 10 .true) :: (og 14 (.load .true 2 (.t 13)) 10 .true) :: L94r0)
noncomputable def L94s0 : LCode := (.seq (.reg ((o 5 (.fieldAddr 0 (.t 2))) :: (o 6 (.load .true 2 (.t 5))) :: (o 7 (.fieldAddr 0 (.t 3))) :: (o 8 (.load .false 1 (.t 7))) :: (o 9 (.call (.c (.func 73 [] [])) [(.t 6), (.t 8)])) :: L94r1)) .ret)
noncomputable def L94 : LFunc := ⟨17, (.seq (.reg [(o 2 (.box (.t 0))), (o 3 (.box (.t 1))), (o 4 (.move (.c (.bool .false))))]) L94s0), [(.t 4)], .false, .none⟩
theorem lp94 : LP 94 = some L94 := by kernel_rfl
noncomputable def L98r0 : List LOper := [(o 12 (.un .neg (.t 11))), (o 13 (.build [(.int .i64 0), (.int .i64 0)] [(0, (1, (.t 9))), (1, (1, (.t 12)))])), (on (.store 2 (.t 4) (.t 13)))]
noncomputable def L98s0 : LCode := (.cond (.t 6) (.seq (.reg ((o 7 (.fieldAddr 1 (.t 3))) :: (o 8 (.load .false 1 (.t 7))) :: (o 9 (.un .neg (.t 8))) :: (o 10 (.fieldAddr 0 (.t 3))) :: (o 11 (.load .false 1 (.t 10))) :: L98r0)) .ret) .skip)
noncomputable def L98s1 : LCode := (.seq (.reg [(o 14 (.load .true 2 (.t 3))), (on (.store 2 (.t 4) (.t 14)))]) .ret)
noncomputable def L98s2 : LCode := (.seq (.seq (.reg [(o 5 (.fieldAddr 2 (.t 2))), (o 6 (.load .false 1 (.t 5)))]) L98s0) L98s1)
noncomputable def L98 : LFunc := ⟨15, (.seq (.reg [(o 2 (.box (.t 0))), (o 3 (.box (.t 1))), (o 4 (.alloc [(.int .i64 0), (.int .i64 0)]))]) L98s2), [(.cell 4 .true 2)], .false, .none⟩
theorem lp98 : LP 98 = some L98 := by kernel_rfl
noncomputable def L15r0 : List LOper := [(og 52 (.move (.t 9)) 50 .false), (og 53 (.call (.c (.func 40 [] [])) [(.t 51), (.t 52)]) 50 .false), (og 54 (.eq (.cell (.i .i64)) .true (.t 53) (.c (.int .i64 0))) 50 .false), (o 55 (.pick (.t 50) (.c (.bool .true)) (.t 54)))]
noncomputable def L15r1 : List LOper := ((og 47 (.len .slice (.t 46)) 45 .false) :: (og 48 (.bin .gtr (.t 47) (.c (.int .i64 11))) 45 .false) :: (o 49 (.pick (.t 45) (.c (.bool .true)) (.t 48))) :: (o 50 (.move (.t 49))) :: (og 51 (.move (.t 0)) 50 .false) :: L15r0)
noncomputable def L15s0 : LCode := (.cond (.t 55) (.seq (.reg [(o 56 (.call (.c (.func 22 [] [])) [])), (o 8 (.move (.t 56)))]) .ret) .skip)
noncomputable def L15r2 : List LOper := [(o 67 (.move (.t 9))), (o 68 (.move (.t 10))), (o 69 (.sliceS 3 (.t 67) .none (.some (.t 68)))), (oa 70 (.append 3 24 (.t 66) (.t 69)) [4, 0]), (oa 11 (.move (.t 70)) [8, 4, 0])]
noncomputable def L15r3 : List LOper := [(o 71 (.move (.t 76))), (o 77 (.extract (.t 71) 0)), (o 78 (.extract (.t 71) 1)), (o 12 (.move (.t 77))), (o 13 (.move (.t 78)))]
noncomputable def L15r4 : List LOper := [(o 79 (.move (.t 84))), (o 85 (.extract (.t 79) 0)), (o 86 (.extract (.t 79) 1)), (o 14 (.move (.t 85))), (o 15 (.move (.t 86)))]
noncomputable def L15r5 : List LOper := [(o 87 (.move (.t 92))), (o 93 (.extract (.t 87) 0)), (o 94 (.extract (.t 87) 1)), (o 16 (.move (.t 93))), (o 17 (.move (.t 94)))]
noncomputable def L15r6 : List LOper := [(o 95 (.move (.t 100))), (o 101 (.extract (.t 95) 0)), (o 102 (.extract (.t 95) 1)), (o 103 (.extract (.t 95) 2)), (o 18 (.move (.t 101))), (o 19 (.move (.t 102))), (o 20 (.move (.t 103)))]
noncomputable def L15r7 : List LOper := [(o 104 (.move (.t 109))), (o 110 (.extract (.t 104) 0)), (o 111 (.extract (.t 104) 1)), (o 112 (.extract (.t 104) 2)), (o 21 (.move (.t 110))), (o 22 (.move (.t 111))), (o 23 (.move (.t 112)))]
noncomputable def L15r8 : List LOper := [(o 113 (.move (.t 118))), (o 119 (.extract (.t 113) 0)), (o 120 (.extract (.t 113) 1)), (o 121 (.extract (.t 113) 2)), (o 24 (.move (.t 119))), (o 25 (.move (.t 120))), (o 26 (.move (.t 121)))]
noncomputable def L15r9 : List LOper := [(og 182 (.bin .gtr (.t 181) (.c (.int .i64 0))) 179 .false), (og 183 (.move (.t 22)) 179 .false), (og 184 (.len .slice (.t 183)) 179 .false), (og 185 (.eq (.cell (.i .i64)) .false (.t 184) (.c (.int .i64 0))) 179 .false), (og 186 (.eq (.cell .b) .true (.t 182) (.t 185)) 179 .false), (o 187 (.pick (.t 179) (.c (.bool .true)) (.t 186)))]
noncomputable def L15r10 : List LOper := ((og 177 (.bin .geq (.t 174) (.t 176)) 173 .false) :: (o 178 (.pick (.t 173) (.c (.bool .true)) (.t 177))) :: (o 179 (.move (.t 178))) :: (og 180 (.move (.t 14)) 179 .false) :: (og 181 (.len .slice (.t 180)) 179 .false) :: L15r9)
noncomputable def L15r11 : List LOper := ((o 172 (.pick (.t 169) (.c (.bool .true)) (.t 171))) :: (o 173 (.move (.t 172))) :: (og 174 (.move (.t 21)) 173 .false) :: (og 175 (.move (.t 0)) 173 .false) :: (og 176 (.len .slice (.t 175)) 173 .false) :: L15r10)
noncomputable def L15r12 : List LOper := ((og 167 (.eq (.cell (.i .i64)) .true (.t 164) (.t 166)) 162 .false) :: (o 168 (.pick (.t 162) (.c (.bool .true)) (.t 167))) :: (o 169 (.move (.t 168))) :: (og 170 (.move (.t 21)) 169 .false) :: (og 171 (.bin .lss (.t 170) (.c (.int .i64 0))) 169 .false) :: L15r11)
noncomputable def L15r13 : List LOper := ((o 162 (.move (.t 161))) :: (og 163 (.move (.t 22)) 162 .false) :: (og 164 (.len .slice (.t 163)) 162 .false) :: (og 165 (.move (.t 25)) 162 .false) :: (og 166 (.len .slice (.t 165)) 162 .false) :: L15r12)
noncomputable def L15r14 : List LOper := ((o 157 (.move (.t 156))) :: (og 158 (.move (.t 21)) 157 .false) :: (og 159 (.move (.t 24)) 157 .false) :: (og 160 (.eq (.cell (.i .i64)) .true (.t 158) (.t 159)) 157 .false) :: (o 161 (.pick (.t 157) (.c (.bool .true)) (.t 160))) :: L15r13)
noncomputable def L15r15 : List LOper := ((og 152 (.len .slice (.t 151)) 150 .false) :: (og 153 (.move (.t 19)) 150 .false) :: (og 154 (.len .slice (.t 153)) 150 .false) :: (og 155 (.bin .lss (.t 152) (.t 154)) 150 .false) :: (o 156 (.pick (.t 150) (.c (.bool .true)) (.t 155))) :: L15r14)
noncomputable def L15r16 : List LOper := ((og 147 (.call (.c (.func 42 [] [])) [(.t 145), (.t 146)]) 144 .false) :: (og 148 (.un .not (.t 147)) 144 .false) :: (o 149 (.pick (.t 144) (.c (.bool .true)) (.t 148))) :: (o 150 (.move (.t 149))) :: (og 151 (.move (.t 22)) 150 .false) :: L15r15)
noncomputable def L15r17 : List LOper := ((og 142 (.eq (.cell (.i .i64)) .true (.t 141) (.c (.int .i64 0))) 140 .false) :: (o 143 (.pick (.t 140) (.c (.bool .true)) (.t 142))) :: (o 144 (.move (.t 143))) :: (og 145 (.move (.t 14)) 144 .false) :: (og 146 (.move (.t 16)) 144 .false) :: L15r16)
noncomputable def L15r18 : List LOper := ((og 137 (.move (.t 23)) 136 .false) :: (og 138 (.eq (.cell (.i .i64)) .true (.t 137) (.c (.int .i64 0))) 136 .false) :: (o 139 (.pick (.t 136) (.c (.bool .true)) (.t 138))) :: (o 140 (.move (.t 139))) :: (og 141 (.move (.t 26)) 140 .false) :: L15r17)
noncomputable def L15r19 : List LOper := ((o 132 (.move (.t 131))) :: (og 133 (.move (.t 20)) 132 .false) :: (og 134 (.eq (.cell (.i .i64)) .true (.t 133) (.c (.int .i64 0))) 132 .false) :: (o 135 (.pick (.t 132) (.c (.bool .true)) (.t 134))) :: (o 136 (.move (.t 135))) :: L15r18)
noncomputable def L15r20 : List LOper := ((o 127 (.pick (.t 124) (.c (.bool .true)) (.t 126))) :: (o 128 (.move (.t 127))) :: (og 129 (.move (.t 17)) 128 .false) :: (og 130 (.eq (.cell (.i .i64)) .true (.t 129) (.c (.int .i64 0))) 128 .false) :: (o 131 (.pick (.t 128) (.c (.bool .true)) (.t 130))) :: L15r19)
noncomputable def L15s1 : LCode := (.cond (.t 187) (.seq (.reg [(o 8 (.move (.c (.bool .false))))]) .ret) .skip)
noncomputable def L15r21 : List LOper := [(og 210 (.eq (.cell (.i .i64)) .false (.t 205) (.t 209)) 201 .false), (o 211 (.pick (.t 201) (.c (.bool .true)) (.t 210))), (o 28 (.move (.t 211)))]
noncomputable def L15r22 : List LOper := ((og 205 (.load .false 1 (.t 204)) 201 .false) :: (og 206 (.move (.t 14)) 201 .false) :: (og 207 (.move (.t 27)) 201 .false) :: (og 208 (.indexAddrS 1 (.t 206) (.t 207)) 201 .false) :: (og 209 (.load .false 1 (.t 208)) 201 .false) :: L15r21)
noncomputable def L15s2 : LCode := (.reg [(o 198 (.move (.t 29))), (o 199 (.bin .add (.t 198) (.c (.int .i64 1)))), (o 29 (.move (.t 199)))])
noncomputable def L15s3 : LCode := (.seq (.block 3 (.draw 10 ((o 200 (.move (.t 28))) :: (o 201 (.move (.t 200))) :: (og 202 (.move (.t 12)) 201 .false) :: (og 203 (.move (.t 29)) 201 .false) :: (og 204 (.indexAddrS 1 (.t 202) (.t 203)) 201 .false) :: L15r22))) L15s2)
noncomputable def L15w2 : LCode := (.seq (.seq (.reg [(o 194 (.move (.t 29))), (o 195 (.move (.t 12))), (o 196 (.len .slice (.t 195))), (o 197 (.bin .lss (.t 194) (.t 196)))]) (.cond (.t 197) .skip (.exit 2))) L15s3)
noncomputable def L15s4 : LCode := (.cond (.t 213) (.seq (.reg [(o 8 (.move (.c (.bool .false))))]) .ret) .skip)
noncomputable def L15s5 : LCode := (.seq (.reg [(o 212 (.move (.t 28))), (o 213 (.un .not (.t 212)))]) L15s4)
noncomputable def L15s6 : LCode := (.seq (.seq (.reg [(o 29 (.move (.c (.int .i64 0))))]) (.block 2 (.loop L15w2))) L15s5)
noncomputable def L15s7 : LCode := (.reg [(o 192 (.move (.t 27))), (o 193 (.bin .add (.t 192) (.c (.int .i64 1)))), (o 27 (.move (.t 193)))])
noncomputable def L15s8 : LCode := (.seq (.block 1 (.seq (.reg [(o 28 (.move (.c (.bool .false))))]) L15s6)) L15s7)
noncomputable def L15w3 : LCode := (.seq (.seq (.reg [(o 188 (.move (.t 27))), (o 189 (.move (.t 14))), (o 190 (.len .slice (.t 189))), (o 191 (.bin .lss (.t 188) (.t 190)))]) (.cond (.t 191) .skip (.exit 0))) L15s8)
noncomputable def L15r23 : List LOper := [(og 231 (.load .false 1 (.t 230)) 227 .false), (og 232 (.move (.t 31)) 227 .false), (og 233 (.eq (.cell (.i .i64)) .false (.t 231) (.t 232)) 227 .false), (o 234 (.pick (.t 227) (.c (.bool .true)) (.t 233))), (o 32 (.move (.t 234)))]
noncomputable def L15s9 : LCode := (.reg [(o 224 (.move (.t 33))), (o 225 (.bin .add (.t 224) (.c (.int .i64 1)))), (o 33 (.move (.t 225)))])
noncomputable def L15s10 : LCode := (.seq (.block 7 (.reg ((o 226 (.move (.t 32))) :: (o 227 (.move (.t 226))) :: (og 228 (.move (.t 22)) 227 .false) :: (og 229 (.move (.t 33)) 227 .false) :: (og 230 (.indexAddrS 1 (.t 228) (.t 229)) 227 .false) :: L15r23))) L15s9)
noncomputable def L15w0 : LCode := (.seq (.seq (.reg [(o 220 (.move (.t 33))), (o 221 (.move (.t 22))), (o 222 (.len .slice (.t 221))), (o 223 (.bin .lss (.t 220) (.t 222)))]) (.cond (.t 223) .skip (.exit 6))) L15s10)
noncomputable def L15r24 : List LOper := [(o 242 (.buildSlice 1 [(.int .i64 0), (.int .i64 0), (.int .i64 0)] [(0, (3, (.t 241)))])), (o 243 (.append 3 24 (.t 237) (.t 242))), (o 30 (.move (.t 243)))]
noncomputable def L15s11 : LCode := (.cond (.t 236) (.reg ((o 237 (.move (.t 30))) :: (o 238 (.move (.t 9))) :: (o 239 (.move (.t 31))) :: (o 240 (.indexAddrS 3 (.t 238) (.t 239))) :: (o 241 (.load .true 3 (.t 240))) :: L15r24)) .skip)
noncomputable def L15s12 : LCode := (.seq (.reg [(o 235 (.move (.t 32))), (o 236 (.un .not (.t 235)))]) L15s11)
noncomputable def L15s13 : LCode := (.seq (.seq (.reg [(o 33 (.move (.c (.int .i64 0))))]) (.block 6 (.loop L15w0))) L15s12)
noncomputable def L15s14 : LCode := (.reg [(o 218 (.move (.t 31))), (o 219 (.bin .add (.t 218) (.c (.int .i64 1)))), (o 31 (.move (.t 219)))])
noncomputable def L15s15 : LCode := (.seq (.block 5 (.seq (.reg [(o 32 (.move (.c (.bool .false))))]) L15s13)) L15s14)
noncomputable def L15w1 : LCode := (.seq (.seq (.reg [(o 214 (.move (.t 31))), (o 215 (.move (.t 9))), (o 216 (.len .slice (.t 215))), (o 217 (.bin .lss (.t 214) (.t 216)))]) (.cond (.t 217) .skip (.exit 4))) L15s15)
noncomputable def L15r25 : List LOper := [(o 254 (.extract (.t 244) 0)), (o 255 (.extract (.t 244) 1)), (o 34 (.move (.t 254))), (o 35 (.move (.t 255)))]
noncomputable def L15r26 : List LOper := ((o 250 (.buildSlice 1 [(.int .i64 0), (.int .i64 0)] [(0, (2, (.t 249)))])) :: (o 251 (.move (.t 30))) :: (o 252 (.call (.c (.func 38 [] [])) [(.t 251)])) :: (o 253 (.call (.c (.func 37 [] [])) [(.t 250), (.t 252)])) :: (o 244 (.move (.t 253))) :: L15r25)
noncomputable def L15r27 : List LOper := [(og 271 (.call (.c (.func 42 [] [])) [(.t 269), (.t 270)]) 268 .true), (o 272 (.pick (.t 268) (.t 271) (.c (.bool .false)))), (o 273 (.move (.t 272))), (og 274 (.call (.c (.func 22 [] [])) []) 273 .true), (o 275 (.pick (.t 273) (.t 274) (.c (.bool .false)))), (o 8 (.move (.t 275)))]
noncomputable def L15r28 : List LOper := ((og 266 (.eq (.cell (.i .i64)) .false (.t 263) (.t 265)) 258 .true) :: (o 267 (.pick (.t 258) (.t 266) (.c (.bool .false)))) :: (o 268 (.move (.t 267))) :: (og 269 (.move (.t 34)) 268 .true) :: (og 270 (.buildSlice 1 [(.int .i64 0)] [(0, (1, (.c (.int .i64 0))))]) 268 .true) :: L15r27)
noncomputable def L15r29 : List LOper := ((og 261 (.move (.t 22)) 258 .true) :: (og 262 (.len .slice (.t 261)) 258 .true) :: (og 263 (.bin .add (.t 260) (.t 262)) 258 .true) :: (og 264 (.move (.t 9)) 258 .true) :: (og 265 (.len .slice (.t 264)) 258 .true) :: L15r28)
noncomputable def L15s16 : LCode := (.seq (.reg ((o 256 (.move (.t 35))) :: (o 257 (.eq (.cell (.i .i64)) .false (.t 256) (.c (.int .i64 0)))) :: (o 258 (.move (.t 257))) :: (og 259 (.move (.t 30)) 258 .true) :: (og 260 (.len .slice (.t 259)) 258 .true) :: L15r29)) .ret)
noncomputable def L15s17 : LCode := (.seq (.reg ((o 245 (.move (.t 0))) :: (o 246 (.move (.t 21))) :: (o 247 (.indexAddrS 2 (.t 245) (.t 246))) :: (o 248 (.load .true 2 (.t 247))) :: (o 249 (.call (.c (.func 17 [] [])) [(.t 248)])) :: L15r26)) L15s16)
noncomputable def L15s18 : LCode := (.seq (.seq (.reg [(o 31 (.move (.c (.int .i64 0))))]) (.block 4 (.loop L15w1))) L15s17)
noncomputable def L15s19 : LCode := (.seq (.reg [(o 30 (.move (.c (.slice .none 0 0))))]) L15s18)
noncomputable def L15s20 : LCode := (.seq (.seq (.reg [(o 27 (.move (.c (.int .i64 0))))]) (.block 0 (.loop L15w3))) L15s19)
noncomputable def L15s21 : LCode := (.seq (.seq (.reg ((o 122 (.move (.t 13))) :: (o 123 (.eq (.cell (.i .i64)) .true (.t 122) (.c (.int .i64 0)))) :: (o 124 (.move (.t 123))) :: (og 125 (.move (.t 15)) 124 .false) :: (og 126 (.eq (.cell (.i .i64)) .true (.t 125) (.c (.int .i64 0))) 124 .false) :: L15r20)) L15s1) L15s20)
noncomputable def L15s22 : LCode := (.seq (.reg ((o 114 (.move (.t 0))) :: (o 115 (.call (.c (.func 25 [] [])) [(.t 114)])) :: (o 116 (.move (.t 11))) :: (o 117 (.call (.c (.func 38 [] [])) [(.t 116)])) :: (o 118 (.call (.c (.func 39 [] [])) [(.t 115), (.t 117)])) :: L15r8)) L15s21)
noncomputable def L15s23 : LCode := (.seq (.reg ((o 105 (.move (.t 0))) :: (o 106 (.call (.c (.func 25 [] [])) [(.t 105)])) :: (o 107 (.move (.t 9))) :: (o 108 (.call (.c (.func 38 [] [])) [(.t 107)])) :: (o 109 (.call (.c (.func 39 [] [])) [(.t 106), (.t 108)])) :: L15r7)) L15s22)
noncomputable def L15s24 : LCode := (.seq (.reg ((o 96 (.move (.t 0))) :: (o 97 (.call (.c (.func 25 [] [])) [(.t 96)])) :: (o 98 (.move (.t 1))) :: (o 99 (.call (.c (.func 38 [] [])) [(.t 98)])) :: (o 100 (.call (.c (.func 39 [] [])) [(.t 97), (.t 99)])) :: L15r6)) L15s23)
noncomputable def L15s25 : LCode := (.seq (.reg ((o 88 (.move (.t 0))) :: (o 89 (.call (.c (.func 25 [] [])) [(.t 88)])) :: (o 90 (.move (.t 11))) :: (o 91 (.call (.c (.func 38 [] [])) [(.t 90)])) :: (o 92 (.call (.c (.func 37 [] [])) [(.t 89), (.t 91)])) :: L15r5)) L15s24)
noncomputable def L15s26 : LCode := (.seq (.reg ((o 80 (.move (.t 0))) :: (o 81 (.call (.c (.func 25 [] [])) [(.t 80)])) :: (o 82 (.move (.t 9))) :: (o 83 (.call (.c (.func 38 [] [])) [(.t 82)])) :: (o 84 (.call (.c (.func 37 [] [])) [(.t 81), (.t 83)])) :: L15r4)) L15s25)
noncomputable def L15s27 : LCode := (.seq (.reg ((o 72 (.move (.t 0))) :: (o 73 (.call (.c (.func 25 [] [])) [(.t 72)])) :: (o 74 (.move (.t 1))) :: (o 75 (.call (.c (.func 38 [] [])) [(.t 74)])) :: (o 76 (.call (.c (.func 37 [] [])) [(.t 73), (.t 75)])) :: L15r3)) L15s26)
noncomputable def L15s28 : LCode := (.seq (.draw 8 ((o 62 (.buildSlice 0 [(.int .i64 0), (.int .i64 0), (.int .i64 0)] [])) :: (o 63 (.move (.t 9))) :: (o 64 (.move (.t 10))) :: (o 65 (.sliceS 3 (.t 63) (.some (.t 64)) .none)) :: (oa 66 (.append 3 24 (.t 62) (.t 65)) [4, 0]) :: L15r2)) L15s27)
noncomputable def L15s29 : LCode := (.seq (.reg [(o 57 (.move (.t 3))), (o 58 (.convInt .i64 (.t 57))), (o 59 (.move (.t 9))), (o 60 (.len .slice (.t 59))), (o 61 (.bin .rem (.t 58) (.t 60))), (o 10 (.move (.t 61)))]) L15s28)
noncomputable def L15s30 : LCode := (.seq (.seq (.reg ((o 42 (.move (.t 0))) :: (o 43 (.len .slice (.t 42))) :: (o 44 (.eq (.cell (.i .i64)) .false (.t 43) (.c (.int .i64 0)))) :: (o 45 (.move (.t 44))) :: (og 46 (.move (.t 1)) 45 .false) :: L15r1)) L15s0) L15s29)
noncomputable def L15s31 : LCode := (.seq (.draw 5 [(o 36 (.buildSlice 0 [(.int .i64 0), (.int .i64 0), (.int .i64 0)] [])), (o 37 (.move (.t 1))), (oa 38 (.append 3 24 (.t 36) (.t 37)) [2, 0]), (o 39 (.load .true 3 (.t 6))), (o 40 (.buildSlice 1 [(.int .i64 0), (.int .i64 0), (.int .i64 0)] [(0, (3, (.t 39)))])), (oa 41 (.append 3 24 (.t 38) (.t 40)) [4, 2, 0]), (oa 9 (.move (.t 41)) [5, 4, 2, 0])]) L15s30)
noncomputable def L15 : LFunc := ⟨276, (.seq (.reg [(o 6 (.box (.t 2))), (o 8 (.move (.c (.bool .false))))]) L15s31), [(.t 8)], .false, .none⟩
theorem lp15 : LP 15 = some L15 := by kernel_rfl
noncomputable def L19s0 : LCode := (.seq (.reg [(o 3 (.fieldAddr 0 (.t 1))), (o 4 (.load .false 1 (.t 3))), (o 5 (.fieldAddr 1 (.t 1))), (o 6 (.load .false 1 (.t 5))), (o 7 (.build [(.int .i64 0), (.int .i64 0)] [(0, (1, (.t 4))), (1, (1, (.t 6)))])), (on (.store 2 (.t 2) (.t 7)))]) .ret)
noncomputable def L19 : LFunc := ⟨8, (.seq (.reg [(o 1 (.box (.t 0))), (o 2 (.alloc [(.int .i64 0), (.int .i64 0)]))]) L19s0), [(.cell 2 .true 2)], .false, .none⟩
theorem lp19 : LP 19 = some L19 := by kernel_rfl
noncomputable def L39s0 : LCode := (.cond (.t 12) (.seq (.reg [(o 13 (.move (.t 7))), (o 4 (.move (.c (.int .i64 0)))), (o 5 (.move (.c (.slice .none 0 0)))), (o 6 (.move (.t 13)))]) .ret) .skip)
noncomputable def L39s1 : LCode := (.seq (.reg [(o 11 (.move (.t 7))), (o 12 (.eq (.cell (.i .i64)) .true (.t 11) (.c (.int .i64 0))))]) L39s0)
noncomputable def L39s2 : LCode := (.cond (.t 16) (.seq (.reg [(o 4 (.move (.c (.int .i64 0)))), (o 5 (.move (.c (.slice .none 0 0)))), (o 6 (.move (.c (.int .i64 7))))]) .ret) .skip)
noncomputable def L39r0 : List LOper := [(o 22 (.extract (.t 17) 1)), (o 4 (.move (.t 21))), (o 5 (.move (.t 22)))]
noncomputable def L39s3 : LCode := (.seq (.reg [(o 23 (.move (.t 4))), (o 24 (.move (.t 5))), (o 4 (.move (.t 23))), (o 5 (.move (.t 24))), (o 6 (.move (.c (.int .i64 0))))]) .ret)
noncomputable def L39s4 : LCode := (.seq (.reg ((o 18 (.move (.t 0))) :: (o 19 (.move (.t 1))) :: (o 20 (.call (.c (.func 69 [] [])) [(.t 18), (.t 19)])) :: (o 17 (.move (.t 20))) :: (o 21 (.extract (.t 17) 0)) :: L39r0)) L39s3)
noncomputable def L39s5 : LCode := (.seq (.seq (.reg [(o 14 (.move (.t 0))), (o 15 (.len .slice (.t 14))), (o 16 (.eq (.cell (.i .i64)) .false (.t 15) (.c (.int .i64 0))))]) L39s2) L39s4)
noncomputable def L39s6 : LCode := (.seq (.seq (.reg [(o 8 (.move (.t 0))), (o 9 (.move (.t 1))), (o 10 (.call (.c (.func 67 [] [])) [(.t 8), (.t 9)])), (o 7 (.move (.t 10)))]) L39s1) L39s5)
noncomputable def L39 : LFunc := ⟨25, (.seq (.reg [(o 4 (.move (.c (.int .i64 0)))), (o 5 (.move (.c (.slice .none 0 0)))), (o 6 (.move (.c (.int .i64 0))))]) L39s6), [(.t 4), (.t 5), (.t 6)], .true, .none⟩
theorem lp39 : LP 39 = some L39 := by kernel_rfl
noncomputable def L55r0 : List LOper := [(og 12 (.move (.t 2)) 10 .true), (og 13 (.bin .leq (.t 11) (.t 12)) 10 .true), (o 14 (.pick (.t 10) (.t 13) (.c (.bool .false)))), (o 6 (.move (.t 14)))]
noncomputable def L55s0 : LCode := (.seq (.reg ((o 7 (.move (.t 0))) :: (o 8 (.move (.t 1))) :: (o 9 (.bin .geq (.t 7) (.t 8))) :: (o 10 (.move (.t 9))) :: (og 11 (.move (.t 0)) 10 .true) :: L55r0)) .ret)
noncomputable def L55 : LFunc := ⟨15, (.seq (.reg [(o 6 (.move (.c (.bool .false))))]) L55s0), [(.t 6)], .false, .none⟩
theorem lp55 : LP 55 = some L55 := by kernel_rfl
noncomputable def L67s0 : LCode := (.cond (.t 8) (.seq (.reg [(o 4 (.move (.c (.int .i64 3))))]) .ret) .skip)
noncomputable def L67s1 : LCode := (.cond (.t 12) (.seq (.reg [(o 13 (.move (.t 5))), (o 4 (.move (.t 13)))]) .ret) .skip)
noncomputable def L67s2 : LCode := (.seq (.reg [(o 11 (.move (.t 5))), (o 12 (.eq (.cell (.i .i64)) .true (.t 11) (.c (.int .i64 0))))]) L67s1)
noncomputable def L67s3 : LCode := (.cond (.t 18) (.seq (.reg [(o 4 (.move (.c (.int .i64 2))))]) .ret) .skip)
noncomputable def L67s4 : LCode := (.seq (.seq (.reg [(o 14 (.move (.t 1))), (o 15 (.call (.c (.func 93 [] [])) [])), (o 16 (.makeFunc 94 [(.t 15)] [])), (o 17 (.call (.c (.func 92 [] [])) [(.t 14), (.t 16)])), (o 18 (.un .not (.t 17)))]) L67s3) (.seq (.reg [(o 4 (.move (.c (.int .i64 0))))]) .ret))
noncomputable def L67s5 : LCode := (.seq (.seq (.reg [(o 9 (.move (.t 0))), (o 10 (.call (.c (.func 74 [] [])) [(.t 9)])), (o 5 (.move (.t 10)))]) L67s2) L67s4)
noncomputable def L67s6 : LCode := (.seq (.seq (.reg [(o 6 (.move (.t 1))), (o 7 (.len .slice (.t 6))), (o 8 (.bin .gtr (.t 7) (.c (.int .i64 12))))]) L67s0) L67s5)
noncomputable def L67 : LFunc := ⟨19, (.seq (.reg [(o 4 (.move (.c (.int .i64 0))))]) L67s6), [(.t 4)], .false, .none⟩
theorem lp67 : LP 67 = some L67 := by kernel_rfl
noncomputable def L75s0 : LCode := (.seq (.reg [(o 1 (.call (.c (.func 72 [] [])) [(.c (.int .i64 1000000))])), (on (.store 2 (.t 0) (.t 1)))]) .ret)
noncomputable def L75 : LFunc := ⟨2, (.seq (.reg [(o 0 (.alloc [(.int .i64 0), (.int .i64 0)]))]) L75s0), [(.cell 0 .true 2)], .false, .none⟩
theorem lp75 : LP 75 = some L75 := by kernel_rfl
noncomputable def L91s0 : LCode := (.cond (.t 14) (.reg [(o 15 (.move (.t 3))), (o 16 (.bin .sub (.t 15) (.c (.int .i64 1)))), (o 3 (.move (.t 16)))]) .skip)
noncomputable def L91s1 : LCode := (.seq (.reg [(o 17 (.move (.t 3))), (o 2 (.move (.t 17)))]) .ret)
noncomputable def L91s2 : LCode := (.seq (.seq (.reg [(o 9 (.fieldAddr 0 (.t 1))), (o 10 (.load .false 1 (.t 9))), (o 11 (.fieldAddr 1 (.t 1))), (o 12 (.load .false 1 (.t 11))), (o 13 (.bin .rem (.t 10) (.t 12))), (o 14 (.bin .lss (.t 13) (.c (.int .i64 0))))]) L91s0) L91s1)
noncomputable def L91s3 : LCode := (.seq (.reg [(o 4 (.fieldAddr 0 (.t 1))), (o 5 (.load .false 1 (.t 4))), (o 6 (.fieldAddr 1 (.t 1))), (o 7 (.load .false 1 (.t 6))), (o 8 (.bin .quo (.t 5) (.t 7))), (o 3 (.move (.t 8)))]) L91s2)
noncomputable def L91 : LFunc := ⟨18, (.seq (.reg [(o 1 (.box (.t 0))), (o 2 (.move (.c (.int .i64 0))))]) L91s3), [(.t 2)], .false, .none⟩
theorem lp91 : LP 91 = some L91 := by kernel_rfl
noncomputable def L95r0 : List LOper := [(o 18 (.extract (.t 13) 1)), (o 8 (.move (.t 17))), (o 9 (.move (.t 18)))]
noncomputable def L95s0 : LCode := (.reg [(o 23 (.move (.t 0))), (o 24 (.load .true 5 (.t 7))), (o 25 (.move (.t 8))), (on (.mapUpdate (.row [(.i .i64), (.i .i64), (.i .i64), (.i .i64), (.i .i64)]) (.t 23) (.t 24) (.t 25)))])
noncomputable def L95s1 : LCode := (.cond (.t 20) (.seq (.reg [(o 21 (.load .true 5 (.t 7))), (o 22 (.call (.c (.func 103 [] [])) [(.t 21)])), (o 8 (.move (.t 22)))]) L95s0) .skip)
noncomputable def L95s2 : LCode := (.seq (.reg [(o 26 (.move (.t 8))), (o 6 (.move (.t 26)))]) .ret)
noncomputable def L95s3 : LCode := (.seq (.seq (.reg [(o 19 (.move (.t 9))), (o 20 (.un .not (.t 19)))]) L95s1) L95s2)
noncomputable def L95s4 : LCode := (.seq (.reg ((o 14 (.move (.t 0))) :: (o 15 (.load .true 5 (.t 7))) :: (o 16 (.lookup (.row [(.i .i64), (.i .i64), (.i .i64), (.i .i64), (.i .i64)]) (.bool .false) .true (.t 14) (.t 15))) :: (o 13 (.move (.t 16))) :: (o 17 (.extract (.t 13) 0)) :: L95r0)) L95s3)
noncomputable def L95s5 : LCode := (.seq (.reg [(o 10 (.load .true 2 (.t 4))), (o 11 (.load .true 3 (.t 5))), (o 12 (.build [(.int .i64 0), (.int .i64 0), (.int .i64 0), (.int .i64 0), (.int .i64 0)] [(0, (2, (.t 10))), (2, (3, (.t 11)))])), (o 7 (.alloc [(.int .i64 0), (.int .i64 0), (.int .i64 0), (.int .i64 0), (.int .i64 0)])), (on (.store 5 (.t 7) (.t 12)))]) L95s4)
noncomputable def L95 : LFunc := ⟨27, (.seq (.reg [(o 4 (.box (.t 1))), (o 5 (.box (.t 2))), (o 6 (.move (.c (.bool .false))))]) L95s5), [(.t 6)], .true, .none⟩
theorem lp95 : LP 95 = some L95 := by kernel_rfl
noncomputable def L99r0 : List LOper := [(o 8 (.build [(.int .i64 0), (.int .i64 0)] [(0, (1, (.t 5))), (1, (1, (.t 7)))])), (o 9 (.call (.c (.func 91 [] [])) [(.t 8)])), (o 10 (.un .neg (.t 9))), (o 2 (.move (.t 10)))]
noncomputable def L99s0 : LCode := (.seq (.reg ((o 3 (.fieldAddr 0 (.t 1))) :: (o 4 (.load .false 1 (.t 3))) :: (o 5 (.un .neg (.t 4))) :: (o 6 (.fieldAddr 1 (.t 1))) :: (o 7 (.load .false 1 (.t 6))) :: L99r0)) .ret)
noncomputable def L99 : LFunc := ⟨11, (.seq (.reg [(o 1 (.box (.t 0))), (o 2 (.move (.c (.int .i64 0))))]) L99s0), [(.t 2)], .false, .none⟩
theorem lp99 : LP 99 = some L99 := by kernel_rfl
noncomputable def L103r0 : List LOper := [(o 14 (.fieldAddr 0 (.t 13))), (o 15 (.load .false 1 (.t 14))), (o 16 (.build [(.int .i64 0), (.int .i64 0)] [(0, (1, (.t 12))), (1, (1, (.t 15)))])), (o 17 (.call (.c (.func 77 [] [])) [(.t 9), (.t 16)])), (o 4 (.alloc [(.int .i64 0), (.int .i64 0)])), (on (.store 2 (.t 4) (.t 17)))]
noncomputable def L103r1 : List LOper := [(oa 28 (.call (.c (.func 82 [] [])) [(.t 24), (.t 27)]) [5, 0]), (oa 29 (.call (.c (.func 81 [] [])) [(.t 18), (.t 23), (.t 28)]) [10, 5, 0]), (o 5 (.alloc [(.int .i64 0), (.int .i64 0)])), (ona (.store 2 (.t 5) (.t 29)) [12, 11, 10, 5, 0])]
noncomputable def L103r2 : List LOper := ((oa 23 (.call (.c (.func 82 [] [])) [(.t 19), (.t 22)]) [0]) :: (o 24 (.load .true 3 (.t 3))) :: (o 25 (.fieldAddr 1 (.t 4))) :: (o 26 (.load .false 1 (.t 25))) :: (o 27 (.bin .mul (.c (.int .i64 1000)) (.t 26))) :: L103r1)
noncomputable def L103r3 : List LOper := [(og 40 (.fieldAddr 0 (.t 39)) 37 .true), (og 41 (.load .false 1 (.t 40)) 37 .true), (og 42 (.fieldAddr 1 (.t 5)) 37 .true), (og 43 (.load .false 1 (.t 42)) 37 .true), (og 44 (.bin .leq (.t 41) (.t 43)) 37 .true), (o 45 (.pick (.t 37) (.t 44) (.c (.bool .false)))), (o 2 (.move (.t 45)))]
noncomputable def L103r4 : List LOper := ((o 35 (.load .false 1 (.t 34))) :: (o 36 (.bin .leq (.t 31) (.t 35))) :: (o 37 (.move (.t 36))) :: (og 38 (.fieldAddr 2 (.t 1)) 37 .true) :: (og 39 (.fieldAddr 1 (.t 38)) 37 .true) :: L103r3)
noncomputable def L103s0 : LCode := (.seq (.reg ((o 30 (.fieldAddr 0 (.t 5))) :: (o 31 (.load .false 1 (.t 30))) :: (o 32 (.fieldAddr 2 (.t 1))) :: (o 33 (.fieldAddr 1 (.t 32))) :: (o 34 (.fieldAddr 1 (.t 33))) :: L103r4)) .ret)
noncomputable def L103s1 : LCode := (.seq (.draw 13 ((o 18 (.call (.c (.func 101 [] [])) [])) :: (o 19 (.load .true 3 (.t 3))) :: (o 20 (.fieldAddr 0 (.t 4))) :: (o 21 (.load .false 1 (.t 20))) :: (o 22 (.bin .mul (.c (.int .i64 1000)) (.t 21))) :: L103r2)) L103s0)
noncomputable def L103s2 : LCode := (.seq (.reg ((o 9 (.load .true 3 (.t 3))) :: (o 10 (.fieldAddr 2 (.t 1))) :: (o 11 (.fieldAddr 0 (.t 10))) :: (o 12 (.load .false 1 (.t 11))) :: (o 13 (.fieldAddr 2 (.t 1))) :: L103r0)) L103s1)
noncomputable def L103s3 : LCode := (.seq (.reg [(o 6 (.fieldAddr 0 (.t 1))), (o 7 (.load .true 2 (.t 6))), (o 8 (.call (.c (.func 76 [] [])) [(.t 7)])), (o 3 (.alloc [(.int .i64 0), (.int .i64 0), (.bool .false)])), (on (.store 3 (.t 3) (.t 8)))]) L103s2)
noncomputable def L103 : LFunc := ⟨46, (.seq (.reg [(o 1 (.box (.t 0))), (o 2 (.move (.c (.bool .false))))]) L103s3), [(.t 2)], .false, .none⟩
theorem lp103 : LP 103 = some L103 := by kernel_rfl
end Go.Hx

