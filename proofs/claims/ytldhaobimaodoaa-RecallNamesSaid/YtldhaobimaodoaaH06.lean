/- The functions of the program, as the plain machine runs them. -/
import Derived.Test.YtldhaobimaodoaaH00
import Derived.Test.YtldhaobimaodoaaProg
import Derived.ProofKit
set_option linter.all false
/- The functions of the program, as the plain machine runs them. -/
namespace Go.Hx
set_option maxRecDepth 100000
abbrev o (d : Nat) (p : LOp) : LOper := ⟨some d, p, none, []⟩
abbrev oa (d : Nat) (p : LOp) (a : List Nat) : LOper := ⟨some d, p, none, a⟩
abbrev og (d : Nat) (p : LOp) (t : Nat) (b : Bool) : LOper := ⟨some d, p, some (t, b), []⟩
abbrev oga (d : Nat) (p : LOp) (t : Nat) (b : Bool) (a : List Nat) : LOper := ⟨some d, p, some (t, b), a⟩
abbrev on (p : LOp) : LOper := ⟨none, p, none, []⟩
abbrev ona (p : LOp) (a : List Nat) : LOper := ⟨none, p, none, a⟩
noncomputable abbrev LP : Nat → Option LFunc := lowP Go.Proofs.Try.prog [18, 20, 23, 24, 26, 30, 33, 35, 39, 42, 44, 50, 51, 52, 55, 59, 65, 66, 67, 70, 71, 73, 78, 80, 82, 83, 84, 86]
noncomputable def L4r0 : List LOper := [(og 19 (.load .false 1 (.t 18)) 17 .true), (og 20 (.len .slice (.t 19)) 17 .true), (og 21 (.bin .gtr (.t 20) (.c (.int .i64 6))) 17 .true), (og 22 (.pick (.t 17) (.t 21) (.c (.bool .false))) 13 .false), (o 23 (.pick (.t 13) (.c (.bool .true)) (.t 22)))]
noncomputable def L4r1 : List LOper := ((og 14 (.load .true 3 (.t 1)) 13 .false) :: (og 15 (.call (.c (.func 21 [] [])) [(.t 14)]) 13 .false) :: (og 16 (.eq (.cell (.i .i64)) .false (.t 15) (.c (.int .i64 0))) 13 .false) :: (og 17 (.move (.t 16)) 13 .false) :: (og 18 (.fieldAddr 2 (.t 1)) 17 .true) :: L4r0)
noncomputable def L4s0 : LCode := (.cond (.t 23) (.seq (.reg [(o 24 (.call (.c (.func 16 [] [])) [])), (o 2 (.move (.t 24)))]) .ret) .skip)
noncomputable def L4r2 : List LOper := [(o 30 (.extract (.t 25) 1)), (o 31 (.extract (.t 25) 2)), (o 3 (.move (.t 29))), (o 4 (.move (.t 30))), (o 5 (.move (.t 31)))]
noncomputable def L4r3 : List LOper := [(o 37 (.extract (.t 32) 1)), (o 6 (.move (.t 36))), (o 7 (.move (.t 37)))]
noncomputable def L4r4 : List LOper := [(og 62 (.call (.c (.func 16 [] [])) []) 61 .true), (o 63 (.pick (.t 61) (.t 62) (.c (.bool .false)))), (o 2 (.move (.t 63)))]
noncomputable def L4r5 : List LOper := ((og 57 (.len .slice (.t 56)) 50 .true) :: (og 58 (.bin .add (.t 55) (.t 57)) 50 .true) :: (og 59 (.eq (.cell (.i .i64)) .false (.t 58) (.c (.int .i64 0))) 50 .true) :: (o 60 (.pick (.t 50) (.t 59) (.c (.bool .false)))) :: (o 61 (.move (.t 60))) :: L4r4)
noncomputable def L4r6 : List LOper := ((og 52 (.len .slice (.t 51)) 50 .true) :: (og 53 (.move (.t 4)) 50 .true) :: (og 54 (.len .slice (.t 53)) 50 .true) :: (og 55 (.bin .add (.t 52) (.t 54)) 50 .true) :: (og 56 (.move (.t 6)) 50 .true) :: L4r5)
noncomputable def L4r7 : List LOper := ((og 47 (.move (.t 8)) 45 .true) :: (og 48 (.eq (.cell (.i .i64)) .false (.t 46) (.t 47)) 45 .true) :: (o 49 (.pick (.t 45) (.t 48) (.c (.bool .false)))) :: (o 50 (.move (.t 49))) :: (og 51 (.move (.t 3)) 50 .true) :: L4r6)
noncomputable def L4s1 : LCode := (.cond (.t 41) (.seq (.reg ((o 42 (.move (.t 5))) :: (o 43 (.move (.t 8))) :: (o 44 (.eq (.cell (.i .i64)) .false (.t 42) (.t 43))) :: (o 45 (.move (.t 44))) :: (og 46 (.move (.t 7)) 45 .true) :: L4r7)) .ret) .skip)
noncomputable def L4s2 : LCode := (.seq (.reg [(o 40 (.move (.t 8))), (o 41 (.eq (.cell (.i .i64)) .true (.t 40) (.c (.int .i64 0))))]) L4s1)
noncomputable def L4r8 : List LOper := [(og 69 (.call (.c (.func 26 [] [])) [(.t 68)]) 66 .false), (og 70 (.call (.c (.func 25 [] [])) [(.t 67), (.t 69)]) 66 .false), (og 71 (.un .not (.t 70)) 66 .false), (o 72 (.pick (.t 66) (.c (.bool .true)) (.t 71)))]
noncomputable def L4s3 : LCode := (.cond (.t 72) (.seq (.reg [(o 2 (.move (.c (.bool .false))))]) .ret) .skip)
noncomputable def L4r9 : List LOper := [(o 86 (.move (.t 85))), (og 87 (.call (.c (.func 16 [] [])) []) 86 .true), (o 88 (.pick (.t 86) (.t 87) (.c (.bool .false)))), (o 2 (.move (.t 88)))]
noncomputable def L4r10 : List LOper := ((og 81 (.move (.t 4)) 78 .true) :: (og 82 (.len .slice (.t 81)) 78 .true) :: (og 83 (.bin .add (.t 80) (.t 82)) 78 .true) :: (og 84 (.eq (.cell (.i .i64)) .false (.t 83) (.c (.int .i64 0))) 78 .true) :: (o 85 (.pick (.t 78) (.t 84) (.c (.bool .false)))) :: L4r9)
noncomputable def L4s4 : LCode := (.cond (.t 75) (.seq (.reg ((o 76 (.move (.t 5))) :: (o 77 (.eq (.cell (.i .i64)) .false (.t 76) (.c (.int .i64 9)))) :: (o 78 (.move (.t 77))) :: (og 79 (.move (.t 3)) 78 .true) :: (og 80 (.len .slice (.t 79)) 78 .true) :: L4r10)) .ret) .skip)
noncomputable def L4r11 : List LOper := [(og 94 (.move (.t 4)) 91 .true), (og 95 (.call (.c (.func 22 [] [])) [(.t 92), (.t 93), (.t 94)]) 91 .true), (o 96 (.pick (.t 91) (.t 95) (.c (.bool .false)))), (o 97 (.move (.t 96))), (og 98 (.call (.c (.func 16 [] [])) []) 97 .true), (o 99 (.pick (.t 97) (.t 98) (.c (.bool .false)))), (o 2 (.move (.t 99)))]
noncomputable def L4s5 : LCode := (.seq (.reg ((o 89 (.move (.t 5))) :: (o 90 (.eq (.cell (.i .i64)) .false (.t 89) (.c (.int .i64 0)))) :: (o 91 (.move (.t 90))) :: (og 92 (.load .true 3 (.t 1)) 91 .true) :: (og 93 (.move (.t 3)) 91 .true) :: L4r11)) .ret)
noncomputable def L4s6 : LCode := (.seq (.seq (.reg [(o 73 (.load .true 3 (.t 1))), (o 74 (.call (.c (.func 27 [] [])) [(.t 73), (.c (.slice .none 0 0)), (.c (.int .i64 0))])), (o 75 (.un .not (.t 74)))]) L4s4) L4s5)
noncomputable def L4s7 : LCode := (.seq (.seq (.reg ((o 64 (.move (.t 7))) :: (o 65 (.eq (.cell (.i .i64)) .true (.t 64) (.c (.int .i64 0)))) :: (o 66 (.move (.t 65))) :: (og 67 (.move (.t 6)) 66 .false) :: (og 68 (.load .true 3 (.t 1)) 66 .false) :: L4r8)) L4s3) L4s6)
noncomputable def L4s8 : LCode := (.seq (.seq (.reg [(o 38 (.load .true 3 (.t 1))), (o 39 (.call (.c (.func 21 [] [])) [(.t 38)])), (o 8 (.move (.t 39)))]) L4s2) L4s7)
noncomputable def L4s9 : LCode := (.seq (.reg ((o 33 (.load .true 3 (.t 1))) :: (o 34 (.call (.c (.func 18 [] [])) [(.t 33)])) :: (o 35 (.call (.c (.func 24 [] [])) [(.t 34)])) :: (o 32 (.move (.t 35))) :: (o 36 (.extract (.t 32) 0)) :: L4r3)) L4s8)
noncomputable def L4s10 : LCode := (.seq (.reg ((o 26 (.load .true 3 (.t 1))) :: (o 27 (.call (.c (.func 18 [] [])) [(.t 26)])) :: (o 28 (.call (.c (.func 23 [] [])) [(.t 27)])) :: (o 25 (.move (.t 28))) :: (o 29 (.extract (.t 25) 0)) :: L4r2)) L4s9)
noncomputable def L4s11 : LCode := (.seq (.seq (.reg ((o 9 (.fieldAddr 2 (.t 1))) :: (o 10 (.load .false 1 (.t 9))) :: (o 11 (.len .slice (.t 10))) :: (o 12 (.bin .gtr (.t 11) (.c (.int .i64 12)))) :: (o 13 (.move (.t 12))) :: L4r1)) L4s0) L4s10)
noncomputable def L4 : LFunc := ⟨100, (.seq (.reg [(o 1 (.box (.t 0))), (o 2 (.move (.c (.bool .false))))]) L4s11), [(.t 2)], .false, .none, viaOff Go.Proofs.Try.prog⟩
noncomputable def L54r0 : List LOper := [(o 16 (.move (.t 21))), (o 22 (.extract (.t 16) 0)), (o 23 (.extract (.t 16) 1)), (o 7 (.alloc [(.bool .false), (.bool .false), (.bool .false), (.bool .false), (.bool .false), (.bool .false), (.bool .false), (.bool .false), (.int .i64 0)])), (on (.store 9 (.t 7) (.t 22))), (o 8 (.move (.t 23)))]
noncomputable def L54r1 : List LOper := [(og 29 (.call (.c (.func 68 [] [])) [(.t 26), (.t 27), (.t 28)]) 25 .true), (og 30 (.call (.c (.func 69 [] [])) [(.t 29)]) 25 .true), (o 31 (.pick (.t 25) (.t 30) (.c (.bool .false))))]
noncomputable def L54r2 : List LOper := [(o 37 (.buildSlice 1 [(.int .i64 0), (.int .i64 0)] [(0, (2, (.t 36)))])), (o 38 (.append 2 16 (.t 32) (.t 37))), (o 5 (.move (.t 38)))]
noncomputable def L54s0 : LCode := (.cond (.t 31) (.reg ((o 32 (.move (.t 5))) :: (o 33 (.load .true 4 (.t 2))) :: (o 34 (.move (.t 1))) :: (o 35 (.load .true 9 (.t 7))) :: (o 36 (.call (.c (.func 68 [] [])) [(.t 33), (.t 34), (.t 35)])) :: L54r2)) .skip)
noncomputable def L54s1 : LCode := (.seq (.reg ((o 24 (.move (.t 8))) :: (o 25 (.move (.t 24))) :: (og 26 (.load .true 4 (.t 2)) 25 .true) :: (og 27 (.move (.t 1)) 25 .true) :: (og 28 (.load .true 9 (.t 7)) 25 .true) :: L54r1)) L54s0)
noncomputable def L54s2 : LCode := (.seq (.reg ((o 17 (.fieldAddr 0 (.t 2))) :: (o 18 (.load .true 3 (.t 17))) :: (o 19 (.load .true 9 (.t 6))) :: (o 20 (.move (.t 1))) :: (o 21 (.call (.c (.func 64 [] [])) [(.t 18), (.t 19), (.t 20)])) :: L54r0)) L54s1)
noncomputable def L54s3 : LCode := (.block 1 (.seq (.reg [(o 14 (.raw (.entry (.tmp 11)))), (o 15 (.extract (.t 14) 0)), (o 6 (.alloc [(.bool .false), (.bool .false), (.bool .false), (.bool .false), (.bool .false), (.bool .false), (.bool .false), (.bool .false), (.int .i64 0)])), (on (.store 9 (.t 6) (.t 15)))]) L54s2))
noncomputable def L54w0 : LCode := (.seq (.reg [(o 12 (.raw (.next (.tmp 11) .false))), (o 13 (.extract (.t 12) 0))]) (.seq (.cond (.t 13) .skip (.exit 0)) L54s3))
noncomputable def L54s4 : LCode := (.seq (.reg [(o 39 (.move (.t 5))), (o 40 (.call (.c (.func 72 [] [])) [(.t 39)])), (on (.store 2 (.t 4) (.t 40)))]) .ret)
noncomputable def L54s5 : LCode := (.seq (.seq (.reg [(o 9 (.fieldAddr 3 (.t 2))), (o 10 (.load .false 1 (.t 9))), (o 11 (.raw (.range 83 (.tmp 10))))]) (.block 0 (.loop L54w0))) L54s4)
noncomputable def L54 : LFunc := ⟨41, (.seq (.reg [(o 2 (.box (.t 0))), (o 4 (.alloc [(.int .i64 0), (.int .i64 0)]))]) (.seq (.reg [(o 5 (.move (.c (.slice .none 0 0))))]) L54s5)), [(.cell 4 .true 2)], .false, .none, viaOff Go.Proofs.Try.prog⟩
theorem lp54 : LP 54 = some L54 := by kernel_rfl
noncomputable def L58r0 : List LOper := [(og 24 (.move (.t 2)) 23 .true), (og 25 (.move (.t 9)) 23 .true), (og 26 (.bin .lss (.t 24) (.t 25)) 23 .true), (o 27 (.pick (.t 23) (.t 26) (.c (.bool .false))))]
noncomputable def L58r1 : List LOper := [(o 33 (.move (.t 1))), (o 34 (.indexA 6 1 .false (.t 32) (.t 33))), (o 10 (.move (.t 34)))]
noncomputable def L58s0 : LCode := (.reg [(o 35 (.move (.t 7))), (o 36 (.move (.t 10))), (o 37 (.move (.t 10))), (o 38 (.build [(.int .i64 0), (.int .i64 0)] [(0, (1, (.t 36))), (1, (1, (.t 37)))])), (o 39 (.buildSlice 1 [(.int .i64 0), (.int .i64 0)] [(0, (2, (.t 38)))])), (o 40 (.append 2 16 (.t 35) (.t 39))), (o 7 (.move (.t 40)))])
noncomputable def L58s1 : LCode := (.cond (.t 27) (.seq (.reg ((o 28 (.fieldAddr 0 (.t 3))) :: (o 29 (.load .true 3 (.t 28))) :: (o 30 (.fieldAddr 0 (.t 8))) :: (o 31 (.load .true 8 (.t 30))) :: (o 32 (.call (.c (.func 74 [] [])) [(.t 29), (.t 31)])) :: L58r1)) L58s0) .skip)
noncomputable def L58s2 : LCode := (.seq (.reg ((o 19 (.fieldAddr 8 (.t 8))) :: (o 20 (.load .false 1 (.t 19))) :: (o 21 (.move (.t 2))) :: (o 22 (.bin .leq (.t 20) (.t 21))) :: (o 23 (.move (.t 22))) :: L58r0)) L58s1)
noncomputable def L58s3 : LCode := (.block 1 (.seq (.reg [(o 16 (.raw (.entry (.tmp 13)))), (o 17 (.extract (.t 16) 0)), (o 18 (.extract (.t 16) 1)), (o 8 (.alloc [(.bool .false), (.bool .false), (.bool .false), (.bool .false), (.bool .false), (.bool .false), (.bool .false), (.bool .false), (.int .i64 0)])), (on (.store 9 (.t 8) (.t 17))), (o 9 (.move (.t 18)))]) L58s2))
noncomputable def L58w0 : LCode := (.seq (.reg [(o 14 (.raw (.next (.tmp 13) .false))), (o 15 (.extract (.t 14) 0))]) (.seq (.cond (.t 15) .skip (.exit 0)) L58s3))
noncomputable def L58s4 : LCode := (.seq (.reg [(o 41 (.move (.t 7))), (o 42 (.call (.c (.func 72 [] [])) [(.t 41)])), (on (.store 2 (.t 6) (.t 42)))]) .ret)
noncomputable def L58s5 : LCode := (.seq (.seq (.reg [(o 11 (.fieldAddr 3 (.t 3))), (o 12 (.load .false 1 (.t 11))), (o 13 (.raw (.range 83 (.tmp 12))))]) (.block 0 (.loop L58w0))) L58s4)
noncomputable def L58 : LFunc := ⟨43, (.seq (.reg [(o 3 (.box (.t 0))), (o 6 (.alloc [(.int .i64 0), (.int .i64 0)]))]) (.seq (.reg [(o 7 (.move (.c (.slice .none 0 0))))]) L58s5)), [(.cell 6 .true 2)], .false, .none, viaOff Go.Proofs.Try.prog⟩
theorem lp58 : LP 58 = some L58 := by kernel_rfl
noncomputable def L64r0 : List LOper := [(oa 26 (.call (.c (.func 77 [] [])) [(.t 21), (.t 25)]) [9, 3]), (oa 27 (.build [(.bool .false), (.bool .false), (.bool .false), (.bool .false), (.bool .false), (.bool .false), (.bool .false), (.bool .false), (.int .i64 0)] [(0, (8, (.t 19))), (8, (1, (.t 26)))]) [10, 9, 3]), (o 9 (.alloc [(.bool .false), (.bool .false), (.bool .false), (.bool .false), (.bool .false), (.bool .false), (.bool .false), (.bool .false), (.int .i64 0)])), (ona (.store 9 (.t 9) (.t 27)) [12, 10, 9, 3])]
noncomputable def L64r1 : List LOper := ((o 21 (.load .false 1 (.t 20))) :: (o 22 (.fieldAddr 3 (.t 8))) :: (o 23 (.fieldAddr 0 (.t 22))) :: (o 24 (.load .false 1 (.t 23))) :: (o 25 (.buildSlice 1 [(.int .i64 0)] [(0, (1, (.t 24)))])) :: L64r0)
noncomputable def L64r2 : List LOper := [(oga 48 (.fieldAddr 3 (.t 8)) 45 .true [11]), (oga 49 (.fieldAddr 1 (.t 48)) 45 .true [11]), (oga 50 (.load .false 1 (.t 49)) 45 .true [11]), (oga 51 (.bin .leq (.t 47) (.t 50)) 45 .true [11]), (oa 52 (.pick (.t 45) (.t 51) (.c (.bool .false))) [11]), (oa 10 (.move (.t 52)) [11])]
noncomputable def L64r3 : List LOper := ((oga 43 (.bin .leq (.t 35) (.t 42)) 33 .true [11]) :: (oa 44 (.pick (.t 33) (.t 43) (.c (.bool .false))) [11]) :: (oa 45 (.move (.t 44)) [11]) :: (oga 46 (.fieldAddr 8 (.t 9)) 45 .true [11]) :: (oga 47 (.load .false 1 (.t 46)) 45 .true [11]) :: L64r2)
noncomputable def L64r4 : List LOper := ((og 38 (.load .true 8 (.t 37)) 33 .true) :: (og 39 (.call (.c (.func 74 [] [])) [(.t 36), (.t 38)]) 33 .true) :: (og 40 (.fieldAddr 0 (.t 8)) 33 .true) :: (og 41 (.load .false 1 (.t 40)) 33 .true) :: (oga 42 (.indexA 6 1 .false (.t 39) (.t 41)) 33 .true [11]) :: L64r3)
noncomputable def L64r5 : List LOper := ((o 33 (.move (.t 32))) :: (og 34 (.fieldAddr 2 (.t 8)) 33 .true) :: (og 35 (.load .false 1 (.t 34)) 33 .true) :: (og 36 (.load .true 3 (.t 3)) 33 .true) :: (og 37 (.fieldAddr 0 (.t 4)) 33 .true) :: L64r4)
noncomputable def L64s0 : LCode := (.seq (.reg [(o 53 (.load .true 9 (.t 9))), (o 54 (.move (.t 10))), (on (.store 9 (.t 6) (.t 53))), (o 7 (.move (.t 54)))]) .ret)
noncomputable def L64s1 : LCode := (.seq (.draw 14 ((o 28 (.move (.t 2))) :: (o 29 (.fieldAddr 0 (.t 4))) :: (o 30 (.indexAddrA 8 1 (.t 29) (.t 28))) :: (o 31 (.load .false 1 (.t 30))) :: (o 32 (.un .not (.t 31))) :: L64r5)) L64s0)
noncomputable def L64s2 : LCode := (.seq (.draw 13 ((o 16 (.fieldAddr 0 (.t 4))) :: (o 17 (.load .true 8 (.t 16))) :: (o 18 (.move (.t 2))) :: (o 19 (.call (.c (.func 76 [] [])) [(.t 17), (.t 18)])) :: (o 20 (.fieldAddr 8 (.t 4))) :: L64r1)) L64s1)
noncomputable def L64s3 : LCode := (.seq (.reg [(o 11 (.fieldAddr 2 (.t 3))), (o 12 (.load .false 1 (.t 11))), (o 13 (.move (.t 2))), (o 14 (.indexAddrS 5 (.t 12) (.t 13))), (o 15 (.load .true 5 (.t 14))), (o 8 (.alloc [(.int .i64 0), (.int .i64 0), (.int .i64 0), (.int .i64 0), (.int .i64 0)])), (on (.store 5 (.t 8) (.t 15)))]) L64s2)
noncomputable def L64 : LFunc := ⟨55, (.seq (.reg [(o 3 (.box (.t 0))), (o 4 (.box (.t 1))), (o 6 (.alloc [(.bool .false), (.bool .false), (.bool .false), (.bool .false), (.bool .false), (.bool .false), (.bool .false), (.bool .false), (.int .i64 0)])), (o 7 (.move (.c (.bool .false))))]) L64s3), [(.cell 6 .true 9), (.t 7)], .false, .none, viaOff Go.Proofs.Try.prog⟩
theorem lp64 : LP 64 = some L64 := by kernel_rfl
noncomputable def L68r0 : List LOper := [(oa 22 (.call (.c (.func 81 [] [])) [(.t 12), (.t 21)]) [14]), (oa 23 (.build [(.int .i64 0), (.int .i64 0)] [(0, (1, (.t 8))), (1, (1, (.t 22)))]) [15, 14]), (ona (.store 2 (.t 6) (.t 23)) [15, 14])]
noncomputable def L68r1 : List LOper := ((o 17 (.indexAddrS 5 (.t 15) (.t 16))) :: (o 18 (.fieldAddr 3 (.t 17))) :: (o 19 (.fieldAddr 1 (.t 18))) :: (o 20 (.load .false 1 (.t 19))) :: (o 21 (.buildSlice 1 [(.int .i64 0)] [(0, (1, (.t 20)))])) :: L68r0)
noncomputable def L68r2 : List LOper := ((o 12 (.lookup (.row [.b, .b, .b, .b, .b, .b, .b, .b, (.i .i64)]) (.int .i64 0) .false (.t 10) (.t 11))) :: (o 13 (.fieldAddr 0 (.t 3))) :: (o 14 (.fieldAddr 2 (.t 13))) :: (o 15 (.load .false 1 (.t 14))) :: (o 16 (.move (.t 1))) :: L68r1)
noncomputable def L68s0 : LCode := (.seq (.draw 16 ((o 7 (.fieldAddr 8 (.t 5))) :: (o 8 (.load .false 1 (.t 7))) :: (o 9 (.fieldAddr 3 (.t 3))) :: (o 10 (.load .false 1 (.t 9))) :: (o 11 (.load .true 9 (.t 5))) :: L68r2)) .ret)
noncomputable def L68 : LFunc := ⟨24, (.seq (.reg [(o 3 (.box (.t 0))), (o 5 (.box (.t 2))), (o 6 (.alloc [(.int .i64 0), (.int .i64 0)]))]) L68s0), [(.cell 6 .true 2)], .false, .none, viaOff Go.Proofs.Try.prog⟩
theorem lp68 : LP 68 = some L68 := by kernel_rfl
noncomputable def L69s0 : LCode := (.seq (.reg [(o 3 (.fieldAddr 0 (.t 1))), (o 4 (.load .false 1 (.t 3))), (o 5 (.fieldAddr 1 (.t 1))), (o 6 (.load .false 1 (.t 5))), (o 7 (.bin .leq (.t 4) (.t 6))), (o 2 (.move (.t 7)))]) .ret)
noncomputable def L69 : LFunc := ⟨8, (.seq (.reg [(o 1 (.box (.t 0))), (o 2 (.move (.c (.bool .false))))]) L69s0), [(.t 2)], .false, .none, viaOff Go.Proofs.Try.prog⟩
theorem lp69 : LP 69 = some L69 := by kernel_rfl
noncomputable def L72r0 : List LOper := [(o 4 (.alloc [.nilFunc, .nilFunc])), (on (.store 2 (.t 3) (.t 7))), (on (.store 2 (.t 4) (.t 8)))]
noncomputable def L72r1 : List LOper := [(oa 14 (.call (.c (.func 87 [] [])) [(.t 12), (.t 13)]) [2]), (oa 15 (.build [(.int .i64 0), (.int .i64 0)] [(0, (1, (.t 11))), (1, (1, (.t 14)))]) [5, 2]), (ona (.store 2 (.t 2) (.t 15)) [5, 2])]
noncomputable def L72s0 : LCode := (.seq (.draw 4 ((o 9 (.load .true 2 (.t 3))) :: (o 10 (.move (.t 0))) :: (o 11 (.call (.c (.func 87 [] [])) [(.t 9), (.t 10)])) :: (o 12 (.load .true 2 (.t 4))) :: (o 13 (.move (.t 0))) :: L72r1)) .ret)
noncomputable def L72s1 : LCode := (.seq (.reg ((o 6 (.call (.c (.func 86 [] [])) [])) :: (o 5 (.move (.t 6))) :: (o 7 (.extract (.t 5) 0)) :: (o 8 (.extract (.t 5) 1)) :: (o 3 (.alloc [.nilFunc, .nilFunc])) :: L72r0)) L72s0)
noncomputable def L72 : LFunc := ⟨16, (.seq (.reg [(o 2 (.alloc [(.int .i64 0), (.int .i64 0)]))]) L72s1), [(.cell 2 .true 2)], .false, .none, viaOff Go.Proofs.Try.prog⟩
theorem lp72 : LP 72 = some L72 := by kernel_rfl
noncomputable def L74r0 : List LOper := [(o 27 (.load .false 1 (.t 26))), (o 28 (.bin .sub (.t 25) (.t 27))), (o 29 (.indexAddrA 6 1 (.t 5) (.t 23))), (on (.store 1 (.t 29) (.t 28)))]
noncomputable def L74r1 : List LOper := [(o 35 (.load .false 1 (.t 34))), (o 36 (.bin .add (.t 33) (.t 35))), (o 37 (.indexAddrA 6 1 (.t 5) (.t 31))), (on (.store 1 (.t 37) (.t 36)))]
noncomputable def L74s0 : LCode := (.draw 0 ((o 30 (.fieldAddr 1 (.t 7))) :: (o 31 (.load .false 1 (.t 30))) :: (o 32 (.indexAddrA 6 1 (.t 5) (.t 31))) :: (o 33 (.load .false 1 (.t 32))) :: (o 34 (.fieldAddr 2 (.t 7))) :: L74r1))
noncomputable def L74s1 : LCode := (.cond (.t 21) (.seq (.draw 0 ((o 22 (.fieldAddr 0 (.t 7))) :: (o 23 (.load .false 1 (.t 22))) :: (o 24 (.indexAddrA 6 1 (.t 5) (.t 23))) :: (o 25 (.load .false 1 (.t 24))) :: (o 26 (.fieldAddr 2 (.t 7))) :: L74r0)) L74s0) .skip)
noncomputable def L74s2 : LCode := (.seq (.reg [(o 19 (.move (.t 6))), (o 20 (.indexAddrA 8 1 (.t 3) (.t 19))), (o 21 (.load .false 1 (.t 20)))]) L74s1)
noncomputable def L74s3 : LCode := (.reg [(o 38 (.bin .add (.t 14) (.c (.int .i64 1)))), (o 14 (.move (.t 38)))])
noncomputable def L74s4 : LCode := (.seq (.block 1 (.seq (.reg [(o 16 (.move (.t 14))), (o 17 (.indexAddrS 5 (.t 12) (.t 14))), (o 18 (.load .true 5 (.t 17))), (o 7 (.alloc [(.int .i64 0), (.int .i64 0), (.int .i64 0), (.int .i64 0), (.int .i64 0)])), (o 6 (.move (.t 16))), (on (.store 5 (.t 7) (.t 18)))]) L74s2)) L74s3)
noncomputable def L74w0 : LCode := (.seq (.reg [(o 15 (.bin .lss (.t 14) (.t 13)))]) (.seq (.cond (.t 15) .skip (.exit 0)) L74s4))
noncomputable def L74s5 : LCode := (.seq (.reg [(o 39 (.load .true 6 (.t 5))), (on (.store 6 (.t 4) (.t 39)))]) .ret)
noncomputable def L74s6 : LCode := (.seq (.seq (.reg [(o 11 (.fieldAddr 2 (.t 2))), (o 12 (.load .false 1 (.t 11))), (o 13 (.len .slice (.t 12))), (o 14 (.move (.c (.int .i64 0))))]) (.block 0 (.loop L74w0))) L74s5)
noncomputable def L74s7 : LCode := (.seq (.reg [(o 8 (.fieldAddr 1 (.t 2))), (o 9 (.load .false 1 (.t 8))), (o 10 (.build [(.int .i64 0), (.int .i64 0), (.int .i64 0), (.int .i64 0), (.int .i64 0), (.int .i64 0)] [(0, (1, (.t 9)))])), (o 5 (.alloc [(.int .i64 0), (.int .i64 0), (.int .i64 0), (.int .i64 0), (.int .i64 0), (.int .i64 0)])), (on (.store 6 (.t 5) (.t 10)))]) L74s6)
noncomputable def L74 : LFunc := ⟨40, (.seq (.reg [(o 2 (.box (.t 0))), (o 3 (.box (.t 1))), (o 4 (.alloc [(.int .i64 0), (.int .i64 0), (.int .i64 0), (.int .i64 0), (.int .i64 0), (.int .i64 0)]))]) L74s7), [(.cell 4 .true 6)], .false, .none, viaOff Go.Proofs.Try.prog⟩
theorem lp74 : LP 74 = some L74 := by kernel_rfl
noncomputable def L76s0 : LCode := (.seq (.reg [(o 7 (.load .true 8 (.t 2))), (on (.store 8 (.t 4) (.t 7)))]) .ret)
noncomputable def L76s1 : LCode := (.seq (.reg [(o 5 (.move (.t 1))), (o 6 (.indexAddrA 8 1 (.t 2) (.t 5))), (on (.store 1 (.t 6) (.c (.bool .true))))]) L76s0)
noncomputable def L76 : LFunc := ⟨8, (.seq (.reg [(o 2 (.box (.t 0))), (o 4 (.alloc [(.bool .false), (.bool .false), (.bool .false), (.bool .false), (.bool .false), (.bool .false), (.bool .false), (.bool .false)]))]) L76s1), [(.cell 4 .true 8)], .false, .none, viaOff Go.Proofs.Try.prog⟩
theorem lp76 : LP 76 = some L76 := by kernel_rfl
noncomputable def L77s0 : LCode := (.cond (.t 15) (.reg [(o 16 (.move (.t 6))), (o 0 (.move (.t 16)))]) .skip)
noncomputable def L77s1 : LCode := (.seq (.reg [(o 13 (.move (.t 6))), (o 14 (.move (.t 0))), (o 15 (.bin .gtr (.t 13) (.t 14)))]) L77s0)
noncomputable def L77s2 : LCode := (.reg [(o 17 (.bin .add (.t 9) (.c (.int .i64 1)))), (o 9 (.move (.t 17)))])
noncomputable def L77s3 : LCode := (.seq (.block 1 (.seq (.reg [(o 11 (.indexAddrS 1 (.t 7) (.t 9))), (o 12 (.load .false 1 (.t 11))), (o 6 (.move (.t 12)))]) L77s1)) L77s2)
noncomputable def L77w0 : LCode := (.seq (.reg [(o 10 (.bin .lss (.t 9) (.t 8)))]) (.seq (.cond (.t 10) .skip (.exit 0)) L77s3))
noncomputable def L77s4 : LCode := (.seq (.reg [(o 18 (.move (.t 0))), (o 4 (.move (.t 18)))]) .ret)
noncomputable def L77s5 : LCode := (.seq (.seq (.reg [(o 7 (.move (.t 1))), (o 8 (.len .slice (.t 7))), (o 9 (.move (.c (.int .i64 0))))]) (.block 0 (.loop L77w0))) L77s4)
noncomputable def L77 : LFunc := ⟨19, (.seq (.reg [(o 4 (.move (.c (.int .i64 0))))]) L77s5), [(.t 4)], .false, .none, viaOff Go.Proofs.Try.prog⟩
theorem lp77 : LP 77 = some L77 := by kernel_rfl
noncomputable def L81s0 : LCode := (.cond (.t 15) (.reg [(o 16 (.move (.t 6))), (o 0 (.move (.t 16)))]) .skip)
noncomputable def L81s1 : LCode := (.seq (.reg [(o 13 (.move (.t 6))), (o 14 (.move (.t 0))), (o 15 (.bin .lss (.t 13) (.t 14)))]) L81s0)
noncomputable def L81s2 : LCode := (.reg [(o 17 (.bin .add (.t 9) (.c (.int .i64 1)))), (o 9 (.move (.t 17)))])
noncomputable def L81s3 : LCode := (.seq (.block 1 (.seq (.reg [(o 11 (.indexAddrS 1 (.t 7) (.t 9))), (o 12 (.load .false 1 (.t 11))), (o 6 (.move (.t 12)))]) L81s1)) L81s2)
noncomputable def L81w0 : LCode := (.seq (.reg [(o 10 (.bin .lss (.t 9) (.t 8)))]) (.seq (.cond (.t 10) .skip (.exit 0)) L81s3))
noncomputable def L81s4 : LCode := (.seq (.reg [(o 18 (.move (.t 0))), (o 4 (.move (.t 18)))]) .ret)
noncomputable def L81s5 : LCode := (.seq (.seq (.reg [(o 7 (.move (.t 1))), (o 8 (.len .slice (.t 7))), (o 9 (.move (.c (.int .i64 0))))]) (.block 0 (.loop L81w0))) L81s4)
noncomputable def L81 : LFunc := ⟨19, (.seq (.reg [(o 4 (.move (.c (.int .i64 0))))]) L81s5), [(.t 4)], .false, .none, viaOff Go.Proofs.Try.prog⟩
theorem lp81 : LP 81 = some L81 := by kernel_rfl
noncomputable def L86s0 : LCode := (.seq (.reg [(o 2 (.build [.nilFunc, .nilFunc] [(0, (1, (.c (.func 89 [] [])))), (1, (1, (.c (.func 81 [] []))))])), (o 3 (.build [.nilFunc, .nilFunc] [(0, (1, (.c (.func 90 [] [])))), (1, (1, (.c (.func 77 [] []))))])), (on (.store 2 (.t 0) (.t 2))), (on (.store 2 (.t 1) (.t 3)))]) .ret)
noncomputable def L86 : LFunc := ⟨4, (.seq (.reg [(o 0 (.alloc [.nilFunc, .nilFunc])), (o 1 (.alloc [.nilFunc, .nilFunc]))]) L86s0), [(.cell 0 .true 2), (.cell 1 .true 2)], .true, .none, viaOff Go.Proofs.Try.prog⟩
theorem lp86 : LP 86 = some L86 := by kernel_rfl
noncomputable def L87r0 : List LOper := [(o 22 (.buildSlice 1 [(.int .i64 0)] [(0, (1, (.t 21)))])), (o 23 (.append 1 8 (.t 17) (.t 22))), (o 5 (.move (.t 23)))]
noncomputable def L87s0 : LCode := (.reg ((o 17 (.move (.t 5))) :: (o 18 (.fieldAddr 0 (.t 2))) :: (o 19 (.load .false 1 (.t 18))) :: (o 20 (.load .true 2 (.t 7))) :: (o 21 (.call (.t 19) [(.t 20)])) :: L87r0))
noncomputable def L87s1 : LCode := (.reg [(o 24 (.bin .add (.t 13) (.c (.int .i64 1)))), (o 13 (.move (.t 24)))])
noncomputable def L87s2 : LCode := (.seq (.block 1 (.seq (.reg [(o 15 (.indexAddrS 2 (.t 11) (.t 13))), (o 16 (.load .true 2 (.t 15))), (o 7 (.alloc [(.int .i64 0), (.int .i64 0)])), (on (.store 2 (.t 7) (.t 16)))]) L87s0)) L87s1)
noncomputable def L87w0 : LCode := (.seq (.reg [(o 14 (.bin .lss (.t 13) (.t 12)))]) (.seq (.cond (.t 14) .skip (.exit 0)) L87s2))
noncomputable def L87r1 : List LOper := [(o 30 (.move (.t 5))), (o 31 (.sliceS 1 (.t 30) (.some (.c (.int .i64 1))) .none)), (o 32 (.call (.t 26) [(.t 29), (.t 31)])), (oa 4 (.move (.t 32)) [7])]
noncomputable def L87s3 : LCode := (.seq (.draw 7 ((o 25 (.fieldAddr 1 (.t 2))) :: (o 26 (.load .false 1 (.t 25))) :: (o 27 (.move (.t 5))) :: (o 28 (.indexAddrS 1 (.t 27) (.c (.int .i64 0)))) :: (o 29 (.load .false 1 (.t 28))) :: L87r1)) .ret)
noncomputable def L87s4 : LCode := (.seq (.seq (.reg [(o 11 (.move (.t 1))), (o 12 (.len .slice (.t 11))), (o 13 (.move (.c (.int .i64 0))))]) (.block 0 (.loop L87w0))) L87s3)
noncomputable def L87s5 : LCode := (.seq (.reg [(o 8 (.move (.t 1))), (o 9 (.len .slice (.t 8))), (o 10 (.makeSlice [(.int .i64 0)] 8 (.c (.int .i64 0)) (.t 9))), (o 5 (.move (.t 10)))]) L87s4)
noncomputable def L87 : LFunc := ⟨33, (.seq (.reg [(o 2 (.box (.t 0))), (o 4 (.move (.c (.int .i64 0))))]) L87s5), [(.t 4)], .false, .none, viaOff Go.Proofs.Try.prog⟩
theorem lp87 : LP 87 = some L87 := by kernel_rfl
noncomputable def L89s0 : LCode := (.seq (.reg [(o 3 (.fieldAddr 0 (.t 1))), (o 4 (.load .false 1 (.t 3))), (o 2 (.move (.t 4)))]) .ret)
noncomputable def L89 : LFunc := ⟨5, (.seq (.reg [(o 1 (.box (.t 0))), (o 2 (.move (.c (.int .i64 0))))]) L89s0), [(.t 2)], .false, .none, viaOff Go.Proofs.Try.prog⟩
theorem lp89 : LP 89 = some L89 := by kernel_rfl
noncomputable def L90s0 : LCode := (.seq (.reg [(o 3 (.fieldAddr 1 (.t 1))), (o 4 (.load .false 1 (.t 3))), (o 2 (.move (.t 4)))]) .ret)
noncomputable def L90 : LFunc := ⟨5, (.seq (.reg [(o 1 (.box (.t 0))), (o 2 (.move (.c (.int .i64 0))))]) L90s0), [(.t 2)], .false, .none, viaOff Go.Proofs.Try.prog⟩
theorem lp90 : LP 90 = some L90 := by kernel_rfl
end Go.Hx

