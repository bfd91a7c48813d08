/- The functions of the program, as the plain machine runs them. -/
import Derived.Test.YtldhaobimaodoaaH00
import Derived.Test.YtldhaobimaodoaaProg
import Derived.ProofKit
set_option linter.all false
/- The functions of the program, as the plain machine runs them. -/
namespace Go.Hx
set_option maxRecDepth 100000
abbrev o (d : Nat) (p : LOp) : LOper := ⟨some d, p, none, []⟩
abbrev oa (d : Nat) (p : LOp) (a : List Nat) : LOper := ⟨some d, p, none, a⟩
abbrev og (d : Nat) (p : LOp) (t : Nat) (b : Bool) : LOper := ⟨some d, p, some (t, b), []⟩
abbrev oga (d : Nat) (p : LOp) (t : Nat) (b : Bool) (a : List Nat) : LOper := ⟨some d, p, some (t, b), a⟩
abbrev on (p : LOp) : LOper := ⟨none, p, none, []⟩
abbrev ona (p : LOp) (a : List Nat) : LOper := ⟨none, p, none, a⟩
noncomputable abbrev LP : Nat → Option LFunc := lowP Go.Proofs.Try.prog [18, 20, 23, 24, 26, 30, 33, 35, 39, 42, 44, 50, 51, 52, 55, 59, 65, 66, 67, 70, 71, 73, 78, 80, 82, 83, 84, 86]
noncomputable def L3r0 : List LOper := [(og 19 (.move (.t 2)) 18 .false), (og 20 (.len .slice (.t 19)) 18 .false), (og 21 (.bin .gtr (.t 20) (.c (.int .i64 12))) 18 .false), (o 22 (.pick (.t 18) (.c (.bool .true)) (.t 21)))]
noncomputable def L3r1 : List LOper := ((og 14 (.move (.t 1)) 13 .false) :: (og 15 (.len .slice (.t 14)) 13 .false) :: (og 16 (.bin .gtr (.t 15) (.c (.int .i64 12))) 13 .false) :: (o 17 (.pick (.t 13) (.c (.bool .true)) (.t 16))) :: (o 18 (.move (.t 17))) :: L3r0)
noncomputable def L3s0 : LCode := (.cond (.t 22) (.seq (.reg [(o 23 (.call (.c (.func 16 [] [])) [])), (o 6 (.move (.t 23)))]) .ret) .skip)
noncomputable def L3r2 : List LOper := [(o 32 (.call (.c (.func 20 [] [])) [(.t 31)])), (o 33 (.call (.c (.func 19 [] [])) [(.t 28), (.t 30), (.t 32)])), (o 8 (.move (.t 33)))]
noncomputable def L3r3 : List LOper := [(o 49 (.pick (.t 38) (.t 48) (.c (.bool .false)))), (o 50 (.move (.t 49))), (og 51 (.call (.c (.func 16 [] [])) []) 50 .true), (o 52 (.pick (.t 50) (.t 51) (.c (.bool .false)))), (o 6 (.move (.t 52)))]
noncomputable def L3r4 : List LOper := ((og 44 (.move (.t 1)) 42 .true) :: (og 45 (.move (.t 2)) 42 .true) :: (og 46 (.call (.c (.func 22 [] [])) [(.t 43), (.t 44), (.t 45)]) 42 .true) :: (og 47 (.pick (.t 42) (.t 46) (.c (.bool .false))) 38 .true) :: (og 48 (.eq (.cell .b) .false (.t 39) (.t 47)) 38 .true) :: L3r3)
noncomputable def L3r5 : List LOper := ((og 39 (.move (.t 8)) 38 .true) :: (og 40 (.move (.t 7)) 38 .true) :: (og 41 (.eq (.cell (.i .i64)) .false (.t 40) (.c (.int .i64 0))) 38 .true) :: (og 42 (.move (.t 41)) 38 .true) :: (og 43 (.load .true 3 (.t 3)) 42 .true) :: L3r4)
noncomputable def L3s1 : LCode := (.seq (.reg ((o 34 (.move (.t 7))) :: (o 35 (.load .true 3 (.t 3))) :: (o 36 (.call (.c (.func 21 [] [])) [(.t 35)])) :: (o 37 (.eq (.cell (.i .i64)) .false (.t 34) (.t 36))) :: (o 38 (.move (.t 37))) :: L3r5)) .ret)
noncomputable def L3s2 : LCode := (.seq (.reg ((o 27 (.load .true 3 (.t 3))) :: (o 28 (.call (.c (.func 18 [] [])) [(.t 27)])) :: (o 29 (.move (.t 1))) :: (o 30 (.call (.c (.func 20 [] [])) [(.t 29)])) :: (o 31 (.move (.t 2))) :: L3r2)) L3s1)
noncomputable def L3s3 : LCode := (.seq (.reg [(o 24 (.load .true 3 (.t 3))), (o 25 (.call (.c (.func 18 [] [])) [(.t 24)])), (o 26 (.call (.c (.func 17 [] [])) [(.t 25)])), (o 7 (.move (.t 26)))]) L3s2)
noncomputable def L3s4 : LCode := (.seq (.seq (.reg ((o 9 (.fieldAddr 2 (.t 3))) :: (o 10 (.load .false 1 (.t 9))) :: (o 11 (.len .slice (.t 10))) :: (o 12 (.bin .gtr (.t 11) (.c (.int .i64 12)))) :: (o 13 (.move (.t 12))) :: L3r1)) L3s0) L3s3)
noncomputable def L3 : LFunc := ⟨53, (.seq (.reg [(o 3 (.box (.t 0))), (o 6 (.move (.c (.bool .false))))]) L3s4), [(.t 6)], .false, .none, viaOff Go.Proofs.Try.prog⟩
theorem lp3 : LP 3 = some L3 := by kernel_rfl
noncomputable def L4r0 : List LOper := [(og 19 (.load .false 1 (.t 18)) 17 .true), (og 20 (.len .slice (.t 19)) 17 .true), (og 21 (.bin .gtr (.t 20) (.c (.int .i64 6))) 17 .true), (og 22 (.pick (.t 17) (.t 21) (.c (.bool .false))) 13 .false), (o 23 (.pick (.t 13) (.c (.bool .true)) (.t 22)))]
noncomputable def L4r1 : List LOper := ((og 14 (.load .true 3 (.t 1)) 13 .false) :: (og 15 (.call (.c (.func 21 [] [])) [(.t 14)]) 13 .false) :: (og 16 (.eq (.cell (.i .i64)) .false (.t 15) (.c (.int .i64 0))) 13 .false) :: (og 17 (.move (.t 16)) 13 .false) :: (og 18 (.fieldAddr 2 (.t 1)) 17 .true) :: L4r0)
noncomputable def L4s0 : LCode := (.cond (.t 23) (.seq (.reg [(o 24 (.call (.c (.func 16 [] [])) [])), (o 2 (.move (.t 24)))]) .ret) .skip)
noncomputable def L4r2 : List LOper := [(o 30 (.extract (.t 25) 1)), (o 31 (.extract (.t 25) 2)), (o 3 (.move (.t 29))), (o 4 (.move (.t 30))), (o 5 (.move (.t 31)))]
noncomputable def L4r3 : List LOper := [(o 37 (.extract (.t 32) 1)), (o 6 (.move (.t 36))), (o 7 (.move (.t 37)))]
noncomputable def L4r4 : List LOper := [(og 62 (.call (.c (.func 16 [] [])) []) 61 .true), (o 63 (.pick (.t 61) (.t 62) (.c (.bool .false)))), (o 2 (.move (.t 63)))]
noncomputable def L4r5 : List LOper := ((og 57 (.len .slice (.t 56)) 50 .true) :: (og 58 (.bin .add (.t 55) (.t 57)) 50 .true) :: (og 59 (.eq (.cell (.i .i64)) .false (.t 58) (.c (.int .i64 0))) 50 .true) :: (o 60 (.pick (.t 50) (.t 59) (.c (.bool .false)))) :: (o 61 (.move (.t 60))) :: L4r4)
noncomputable def L4r6 : List LOper := ((og 52 (.len .slice (.t 51)) 50 .true) :: (og 53 (.move (.t 4)) 50 .true) :: (og 54 (.len .slice (.t 53)) 50 .true) :: (og 55 (.bin .add (.t 52) (.t 54)) 50 .true) :: (og 56 (.move (.t 6)) 50 .true) :: L4r5)
noncomputable def L4r7 : List LOper := ((og 47 (.move (.t 8)) 45 .true) :: (og 48 (.eq (.cell (.i .i64)) .false (.t 46) (.t 47)) 45 .true) :: (o 49 (.pick (.t 45) (.t 48) (.c (.bool .false)))) :: (o 50 (.move (.t 49))) :: (og 51 (.move (.t 3)) 50 .true) :: L4r6)
noncomputable def L4s1 : LCode := (.cond (.t 41) (.seq (.reg ((o 42 (.move (.t 5))) :: (o 43 (.move (.t 8))) :: (o 44 (.eq (.cell (.i .i64)) .false (.t 42) (.t 43))) :: (o 45 (.move (.t 44))) :: (og 46 (.move (.t 7)) 45 .true) :: L4r7)) .ret) .skip)
noncomputable def L4s2 : LCode := (.seq (.reg [(o 40 (.move (.t 8))), (o 41 (.eq (.cell (.i .i64)) .true (.t 40) (.c (.int .i64 0))))]) L4s1)
noncomputable def L4r8 : List LOper := [(og 69 (.call (.c (.func 26 [] [])) [(.t 68)]) 66 .false), (og 70 (.call (.c (.func 25 [] [])) [(.t 67), (.t 69)]) 66 .false), (og 71 (.un .not (.t 70)) 66 .false), (o 72 (.pick (.t 66) (.c (.bool .true)) (.t 71)))]
noncomputable def L4s3 : LCode := (.cond (.t 72) (.seq (.reg [(o 2 (.move (.c (.bool .false))))]) .ret) .skip)
noncomputable def L4r9 : List LOper := [(o 86 (.move (.t 85))), (og 87 (.call (.c (.func 16 [] [])) []) 86 .true), (o 88 (.pick (.t 86) (.t 87) (.c (.bool .false)))), (o 2 (.move (.t 88)))]
noncomputable def L4r10 : List LOper := ((og 81 (.move (.t 4)) 78 .true) :: (og 82 (.len .slice (.t 81)) 78 .true) :: (og 83 (.bin .add (.t 80) (.t 82)) 78 .true) :: (og 84 (.eq (.cell (.i .i64)) .false (.t 83) (.c (.int .i64 0))) 78 .true) :: (o 85 (.pick (.t 78) (.t 84) (.c (.bool .false)))) :: L4r9)
noncomputable def L4s4 : LCode := (.cond (.t 75) (.seq (.reg ((o 76 (.move (.t 5))) :: (o 77 (.eq (.cell (.i .i64)) .false (.t 76) (.c (.int .i64 9)))) :: (o 78 (.move (.t 77))) :: (og 79 (.move (.t 3)) 78 .true) :: (og 80 (.len .slice (.t 79)) 78 .true) :: L4r10)) .ret) .skip)
noncomputable def L4r11 : List LOper := [(og 94 (.move (.t 4)) 91 .true), (og 95 (.call (.c (.func 22 [] [])) [(.t 92), (.t 93), (.t 94)]) 91 .true), (o 96 (.pick (.t 91) (.t 95) (.c (.bool .false)))), (o 97 (.move (.t 96))), (og 98 (.call (.c (.func 16 [] [])) []) 97 .true), (o 99 (.pick (.t 97) (.t 98) (.c (.bool .false)))), (o 2 (.move (.t 99)))]
noncomputable def L4s5 : LCode := (.seq (.reg ((o 89 (.move (.t 5))) :: (o 90 (.eq (.cell (.i .i64)) .false (.t 89) (.c (.int .i64 0)))) :: (o 91 (.move (.t 90))) :: (og 92 (.load .true 3 (.t 1)) 91 .true) :: (og 93 (.move (.t 3)) 91 .true) :: L4r11)) .ret)
noncomputable def L4s6 : LCode := (.seq (.seq (.reg [(o 73 (.load .true 3 (.t 1))), (o 74 (.call (.c (.func 27 [] [])) [(.t 73), (.c (.slice .none 0 0)), (.c (.int .i64 0))])), (o 75 (.un .not (.t 74)))]) L4s4) L4s5)
noncomputable def L4s7 : LCode := (.seq (.seq (.reg ((o 64 (.move (.t 7))) :: (o 65 (.eq (.cell (.i .i64)) .true (.t 64) (.c (.int .i64 0)))) :: (o 66 (.move (.t 65))) :: (og 67 (.move (.t 6)) 66 .false) :: (og 68 (.load .true 3 (.t 1)) 66 .false) :: L4r8)) L4s3) L4s6)
noncomputable def L4s8 : LCode := (.seq (.seq (.reg [(o 38 (.load .true 3 (.t 1))), (o 39 (.call (.c (.func 21 [] [])) [(.t 38)])), (o 8 (.move (.t 39)))]) L4s2) L4s7)
noncomputable def L4s9 : LCode := (.seq (.reg ((o 33 (.load .true 3 (.t 1))) :: (o 34 (.call (.c (.func 18 [] [])) [(.t 33)])) :: (o 35 (.call (.c (.func 24 [] [])) [(.t 34)])) :: (o 32 (.move (.t 35))) :: (o 36 (.extract (.t 32) 0)) :: L4r3)) L4s8)
noncomputable def L4s10 : LCode := (.seq (.reg ((o 26 (.load .true 3 (.t 1))) :: (o 27 (.call (.c (.func 18 [] [])) [(.t 26)])) :: (o 28 (.call (.c (.func 23 [] [])) [(.t 27)])) :: (o 25 (.move (.t 28))) :: (o 29 (.extract (.t 25) 0)) :: L4r2)) L4s9)
noncomputable def L4s11 : LCode := (.seq (.seq (.reg ((o 9 (.fieldAddr 2 (.t 1))) :: (o 10 (.load .false 1 (.t 9))) :: (o 11 (.len .slice (.t 10))) :: (o 12 (.bin .gtr (.t 11) (.c (.int .i64 12)))) :: (o 13 (.move (.t 12))) :: L4r1)) L4s0) L4s10)
noncomputable def L4 : LFunc := ⟨100, (.seq (.reg [(o 1 (.box (.t 0))), (o 2 (.move (.c (.bool .false))))]) L4s11), [(.t 2)], .false, .none, viaOff Go.Proofs.Try.prog⟩
noncomputable def L17s0 : LCode := (.seq (.reg [(o 3 (.load .true 3 (.t 1))), (o 4 (.call (.c (.func 46 [] [])) [(.t 3)])), (o 2 (.move (.t 4)))]) .ret)
noncomputable def L17 : LFunc := ⟨5, (.seq (.reg [(o 1 (.box (.t 0))), (o 2 (.move (.c (.int .i64 0))))]) L17s0), [(.t 2)], .false, .none, viaOff Go.Proofs.Try.prog⟩
theorem lp17 : LP 17 = some L17 := by kernel_rfl
noncomputable def L18r0 : List LOper := [(o 38 (.build [(.int .i64 0), (.int .i64 0), (.int .i64 0), (.int .i64 0), (.int .i64 0)] [(0, (1, (.t 26))), (1, (1, (.t 28))), (2, (1, (.t 30))), (3, (2, (.t 37)))])), (o 39 (.buildSlice 1 [(.int .i64 0), (.int .i64 0), (.int .i64 0), (.int .i64 0), (.int .i64 0)] [(0, (5, (.t 38)))])), (o 40 (.append 5 40 (.t 24) (.t 39))), (o 41 (.fieldAddr 2 (.t 3))), (on (.store 1 (.t 41) (.t 40)))]
noncomputable def L18r1 : List LOper := ((o 33 (.load .false 1 (.t 32))) :: (o 34 (.fieldAddr 3 (.t 5))) :: (o 35 (.fieldAddr 1 (.t 34))) :: (o 36 (.load .false 1 (.t 35))) :: (o 37 (.build [(.int .i64 0), (.int .i64 0)] [(0, (1, (.t 33))), (1, (1, (.t 36)))])) :: L18r0)
noncomputable def L18r2 : List LOper := ((o 28 (.load .false 1 (.t 27))) :: (o 29 (.fieldAddr 2 (.t 5))) :: (o 30 (.load .false 1 (.t 29))) :: (o 31 (.fieldAddr 3 (.t 5))) :: (o 32 (.fieldAddr 0 (.t 31))) :: L18r1)
noncomputable def L18s0 : LCode := (.reg ((o 23 (.fieldAddr 2 (.t 3))) :: (o 24 (.load .false 1 (.t 23))) :: (o 25 (.fieldAddr 0 (.t 5))) :: (o 26 (.load .false 1 (.t 25))) :: (o 27 (.fieldAddr 1 (.t 5))) :: L18r2))
noncomputable def L18s1 : LCode := (.reg [(o 16 (.move (.t 4))), (o 17 (.bin .add (.t 16) (.c (.int .i64 1)))), (o 4 (.move (.t 17)))])
noncomputable def L18s2 : LCode := (.seq (.block 1 (.seq (.reg [(o 18 (.fieldAddr 2 (.t 1))), (o 19 (.load .false 1 (.t 18))), (o 20 (.move (.t 4))), (o 21 (.indexAddrS 5 (.t 19) (.t 20))), (o 22 (.load .true 5 (.t 21))), (o 5 (.alloc [(.int .i64 0), (.int .i64 0), (.int .i64 0), (.int .i64 0), (.int .i64 0)])), (on (.store 5 (.t 5) (.t 22)))]) L18s0)) L18s1)
noncomputable def L18w0 : LCode := (.seq (.seq (.reg [(o 11 (.move (.t 4))), (o 12 (.fieldAddr 2 (.t 1))), (o 13 (.load .false 1 (.t 12))), (o 14 (.len .slice (.t 13))), (o 15 (.bin .lss (.t 11) (.t 14)))]) (.cond (.t 15) .skip (.exit 0))) L18s2)
noncomputable def L18s3 : LCode := (.seq (.reg [(o 42 (.load .true 3 (.t 3))), (on (.store 3 (.t 2) (.t 42)))]) .ret)
noncomputable def L18s4 : LCode := (.seq (.seq (.reg [(o 4 (.move (.c (.int .i64 0))))]) (.block 0 (.loop L18w0))) L18s3)
noncomputable def L18s5 : LCode := (.seq (.reg [(o 6 (.fieldAddr 0 (.t 1))), (o 7 (.load .false 1 (.t 6))), (o 8 (.fieldAddr 1 (.t 1))), (o 9 (.load .false 1 (.t 8))), (o 10 (.build [(.int .i64 0), (.int .i64 0), (.slice .none 0 0)] [(0, (1, (.t 7))), (1, (1, (.t 9)))])), (o 3 (.alloc [(.int .i64 0), (.int .i64 0), (.slice .none 0 0)])), (on (.store 3 (.t 3) (.t 10)))]) L18s4)
noncomputable def L18 : LFunc := ⟨43, (.seq (.reg [(o 1 (.box (.t 0))), (o 2 (.alloc [(.int .i64 0), (.int .i64 0), (.slice .none 0 0)]))]) L18s5), [(.cell 2 .true 3)], .true, .none, viaOff Go.Proofs.Try.prog⟩
theorem lp18 : LP 18 = some L18 := by kernel_rfl
noncomputable def L19r0 : List LOper := [(og 12 (.move (.t 1)) 10 .true), (og 13 (.move (.t 2)) 10 .true), (og 14 (.call (.c (.func 47 [] [])) [(.t 11), (.t 12), (.t 13)]) 10 .true), (o 15 (.pick (.t 10) (.t 14) (.c (.bool .false)))), (o 6 (.move (.t 15)))]
noncomputable def L19s0 : LCode := (.seq (.reg ((o 7 (.load .true 3 (.t 3))) :: (o 8 (.call (.c (.func 46 [] [])) [(.t 7)])) :: (o 9 (.eq (.cell (.i .i64)) .false (.t 8) (.c (.int .i64 0)))) :: (o 10 (.move (.t 9))) :: (og 11 (.load .true 3 (.t 3)) 10 .true) :: L19r0)) .ret)
noncomputable def L19 : LFunc := ⟨16, (.seq (.reg [(o 3 (.box (.t 0))), (o 6 (.move (.c (.bool .false))))]) L19s0), [(.t 6)], .false, .none, viaOff Go.Proofs.Try.prog⟩
theorem lp19 : LP 19 = some L19 := by kernel_rfl
noncomputable def L20s0 : LCode := (.seq (.reg [(o 3 (.buildSlice 0 [(.int .i64 0)] [])), (o 4 (.move (.t 0))), (o 5 (.append 1 8 (.t 3) (.t 4))), (o 2 (.move (.t 5)))]) .ret)
noncomputable def L20 : LFunc := ⟨6, (.seq (.reg [(o 2 (.move (.c (.slice .none 0 0))))]) L20s0), [(.t 2)], .true, .none, viaOff Go.Proofs.Try.prog⟩
theorem lp20 : LP 20 = some L20 := by kernel_rfl
noncomputable def L21s0 : LCode := (.seq (.reg [(o 3 (.load .true 3 (.t 1))), (o 4 (.call (.c (.func 48 [] [])) [(.t 3)])), (o 2 (.move (.t 4)))]) .ret)
noncomputable def L21 : LFunc := ⟨5, (.seq (.reg [(o 1 (.box (.t 0))), (o 2 (.move (.c (.int .i64 0))))]) L21s0), [(.t 2)], .false, .none, viaOff Go.Proofs.Try.prog⟩
theorem lp21 : LP 21 = some L21 := by kernel_rfl
noncomputable def L22r0 : List LOper := [(og 19 (.load .false 1 (.t 18)) 15 .false), (og 20 (.len .slice (.t 19)) 15 .false), (og 21 (.eq (.cell (.i .i64)) .true (.t 17) (.t 20)) 15 .false), (o 22 (.pick (.t 15) (.c (.bool .true)) (.t 21)))]
noncomputable def L22r1 : List LOper := ((o 14 (.eq (.cell (.i .i64)) .true (.t 10) (.t 13))) :: (o 15 (.move (.t 14))) :: (og 16 (.move (.t 2)) 15 .false) :: (og 17 (.len .slice (.t 16)) 15 .false) :: (og 18 (.fieldAddr 2 (.t 3)) 15 .false) :: L22r0)
noncomputable def L22s0 : LCode := (.cond (.t 22) (.seq (.reg [(o 6 (.move (.c (.bool .false))))]) .ret) .skip)
noncomputable def L22r2 : List LOper := [(oga 54 (.indexAddrS 1 (.t 49) (.t 53)) 39 .false [8]), (oga 55 (.load .false 1 (.t 54)) 39 .false [8]), (oga 56 (.call (.c (.func 49 [] [])) [(.t 40), (.t 43), (.t 44), (.t 48), (.t 55)]) 39 .false [8]), (oga 57 (.un .not (.t 56)) 39 .false [27, 8]), (oa 58 (.pick (.t 39) (.c (.bool .true)) (.t 57)) [27, 8])]
noncomputable def L22r3 : List LOper := ((oga 49 (.move (.t 2)) 39 .false [8]) :: (oga 50 (.move (.t 1)) 39 .false [8]) :: (oga 51 (.move (.t 8)) 39 .false [8]) :: (oga 52 (.indexAddrS 1 (.t 50) (.t 51)) 39 .false [8]) :: (oga 53 (.load .false 1 (.t 52)) 39 .false [8]) :: L22r2)
noncomputable def L22r4 : List LOper := ((oga 44 (.move (.t 7)) 39 .false [8]) :: (oga 45 (.move (.t 1)) 39 .false [8]) :: (oga 46 (.move (.t 8)) 39 .false [8]) :: (oga 47 (.indexAddrS 1 (.t 45) (.t 46)) 39 .false [8]) :: (oga 48 (.load .false 1 (.t 47)) 39 .false [8]) :: L22r3)
noncomputable def L22r5 : List LOper := ((oa 39 (.move (.t 38)) [8]) :: (oga 40 (.load .true 3 (.t 3)) 39 .false [8]) :: (oga 41 (.move (.t 1)) 39 .false [8]) :: (oga 42 (.move (.t 8)) 39 .false [8]) :: (oga 43 (.sliceS 1 (.t 41) .none (.some (.t 42))) 39 .false [8]) :: L22r4)
noncomputable def L22r6 : List LOper := ((o 34 (.load .false 1 (.t 33))) :: (o 35 (.len .slice (.t 34))) :: (o 36 (.bin .sub (.t 35) (.c (.int .i64 1)))) :: (o 37 (.call (.c (.func 31 [] [])) [(.t 32), (.c (.int .i64 0)), (.t 36)])) :: (oa 38 (.un .not (.t 37)) [8]) :: L22r5)
noncomputable def L22s1 : LCode := (.cond (.t 58) (.seq (.reg [(o 6 (.move (.c (.bool .false))))]) .ret) .skip)
noncomputable def L22r7 : List LOper := [(o 64 (.indexAddrS 1 (.t 59) (.t 63))), (o 65 (.load .false 1 (.t 64))), (o 7 (.move (.t 65)))]
noncomputable def L22s2 : LCode := (.reg ((o 59 (.move (.t 2))) :: (o 60 (.move (.t 1))) :: (o 61 (.move (.t 8))) :: (o 62 (.indexAddrS 1 (.t 60) (.t 61))) :: (o 63 (.load .false 1 (.t 62))) :: L22r7))
noncomputable def L22s3 : LCode := (.reg [(o 27 (.move (.t 8))), (o 28 (.bin .add (.t 27) (.c (.int .i64 1)))), (o 8 (.move (.t 28)))])
noncomputable def L22s4 : LCode := (.seq (.block 1 (.seq (.seq (.draw 27 ((o 29 (.move (.t 1))) :: (o 30 (.move (.t 8))) :: (o 31 (.indexAddrS 1 (.t 29) (.t 30))) :: (o 32 (.load .false 1 (.t 31))) :: (o 33 (.fieldAddr 2 (.t 3))) :: L22r6)) L22s1) L22s2)) L22s3)
noncomputable def L22w0 : LCode := (.seq (.seq (.reg [(o 23 (.move (.t 8))), (o 24 (.move (.t 1))), (o 25 (.len .slice (.t 24))), (o 26 (.bin .lss (.t 23) (.t 25)))]) (.cond (.t 26) .skip (.exit 0))) L22s4)
noncomputable def L22s5 : LCode := (.seq (.seq (.reg [(o 8 (.move (.c (.int .i64 0))))]) (.block 0 (.loop L22w0))) (.seq (.reg [(o 6 (.move (.c (.bool .true))))]) .ret))
noncomputable def L22s6 : LCode := (.seq (.seq (.reg ((o 9 (.move (.t 1))) :: (o 10 (.len .slice (.t 9))) :: (o 11 (.fieldAddr 2 (.t 3))) :: (o 12 (.load .false 1 (.t 11))) :: (o 13 (.len .slice (.t 12))) :: L22r1)) L22s0) (.seq (.reg [(o 7 (.move (.c (.int .i64 0))))]) L22s5))
noncomputable def L22 : LFunc := ⟨66, (.seq (.reg [(o 3 (.box (.t 0))), (o 6 (.move (.c (.bool .false))))]) L22s6), [(.t 6)], .false, .none, viaOff Go.Proofs.Try.prog⟩
theorem lp22 : LP 22 = some L22 := by kernel_rfl
noncomputable def L31r0 : List LOper := [(og 12 (.move (.t 2)) 10 .true), (og 13 (.bin .leq (.t 11) (.t 12)) 10 .true), (o 14 (.pick (.t 10) (.t 13) (.c (.bool .false)))), (o 6 (.move (.t 14)))]
noncomputable def L31s0 : LCode := (.seq (.reg ((o 7 (.move (.t 0))) :: (o 8 (.move (.t 1))) :: (o 9 (.bin .geq (.t 7) (.t 8))) :: (o 10 (.move (.t 9))) :: (og 11 (.move (.t 0)) 10 .true) :: L31r0)) .ret)
noncomputable def L31 : LFunc := ⟨15, (.seq (.reg [(o 6 (.move (.c (.bool .false))))]) L31s0), [(.t 6)], .false, .none, viaOff Go.Proofs.Try.prog⟩
theorem lp31 : LP 31 = some L31 := by kernel_rfl
noncomputable def L40s0 : LCode := (.cond (.t 17) (.seq (.reg [(o 4 (.move (.c (.bool .true))))]) .ret) .skip)
noncomputable def L40s1 : LCode := (.reg [(o 10 (.move (.t 5))), (o 11 (.bin .add (.t 10) (.c (.int .i64 1)))), (o 5 (.move (.t 11)))])
noncomputable def L40s2 : LCode := (.seq (.block 1 (.seq (.reg [(o 12 (.move (.t 0))), (o 13 (.move (.t 5))), (o 14 (.indexAddrS 1 (.t 12) (.t 13))), (o 15 (.load .false 1 (.t 14))), (o 16 (.move (.t 1))), (o 17 (.eq (.cell (.i .i64)) .false (.t 15) (.t 16)))]) L40s0)) L40s1)
noncomputable def L40w0 : LCode := (.seq (.seq (.reg [(o 6 (.move (.t 5))), (o 7 (.move (.t 0))), (o 8 (.len .slice (.t 7))), (o 9 (.bin .lss (.t 6) (.t 8)))]) (.cond (.t 9) .skip (.exit 0))) L40s2)
noncomputable def L40s3 : LCode := (.seq (.seq (.reg [(o 5 (.move (.c (.int .i64 0))))]) (.block 0 (.loop L40w0))) (.seq (.reg [(o 4 (.move (.c (.bool .false))))]) .ret))
noncomputable def L40 : LFunc := ⟨18, (.seq (.reg [(o 4 (.move (.c (.bool .false))))]) L40s3), [(.t 4)], .false, .none, viaOff Go.Proofs.Try.prog⟩
theorem lp40 : LP 40 = some L40 := by kernel_rfl
noncomputable def L46s0 : LCode := (.cond (.t 6) (.seq (.reg [(o 2 (.move (.c (.int .i64 3))))]) .ret) .skip)
noncomputable def L46r0 : List LOper := [(og 27 (.load .false 1 (.t 26)) 25 .false), (og 28 (.load .true 3 (.t 1)) 25 .false), (og 29 (.makeFunc 62 [(.t 28)] []) 25 .false), (og 30 (.call (.c (.func 61 [] [])) [(.t 27), (.t 29)]) 25 .false), (og 31 (.un .not (.t 30)) 25 .false), (o 32 (.pick (.t 25) (.c (.bool .true)) (.t 31)))]
noncomputable def L46r1 : List LOper := ((og 22 (.load .false 1 (.t 21)) 20 .false) :: (og 23 (.bin .gtr (.t 22) (.c (.int .i64 1000))) 20 .false) :: (o 24 (.pick (.t 20) (.c (.bool .true)) (.t 23))) :: (o 25 (.move (.t 24))) :: (og 26 (.fieldAddr 2 (.t 1)) 25 .false) :: L46r0)
noncomputable def L46r2 : List LOper := ((og 17 (.load .false 1 (.t 16)) 15 .false) :: (og 18 (.bin .lss (.t 17) (.c (.int .i64 0))) 15 .false) :: (o 19 (.pick (.t 15) (.c (.bool .true)) (.t 18))) :: (o 20 (.move (.t 19))) :: (og 21 (.fieldAddr 1 (.t 1)) 20 .false) :: L46r1)
noncomputable def L46r3 : List LOper := ((og 12 (.load .false 1 (.t 11)) 10 .false) :: (og 13 (.bin .gtr (.t 12) (.c (.int .i64 6))) 10 .false) :: (o 14 (.pick (.t 10) (.c (.bool .true)) (.t 13))) :: (o 15 (.move (.t 14))) :: (og 16 (.fieldAddr 1 (.t 1)) 15 .false) :: L46r2)
noncomputable def L46s1 : LCode := (.cond (.t 32) (.seq (.reg [(o 2 (.move (.c (.int .i64 1))))]) .ret) .skip)
noncomputable def L46s2 : LCode := (.seq (.seq (.reg ((o 7 (.fieldAddr 0 (.t 1))) :: (o 8 (.load .false 1 (.t 7))) :: (o 9 (.bin .lss (.t 8) (.c (.int .i64 1)))) :: (o 10 (.move (.t 9))) :: (og 11 (.fieldAddr 0 (.t 1)) 10 .false) :: L46r3)) L46s1) (.seq (.reg [(o 2 (.move (.c (.int .i64 0))))]) .ret))
noncomputable def L46s3 : LCode := (.seq (.seq (.reg [(o 3 (.fieldAddr 2 (.t 1))), (o 4 (.load .false 1 (.t 3))), (o 5 (.len .slice (.t 4))), (o 6 (.bin .gtr (.t 5) (.c (.int .i64 8))))]) L46s0) L46s2)
noncomputable def L46 : LFunc := ⟨33, (.seq (.reg [(o 1 (.box (.t 0))), (o 2 (.move (.c (.int .i64 0))))]) L46s3), [(.t 2)], .false, .none, viaOff Go.Proofs.Try.prog⟩
theorem lp46 : LP 46 = some L46 := by kernel_rfl
noncomputable def L47r0 : List LOper := [(og 27 (.move (.t 1)) 26 .false), (og 28 (.load .true 3 (.t 3)) 26 .false), (og 29 (.makeFunc 53 [(.t 28)] []) 26 .false), (og 30 (.call (.c (.func 63 [] [])) [(.t 27), (.t 29)]) 26 .false), (og 31 (.un .not (.t 30)) 26 .false), (o 32 (.pick (.t 26) (.c (.bool .true)) (.t 31)))]
noncomputable def L47r1 : List LOper := ((og 22 (.load .false 1 (.t 21)) 18 .false) :: (og 23 (.len .slice (.t 22)) 18 .false) :: (og 24 (.eq (.cell (.i .i64)) .true (.t 20) (.t 23)) 18 .false) :: (o 25 (.pick (.t 18) (.c (.bool .true)) (.t 24))) :: (o 26 (.move (.t 25))) :: L47r0)
noncomputable def L47r2 : List LOper := ((o 17 (.eq (.cell (.i .i64)) .true (.t 13) (.t 16))) :: (o 18 (.move (.t 17))) :: (og 19 (.move (.t 2)) 18 .false) :: (og 20 (.len .slice (.t 19)) 18 .false) :: (og 21 (.fieldAddr 2 (.t 3)) 18 .false) :: L47r1)
noncomputable def L47s0 : LCode := (.cond (.t 32) (.seq (.reg [(o 6 (.move (.c (.bool .false))))]) .ret) .skip)
noncomputable def L47r3 : List LOper := [(o 45 (.extract (.t 40) 0)), (o 46 (.extract (.t 40) 1)), (o 10 (.alloc [(.bool .false), (.bool .false), (.bool .false), (.bool .false), (.bool .false), (.bool .false), (.bool .false), (.bool .false), (.int .i64 0)])), (on (.store 9 (.t 10) (.t 45))), (o 11 (.move (.t 46)))]
noncomputable def L47r4 : List LOper := [(og 67 (.fieldAddr 3 (.t 66)) 58 .false), (og 68 (.fieldAddr 1 (.t 67)) 58 .false), (og 69 (.load .false 1 (.t 68)) 58 .false), (og 70 (.bin .gtr (.t 62) (.t 69)) 58 .false), (o 71 (.pick (.t 58) (.c (.bool .true)) (.t 70)))]
noncomputable def L47r5 : List LOper := ((og 62 (.load .false 1 (.t 61)) 58 .false) :: (og 63 (.fieldAddr 2 (.t 3)) 58 .false) :: (og 64 (.load .false 1 (.t 63)) 58 .false) :: (og 65 (.move (.t 9)) 58 .false) :: (og 66 (.indexAddrS 5 (.t 64) (.t 65)) 58 .false) :: L47r4)
noncomputable def L47r6 : List LOper := ((o 57 (.pick (.t 49) (.c (.bool .true)) (.t 56))) :: (o 58 (.move (.t 57))) :: (og 59 (.move (.t 2)) 58 .false) :: (og 60 (.move (.t 9)) 58 .false) :: (og 61 (.indexAddrS 1 (.t 59) (.t 60)) 58 .false) :: L47r5)
noncomputable def L47r7 : List LOper := ((og 52 (.indexAddrS 1 (.t 50) (.t 51)) 49 .false) :: (og 53 (.load .false 1 (.t 52)) 49 .false) :: (og 54 (.fieldAddr 8 (.t 10)) 49 .false) :: (og 55 (.load .false 1 (.t 54)) 49 .false) :: (og 56 (.bin .lss (.t 53) (.t 55)) 49 .false) :: L47r6)
noncomputable def L47s1 : LCode := (.cond (.t 71) (.seq (.reg [(o 6 (.move (.c (.bool .false))))]) .ret) .skip)
noncomputable def L47r8 : List LOper := [(o 77 (.load .false 1 (.t 76))), (o 78 (.build [(.bool .false), (.bool .false), (.bool .false), (.bool .false), (.bool .false), (.bool .false), (.bool .false), (.bool .false), (.int .i64 0)] [(0, (8, (.t 73))), (8, (1, (.t 77)))])), (on (.store 9 (.t 7) (.t 78)))]
noncomputable def L47s2 : LCode := (.draw 0 ((o 72 (.fieldAddr 0 (.t 10))) :: (o 73 (.load .true 8 (.t 72))) :: (o 74 (.move (.t 2))) :: (o 75 (.move (.t 9))) :: (o 76 (.indexAddrS 1 (.t 74) (.t 75))) :: L47r8))
noncomputable def L47s3 : LCode := (.seq (.seq (.draw 0 ((o 47 (.move (.t 11))) :: (o 48 (.un .not (.t 47))) :: (o 49 (.move (.t 48))) :: (og 50 (.move (.t 2)) 49 .false) :: (og 51 (.move (.t 9)) 49 .false) :: L47r7)) L47s1) L47s2)
noncomputable def L47s4 : LCode := (.seq (.reg ((o 41 (.load .true 3 (.t 3))) :: (o 42 (.load .true 9 (.t 7))) :: (o 43 (.move (.t 9))) :: (o 44 (.call (.c (.func 64 [] [])) [(.t 41), (.t 42), (.t 43)])) :: (o 40 (.move (.t 44))) :: L47r3)) L47s3)
noncomputable def L47s5 : LCode := (.reg [(o 79 (.bin .add (.t 36) (.c (.int .i64 1)))), (o 36 (.move (.t 79)))])
noncomputable def L47s6 : LCode := (.seq (.block 1 (.seq (.reg [(o 38 (.indexAddrS 1 (.t 34) (.t 36))), (o 39 (.load .false 1 (.t 38))), (o 9 (.move (.t 39)))]) L47s4)) L47s5)
noncomputable def L47w0 : LCode := (.seq (.reg [(o 37 (.bin .lss (.t 36) (.t 35)))]) (.seq (.cond (.t 37) .skip (.exit 0)) L47s6))
noncomputable def L47s7 : LCode := (.seq (.seq (.reg [(o 34 (.move (.t 1))), (o 35 (.len .slice (.t 34))), (o 36 (.move (.c (.int .i64 0))))]) (.block 0 (.loop L47w0))) (.seq (.reg [(o 6 (.move (.c (.bool .true))))]) .ret))
noncomputable def L47s8 : LCode := (.seq (.reg [(o 33 (.build [(.bool .false), (.bool .false), (.bool .false), (.bool .false), (.bool .false), (.bool .false), (.bool .false), (.bool .false), (.int .i64 0)] [])), (o 7 (.alloc [(.bool .false), (.bool .false), (.bool .false), (.bool .false), (.bool .false), (.bool .false), (.bool .false), (.bool .false), (.int .i64 0)])), (on (.store 9 (.t 7) (.t 33)))]) L47s7)
noncomputable def L47s9 : LCode := (.seq (.seq (.reg ((o 12 (.move (.t 1))) :: (o 13 (.len .slice (.t 12))) :: (o 14 (.fieldAddr 2 (.t 3))) :: (o 15 (.load .false 1 (.t 14))) :: (o 16 (.len .slice (.t 15))) :: L47r2)) L47s0) L47s8)
noncomputable def L47 : LFunc := ⟨80, (.seq (.reg [(o 3 (.box (.t 0))), (o 6 (.move (.c (.bool .false))))]) L47s9), [(.t 6)], .false, .none, viaOff Go.Proofs.Try.prog⟩
theorem lp47 : LP 47 = some L47 := by kernel_rfl
noncomputable def L48s0 : LCode := (.cond (.t 8) (.seq (.reg [(o 2 (.move (.c (.int .i64 3))))]) .ret) .skip)
noncomputable def L48r0 : List LOper := [(og 14 (.fieldAddr 1 (.t 1)) 13 .false), (og 15 (.load .false 1 (.t 14)) 13 .false), (og 16 (.call (.c (.func 31 [] [])) [(.t 15), (.c (.int .i64 0)), (.c (.int .i64 1000))]) 13 .false), (og 17 (.un .not (.t 16)) 13 .false), (o 18 (.pick (.t 13) (.c (.bool .true)) (.t 17)))]
noncomputable def L48s1 : LCode := (.cond (.t 18) (.seq (.reg [(o 2 (.move (.c (.int .i64 1))))]) .ret) .skip)
noncomputable def L48r1 : List LOper := [(og 71 (.fieldAddr 3 (.t 4)) 70 .false), (og 72 (.fieldAddr 1 (.t 71)) 70 .false), (og 73 (.load .false 1 (.t 72)) 70 .false), (og 74 (.bin .gtr (.t 73) (.c (.int .i64 100))) 70 .false), (o 75 (.pick (.t 70) (.c (.bool .true)) (.t 74)))]
noncomputable def L48r2 : List LOper := ((og 66 (.load .false 1 (.t 65)) 60 .false) :: (og 67 (.call (.c (.func 31 [] [])) [(.t 63), (.c (.int .i64 0)), (.t 66)]) 60 .false) :: (og 68 (.un .not (.t 67)) 60 .false) :: (o 69 (.pick (.t 60) (.c (.bool .true)) (.t 68))) :: (o 70 (.move (.t 69))) :: L48r1)
noncomputable def L48r3 : List LOper := ((og 61 (.fieldAddr 3 (.t 4)) 60 .false) :: (og 62 (.fieldAddr 0 (.t 61)) 60 .false) :: (og 63 (.load .false 1 (.t 62)) 60 .false) :: (og 64 (.fieldAddr 3 (.t 4)) 60 .false) :: (og 65 (.fieldAddr 1 (.t 64)) 60 .false) :: L48r2)
noncomputable def L48r4 : List LOper := ((og 56 (.load .false 1 (.t 55)) 54 .false) :: (og 57 (.call (.c (.func 31 [] [])) [(.t 56), (.c (.int .i64 1)), (.c (.int .i64 1000))]) 54 .false) :: (og 58 (.un .not (.t 57)) 54 .false) :: (o 59 (.pick (.t 54) (.c (.bool .true)) (.t 58))) :: (o 60 (.move (.t 59))) :: L48r3)
noncomputable def L48r5 : List LOper := ((og 51 (.load .false 1 (.t 50)) 47 .false) :: (og 52 (.eq (.cell (.i .i64)) .false (.t 49) (.t 51)) 47 .false) :: (o 53 (.pick (.t 47) (.c (.bool .true)) (.t 52))) :: (o 54 (.move (.t 53))) :: (og 55 (.fieldAddr 2 (.t 4)) 54 .false) :: L48r4)
noncomputable def L48r6 : List LOper := ((o 46 (.pick (.t 38) (.c (.bool .true)) (.t 45))) :: (o 47 (.move (.t 46))) :: (og 48 (.fieldAddr 0 (.t 4)) 47 .false) :: (og 49 (.load .false 1 (.t 48)) 47 .false) :: (og 50 (.fieldAddr 1 (.t 4)) 47 .false) :: L48r5)
noncomputable def L48r7 : List LOper := ((og 41 (.fieldAddr 0 (.t 1)) 38 .false) :: (og 42 (.load .false 1 (.t 41)) 38 .false) :: (og 43 (.bin .sub (.t 42) (.c (.int .i64 1))) 38 .false) :: (og 44 (.call (.c (.func 31 [] [])) [(.t 40), (.c (.int .i64 0)), (.t 43)]) 38 .false) :: (og 45 (.un .not (.t 44)) 38 .false) :: L48r6)
noncomputable def L48r8 : List LOper := ((o 36 (.call (.c (.func 31 [] [])) [(.t 32), (.c (.int .i64 0)), (.t 35)])) :: (o 37 (.un .not (.t 36))) :: (o 38 (.move (.t 37))) :: (og 39 (.fieldAddr 1 (.t 4)) 38 .false) :: (og 40 (.load .false 1 (.t 39)) 38 .false) :: L48r7)
noncomputable def L48s2 : LCode := (.cond (.t 75) (.seq (.reg [(o 2 (.move (.c (.int .i64 1))))]) .ret) .skip)
noncomputable def L48s3 : LCode := (.seq (.reg ((o 31 (.fieldAddr 0 (.t 4))) :: (o 32 (.load .false 1 (.t 31))) :: (o 33 (.fieldAddr 0 (.t 1))) :: (o 34 (.load .false 1 (.t 33))) :: (o 35 (.bin .sub (.t 34) (.c (.int .i64 1)))) :: L48r8)) L48s2)
noncomputable def L48s4 : LCode := (.reg [(o 24 (.move (.t 3))), (o 25 (.bin .add (.t 24) (.c (.int .i64 1)))), (o 3 (.move (.t 25)))])
noncomputable def L48s5 : LCode := (.seq (.block 1 (.seq (.reg [(o 26 (.fieldAddr 2 (.t 1))), (o 27 (.load .false 1 (.t 26))), (o 28 (.move (.t 3))), (o 29 (.indexAddrS 5 (.t 27) (.t 28))), (o 30 (.load .true 5 (.t 29))), (o 4 (.alloc [(.int .i64 0), (.int .i64 0), (.int .i64 0), (.int .i64 0), (.int .i64 0)])), (on (.store 5 (.t 4) (.t 30)))]) L48s3)) L48s4)
noncomputable def L48w0 : LCode := (.seq (.seq (.reg [(o 19 (.move (.t 3))), (o 20 (.fieldAddr 2 (.t 1))), (o 21 (.load .false 1 (.t 20))), (o 22 (.len .slice (.t 21))), (o 23 (.bin .lss (.t 19) (.t 22)))]) (.cond (.t 23) .skip (.exit 0))) L48s5)
noncomputable def L48s6 : LCode := (.seq (.seq (.reg [(o 3 (.move (.c (.int .i64 0))))]) (.block 0 (.loop L48w0))) (.seq (.reg [(o 2 (.move (.c (.int .i64 0))))]) .ret))
noncomputable def L48s7 : LCode := (.seq (.seq (.reg ((o 9 (.fieldAddr 0 (.t 1))) :: (o 10 (.load .false 1 (.t 9))) :: (o 11 (.call (.c (.func 31 [] [])) [(.t 10), (.c (.int .i64 1)), (.c (.int .i64 6))])) :: (o 12 (.un .not (.t 11))) :: (o 13 (.move (.t 12))) :: L48r0)) L48s1) L48s6)
noncomputable def L48s8 : LCode := (.seq (.seq (.reg [(o 5 (.fieldAddr 2 (.t 1))), (o 6 (.load .false 1 (.t 5))), (o 7 (.len .slice (.t 6))), (o 8 (.bin .gtr (.t 7) (.c (.int .i64 8))))]) L48s0) L48s7)
noncomputable def L48 : LFunc := ⟨76, (.seq (.reg [(o 1 (.box (.t 0))), (o 2 (.move (.c (.int .i64 0))))]) L48s8), [(.t 2)], .false, .none, viaOff Go.Proofs.Try.prog⟩
theorem lp48 : LP 48 = some L48 := by kernel_rfl
noncomputable def L49r0 : List LOper := [(oga 42 (.fieldAddr 2 (.t 11)) 36 .true [12, 2]), (oga 43 (.load .false 1 (.t 42)) 36 .true [12, 2]), (oga 44 (.bin .geq (.t 41) (.t 43)) 36 .true [24, 12, 2]), (oa 45 (.pick (.t 36) (.t 44) (.c (.bool .false))) [24, 12, 2]), (oa 10 (.move (.t 45)) [24, 12, 2])]
noncomputable def L49r1 : List LOper := ((oga 37 (.load .true 3 (.t 5)) 36 .true [12, 2]) :: (oga 38 (.move (.t 1)) 36 .true [12, 2]) :: (oga 39 (.fieldAddr 0 (.t 11)) 36 .true [12, 2]) :: (oga 40 (.load .false 1 (.t 39)) 36 .true [12, 2]) :: (oga 41 (.call (.c (.func 60 [] [])) [(.t 37), (.t 38), (.t 40)]) 36 .true [12, 2]) :: L49r0)
noncomputable def L49r2 : List LOper := ((oga 32 (.move (.t 4)) 31 .true [12, 2]) :: (oga 33 (.move (.t 2)) 31 .true [12, 2]) :: (oga 34 (.bin .geq (.t 32) (.t 33)) 31 .true [12, 2]) :: (oa 35 (.pick (.t 31) (.t 34) (.c (.bool .false))) [12, 2]) :: (oa 36 (.move (.t 35)) [12, 2]) :: L49r1)
noncomputable def L49r3 : List LOper := ((oga 27 (.fieldAddr 1 (.t 26)) 21 .true [2]) :: (oga 28 (.load .false 1 (.t 27)) 21 .true [2]) :: (oga 29 (.call (.c (.func 31 [] [])) [(.t 22), (.t 25), (.t 28)]) 21 .true [2]) :: (oa 30 (.pick (.t 21) (.t 29) (.c (.bool .false))) [12, 2]) :: (oa 31 (.move (.t 30)) [12, 2]) :: L49r2)
noncomputable def L49r4 : List LOper := ((oga 22 (.move (.t 4)) 21 .true [2]) :: (oga 23 (.fieldAddr 3 (.t 11)) 21 .true [2]) :: (oga 24 (.fieldAddr 0 (.t 23)) 21 .true [2]) :: (oga 25 (.load .false 1 (.t 24)) 21 .true [2]) :: (oga 26 (.fieldAddr 3 (.t 11)) 21 .true [2]) :: L49r3)
noncomputable def L49s0 : LCode := (.seq (.draw 27 ((o 17 (.move (.t 1))) :: (o 18 (.move (.t 3))) :: (o 19 (.call (.c (.func 40 [] [])) [(.t 17), (.t 18)])) :: (oa 20 (.un .not (.t 19)) [2]) :: (oa 21 (.move (.t 20)) [2]) :: L49r4)) .ret)
noncomputable def L49s1 : LCode := (.seq (.reg [(o 12 (.fieldAddr 2 (.t 5))), (o 13 (.load .false 1 (.t 12))), (o 14 (.move (.t 3))), (o 15 (.indexAddrS 5 (.t 13) (.t 14))), (o 16 (.load .true 5 (.t 15))), (o 11 (.alloc [(.int .i64 0), (.int .i64 0), (.int .i64 0), (.int .i64 0), (.int .i64 0)])), (on (.store 5 (.t 11) (.t 16)))]) L49s0)
noncomputable def L49 : LFunc := ⟨46, (.seq (.reg [(o 5 (.box (.t 0))), (o 10 (.move (.c (.bool .false))))]) L49s1), [(.t 10)], .false, .none, viaOff Go.Proofs.Try.prog⟩
theorem lp49 : LP 49 = some L49 := by kernel_rfl
noncomputable def L53r0 : List LOper := [(og 10 (.load .false 1 (.t 9)) 7 .true), (og 11 (.len .slice (.t 10)) 7 .true), (og 12 (.bin .lss (.t 8) (.t 11)) 7 .true), (o 13 (.pick (.t 7) (.t 12) (.c (.bool .false)))), (o 4 (.move (.t 13)))]
noncomputable def L53s0 : LCode := (.seq (.reg ((o 5 (.move (.t 1))) :: (o 6 (.bin .leq (.c (.int .i64 0)) (.t 5))) :: (o 7 (.move (.t 6))) :: (og 8 (.move (.t 1)) 7 .true) :: (og 9 (.fieldAddr 2 (.t 2)) 7 .true) :: L53r0)) .ret)
noncomputable def L53 : LFunc := ⟨14, (.seq (.reg [(o 2 (.box (.t 0))), (o 4 (.move (.c (.bool .false))))]) L53s0), [(.t 4)], .false, .none, viaOff Go.Proofs.Try.prog⟩
theorem lp53 : LP 53 = some L53 := by kernel_rfl
noncomputable def L54r0 : List LOper := [(o 16 (.move (.t 21))), (o 22 (.extract (.t 16) 0)), (o 23 (.extract (.t 16) 1)), (o 7 (.alloc [(.bool .false), (.bool .false), (.bool .false), (.bool .false), (.bool .false), (.bool .false), (.bool .false), (.bool .false), (.int .i64 0)])), (on (.store 9 (.t 7) (.t 22))), (o 8 (.move (.t 23)))]
noncomputable def L54r1 : List LOper := [(og 29 (.call (.c (.func 68 [] [])) [(.t 26), (.t 27), (.t 28)]) 25 .true), (og 30 (.call (.c (.func 69 [] [])) [(.t 29)]) 25 .true), (o 31 (.pick (.t 25) (.t 30) (.c (.bool .false))))]
noncomputable def L54r2 : List LOper := [(o 37 (.buildSlice 1 [(.int .i64 0), (.int .i64 0)] [(0, (2, (.t 36)))])), (o 38 (.append 2 16 (.t 32) (.t 37))), (o 5 (.move (.t 38)))]
noncomputable def L54s0 : LCode := (.cond (.t 31) (.reg ((o 32 (.move (.t 5))) :: (o 33 (.load .true 4 (.t 2))) :: (o 34 (.move (.t 1))) :: (o 35 (.load .true 9 (.t 7))) :: (o 36 (.call (.c (.func 68 [] [])) [(.t 33), (.t 34), (.t 35)])) :: L54r2)) .skip)
noncomputable def L54s1 : LCode := (.seq (.reg ((o 24 (.move (.t 8))) :: (o 25 (.move (.t 24))) :: (og 26 (.load .true 4 (.t 2)) 25 .true) :: (og 27 (.move (.t 1)) 25 .true) :: (og 28 (.load .true 9 (.t 7)) 25 .true) :: L54r1)) L54s0)
noncomputable def L54s2 : LCode := (.seq (.reg ((o 17 (.fieldAddr 0 (.t 2))) :: (o 18 (.load .true 3 (.t 17))) :: (o 19 (.load .true 9 (.t 6))) :: (o 20 (.move (.t 1))) :: (o 21 (.call (.c (.func 64 [] [])) [(.t 18), (.t 19), (.t 20)])) :: L54r0)) L54s1)
noncomputable def L54s3 : LCode := (.block 1 (.seq (.reg [(o 14 (.raw (.entry (.tmp 11)))), (o 15 (.extract (.t 14) 0)), (o 6 (.alloc [(.bool .false), (.bool .false), (.bool .false), (.bool .false), (.bool .false), (.bool .false), (.bool .false), (.bool .false), (.int .i64 0)])), (on (.store 9 (.t 6) (.t 15)))]) L54s2))
noncomputable def L54w0 : LCode := (.seq (.reg [(o 12 (.raw (.next (.tmp 11) .false))), (o 13 (.extract (.t 12) 0))]) (.seq (.cond (.t 13) .skip (.exit 0)) L54s3))
noncomputable def L54s4 : LCode := (.seq (.reg [(o 39 (.move (.t 5))), (o 40 (.call (.c (.func 72 [] [])) [(.t 39)])), (on (.store 2 (.t 4) (.t 40)))]) .ret)
noncomputable def L54s5 : LCode := (.seq (.seq (.reg [(o 9 (.fieldAddr 3 (.t 2))), (o 10 (.load .false 1 (.t 9))), (o 11 (.raw (.range 83 (.tmp 10))))]) (.block 0 (.loop L54w0))) L54s4)
noncomputable def L54 : LFunc := ⟨41, (.seq (.reg [(o 2 (.box (.t 0))), (o 4 (.alloc [(.int .i64 0), (.int .i64 0)]))]) (.seq (.reg [(o 5 (.move (.c (.slice .none 0 0))))]) L54s5)), [(.cell 4 .true 2)], .false, .none, viaOff Go.Proofs.Try.prog⟩
theorem lp54 : LP 54 = some L54 := by kernel_rfl
noncomputable def L56r0 : List LOper := [(og 10 (.load .false 1 (.t 9)) 7 .true), (og 11 (.bin .lss (.t 8) (.t 10)) 7 .true), (o 12 (.pick (.t 7) (.t 11) (.c (.bool .false)))), (o 4 (.move (.t 12)))]
noncomputable def L56s0 : LCode := (.seq (.reg ((o 5 (.move (.t 1))) :: (o 6 (.bin .leq (.c (.int .i64 0)) (.t 5))) :: (o 7 (.move (.t 6))) :: (og 8 (.move (.t 1)) 7 .true) :: (og 9 (.fieldAddr 0 (.t 2)) 7 .true) :: L56r0)) .ret)
noncomputable def L56 : LFunc := ⟨13, (.seq (.reg [(o 2 (.box (.t 0))), (o 4 (.move (.c (.bool .false))))]) L56s0), [(.t 4)], .false, .none, viaOff Go.Proofs.Try.prog⟩
theorem lp56 : LP 56 = some L56 := by kernel_rfl
noncomputable def L57s0 : LCode := (.seq (.reg [(o 3 (.move (.t 0))), (o 4 (.bin .leq (.c (.int .i64 0)) (.t 3))), (o 5 (.move (.t 4))), (og 6 (.move (.t 0)) 5 .true), (og 7 (.bin .leq (.t 6) (.c (.int .i64 100))) 5 .true), (o 8 (.pick (.t 5) (.t 7) (.c (.bool .false)))), (o 2 (.move (.t 8)))]) .ret)
noncomputable def L57 : LFunc := ⟨9, (.seq (.reg [(o 2 (.move (.c (.bool .false))))]) L57s0), [(.t 2)], .false, .none, viaOff Go.Proofs.Try.prog⟩
theorem lp57 : LP 57 = some L57 := by kernel_rfl
noncomputable def L58r0 : List LOper := [(og 24 (.move (.t 2)) 23 .true), (og 25 (.move (.t 9)) 23 .true), (og 26 (.bin .lss (.t 24) (.t 25)) 23 .true), (o 27 (.pick (.t 23) (.t 26) (.c (.bool .false))))]
noncomputable def L58r1 : List LOper := [(o 33 (.move (.t 1))), (o 34 (.indexA 6 1 .false (.t 32) (.t 33))), (o 10 (.move (.t 34)))]
noncomputable def L58s0 : LCode := (.reg [(o 35 (.move (.t 7))), (o 36 (.move (.t 10))), (o 37 (.move (.t 10))), (o 38 (.build [(.int .i64 0), (.int .i64 0)] [(0, (1, (.t 36))), (1, (1, (.t 37)))])), (o 39 (.buildSlice 1 [(.int .i64 0), (.int .i64 0)] [(0, (2, (.t 38)))])), (o 40 (.append 2 16 (.t 35) (.t 39))), (o 7 (.move (.t 40)))])
noncomputable def L58s1 : LCode := (.cond (.t 27) (.seq (.reg ((o 28 (.fieldAddr 0 (.t 3))) :: (o 29 (.load .true 3 (.t 28))) :: (o 30 (.fieldAddr 0 (.t 8))) :: (o 31 (.load .true 8 (.t 30))) :: (o 32 (.call (.c (.func 74 [] [])) [(.t 29), (.t 31)])) :: L58r1)) L58s0) .skip)
noncomputable def L58s2 : LCode := (.seq (.reg ((o 19 (.fieldAddr 8 (.t 8))) :: (o 20 (.load .false 1 (.t 19))) :: (o 21 (.move (.t 2))) :: (o 22 (.bin .leq (.t 20) (.t 21))) :: (o 23 (.move (.t 22))) :: L58r0)) L58s1)
noncomputable def L58s3 : LCode := (.block 1 (.seq (.reg [(o 16 (.raw (.entry (.tmp 13)))), (o 17 (.extract (.t 16) 0)), (o 18 (.extract (.t 16) 1)), (o 8 (.alloc [(.bool .false), (.bool .false), (.bool .false), (.bool .false), (.bool .false), (.bool .false), (.bool .false), (.bool .false), (.int .i64 0)])), (on (.store 9 (.t 8) (.t 17))), (o 9 (.move (.t 18)))]) L58s2))
noncomputable def L58w0 : LCode := (.seq (.reg [(o 14 (.raw (.next (.tmp 13) .false))), (o 15 (.extract (.t 14) 0))]) (.seq (.cond (.t 15) .skip (.exit 0)) L58s3))
noncomputable def L58s4 : LCode := (.seq (.reg [(o 41 (.move (.t 7))), (o 42 (.call (.c (.func 72 [] [])) [(.t 41)])), (on (.store 2 (.t 6) (.t 42)))]) .ret)
noncomputable def L58s5 : LCode := (.seq (.seq (.reg [(o 11 (.fieldAddr 3 (.t 3))), (o 12 (.load .false 1 (.t 11))), (o 13 (.raw (.range 83 (.tmp 12))))]) (.block 0 (.loop L58w0))) L58s4)
noncomputable def L58 : LFunc := ⟨43, (.seq (.reg [(o 3 (.box (.t 0))), (o 6 (.alloc [(.int .i64 0), (.int .i64 0)]))]) (.seq (.reg [(o 7 (.move (.c (.slice .none 0 0))))]) L58s5)), [(.cell 6 .true 2)], .false, .none, viaOff Go.Proofs.Try.prog⟩
theorem lp58 : LP 58 = some L58 := by kernel_rfl
noncomputable def L60s0 : LCode := (.cond (.t 11) (.reg [(o 12 (.fieldAddr 1 (.t 3))), (o 13 (.load .false 1 (.t 12))), (o 7 (.move (.t 13)))]) .skip)
noncomputable def L60r0 : List LOper := [(o 25 (.load .false 1 (.t 24))), (o 26 (.indexAddrS 5 (.t 21) (.t 25))), (o 27 (.load .true 5 (.t 26))), (o 9 (.alloc [(.int .i64 0), (.int .i64 0), (.int .i64 0), (.int .i64 0), (.int .i64 0)])), (ona (.store 5 (.t 9) (.t 27)) [8])]
noncomputable def L60s1 : LCode := (.cond (.t 31) (.reg [(o 32 (.move (.t 7))), (o 33 (.fieldAddr 2 (.t 9))), (o 34 (.load .false 1 (.t 33))), (o 35 (.bin .add (.t 32) (.t 34))), (o 7 (.move (.t 35)))]) .skip)
noncomputable def L60s2 : LCode := (.cond (.t 39) (.reg [(o 40 (.move (.t 7))), (o 41 (.fieldAddr 2 (.t 9))), (o 42 (.load .false 1 (.t 41))), (o 43 (.bin .sub (.t 40) (.t 42))), (o 7 (.move (.t 43)))]) .skip)
noncomputable def L60s3 : LCode := (.seq (.reg [(o 36 (.fieldAddr 0 (.t 9))), (o 37 (.load .false 1 (.t 36))), (o 38 (.move (.t 2))), (o 39 (.eq (.cell (.i .i64)) .false (.t 37) (.t 38)))]) L60s2)
noncomputable def L60s4 : LCode := (.seq (.seq (.reg [(o 28 (.fieldAddr 1 (.t 9))), (o 29 (.load .false 1 (.t 28))), (o 30 (.move (.t 2))), (o 31 (.eq (.cell (.i .i64)) .false (.t 29) (.t 30)))]) L60s1) L60s3)
noncomputable def L60s5 : LCode := (.reg [(o 18 (.move (.t 8))), (o 19 (.bin .add (.t 18) (.c (.int .i64 1)))), (o 8 (.move (.t 19)))])
noncomputable def L60s6 : LCode := (.seq (.block 1 (.seq (.draw 9 ((o 20 (.fieldAddr 2 (.t 3))) :: (o 21 (.load .false 1 (.t 20))) :: (o 22 (.move (.t 1))) :: (o 23 (.move (.t 8))) :: (o 24 (.indexAddrS 1 (.t 22) (.t 23))) :: L60r0)) L60s4)) L60s5)
noncomputable def L60w0 : LCode := (.seq (.seq (.reg [(o 14 (.move (.t 8))), (o 15 (.move (.t 1))), (o 16 (.len .slice (.t 15))), (o 17 (.bin .lss (.t 14) (.t 16)))]) (.cond (.t 17) .skip (.exit 0))) L60s6)
noncomputable def L60s7 : LCode := (.seq (.reg [(o 44 (.move (.t 7))), (o 6 (.move (.t 44)))]) .ret)
noncomputable def L60s8 : LCode := (.seq (.seq (.reg [(o 8 (.move (.c (.int .i64 0))))]) (.block 0 (.loop L60w0))) L60s7)
noncomputable def L60s9 : LCode := (.seq (.seq (.reg [(o 10 (.move (.t 2))), (o 11 (.eq (.cell (.i .i64)) .false (.t 10) (.c (.int .i64 0))))]) L60s0) L60s8)
noncomputable def L60 : LFunc := ⟨45, (.seq (.reg [(o 3 (.box (.t 0))), (o 6 (.move (.c (.int .i64 0))))]) (.seq (.reg [(o 7 (.move (.c (.int .i64 0))))]) L60s9)), [(.t 6)], .false, .none, viaOff Go.Proofs.Try.prog⟩
theorem lp60 : LP 60 = some L60 := by kernel_rfl
noncomputable def L61s0 : LCode := (.cond (.t 16) (.seq (.reg [(o 4 (.move (.c (.bool .false))))]) .ret) .skip)
noncomputable def L61s1 : LCode := (.seq (.reg [(o 13 (.move (.t 1))), (o 14 (.load .true 5 (.t 6))), (o 15 (.call (.t 13) [(.t 14)])), (o 16 (.un .not (.t 15)))]) L61s0)
noncomputable def L61s2 : LCode := (.reg [(o 17 (.bin .add (.t 9) (.c (.int .i64 1)))), (o 9 (.move (.t 17)))])
noncomputable def L61s3 : LCode := (.seq (.block 1 (.seq (.reg [(o 11 (.indexAddrS 5 (.t 7) (.t 9))), (o 12 (.load .true 5 (.t 11))), (o 6 (.alloc [(.int .i64 0), (.int .i64 0), (.int .i64 0), (.int .i64 0), (.int .i64 0)])), (on (.store 5 (.t 6) (.t 12)))]) L61s1)) L61s2)
noncomputable def L61w0 : LCode := (.seq (.reg [(o 10 (.bin .lss (.t 9) (.t 8)))]) (.seq (.cond (.t 10) .skip (.exit 0)) L61s3))
noncomputable def L61s4 : LCode := (.seq (.seq (.reg [(o 7 (.move (.t 0))), (o 8 (.len .slice (.t 7))), (o 9 (.move (.c (.int .i64 0))))]) (.block 0 (.loop L61w0))) (.seq (.reg [(o 4 (.move (.c (.bool .true))))]) .ret))
noncomputable def L61 : LFunc := ⟨18, (.seq (.reg [(o 4 (.move (.c (.bool .false))))]) L61s4), [(.t 4)], .false, .none, viaOff Go.Proofs.Try.prog⟩
theorem lp61 : LP 61 = some L61 := by kernel_rfl
noncomputable def L62r0 : List LOper := [(og 35 (.call (.c (.func 75 [] [])) [(.t 34)]) 32 .true), (o 36 (.pick (.t 32) (.t 35) (.c (.bool .false)))), (o 4 (.move (.t 36)))]
noncomputable def L62r1 : List LOper := ((og 30 (.bin .leq (.t 29) (.c (.int .i64 1000))) 27 .true) :: (o 31 (.pick (.t 27) (.t 30) (.c (.bool .false)))) :: (o 32 (.move (.t 31))) :: (og 33 (.fieldAddr 3 (.t 3)) 32 .true) :: (og 34 (.load .true 2 (.t 33)) 32 .true) :: L62r0)
noncomputable def L62r2 : List LOper := ((og 25 (.bin .leq (.c (.int .i64 1)) (.t 24)) 22 .true) :: (o 26 (.pick (.t 22) (.t 25) (.c (.bool .false)))) :: (o 27 (.move (.t 26))) :: (og 28 (.fieldAddr 2 (.t 3)) 27 .true) :: (og 29 (.load .false 1 (.t 28)) 27 .true) :: L62r1)
noncomputable def L62r3 : List LOper := ((og 20 (.eq (.cell (.i .i64)) .true (.t 17) (.t 19)) 15 .true) :: (o 21 (.pick (.t 15) (.t 20) (.c (.bool .false)))) :: (o 22 (.move (.t 21))) :: (og 23 (.fieldAddr 2 (.t 3)) 22 .true) :: (og 24 (.load .false 1 (.t 23)) 22 .true) :: L62r2)
noncomputable def L62r4 : List LOper := ((o 15 (.move (.t 14))) :: (og 16 (.fieldAddr 0 (.t 3)) 15 .true) :: (og 17 (.load .false 1 (.t 16)) 15 .true) :: (og 18 (.fieldAddr 1 (.t 3)) 15 .true) :: (og 19 (.load .false 1 (.t 18)) 15 .true) :: L62r3)
noncomputable def L62r5 : List LOper := ((og 10 (.load .true 3 (.t 2)) 9 .true) :: (og 11 (.fieldAddr 1 (.t 3)) 9 .true) :: (og 12 (.load .false 1 (.t 11)) 9 .true) :: (og 13 (.call (.c (.func 56 [] [])) [(.t 10), (.t 12)]) 9 .true) :: (o 14 (.pick (.t 9) (.t 13) (.c (.bool .false)))) :: L62r4)
noncomputable def L62s0 : LCode := (.seq (.reg ((o 5 (.load .true 3 (.t 2))) :: (o 6 (.fieldAddr 0 (.t 3))) :: (o 7 (.load .false 1 (.t 6))) :: (o 8 (.call (.c (.func 56 [] [])) [(.t 5), (.t 7)])) :: (o 9 (.move (.t 8))) :: L62r5)) .ret)
noncomputable def L62 : LFunc := ⟨37, (.seq (.reg [(o 2 (.box (.t 0))), (o 3 (.box (.t 1))), (o 4 (.move (.c (.bool .false))))]) L62s0), [(.t 4)], .false, .none, viaOff Go.Proofs.Try.prog⟩
theorem lp62 : LP 62 = some L62 := by kernel_rfl
noncomputable def L63s0 : LCode := (.cond (.t 16) (.seq (.reg [(o 4 (.move (.c (.bool .false))))]) .ret) .skip)
noncomputable def L63s1 : LCode := (.seq (.reg [(o 13 (.move (.t 1))), (o 14 (.move (.t 6))), (o 15 (.call (.t 13) [(.t 14)])), (o 16 (.un .not (.t 15)))]) L63s0)
noncomputable def L63s2 : LCode := (.reg [(o 17 (.bin .add (.t 9) (.c (.int .i64 1)))), (o 9 (.move (.t 17)))])
noncomputable def L63s3 : LCode := (.seq (.block 1 (.seq (.reg [(o 11 (.indexAddrS 1 (.t 7) (.t 9))), (o 12 (.load .false 1 (.t 11))), (o 6 (.move (.t 12)))]) L63s1)) L63s2)
noncomputable def L63w0 : LCode := (.seq (.reg [(o 10 (.bin .lss (.t 9) (.t 8)))]) (.seq (.cond (.t 10) .skip (.exit 0)) L63s3))
noncomputable def L63s4 : LCode := (.seq (.seq (.reg [(o 7 (.move (.t 0))), (o 8 (.len .slice (.t 7))), (o 9 (.move (.c (.int .i64 0))))]) (.block 0 (.loop L63w0))) (.seq (.reg [(o 4 (.move (.c (.bool .true))))]) .ret))
noncomputable def L63 : LFunc := ⟨18, (.seq (.reg [(o 4 (.move (.c (.bool .false))))]) L63s4), [(.t 4)], .false, .none, viaOff Go.Proofs.Try.prog⟩
theorem lp63 : LP 63 = some L63 := by kernel_rfl
noncomputable def L64r0 : List LOper := [(oa 26 (.call (.c (.func 77 [] [])) [(.t 21), (.t 25)]) [9, 3]), (oa 27 (.build [(.bool .false), (.bool .false), (.bool .false), (.bool .false), (.bool .false), (.bool .false), (.bool .false), (.bool .false), (.int .i64 0)] [(0, (8, (.t 19))), (8, (1, (.t 26)))]) [10, 9, 3]), (o 9 (.alloc [(.bool .false), (.bool .false), (.bool .false), (.bool .false), (.bool .false), (.bool .false), (.bool .false), (.bool .false), (.int .i64 0)])), (ona (.store 9 (.t 9) (.t 27)) [12, 10, 9, 3])]
noncomputable def L64r1 : List LOper := ((o 21 (.load .false 1 (.t 20))) :: (o 22 (.fieldAddr 3 (.t 8))) :: (o 23 (.fieldAddr 0 (.t 22))) :: (o 24 (.load .false 1 (.t 23))) :: (o 25 (.buildSlice 1 [(.int .i64 0)] [(0, (1, (.t 24)))])) :: L64r0)
noncomputable def L64r2 : List LOper := [(oga 48 (.fieldAddr 3 (.t 8)) 45 .true [11]), (oga 49 (.fieldAddr 1 (.t 48)) 45 .true [11]), (oga 50 (.load .false 1 (.t 49)) 45 .true [11]), (oga 51 (.bin .leq (.t 47) (.t 50)) 45 .true [11]), (oa 52 (.pick (.t 45) (.t 51) (.c (.bool .false))) [11]), (oa 10 (.move (.t 52)) [11])]
noncomputable def L64r3 : List LOper := ((oga 43 (.bin .leq (.t 35) (.t 42)) 33 .true [11]) :: (oa 44 (.pick (.t 33) (.t 43) (.c (.bool .false))) [11]) :: (oa 45 (.move (.t 44)) [11]) :: (oga 46 (.fieldAddr 8 (.t 9)) 45 .true [11]) :: (oga 47 (.load .false 1 (.t 46)) 45 .true [11]) :: L64r2)
noncomputable def L64r4 : List LOper := ((og 38 (.load .true 8 (.t 37)) 33 .true) :: (og 39 (.call (.c (.func 74 [] [])) [(.t 36), (.t 38)]) 33 .true) :: (og 40 (.fieldAddr 0 (.t 8)) 33 .true) :: (og 41 (.load .false 1 (.t 40)) 33 .true) :: (oga 42 (.indexA 6 1 .false (.t 39) (.t 41)) 33 .true [11]) :: L64r3)
noncomputable def L64r5 : List LOper := ((o 33 (.move (.t 32))) :: (og 34 (.fieldAddr 2 (.t 8)) 33 .true) :: (og 35 (.load .false 1 (.t 34)) 33 .true) :: (og 36 (.load .true 3 (.t 3)) 33 .true) :: (og 37 (.fieldAddr 0 (.t 4)) 33 .true) :: L64r4)
noncomputable def L64s0 : LCode := (.seq (.reg [(o 53 (.load .true 9 (.t 9))), (o 54 (.move (.t 10))), (on (.store 9 (.t 6) (.t 53))), (o 7 (.move (.t 54)))]) .ret)
noncomputable def L64s1 : LCode := (.seq (.draw 14 ((o 28 (.move (.t 2))) :: (o 29 (.fieldAddr 0 (.t 4))) :: (o 30 (.indexAddrA 8 1 (.t 29) (.t 28))) :: (o 31 (.load .false 1 (.t 30))) :: (o 32 (.un .not (.t 31))) :: L64r5)) L64s0)
noncomputable def L64s2 : LCode := (.seq (.draw 13 ((o 16 (.fieldAddr 0 (.t 4))) :: (o 17 (.load .true 8 (.t 16))) :: (o 18 (.move (.t 2))) :: (o 19 (.call (.c (.func 76 [] [])) [(.t 17), (.t 18)])) :: (o 20 (.fieldAddr 8 (.t 4))) :: L64r1)) L64s1)
noncomputable def L64s3 : LCode := (.seq (.reg [(o 11 (.fieldAddr 2 (.t 3))), (o 12 (.load .false 1 (.t 11))), (o 13 (.move (.t 2))), (o 14 (.indexAddrS 5 (.t 12) (.t 13))), (o 15 (.load .true 5 (.t 14))), (o 8 (.alloc [(.int .i64 0), (.int .i64 0), (.int .i64 0), (.int .i64 0), (.int .i64 0)])), (on (.store 5 (.t 8) (.t 15)))]) L64s2)
noncomputable def L64 : LFunc := ⟨55, (.seq (.reg [(o 3 (.box (.t 0))), (o 4 (.box (.t 1))), (o 6 (.alloc [(.bool .false), (.bool .false), (.bool .false), (.bool .false), (.bool .false), (.bool .false), (.bool .false), (.bool .false), (.int .i64 0)])), (o 7 (.move (.c (.bool .false))))]) L64s3), [(.cell 6 .true 9), (.t 7)], .false, .none, viaOff Go.Proofs.Try.prog⟩
theorem lp64 : LP 64 = some L64 := by kernel_rfl
noncomputable def L68r0 : List LOper := [(oa 22 (.call (.c (.func 81 [] [])) [(.t 12), (.t 21)]) [14]), (oa 23 (.build [(.int .i64 0), (.int .i64 0)] [(0, (1, (.t 8))), (1, (1, (.t 22)))]) [15, 14]), (ona (.store 2 (.t 6) (.t 23)) [15, 14])]
noncomputable def L68r1 : List LOper := ((o 17 (.indexAddrS 5 (.t 15) (.t 16))) :: (o 18 (.fieldAddr 3 (.t 17))) :: (o 19 (.fieldAddr 1 (.t 18))) :: (o 20 (.load .false 1 (.t 19))) :: (o 21 (.buildSlice 1 [(.int .i64 0)] [(0, (1, (.t 20)))])) :: L68r0)
noncomputable def L68r2 : List LOper := ((o 12 (.lookup (.row [.b, .b, .b, .b, .b, .b, .b, .b, (.i .i64)]) (.int .i64 0) .false (.t 10) (.t 11))) :: (o 13 (.fieldAddr 0 (.t 3))) :: (o 14 (.fieldAddr 2 (.t 13))) :: (o 15 (.load .false 1 (.t 14))) :: (o 16 (.move (.t 1))) :: L68r1)
noncomputable def L68s0 : LCode := (.seq (.draw 16 ((o 7 (.fieldAddr 8 (.t 5))) :: (o 8 (.load .false 1 (.t 7))) :: (o 9 (.fieldAddr 3 (.t 3))) :: (o 10 (.load .false 1 (.t 9))) :: (o 11 (.load .true 9 (.t 5))) :: L68r2)) .ret)
noncomputable def L68 : LFunc := ⟨24, (.seq (.reg [(o 3 (.box (.t 0))), (o 5 (.box (.t 2))), (o 6 (.alloc [(.int .i64 0), (.int .i64 0)]))]) L68s0), [(.cell 6 .true 2)], .false, .none, viaOff Go.Proofs.Try.prog⟩
theorem lp68 : LP 68 = some L68 := by kernel_rfl
noncomputable def L69s0 : LCode := (.seq (.reg [(o 3 (.fieldAddr 0 (.t 1))), (o 4 (.load .false 1 (.t 3))), (o 5 (.fieldAddr 1 (.t 1))), (o 6 (.load .false 1 (.t 5))), (o 7 (.bin .leq (.t 4) (.t 6))), (o 2 (.move (.t 7)))]) .ret)
noncomputable def L69 : LFunc := ⟨8, (.seq (.reg [(o 1 (.box (.t 0))), (o 2 (.move (.c (.bool .false))))]) L69s0), [(.t 2)], .false, .none, viaOff Go.Proofs.Try.prog⟩
theorem lp69 : LP 69 = some L69 := by kernel_rfl
noncomputable def L72r0 : List LOper := [(o 4 (.alloc [.nilFunc, .nilFunc])), (on (.store 2 (.t 3) (.t 7))), (on (.store 2 (.t 4) (.t 8)))]
noncomputable def L72r1 : List LOper := [(oa 14 (.call (.c (.func 87 [] [])) [(.t 12), (.t 13)]) [2]), (oa 15 (.build [(.int .i64 0), (.int .i64 0)] [(0, (1, (.t 11))), (1, (1, (.t 14)))]) [5, 2]), (ona (.store 2 (.t 2) (.t 15)) [5, 2])]
noncomputable def L72s0 : LCode := (.seq (.draw 4 ((o 9 (.load .true 2 (.t 3))) :: (o 10 (.move (.t 0))) :: (o 11 (.call (.c (.func 87 [] [])) [(.t 9), (.t 10)])) :: (o 12 (.load .true 2 (.t 4))) :: (o 13 (.move (.t 0))) :: L72r1)) .ret)
noncomputable def L72s1 : LCode := (.seq (.reg ((o 6 (.call (.c (.func 86 [] [])) [])) :: (o 5 (.move (.t 6))) :: (o 7 (.extract (.t 5) 0)) :: (o 8 (.extract (.t 5) 1)) :: (o 3 (.alloc [.nilFunc, .nilFunc])) :: L72r0)) L72s0)
noncomputable def L72 : LFunc := ⟨16, (.seq (.reg [(o 2 (.alloc [(.int .i64 0), (.int .i64 0)]))]) L72s1), [(.cell 2 .true 2)], .false, .none, viaOff Go.Proofs.Try.prog⟩
theorem lp72 : LP 72 = some L72 := by kernel_rfl
noncomputable def L74r0 : List LOper := [(o 27 (.load .false 1 (.t 26))), (o 28 (.bin .sub (.t 25) (.t 27))), (o 29 (.indexAddrA 6 1 (.t 5) (.t 23))), (on (.store 1 (.t 29) (.t 28)))]
noncomputable def L74r1 : List LOper := [(o 35 (.load .false 1 (.t 34))), (o 36 (.bin .add (.t 33) (.t 35))), (o 37 (.indexAddrA 6 1 (.t 5) (.t 31))), (on (.store 1 (.t 37) (.t 36)))]
noncomputable def L74s0 : LCode := (.draw 0 ((o 30 (.fieldAddr 1 (.t 7))) :: (o 31 (.load .false 1 (.t 30))) :: (o 32 (.indexAddrA 6 1 (.t 5) (.t 31))) :: (o 33 (.load .false 1 (.t 32))) :: (o 34 (.fieldAddr 2 (.t 7))) :: L74r1))
noncomputable def L74s1 : LCode := (.cond (.t 21) (.seq (.draw 0 ((o 22 (.fieldAddr 0 (.t 7))) :: (o 23 (.load .false 1 (.t 22))) :: (o 24 (.indexAddrA 6 1 (.t 5) (.t 23))) :: (o 25 (.load .false 1 (.t 24))) :: (o 26 (.fieldAddr 2 (.t 7))) :: L74r0)) L74s0) .skip)
noncomputable def L74s2 : LCode := (.seq (.reg [(o 19 (.move (.t 6))), (o 20 (.indexAddrA 8 1 (.t 3) (.t 19))), (o 21 (.load .false 1 (.t 20)))]) L74s1)
noncomputable def L74s3 : LCode := (.reg [(o 38 (.bin .add (.t 14) (.c (.int .i64 1)))), (o 14 (.move (.t 38)))])
noncomputable def L74s4 : LCode := (.seq (.block 1 (.seq (.reg [(o 16 (.move (.t 14))), (o 17 (.indexAddrS 5 (.t 12) (.t 14))), (o 18 (.load .true 5 (.t 17))), (o 7 (.alloc [(.int .i64 0), (.int .i64 0), (.int .i64 0), (.int .i64 0), (.int .i64 0)])), (o 6 (.move (.t 16))), (on (.store 5 (.t 7) (.t 18)))]) L74s2)) L74s3)
noncomputable def L74w0 : LCode := (.seq (.reg [(o 15 (.bin .lss (.t 14) (.t 13)))]) (.seq (.cond (.t 15) .skip (.exit 0)) L74s4))
noncomputable def L74s5 : LCode := (.seq (.reg [(o 39 (.load .true 6 (.t 5))), (on (.store 6 (.t 4) (.t 39)))]) .ret)
noncomputable def L74s6 : LCode := (.seq (.seq (.reg [(o 11 (.fieldAddr 2 (.t 2))), (o 12 (.load .false 1 (.t 11))), (o 13 (.len .slice (.t 12))), (o 14 (.move (.c (.int .i64 0))))]) (.block 0 (.loop L74w0))) L74s5)
noncomputable def L74s7 : LCode := (.seq (.reg [(o 8 (.fieldAddr 1 (.t 2))), (o 9 (.load .false 1 (.t 8))), (o 10 (.build [(.int .i64 0), (.int .i64 0), (.int .i64 0), (.int .i64 0), (.int .i64 0), (.int .i64 0)] [(0, (1, (.t 9)))])), (o 5 (.alloc [(.int .i64 0), (.int .i64 0), (.int .i64 0), (.int .i64 0), (.int .i64 0), (.int .i64 0)])), (on (.store 6 (.t 5) (.t 10)))]) L74s6)
noncomputable def L74 : LFunc := ⟨40, (.seq (.reg [(o 2 (.box (.t 0))), (o 3 (.box (.t 1))), (o 4 (.alloc [(.int .i64 0), (.int .i64 0), (.int .i64 0), (.int .i64 0), (.int .i64 0), (.int .i64 0)]))]) L74s7), [(.cell 4 .true 6)], .false, .none, viaOff Go.Proofs.Try.prog⟩
theorem lp74 : LP 74 = some L74 := by kernel_rfl
noncomputable def L75r0 : List LOper := [(og 13 (.load .false 1 (.t 12)) 11 .true), (og 14 (.fieldAddr 1 (.t 1)) 11 .true), (og 15 (.load .false 1 (.t 14)) 11 .true), (og 16 (.bin .leq (.t 13) (.t 15)) 11 .true), (o 17 (.pick (.t 11) (.t 16) (.c (.bool .false)))), (o 2 (.move (.t 17)))]
noncomputable def L75r1 : List LOper := ((og 8 (.load .false 1 (.t 7)) 6 .true) :: (og 9 (.call (.c (.func 57 [] [])) [(.t 8)]) 6 .true) :: (o 10 (.pick (.t 6) (.t 9) (.c (.bool .false)))) :: (o 11 (.move (.t 10))) :: (og 12 (.fieldAddr 0 (.t 1)) 11 .true) :: L75r0)
noncomputable def L75s0 : LCode := (.seq (.reg ((o 3 (.fieldAddr 0 (.t 1))) :: (o 4 (.load .false 1 (.t 3))) :: (o 5 (.call (.c (.func 57 [] [])) [(.t 4)])) :: (o 6 (.move (.t 5))) :: (og 7 (.fieldAddr 1 (.t 1)) 6 .true) :: L75r1)) .ret)
noncomputable def L75 : LFunc := ⟨18, (.seq (.reg [(o 1 (.box (.t 0))), (o 2 (.move (.c (.bool .false))))]) L75s0), [(.t 2)], .false, .none, viaOff Go.Proofs.Try.prog⟩
theorem lp75 : LP 75 = some L75 := by kernel_rfl
noncomputable def L76s0 : LCode := (.seq (.reg [(o 7 (.load .true 8 (.t 2))), (on (.store 8 (.t 4) (.t 7)))]) .ret)
noncomputable def L76s1 : LCode := (.seq (.reg [(o 5 (.move (.t 1))), (o 6 (.indexAddrA 8 1 (.t 2) (.t 5))), (on (.store 1 (.t 6) (.c (.bool .true))))]) L76s0)
noncomputable def L76 : LFunc := ⟨8, (.seq (.reg [(o 2 (.box (.t 0))), (o 4 (.alloc [(.bool .false), (.bool .false), (.bool .false), (.bool .false), (.bool .false), (.bool .false), (.bool .false), (.bool .false)]))]) L76s1), [(.cell 4 .true 8)], .false, .none, viaOff Go.Proofs.Try.prog⟩
theorem lp76 : LP 76 = some L76 := by kernel_rfl
noncomputable def L77s0 : LCode := (.cond (.t 15) (.reg [(o 16 (.move (.t 6))), (o 0 (.move (.t 16)))]) .skip)
noncomputable def L77s1 : LCode := (.seq (.reg [(o 13 (.move (.t 6))), (o 14 (.move (.t 0))), (o 15 (.bin .gtr (.t 13) (.t 14)))]) L77s0)
noncomputable def L77s2 : LCode := (.reg [(o 17 (.bin .add (.t 9) (.c (.int .i64 1)))), (o 9 (.move (.t 17)))])
noncomputable def L77s3 : LCode := (.seq (.block 1 (.seq (.reg [(o 11 (.indexAddrS 1 (.t 7) (.t 9))), (o 12 (.load .false 1 (.t 11))), (o 6 (.move (.t 12)))]) L77s1)) L77s2)
noncomputable def L77w0 : LCode := (.seq (.reg [(o 10 (.bin .lss (.t 9) (.t 8)))]) (.seq (.cond (.t 10) .skip (.exit 0)) L77s3))
noncomputable def L77s4 : LCode := (.seq (.reg [(o 18 (.move (.t 0))), (o 4 (.move (.t 18)))]) .ret)
noncomputable def L77s5 : LCode := (.seq (.seq (.reg [(o 7 (.move (.t 1))), (o 8 (.len .slice (.t 7))), (o 9 (.move (.c (.int .i64 0))))]) (.block 0 (.loop L77w0))) L77s4)
noncomputable def L77 : LFunc := ⟨19, (.seq (.reg [(o 4 (.move (.c (.int .i64 0))))]) L77s5), [(.t 4)], .false, .none, viaOff Go.Proofs.Try.prog⟩
theorem lp77 : LP 77 = some L77 := by kernel_rfl
noncomputable def L81s0 : LCode := (.cond (.t 15) (.reg [(o 16 (.move (.t 6))), (o 0 (.move (.t 16)))]) .skip)
noncomputable def L81s1 : LCode := (.seq (.reg [(o 13 (.move (.t 6))), (o 14 (.move (.t 0))), (o 15 (.bin .lss (.t 13) (.t 14)))]) L81s0)
noncomputable def L81s2 : LCode := (.reg [(o 17 (.bin .add (.t 9) (.c (.int .i64 1)))), (o 9 (.move (.t 17)))])
noncomputable def L81s3 : LCode := (.seq (.block 1 (.seq (.reg [(o 11 (.indexAddrS 1 (.t 7) (.t 9))), (o 12 (.load .false 1 (.t 11))), (o 6 (.move (.t 12)))]) L81s1)) L81s2)
noncomputable def L81w0 : LCode := (.seq (.reg [(o 10 (.bin .lss (.t 9) (.t 8)))]) (.seq (.cond (.t 10) .skip (.exit 0)) L81s3))
noncomputable def L81s4 : LCode := (.seq (.reg [(o 18 (.move (.t 0))), (o 4 (.move (.t 18)))]) .ret)
noncomputable def L81s5 : LCode := (.seq (.seq (.reg [(o 7 (.move (.t 1))), (o 8 (.len .slice (.t 7))), (o 9 (.move (.c (.int .i64 0))))]) (.block 0 (.loop L81w0))) L81s4)
noncomputable def L81 : LFunc := ⟨19, (.seq (.reg [(o 4 (.move (.c (.int .i64 0))))]) L81s5), [(.t 4)], .false, .none, viaOff Go.Proofs.Try.prog⟩
theorem lp81 : LP 81 = some L81 := by kernel_rfl
noncomputable def L86s0 : LCode := (.seq (.reg [(o 2 (.build [.nilFunc, .nilFunc] [(0, (1, (.c (.func 89 [] [])))), (1, (1, (.c (.func 81 [] []))))])), (o 3 (.build [.nilFunc, .nilFunc] [(0, (1, (.c (.func 90 [] [])))), (1, (1, (.c (.func 77 [] []))))])), (on (.store 2 (.t 0) (.t 2))), (on (.store 2 (.t 1) (.t 3)))]) .ret)
noncomputable def L86 : LFunc := ⟨4, (.seq (.reg [(o 0 (.alloc [.nilFunc, .nilFunc])), (o 1 (.alloc [.nilFunc, .nilFunc]))]) L86s0), [(.cell 0 .true 2), (.cell 1 .true 2)], .true, .none, viaOff Go.Proofs.Try.prog⟩
theorem lp86 : LP 86 = some L86 := by kernel_rfl
noncomputable def L87r0 : List LOper := [(o 22 (.buildSlice 1 [(.int .i64 0)] [(0, (1, (.t 21)))])), (o 23 (.append 1 8 (.t 17) (.t 22))), (o 5 (.move (.t 23)))]
noncomputable def L87s0 : LCode := (.reg ((o 17 (.move (.t 5))) :: (o 18 (.fieldAddr 0 (.t 2))) :: (o 19 (.load .false 1 (.t 18))) :: (o 20 (.load .true 2 (.t 7))) :: (o 21 (.call (.t 19) [(.t 20)])) :: L87r0))
noncomputable def L87s1 : LCode := (.reg [(o 24 (.bin .add (.t 13) (.c (.int .i64 1)))), (o 13 (.move (.t 24)))])
noncomputable def L87s2 : LCode := (.seq (.block 1 (.seq (.reg [(o 15 (.indexAddrS 2 (.t 11) (.t 13))), (o 16 (.load .true 2 (.t 15))), (o 7 (.alloc [(.int .i64 0), (.int .i64 0)])), (on (.store 2 (.t 7) (.t 16)))]) L87s0)) L87s1)
noncomputable def L87w0 : LCode := (.seq (.reg [(o 14 (.bin .lss (.t 13) (.t 12)))]) (.seq (.cond (.t 14) .skip (.exit 0)) L87s2))
noncomputable def L87r1 : List LOper := [(o 30 (.move (.t 5))), (o 31 (.sliceS 1 (.t 30) (.some (.c (.int .i64 1))) .none)), (o 32 (.call (.t 26) [(.t 29), (.t 31)])), (oa 4 (.move (.t 32)) [7])]
noncomputable def L87s3 : LCode := (.seq (.draw 7 ((o 25 (.fieldAddr 1 (.t 2))) :: (o 26 (.load .false 1 (.t 25))) :: (o 27 (.move (.t 5))) :: (o 28 (.indexAddrS 1 (.t 27) (.c (.int .i64 0)))) :: (o 29 (.load .false 1 (.t 28))) :: L87r1)) .ret)
noncomputable def L87s4 : LCode := (.seq (.seq (.reg [(o 11 (.move (.t 1))), (o 12 (.len .slice (.t 11))), (o 13 (.move (.c (.int .i64 0))))]) (.block 0 (.loop L87w0))) L87s3)
noncomputable def L87s5 : LCode := (.seq (.reg [(o 8 (.move (.t 1))), (o 9 (.len .slice (.t 8))), (o 10 (.makeSlice [(.int .i64 0)] 8 (.c (.int .i64 0)) (.t 9))), (o 5 (.move (.t 10)))]) L87s4)
noncomputable def L87 : LFunc := ⟨33, (.seq (.reg [(o 2 (.box (.t 0))), (o 4 (.move (.c (.int .i64 0))))]) L87s5), [(.t 4)], .false, .none, viaOff Go.Proofs.Try.prog⟩
theorem lp87 : LP 87 = some L87 := by kernel_rfl
noncomputable def L89s0 : LCode := (.seq (.reg [(o 3 (.fieldAddr 0 (.t 1))), (o 4 (.load .false 1 (.t 3))), (o 2 (.move (.t 4)))]) .ret)
noncomputable def L89 : LFunc := ⟨5, (.seq (.reg [(o 1 (.box (.t 0))), (o 2 (.move (.c (.int .i64 0))))]) L89s0), [(.t 2)], .false, .none, viaOff Go.Proofs.Try.prog⟩
theorem lp89 : LP 89 = some L89 := by kernel_rfl
noncomputable def L90s0 : LCode := (.seq (.reg [(o 3 (.fieldAddr 1 (.t 1))), (o 4 (.load .false 1 (.t 3))), (o 2 (.move (.t 4)))]) .ret)
noncomputable def L90 : LFunc := ⟨5, (.seq (.reg [(o 1 (.box (.t 0))), (o 2 (.move (.c (.int .i64 0))))]) L90s0), [(.t 2)], .false, .none, viaOff Go.Proofs.Try.prog⟩
theorem lp90 : LP 90 = some L90 := by kernel_rfl
end Go.Hx

