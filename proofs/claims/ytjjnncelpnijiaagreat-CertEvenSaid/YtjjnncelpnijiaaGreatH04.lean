import Derived.Test.YtjjnncelpnijiaaGreatH00
import Derived.Test.YtjjnncelpnijiaaGreatProg
import Derived.ProofKit
set_option linter.all false
namespace Go.Hx
set_option maxRecDepth 100000
noncomputable section
abbrev o (d : Nat) (p : LOp) : LOper := ⟨some d, p, none, []⟩
abbrev oa (d : Nat) (p : LOp) (a : List Nat) : LOper := ⟨some d, p, none, a⟩
abbrev og (d : Nat) (p : LOp) (t : Nat) (b : Bool) : LOper := ⟨some d, p, some (t, b), []⟩
abbrev oga (d : Nat) (p : LOp) (t : Nat) (b : Bool) (a : List Nat) : LOper := ⟨some d, p, some (t, b), a⟩
abbrev on (p : LOp) : LOper := ⟨none, p, none, []⟩
abbrev ona (p : LOp) (a : List Nat) : LOper := ⟨none, p, none, a⟩
def Zr (n : Nat) : List HV := List.replicate n (.int .i64 0)
noncomputable abbrev vO := viaOff Go.Proofs.Tryz.prog
noncomputable abbrev LP : Nat → Option LFunc := lowP Go.Proofs.Tryz.prog [21, 22, 23, 24, 37, 41, 42, 43, 48, 49, 53, 58, 60, 63, 65, 66, 67, 70, 80, 82, 87, 88, 89, 90, 92, 93, 95, 100, 105, 108, 115, 125, 128, 129, 148, 149, 159, 166, 167, 170, 171]
def L4s0 : LCode := (.cond (.t 17) (.seq (.reg [(o 18 (.call (.c (.func 19 [] [])) [])), (o 8 (.move (.t 18)))]) .ret) .skip)
def L4r0 : List LOper := [(o 9 (.alloc [(.int .i64 0), (.int .i64 0)])), (ona (.store 2 (.t 9) (.t 27)) [10, 6, 3, 1]), (oa 10 (.move (.t 28)) [10, 6, 3, 1])]
def L4r1 : List LOper := ((o 25 (.move (.t 3))) :: (oa 26 (.call (.c (.func 30 [] [])) [(.t 21), (.t 23), (.t 24), (.t 25)]) [3, 1]) :: (oa 19 (.move (.t 26)) [6, 3, 1]) :: (oa 27 (.extract (.t 19) 0) [6, 3, 1]) :: (oa 28 (.extract (.t 19) 1) [6, 3, 1]) :: L4r0)
def L4r2 : List LOper := [(o 47 (.un .not (.t 46))), (o 48 (.move (.t 47))), (og 49 (.move (.t 3)) 48 .false), (og 50 (.call (.c (.func 25 [] [])) [(.t 49), (.c (.int .i64 0)), (.c (.int .i64 10000))]) 48 .false), (og 51 (.un .not (.t 50)) 48 .false), (o 52 (.pick (.t 48) (.c (.bool .true)) (.t 51))), (o 41 (.move (.t 52)))]
def L4s1 : LCode := (.cond (.t 41) (.reg [(o 12 (.move (.c (.int .i64 2))))]) .skip)
def L4s2 : LCode := (.cond (.t 37) (.reg [(o 12 (.move (.c (.int .i64 1))))]) (.seq (.reg ((o 42 (.move (.t 2))) :: (o 43 (.fieldAddr 0 (.t 4))) :: (o 44 (.fieldAddr 0 (.t 43))) :: (o 45 (.load .false 1 (.t 44))) :: (o 46 (.call (.c (.func 25 [] [])) [(.t 42), (.c (.int .i64 0)), (.t 45)])) :: L4r2)) L4s1))
def L4s3 : LCode := (.cond (.t 34) .skip (.seq (.reg [(o 38 (.load .true 2 (.t 5))), (o 39 (.call (.c (.func 32 [] [])) [(.t 38)])), (o 40 (.un .not (.t 39))), (o 37 (.move (.t 40)))]) L4s2))
def L4r3 : List LOper := [(og 60 (.build [(.int .i64 0), (.int .i64 0)] []) 58 .true), (og 61 (.eq (.row [(.i .i64), (.i .i64)]) .false (.t 59) (.t 60)) 58 .true), (o 62 (.pick (.t 58) (.t 61) (.c (.bool .false)))), (o 63 (.move (.t 62))), (og 64 (.call (.c (.func 19 [] [])) []) 63 .true), (o 65 (.pick (.t 63) (.t 64) (.c (.bool .false)))), (o 8 (.move (.t 65)))]
def L4s4 : LCode := (.cond (.t 54) (.seq (.reg ((o 55 (.move (.t 10))) :: (o 56 (.move (.t 12))) :: (o 57 (.eq (.cell (.i .i64)) .false (.t 55) (.t 56))) :: (o 58 (.move (.t 57))) :: (og 59 (.load .true 2 (.t 9)) 58 .true) :: L4r3)) .ret) .skip)
def L4r4 : List LOper := [(o 71 (.load .true 10 (.t 4))), (o 72 (.call (.c (.func 27 [] [])) [(.t 71)])), (o 73 (.move (.t 3))), (oa 74 (.call (.c (.func 26 [] [])) [(.t 66), (.t 70), (.t 72), (.t 73)]) [6]), (o 13 (.alloc [(.int .i64 0), (.int .i64 0)])), (ona (.store 2 (.t 13) (.t 74)) [9, 8, 6])]
def L4r5 : List LOper := [(o 80 (.load .false 1 (.t 79))), (o 81 (.build [(.int .i64 0), (.int .i64 0)] [(0, (1, (.t 78))), (1, (1, (.t 80)))])), (o 82 (.call (.c (.func 33 [] [])) [(.t 75), (.t 76), (.t 81)])), (o 14 (.alloc [(.int .i64 0), (.int .i64 0)])), (on (.store 2 (.t 14) (.t 82)))]
def L4r6 : List LOper := [(o 93 (.pick (.t 85) (.t 92) (.c (.bool .false)))), (o 94 (.move (.t 93))), (og 95 (.call (.c (.func 19 [] [])) []) 94 .true), (o 96 (.pick (.t 94) (.t 95) (.c (.bool .false)))), (o 8 (.move (.t 96)))]
def L4r7 : List LOper := ((og 88 (.load .false 1 (.t 87)) 85 .true) :: (og 89 (.fieldAddr 1 (.t 14)) 85 .true) :: (og 90 (.load .false 1 (.t 89)) 85 .true) :: (og 91 (.build [(.int .i64 0), (.int .i64 0)] [(0, (1, (.t 88))), (1, (1, (.t 90)))]) 85 .true) :: (og 92 (.eq (.row [(.i .i64), (.i .i64)]) .false (.t 86) (.t 91)) 85 .true) :: L4r6)
def L4s5 : LCode := (.seq (.reg ((o 83 (.move (.t 10))) :: (o 84 (.eq (.cell (.i .i64)) .false (.t 83) (.c (.int .i64 0)))) :: (o 85 (.move (.t 84))) :: (og 86 (.load .true 2 (.t 9)) 85 .true) :: (og 87 (.fieldAddr 0 (.t 14)) 85 .true) :: L4r7)) .ret)
def L4s6 : LCode := (.seq (.reg ((o 75 (.build [(.int .i64 0), (.int .i64 0)] [(0, (1, (.c (.int .i64 0)))), (1, (1, (.c (.int .i64 1000))))])) :: (o 76 (.load .true 2 (.t 5))) :: (o 77 (.fieldAddr 0 (.t 13))) :: (o 78 (.load .false 1 (.t 77))) :: (o 79 (.fieldAddr 1 (.t 13))) :: L4r5)) L4s5)
def L4s7 : LCode := (.seq (.draw 10 ((o 66 (.load .true 10 (.t 4))) :: (o 67 (.move (.t 11))) :: (o 68 (.move (.t 2))) :: (o 69 (.indexAddrS 2 (.t 67) (.t 68))) :: (o 70 (.load .true 2 (.t 69))) :: L4r4)) L4s6)
def L4s8 : LCode := (.seq (.seq (.reg [(o 53 (.move (.t 12))), (o 54 (.eq (.cell (.i .i64)) .true (.t 53) (.c (.int .i64 0))))]) L4s4) L4s7)
def L4s9 : LCode := (.seq (.block 0 (.seq (.reg [(o 35 (.move (.t 12))), (o 36 (.eq (.cell (.i .i64)) .true (.t 35) (.c (.int .i64 0)))), (o 34 (.move (.t 36)))]) L4s3)) L4s8)
def L4s10 : LCode := (.seq (.reg [(o 30 (.load .true 10 (.t 4))), (o 31 (.call (.c (.func 24 [] [])) [(.t 30)])), (o 29 (.move (.t 31))), (o 32 (.extract (.t 29) 0)), (o 33 (.extract (.t 29) 1)), (o 11 (.move (.t 32))), (o 12 (.move (.t 33)))]) L4s9)
def L4s11 : LCode := (.seq (.draw 11 ((o 20 (.load .true 10 (.t 4))) :: (o 21 (.call (.c (.func 21 [] [])) [(.t 20)])) :: (o 22 (.load .true 2 (.t 5))) :: (oa 23 (.call (.c (.func 31 [] [])) [(.t 22)]) [1]) :: (o 24 (.move (.t 2))) :: L4r1)) L4s10)
def L4s12 : LCode := (.seq (.seq (.reg [(o 15 (.load .true 10 (.t 4))), (o 16 (.call (.c (.func 18 [] [])) [(.t 15)])), (o 17 (.un .not (.t 16)))]) L4s0) L4s11)
def L4 : LFunc := ⟨97, (.seq (.reg [(o 4 (.box (.t 0))), (o 5 (.box (.t 1))), (o 8 (.move (.c (.bool .false))))]) L4s12), [(.t 8)], .false, .none, vO⟩
def L40r0 : List LOper := [(og 8 (.fieldAddr 5 (.t 1)) 7 .false), (og 9 (.load .false 1 (.t 8)) 7 .false), (og 10 (.len .slice (.t 9)) 7 .false), (og 11 (.bin .gtr (.t 10) (.c (.int .i64 8))) 7 .false), (o 12 (.pick (.t 7) (.c (.bool .true)) (.t 11)))]
def L40s0 : LCode := (.cond (.t 12) (.seq (.reg [(o 2 (.move (.c (.int .i64 3))))]) .ret) .skip)
def L40r1 : List LOper := [(oga 58 (.load .false 1 (.t 57)) 55 .false [39, 29, 9, 4]), (oga 59 (.bin .gtr (.t 58) (.c (.int .i64 100))) 55 .false [39, 29, 9, 4]), (oa 60 (.pick (.t 55) (.c (.bool .true)) (.t 59)) [39, 29, 9, 4])]
def L40r2 : List LOper := ((oga 53 (.un .not (.t 52)) 45 .false [39, 29, 9, 4]) :: (oa 54 (.pick (.t 45) (.c (.bool .true)) (.t 53)) [39, 29, 9, 4]) :: (oa 55 (.move (.t 54)) [39, 29, 9, 4]) :: (oga 56 (.fieldAddr 8 (.t 1)) 55 .false [39, 29, 9, 4]) :: (oga 57 (.fieldAddr 1 (.t 56)) 55 .false [39, 29, 9, 4]) :: L40r1)
def L40r3 : List LOper := ((oga 48 (.load .false 1 (.t 47)) 45 .false [29, 9, 4]) :: (oga 49 (.fieldAddr 8 (.t 1)) 45 .false [29, 9, 4]) :: (oga 50 (.fieldAddr 1 (.t 49)) 45 .false [29, 9, 4]) :: (oga 51 (.load .false 1 (.t 50)) 45 .false [29, 9, 4]) :: (oga 52 (.call (.c (.func 25 [] [])) [(.t 48), (.c (.int .i64 0)), (.t 51)]) 45 .false [29, 9, 4]) :: L40r2)
def L40r4 : List LOper := ((oga 43 (.un .not (.t 42)) 25 .false [29, 9, 4]) :: (oa 44 (.pick (.t 25) (.c (.bool .true)) (.t 43)) [29, 9, 4]) :: (oa 45 (.move (.t 44)) [29, 9, 4]) :: (oga 46 (.fieldAddr 8 (.t 1)) 45 .false [29, 9, 4]) :: (oga 47 (.fieldAddr 0 (.t 46)) 45 .false [29, 9, 4]) :: L40r3)
def L40r5 : List LOper := ((oga 38 (.bin .sub (.t 37) (.c (.int .i64 1))) 25 .false [9, 4]) :: (oga 39 (.indexAddrS 2 (.t 34) (.t 38)) 25 .false [9, 4]) :: (oga 40 (.fieldAddr 0 (.t 39)) 25 .false [9, 4]) :: (oga 41 (.load .false 1 (.t 40)) 25 .false [9, 4]) :: (oga 42 (.call (.c (.func 86 [] [])) [(.t 27), (.t 32), (.t 41)]) 25 .false [9, 4]) :: L40r4)
def L40r6 : List LOper := ((oga 33 (.fieldAddr 5 (.t 1)) 25 .false [9, 4]) :: (oga 34 (.load .false 1 (.t 33)) 25 .false [9, 4]) :: (oga 35 (.fieldAddr 5 (.t 1)) 25 .false [9, 4]) :: (oga 36 (.load .false 1 (.t 35)) 25 .false [9, 4]) :: (oga 37 (.len .slice (.t 36)) 25 .false [9, 4]) :: L40r5)
def L40r7 : List LOper := ((oga 28 (.fieldAddr 5 (.t 1)) 25 .false [9, 4]) :: (oga 29 (.load .false 1 (.t 28)) 25 .false [9, 4]) :: (oga 30 (.indexAddrS 2 (.t 29) (.c (.int .i64 0))) 25 .false [9, 4]) :: (oga 31 (.fieldAddr 0 (.t 30)) 25 .false [9, 4]) :: (oga 32 (.load .false 1 (.t 31)) 25 .false [9, 4]) :: L40r6)
def L40r8 : List LOper := ((oga 23 (.un .not (.t 22)) 19 .false [9, 4]) :: (oa 24 (.pick (.t 19) (.c (.bool .true)) (.t 23)) [9, 4]) :: (oa 25 (.move (.t 24)) [9, 4]) :: (oga 26 (.fieldAddr 6 (.t 1)) 25 .false [9, 4]) :: (oga 27 (.load .true 2 (.t 26)) 25 .false [9, 4]) :: L40r7)
def L40r9 : List LOper := ((oa 18 (.eq (.cell (.i .i64)) .true (.t 17) (.c (.int .i64 0))) [4]) :: (oa 19 (.move (.t 18)) [4]) :: (oga 20 (.fieldAddr 5 (.t 1)) 19 .false [4]) :: (oga 21 (.load .false 1 (.t 20)) 19 .false [4]) :: (oga 22 (.call (.c (.func 85 [] [])) [(.t 21)]) 19 .false [4]) :: L40r8)
def L40s1 : LCode := (.cond (.t 60) (.seq (.reg [(o 2 (.move (.c (.int .i64 1))))]) .ret) .skip)
def L40s2 : LCode := (.seq (.seq (.draw 39 ((o 13 (.fieldAddr 0 (.t 1))) :: (o 14 (.load .true 4 (.t 13))) :: (o 15 (.fieldAddr 4 (.t 1))) :: (o 16 (.load .false 1 (.t 15))) :: (o 17 (.call (.c (.func 84 [] [])) [(.t 14), (.t 16)])) :: L40r9)) L40s1) (.seq (.reg [(o 2 (.move (.c (.int .i64 0))))]) .ret))
def L40s3 : LCode := (.seq (.seq (.reg ((o 3 (.fieldAddr 4 (.t 1))) :: (o 4 (.load .false 1 (.t 3))) :: (o 5 (.len .slice (.t 4))) :: (o 6 (.bin .gtr (.t 5) (.c (.int .i64 12)))) :: (o 7 (.move (.t 6))) :: L40r0)) L40s0) L40s2)
def L40 : LFunc := ⟨61, (.seq (.reg [(o 1 (.box (.t 0))), (o 2 (.move (.c (.int .i64 0))))]) L40s3), [(.t 2)], .false, .none, vO⟩
theorem lp40 : LP 40 = some L40 := by kernel_rfl
def L52r0 : List LOper := [(og 9 (.eq (.cell (.i .i64)) .false (.t 8) (.c (.int .i64 0))) 6 .true), (o 10 (.pick (.t 6) (.t 9) (.c (.bool .false)))), (o 2 (.move (.t 10)))]
def L52s0 : LCode := (.seq (.reg ((o 4 (.load .true 10 (.t 1))) :: (o 5 (.call (.c (.func 18 [] [])) [(.t 4)])) :: (o 6 (.move (.t 5))) :: (og 7 (.load .true 10 (.t 1)) 6 .true) :: (og 8 (.call (.c (.func 40 [] [])) [(.t 7)]) 6 .true) :: L52r0)) .ret)
def L52s1 : LCode := (.seq (.reg [(o 3 (.fieldAddr 4 (.t 1))), (on (.store 1 (.t 3) (.c (.slice .none 0 0))))]) L52s0)
def L52 : LFunc := ⟨11, (.seq (.reg [(o 1 (.box (.t 0))), (o 2 (.move (.c (.bool .false))))]) L52s1), [(.t 2)], .false, .none, vO⟩
theorem lp52 : LP 52 = some L52 := by kernel_rfl
def L56s0 : LCode := (.reg [(o 10 (.move (.t 6))), (o 11 (.bin .add (.t 10) (.c (.int .i64 1)))), (o 6 (.move (.t 11)))])
def L56s1 : LCode := (.seq (.block 1 (.reg [(o 12 (.move (.t 5))), (o 13 (.move (.t 0))), (o 14 (.move (.t 6))), (o 15 (.indexAddrS 1 (.t 13) (.t 14))), (o 16 (.load .false 1 (.t 15))), (o 17 (.bin .add (.t 12) (.t 16))), (o 5 (.move (.t 17)))])) L56s0)
def L56w0 : LCode := (.seq (.seq (.reg [(o 7 (.move (.t 6))), (o 8 (.move (.t 1))), (o 9 (.bin .lss (.t 7) (.t 8)))]) (.cond (.t 9) .skip (.exit 0))) L56s1)
def L56s2 : LCode := (.seq (.reg [(o 18 (.move (.t 5))), (o 4 (.move (.t 18)))]) .ret)
def L56s3 : LCode := (.seq (.seq (.reg [(o 6 (.move (.c (.int .i64 0))))]) (.block 0 (.loop L56w0))) L56s2)
def L56 : LFunc := ⟨19, (.seq (.reg [(o 4 (.move (.c (.int .i64 0))))]) (.seq (.reg [(o 5 (.move (.c (.int .i64 0))))]) L56s3)), [(.t 4)], .false, .none, vO⟩
theorem lp56 : LP 56 = some L56 := by kernel_rfl
def L60r0 : List LOper := [(o 26 (.load .true 2 (.t 25))), (o 27 (.call (.c (.func 97 [] [])) [(.t 26)])), (oa 28 (.build [(.int .i64 0), (.int .i64 0), (.int .i64 0), (.int .i64 0)] [(0, (1, (.t 16))), (1, (1, (.t 21))), (2, (2, (.t 27)))]) [16]), (oa 29 (.buildSlice 1 [(.int .i64 0), (.int .i64 0), (.int .i64 0), (.int .i64 0)] [(0, (4, (.t 28)))]) [16]), (oa 30 (.append 4 32 (.t 11) (.t 29)) [18, 16]), (oa 3 (.move (.t 30)) [19, 18, 16])]
def L60r1 : List LOper := ((o 21 (.load .false 1 (.t 20))) :: (o 22 (.move (.t 0))) :: (o 23 (.move (.t 4))) :: (o 24 (.indexAddrS 4 (.t 22) (.t 23))) :: (o 25 (.fieldAddr 2 (.t 24))) :: L60r0)
def L60r2 : List LOper := ((o 16 (.load .false 1 (.t 15))) :: (o 17 (.move (.t 0))) :: (o 18 (.move (.t 4))) :: (o 19 (.indexAddrS 4 (.t 17) (.t 18))) :: (o 20 (.fieldAddr 1 (.t 19))) :: L60r1)
def L60s0 : LCode := (.reg [(o 9 (.move (.t 4))), (o 10 (.bin .add (.t 9) (.c (.int .i64 1)))), (o 4 (.move (.t 10)))])
def L60s1 : LCode := (.seq (.block 1 (.draw 17 ((o 11 (.move (.t 3))) :: (o 12 (.move (.t 0))) :: (o 13 (.move (.t 4))) :: (o 14 (.indexAddrS 4 (.t 12) (.t 13))) :: (o 15 (.fieldAddr 0 (.t 14))) :: L60r2))) L60s0)
def L60w0 : LCode := (.seq (.seq (.reg [(o 5 (.move (.t 4))), (o 6 (.move (.t 0))), (o 7 (.len .slice (.t 6))), (o 8 (.bin .lss (.t 5) (.t 7)))]) (.cond (.t 8) .skip (.exit 0))) L60s1)
def L60s2 : LCode := (.seq (.reg [(o 31 (.move (.t 3))), (o 2 (.move (.t 31)))]) .ret)
def L60s3 : LCode := (.seq (.seq (.reg [(o 4 (.move (.c (.int .i64 0))))]) (.block 0 (.loop L60w0))) L60s2)
def L60 : LFunc := ⟨32, (.seq (.reg [(o 2 (.move (.c (.slice .none 0 0))))]) (.seq (.reg [(o 3 (.move (.c (.slice .none 0 0))))]) L60s3)), [(.t 2)], .true, .none, vO⟩
theorem lp60 : LP 60 = some L60 := by kernel_rfl
def L68r0 : List LOper := [(o 26 (.bin .sub (.t 23) (.t 25))), (o 27 (.build [(.int .i64 0), (.int .i64 0)] [(0, (1, (.t 18))), (1, (1, (.t 26)))])), (on (.store 2 (.t 6) (.t 27)))]
def L68r1 : List LOper := ((o 21 (.indexAddrA 11 2 (.t 20) (.t 19))) :: (o 22 (.fieldAddr 1 (.t 21))) :: (o 23 (.load .false 1 (.t 22))) :: (o 24 (.fieldAddr 0 (.t 7))) :: (o 25 (.load .false 1 (.t 24))) :: L68r0)
def L68r2 : List LOper := ((o 16 (.fieldAddr 1 (.t 7))) :: (o 17 (.load .false 1 (.t 16))) :: (o 18 (.bin .sub (.t 15) (.t 17))) :: (o 19 (.move (.t 1))) :: (o 20 (.fieldAddr 10 (.t 3))) :: L68r1)
def L68s0 : LCode := (.seq (.draw 15 ((o 11 (.move (.t 1))) :: (o 12 (.fieldAddr 10 (.t 3))) :: (o 13 (.indexAddrA 11 2 (.t 12) (.t 11))) :: (o 14 (.fieldAddr 0 (.t 13))) :: (o 15 (.load .false 1 (.t 14))) :: L68r2)) .ret)
def L68s1 : LCode := (.seq (.reg [(o 8 (.load .true 32 (.t 3))), (o 9 (.move (.t 2))), (o 10 (.call (.c (.func 106 [] [])) [(.t 8), (.t 9)])), (o 7 (.alloc [(.int .i64 0), (.int .i64 0)])), (on (.store 2 (.t 7) (.t 10)))]) L68s0)
def L68 : LFunc := ⟨28, (.seq (.reg [(o 3 (.box (.t 0))), (o 6 (.alloc [(.int .i64 0), (.int .i64 0)]))]) L68s1), [(.cell 6 .true 2)], .false, .none, vO⟩
theorem lp68 : LP 68 = some L68 := by kernel_rfl
def L84s0 : LCode := (.cond (.t 9) (.seq (.reg [(o 4 (.move (.c (.int .i64 1))))]) .ret) .skip)
def L84s1 : LCode := (.cond (.t 12) (.seq (.reg [(o 4 (.move (.c (.int .i64 3))))]) .ret) .skip)
def L84r0 : List LOper := [(og 43 (.call (.c (.func 124 [] [])) [(.t 42), (.c (.int .i64 0)), (.c (.int .i64 2000))]) 40 .false), (og 44 (.un .not (.t 43)) 40 .false), (o 45 (.pick (.t 40) (.c (.bool .true)) (.t 44)))]
def L84r1 : List LOper := ((og 38 (.un .not (.t 37)) 30 .false) :: (o 39 (.pick (.t 30) (.c (.bool .true)) (.t 38))) :: (o 40 (.move (.t 39))) :: (og 41 (.fieldAddr 2 (.t 6)) 40 .false) :: (og 42 (.load .true 2 (.t 41)) 40 .false) :: L84r0)
def L84r2 : List LOper := ((og 33 (.fieldAddr 0 (.t 6)) 30 .false) :: (og 34 (.load .false 1 (.t 33)) 30 .false) :: (og 35 (.fieldAddr 0 (.t 2)) 30 .false) :: (og 36 (.load .false 1 (.t 35)) 30 .false) :: (og 37 (.call (.c (.func 98 [] [])) [(.t 32), (.t 34), (.t 36)]) 30 .false) :: L84r1)
def L84r3 : List LOper := ((o 28 (.call (.c (.func 98 [] [])) [(.t 24), (.c (.int .i64 0)), (.t 27)])) :: (o 29 (.un .not (.t 28))) :: (o 30 (.move (.t 29))) :: (og 31 (.fieldAddr 1 (.t 6)) 30 .false) :: (og 32 (.load .false 1 (.t 31)) 30 .false) :: L84r2)
def L84s2 : LCode := (.cond (.t 45) (.seq (.reg [(o 4 (.move (.c (.int .i64 2))))]) .ret) .skip)
def L84s3 : LCode := (.seq (.reg ((o 23 (.fieldAddr 0 (.t 6))) :: (o 24 (.load .false 1 (.t 23))) :: (o 25 (.fieldAddr 0 (.t 2))) :: (o 26 (.load .false 1 (.t 25))) :: (o 27 (.bin .sub (.t 26) (.c (.int .i64 1)))) :: L84r3)) L84s2)
def L84s4 : LCode := (.reg [(o 17 (.move (.t 5))), (o 18 (.bin .add (.t 17) (.c (.int .i64 1)))), (o 5 (.move (.t 18)))])
def L84s5 : LCode := (.seq (.block 1 (.seq (.reg [(o 19 (.move (.t 1))), (o 20 (.move (.t 5))), (o 21 (.indexAddrS 4 (.t 19) (.t 20))), (o 22 (.load .true 4 (.t 21))), (o 6 (.alloc [(.int .i64 0), (.int .i64 0), (.int .i64 0), (.int .i64 0)])), (on (.store 4 (.t 6) (.t 22)))]) L84s3)) L84s4)
def L84w0 : LCode := (.seq (.seq (.reg [(o 13 (.move (.t 5))), (o 14 (.move (.t 1))), (o 15 (.len .slice (.t 14))), (o 16 (.bin .lss (.t 13) (.t 15)))]) (.cond (.t 16) .skip (.exit 0))) L84s5)
def L84s6 : LCode := (.seq (.seq (.reg [(o 5 (.move (.c (.int .i64 0))))]) (.block 0 (.loop L84w0))) (.seq (.reg [(o 4 (.move (.c (.int .i64 0))))]) .ret))
def L84s7 : LCode := (.seq (.seq (.reg [(o 10 (.move (.t 1))), (o 11 (.len .slice (.t 10))), (o 12 (.bin .gtr (.t 11) (.c (.int .i64 12))))]) L84s1) L84s6)
def L84s8 : LCode := (.seq (.seq (.reg [(o 7 (.load .true 4 (.t 2))), (o 8 (.call (.c (.func 123 [] [])) [(.t 7)])), (o 9 (.un .not (.t 8)))]) L84s0) L84s7)
def L84 : LFunc := ⟨46, (.seq (.reg [(o 2 (.box (.t 0))), (o 4 (.move (.c (.int .i64 0))))]) L84s8), [(.t 4)], .false, .none, vO⟩
theorem lp84 : LP 84 = some L84 := by kernel_rfl
def L92r0 : List LOper := [(o 45 (.bin .sub (.t 39) (.t 44))), (o 46 (.min [(.t 38), (.t 45)])), (o 9 (.move (.t 35))), (o 10 (.move (.t 46)))]
def L92r1 : List LOper := ((o 40 (.move (.t 8))) :: (o 41 (.fieldAddr 2 (.t 2))) :: (o 42 (.fieldAddr 0 (.t 41))) :: (o 43 (.load .false 1 (.t 42))) :: (o 44 (.bin .mul (.t 40) (.t 43))) :: L92r0)
def L92r2 : List LOper := ((o 35 (.max [(.t 27), (.t 34)])) :: (o 36 (.fieldAddr 2 (.t 2))) :: (o 37 (.fieldAddr 1 (.t 36))) :: (o 38 (.load .false 1 (.t 37))) :: (o 39 (.move (.t 6))) :: L92r1)
def L92r3 : List LOper := ((o 30 (.fieldAddr 2 (.t 2))) :: (o 31 (.fieldAddr 1 (.t 30))) :: (o 32 (.load .false 1 (.t 31))) :: (o 33 (.bin .mul (.t 29) (.t 32))) :: (o 34 (.bin .sub (.t 28) (.t 33))) :: L92r2)
def L92r4 : List LOper := [(o 52 (.move (.t 9))), (o 53 (.bin .sub (.t 51) (.t 52))), (o 54 (.bin .add (.t 53) (.c (.int .i64 1)))), (o 55 (.bin .rem (.t 50) (.t 54))), (o 56 (.bin .add (.t 47) (.t 55))), (o 11 (.move (.t 56)))]
def L92s0 : LCode := (.reg [(o 61 (.move (.t 6))), (o 62 (.move (.t 11))), (o 63 (.bin .sub (.t 61) (.t 62))), (o 6 (.move (.t 63)))])
def L92s1 : LCode := (.seq (.reg [(o 57 (.move (.t 5))), (o 58 (.move (.t 11))), (o 59 (.buildSlice 1 [(.int .i64 0)] [(0, (1, (.t 58)))])), (o 60 (.append 1 8 (.t 57) (.t 59))), (o 5 (.move (.t 60)))]) L92s0)
def L92s2 : LCode := (.seq (.reg ((o 47 (.move (.t 9))) :: (o 48 (.move (.t 1))) :: (o 49 (.move (.t 7))) :: (o 50 (.call (.c (.func 133 [] [])) [(.t 48), (.t 49)])) :: (o 51 (.move (.t 10))) :: L92r4)) L92s1)
def L92s3 : LCode := (.seq (.draw 22 ((o 25 (.fieldAddr 2 (.t 2))) :: (o 26 (.fieldAddr 0 (.t 25))) :: (o 27 (.load .false 1 (.t 26))) :: (o 28 (.move (.t 6))) :: (o 29 (.move (.t 8))) :: L92r3)) L92s2)
def L92s4 : LCode := (.reg [(o 18 (.move (.t 7))), (o 19 (.bin .add (.t 18) (.c (.int .i64 1)))), (o 7 (.move (.t 19)))])
def L92s5 : LCode := (.seq (.block 1 (.seq (.reg [(o 20 (.fieldAddr 0 (.t 2))), (o 21 (.load .false 1 (.t 20))), (o 22 (.bin .sub (.t 21) (.c (.int .i64 1)))), (o 23 (.move (.t 7))), (o 24 (.bin .sub (.t 22) (.t 23))), (o 8 (.move (.t 24)))]) L92s3)) L92s4)
def L92w0 : LCode := (.seq (.seq (.reg [(o 14 (.move (.t 7))), (o 15 (.fieldAddr 0 (.t 2))), (o 16 (.load .false 1 (.t 15))), (o 17 (.bin .lss (.t 14) (.t 16)))]) (.cond (.t 17) .skip (.exit 0))) L92s5)
def L92s6 : LCode := (.seq (.reg [(o 64 (.move (.t 5))), (o 4 (.move (.t 64)))]) .ret)
def L92s7 : LCode := (.seq (.seq (.reg [(o 7 (.move (.c (.int .i64 0))))]) (.block 0 (.loop L92w0))) L92s6)
def L92s8 : LCode := (.seq (.reg [(o 12 (.fieldAddr 1 (.t 2))), (o 13 (.load .false 1 (.t 12))), (o 6 (.move (.t 13)))]) L92s7)
def L92 : LFunc := ⟨65, (.seq (.reg [(o 2 (.box (.t 0))), (o 4 (.move (.c (.slice .none 0 0))))]) (.seq (.reg [(o 5 (.move (.c (.slice .none 0 0))))]) L92s8)), [(.t 4)], .true, .none, vO⟩
theorem lp92 : LP 92 = some L92 := by kernel_rfl
def L96s0 : LCode := (.seq (.reg [(o 1 (.move (.c (.via 215 "Lowest" 136)))), (o 2 (.move (.c (.via 215 "Highest" 137)))), (o 3 (.build [.nilFunc, .nilFunc] [(0, (1, (.t 1))), (1, (1, (.t 2)))])), (on (.store 2 (.t 0) (.t 3)))]) .ret)
def L96 : LFunc := ⟨4, (.seq (.reg [(o 0 (.alloc [.nilFunc, .nilFunc]))]) L96s0), [(.cell 0 .true 2)], .false, .none, vO⟩
theorem lp96 : LP 96 = some L96 := by kernel_rfl
def L104r0 : List LOper := [(o 32 (.call (.c (.func 142 [] [])) [(.t 24), (.t 31)])), (o 33 (.indexAddrA 11 2 (.t 7) (.t 17))), (on (.store 2 (.t 33) (.t 32)))]
def L104r1 : List LOper := ((o 27 (.fieldAddr 1 (.t 4))) :: (o 28 (.load .false 1 (.t 27))) :: (o 29 (.bin .mul (.t 26) (.t 28))) :: (o 30 (.move (.t 2))) :: (o 31 (.build [(.int .i64 0), (.int .i64 0)] [(0, (1, (.t 29))), (1, (1, (.t 30)))])) :: L104r0)
def L104r2 : List LOper := ((o 22 (.bin .mul (.t 19) (.t 21))) :: (o 23 (.move (.t 2))) :: (o 24 (.build [(.int .i64 0), (.int .i64 0)] [(0, (1, (.t 22))), (1, (1, (.t 23)))])) :: (o 25 (.fieldAddr 1 (.t 9))) :: (o 26 (.load .false 1 (.t 25))) :: L104r1)
def L104s0 : LCode := (.reg ((o 17 (.move (.t 8))) :: (o 18 (.fieldAddr 0 (.t 9))) :: (o 19 (.load .false 1 (.t 18))) :: (o 20 (.fieldAddr 0 (.t 4))) :: (o 21 (.load .false 1 (.t 20))) :: L104r2))
def L104s1 : LCode := (.reg [(o 34 (.bin .add (.t 12) (.c (.int .i64 1)))), (o 12 (.move (.t 34)))])
def L104s2 : LCode := (.seq (.block 1 (.seq (.reg [(o 14 (.move (.t 12))), (o 15 (.indexAddrS 2 (.t 10) (.t 12))), (o 16 (.load .true 2 (.t 15))), (o 9 (.alloc [(.int .i64 0), (.int .i64 0)])), (o 8 (.move (.t 14))), (on (.store 2 (.t 9) (.t 16)))]) L104s0)) L104s1)
def L104w0 : LCode := (.seq (.reg [(o 13 (.bin .lss (.t 12) (.t 11)))]) (.seq (.cond (.t 13) .skip (.exit 0)) L104s2))
def L104s3 : LCode := (.seq (.reg [(o 35 (.load .true 22 (.t 7))), (on (.store 22 (.t 6) (.t 35)))]) .ret)
def L104s4 : LCode := (.seq (.seq (.reg [(o 10 (.move (.t 0))), (o 11 (.len .slice (.t 10))), (o 12 (.move (.c (.int .i64 0))))]) (.block 0 (.loop L104w0))) L104s3)
def L104s5 : LCode := (.seq (.reg [(o 7 (.alloc (Zr 22)))]) L104s4)
def L104 : LFunc := ⟨36, (.seq (.reg [(o 4 (.box (.t 1))), (o 6 (.alloc (Zr 22)))]) L104s5), [(.cell 6 .true 22)], .false, .none, vO⟩
theorem lp104 : LP 104 = some L104 := by kernel_rfl
def L108r0 : List LOper := [(oa 29 (.buildSlice 1 [(.int .i64 0), (.int .i64 0)] [(0, (2, (.t 28)))]) [8, 4]), (oa 30 (.append 2 16 (.t 19) (.t 29)) [10, 8, 4]), (oa 4 (.move (.t 30)) [11, 10, 8, 4])]
def L108r1 : List LOper := ((o 24 (.fieldAddr 1 (.t 3))) :: (o 25 (.load .false 1 (.t 24))) :: (o 26 (.move (.t 5))) :: (oa 27 (.call (.t 25) [(.t 1), (.t 26)]) [4]) :: (oa 28 (.build [(.int .i64 0), (.int .i64 0)] [(0, (1, (.t 23))), (1, (1, (.t 27)))]) [8, 4]) :: L108r0)
def L108s0 : LCode := (.reg [(o 17 (.move (.t 5))), (o 18 (.bin .add (.t 17) (.c (.int .i64 1)))), (o 5 (.move (.t 18)))])
def L108s1 : LCode := (.seq (.block 1 (.draw 7 ((o 19 (.move (.t 4))) :: (o 20 (.fieldAddr 0 (.t 3))) :: (o 21 (.load .false 1 (.t 20))) :: (o 22 (.move (.t 5))) :: (o 23 (.call (.t 21) [(.t 1), (.t 22)])) :: L108r1))) L108s0)
def L108w0 : LCode := (.seq (.seq (.reg [(o 12 (.move (.t 5))), (o 13 (.fieldAddr 0 (.t 1))), (o 14 (.fieldAddr 0 (.t 13))), (o 15 (.load .false 1 (.t 14))), (o 16 (.bin .leq (.t 12) (.t 15)))]) (.cond (.t 16) .skip (.exit 0))) L108s1)
def L108s2 : LCode := (.seq (.reg [(o 31 (.move (.t 4))), (o 2 (.move (.t 31)))]) .ret)
def L108s3 : LCode := (.seq (.seq (.reg [(o 5 (.move (.c (.int .i64 0))))]) (.block 0 (.loop L108w0))) L108s2)
def L108s4 : LCode := (.seq (.reg [(o 7 (.fieldAddr 0 (.t 1))), (o 8 (.fieldAddr 0 (.t 7))), (o 9 (.load .false 1 (.t 8))), (o 10 (.bin .add (.t 9) (.c (.int .i64 1)))), (o 11 (.makeSlice [(.int .i64 0), (.int .i64 0)] 16 (.c (.int .i64 0)) (.t 10))), (o 4 (.move (.t 11)))]) L108s3)
def L108s5 : LCode := (.seq (.reg [(o 6 (.call (.c (.func 96 [] [])) [])), (o 3 (.alloc [.nilFunc, .nilFunc])), (on (.store 2 (.t 3) (.t 6)))]) L108s4)
def L108 : LFunc := ⟨32, (.seq (.reg [(o 1 (.box (.t 0))), (o 2 (.move (.c (.slice .none 0 0))))]) L108s5), [(.t 2)], .true, .none, vO⟩
theorem lp108 : LP 108 = some L108 := by kernel_rfl
def L124r0 : List LOper := [(og 17 (.bin .leq (.t 15) (.t 16)) 13 .true), (o 18 (.pick (.t 13) (.t 17) (.c (.bool .false)))), (o 6 (.move (.t 18)))]
def L124r1 : List LOper := ((o 12 (.call (.c (.func 98 [] [])) [(.t 8), (.t 9), (.t 11)])) :: (o 13 (.move (.t 12))) :: (og 14 (.fieldAddr 1 (.t 3)) 13 .true) :: (og 15 (.load .false 1 (.t 14)) 13 .true) :: (og 16 (.move (.t 2)) 13 .true) :: L124r0)
def L124s0 : LCode := (.seq (.reg ((o 7 (.fieldAddr 0 (.t 3))) :: (o 8 (.load .false 1 (.t 7))) :: (o 9 (.move (.t 1))) :: (o 10 (.fieldAddr 1 (.t 3))) :: (o 11 (.load .false 1 (.t 10))) :: L124r1)) .ret)
def L124 : LFunc := ⟨19, (.seq (.reg [(o 3 (.box (.t 0))), (o 6 (.move (.c (.bool .false))))]) L124s0), [(.t 6)], .false, .none, vO⟩
theorem lp124 : LP 124 = some L124 := by kernel_rfl
def L136r0 : List LOper := [(o 10 (.indexAddrA 13 1 (.t 9) (.c (.int .i64 0)))), (o 11 (.load .false 1 (.t 10))), (o 12 (.un .neg (.t 11))), (o 4 (.move (.t 12)))]
def L136s0 : LCode := (.seq (.reg ((o 5 (.move (.t 0))) :: (o 6 (.move (.t 1))) :: (o 7 (.nilCheck (.t 5))) :: (o 8 (.fieldAddr 1 (.t 7))) :: (o 9 (.indexAddrA 13 13 (.t 8) (.t 6))) :: L136r0)) .ret)
def L136 : LFunc := ⟨13, (.seq (.reg [(o 4 (.move (.c (.int .i64 0))))]) L136s0), [(.t 4)], .false, .none, vO⟩
theorem lp136 : LP 136 = some L136 := by kernel_rfl
def L140r0 : List LOper := [(o 13 (.load .false 1 (.t 12))), (o 14 (.build [(.int .i64 0), (.int .i64 0)] [(0, (1, (.t 6))), (1, (1, (.t 13)))])), (on (.store 2 (.t 2) (.t 14)))]
def L140r1 : List LOper := ((o 8 (.move (.t 0))) :: (o 9 (.len .slice (.t 8))) :: (o 10 (.bin .sub (.t 9) (.c (.int .i64 1)))) :: (o 11 (.indexAddrS 2 (.t 7) (.t 10))) :: (o 12 (.fieldAddr 0 (.t 11))) :: L140r0)
def L140s0 : LCode := (.seq (.draw 11 ((o 3 (.move (.t 0))) :: (o 4 (.indexAddrS 2 (.t 3) (.c (.int .i64 0)))) :: (o 5 (.fieldAddr 0 (.t 4))) :: (o 6 (.load .false 1 (.t 5))) :: (o 7 (.move (.t 0))) :: L140r1)) .ret)
def L140 : LFunc := ⟨15, (.seq (.reg [(o 2 (.alloc [(.int .i64 0), (.int .i64 0)]))]) L140s0), [(.cell 2 .true 2)], .false, .none, vO⟩
theorem lp140 : LP 140 = some L140 := by kernel_rfl
def L144r0 : List LOper := [(og 10 (.move (.t 1)) 9 .true), (og 11 (.fieldAddr 1 (.t 2)) 9 .true), (og 12 (.load .false 1 (.t 11)) 9 .true), (og 13 (.bin .leq (.t 10) (.t 12)) 9 .true), (o 14 (.pick (.t 9) (.t 13) (.c (.bool .false)))), (o 4 (.move (.t 14)))]
def L144s0 : LCode := (.seq (.reg ((o 5 (.fieldAddr 0 (.t 2))) :: (o 6 (.load .false 1 (.t 5))) :: (o 7 (.move (.t 1))) :: (o 8 (.bin .leq (.t 6) (.t 7))) :: (o 9 (.move (.t 8))) :: L144r0)) .ret)
def L144 : LFunc := ⟨15, (.seq (.reg [(o 2 (.box (.t 0))), (o 4 (.move (.c (.bool .false))))]) L144s0), [(.t 4)], .false, .none, vO⟩
theorem lp144 : LP 144 = some L144 := by kernel_rfl
def L152r0 : List LOper := [(og 30 (.fieldAddr 2 (.t 3)) 29 .true), (og 31 (.load .true 2 (.t 30)) 29 .true), (og 32 (.call (.c (.func 169 [] [])) [(.t 31), (.c (.int .i64 0)), (.c (.int .i64 2000))]) 29 .true), (o 33 (.pick (.t 29) (.t 32) (.c (.bool .false)))), (o 4 (.move (.t 33)))]
def L152r1 : List LOper := ((og 25 (.fieldAddr 0 (.t 2)) 22 .true) :: (og 26 (.load .false 1 (.t 25)) 22 .true) :: (og 27 (.bin .leq (.t 24) (.t 26)) 22 .true) :: (o 28 (.pick (.t 22) (.t 27) (.c (.bool .false)))) :: (o 29 (.move (.t 28))) :: L152r0)
def L152r2 : List LOper := ((og 20 (.bin .leq (.t 17) (.t 19)) 15 .true) :: (o 21 (.pick (.t 15) (.t 20) (.c (.bool .false)))) :: (o 22 (.move (.t 21))) :: (og 23 (.fieldAddr 1 (.t 3)) 22 .true) :: (og 24 (.load .false 1 (.t 23)) 22 .true) :: L152r1)
def L152r3 : List LOper := ((o 15 (.move (.t 14))) :: (og 16 (.fieldAddr 0 (.t 3)) 15 .true) :: (og 17 (.load .false 1 (.t 16)) 15 .true) :: (og 18 (.fieldAddr 1 (.t 3)) 15 .true) :: (og 19 (.load .false 1 (.t 18)) 15 .true) :: L152r2)
def L152r4 : List LOper := ((og 10 (.load .false 1 (.t 9)) 8 .true) :: (og 11 (.fieldAddr 0 (.t 2)) 8 .true) :: (og 12 (.load .false 1 (.t 11)) 8 .true) :: (og 13 (.bin .lss (.t 10) (.t 12)) 8 .true) :: (o 14 (.pick (.t 8) (.t 13) (.c (.bool .false)))) :: L152r3)
def L152s0 : LCode := (.seq (.reg ((o 5 (.fieldAddr 0 (.t 3))) :: (o 6 (.load .false 1 (.t 5))) :: (o 7 (.bin .leq (.c (.int .i64 0)) (.t 6))) :: (o 8 (.move (.t 7))) :: (og 9 (.fieldAddr 0 (.t 3)) 8 .true) :: L152r4)) .ret)
def L152 : LFunc := ⟨34, (.seq (.reg [(o 2 (.box (.t 0))), (o 3 (.box (.t 1))), (o 4 (.move (.c (.bool .false))))]) L152s0), [(.t 4)], .false, .none, vO⟩
theorem lp152 : LP 152 = some L152 := by kernel_rfl
def L156r0 : List LOper := [(og 12 (.load .true 2 (.t 4)) 11 .true), (og 13 (.fieldAddr 1 (.t 1)) 11 .true), (og 14 (.load .false 1 (.t 13)) 11 .true), (og 15 (.call (.c (.func 144 [] [])) [(.t 12), (.t 14)]) 11 .true), (o 16 (.pick (.t 11) (.t 15) (.c (.bool .false)))), (o 2 (.move (.t 16)))]
def L156s0 : LCode := (.seq (.reg ((o 7 (.load .true 2 (.t 3))) :: (o 8 (.fieldAddr 0 (.t 1))) :: (o 9 (.load .false 1 (.t 8))) :: (o 10 (.call (.c (.func 144 [] [])) [(.t 7), (.t 9)])) :: (o 11 (.move (.t 10))) :: L156r0)) .ret)
def L156s1 : LCode := (.seq (.reg [(o 5 (.build [(.int .i64 0), (.int .i64 0)] [(0, (1, (.c (.int .i64 1)))), (1, (1, (.c (.int .i64 2000))))])), (o 6 (.build [(.int .i64 0), (.int .i64 0)] [(0, (1, (.c (.int .i64 1)))), (1, (1, (.c (.int .i64 2000))))])), (o 3 (.alloc [(.int .i64 0), (.int .i64 0)])), (o 4 (.alloc [(.int .i64 0), (.int .i64 0)])), (on (.store 2 (.t 3) (.t 5))), (on (.store 2 (.t 4) (.t 6)))]) L156s0)
def L156 : LFunc := ⟨17, (.seq (.reg [(o 1 (.box (.t 0))), (o 2 (.move (.c (.bool .false))))]) L156s1), [(.t 2)], .false, .none, vO⟩
theorem lp156 : LP 156 = some L156 := by kernel_rfl
def L160s0 : LCode := (.cond (.t 14) (.reg [(o 15 (.move (.t 3))), (o 16 (.bin .sub (.t 15) (.c (.int .i64 1)))), (o 3 (.move (.t 16)))]) .skip)
def L160s1 : LCode := (.seq (.reg [(o 17 (.move (.t 3))), (o 2 (.move (.t 17)))]) .ret)
def L160s2 : LCode := (.seq (.seq (.reg [(o 9 (.fieldAddr 0 (.t 1))), (o 10 (.load .false 1 (.t 9))), (o 11 (.fieldAddr 1 (.t 1))), (o 12 (.load .false 1 (.t 11))), (o 13 (.bin .rem (.t 10) (.t 12))), (o 14 (.bin .lss (.t 13) (.c (.int .i64 0))))]) L160s0) L160s1)
def L160s3 : LCode := (.seq (.reg [(o 4 (.fieldAddr 0 (.t 1))), (o 5 (.load .false 1 (.t 4))), (o 6 (.fieldAddr 1 (.t 1))), (o 7 (.load .false 1 (.t 6))), (o 8 (.bin .quo (.t 5) (.t 7))), (o 3 (.move (.t 8)))]) L160s2)
def L160 : LFunc := ⟨18, (.seq (.reg [(o 1 (.box (.t 0))), (o 2 (.move (.c (.int .i64 0))))]) L160s3), [(.t 2)], .false, .none, vO⟩
theorem lp160 : LP 160 = some L160 := by kernel_rfl
def L168r0 : List LOper := [(og 14 (.load .true 2 (.t 13)) 12 .false), (og 15 (.call (.c (.func 169 [] [])) [(.t 14), (.c (.int .i64 1)), (.c (.int .i64 200))]) 12 .false), (og 16 (.un .not (.t 15)) 12 .false), (o 17 (.pick (.t 12) (.c (.bool .true)) (.t 16)))]
def L168r1 : List LOper := ((og 9 (.load .false 1 (.t 8)) 7 .false) :: (og 10 (.bin .gtr (.t 9) (.c (.int .i64 10))) 7 .false) :: (o 11 (.pick (.t 7) (.c (.bool .true)) (.t 10))) :: (o 12 (.move (.t 11))) :: (og 13 (.fieldAddr 2 (.t 1)) 12 .false) :: L168r0)
def L168s0 : LCode := (.cond (.t 17) (.seq (.reg [(o 2 (.move (.c (.bool .false))))]) .ret) .skip)
def L168r2 : List LOper := [(o 28 (.load .false 1 (.t 27))), (o 29 (.bin .mul (.t 25) (.t 28))), (o 30 (.build [(.int .i64 0), (.int .i64 0)] [(0, (1, (.t 23))), (1, (1, (.t 29)))])), (o 3 (.alloc [(.int .i64 0), (.int .i64 0)])), (on (.store 2 (.t 3) (.t 30)))]
def L168r3 : List LOper := ((o 23 (.bin .mul (.t 19) (.t 22))) :: (o 24 (.fieldAddr 0 (.t 1))) :: (o 25 (.load .false 1 (.t 24))) :: (o 26 (.fieldAddr 2 (.t 1))) :: (o 27 (.fieldAddr 1 (.t 26))) :: L168r2)
def L168r4 : List LOper := [(og 36 (.fieldAddr 1 (.t 1)) 34 .true), (og 37 (.load .false 1 (.t 36)) 34 .true), (og 38 (.call (.c (.func 180 [] [])) [(.t 35), (.t 37)]) 34 .true), (o 39 (.pick (.t 34) (.t 38) (.c (.bool .false)))), (o 2 (.move (.t 39)))]
def L168s1 : LCode := (.seq (.reg ((o 31 (.fieldAddr 1 (.t 1))) :: (o 32 (.load .false 1 (.t 31))) :: (o 33 (.bin .leq (.t 32) (.c (.int .i64 2000)))) :: (o 34 (.move (.t 33))) :: (og 35 (.load .true 2 (.t 3)) 34 .true) :: L168r4)) .ret)
def L168s2 : LCode := (.seq (.reg ((o 18 (.fieldAddr 0 (.t 1))) :: (o 19 (.load .false 1 (.t 18))) :: (o 20 (.fieldAddr 2 (.t 1))) :: (o 21 (.fieldAddr 0 (.t 20))) :: (o 22 (.load .false 1 (.t 21))) :: L168r3)) L168s1)
def L168s3 : LCode := (.seq (.seq (.reg ((o 4 (.fieldAddr 0 (.t 1))) :: (o 5 (.load .false 1 (.t 4))) :: (o 6 (.bin .lss (.t 5) (.c (.int .i64 1)))) :: (o 7 (.move (.t 6))) :: (og 8 (.fieldAddr 0 (.t 1)) 7 .false) :: L168r1)) L168s0) L168s2)
def L168 : LFunc := ⟨40, (.seq (.reg [(o 1 (.box (.t 0))), (o 2 (.move (.c (.bool .false))))]) L168s3), [(.t 2)], .false, .none, vO⟩
theorem lp168 : LP 168 = some L168 := by kernel_rfl
def L172r0 : List LOper := [(o 8 (.bin .sub (.t 7) (.c (.int .i64 1)))), (o 9 (.fieldAddr 1 (.t 1))), (o 10 (.load .false 1 (.t 9))), (o 11 (.bin .quo (.t 8) (.t 10))), (o 2 (.move (.t 11)))]
def L172s0 : LCode := (.seq (.reg ((o 3 (.fieldAddr 0 (.t 1))) :: (o 4 (.load .false 1 (.t 3))) :: (o 5 (.fieldAddr 1 (.t 1))) :: (o 6 (.load .false 1 (.t 5))) :: (o 7 (.bin .add (.t 4) (.t 6))) :: L172r0)) .ret)
def L172 : LFunc := ⟨12, (.seq (.reg [(o 1 (.box (.t 0))), (o 2 (.move (.c (.int .i64 0))))]) L172s0), [(.t 2)], .false, .none, vO⟩
theorem lp172 : LP 172 = some L172 := by kernel_rfl
def L180r0 : List LOper := [(og 10 (.move (.t 1)) 9 .true), (og 11 (.fieldAddr 1 (.t 2)) 9 .true), (og 12 (.load .false 1 (.t 11)) 9 .true), (og 13 (.bin .leq (.t 10) (.t 12)) 9 .true), (o 14 (.pick (.t 9) (.t 13) (.c (.bool .false)))), (o 4 (.move (.t 14)))]
def L180s0 : LCode := (.seq (.reg ((o 5 (.fieldAddr 0 (.t 2))) :: (o 6 (.load .false 1 (.t 5))) :: (o 7 (.move (.t 1))) :: (o 8 (.bin .leq (.t 6) (.t 7))) :: (o 9 (.move (.t 8))) :: L180r0)) .ret)
def L180 : LFunc := ⟨15, (.seq (.reg [(o 2 (.box (.t 0))), (o 4 (.move (.c (.bool .false))))]) L180s0), [(.t 4)], .false, .none, vO⟩
theorem lp180 : LP 180 = some L180 := by kernel_rfl
def L21r0 : List LOper := [(o 18 (.build [(.int .i64 0), (.int .i64 0)] [(0, (1, (.t 14))), (1, (1, (.t 17)))])), (o 19 (.fieldAddr 8 (.t 1))), (o 20 (.load .true 2 (.t 19))), (oa 21 (.call (.c (.func 29 [] [])) [(.t 20)]) [8, 5, 2]), (oa 22 (.build [(.int .i64 0), (.int .i64 0), (.int .i64 0), (.int .i64 0), (.slice .none 0 0), (.slice .none 0 0), (.int .i64 0), (.int .i64 0), (.int .i64 0), (.int .i64 0)] [(0, (4, (.t 5))), (4, (1, (.t 8))), (5, (1, (.t 11))), (6, (2, (.t 18))), (8, (2, (.t 21)))]) [18, 8, 5, 2]), (ona (.store 10 (.t 2) (.t 22)) [18, 8, 5, 2])]
def L21r1 : List LOper := ((o 13 (.fieldAddr 0 (.t 12))) :: (o 14 (.load .false 1 (.t 13))) :: (o 15 (.fieldAddr 6 (.t 1))) :: (o 16 (.fieldAddr 1 (.t 15))) :: (o 17 (.load .false 1 (.t 16))) :: L21r0)
def L21r2 : List LOper := ((oa 8 (.call (.c (.func 60 [] [])) [(.t 7)]) [2]) :: (o 9 (.fieldAddr 5 (.t 1))) :: (o 10 (.load .false 1 (.t 9))) :: (oa 11 (.call (.c (.func 66 [] [])) [(.t 10)]) [5, 2]) :: (o 12 (.fieldAddr 6 (.t 1))) :: L21r1)
def L21s0 : LCode := (.seq (.draw 19 ((o 3 (.fieldAddr 0 (.t 1))) :: (o 4 (.load .true 4 (.t 3))) :: (o 5 (.call (.c (.func 59 [] [])) [(.t 4)])) :: (o 6 (.fieldAddr 4 (.t 1))) :: (o 7 (.load .false 1 (.t 6))) :: L21r2)) .ret)
def L21 : LFunc := ⟨23, (.seq (.reg [(o 1 (.box (.t 0))), (o 2 (.alloc [(.int .i64 0), (.int .i64 0), (.int .i64 0), (.int .i64 0), (.slice .none 0 0), (.slice .none 0 0), (.int .i64 0), (.int .i64 0), (.int .i64 0), (.int .i64 0)]))]) L21s0), [(.cell 2 .true 10)], .true, .none, vO⟩
theorem lp21 : LP 21 = some L21 := by kernel_rfl
def L25r0 : List LOper := [(og 12 (.move (.t 2)) 10 .true), (og 13 (.bin .leq (.t 11) (.t 12)) 10 .true), (o 14 (.pick (.t 10) (.t 13) (.c (.bool .false)))), (o 6 (.move (.t 14)))]
def L25s0 : LCode := (.seq (.reg ((o 7 (.move (.t 0))) :: (o 8 (.move (.t 1))) :: (o 9 (.bin .geq (.t 7) (.t 8))) :: (o 10 (.move (.t 9))) :: (og 11 (.move (.t 0)) 10 .true) :: L25r0)) .ret)
def L25 : LFunc := ⟨15, (.seq (.reg [(o 6 (.move (.c (.bool .false))))]) L25s0), [(.t 6)], .false, .none, vO⟩
theorem lp25 : LP 25 = some L25 := by kernel_rfl
def L29s0 : LCode := (.seq (.reg [(o 3 (.fieldAddr 0 (.t 1))), (o 4 (.load .false 1 (.t 3))), (o 5 (.fieldAddr 1 (.t 1))), (o 6 (.load .false 1 (.t 5))), (o 7 (.build [(.int .i64 0), (.int .i64 0)] [(0, (1, (.t 4))), (1, (1, (.t 6)))])), (on (.store 2 (.t 2) (.t 7)))]) .ret)
def L29 : LFunc := ⟨8, (.seq (.reg [(o 1 (.box (.t 0))), (o 2 (.alloc [(.int .i64 0), (.int .i64 0)]))]) L29s0), [(.cell 2 .true 2)], .false, .none, vO⟩
theorem lp29 : LP 29 = some L29 := by kernel_rfl
def L53s0 : LCode := (.seq (.reg [(o 19 (.load .true 10 (.t 3))), (o 20 (.move (.t 8))), (on (.store 10 (.t 6) (.t 19))), (o 7 (.move (.t 20)))]) .ret)
def L53s1 : LCode := (.seq (.reg [(o 13 (.fieldAddr 0 (.t 3))), (o 14 (.load .true 4 (.t 13))), (o 15 (.move (.t 8))), (o 16 (.move (.t 2))), (o 17 (.call (.c (.func 93 [] [])) [(.t 14), (.t 15), (.t 16)])), (o 18 (.fieldAddr 4 (.t 3))), (on (.store 1 (.t 18) (.t 17)))]) L53s0)
def L53s2 : LCode := (.seq (.reg [(o 9 (.fieldAddr 0 (.t 3))), (o 10 (.load .true 4 (.t 9))), (o 11 (.move (.t 1))), (o 12 (.call (.c (.func 92 [] [])) [(.t 10), (.t 11)])), (o 8 (.move (.t 12)))]) L53s1)
def L53 : LFunc := ⟨21, (.seq (.reg [(o 3 (.box (.t 0))), (o 6 (.alloc [(.int .i64 0), (.int .i64 0), (.int .i64 0), (.int .i64 0), (.slice .none 0 0), (.slice .none 0 0), (.int .i64 0), (.int .i64 0), (.int .i64 0), (.int .i64 0)])), (o 7 (.move (.c (.slice .none 0 0))))]) L53s2), [(.cell 6 .true 10), (.t 7)], .true, .none, vO⟩
theorem lp53 : LP 53 = some L53 := by kernel_rfl
def L65r0 : List LOper := [(og 14 (.fieldAddr 5 (.t 1)) 13 .false), (og 15 (.load .false 1 (.t 14)) 13 .false), (og 16 (.len .slice (.t 15)) 13 .false), (og 17 (.bin .gtr (.t 16) (.c (.int .i64 8))) 13 .false), (o 18 (.pick (.t 13) (.c (.bool .true)) (.t 17)))]
def L65s0 : LCode := (.cond (.t 18) (.seq (.reg [(o 19 (.build [(.int .i64 0), (.int .i64 0), (.int .i64 0), (.int .i64 0), (.slice .none 0 0), (.slice .none 0 0), (.int .i64 0), (.int .i64 0), (.int .i64 0), (.int .i64 0), (.int .i64 0), (.int .i64 0), (.int .i64 0), (.int .i64 0), (.int .i64 0), (.int .i64 0), (.int .i64 0), (.int .i64 0), (.int .i64 0), (.int .i64 0), (.int .i64 0), (.int .i64 0), (.int .i64 0), (.int .i64 0), (.int .i64 0), (.int .i64 0), (.int .i64 0), (.int .i64 0), (.int .i64 0), (.int .i64 0), (.int .i64 0), (.int .i64 0)] [])), (on (.store 32 (.t 2) (.t 19))), (o 3 (.move (.c (.int .i64 3))))]) .ret) .skip)
def L65r1 : List LOper := [(o 20 (.move (.t 25))), (o 26 (.extract (.t 20) 0)), (o 27 (.extract (.t 20) 1)), (o 4 (.move (.t 26))), (o 5 (.move (.t 27)))]
def L65r2 : List LOper := [(o 28 (.move (.t 33))), (o 34 (.extract (.t 28) 0)), (o 35 (.extract (.t 28) 1)), (o 6 (.alloc [(.int .i64 0), (.int .i64 0)])), (on (.store 2 (.t 6) (.t 34))), (o 7 (.move (.t 35)))]
def L65r3 : List LOper := [(o 48 (.move (.t 47))), (og 49 (.fieldAddr 8 (.t 1)) 48 .false), (og 50 (.load .true 2 (.t 49)) 48 .false), (og 51 (.call (.c (.func 103 [] [])) [(.c (.int .i64 100))]) 48 .false), (oga 52 (.call (.c (.func 102 [] [])) [(.t 50), (.t 51)]) 48 .false [13]), (oga 53 (.un .not (.t 52)) 48 .false [14, 13]), (oa 54 (.pick (.t 48) (.c (.bool .true)) (.t 53)) [14, 13])]
def L65r4 : List LOper := ((o 43 (.pick (.t 40) (.t 42) (.c (.bool .false)))) :: (o 44 (.move (.t 43))) :: (og 45 (.move (.t 7)) 44 .false) :: (og 46 (.eq (.cell (.i .i64)) .true (.t 45) (.c (.int .i64 0))) 44 .false) :: (o 47 (.pick (.t 44) (.c (.bool .true)) (.t 46))) :: L65r3)
def L65s1 : LCode := (.cond (.t 54) (.seq (.reg [(o 55 (.build [(.int .i64 0), (.int .i64 0), (.int .i64 0), (.int .i64 0), (.slice .none 0 0), (.slice .none 0 0), (.int .i64 0), (.int .i64 0), (.int .i64 0), (.int .i64 0), (.int .i64 0), (.int .i64 0), (.int .i64 0), (.int .i64 0), (.int .i64 0), (.int .i64 0), (.int .i64 0), (.int .i64 0), (.int .i64 0), (.int .i64 0), (.int .i64 0), (.int .i64 0), (.int .i64 0), (.int .i64 0), (.int .i64 0), (.int .i64 0), (.int .i64 0), (.int .i64 0), (.int .i64 0), (.int .i64 0), (.int .i64 0), (.int .i64 0)] [])), (on (.store 32 (.t 2) (.t 55))), (o 3 (.move (.c (.int .i64 1))))]) .ret) .skip)
def L65s2 : LCode := (.cond (.t 56) (.seq (.reg [(o 57 (.build [(.int .i64 0), (.int .i64 0), (.int .i64 0), (.int .i64 0), (.slice .none 0 0), (.slice .none 0 0), (.int .i64 0), (.int .i64 0), (.int .i64 0), (.int .i64 0), (.int .i64 0), (.int .i64 0), (.int .i64 0), (.int .i64 0), (.int .i64 0), (.int .i64 0), (.int .i64 0), (.int .i64 0), (.int .i64 0), (.int .i64 0), (.int .i64 0), (.int .i64 0), (.int .i64 0), (.int .i64 0), (.int .i64 0), (.int .i64 0), (.int .i64 0), (.int .i64 0), (.int .i64 0), (.int .i64 0), (.int .i64 0), (.int .i64 0)] [])), (on (.store 32 (.t 2) (.t 57))), (o 3 (.move (.c (.int .i64 9))))]) .ret) .skip)
def L65r5 : List LOper := [(o 63 (.load .false 1 (.t 62))), (o 64 (.call (.c (.func 104 [] [])) [(.t 59), (.t 60), (.t 63)])), (oa 65 (.build [(.int .i64 0), (.int .i64 0), (.int .i64 0), (.int .i64 0), (.slice .none 0 0), (.slice .none 0 0), (.int .i64 0), (.int .i64 0), (.int .i64 0), (.int .i64 0), (.int .i64 0), (.int .i64 0), (.int .i64 0), (.int .i64 0), (.int .i64 0), (.int .i64 0), (.int .i64 0), (.int .i64 0), (.int .i64 0), (.int .i64 0), (.int .i64 0), (.int .i64 0), (.int .i64 0), (.int .i64 0), (.int .i64 0), (.int .i64 0), (.int .i64 0), (.int .i64 0), (.int .i64 0), (.int .i64 0), (.int .i64 0), (.int .i64 0)] [(0, (10, (.t 58))), (10, (22, (.t 64)))]) [6]), (ona (.store 32 (.t 2) (.t 65)) [6]), (oa 3 (.move (.c (.int .i64 0))) [6])]
def L65s3 : LCode := (.seq (.draw 7 ((o 58 (.load .true 10 (.t 1))) :: (o 59 (.move (.t 4))) :: (o 60 (.load .true 2 (.t 6))) :: (o 61 (.fieldAddr 0 (.t 1))) :: (o 62 (.fieldAddr 1 (.t 61))) :: L65r5)) .ret)
def L65s4 : LCode := (.seq (.seq (.draw 14 ((o 38 (.move (.t 5))) :: (o 39 (.eq (.cell (.i .i64)) .true (.t 38) (.c (.int .i64 0)))) :: (o 40 (.move (.t 39))) :: (og 41 (.move (.t 8)) 40 .true) :: (og 42 (.un .not (.t 41)) 40 .true) :: L65r4)) L65s1) (.seq (.seq (.reg [(o 56 (.move (.t 8)))]) L65s2) L65s3))
def L65s5 : LCode := (.seq (.reg [(o 36 (.move (.t 5))), (o 37 (.eq (.cell (.i .i64)) .false (.t 36) (.c (.int .i64 9)))), (o 8 (.move (.t 37)))]) L65s4)
def L65s6 : LCode := (.seq (.reg ((o 29 (.fieldAddr 5 (.t 1))) :: (o 30 (.load .false 1 (.t 29))) :: (o 31 (.fieldAddr 6 (.t 1))) :: (o 32 (.load .true 2 (.t 31))) :: (o 33 (.call (.c (.func 101 [] [])) [(.t 30), (.t 32)])) :: L65r2)) L65s5)
def L65s7 : LCode := (.seq (.reg ((o 21 (.fieldAddr 0 (.t 1))) :: (o 22 (.load .true 4 (.t 21))) :: (o 23 (.fieldAddr 4 (.t 1))) :: (o 24 (.load .false 1 (.t 23))) :: (o 25 (.call (.c (.func 70 [] [])) [(.t 22), (.t 24)])) :: L65r1)) L65s6)
def L65s8 : LCode := (.seq (.seq (.reg ((o 9 (.fieldAddr 4 (.t 1))) :: (o 10 (.load .false 1 (.t 9))) :: (o 11 (.len .slice (.t 10))) :: (o 12 (.bin .gtr (.t 11) (.c (.int .i64 12)))) :: (o 13 (.move (.t 12))) :: L65r0)) L65s0) L65s7)
def L65 : LFunc := ⟨66, (.seq (.reg [(o 1 (.box (.t 0))), (o 2 (.alloc [(.int .i64 0), (.int .i64 0), (.int .i64 0), (.int .i64 0), (.slice .none 0 0), (.slice .none 0 0), (.int .i64 0), (.int .i64 0), (.int .i64 0), (.int .i64 0), (.int .i64 0), (.int .i64 0), (.int .i64 0), (.int .i64 0), (.int .i64 0), (.int .i64 0), (.int .i64 0), (.int .i64 0), (.int .i64 0), (.int .i64 0), (.int .i64 0), (.int .i64 0), (.int .i64 0), (.int .i64 0), (.int .i64 0), (.int .i64 0), (.int .i64 0), (.int .i64 0), (.int .i64 0), (.int .i64 0), (.int .i64 0), (.int .i64 0)])), (o 3 (.move (.c (.int .i64 0))))]) L65s8), [(.cell 2 .true 32), (.t 3)], .true, .none, vO⟩
theorem lp65 : LP 65 = some L65 := by kernel_rfl
def L85r0 : List LOper := [(oga 55 (.pick (.t 42) (.c (.bool .true)) (.t 54)) 29 .true [13, 5]), (oga 56 (.pick (.t 29) (.t 55) (.c (.bool .false))) 26 .false [13, 5]), (oa 57 (.pick (.t 26) (.c (.bool .true)) (.t 56)) [13, 5])]
def L85r1 : List LOper := ((oga 50 (.bin .sub (.t 49) (.c (.int .i64 1))) 42 .false [13, 5]) :: (oga 51 (.indexAddrS 2 (.t 48) (.t 50)) 42 .false [13, 5]) :: (oga 52 (.fieldAddr 1 (.t 51)) 42 .false [13, 5]) :: (oga 53 (.load .false 1 (.t 52)) 42 .false [13, 5]) :: (oga 54 (.bin .leq (.t 47) (.t 53)) 42 .false [13, 5]) :: L85r0)
def L85r2 : List LOper := ((oga 45 (.indexAddrS 2 (.t 43) (.t 44)) 42 .false [13, 5]) :: (oga 46 (.fieldAddr 1 (.t 45)) 42 .false [13, 5]) :: (oga 47 (.load .false 1 (.t 46)) 42 .false [13, 5]) :: (oga 48 (.move (.t 0)) 42 .false [13, 5]) :: (oga 49 (.move (.t 3)) 42 .false [13, 5]) :: L85r1)
def L85r3 : List LOper := ((oga 40 (.load .false 1 (.t 39)) 29 .true [13, 5]) :: (oga 41 (.bin .leq (.t 34) (.t 40)) 29 .true [13, 5]) :: (oga 42 (.move (.t 41)) 29 .true [13, 5]) :: (oga 43 (.move (.t 0)) 42 .false [13, 5]) :: (oga 44 (.move (.t 3)) 42 .false [13, 5]) :: L85r2)
def L85r4 : List LOper := ((oga 35 (.move (.t 0)) 29 .true [13, 5]) :: (oga 36 (.move (.t 3)) 29 .true [13, 5]) :: (oga 37 (.bin .sub (.t 36) (.c (.int .i64 1))) 29 .true [13, 5]) :: (oga 38 (.indexAddrS 2 (.t 35) (.t 37)) 29 .true [13, 5]) :: (oga 39 (.fieldAddr 0 (.t 38)) 29 .true [13, 5]) :: L85r3)
def L85r5 : List LOper := ((oga 30 (.move (.t 0)) 29 .true [13, 5]) :: (oga 31 (.move (.t 3)) 29 .true [13, 5]) :: (oga 32 (.indexAddrS 2 (.t 30) (.t 31)) 29 .true [13, 5]) :: (oga 33 (.fieldAddr 0 (.t 32)) 29 .true [13, 5]) :: (oga 34 (.load .false 1 (.t 33)) 29 .true [13, 5]) :: L85r4)
def L85r6 : List LOper := ((oa 25 (.pick (.t 17) (.c (.bool .true)) (.t 24)) [13, 5]) :: (oa 26 (.move (.t 25)) [13, 5]) :: (oga 27 (.move (.t 3)) 26 .false [13, 5]) :: (oga 28 (.bin .gtr (.t 27) (.c (.int .i64 0))) 26 .false [13, 5]) :: (oga 29 (.move (.t 28)) 26 .false [13, 5]) :: L85r5)
def L85r7 : List LOper := ((oga 20 (.indexAddrS 2 (.t 18) (.t 19)) 17 .false [5]) :: (oga 21 (.fieldAddr 1 (.t 20)) 17 .false [5]) :: (oga 22 (.load .false 1 (.t 21)) 17 .false [5]) :: (oga 23 (.call (.c (.func 25 [] [])) [(.t 22), (.c (.int .i64 1)), (.c (.int .i64 2000))]) 17 .false [5]) :: (oga 24 (.un .not (.t 23)) 17 .false [13, 5]) :: L85r6)
def L85r8 : List LOper := ((o 15 (.call (.c (.func 25 [] [])) [(.t 14), (.c (.int .i64 1)), (.c (.int .i64 2000))])) :: (oa 16 (.un .not (.t 15)) [5]) :: (oa 17 (.move (.t 16)) [5]) :: (oga 18 (.move (.t 0)) 17 .false [5]) :: (oga 19 (.move (.t 3)) 17 .false [5]) :: L85r7)
def L85s0 : LCode := (.cond (.t 57) (.seq (.reg [(o 2 (.move (.c (.bool .false))))]) .ret) .skip)
def L85s1 : LCode := (.reg [(o 8 (.move (.t 3))), (o 9 (.bin .add (.t 8) (.c (.int .i64 1)))), (o 3 (.move (.t 9)))])
def L85s2 : LCode := (.seq (.block 1 (.seq (.draw 44 ((o 10 (.move (.t 0))) :: (o 11 (.move (.t 3))) :: (o 12 (.indexAddrS 2 (.t 10) (.t 11))) :: (o 13 (.fieldAddr 0 (.t 12))) :: (o 14 (.load .false 1 (.t 13))) :: L85r8)) L85s0)) L85s1)
def L85w0 : LCode := (.seq (.seq (.reg [(o 4 (.move (.t 3))), (o 5 (.move (.t 0))), (o 6 (.len .slice (.t 5))), (o 7 (.bin .lss (.t 4) (.t 6)))]) (.cond (.t 7) .skip (.exit 0))) L85s2)
def L85s3 : LCode := (.seq (.reg [(o 58 (.move (.t 0))), (o 59 (.len .slice (.t 58))), (o 60 (.bin .geq (.t 59) (.c (.int .i64 2)))), (o 2 (.move (.t 60)))]) .ret)
def L85s4 : LCode := (.seq (.seq (.reg [(o 3 (.move (.c (.int .i64 0))))]) (.block 0 (.loop L85w0))) L85s3)
def L85 : LFunc := ⟨61, (.seq (.reg [(o 2 (.move (.c (.bool .false))))]) L85s4), [(.t 2)], .false, .none, vO⟩
theorem lp85 : LP 85 = some L85 := by kernel_rfl
def L93r0 : List LOper := [(og 18 (.move (.t 8)) 17 .true), (og 19 (.bin .lss (.t 18) (.c (.int .i64 12))) 17 .true), (o 20 (.pick (.t 17) (.t 19) (.c (.bool .false))))]
def L93r1 : List LOper := [(oa 42 (.bin .mul (.t 34) (.t 41)) [7]), (oa 43 (.bin .quo (.t 42) (.c (.int .i64 256))) [7]), (oa 11 (.move (.t 43)) [7])]
def L93r2 : List LOper := ((o 37 (.move (.t 1))) :: (o 38 (.move (.t 10))) :: (o 39 (.call (.c (.func 56 [] [])) [(.t 37), (.t 38)])) :: (oa 40 (.bin .sub (.t 36) (.t 39)) [7]) :: (oa 41 (.bin .add (.t 40) (.c (.int .i64 5))) [7]) :: L93r1)
def L93r3 : List LOper := [(og 55 (.move (.t 10)) 49 .true), (og 56 (.call (.c (.func 56 [] [])) [(.t 54), (.t 55)]) 49 .true), (og 57 (.bin .sub (.t 53) (.t 56)) 49 .true), (og 58 (.move (.t 11)) 49 .true), (og 59 (.bin .leq (.t 57) (.t 58)) 49 .true), (o 60 (.pick (.t 49) (.t 59) (.c (.bool .false))))]
def L93r4 : List LOper := ((og 50 (.move (.t 1)) 49 .true) :: (og 51 (.move (.t 12)) 49 .true) :: (og 52 (.bin .add (.t 51) (.c (.int .i64 1))) 49 .true) :: (og 53 (.call (.c (.func 56 [] [])) [(.t 50), (.t 52)]) 49 .true) :: (og 54 (.move (.t 1)) 49 .true) :: L93r3)
def L93s0 : LCode := (.block 3 (.reg [(o 61 (.move (.t 12))), (o 62 (.bin .add (.t 61) (.c (.int .i64 1)))), (o 12 (.move (.t 62)))]))
def L93w0 : LCode := (.seq (.seq (.reg ((o 45 (.move (.t 12))) :: (o 46 (.fieldAddr 0 (.t 3))) :: (o 47 (.load .false 1 (.t 46))) :: (o 48 (.bin .lss (.t 45) (.t 47))) :: (o 49 (.move (.t 48))) :: L93r4)) (.cond (.t 60) .skip (.exit 2))) L93s0)
def L93r5 : List LOper := [(o 78 (.build [(.int .i64 0), (.int .i64 0)] [(0, (1, (.t 71))), (1, (1, (.t 77)))])), (o 79 (.build [(.int .i64 0), (.int .i64 0), (.int .i64 0), (.int .i64 0)] [(0, (1, (.t 64))), (1, (1, (.t 65))), (2, (2, (.t 78)))])), (o 80 (.buildSlice 1 [(.int .i64 0), (.int .i64 0), (.int .i64 0), (.int .i64 0)] [(0, (4, (.t 79)))])), (o 81 (.append 4 32 (.t 63) (.t 80))), (o 7 (.move (.t 81)))]
def L93r6 : List LOper := ((o 73 (.move (.t 9))) :: (o 74 (.bin .quo (.t 73) (.c (.int .i64 8192)))) :: (o 75 (.bin .rem (.t 74) (.c (.int .i64 3)))) :: (o 76 (.bin .add (.t 72) (.t 75))) :: (o 77 (.min [(.c (.int .i64 2000)), (.t 76)])) :: L93r5)
def L93r7 : List LOper := ((o 68 (.bin .quo (.t 67) (.c (.int .i64 4096)))) :: (o 69 (.bin .rem (.t 68) (.c (.int .i64 4)))) :: (o 70 (.bin .sub (.t 66) (.t 69))) :: (o 71 (.max [(.c (.int .i64 0)), (.t 70)])) :: (o 72 (.move (.t 11))) :: L93r6)
def L93s1 : LCode := (.reg ((o 63 (.move (.t 7))) :: (o 64 (.move (.t 10))) :: (o 65 (.move (.t 12))) :: (o 66 (.move (.t 11))) :: (o 67 (.move (.t 9))) :: L93r7))
def L93s2 : LCode := (.seq (.reg [(o 44 (.move (.t 10))), (o 12 (.move (.t 44)))]) (.seq (.block 2 (.loop L93w0)) L93s1))
def L93s3 : LCode := (.seq (.draw 8 ((o 32 (.move (.t 9))) :: (o 33 (.bin .quo (.t 32) (.c (.int .i64 16)))) :: (o 34 (.bin .rem (.t 33) (.c (.int .i64 256)))) :: (o 35 (.fieldAddr 1 (.t 3))) :: (o 36 (.load .false 1 (.t 35))) :: L93r2)) L93s2)
def L93s4 : LCode := (.seq (.reg [(o 28 (.move (.t 9))), (o 29 (.fieldAddr 0 (.t 3))), (o 30 (.load .false 1 (.t 29))), (o 31 (.bin .rem (.t 28) (.t 30))), (o 10 (.move (.t 31)))]) L93s3)
def L93s5 : LCode := (.reg [(o 21 (.move (.t 8))), (o 22 (.bin .add (.t 21) (.c (.int .i64 1)))), (o 8 (.move (.t 22)))])
def L93s6 : LCode := (.seq (.block 1 (.seq (.reg [(o 23 (.move (.t 2))), (o 24 (.move (.t 8))), (o 25 (.indexAddrS 1 (.t 23) (.t 24))), (o 26 (.load .false 1 (.t 25))), (o 27 (.convInt .i64 (.t 26))), (o 9 (.move (.t 27)))]) L93s4)) L93s5)
def L93w1 : LCode := (.seq (.seq (.reg ((o 13 (.move (.t 8))) :: (o 14 (.move (.t 2))) :: (o 15 (.len .slice (.t 14))) :: (o 16 (.bin .lss (.t 13) (.t 15))) :: (o 17 (.move (.t 16))) :: L93r0)) (.cond (.t 20) .skip (.exit 0))) L93s6)
def L93s7 : LCode := (.seq (.reg [(o 82 (.move (.t 7))), (o 6 (.move (.t 82)))]) .ret)
def L93s8 : LCode := (.seq (.seq (.reg [(o 8 (.move (.c (.int .i64 0))))]) (.block 0 (.loop L93w1))) L93s7)
def L93 : LFunc := ⟨83, (.seq (.reg [(o 3 (.box (.t 0))), (o 6 (.move (.c (.slice .none 0 0))))]) (.seq (.reg [(o 7 (.move (.c (.slice .none 0 0))))]) L93s8)), [(.t 6)], .true, .none, vO⟩
theorem lp93 : LP 93 = some L93 := by kernel_rfl
def L97s0 : LCode := (.seq (.reg [(o 3 (.fieldAddr 0 (.t 1))), (o 4 (.load .false 1 (.t 3))), (o 5 (.fieldAddr 1 (.t 1))), (o 6 (.load .false 1 (.t 5))), (o 7 (.build [(.int .i64 0), (.int .i64 0)] [(0, (1, (.t 4))), (1, (1, (.t 6)))])), (on (.store 2 (.t 2) (.t 7)))]) .ret)
def L97 : LFunc := ⟨8, (.seq (.reg [(o 1 (.box (.t 0))), (o 2 (.alloc [(.int .i64 0), (.int .i64 0)]))]) L97s0), [(.cell 2 .true 2)], .false, .none, vO⟩
theorem lp97 : LP 97 = some L97 := by kernel_rfl
def L101s0 : LCode := (.cond (.t 10) (.seq (.reg [(o 11 (.build [(.int .i64 0), (.int .i64 0)] [])), (o 12 (.move (.t 6))), (on (.store 2 (.t 4) (.t 11))), (o 5 (.move (.t 12)))]) .ret) .skip)
def L101s1 : LCode := (.seq (.reg [(o 9 (.move (.t 6))), (o 10 (.eq (.cell (.i .i64)) .true (.t 9) (.c (.int .i64 0))))]) L101s0)
def L101s2 : LCode := (.cond (.t 17) (.seq (.reg [(o 18 (.build [(.int .i64 0), (.int .i64 0)] [])), (on (.store 2 (.t 4) (.t 18))), (o 5 (.move (.c (.int .i64 2))))]) .ret) .skip)
def L101r0 : List LOper := [(o 24 (.fieldAddr 1 (.t 3))), (o 25 (.load .false 1 (.t 24))), (oa 26 (.call (.c (.func 141 [] [])) [(.t 23), (.t 25)]) [3]), (oa 27 (.build [(.int .i64 0), (.int .i64 0)] [(0, (1, (.t 22))), (1, (1, (.t 26)))]) [7, 3]), (ona (.store 2 (.t 4) (.t 27)) [7, 3]), (oa 5 (.move (.c (.int .i64 0))) [7, 3])]
def L101s3 : LCode := (.seq (.draw 7 ((o 19 (.move (.t 0))) :: (o 20 (.fieldAddr 0 (.t 3))) :: (o 21 (.load .false 1 (.t 20))) :: (o 22 (.call (.c (.func 141 [] [])) [(.t 19), (.t 21)])) :: (o 23 (.move (.t 0))) :: L101r0)) .ret)
def L101s4 : LCode := (.seq (.seq (.draw 3 [(o 13 (.load .true 2 (.t 3))), (o 14 (.move (.t 0))), (o 15 (.call (.c (.func 140 [] [])) [(.t 14)])), (oa 16 (.call (.c (.func 139 [] [])) [(.t 13), (.t 15)]) [2]), (oa 17 (.un .not (.t 16)) [3, 2])]) L101s2) L101s3)
def L101s5 : LCode := (.seq (.seq (.reg [(o 7 (.move (.t 0))), (o 8 (.call (.c (.func 138 [] [])) [(.t 7)])), (o 6 (.move (.t 8)))]) L101s1) L101s4)
def L101 : LFunc := ⟨28, (.seq (.reg [(o 3 (.box (.t 1))), (o 4 (.alloc [(.int .i64 0), (.int .i64 0)])), (o 5 (.move (.c (.int .i64 0))))]) L101s5), [(.cell 4 .true 2), (.t 5)], .false, .none, vO⟩
theorem lp101 : LP 101 = some L101 := by kernel_rfl
def L105r0 : List LOper := [(o 6 (.alloc [(.int .i64 0), (.int .i64 0), (.int .i64 0), (.int .i64 0), (.slice .none 0 0), (.slice .none 0 0), (.int .i64 0), (.int .i64 0), (.int .i64 0), (.int .i64 0), (.int .i64 0), (.int .i64 0), (.int .i64 0), (.int .i64 0), (.int .i64 0), (.int .i64 0), (.int .i64 0), (.int .i64 0), (.int .i64 0), (.int .i64 0), (.int .i64 0), (.int .i64 0), (.int .i64 0), (.int .i64 0), (.int .i64 0), (.int .i64 0), (.int .i64 0), (.int .i64 0), (.int .i64 0), (.int .i64 0), (.int .i64 0), (.int .i64 0)])), (on (.store 32 (.t 6) (.t 11))), (o 7 (.move (.t 12)))]
def L105s0 : LCode := (.cond (.t 14) (.seq (.reg [(o 15 (.build [(.int .i64 0), (.int .i64 0), (.int .i64 0), (.int .i64 0), (.slice .none 0 0), (.slice .none 0 0), (.int .i64 0), (.int .i64 0), (.int .i64 0), (.int .i64 0), (.int .i64 0), (.int .i64 0), (.int .i64 0), (.int .i64 0), (.int .i64 0), (.int .i64 0), (.int .i64 0), (.int .i64 0), (.int .i64 0), (.int .i64 0), (.int .i64 0), (.int .i64 0), (.int .i64 0), (.int .i64 0), (.int .i64 0), (.int .i64 0), (.int .i64 0), (.int .i64 0), (.int .i64 0), (.int .i64 0), (.int .i64 0), (.int .i64 0)] [])), (o 16 (.move (.t 7))), (on (.store 32 (.t 4) (.t 15))), (o 5 (.move (.t 16)))]) .ret) .skip)
def L105s1 : LCode := (.cond (.t 19) (.seq (.reg [(o 20 (.build [(.int .i64 0), (.int .i64 0), (.int .i64 0), (.int .i64 0), (.slice .none 0 0), (.slice .none 0 0), (.int .i64 0), (.int .i64 0), (.int .i64 0), (.int .i64 0), (.int .i64 0), (.int .i64 0), (.int .i64 0), (.int .i64 0), (.int .i64 0), (.int .i64 0), (.int .i64 0), (.int .i64 0), (.int .i64 0), (.int .i64 0), (.int .i64 0), (.int .i64 0), (.int .i64 0), (.int .i64 0), (.int .i64 0), (.int .i64 0), (.int .i64 0), (.int .i64 0), (.int .i64 0), (.int .i64 0), (.int .i64 0), (.int .i64 0)] [])), (on (.store 32 (.t 4) (.t 20))), (o 5 (.move (.c (.int .i64 2))))]) .ret) .skip)
def L105s2 : LCode := (.seq (.reg [(o 21 (.load .true 32 (.t 6))), (on (.store 32 (.t 4) (.t 21))), (o 5 (.move (.c (.int .i64 0))))]) .ret)
def L105s3 : LCode := (.seq (.seq (.reg [(o 17 (.move (.t 1))), (o 18 (.call (.c (.func 75 [] [])) [(.t 17)])), (o 19 (.un .not (.t 18)))]) L105s1) L105s2)
def L105s4 : LCode := (.seq (.seq (.reg [(o 13 (.move (.t 7))), (o 14 (.eq (.cell (.i .i64)) .true (.t 13) (.c (.int .i64 0))))]) L105s0) L105s3)
def L105s5 : LCode := (.seq (.reg ((o 9 (.load .true 10 (.t 2))) :: (o 10 (.call (.c (.func 65 [] [])) [(.t 9)])) :: (o 8 (.move (.t 10))) :: (o 11 (.extract (.t 8) 0)) :: (o 12 (.extract (.t 8) 1)) :: L105r0)) L105s4)
def L105 : LFunc := ⟨22, (.seq (.reg [(o 2 (.box (.t 0))), (o 4 (.alloc [(.int .i64 0), (.int .i64 0), (.int .i64 0), (.int .i64 0), (.slice .none 0 0), (.slice .none 0 0), (.int .i64 0), (.int .i64 0), (.int .i64 0), (.int .i64 0), (.int .i64 0), (.int .i64 0), (.int .i64 0), (.int .i64 0), (.int .i64 0), (.int .i64 0), (.int .i64 0), (.int .i64 0), (.int .i64 0), (.int .i64 0), (.int .i64 0), (.int .i64 0), (.int .i64 0), (.int .i64 0), (.int .i64 0), (.int .i64 0), (.int .i64 0), (.int .i64 0), (.int .i64 0), (.int .i64 0), (.int .i64 0), (.int .i64 0)])), (o 5 (.move (.c (.int .i64 0))))]) L105s5), [(.cell 4 .true 32), (.t 5)], .true, .none, vO⟩
theorem lp105 : LP 105 = some L105 := by kernel_rfl
def L133s0 : LCode := (.cond (.t 7) (.seq (.reg [(o 4 (.move (.c (.int .i64 0))))]) .ret) .skip)
def L133r0 : List LOper := [(o 13 (.indexAddrS 1 (.t 8) (.t 12))), (o 14 (.load .false 1 (.t 13))), (o 15 (.convInt .i64 (.t 14))), (o 4 (.move (.t 15)))]
def L133s1 : LCode := (.seq (.reg ((o 8 (.move (.t 0))) :: (o 9 (.move (.t 1))) :: (o 10 (.move (.t 0))) :: (o 11 (.len .slice (.t 10))) :: (o 12 (.bin .rem (.t 9) (.t 11))) :: L133r0)) .ret)
def L133s2 : LCode := (.seq (.seq (.reg [(o 5 (.move (.t 0))), (o 6 (.len .slice (.t 5))), (o 7 (.eq (.cell (.i .i64)) .false (.t 6) (.c (.int .i64 0))))]) L133s0) L133s1)
def L133 : LFunc := ⟨16, (.seq (.reg [(o 4 (.move (.c (.int .i64 0))))]) L133s2), [(.t 4)], .false, .none, vO⟩
theorem lp133 : LP 133 = some L133 := by kernel_rfl
def L137r0 : List LOper := [(o 10 (.indexAddrA 13 1 (.t 9) (.t 6))), (o 11 (.load .false 1 (.t 10))), (o 4 (.move (.t 11)))]
def L137s0 : LCode := (.seq (.reg ((o 5 (.move (.t 0))) :: (o 6 (.move (.t 1))) :: (o 7 (.nilCheck (.t 5))) :: (o 8 (.fieldAddr 1 (.t 7))) :: (o 9 (.indexAddrA 13 13 (.t 8) (.c (.int .i64 0)))) :: L137r0)) .ret)
def L137 : LFunc := ⟨12, (.seq (.reg [(o 4 (.move (.c (.int .i64 0))))]) L137s0), [(.t 4)], .false, .none, vO⟩
theorem lp137 : LP 137 = some L137 := by kernel_rfl
def L141s0 : LCode := (.reg [(o 7 (.alloc [(.int .i64 0), (.int .i64 0)])), (on (.store 2 (.t 7) (.t 13)))])
def L141r0 : List LOper := [(o 29 (.build [(.int .i64 0), (.int .i64 0)] [(0, (1, (.t 23))), (1, (1, (.t 28)))])), (o 8 (.alloc [(.int .i64 0), (.int .i64 0)])), (on (.store 2 (.t 8) (.t 29)))]
def L141r1 : List LOper := ((o 24 (.fieldAddr 0 (.t 7))) :: (o 25 (.load .false 1 (.t 24))) :: (o 26 (.fieldAddr 0 (.t 6))) :: (o 27 (.load .false 1 (.t 26))) :: (o 28 (.bin .sub (.t 25) (.t 27))) :: L141r0)
def L141r2 : List LOper := ((o 19 (.load .false 1 (.t 3))) :: (o 20 (.fieldAddr 0 (.t 6))) :: (o 21 (.load .false 1 (.t 20))) :: (o 22 (.bin .sub (.t 19) (.t 21))) :: (o 23 (.bin .mul (.t 18) (.t 22))) :: L141r1)
def L141s1 : LCode := (.draw 4 [(o 30 (.fieldAddr 1 (.t 6))), (o 31 (.load .false 1 (.t 30))), (o 32 (.load .true 2 (.t 8))), (o 33 (.call (.c (.func 160 [] [])) [(.t 32)])), (oa 34 (.bin .add (.t 31) (.t 33)) [3]), (ona (.store 1 (.t 5) (.t 34)) [3])])
def L141s2 : LCode := (.block 0 (.rangeFunc (.t 11) [12, 13] (.seq (.reg [(o 6 (.alloc [(.int .i64 0), (.int .i64 0)])), (on (.store 2 (.t 6) (.t 12)))]) L141s0) (.block 1 (.seq (.reg ((o 14 (.fieldAddr 1 (.t 7))) :: (o 15 (.load .false 1 (.t 14))) :: (o 16 (.fieldAddr 1 (.t 6))) :: (o 17 (.load .false 1 (.t 16))) :: (o 18 (.bin .sub (.t 15) (.t 17))) :: L141r2)) L141s1))))
def L141s3 : LCode := (.seq (.reg [(o 35 (.load .false 1 (.t 5))), (o 4 (.move (.t 35)))]) .ret)
def L141s4 : LCode := (.seq (.seq (.reg [(o 9 (.move (.t 0))), (o 10 (.load .false 1 (.t 3))), (o 11 (.call (.c (.func 159 [] [])) [(.t 9), (.t 10)]))]) L141s2) L141s3)
def L141s5 : LCode := (.seq (.reg [(o 5 (.alloc [(.int .i64 0)])), (on (.store 1 (.t 5) (.c (.int .i64 0))))]) L141s4)
def L141 : LFunc := ⟨36, (.seq (.reg [(o 3 (.box (.t 1))), (o 4 (.move (.c (.int .i64 0))))]) L141s5), [(.t 4)], .false, .none, vO⟩
theorem lp141 : LP 141 = some L141 := by kernel_rfl
def L153r0 : List LOper := [(o 11 (.build (Zr 174) [(0, (4, (.t 6))), (4, (170, (.t 10)))])), (o 3 (.alloc (Zr 174))), (on (.store 174 (.t 3) (.t 11)))]
def L153r1 : List LOper := [(o 35 (.fieldAddr 1 (.t 34))), (o 36 (.indexAddrA 13 13 (.t 35) (.t 25))), (o 37 (.indexAddrA 13 1 (.t 36) (.t 26))), (on (.store 1 (.t 37) (.t 33)))]
def L153r2 : List LOper := ((o 30 (.fieldAddr 2 (.t 1))) :: (o 31 (.fieldAddr 1 (.t 30))) :: (o 32 (.load .false 1 (.t 31))) :: (o 33 (.bin .mul (.t 29) (.t 32))) :: (o 34 (.fieldAddr 4 (.t 3))) :: L153r1)
def L153r3 : List LOper := [(o 48 (.fieldAddr 1 (.t 47))), (o 49 (.indexAddrA 13 13 (.t 48) (.t 38))), (o 50 (.indexAddrA 13 1 (.t 49) (.t 39))), (on (.store 1 (.t 50) (.t 46)))]
def L153r4 : List LOper := ((o 43 (.fieldAddr 2 (.t 1))) :: (o 44 (.fieldAddr 0 (.t 43))) :: (o 45 (.load .false 1 (.t 44))) :: (o 46 (.bin .mul (.t 42) (.t 45))) :: (o 47 (.fieldAddr 4 (.t 3))) :: L153r3)
def L153s0 : LCode := (.draw 0 ((o 38 (.move (.t 5))) :: (o 39 (.move (.t 4))) :: (o 40 (.move (.t 4))) :: (o 41 (.move (.t 5))) :: (o 42 (.bin .sub (.t 40) (.t 41))) :: L153r4))
def L153s1 : LCode := (.reg [(o 23 (.move (.t 5))), (o 24 (.bin .add (.t 23) (.c (.int .i64 1)))), (o 5 (.move (.t 24)))])
def L153s2 : LCode := (.seq (.block 3 (.seq (.draw 0 ((o 25 (.move (.t 4))) :: (o 26 (.move (.t 5))) :: (o 27 (.move (.t 5))) :: (o 28 (.move (.t 4))) :: (o 29 (.bin .sub (.t 27) (.t 28))) :: L153r2)) L153s0)) L153s1)
def L153w0 : LCode := (.seq (.seq (.reg [(o 19 (.move (.t 5))), (o 20 (.fieldAddr 0 (.t 1))), (o 21 (.load .false 1 (.t 20))), (o 22 (.bin .leq (.t 19) (.t 21)))]) (.cond (.t 22) .skip (.exit 2))) L153s2)
def L153s3 : LCode := (.reg [(o 16 (.move (.t 4))), (o 17 (.bin .add (.t 16) (.c (.int .i64 1)))), (o 4 (.move (.t 17)))])
def L153s4 : LCode := (.seq (.block 1 (.seq (.reg [(o 18 (.move (.t 4))), (o 5 (.move (.t 18)))]) (.block 2 (.loop L153w0)))) L153s3)
def L153w1 : LCode := (.seq (.seq (.reg [(o 12 (.move (.t 4))), (o 13 (.fieldAddr 0 (.t 1))), (o 14 (.load .false 1 (.t 13))), (o 15 (.bin .leq (.t 12) (.t 14)))]) (.cond (.t 15) .skip (.exit 0))) L153s4)
def L153s5 : LCode := (.seq (.reg [(o 64 (.load .true 174 (.t 3))), (on (.store 174 (.t 2) (.t 64)))]) .ret)
def L153s6 : LCode := (.seq (.reg [(o 57 (.fieldAddr 4 (.t 3))), (o 58 (.fieldAddr 0 (.t 1))), (o 59 (.load .false 1 (.t 58))), (o 60 (.fieldAddr 1 (.t 1))), (o 61 (.load .false 1 (.t 60))), (o 62 (.un .neg (.t 61))), (o 63 (.call (.c (.func 170 [] [])) [(.t 57), (.t 59), (.c (.int .i64 0)), (.t 62)]))]) L153s5)
def L153s7 : LCode := (.seq (.reg [(o 51 (.fieldAddr 4 (.t 3))), (o 52 (.fieldAddr 0 (.t 1))), (o 53 (.load .false 1 (.t 52))), (o 54 (.fieldAddr 1 (.t 1))), (o 55 (.load .false 1 (.t 54))), (o 56 (.call (.c (.func 170 [] [])) [(.t 51), (.c (.int .i64 0)), (.t 53), (.t 55)]))]) L153s6)
def L153s8 : LCode := (.seq (.seq (.reg [(o 4 (.move (.c (.int .i64 0))))]) (.block 0 (.loop L153w1))) L153s7)
def L153s9 : LCode := (.seq (.reg ((o 6 (.load .true 4 (.t 1))) :: (o 7 (.fieldAddr 0 (.t 1))) :: (o 8 (.load .false 1 (.t 7))) :: (o 9 (.bin .add (.t 8) (.c (.int .i64 1)))) :: (o 10 (.build (Zr 170) [(0, (1, (.t 9)))])) :: L153r0)) L153s8)
def L153 : LFunc := ⟨65, (.seq (.reg [(o 1 (.box (.t 0))), (o 2 (.alloc (Zr 174)))]) L153s9), [(.cell 2 .true 174)], .false, .none, vO⟩
theorem lp153 : LP 153 = some L153 := by kernel_rfl
def L157r0 : List LOper := [(o 17 (.load .true 2 (.t 16))), (o 18 (.move (.t 0))), (o 19 (.move (.t 5))), (o 20 (.indexAddrS 2 (.t 18) (.t 19))), (o 21 (.load .true 2 (.t 20))), (o 22 (.call (.t 12) [(.t 17), (.t 21)])), (oa 23 (.un .not (.t 22)) [10])]
def L157s0 : LCode := (.cond (.t 23) (.seq (.reg [(o 4 (.move (.c (.bool .false))))]) .ret) .skip)
def L157s1 : LCode := (.reg [(o 10 (.move (.t 5))), (o 11 (.bin .add (.t 10) (.c (.int .i64 1)))), (o 5 (.move (.t 11)))])
def L157s2 : LCode := (.seq (.block 1 (.seq (.draw 10 ((o 12 (.move (.t 1))) :: (o 13 (.move (.t 0))) :: (o 14 (.move (.t 5))) :: (o 15 (.bin .sub (.t 14) (.c (.int .i64 1)))) :: (o 16 (.indexAddrS 2 (.t 13) (.t 15))) :: L157r0)) L157s0)) L157s1)
def L157w0 : LCode := (.seq (.seq (.reg [(o 6 (.move (.t 5))), (o 7 (.move (.t 0))), (o 8 (.len .slice (.t 7))), (o 9 (.bin .lss (.t 6) (.t 8)))]) (.cond (.t 9) .skip (.exit 0))) L157s2)
def L157s3 : LCode := (.seq (.seq (.reg [(o 5 (.move (.c (.int .i64 1))))]) (.block 0 (.loop L157w0))) (.seq (.reg [(o 4 (.move (.c (.bool .true))))]) .ret))
def L157 : LFunc := ⟨24, (.seq (.reg [(o 4 (.move (.c (.bool .false))))]) L157s3), [(.t 4)], .false, .none, vO⟩
theorem lp157 : LP 157 = some L157 := by kernel_rfl
def L161s0 : LCode := (.seq (.reg [(o 1 (.build [.nilFunc, .nilFunc] [(0, (1, (.c (.func 107 [] [])))), (1, (1, (.c (.func 172 [] []))))])), (on (.store 2 (.t 0) (.t 1)))]) .ret)
def L161 : LFunc := ⟨2, (.seq (.reg [(o 0 (.alloc [.nilFunc, .nilFunc]))]) L161s0), [(.cell 0 .true 2)], .false, .none, vO⟩
theorem lp161 : LP 161 = some L161 := by kernel_rfl
def L169r0 : List LOper := [(og 22 (.bin .leq (.t 20) (.t 21)) 18 .true), (o 23 (.pick (.t 18) (.t 22) (.c (.bool .false)))), (o 6 (.move (.t 23)))]
def L169r1 : List LOper := ((o 17 (.pick (.t 11) (.t 16) (.c (.bool .false)))) :: (o 18 (.move (.t 17))) :: (og 19 (.fieldAddr 1 (.t 3)) 18 .true) :: (og 20 (.load .false 1 (.t 19)) 18 .true) :: (og 21 (.move (.t 2)) 18 .true) :: L169r0)
def L169r2 : List LOper := ((og 12 (.fieldAddr 0 (.t 3)) 11 .true) :: (og 13 (.load .false 1 (.t 12)) 11 .true) :: (og 14 (.fieldAddr 1 (.t 3)) 11 .true) :: (og 15 (.load .false 1 (.t 14)) 11 .true) :: (og 16 (.bin .leq (.t 13) (.t 15)) 11 .true) :: L169r1)
def L169s0 : LCode := (.seq (.reg ((o 7 (.move (.t 1))) :: (o 8 (.fieldAddr 0 (.t 3))) :: (o 9 (.load .false 1 (.t 8))) :: (o 10 (.bin .leq (.t 7) (.t 9))) :: (o 11 (.move (.t 10))) :: L169r2)) .ret)
def L169 : LFunc := ⟨24, (.seq (.reg [(o 3 (.box (.t 0))), (o 6 (.move (.c (.bool .false))))]) L169s0), [(.t 6)], .false, .none, vO⟩
theorem lp169 : LP 169 = some L169 := by kernel_rfl
def L181r0 : List LOper := [(o 14 (.fieldAddr 1 (.t 13))), (o 15 (.indexAddrA 13 13 (.t 14) (.t 11))), (o 16 (.indexAddrA 13 1 (.t 15) (.t 12))), (o 17 (.load .false 1 (.t 16))), (o 18 (.bin .add (.t 9) (.t 17))), (o 19 (.bin .geq (.t 18) (.c (.int .i64 0)))), (o 8 (.move (.t 19)))]
def L181s0 : LCode := (.seq (.reg ((o 9 (.move (.t 3))) :: (o 10 (.move (.t 0))) :: (o 11 (.move (.t 2))) :: (o 12 (.move (.t 1))) :: (o 13 (.nilCheck (.t 10))) :: L181r0)) .ret)
def L181 : LFunc := ⟨20, (.seq (.reg [(o 8 (.move (.c (.bool .false))))]) L181s0), [(.t 8)], .false, .none, vO⟩
theorem lp181 : LP 181 = some L181 := by kernel_rfl
end
end Go.Hx

