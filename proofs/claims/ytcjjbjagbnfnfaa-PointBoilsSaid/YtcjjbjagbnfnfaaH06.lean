/- More functions of the program: tables of steam. -/
import Derived.Test.YtcjjbjagbnfnfaaH04
import Derived.Test.YtcjjbjagbnfnfaaH05
import Derived.ProofKit
set_option linter.all false
/- More functions of the program: tables of steam. -/
namespace Go.Hx
set_option maxRecDepth 100000
noncomputable def L5 : LFunc := ⟨129, (.seq (.reg [⟨(.some 4), (.box (.t 0)), .none, []⟩, ⟨(.some 6), (.box (.t 2)), .none, []⟩, ⟨(.some 7), (.box (.t 3)), .none, []⟩, ⟨(.some 8), (.move (.c (.bool .false))), .none, []⟩]) (.seq (.seq (.reg [⟨(.some 16), (.move (.t 1)), .none, []⟩, ⟨(.some 17), (.len .slice (.t 16)), .none, []⟩, ⟨(.some 18), (.bin .gtr (.t 17) (.c (.int .i64 11))), .none, []⟩]) (.cond (.t 18) (.seq (.reg [⟨(.some 19), (.call (.c (.func 22 [] [])) []), .none, []⟩, ⟨(.some 8), (.move (.t 19)), .none, []⟩]) .ret) .skip)) (.seq (.draw 9 [⟨(.some 21), (.move (.t 1)), .none, []⟩, ⟨(.some 22), (.call (.c (.func 31 [] [])) [(.t 21)]), .none, []⟩, ⟨(.some 23), (.load .true 2 (.t 6)), .none, []⟩, ⟨(.some 24), (.call (.c (.func 19 [] [])) [(.t 23)]), .none, [1]⟩, ⟨(.some 25), (.call (.c (.func 30 [] [])) [(.t 22), (.t 24)]), .none, [3, 1]⟩, ⟨(.some 20), (.move (.t 25)), .none, [4, 3, 1]⟩, ⟨(.some 26), (.extract (.t 20) 0), .none, [4, 3, 1]⟩, ⟨(.some 27), (.extract (.t 20) 1), .none, [4, 3, 1]⟩, ⟨(.some 9), (.alloc [(.int .i64 0), (.int .i64 0)]), .none, []⟩, ⟨.none, (.store 2 (.t 9) (.t 26)), .none, [8, 4, 3, 1]⟩, ⟨(.some 10), (.move (.t 27)), .none, [8, 4, 3, 1]⟩]) (.seq (.draw 13 [⟨(.some 29), (.load .true 2 (.t 4)), .none, []⟩, ⟨(.some 30), (.call (.c (.func 17 [] [])) [(.t 29)]), .none, []⟩, ⟨(.some 31), (.move (.t 1)), .none, []⟩, ⟨(.some 32), (.call (.c (.func 31 [] [])) [(.t 31)]), .none, [1]⟩, ⟨(.some 33), (.load .true 2 (.t 6)), .none, []⟩, ⟨(.some 34), (.call (.c (.func 19 [] [])) [(.t 33)]), .none, [3, 1]⟩, ⟨(.some 35), (.load .true 2 (.t 7)), .none, []⟩, ⟨(.some 36), (.call (.c (.func 19 [] [])) [(.t 35)]), .none, [5, 3, 1]⟩, ⟨(.some 37), (.call (.c (.func 32 [] [])) [(.t 30), (.t 32), (.t 34), (.t 36)]), .none, [7, 5, 3, 1]⟩, ⟨(.some 28), (.move (.t 37)), .none, [8, 7, 5, 3, 1]⟩, ⟨(.some 38), (.extract (.t 28) 0), .none, [8, 7, 5, 3, 1]⟩, ⟨(.some 39), (.extract (.t 28) 1), .none, [8, 7, 5, 3, 1]⟩, ⟨(.some 11), (.alloc [(.int .i64 0), (.int .i64 0)]), .none, []⟩, ⟨.none, (.store 2 (.t 11) (.t 38)), .none, [12, 8, 7, 5, 3, 1]⟩, ⟨(.some 12), (.move (.t 39)), .none, [12, 8, 7, 5, 3, 1]⟩]) (.seq (.reg [⟨(.some 13), (.move (.c (.int .i64 0))), .none, []⟩, ⟨(.some 14), (.move (.c (.int .i64 0))), .none, []⟩]) (.seq (.block 0 (.seq (.reg [⟨(.some 41), (.move (.t 1)), .none, []⟩, ⟨(.some 42), (.len .slice (.t 41)), .none, []⟩, ⟨(.some 43), (.bin .gtr (.t 42) (.c (.int .i64 8))), .none, []⟩, ⟨(.some 40), (.move (.t 43)), .none, []⟩]) (.cond (.t 40) (.reg [⟨(.some 13), (.move (.c (.int .i64 3))), .none, []⟩, ⟨(.some 14), (.move (.c (.int .i64 3))), .none, []⟩]) (.seq (.reg [⟨(.some 45), (.move (.t 1)), .none, []⟩, ⟨(.some 46), (.call (.c (.func 33 [] [])) [(.t 45)]), .none, []⟩, ⟨(.some 47), (.un .not (.t 46)), .none, []⟩, ⟨(.some 44), (.move (.t 47)), .none, []⟩]) (.cond (.t 44) (.reg [⟨(.some 13), (.move (.c (.int .i64 1))), .none, []⟩, ⟨(.some 14), (.move (.c (.int .i64 1))), .none, []⟩]) (.seq (.draw 12 [⟨(.some 49), (.load .true 2 (.t 6)), .none, []⟩, ⟨(.some 50), (.move (.t 1)), .none, []⟩, ⟨(.some 51), (.indexAddrS 2 (.t 50) (.c (.int .i64 0))), .none, []⟩, ⟨(.some 52), (.fieldAddr 0 (.t 51)), .none, []⟩, ⟨(.some 53), (.load .false 1 (.t 52)), .none, []⟩, ⟨(.some 54), (.move (.t 1)), .none, []⟩, ⟨(.some 55), (.move (.t 1)), .none, []⟩, ⟨(.some 56), (.len .slice (.t 55)), .none, []⟩, ⟨(.some 57), (.bin .sub (.t 56) (.c (.int .i64 1))), .none, []⟩, ⟨(.some 58), (.indexAddrS 2 (.t 54) (.t 57)), .none, []⟩, ⟨(.some 59), (.fieldAddr 0 (.t 58)), .none, []⟩, ⟨(.some 60), (.load .false 1 (.t 59)), .none, []⟩, ⟨(.some 61), (.call (.c (.func 34 [] [])) [(.t 49), (.t 53), (.t 60)]), .none, []⟩, ⟨(.some 62), (.un .not (.t 61)), .none, [12]⟩, ⟨(.some 48), (.move (.t 62)), .none, [12]⟩]) (.cond (.t 48) (.reg [⟨(.some 13), (.move (.c (.int .i64 2))), .none, []⟩, ⟨(.some 14), (.move (.c (.int .i64 2))), .none, []⟩]) .skip))))))) (.seq (.seq (.reg [⟨(.some 63), (.move (.t 14)), .none, []⟩, ⟨(.some 64), (.eq (.cell (.i .i64)) .true (.t 63) (.c (.int .i64 3))), .none, []⟩]) (.cond (.t 64) (.block 1 (.seq (.reg [⟨(.some 66), (.move (.t 14)), .none, []⟩, ⟨(.some 67), (.eq (.cell (.i .i64)) .false (.t 66) (.c (.int .i64 1))), .none, []⟩, ⟨(.some 68), (.move (.t 67)), .none, []⟩, ⟨(.some 69), (.load .true 2 (.t 4)), (.some (68, .false)), []⟩, ⟨(.some 70), (.call (.c (.func 20 [] [])) [(.t 69)]), (.some (68, .false)), []⟩, ⟨(.some 71), (.un .not (.t 70)), (.some (68, .false)), []⟩, ⟨(.some 72), (.pick (.t 68) (.c (.bool .true)) (.t 71)), .none, []⟩, ⟨(.some 65), (.move (.t 72)), .none, []⟩]) (.cond (.t 65) (.reg [⟨(.some 14), (.move (.c (.int .i64 1))), .none, []⟩]) (.seq (.reg [⟨(.some 74), (.load .true 2 (.t 7)), .none, []⟩, ⟨(.some 75), (.call (.c (.func 29 [] [])) [(.t 74)]), .none, []⟩, ⟨(.some 76), (.un .not (.t 75)), .none, []⟩, ⟨(.some 73), (.move (.t 76)), .none, []⟩]) (.cond (.t 73) (.reg [⟨(.some 14), (.move (.c (.int .i64 2))), .none, []⟩]) .skip))))) .skip)) (.seq (.seq (.reg [⟨(.some 77), (.move (.t 10)), .none, []⟩, ⟨(.some 78), (.move (.t 13)), .none, []⟩, ⟨(.some 79), (.eq (.cell (.i .i64)) .true (.t 77) (.t 78)), .none, []⟩, ⟨(.some 80), (.move (.t 79)), .none, []⟩, ⟨(.some 81), (.move (.t 12)), (.some (80, .false)), []⟩, ⟨(.some 82), (.move (.t 14)), (.some (80, .false)), []⟩, ⟨(.some 83), (.eq (.cell (.i .i64)) .true (.t 81) (.t 82)), (.some (80, .false)), []⟩, ⟨(.some 84), (.pick (.t 80) (.c (.bool .true)) (.t 83)), .none, []⟩]) (.cond (.t 84) (.seq (.reg [⟨(.some 8), (.move (.c (.bool .false))), .none, []⟩]) .ret) .skip)) (.seq (.seq (.reg [⟨(.some 85), (.move (.t 13)), .none, []⟩, ⟨(.some 86), (.eq (.cell (.i .i64)) .true (.t 85) (.c (.int .i64 0))), .none, []⟩]) (.cond (.t 86) (.seq (.reg [⟨(.some 87), (.load .true 2 (.t 9)), .none, []⟩, ⟨(.some 88), (.build [(.int .i64 0), (.int .i64 0)] []), .none, []⟩, ⟨(.some 89), (.eq (.row [(.i .i64), (.i .i64)]) .false (.t 87) (.t 88)), .none, []⟩, ⟨(.some 90), (.move (.t 89)), .none, []⟩, ⟨(.some 91), (.load .true 2 (.t 11)), (.some (90, .true)), []⟩, ⟨(.some 92), (.build [(.int .i64 0), (.int .i64 0)] []), (.some (90, .true)), []⟩, ⟨(.some 93), (.eq (.row [(.i .i64), (.i .i64)]) .false (.t 91) (.t 92)), (.some (90, .true)), []⟩, ⟨(.some 94), (.pick (.t 90) (.t 93) (.c (.bool .false))), .none, []⟩, ⟨(.some 95), (.move (.t 94)), .none, []⟩, ⟨(.some 96), (.call (.c (.func 22 [] [])) []), (.some (95, .true)), []⟩, ⟨(.some 97), (.pick (.t 95) (.t 96) (.c (.bool .false))), .none, []⟩, ⟨(.some 8), (.move (.t 97)), .none, []⟩]) .ret) .skip)) (.seq (.draw 10 [⟨(.some 98), (.move (.t 1)), .none, []⟩, ⟨(.some 99), (.fieldAddr 0 (.t 6)), .none, []⟩, ⟨(.some 100), (.load .false 1 (.t 99)), .none, []⟩, ⟨(.some 101), (.call (.c (.func 35 [] [])) [(.t 98), (.t 100)]), .none, []⟩, ⟨(.some 102), (.move (.t 1)), .none, []⟩, ⟨(.some 103), (.fieldAddr 1 (.t 6)), .none, []⟩, ⟨(.some 104), (.load .false 1 (.t 103)), .none, []⟩, ⟨(.some 105), (.call (.c (.func 35 [] [])) [(.t 102), (.t 104)]), .none, [3]⟩, ⟨(.some 106), (.build [(.int .i64 0), (.int .i64 0)] [(0, (1, (.t 101))), (1, (1, (.t 105)))]), .none, [7, 3]⟩, ⟨(.some 15), (.alloc [(.int .i64 0), (.int .i64 0)]), .none, []⟩, ⟨.none, (.store 2 (.t 15) (.t 106)), .none, [9, 7, 3]⟩]) (.seq (.seq (.draw 3 [⟨(.some 107), (.load .true 2 (.t 9)), .none, []⟩, ⟨(.some 108), (.load .true 2 (.t 15)), .none, []⟩, ⟨(.some 109), (.call (.c (.func 19 [] [])) [(.t 108)]), .none, []⟩, ⟨(.some 110), (.eq (.row [(.i .i64), (.i .i64)]) .true (.t 107) (.t 109)), .none, [2]⟩]) (.cond (.t 110) (.seq (.reg [⟨(.some 8), (.move (.c (.bool .false))), .none, []⟩]) .ret) .skip)) (.seq (.seq (.reg [⟨(.some 111), (.move (.t 14)), .none, []⟩, ⟨(.some 112), (.eq (.cell (.i .i64)) .true (.t 111) (.c (.int .i64 0))), .none, []⟩]) (.cond (.t 112) (.seq (.reg [⟨(.some 113), (.load .true 2 (.t 11)), .none, []⟩, ⟨(.some 114), (.build [(.int .i64 0), (.int .i64 0)] []), .none, []⟩, ⟨(.some 115), (.eq (.row [(.i .i64), (.i .i64)]) .false (.t 113) (.t 114)), .none, []⟩, ⟨(.some 116), (.move (.t 115)), .none, []⟩, ⟨(.some 117), (.call (.c (.func 22 [] [])) []), (.some (116, .true)), []⟩, ⟨(.some 118), (.pick (.t 116) (.t 117) (.c (.bool .false))), .none, []⟩, ⟨(.some 8), (.move (.t 118)), .none, []⟩]) .ret) .skip)) (.seq (.draw 6 [⟨(.some 119), (.load .true 2 (.t 11)), .none, []⟩, ⟨(.some 120), (.load .true 2 (.t 4)), .none, []⟩, ⟨(.some 121), (.load .true 2 (.t 15)), .none, []⟩, ⟨(.some 122), (.load .true 2 (.t 7)), .none, []⟩, ⟨(.some 123), (.call (.c (.func 36 [] [])) [(.t 120), (.t 121), (.t 122)]), .none, []⟩, ⟨(.some 124), (.call (.c (.func 19 [] [])) [(.t 123)]), .none, [4]⟩, ⟨(.some 125), (.eq (.row [(.i .i64), (.i .i64)]) .false (.t 119) (.t 124)), .none, [5, 4]⟩, ⟨(.some 126), (.move (.t 125)), .none, [5, 4]⟩, ⟨(.some 127), (.call (.c (.func 22 [] [])) []), (.some (126, .true)), [5, 4]⟩, ⟨(.some 128), (.pick (.t 126) (.t 127) (.c (.bool .false))), .none, [8, 5, 4]⟩, ⟨(.some 8), (.move (.t 128)), .none, [8, 5, 4]⟩]) .ret))))))))))))), [(.t 8)], .false, .none⟩
theorem lp5 : LP 5 = some L5 := by kernel_rfl
noncomputable def L30 : LFunc := ⟨28, (.seq (.reg [⟨(.some 3), (.box (.t 1)), .none, []⟩, ⟨(.some 4), (.alloc [(.int .i64 0), (.int .i64 0)]), .none, []⟩, ⟨(.some 5), (.move (.c (.int .i64 0))), .none, []⟩]) (.seq (.seq (.reg [⟨(.some 7), (.move (.t 0)), .none, []⟩, ⟨(.some 8), (.call (.c (.func 63 [] [])) [(.t 7)]), .none, []⟩, ⟨(.some 6), (.move (.t 8)), .none, []⟩]) (.seq (.reg [⟨(.some 9), (.move (.t 6)), .none, []⟩, ⟨(.some 10), (.eq (.cell (.i .i64)) .true (.t 9) (.c (.int .i64 0))), .none, []⟩]) (.cond (.t 10) (.seq (.reg [⟨(.some 11), (.build [(.int .i64 0), (.int .i64 0)] []), .none, []⟩, ⟨(.some 12), (.move (.t 6)), .none, []⟩, ⟨.none, (.store 2 (.t 4) (.t 11)), .none, []⟩, ⟨(.some 5), (.move (.t 12)), .none, []⟩]) .ret) .skip))) (.seq (.seq (.draw 3 [⟨(.some 13), (.load .true 2 (.t 3)), .none, []⟩, ⟨(.some 14), (.move (.t 0)), .none, []⟩, ⟨(.some 15), (.call (.c (.func 65 [] [])) [(.t 14)]), .none, []⟩, ⟨(.some 16), (.call (.c (.func 64 [] [])) [(.t 13), (.t 15)]), .none, [2]⟩, ⟨(.some 17), (.un .not (.t 16)), .none, [3, 2]⟩]) (.cond (.t 17) (.seq (.reg [⟨(.some 18), (.build [(.int .i64 0), (.int .i64 0)] []), .none, []⟩, ⟨.none, (.store 2 (.t 4) (.t 18)), .none, []⟩, ⟨(.some 5), (.move (.c (.int .i64 2))), .none, []⟩]) .ret) .skip)) (.seq (.draw 7 [⟨(.some 19), (.move (.t 0)), .none, []⟩, ⟨(.some 20), (.fieldAddr 0 (.t 3)), .none, []⟩, ⟨(.some 21), (.load .false 1 (.t 20)), .none, []⟩, ⟨(.some 22), (.call (.c (.func 66 [] [])) [(.t 19), (.t 21)]), .none, []⟩, ⟨(.some 23), (.move (.t 0)), .none, []⟩, ⟨(.some 24), (.fieldAddr 1 (.t 3)), .none, []⟩, ⟨(.some 25), (.load .false 1 (.t 24)), .none, []⟩, ⟨(.some 26), (.call (.c (.func 66 [] [])) [(.t 23), (.t 25)]), .none, [3]⟩, ⟨(.some 27), (.build [(.int .i64 0), (.int .i64 0)] [(0, (1, (.t 22))), (1, (1, (.t 26)))]), .none, [7, 3]⟩, ⟨.none, (.store 2 (.t 4) (.t 27)), .none, [7, 3]⟩, ⟨(.some 5), (.move (.c (.int .i64 0))), .none, [7, 3]⟩]) .ret)))), [(.cell 4 .true 2), (.t 5)], .false, .none⟩
theorem lp30 : LP 30 = some L30 := by kernel_rfl
noncomputable def L31w0 : LCode := (.seq (.seq (.reg [⟨(.some 5), (.move (.t 4)), .none, []⟩, ⟨(.some 6), (.move (.t 0)), .none, []⟩, ⟨(.some 7), (.len .slice (.t 6)), .none, []⟩, ⟨(.some 8), (.bin .lss (.t 5) (.t 7)), .none, []⟩]) (.cond (.t 8) .skip (.exit 0))) (.seq (.block 1 (.draw 11 [⟨(.some 11), (.move (.t 3)), .none, []⟩, ⟨(.some 12), (.move (.t 0)), .none, []⟩, ⟨(.some 13), (.move (.t 4)), .none, []⟩, ⟨(.some 14), (.indexAddrS 2 (.t 12) (.t 13)), .none, []⟩, ⟨(.some 15), (.fieldAddr 0 (.t 14)), .none, []⟩, ⟨(.some 16), (.load .false 1 (.t 15)), .none, []⟩, ⟨(.some 17), (.move (.t 0)), .none, []⟩, ⟨(.some 18), (.move (.t 4)), .none, []⟩, ⟨(.some 19), (.indexAddrS 2 (.t 17) (.t 18)), .none, []⟩, ⟨(.some 20), (.fieldAddr 1 (.t 19)), .none, []⟩, ⟨(.some 21), (.load .false 1 (.t 20)), .none, []⟩, ⟨(.some 22), (.build [(.int .i64 0), (.int .i64 0)] [(0, (1, (.t 16))), (1, (1, (.t 21)))]), .none, []⟩, ⟨(.some 23), (.buildSlice 1 [(.int .i64 0), (.int .i64 0)] [(0, (2, (.t 22)))]), .none, []⟩, ⟨(.some 24), (.append 2 16 (.t 11) (.t 23)), .none, [12]⟩, ⟨(.some 3), (.move (.t 24)), .none, [13, 12]⟩])) (.reg [⟨(.some 9), (.move (.t 4)), .none, []⟩, ⟨(.some 10), (.bin .add (.t 9) (.c (.int .i64 1))), .none, []⟩, ⟨(.some 4), (.move (.t 10)), .none, []⟩])))
noncomputable def L31 : LFunc := ⟨26, (.seq (.reg [⟨(.some 2), (.move (.c (.slice .none 0 0))), .none, []⟩]) (.seq (.reg [⟨(.some 3), (.move (.c (.slice .none 0 0))), .none, []⟩]) (.seq (.seq (.reg [⟨(.some 4), (.move (.c (.int .i64 0))), .none, []⟩]) (.block 0 (.loop L31w0))) (.seq (.reg [⟨(.some 25), (.move (.t 3)), .none, []⟩, ⟨(.some 2), (.move (.t 25)), .none, []⟩]) .ret)))), [(.t 2)], .false, .none⟩
theorem lp31 : LP 31 = some L31 := by kernel_rfl
noncomputable def L32 : LFunc := ⟨42, (.seq (.reg [⟨(.some 4), (.box (.t 0)), .none, []⟩, ⟨(.some 6), (.box (.t 2)), .none, []⟩, ⟨(.some 7), (.box (.t 3)), .none, []⟩, ⟨(.some 8), (.alloc [(.int .i64 0), (.int .i64 0)]), .none, []⟩, ⟨(.some 9), (.move (.c (.int .i64 0))), .none, []⟩]) (.seq (.seq (.reg [⟨(.some 14), (.move (.t 1)), .none, []⟩, ⟨(.some 15), (.call (.c (.func 63 [] [])) [(.t 14)]), .none, []⟩, ⟨(.some 10), (.move (.t 15)), .none, []⟩]) (.seq (.reg [⟨(.some 16), (.move (.t 10)), .none, []⟩, ⟨(.some 17), (.eq (.cell (.i .i64)) .true (.t 16) (.c (.int .i64 0))), .none, []⟩]) (.cond (.t 17) (.seq (.reg [⟨(.some 18), (.build [(.int .i64 0), (.int .i64 0)] []), .none, []⟩, ⟨(.some 19), (.move (.t 10)), .none, []⟩, ⟨.none, (.store 2 (.t 8) (.t 18)), .none, []⟩, ⟨(.some 9), (.move (.t 19)), .none, []⟩]) .ret) .skip))) (.seq (.seq (.reg [⟨(.some 20), (.load .true 2 (.t 7)), .none, []⟩, ⟨(.some 21), (.load .true 2 (.t 4)), .none, []⟩, ⟨(.some 22), (.buildSlice 1 [(.int .i64 0), (.int .i64 0)] [(0, (2, (.t 21)))]), .none, []⟩, ⟨(.some 23), (.call (.c (.func 53 [] [])) [(.t 20), (.t 22)]), .none, []⟩, ⟨(.some 11), (.move (.t 23)), .none, []⟩]) (.seq (.reg [⟨(.some 24), (.move (.t 11)), .none, []⟩, ⟨(.some 25), (.eq (.cell (.i .i64)) .true (.t 24) (.c (.int .i64 0))), .none, []⟩]) (.cond (.t 25) (.seq (.reg [⟨(.some 26), (.build [(.int .i64 0), (.int .i64 0)] []), .none, []⟩, ⟨(.some 27), (.move (.t 11)), .none, []⟩, ⟨.none, (.store 2 (.t 8) (.t 26)), .none, []⟩, ⟨(.some 9), (.move (.t 27)), .none, []⟩]) .ret) .skip))) (.seq (.reg [⟨(.some 29), (.move (.t 1)), .none, []⟩, ⟨(.some 30), (.load .true 2 (.t 6)), .none, []⟩, ⟨(.some 31), (.call (.c (.func 30 [] [])) [(.t 29), (.t 30)]), .none, []⟩, ⟨(.some 28), (.move (.t 31)), .none, []⟩, ⟨(.some 32), (.extract (.t 28) 0), .none, []⟩, ⟨(.some 33), (.extract (.t 28) 1), .none, []⟩, ⟨(.some 12), (.alloc [(.int .i64 0), (.int .i64 0)]), .none, []⟩, ⟨.none, (.store 2 (.t 12) (.t 32)), .none, []⟩, ⟨(.some 13), (.move (.t 33)), .none, []⟩]) (.seq (.seq (.reg [⟨(.some 34), (.move (.t 13)), .none, []⟩, ⟨(.some 35), (.eq (.cell (.i .i64)) .true (.t 34) (.c (.int .i64 0))), .none, []⟩]) (.cond (.t 35) (.seq (.reg [⟨(.some 36), (.build [(.int .i64 0), (.int .i64 0)] []), .none, []⟩, ⟨(.some 37), (.move (.t 13)), .none, []⟩, ⟨.none, (.store 2 (.t 8) (.t 36)), .none, []⟩, ⟨(.some 9), (.move (.t 37)), .none, []⟩]) .ret) .skip)) (.seq (.reg [⟨(.some 38), (.load .true 2 (.t 4)), .none, []⟩, ⟨(.some 39), (.load .true 2 (.t 12)), .none, []⟩, ⟨(.some 40), (.load .true 2 (.t 7)), .none, []⟩, ⟨(.some 41), (.call (.c (.func 54 [] [])) [(.t 38), (.t 39), (.t 40)]), .none, []⟩, ⟨.none, (.store 2 (.t 8) (.t 41)), .none, []⟩, ⟨(.some 9), (.move (.c (.int .i64 0))), .none, []⟩]) .ret)))))), [(.cell 8 .true 2), (.t 9)], .false, .none⟩
theorem lp32 : LP 32 = some L32 := by kernel_rfl
noncomputable def L33w0 : LCode := (.seq (.seq (.reg [⟨(.some 4), (.move (.t 3)), .none, []⟩, ⟨(.some 5), (.move (.t 0)), .none, []⟩, ⟨(.some 6), (.len .slice (.t 5)), .none, []⟩, ⟨(.some 7), (.bin .lss (.t 4) (.t 6)), .none, []⟩]) (.cond (.t 7) .skip (.exit 0))) (.seq (.block 1 (.seq (.draw 44 [⟨(.some 10), (.move (.t 0)), .none, []⟩, ⟨(.some 11), (.move (.t 3)), .none, []⟩, ⟨(.some 12), (.indexAddrS 2 (.t 10) (.t 11)), .none, []⟩, ⟨(.some 13), (.fieldAddr 0 (.t 12)), .none, []⟩, ⟨(.some 14), (.load .false 1 (.t 13)), .none, []⟩, ⟨(.some 15), (.call (.c (.func 55 [] [])) [(.t 14), (.c (.int .i64 1)), (.c (.int .i64 2000))]), .none, []⟩, ⟨(.some 16), (.un .not (.t 15)), .none, [5]⟩, ⟨(.some 17), (.move (.t 16)), .none, [5]⟩, ⟨(.some 18), (.move (.t 0)), (.some (17, .false)), [5]⟩, ⟨(.some 19), (.move (.t 3)), (.some (17, .false)), [5]⟩, ⟨(.some 20), (.indexAddrS 2 (.t 18) (.t 19)), (.some (17, .false)), [5]⟩, ⟨(.some 21), (.fieldAddr 1 (.t 20)), (.some (17, .false)), [5]⟩, ⟨(.some 22), (.load .false 1 (.t 21)), (.some (17, .false)), [5]⟩, ⟨(.some 23), (.call (.c (.func 55 [] [])) [(.t 22), (.c (.int .i64 1)), (.c (.int .i64 2000))]), (.some (17, .false)), [5]⟩, ⟨(.some 24), (.un .not (.t 23)), (.some (17, .false)), [13, 5]⟩, ⟨(.some 25), (.pick (.t 17) (.c (.bool .true)) (.t 24)), .none, [13, 5]⟩, ⟨(.some 26), (.move (.t 25)), .none, [13, 5]⟩, ⟨(.some 27), (.move (.t 3)), (.some (26, .false)), [13, 5]⟩, ⟨(.some 28), (.bin .gtr (.t 27) (.c (.int .i64 0))), (.some (26, .false)), [13, 5]⟩, ⟨(.some 29), (.move (.t 28)), (.some (26, .false)), [13, 5]⟩, ⟨(.some 30), (.move (.t 0)), (.some (29, .true)), [13, 5]⟩, ⟨(.some 31), (.move (.t 3)), (.some (29, .true)), [13, 5]⟩, ⟨(.some 32), (.indexAddrS 2 (.t 30) (.t 31)), (.some (29, .true)), [13, 5]⟩, ⟨(.some 33), (.fieldAddr 0 (.t 32)), (.some (29, .true)), [13, 5]⟩, ⟨(.some 34), (.load .false 1 (.t 33)), (.some (29, .true)), [13, 5]⟩, ⟨(.some 35), (.move (.t 0)), (.some (29, .true)), [13, 5]⟩, ⟨(.some 36), (.move (.t 3)), (.some (29, .true)), [13, 5]⟩, ⟨(.some 37), (.bin .sub (.t 36) (.c (.int .i64 1))), (.some (29, .true)), [13, 5]⟩, ⟨(.some 38), (.indexAddrS 2 (.t 35) (.t 37)), (.some (29, .true)), [13, 5]⟩, ⟨(.some 39), (.fieldAddr 0 (.t 38)), (.some (29, .true)), [13, 5]⟩, ⟨(.some 40), (.load .false 1 (.t 39)), (.some (29, .true)), [13, 5]⟩, ⟨(.some 41), (.bin .leq (.t 34) (.t 40)), (.some (29, .true)), [13, 5]⟩, ⟨(.some 42), (.move (.t 41)), (.some (29, .true)), [13, 5]⟩, ⟨(.some 43), (.move (.t 0)), (.some (42, .false)), [13, 5]⟩, ⟨(.some 44), (.move (.t 3)), (.some (42, .false)), [13, 5]⟩, ⟨(.some 45), (.indexAddrS 2 (.t 43) (.t 44)), (.some (42, .false)), [13, 5]⟩, ⟨(.some 46), (.fieldAddr 1 (.t 45)), (.some (42, .false)), [13, 5]⟩, ⟨(.some 47), (.load .false 1 (.t 46)), (.some (42, .false)), [13, 5]⟩, ⟨(.some 48), (.move (.t 0)), (.some (42, .false)), [13, 5]⟩, ⟨(.some 49), (.move (.t 3)), (.some (42, .false)), [13, 5]⟩, ⟨(.some 50), (.bin .sub (.t 49) (.c (.int .i64 1))), (.some (42, .false)), [13, 5]⟩, ⟨(.some 51), (.indexAddrS 2 (.t 48) (.t 50)), (.some (42, .false)), [13, 5]⟩, ⟨(.some 52), (.fieldAddr 1 (.t 51)), (.some (42, .false)), [13, 5]⟩, ⟨(.some 53), (.load .false 1 (.t 52)), (.some (42, .false)), [13, 5]⟩, ⟨(.some 54), (.bin .leq (.t 47) (.t 53)), (.some (42, .false)), [13, 5]⟩, ⟨(.some 55), (.pick (.t 42) (.c (.bool .true)) (.t 54)), (.some (29, .true)), [13, 5]⟩, ⟨(.some 56), (.pick (.t 29) (.t 55) (.c (.bool .false))), (.some (26, .false)), [13, 5]⟩, ⟨(.some 57), (.pick (.t 26) (.c (.bool .true)) (.t 56)), .none, [13, 5]⟩]) (.cond (.t 57) (.seq (.reg [⟨(.some 2), (.move (.c (.bool .false))), .none, []⟩]) .ret) .skip))) (.reg [⟨(.some 8), (.move (.t 3)), .none, []⟩, ⟨(.some 9), (.bin .add (.t 8) (.c (.int .i64 1))), .none, []⟩, ⟨(.some 3), (.move (.t 9)), .none, []⟩])))
noncomputable def L33 : LFunc := ⟨61, (.seq (.reg [⟨(.some 2), (.move (.c (.bool .false))), .none, []⟩]) (.seq (.seq (.reg [⟨(.some 3), (.move (.c (.int .i64 0))), .none, []⟩]) (.block 0 (.loop L33w0))) (.seq (.reg [⟨(.some 58), (.move (.t 0)), .none, []⟩, ⟨(.some 59), (.len .slice (.t 58)), .none, []⟩, ⟨(.some 60), (.bin .geq (.t 59) (.c (.int .i64 2))), .none, []⟩, ⟨(.some 2), (.move (.t 60)), .none, []⟩]) .ret))), [(.t 2)], .false, .none⟩
theorem lp33 : LP 33 = some L33 := by kernel_rfl
noncomputable def L35w0 : LCode := (.seq (.seq (.reg [⟨(.some 8), (.move (.t 0)), .none, []⟩, ⟨(.some 9), (.move (.t 5)), .none, []⟩, ⟨(.some 10), (.bin .add (.t 9) (.c (.int .i64 1))), .none, []⟩, ⟨(.some 11), (.indexAddrS 2 (.t 8) (.t 10)), .none, []⟩, ⟨(.some 12), (.fieldAddr 0 (.t 11)), .none, []⟩, ⟨(.some 13), (.load .false 1 (.t 12)), .none, []⟩, ⟨(.some 14), (.move (.t 1)), .none, []⟩, ⟨(.some 15), (.bin .lss (.t 13) (.t 14)), .none, []⟩]) (.cond (.t 15) .skip (.exit 0))) (.block 1 (.reg [⟨(.some 16), (.move (.t 5)), .none, []⟩, ⟨(.some 17), (.bin .add (.t 16) (.c (.int .i64 1))), .none, []⟩, ⟨(.some 5), (.move (.t 17)), .none, []⟩])))
noncomputable def L35 : LFunc := ⟨46, (.seq (.reg [⟨(.some 4), (.move (.c (.int .i64 0))), .none, []⟩]) (.seq (.reg [⟨(.some 5), (.move (.c (.int .i64 0))), .none, []⟩]) (.seq (.block 0 (.loop L35w0)) (.seq (.draw 12 [⟨(.some 18), (.move (.t 0)), .none, []⟩, ⟨(.some 19), (.move (.t 5)), .none, []⟩, ⟨(.some 20), (.indexAddrS 2 (.t 18) (.t 19)), .none, []⟩, ⟨(.some 21), (.load .true 2 (.t 20)), .none, []⟩, ⟨(.some 22), (.move (.t 0)), .none, []⟩, ⟨(.some 23), (.move (.t 5)), .none, []⟩, ⟨(.some 24), (.bin .add (.t 23) (.c (.int .i64 1))), .none, []⟩, ⟨(.some 25), (.indexAddrS 2 (.t 22) (.t 24)), .none, []⟩, ⟨(.some 26), (.load .true 2 (.t 25)), .none, []⟩, ⟨(.some 6), (.alloc [(.int .i64 0), (.int .i64 0)]), .none, []⟩, ⟨(.some 7), (.alloc [(.int .i64 0), (.int .i64 0)]), .none, []⟩, ⟨.none, (.store 2 (.t 6) (.t 21)), .none, [11, 10, 9]⟩, ⟨.none, (.store 2 (.t 7) (.t 26)), .none, [11, 10, 9]⟩]) (.seq (.draw 16 [⟨(.some 27), (.fieldAddr 1 (.t 6)), .none, []⟩, ⟨(.some 28), (.load .false 1 (.t 27)), .none, []⟩, ⟨(.some 29), (.fieldAddr 1 (.t 7)), .none, []⟩, ⟨(.some 30), (.load .false 1 (.t 29)), .none, []⟩, ⟨(.some 31), (.fieldAddr 1 (.t 6)), .none, []⟩, ⟨(.some 32), (.load .false 1 (.t 31)), .none, []⟩, ⟨(.some 33), (.bin .sub (.t 30) (.t 32)), .none, []⟩, ⟨(.some 34), (.move (.t 1)), .none, []⟩, ⟨(.some 35), (.fieldAddr 0 (.t 6)), .none, []⟩, ⟨(.some 36), (.load .false 1 (.t 35)), .none, []⟩, ⟨(.some 37), (.bin .sub (.t 34) (.t 36)), .none, []⟩, ⟨(.some 38), (.bin .mul (.t 33) (.t 37)), .none, []⟩, ⟨(.some 39), (.fieldAddr 0 (.t 7)), .none, []⟩, ⟨(.some 40), (.load .false 1 (.t 39)), .none, []⟩, ⟨(.some 41), (.fieldAddr 0 (.t 6)), .none, []⟩, ⟨(.some 42), (.load .false 1 (.t 41)), .none, []⟩, ⟨(.some 43), (.bin .sub (.t 40) (.t 42)), .none, []⟩, ⟨(.some 44), (.bin .quo (.t 38) (.t 43)), .none, []⟩, ⟨(.some 45), (.bin .add (.t 28) (.t 44)), .none, []⟩, ⟨(.some 4), (.move (.t 45)), .none, []⟩]) .ret))))), [(.t 4)], .false, .none⟩
theorem lp35 : LP 35 = some L35 := by kernel_rfl
noncomputable def L36 : LFunc := ⟨46, (.seq (.reg [⟨(.some 3), (.box (.t 0)), .none, []⟩, ⟨(.some 4), (.box (.t 1)), .none, []⟩, ⟨(.some 5), (.box (.t 2)), .none, []⟩, ⟨(.some 6), (.alloc [(.int .i64 0), (.int .i64 0)]), .none, []⟩]) (.seq (.reg [⟨(.some 8), (.load .true 2 (.t 3)), .none, []⟩, ⟨(.some 9), (.load .true 2 (.t 5)), .none, []⟩, ⟨(.some 10), (.call (.c (.func 56 [] [])) [(.t 8), (.t 9)]), .none, []⟩, ⟨(.some 7), (.alloc [(.int .i64 0), (.int .i64 0)]), .none, []⟩, ⟨.none, (.store 2 (.t 7) (.t 10)), .none, []⟩]) (.seq (.draw 34 [⟨(.some 11), (.fieldAddr 0 (.t 7)), .none, []⟩, ⟨(.some 12), (.load .false 1 (.t 11)), .none, []⟩, ⟨(.some 13), (.fieldAddr 0 (.t 4)), .none, []⟩, ⟨(.some 14), (.load .false 1 (.t 13)), .none, []⟩, ⟨(.some 15), (.bin .mul (.t 12) (.t 14)), .none, []⟩, ⟨(.some 16), (.load .true 2 (.t 3)), .none, []⟩, ⟨(.some 17), (.call (.c (.func 58 [] [])) [(.t 16)]), .none, []⟩, ⟨(.some 18), (.call (.c (.func 57 [] [])) [(.t 15), (.t 17)]), .none, [6]⟩, ⟨(.some 19), (.fieldAddr 0 (.t 7)), .none, []⟩, ⟨(.some 20), (.load .false 1 (.t 19)), .none, []⟩, ⟨(.some 21), (.fieldAddr 1 (.t 4)), .none, []⟩, ⟨(.some 22), (.load .false 1 (.t 21)), .none, []⟩, ⟨(.some 23), (.bin .mul (.t 20) (.t 22)), .none, []⟩, ⟨(.some 24), (.load .true 2 (.t 3)), .none, []⟩, ⟨(.some 25), (.call (.c (.func 58 [] [])) [(.t 24)]), .none, [7, 6]⟩, ⟨(.some 26), (.call (.c (.func 57 [] [])) [(.t 23), (.t 25)]), .none, [14, 7, 6]⟩, ⟨(.some 27), (.min [(.t 18), (.t 26)]), .none, [15, 14, 7, 6]⟩, ⟨(.some 28), (.fieldAddr 1 (.t 7)), .none, []⟩, ⟨(.some 29), (.load .false 1 (.t 28)), .none, []⟩, ⟨(.some 30), (.fieldAddr 0 (.t 4)), .none, []⟩, ⟨(.some 31), (.load .false 1 (.t 30)), .none, []⟩, ⟨(.some 32), (.bin .mul (.t 29) (.t 31)), .none, []⟩, ⟨(.some 33), (.load .true 2 (.t 3)), .none, []⟩, ⟨(.some 34), (.call (.c (.func 58 [] [])) [(.t 33)]), .none, [15, 14, 7, 6]⟩, ⟨(.some 35), (.call (.c (.func 59 [] [])) [(.t 32), (.t 34)]), .none, [23, 15, 14, 7, 6]⟩, ⟨(.some 36), (.fieldAddr 1 (.t 7)), .none, []⟩, ⟨(.some 37), (.load .false 1 (.t 36)), .none, []⟩, ⟨(.some 38), (.fieldAddr 1 (.t 4)), .none, []⟩, ⟨(.some 39), (.load .false 1 (.t 38)), .none, []⟩, ⟨(.some 40), (.bin .mul (.t 37) (.t 39)), .none, []⟩, ⟨(.some 41), (.load .true 2 (.t 3)), .none, []⟩, ⟨(.some 42), (.call (.c (.func 58 [] [])) [(.t 41)]), .none, [24, 23, 15, 14, 7, 6]⟩, ⟨(.some 43), (.call (.c (.func 59 [] [])) [(.t 40), (.t 42)]), .none, [31, 24, 23, 15, 14, 7, 6]⟩, ⟨(.some 44), (.max [(.t 35), (.t 43)]), .none, [32, 31, 24, 23, 15, 14, 7, 6]⟩, ⟨(.some 45), (.build [(.int .i64 0), (.int .i64 0)] [(0, (1, (.t 27))), (1, (1, (.t 44)))]), .none, [32, 31, 24, 23, 15, 14, 7, 6]⟩, ⟨.none, (.store 2 (.t 6) (.t 45)), .none, [32, 31, 24, 23, 15, 14, 7, 6]⟩]) .ret))), [(.cell 6 .true 2)], .false, .none⟩
theorem lp36 : LP 36 = some L36 := by kernel_rfl
noncomputable def L63 : LFunc := ⟨19, (.seq (.reg [⟨(.some 2), (.move (.c (.int .i64 0))), .none, []⟩]) (.seq (.seq (.reg [⟨(.some 3), (.move (.t 0)), .none, []⟩, ⟨(.some 4), (.len .slice (.t 3)), .none, []⟩, ⟨(.some 5), (.bin .gtr (.t 4) (.c (.int .i64 8))), .none, []⟩]) (.cond (.t 5) (.seq (.reg [⟨(.some 2), (.move (.c (.int .i64 3))), .none, []⟩]) .ret) .skip)) (.seq (.seq (.reg [⟨(.some 6), (.move (.t 0)), .none, []⟩, ⟨(.some 7), (.len .slice (.t 6)), .none, []⟩, ⟨(.some 8), (.bin .lss (.t 7) (.c (.int .i64 2))), .none, []⟩, ⟨(.some 9), (.move (.t 8)), .none, []⟩, ⟨(.some 10), (.move (.t 0)), (.some (9, .false)), []⟩, ⟨(.some 11), (.call (.c (.func 86 [] [])) [(.t 10), (.c (.func 87 [] []))]), (.some (9, .false)), []⟩, ⟨(.some 12), (.un .not (.t 11)), (.some (9, .false)), []⟩, ⟨(.some 13), (.pick (.t 9) (.c (.bool .true)) (.t 12)), .none, []⟩, ⟨(.some 14), (.move (.t 13)), .none, []⟩, ⟨(.some 15), (.move (.t 0)), (.some (14, .false)), []⟩, ⟨(.some 16), (.call (.c (.func 88 [] [])) [(.t 15), (.c (.func 89 [] []))]), (.some (14, .false)), []⟩, ⟨(.some 17), (.un .not (.t 16)), (.some (14, .false)), []⟩, ⟨(.some 18), (.pick (.t 14) (.c (.bool .true)) (.t 17)), .none, []⟩]) (.cond (.t 18) (.seq (.reg [⟨(.some 2), (.move (.c (.int .i64 1))), .none, []⟩]) .ret) .skip)) (.seq (.reg [⟨(.some 2), (.move (.c (.int .i64 0))), .none, []⟩]) .ret)))), [(.t 2)], .false, .none⟩
theorem lp63 : LP 63 = some L63 := by kernel_rfl
noncomputable def L65 : LFunc := ⟨15, (.seq (.reg [⟨(.some 2), (.alloc [(.int .i64 0), (.int .i64 0)]), .none, []⟩]) (.seq (.draw 11 [⟨(.some 3), (.move (.t 0)), .none, []⟩, ⟨(.some 4), (.indexAddrS 2 (.t 3) (.c (.int .i64 0))), .none, []⟩, ⟨(.some 5), (.fieldAddr 0 (.t 4)), .none, []⟩, ⟨(.some 6), (.load .false 1 (.t 5)), .none, []⟩, ⟨(.some 7), (.move (.t 0)), .none, []⟩, ⟨(.some 8), (.move (.t 0)), .none, []⟩, ⟨(.some 9), (.len .slice (.t 8)), .none, []⟩, ⟨(.some 10), (.bin .sub (.t 9) (.c (.int .i64 1))), .none, []⟩, ⟨(.some 11), (.indexAddrS 2 (.t 7) (.t 10)), .none, []⟩, ⟨(.some 12), (.fieldAddr 0 (.t 11)), .none, []⟩, ⟨(.some 13), (.load .false 1 (.t 12)), .none, []⟩, ⟨(.some 14), (.build [(.int .i64 0), (.int .i64 0)] [(0, (1, (.t 6))), (1, (1, (.t 13)))]), .none, []⟩, ⟨.none, (.store 2 (.t 2) (.t 14)), .none, []⟩]) .ret)), [(.cell 2 .true 2)], .false, .none⟩
theorem lp65 : LP 65 = some L65 := by kernel_rfl
noncomputable def L66 : LFunc := ⟨36, (.seq (.reg [⟨(.some 3), (.box (.t 1)), .none, []⟩, ⟨(.some 4), (.move (.c (.int .i64 0))), .none, []⟩]) (.seq (.reg [⟨(.some 5), (.alloc [(.int .i64 0)]), .none, []⟩, ⟨.none, (.store 1 (.t 5) (.c (.int .i64 0))), .none, []⟩]) (.seq (.seq (.reg [⟨(.some 9), (.move (.t 0)), .none, []⟩, ⟨(.some 10), (.load .false 1 (.t 3)), .none, []⟩, ⟨(.some 11), (.call (.c (.func 90 [] [])) [(.t 9), (.t 10)]), .none, []⟩]) (.block 0 (.rangeFunc (.t 11) [12, 13] (.seq (.reg [⟨(.some 6), (.alloc [(.int .i64 0), (.int .i64 0)]), .none, []⟩, ⟨.none, (.store 2 (.t 6) (.t 12)), .none, []⟩]) (.reg [⟨(.some 7), (.alloc [(.int .i64 0), (.int .i64 0)]), .none, []⟩, ⟨.none, (.store 2 (.t 7) (.t 13)), .none, []⟩])) (.block 1 (.seq (.reg [⟨(.some 14), (.fieldAddr 1 (.t 7)), .none, []⟩, ⟨(.some 15), (.load .false 1 (.t 14)), .none, []⟩, ⟨(.some 16), (.fieldAddr 1 (.t 6)), .none, []⟩, ⟨(.some 17), (.load .false 1 (.t 16)), .none, []⟩, ⟨(.some 18), (.bin .sub (.t 15) (.t 17)), .none, []⟩, ⟨(.some 19), (.load .false 1 (.t 3)), .none, []⟩, ⟨(.some 20), (.fieldAddr 0 (.t 6)), .none, []⟩, ⟨(.some 21), (.load .false 1 (.t 20)), .none, []⟩, ⟨(.some 22), (.bin .sub (.t 19) (.t 21)), .none, []⟩, ⟨(.some 23), (.bin .mul (.t 18) (.t 22)), .none, []⟩, ⟨(.some 24), (.fieldAddr 0 (.t 7)), .none, []⟩, ⟨(.some 25), (.load .false 1 (.t 24)), .none, []⟩, ⟨(.some 26), (.fieldAddr 0 (.t 6)), .none, []⟩, ⟨(.some 27), (.load .false 1 (.t 26)), .none, []⟩, ⟨(.some 28), (.bin .sub (.t 25) (.t 27)), .none, []⟩, ⟨(.some 29), (.build [(.int .i64 0), (.int .i64 0)] [(0, (1, (.t 23))), (1, (1, (.t 28)))]), .none, []⟩, ⟨(.some 8), (.alloc [(.int .i64 0), (.int .i64 0)]), .none, []⟩, ⟨.none, (.store 2 (.t 8) (.t 29)), .none, []⟩]) (.draw 4 [⟨(.some 30), (.fieldAddr 1 (.t 6)), .none, []⟩, ⟨(.some 31), (.load .false 1 (.t 30)), .none, []⟩, ⟨(.some 32), (.load .true 2 (.t 8)), .none, []⟩, ⟨(.some 33), (.call (.c (.func 91 [] [])) [(.t 32)]), .none, []⟩, ⟨(.some 34), (.bin .add (.t 31) (.t 33)), .none, [3]⟩, ⟨.none, (.store 1 (.t 5) (.t 34)), .none, [3]⟩])))))) (.seq (.reg [⟨(.some 35), (.load .false 1 (.t 5)), .none, []⟩, ⟨(.some 4), (.move (.t 35)), .none, []⟩]) .ret)))), [(.t 4)], .false, .none⟩
theorem lp66 : LP 66 = some L66 := by kernel_rfl
noncomputable def L86w0 : LCode := (.seq (.reg [⟨(.some 10), (.bin .lss (.t 9) (.t 8)), .none, []⟩]) (.seq (.cond (.t 10) .skip (.exit 0)) (.seq (.block 1 (.seq (.reg [⟨(.some 11), (.indexAddrS 2 (.t 7) (.t 9)), .none, []⟩, ⟨(.some 12), (.load .true 2 (.t 11)), .none, []⟩, ⟨(.some 6), (.alloc [(.int .i64 0), (.int .i64 0)]), .none, []⟩, ⟨.none, (.store 2 (.t 6) (.t 12)), .none, []⟩]) (.seq (.reg [⟨(.some 13), (.move (.t 1)), .none, []⟩, ⟨(.some 14), (.load .true 2 (.t 6)), .none, []⟩, ⟨(.some 15), (.call (.t 13) [(.t 14)]), .none, []⟩, ⟨(.some 16), (.un .not (.t 15)), .none, []⟩]) (.cond (.t 16) (.seq (.reg [⟨(.some 4), (.move (.c (.bool .false))), .none, []⟩]) .ret) .skip)))) (.reg [⟨(.some 17), (.bin .add (.t 9) (.c (.int .i64 1))), .none, []⟩, ⟨(.some 9), (.move (.t 17)), .none, []⟩]))))
noncomputable def L86 : LFunc := ⟨18, (.seq (.reg [⟨(.some 4), (.move (.c (.bool .false))), .none, []⟩]) (.seq (.seq (.reg [⟨(.some 7), (.move (.t 0)), .none, []⟩, ⟨(.some 8), (.len .slice (.t 7)), .none, []⟩, ⟨(.some 9), (.move (.c (.int .i64 0))), .none, []⟩]) (.block 0 (.loop L86w0))) (.seq (.reg [⟨(.some 4), (.move (.c (.bool .true))), .none, []⟩]) .ret))), [(.t 4)], .false, .none⟩
theorem lp86 : LP 86 = some L86 := by kernel_rfl
noncomputable def L87 : LFunc := ⟨17, (.seq (.reg [⟨(.some 1), (.box (.t 0)), .none, []⟩, ⟨(.some 2), (.move (.c (.bool .false))), .none, []⟩]) (.seq (.reg [⟨(.some 5), (.build [(.int .i64 0), (.int .i64 0)] [(0, (1, (.c (.int .i64 1)))), (1, (1, (.c (.int .i64 2000))))]), .none, []⟩, ⟨(.some 6), (.build [(.int .i64 0), (.int .i64 0)] [(0, (1, (.c (.int .i64 1)))), (1, (1, (.c (.int .i64 2000))))]), .none, []⟩, ⟨(.some 3), (.alloc [(.int .i64 0), (.int .i64 0)]), .none, []⟩, ⟨(.some 4), (.alloc [(.int .i64 0), (.int .i64 0)]), .none, []⟩, ⟨.none, (.store 2 (.t 3) (.t 5)), .none, []⟩, ⟨.none, (.store 2 (.t 4) (.t 6)), .none, []⟩]) (.seq (.reg [⟨(.some 7), (.load .true 2 (.t 3)), .none, []⟩, ⟨(.some 8), (.fieldAddr 0 (.t 1)), .none, []⟩, ⟨(.some 9), (.load .false 1 (.t 8)), .none, []⟩, ⟨(.some 10), (.call (.c (.func 73 [] [])) [(.t 7), (.t 9)]), .none, []⟩, ⟨(.some 11), (.move (.t 10)), .none, []⟩, ⟨(.some 12), (.load .true 2 (.t 4)), (.some (11, .true)), []⟩, ⟨(.some 13), (.fieldAddr 1 (.t 1)), (.some (11, .true)), []⟩, ⟨(.some 14), (.load .false 1 (.t 13)), (.some (11, .true)), []⟩, ⟨(.some 15), (.call (.c (.func 73 [] [])) [(.t 12), (.t 14)]), (.some (11, .true)), []⟩, ⟨(.some 16), (.pick (.t 11) (.t 15) (.c (.bool .false))), .none, []⟩, ⟨(.some 2), (.move (.t 16)), .none, []⟩]) .ret))), [(.t 2)], .false, .none⟩
theorem lp87 : LP 87 = some L87 := by kernel_rfl
noncomputable def L88w0 : LCode := (.seq (.seq (.reg [⟨(.some 6), (.move (.t 5)), .none, []⟩, ⟨(.some 7), (.move (.t 0)), .none, []⟩, ⟨(.some 8), (.len .slice (.t 7)), .none, []⟩, ⟨(.some 9), (.bin .lss (.t 6) (.t 8)), .none, []⟩]) (.cond (.t 9) .skip (.exit 0))) (.seq (.block 1 (.seq (.draw 10 [⟨(.some 12), (.move (.t 1)), .none, []⟩, ⟨(.some 13), (.move (.t 0)), .none, []⟩, ⟨(.some 14), (.move (.t 5)), .none, []⟩, ⟨(.some 15), (.bin .sub (.t 14) (.c (.int .i64 1))), .none, []⟩, ⟨(.some 16), (.indexAddrS 2 (.t 13) (.t 15)), .none, []⟩, ⟨(.some 17), (.load .true 2 (.t 16)), .none, []⟩, ⟨(.some 18), (.move (.t 0)), .none, []⟩, ⟨(.some 19), (.move (.t 5)), .none, []⟩, ⟨(.some 20), (.indexAddrS 2 (.t 18) (.t 19)), .none, []⟩, ⟨(.some 21), (.load .true 2 (.t 20)), .none, []⟩, ⟨(.some 22), (.call (.t 12) [(.t 17), (.t 21)]), .none, []⟩, ⟨(.some 23), (.un .not (.t 22)), .none, [10]⟩]) (.cond (.t 23) (.seq (.reg [⟨(.some 4), (.move (.c (.bool .false))), .none, []⟩]) .ret) .skip))) (.reg [⟨(.some 10), (.move (.t 5)), .none, []⟩, ⟨(.some 11), (.bin .add (.t 10) (.c (.int .i64 1))), .none, []⟩, ⟨(.some 5), (.move (.t 11)), .none, []⟩])))
noncomputable def L88 : LFunc := ⟨24, (.seq (.reg [⟨(.some 4), (.move (.c (.bool .false))), .none, []⟩]) (.seq (.seq (.reg [⟨(.some 5), (.move (.c (.int .i64 1))), .none, []⟩]) (.block 0 (.loop L88w0))) (.seq (.reg [⟨(.some 4), (.move (.c (.bool .true))), .none, []⟩]) .ret))), [(.t 4)], .false, .none⟩
theorem lp88 : LP 88 = some L88 := by kernel_rfl
noncomputable def L89 : LFunc := ⟨17, (.seq (.reg [⟨(.some 2), (.box (.t 0)), .none, []⟩, ⟨(.some 3), (.box (.t 1)), .none, []⟩, ⟨(.some 4), (.move (.c (.bool .false))), .none, []⟩]) (.seq (.reg [⟨(.some 5), (.fieldAddr 0 (.t 2)), .none, []⟩, ⟨(.some 6), (.load .false 1 (.t 5)), .none, []⟩, ⟨(.some 7), (.fieldAddr 0 (.t 3)), .none, []⟩, ⟨(.some 8), (.load .false 1 (.t 7)), .none, []⟩, ⟨(.some 9), (.bin .lss (.t 6) (.t 8)), .none, []⟩, ⟨(.some 10), (.move (.t 9)), .none, []⟩, ⟨(.some 11), (.fieldAddr 1 (.t 2)), (.some (10, .true)), []⟩, ⟨(.some 12), (.load .false 1 (.t 11)), (.some (10, .true)), []⟩, ⟨(.some 13), (.fieldAddr 1 (.t 3)), (.some (10, .true)), []⟩, ⟨(.some 14), (.load .false 1 (.t 13)), (.some (10, .true)), []⟩, ⟨(.some 15), (.bin .lss (.t 12) (.t 14)), (.some (10, .true)), []⟩, ⟨(.some 16), (.pick (.t 10) (.t 15) (.c (.bool .false))), .none, []⟩, ⟨(.some 4), (.move (.t 16)), .none, []⟩]) .ret)), [(.t 4)], .false, .none⟩
theorem lp89 : LP 89 = some L89 := by kernel_rfl
noncomputable def L90 : LFunc := ⟨6, (.seq (.reg [⟨(.some 2), (.box (.t 0)), .none, []⟩, ⟨(.some 3), (.box (.t 1)), .none, []⟩, ⟨(.some 4), (.move (.c .nilFunc)), .none, []⟩]) (.seq (.reg [⟨(.some 5), (.makeFunc 102 [] [(.t 2), (.t 3)]), .none, []⟩, ⟨(.some 4), (.move (.t 5)), .none, []⟩]) .ret)), [(.t 4)], .false, .none⟩
theorem lp90 : LP 90 = some L90 := by kernel_rfl
noncomputable def L102w0 : LCode := (.seq (.seq (.reg [⟨(.some 6), (.move (.t 4)), .none, []⟩, ⟨(.some 7), (.load .false 1 (.t 1)), .none, []⟩, ⟨(.some 8), (.len .slice (.t 7)), .none, []⟩, ⟨(.some 9), (.bin .lss (.t 6) (.t 8)), .none, []⟩]) (.cond (.t 9) .skip (.exit 0))) (.seq (.block 1 (.seq (.reg [⟨(.some 12), (.load .false 1 (.t 1)), .none, []⟩, ⟨(.some 13), (.move (.t 4)), .none, []⟩, ⟨(.some 14), (.bin .sub (.t 13) (.c (.int .i64 1))), .none, []⟩, ⟨(.some 15), (.move (.t 4)), .none, []⟩, ⟨(.some 16), (.bin .add (.t 15) (.c (.int .i64 1))), .none, []⟩, ⟨(.some 17), (.sliceS 2 (.t 12) (.some (.t 14)) (.some (.t 16))), .none, []⟩, ⟨(.some 18), (.call (.c (.func 65 [] [])) [(.t 17)]), .none, []⟩, ⟨(.some 5), (.alloc [(.int .i64 0), (.int .i64 0)]), .none, []⟩, ⟨.none, (.store 2 (.t 5) (.t 18)), .none, []⟩]) (.seq (.draw 14 [⟨(.some 19), (.load .true 2 (.t 5)), .none, []⟩, ⟨(.some 20), (.load .false 1 (.t 2)), .none, []⟩, ⟨(.some 21), (.call (.c (.func 73 [] [])) [(.t 19), (.t 20)]), .none, []⟩, ⟨(.some 22), (.move (.t 21)), .none, [2]⟩, ⟨(.some 23), (.move (.t 0)), (.some (22, .true)), [2]⟩, ⟨(.some 24), (.load .false 1 (.t 1)), (.some (22, .true)), [2]⟩, ⟨(.some 25), (.move (.t 4)), (.some (22, .true)), [2]⟩, ⟨(.some 26), (.bin .sub (.t 25) (.c (.int .i64 1))), (.some (22, .true)), [2]⟩, ⟨(.some 27), (.indexAddrS 2 (.t 24) (.t 26)), (.some (22, .true)), [2]⟩, ⟨(.some 28), (.load .true 2 (.t 27)), (.some (22, .true)), [2]⟩, ⟨(.some 29), (.load .false 1 (.t 1)), (.some (22, .true)), [2]⟩, ⟨(.some 30), (.move (.t 4)), (.some (22, .true)), [2]⟩, ⟨(.some 31), (.indexAddrS 2 (.t 29) (.t 30)), (.some (22, .true)), [2]⟩, ⟨(.some 32), (.load .true 2 (.t 31)), (.some (22, .true)), [2]⟩, ⟨(.some 33), (.call (.t 23) [(.t 28), (.t 32)]), (.some (22, .true)), [2]⟩, ⟨(.some 34), (.un .not (.t 33)), (.some (22, .true)), [14, 2]⟩, ⟨(.some 35), (.pick (.t 22) (.t 34) (.c (.bool .false))), .none, [14, 2]⟩]) (.cond (.t 35) .ret .skip)))) (.reg [⟨(.some 10), (.move (.t 4)), .none, []⟩, ⟨(.some 11), (.bin .add (.t 10) (.c (.int .i64 1))), .none, []⟩, ⟨(.some 4), (.move (.t 11)), .none, []⟩])))
noncomputable def L102 : LFunc := ⟨36, (.seq (.reg [⟨(.some 4), (.move (.c (.int .i64 1))), .none, []⟩]) (.block 0 (.loop L102w0))), [], .true, .none⟩
theorem lp102 : LP 102 = some L102 := by kernel_rfl
theorem lw5 : LW 5 = some L5 := lw_of rfl lp5
theorem lw30 : LW 30 = some L30 := lw_of rfl lp30
theorem lw31 : LW 31 = some L31 := lw_of rfl lp31
theorem lw32 : LW 32 = some L32 := lw_of rfl lp32
theorem lw33 : LW 33 = some L33 := lw_of rfl lp33
theorem lw35 : LW 35 = some L35 := lw_of rfl lp35
theorem lw36 : LW 36 = some L36 := lw_of rfl lp36
theorem lw63 : LW 63 = some L63 := lw_of rfl lp63
theorem lw65 : LW 65 = some L65 := lw_of rfl lp65
theorem lw66 : LW 66 = some L66 := lw_of rfl lp66
theorem lw86 : LW 86 = some L86 := lw_of rfl lp86
theorem lw87 : LW 87 = some L87 := lw_of rfl lp87
theorem lw88 : LW 88 = some L88 := lw_of rfl lp88
theorem lw89 : LW 89 = some L89 := lw_of rfl lp89
theorem lw90 : LW 90 = some L90 := lw_of rfl lp90
theorem lw102 : LW 102 = some L102 := lw_of rfl lp102
end Go.Hx

/- Layer 3: tables of steam: lists of steps, whether they are valid. -/
namespace Go.Hx
set_option linter.unusedSimpArgs false
set_option linter.unusedVariables false
set_option maxRecDepth 20000
set_option maxHeartbeats 4000000
attribute [local irreducible] W R C thenH inBlockH
--dropu
/- 31 -/
theorem loop31 {fl : Nat} {h0 : Tr HBlk} {n0 : Nat} {Q : HExit → HAct → HS → Prop} {p : Option (Nat × Nat)} {l : List (Int × Int)} {cp : Nat} (hlen : l.length < 1000000) (hfl : fl ≤ n0) (hrow : Row renc 2 h0 n0 p l) :
    ∀ (m i : Nat) (a : HAct) (h : Tr HBlk) (nx : Nat) (v : HV), m + i = l.length → Ext h0 n0 h nx → Out renc 2 n0 h nx v (l.take i) → a.nt = 26 → a.defers = [] → a.tmp 0 = .slice p l.length cp → a.tmp 3 = v → a.tmp 4 = i64 i →
      (∀ a' h' n' v', Ext h0 n0 h' n' → a'.nt = 26 → a'.defers = [] → a'.tmp 3 = v' → Out renc 2 n0 h' n' v' l → Q .normal a' ⟨h', n'⟩) → W LW fl none (.loop L31w0) (inBlockH 0 Q) a ⟨h, nx⟩
  | 0, i, a, h, nx, v, hm, he, ho, hnt, hds, h1, h3, h4, hq => by
    have hle := he.le
    refine w_it (show L31w0 = _ by unfold L31w0; exact rfl) ?_
    repeat' first
     | refine r_nil ?_
     | refine th_n ?_
     | refine th_e ?_
     | refine ib_e ?_
     | refine w_exit ?_
     | refine w_seq ?_
     | refine w_reg ?_
     | refine w_f (by simp (disch:=first|decide|(simp only[zF,zG,hnt, h1, h3, h4];decide)) only [zA,zB,zC,zD,zE,zF,zG,zH,zI,zJ,zK,HV.cells,fl0,fl2,flS,flS1,flI1,flU1,flU2,flF,hnt, h1, h3, h4]; first|done|exact rfl) ?_
     | refine r_move (by simp (disch:=first|decide|(simp only[zF,zG,hnt, h1, h3, h4];decide)) only [zA,zB,zC,zD,zE,zF,zG,zH,zI,zJ,zK,HV.cells,fl0,fl2,flS,flS1,flI1,flU1,flU2,flF,hnt, h1, h3, h4]; try exact rfl) ?_
     | refine r_lss (by simp (disch:=first|decide|(simp only[zF,zG,hnt, h1, h3, h4];decide)) only [zA,zB,zC,zD,zE,zF,zG,zH,zI,zJ,zK,HV.cells,fl0,fl2,flS,flS1,flI1,flU1,flU2,flF,hnt, h1, h3, h4]; try exact rfl) (by simp (disch:=first|decide|(simp only[zF,zG,hnt, h1, h3, h4];decide)) only [zA,zB,zC,zD,zE,zF,zG,zH,zI,zJ,zK,HV.cells,fl0,fl2,flS,flS1,flI1,flU1,flU2,flF,hnt, h1, h3, h4]; try exact rfl) (fun hc => ?_) (fun hc => ?_) <;> (try (exfalso; omega))
     | refine r_len (by simp (disch:=first|decide|(simp only[zF,zG,hnt, h1, h3, h4];decide)) only [zA,zB,zC,zD,zE,zF,zG,zH,zI,zJ,zK,HV.cells,fl0,fl2,flS,flS1,flI1,flU1,flU2,flF,hnt, h1, h3, h4]; try exact rfl) ?_
     | fail
    rw [List.take_of_length_le (by omega)] at ho
    refine hq _ _ _ v he ?_ ?_ ?_ ho
    all_goals first|(simp only [zL,zM,zF,zG,hnt, hds, h3];done)|(simp (disch:=first|decide|(simp only[zF,zG,hnt, hds, h3];decide)) only [zA,zB,zC,zD,zE,zF,zG,zH,zI,zJ,zK,HV.cells,fl0,fl2,flS,flS1,flI1,flU1,flU2,flF,hnt, hds, h3];first|done|exact rfl)|assumption
  | m + 1, i, a, h, nx, v, hm, he, ho, hnt, hds, h1, h3, h4, hq => by
    have hi : i < l.length := by omega
    have hrow0 := hrow.ext he
    obtain ⟨b, o, cs, kk, rfl, hb, hg, hcs⟩ := hrow0 (by intro e; rw [e] at hi; simp at hi)
    have hy : l[i]? = some l[i] := by simp [hi]
    have e0 := hcs i _ hy
    have hd := he.d
    have hle := he.le
    have ef := take_at e0 (j := 0) (v := i64 l[i].1) rfl
    have eg := take_at e0 (j := 1) (v := i64 l[i].2) rfl
    refine w_it (show L31w0 = _ by unfold L31w0; exact rfl) ?_
    repeat' first
     | refine r_nil ?_
     | refine th_n ?_
     | refine w_seq ?_
     | refine w_reg ?_
     | refine w_skip ?_
     | refine w_block ?_
     | refine w_t (by simp (disch:=first|decide|(simp only[zF,zG,hnt, h1, h3, h4];decide)) only [zA,zB,zC,zD,zE,zF,zG,zH,zI,zJ,zK,HV.cells,fl0,fl2,flS,flS1,flI1,flU1,flU2,flF,hnt, h1, h3, h4]; first|done|exact rfl) ?_
     | refine r_move (by simp (disch:=first|decide|(simp only[zF,zG,hnt, h1, h3, h4];decide)) only [zA,zB,zC,zD,zE,zF,zG,zH,zI,zJ,zK,HV.cells,fl0,fl2,flS,flS1,flI1,flU1,flU2,flF,hnt, h1, h3, h4]; try exact rfl) ?_
     | refine r_fa (by simp (disch:=first|decide|(simp only[zF,zG,hnt, h1, h3, h4];decide)) only [zA,zB,zC,zD,zE,zF,zG,zH,zI,zJ,zK,HV.cells,fl0,fl2,flS,flS1,flI1,flU1,flU2,flF,hnt, h1, h3, h4]; try exact rfl) ?_
     | refine r_ld1 (by simp (disch:=first|decide|(simp only[zF,zG,hnt, h1, h3, h4];decide)) only [zA,zB,zC,zD,zE,zF,zG,zH,zI,zJ,zK,HV.cells,fl0,fl2,flS,flS1,flI1,flU1,flU2,flF,hnt, h1, h3, h4]; try exact rfl) (by first|assumption|(simp (disch:=omega) only [get_same,get_other,hnt, h1, h3, h4]; first|done|exact rfl)) (by first|assumption|exact ow2 _ _ _ _|exact ow3 _ _ _ _ _ _|rfl|(simp only [zI,zJ,HV.cells,hnt, h1, h3, h4]; exact rfl)) ?_
     | refine r_lss (by simp (disch:=first|decide|(simp only[zF,zG,hnt, h1, h3, h4];decide)) only [zA,zB,zC,zD,zE,zF,zG,zH,zI,zJ,zK,HV.cells,fl0,fl2,flS,flS1,flI1,flU1,flU2,flF,hnt, h1, h3, h4]; try exact rfl) (by simp (disch:=first|decide|(simp only[zF,zG,hnt, h1, h3, h4];decide)) only [zA,zB,zC,zD,zE,zF,zG,zH,zI,zJ,zK,HV.cells,fl0,fl2,flS,flS1,flI1,flU1,flU2,flF,hnt, h1, h3, h4]; try exact rfl) (fun hc => ?_) (fun hc => ?_) <;> (try (exfalso; omega))
     | refine r_len (by simp (disch:=first|decide|(simp only[zF,zG,hnt, h1, h3, h4];decide)) only [zA,zB,zC,zD,zE,zF,zG,zH,zI,zJ,zK,HV.cells,fl0,fl2,flS,flS1,flI1,flU1,flU2,flF,hnt, h1, h3, h4]; try exact rfl) ?_
     | refine r_ixs (by simp (disch:=first|decide|(simp only[zF,zG,hnt, h1, h3, h4];decide)) only [zA,zB,zC,zD,zE,zF,zG,zH,zI,zJ,zK,HV.cells,fl0,fl2,flS,flS1,flI1,flU1,flU2,flF,hnt, h1, h3, h4]; try exact rfl) (by simp (disch:=first|decide|(simp only[zF,zG,hnt, h1, h3, h4];decide)) only [zA,zB,zC,zD,zE,zF,zG,zH,zI,zJ,zK,HV.cells,fl0,fl2,flS,flS1,flI1,flU1,flU2,flF,hnt, h1, h3, h4]; try exact rfl) (by omega) ?_
     | refine r_build (by simp (disch:=first|decide|(simp only[zF,zG,hnt, h1, h3, h4];decide)) only [evParts,List.map_cons,List.map_nil,List.nil_append,List.cons_append,List.append_nil,zA,zB,zC,zD,zE,zF,zG,zH,zI,zJ,zK,HV.cells,fl0,fl2,flS,flS1,flI1,flU1,flU2,flF,hnt, h1, h3, h4]; try exact rfl) ?_
     | refine r_bs (by simp (disch:=first|decide|(simp only[zF,zG,hnt, h1, h3, h4];decide)) only [evParts,List.map_cons,List.map_nil,List.nil_append,List.cons_append,List.append_nil,zA,zB,zC,zD,zE,zF,zG,zH,zI,zJ,zK,HV.cells,fl0,fl2,flS,flS1,flI1,flU1,flU2,flF,hnt, h1, h3, h4]; try exact rfl) ?_
     | refine w_draw (by omega) (by (repeat' first|assumption|refine D.upd ?_ (by omega)|exact D.mono (by assumption) (by omega)) <;> fail) ?_
     | refine d_rest rfl ?_
     | refine d_one rfl rfl ?_
     | refine d_next (by omega) ?_
     | fail
    have hln : (l.take i).length = i := by simp; omega
    obtain ⟨v', h', ha, ho', hs', hd'⟩ := Out.app (x := l[i]) (bytes := 16) (fl := fl) renc_len (renc_one _) (by omega) hfl hd ho (by omega) (by omega) (by omega)
    rw [show l.take i ++ [l[i]] = l.take (i + 1) by rw [List.take_add_one, hy]; rfl] at ho'
    refine r_app (by simp (disch:=first|decide|(simp only[zF,zG,hnt, h3];decide)) only [zA,zB,zC,zD,zE,zF,zG,zH,zI,zJ,zK,HV.cells,fl0,fl2,flS,flS1,flI1,flU1,flU2,flF,hnt, h3]; try exact rfl) (by simp (disch:=first|decide|(simp only[zF,zG,hnt];decide)) only [zA,zB,zC,zD,zE,zF,zG,zH,zI,zJ,zK,HV.cells,fl0,fl2,flS,flS1,flI1,flU1,flU2,flF,hnt]; try exact rfl) ha ?_
    repeat' first
     | refine r_nil ?_
     | refine th_n ?_
     | refine ib_n ?_
     | refine w_reg ?_
     | refine r_move (by simp (disch:=first|decide|(simp only[zF,zG,hnt, h1, h4];decide)) only [zA,zB,zC,zD,zE,zF,zG,zH,zI,zJ,zK,HV.cells,fl0,fl2,flS,flS1,flI1,flU1,flU2,flF,hnt, h1, h4]; try exact rfl) ?_
     | refine r_add (by simp (disch:=first|decide|(simp only[zF,zG,hnt, h1, h4];decide)) only [zA,zB,zC,zD,zE,zF,zG,zH,zI,zJ,zK,HV.cells,fl0,fl2,flS,flS1,flI1,flU1,flU2,flF,hnt, h1, h4]; try exact rfl) (by simp (disch:=first|decide|(simp only[zF,zG,hnt, h1, h4];decide)) only [zA,zB,zC,zD,zE,zF,zG,zH,zI,zJ,zK,HV.cells,fl0,fl2,flS,flS1,flI1,flU1,flU2,flF,hnt, h1, h4]; try exact rfl) (by omega) (by omega) ?_
     | fail
    have e2 : Ext h0 n0 h' (nx + 2) := ⟨by omega, hd', fun b hb => (hs' b hb).trans (he.same b hb)⟩
    refine loop31 (cp := cp) hlen hfl hrow m (i + 1) _ _ _ v' (by omega) e2 ho' ?_ ?_ ?_ ?_ ?_ hq
    all_goals first|(simp only [zL,zM,zF,zG,hnt, hds, h1, h4];done)|(simp (disch:=first|decide|(simp only[zF,zG,hnt, hds, h1, h4];decide)) only [zA,zB,zC,zD,zE,zF,zG,zH,zI,zJ,zK,HV.cells,fl0,fl2,flS,flS1,flI1,flU1,flU2,flF,hnt, hds, h1, h4];first|done|exact rfl)|assumption
theorem c_Table {fl : Nat} {h : Tr HBlk} {nx : Nat} (hd : D h nx) {p : Option (Nat × Nat)} {l : List (Int × Int)} {n cp : Nat} (hn : n = l.length) (hlen : l.length < 1000000) (hrow : Row renc 2 h nx p l) :
    C LW fl 31 [.slice p n cp] ⟨h, nx⟩ (fun v σ' => ∃ p h' n', v = .slice p l.length l.length ∧ σ' = ⟨h', n'⟩ ∧ Ext h nx h' n' ∧ (l ≠ [] → ∃ b, nx ≤ b ∧ b < n' ∧ p = some (b, 0) ∧ ∃ k, h'.get b = some (.cells (l.flatMap renc) k))) := by
  subst hn
  refine c_in lw31 rfl rfl rfl ?_
  dsimp only [L31]
  repeat' first
   | refine r_nil ?_
   | refine th_n ?_
   | refine w_seq ?_
   | refine w_reg ?_
   | refine w_block ?_
   | refine r_move (by simp (disch:=first|decide|(simp only[zF,zG];decide)) only [zA,zB,zC,zD,zE,zF,zG,zH,zI,zJ,zK,HV.cells,fl0,fl2,flS,flS1,flI1,flU1,flU2,flF]; try exact rfl) ?_
   | fail
  refine loop31 (cp := cp) hlen (Nat.le_refl _) hrow l.length 0 _ _ _ (.slice none 0 0) (by omega) (Ext.refl hd) Out.nil ?_ ?_ ?_ ?_ ?_ (fun a' h' n' v' g1 g2 g3 g4 g5 => ?_)
  all_goals try first|(simp only [zL,zM,zF,zG];done)|(simp (disch:=first|decide|(simp only[zF,zG];decide)) only [zA,zB,zC,zD,zE,zF,zG,zH,zI,zJ,zK,HV.cells,fl0,fl2,flS,flS1,flI1,flU1,flU2,flF];first|done|exact rfl)|assumption
  repeat' first
   | refine r_nil ?_
   | refine th_n ?_
   | refine w_seq ?_
   | refine w_reg ?_
   | refine w_ret ?_
   | refine r_move (by simp (disch:=first|decide|(simp only[zF,zG,g2, g4];decide)) only [zA,zB,zC,zD,zE,zF,zG,zH,zI,zJ,zK,HV.cells,fl0,fl2,flS,flS1,flI1,flU1,flU2,flF,g2, g4]; try exact rfl) ?_
   | fail
  refine fin_r (by simp only [zL, g3]) (by simp (disch:=first|decide|(simp only[zF,zG,g2, g4];decide)) only [zA,zB,zC,zD,zE,zF,zG,zH,zI,zJ,zK,HV.cells,fl0,fl2,flS,flS1,flI1,flU1,flU2,flF,g2, g4]; try exact rfl) ?_
  have hle := g1.le
  rcases g5 with ⟨rfl, rfl⟩ | ⟨b, h1, h2, rfl, h4⟩
  · exact ⟨none, h, n', rfl, gc_none, Ext.nx hd hle, fun e => absurd rfl e⟩
  · rw [gc_row h1 h4 (flat_flat renc_flat _)]
    exact ⟨some (b, 0), _, n', rfl, rfl, Ext.set hd (by omega) h1 h2, fun _ => ⟨b, h1, h2, rfl, _, get_same _ _ _⟩⟩
/- 86 -/
theorem loop86 {fl : Nat} {h0 : Tr HBlk} {n0 : Nat} {Q : HExit → HAct → HS → Prop} {p : Option (Nat × Nat)} {l : List (Int × Int)} {cp : Nat} {k : Nat} {first captured : List HV} {P : Int × Int → Prop} [DecidablePred P] (hlen : l.length < 1000000000) (hfl : fl ≤ n0)
    (hf : ∀ r ∈ l, ∀ fl h n, Ext h0 n0 h n → C LW fl k (first ++ [.agg (renc r)] ++ captured) ⟨h, n⟩ (Sc (· = .bool (decide (P r))) ⟨h, n⟩)) :
    ∀ (m i : Nat) (a : HAct) (h : Tr HBlk) (nx : Nat), m + i = l.length → Ext h0 n0 h nx → Row renc 2 h nx p l → a.nt = 18 → a.defers = [] → a.tmp 1 = .func k first captured → a.tmp 7 = .slice p l.length cp → a.tmp 8 = i64 l.length → a.tmp 9 = i64 i →
      (∀ a' h' n', Ext h0 n0 h' n' → a'.nt = 18 → a'.defers = [] → (∀ r ∈ l.drop i, P r) → Q .normal a' ⟨h', n'⟩) →
      (∀ a' h' n', Ext h0 n0 h' n' → a'.nt = 18 → a'.defers = [] → a'.tmp 4 = .bool false → ¬ (∀ r ∈ l.drop i, P r) → Q .ret a' ⟨h', n'⟩) → W LW fl none (.loop L86w0) (inBlockH 0 Q) a ⟨h, nx⟩
  | 0, i, a, h, nx, hm, he, hrow, hnt, hds, h1, h7, h8, h9, hq, hr => by
    have hle := he.le
    refine w_it (show L86w0 = _ by unfold L86w0; exact rfl) ?_
    repeat' first
     | refine r_nil ?_
     | refine th_n ?_
     | refine th_e ?_
     | refine ib_e ?_
     | refine w_exit ?_
     | refine w_seq ?_
     | refine w_reg ?_
     | refine w_f (by simp (disch:=first|decide|(simp only[zF,zG,hnt, h1, h7, h8, h9];decide)) only [zA,zB,zC,zD,zE,zF,zG,zH,zI,zJ,zK,HV.cells,fl0,fl2,flS,flS1,flI1,flU1,flU2,flF,hnt, h1, h7, h8, h9]; first|done|exact rfl) ?_
     | refine r_lss (by simp (disch:=first|decide|(simp only[zF,zG,hnt, h1, h7, h8, h9];decide)) only [zA,zB,zC,zD,zE,zF,zG,zH,zI,zJ,zK,HV.cells,fl0,fl2,flS,flS1,flI1,flU1,flU2,flF,hnt, h1, h7, h8, h9]; try exact rfl) (by simp (disch:=first|decide|(simp only[zF,zG,hnt, h1, h7, h8, h9];decide)) only [zA,zB,zC,zD,zE,zF,zG,zH,zI,zJ,zK,HV.cells,fl0,fl2,flS,flS1,flI1,flU1,flU2,flF,hnt, h1, h7, h8, h9]; try exact rfl) (fun hc => ?_) (fun hc => ?_) <;> (try (exfalso; omega))
     | fail
    refine hq _ _ _ he ?_ ?_ (fun r hr => by rw [List.drop_of_length_le (by omega)] at hr; cases hr)
    all_goals first|(simp only [zL,zM,zF,zG,hnt, hds];done)|(simp (disch:=first|decide|(simp only[zF,zG,hnt, hds];decide)) only [zA,zB,zC,zD,zE,zF,zG,zH,zI,zJ,zK,HV.cells,fl0,fl2,flS,flS1,flI1,flU1,flU2,flF,hnt, hds];first|done|exact rfl)|assumption
  | m + 1, i, a, h, nx, hm, he, hrow, hnt, hds, h1, h7, h8, h9, hq, hr => by
    have hi : i < l.length := by omega
    have hrow0 := hrow
    obtain ⟨b, o, cs, kk, rfl, hb, hg, hcs⟩ := hrow (by intro e; rw [e] at hi; simp at hi)
    have hy : l[i]? = some l[i] := by simp [hi]
    have e0 := hcs i _ hy
    have hf' := hf l[i] (List.getElem_mem hi)
    have ow : overwrite [i64 0, i64 0] 0 (HV.agg (renc l[i])).cells = some (renc l[i]) := rfl
    have tk : takeN 2 ((renc l[i]).drop 0) = some (renc l[i]) := rfl
    have hd := he.d
    have hle := he.le
    have hdrop := List.drop_eq_getElem_cons hi
    refine w_it (show L86w0 = _ by unfold L86w0; exact rfl) ?_
    repeat' first
     | refine r_nil ?_
     | refine th_n ?_
     | refine th_r ?_
     | refine ib_n ?_
     | refine ib_r ?_
     | refine w_seq ?_
     | refine w_reg ?_
     | refine w_ret ?_
     | refine w_skip ?_
     | refine w_block ?_
     | refine w_t (by simp (disch:=first|decide|(simp only[zF,zG,hnt, h1, h7, h8, h9];decide)) only [zA,zB,zC,zD,zE,zF,zG,zH,zI,zJ,zK,HV.cells,fl0,fl2,flS,flS1,flI1,flU1,flU2,flF,hnt, h1, h7, h8, h9]; first|done|exact rfl) ?_
     | refine w_f (by simp (disch:=first|decide|(simp only[zF,zG,hnt, h1, h7, h8, h9];decide)) only [zA,zB,zC,zD,zE,zF,zG,zH,zI,zJ,zK,HV.cells,fl0,fl2,flS,flS1,flI1,flU1,flU2,flF,hnt, h1, h7, h8, h9]; first|done|exact rfl) ?_
     | refine r_move (by simp (disch:=first|decide|(simp only[zF,zG,hnt, h1, h7, h8, h9];decide)) only [zA,zB,zC,zD,zE,zF,zG,zH,zI,zJ,zK,HV.cells,fl0,fl2,flS,flS1,flI1,flU1,flU2,flF,hnt, h1, h7, h8, h9]; try exact rfl) ?_
     | refine r_ldn (by simp (disch:=first|decide|(simp only[zF,zG,hnt, h1, h7, h8, h9];decide)) only [zA,zB,zC,zD,zE,zF,zG,zH,zI,zJ,zK,HV.cells,fl0,fl2,flS,flS1,flI1,flU1,flU2,flF,hnt, h1, h7, h8, h9]; try exact rfl) (by first|assumption|(simp (disch:=omega) only [get_same,get_other,hnt, h1, h7, h8, h9]; first|done|exact rfl)) (by first|assumption|exact ow2 _ _ _ _|exact ow3 _ _ _ _ _ _|rfl|(simp only [zI,zJ,HV.cells,hnt, h1, h7, h8, h9]; exact rfl)) ?_
     | refine r_alloc ?_
     | refine r_st (cs' := _) (by simp (disch:=first|decide|(simp only[zF,zG,hnt, h1, h7, h8, h9];decide)) only [zA,zB,zC,zD,zE,zF,zG,zH,zI,zJ,zK,HV.cells,fl0,fl2,flS,flS1,flI1,flU1,flU2,flF,hnt, h1, h7, h8, h9]; try exact rfl) (by simp (disch:=first|decide|(simp only[zF,zG,hnt, h1, h7, h8, h9];decide)) only [zA,zB,zC,zD,zE,zF,zG,zH,zI,zJ,zK,HV.cells,fl0,fl2,flS,flS1,flI1,flU1,flU2,flF,hnt, h1, h7, h8, h9]; try exact rfl) (by first|assumption|(simp (disch:=omega) only [get_same,get_other,hnt, h1, h7, h8, h9]; first|done|exact rfl)) (by exact True.intro) (by rfl) (by rfl) (by first|assumption|exact ow2 _ _ _ _|exact ow3 _ _ _ _ _ _|rfl|(simp only [zI,zJ,HV.cells,hnt, h1, h7, h8, h9]; exact rfl)) (by omega) ?_
     | refine r_add (by simp (disch:=first|decide|(simp only[zF,zG,hnt, h1, h7, h8, h9];decide)) only [zA,zB,zC,zD,zE,zF,zG,zH,zI,zJ,zK,HV.cells,fl0,fl2,flS,flS1,flI1,flU1,flU2,flF,hnt, h1, h7, h8, h9]; try exact rfl) (by simp (disch:=first|decide|(simp only[zF,zG,hnt, h1, h7, h8, h9];decide)) only [zA,zB,zC,zD,zE,zF,zG,zH,zI,zJ,zK,HV.cells,fl0,fl2,flS,flS1,flI1,flU1,flU2,flF,hnt, h1, h7, h8, h9]; try exact rfl) (by omega) (by omega) ?_
     | refine r_lss (by simp (disch:=first|decide|(simp only[zF,zG,hnt, h1, h7, h8, h9];decide)) only [zA,zB,zC,zD,zE,zF,zG,zH,zI,zJ,zK,HV.cells,fl0,fl2,flS,flS1,flI1,flU1,flU2,flF,hnt, h1, h7, h8, h9]; try exact rfl) (by simp (disch:=first|decide|(simp only[zF,zG,hnt, h1, h7, h8, h9];decide)) only [zA,zB,zC,zD,zE,zF,zG,zH,zI,zJ,zK,HV.cells,fl0,fl2,flS,flS1,flI1,flU1,flU2,flF,hnt, h1, h7, h8, h9]; try exact rfl) (fun hc => ?_) (fun hc => ?_) <;> (try (exfalso; omega))
     | refine r_not1 (by simp (disch:=first|decide|(simp only[zF,zG,hnt, h1, h7, h8, h9];decide)) only [zA,zB,zC,zD,zE,zF,zG,zH,zI,zJ,zK,HV.cells,fl0,fl2,flS,flS1,flI1,flU1,flU2,flF,hnt, h1, h7, h8, h9]; try exact rfl) ?_
     | refine r_ixs (by simp (disch:=first|decide|(simp only[zF,zG,hnt, h1, h7, h8, h9];decide)) only [zA,zB,zC,zD,zE,zF,zG,zH,zI,zJ,zK,HV.cells,fl0,fl2,flS,flS1,flI1,flU1,flU2,flF,hnt, h1, h7, h8, h9]; try exact rfl) (by simp (disch:=first|decide|(simp only[zF,zG,hnt, h1, h7, h8, h9];decide)) only [zA,zB,zC,zD,zE,zF,zG,zH,zI,zJ,zK,HV.cells,fl0,fl2,flS,flS1,flI1,flU1,flU2,flF,hnt, h1, h7, h8, h9]; try exact rfl) (by omega) ?_
     | refine r_calld (by simp (disch:=first|decide|(simp only[zF,zG,hnt, h1, h7, h8, h9];decide)) only [zA,zB,zC,zD,zE,zF,zG,zH,zI,zJ,zK,HV.cells,fl0,fl2,flS,flS1,flI1,flU1,flU2,flF,hnt, h1, h7, h8, h9]; try exact rfl) (by simp (disch:=first|decide|(simp only[zF,zG,hnt, h1, h7, h8, h9];decide)) only [List.map_cons,List.map_nil,List.nil_append,List.cons_append,List.append_nil,zA,zB,zC,zD,zE,zF,zG,zH,zI,zJ,zK,HV.cells,fl0,fl2,flS,flS1,flI1,flU1,flU2,flF,hnt, h1, h7, h8, h9]; first|done|exact rfl) (hf' _ _ _ (by repeat' first|assumption|refine Ext.put ?_ (by omega) (by omega)|exact Ext.up (by assumption) (by omega)|exact Ext.nx (by assumption) (by omega))) (fun n' hn' hc => ?_) (fun n' hn' hc => ?_) <;> (try (exfalso; omega))
     | fail
    · refine loop86 (cp := cp) hlen hfl hf m (i + 1) _ _ _ (by omega) (by repeat' first|assumption|refine Ext.put ?_ (by omega) (by omega)|exact Ext.up (by assumption) (by omega)|exact Ext.nx (by assumption) (by omega)) (Row.ext hrow0 (h' := _) (n' := _) (by repeat' first|assumption|refine Ext.put ?_ (by omega) (by omega)|exact Ext.up (by assumption) (by omega)|exact Ext.nx (by assumption) (by omega))) ?_ ?_ ?_ ?_ ?_ ?_ (fun a' h' n2 g1 g2 g3 g4 => hq a' h' n2 g1 g2 g3 ?_) (fun a' h' n2 g1 g2 g3 g4 g5 => hr a' h' n2 g1 g2 g3 g4 ?_)
      all_goals try first|(simp only [zL,zM,zF,zG,hnt, hds, h1, h7, h8, h9];done)|(simp (disch:=first|decide|(simp only[zF,zG,hnt, hds, h1, h7, h8, h9];decide)) only [zA,zB,zC,zD,zE,zF,zG,zH,zI,zJ,zK,HV.cells,fl0,fl2,flS,flS1,flI1,flU1,flU2,flF,hnt, hds, h1, h7, h8, h9];first|done|exact rfl)|assumption
      · rw [hdrop]; intro r hr; rcases List.mem_cons.1 hr with e | e
        · rw [e]; exact hc
        · exact g4 r e
      · rw [hdrop]; exact fun e => g5 fun r hr => e r (List.mem_cons_of_mem _ hr)
    · refine hr _ _ _ (by repeat' first|assumption|refine Ext.put ?_ (by omega) (by omega)|exact Ext.up (by assumption) (by omega)|exact Ext.nx (by assumption) (by omega)) ?_ ?_ ?_ (fun e => hc (e _ (by rw [hdrop]; exact List.mem_cons_self ..)))
      all_goals first|(simp only [zL,zM,zF,zG,hnt, hds];done)|(simp (disch:=first|decide|(simp only[zF,zG,hnt, hds];decide)) only [zA,zB,zC,zD,zE,zF,zG,zH,zI,zJ,zK,HV.cells,fl0,fl2,flS,flS1,flI1,flU1,flU2,flF,hnt, hds];first|done|exact rfl)|assumption
theorem c_all86 {fl : Nat} {h : Tr HBlk} {nx : Nat} (hd : D h nx) {p : Option (Nat × Nat)} {l : List (Int × Int)} {n cp : Nat} {k : Nat} {first captured : List HV} {P : Int × Int → Prop} [DecidablePred P] (hn : n = l.length) (hlen : l.length < 1000000000)
    (hrow : Row renc 2 h nx p l) (hf : ∀ r ∈ l, ∀ fl h1 n1, Ext h nx h1 n1 → C LW fl k (first ++ [.agg (renc r)] ++ captured) ⟨h1, n1⟩ (Sc (· = .bool (decide (P r))) ⟨h1, n1⟩)) :
    C LW fl 86 [.slice p n cp, .func k first captured] ⟨h, nx⟩ (Sc (· = .bool (decide (∀ r ∈ l, P r))) ⟨h, nx⟩) := by
  subst hn
  refine c_in lw86 rfl rfl rfl ?_
  dsimp only [L86]
  repeat' first
   | refine r_nil ?_
   | refine th_n ?_
   | refine w_seq ?_
   | refine w_reg ?_
   | refine w_block ?_
   | refine r_move (by simp (disch:=first|decide|(simp only[zF,zG];decide)) only [zA,zB,zC,zD,zE,zF,zG,zH,zI,zJ,zK,HV.cells,fl0,fl2,flS,flS1,flI1,flU1,flU2,flF]; try exact rfl) ?_
   | refine r_len (by simp (disch:=first|decide|(simp only[zF,zG];decide)) only [zA,zB,zC,zD,zE,zF,zG,zH,zI,zJ,zK,HV.cells,fl0,fl2,flS,flS1,flI1,flU1,flU2,flF]; try exact rfl) ?_
   | fail
  refine loop86 (cp := cp) hlen (Nat.le_refl _) hf l.length 0 _ _ _ (by omega) (Ext.refl hd) hrow ?_ ?_ ?_ ?_ ?_ ?_ (fun a' h' n2 g1 g2 g3 g4 => ?_) (fun a' h' n2 g1 g2 g3 g4 g5 => ?_)
  all_goals try first|(simp only [zL,zM,zF,zG];done)|(simp (disch:=first|decide|(simp only[zF,zG];decide)) only [zA,zB,zC,zD,zE,zF,zG,zH,zI,zJ,zK,HV.cells,fl0,fl2,flS,flS1,flI1,flU1,flU2,flF];first|done|exact rfl)|assumption
  · have hle := g1.le
    repeat' first
     | refine r_nil ?_
     | refine th_n ?_
     | refine w_seq ?_
     | refine w_reg ?_
     | refine w_ret ?_
     | refine r_move (by simp (disch:=first|decide|(simp only[zF,zG,g2];decide)) only [zA,zB,zC,zD,zE,zF,zG,zH,zI,zJ,zK,HV.cells,fl0,fl2,flS,flS1,flI1,flU1,flU2,flF,g2]; try exact rfl) ?_
     | fail
    refine fin_r (by simp only [zL, g3]) (by simp (disch:=first|decide|(simp only[zF,zG,g2];decide)) only [zA,zB,zC,zD,zE,zF,zG,zH,zI,zJ,zK,HV.cells,fl0,fl2,flS,flS1,flI1,flU1,flU2,flF,g2]; try exact rfl) (sc_flat rfl (by dsimp only; omega) ?_)
    rw [decide_eq_true (by simpa using g4)]
  · have hle := g1.le
    repeat' first
     | refine th_r ?_
     | fail
    refine fin_r (by simp only [zL, g3]) (by simp (disch:=first|decide|(simp only[zF,zG,g2, g4];decide)) only [zA,zB,zC,zD,zE,zF,zG,zH,zI,zJ,zK,HV.cells,fl0,fl2,flS,flS1,flI1,flU1,flU2,flF,g2, g4]; try exact rfl) (sc_flat rfl (by dsimp only; omega) ?_)
    rw [decide_eq_false (by simpa using g5)]
def StOk (s : Int × Int) : Prop := (1 ≤ s.1 ∧ s.1 ≤ 2000) ∧ 1 ≤ s.2 ∧ s.2 ≤ 2000
instance (s : Int × Int) : Decidable (StOk s) := by unfold StOk; infer_instance
/- 87 -/
theorem c_stepValid {fl : Nat} {h : Tr HBlk} {nx : Nat} {s : Int × Int} : C LW fl 87 [.agg (renc s)] ⟨h, nx⟩ (Sc (· = .bool (decide (StOk s))) ⟨h, nx⟩) := by
  refine c_in lw87 rfl rfl rfl ?_
  dsimp only [L87]
  repeat' first
   | refine r_nil ?_
   | refine th_n ?_
   | refine w_seq ?_
   | refine w_reg ?_
   | refine w_ret ?_
   | refine r_take (by simp (disch:=first|decide|(simp only[zF,zG];decide)) only [zA,zB,zC,zD,zE,zF,zG,zH,zI,zJ,zK,HV.cells,fl0,fl2,flS,flS1,flI1,flU1,flU2,flF]; first|done|exact rfl) ?_
   | refine r_drop (by simp (disch:=first|decide|(simp only[zF,zG,Bool.not_true,Bool.not_false];decide)) only [zA,zB,zC,zD,zE,zF,zG,zH,zI,zJ,zK,HV.cells,fl0,fl2,flS,flS1,flI1,flU1,flU2,flF,Bool.not_true,Bool.not_false]; first|done|exact rfl) ?_
   | refine r_move (by simp (disch:=first|decide|(simp only[zF,zG];decide)) only [zA,zB,zC,zD,zE,zF,zG,zH,zI,zJ,zK,HV.cells,fl0,fl2,flS,flS1,flI1,flU1,flU2,flF]; try exact rfl) ?_
   | refine r_fa (by simp (disch:=first|decide|(simp only[zF,zG];decide)) only [zA,zB,zC,zD,zE,zF,zG,zH,zI,zJ,zK,HV.cells,fl0,fl2,flS,flS1,flI1,flU1,flU2,flF]; try exact rfl) ?_
   | refine r_ld1 (by simp (disch:=first|decide|(simp only[zF,zG];decide)) only [zA,zB,zC,zD,zE,zF,zG,zH,zI,zJ,zK,HV.cells,fl0,fl2,flS,flS1,flI1,flU1,flU2,flF]; try exact rfl) (by first|assumption|(simp (disch:=omega) only [get_same,get_other]; first|done|exact rfl)) (by first|assumption|exact ow2 _ _ _ _|exact ow3 _ _ _ _ _ _|rfl|(simp only [zI,zJ,HV.cells]; exact rfl)) ?_
   | refine r_ldn (by simp (disch:=first|decide|(simp only[zF,zG];decide)) only [zA,zB,zC,zD,zE,zF,zG,zH,zI,zJ,zK,HV.cells,fl0,fl2,flS,flS1,flI1,flU1,flU2,flF]; try exact rfl) (by first|assumption|(simp (disch:=omega) only [get_same,get_other]; first|done|exact rfl)) (by first|assumption|exact ow2 _ _ _ _|exact ow3 _ _ _ _ _ _|rfl|(simp only [zI,zJ,HV.cells]; exact rfl)) ?_
   | refine r_box (by simp (disch:=first|decide|(simp only[zF,zG];decide)) only [zA,zB,zC,zD,zE,zF,zG,zH,zI,zJ,zK,HV.cells,fl0,fl2,flS,flS1,flI1,flU1,flU2,flF]; try exact rfl) ?_
   | refine r_alloc ?_
   | refine r_st (cs' := _) (by simp (disch:=first|decide|(simp only[zF,zG];decide)) only [zA,zB,zC,zD,zE,zF,zG,zH,zI,zJ,zK,HV.cells,fl0,fl2,flS,flS1,flI1,flU1,flU2,flF]; try exact rfl) (by simp (disch:=first|decide|(simp only[zF,zG];decide)) only [zA,zB,zC,zD,zE,zF,zG,zH,zI,zJ,zK,HV.cells,fl0,fl2,flS,flS1,flI1,flU1,flU2,flF]; try exact rfl) (by first|assumption|(simp (disch:=omega) only [get_same,get_other]; first|done|exact rfl)) (by exact True.intro) (by rfl) (by rfl) (by first|assumption|exact ow2 _ _ _ _|exact ow3 _ _ _ _ _ _|rfl|(simp only [zI,zJ,HV.cells]; exact rfl)) (by omega) ?_
   | refine r_pt (by simp (disch:=first|decide|(simp only[zF,zG];decide)) only [zA,zB,zC,zD,zE,zF,zG,zH,zI,zJ,zK,HV.cells,fl0,fl2,flS,flS1,flI1,flU1,flU2,flF]; first|done|exact rfl) (by simp (disch:=first|decide|(simp only[zF,zG];decide)) only [zA,zB,zC,zD,zE,zF,zG,zH,zI,zJ,zK,HV.cells,fl0,fl2,flS,flS1,flI1,flU1,flU2,flF]; try exact rfl) ?_
   | refine r_pf (by simp (disch:=first|decide|(simp only[zF,zG];decide)) only [zA,zB,zC,zD,zE,zF,zG,zH,zI,zJ,zK,HV.cells,fl0,fl2,flS,flS1,flI1,flU1,flU2,flF]; first|done|exact rfl) (by simp (disch:=first|decide|(simp only[zF,zG];decide)) only [zA,zB,zC,zD,zE,zF,zG,zH,zI,zJ,zK,HV.cells,fl0,fl2,flS,flS1,flI1,flU1,flU2,flF]; try exact rfl) ?_
   | refine r_build (by simp (disch:=first|decide|(simp only[zF,zG];decide)) only [evParts,List.map_cons,List.map_nil,List.nil_append,List.cons_append,List.append_nil,zA,zB,zC,zD,zE,zF,zG,zH,zI,zJ,zK,HV.cells,fl0,fl2,flS,flS1,flI1,flU1,flU2,flF]; try exact rfl) ?_
   | refine r_calld (by simp (disch:=first|decide|(simp only[zF,zG];decide)) only [zA,zB,zC,zD,zE,zF,zG,zH,zI,zJ,zK,HV.cells,fl0,fl2,flS,flS1,flI1,flU1,flU2,flF]; try exact rfl) (by simp (disch:=first|decide|(simp only[zF,zG];decide)) only [List.map_cons,List.map_nil,List.nil_append,List.cons_append,List.append_nil,zA,zB,zC,zD,zE,zF,zG,zH,zI,zJ,zK,HV.cells,fl0,fl2,flS,flS1,flI1,flU1,flU2,flF]; first|done|exact rfl) c_has (fun n' hn' hc => ?_) (fun n' hn' hc => ?_) <;> (try (exfalso; omega))
   | fail
  all_goals (refine fin_r (by simp only [zL,zM]) (by simp (disch:=first|decide|(simp only[zF,zG];decide)) only [zA,zB,zC,zD,zE,zF,zG,zH,zI,zJ,zK,HV.cells,fl0,fl2,flS,flS1,flI1,flU1,flU2,flF]; try exact rfl) (sc_flat rfl (by dsimp only; omega) ?_); first|rfl|(rw [decide_eq_true (by unfold StOk at *; (try dsimp only at *); omega)])|(rw [decide_eq_false (by unfold StOk at *; (try dsimp only at *); omega)]))
def Pre (s q : Int × Int) : Prop := s.1 < q.1 ∧ s.2 < q.2
instance (s q : Int × Int) : Decidable (Pre s q) := by unfold Pre; infer_instance
/- 89 -/
theorem c_mayPrecede {fl : Nat} {h : Tr HBlk} {nx : Nat} {s q : Int × Int} : C LW fl 89 [.agg (renc s), .agg (renc q)] ⟨h, nx⟩ (Sc (· = .bool (decide (Pre s q))) ⟨h, nx⟩) := by
  refine c_in lw89 rfl rfl rfl ?_
  dsimp only [L89]
  repeat' first
   | refine r_nil ?_
   | refine th_n ?_
   | refine w_seq ?_
   | refine w_reg ?_
   | refine w_ret ?_
   | refine r_take (by simp (disch:=first|decide|(simp only[zF,zG];decide)) only [zA,zB,zC,zD,zE,zF,zG,zH,zI,zJ,zK,HV.cells,fl0,fl2,flS,flS1,flI1,flU1,flU2,flF]; first|done|exact rfl) ?_
   | refine r_drop (by simp (disch:=first|decide|(simp only[zF,zG,Bool.not_true,Bool.not_false];decide)) only [zA,zB,zC,zD,zE,zF,zG,zH,zI,zJ,zK,HV.cells,fl0,fl2,flS,flS1,flI1,flU1,flU2,flF,Bool.not_true,Bool.not_false]; first|done|exact rfl) ?_
   | refine r_move (by simp (disch:=first|decide|(simp only[zF,zG];decide)) only [zA,zB,zC,zD,zE,zF,zG,zH,zI,zJ,zK,HV.cells,fl0,fl2,flS,flS1,flI1,flU1,flU2,flF]; try exact rfl) ?_
   | refine r_fa (by simp (disch:=first|decide|(simp only[zF,zG];decide)) only [zA,zB,zC,zD,zE,zF,zG,zH,zI,zJ,zK,HV.cells,fl0,fl2,flS,flS1,flI1,flU1,flU2,flF]; try exact rfl) ?_
   | refine r_ld1 (by simp (disch:=first|decide|(simp only[zF,zG];decide)) only [zA,zB,zC,zD,zE,zF,zG,zH,zI,zJ,zK,HV.cells,fl0,fl2,flS,flS1,flI1,flU1,flU2,flF]; try exact rfl) (by first|assumption|(simp (disch:=omega) only [get_same,get_other]; first|done|exact rfl)) (by first|assumption|exact ow2 _ _ _ _|exact ow3 _ _ _ _ _ _|rfl|(simp only [zI,zJ,HV.cells]; exact rfl)) ?_
   | refine r_box (by simp (disch:=first|decide|(simp only[zF,zG];decide)) only [zA,zB,zC,zD,zE,zF,zG,zH,zI,zJ,zK,HV.cells,fl0,fl2,flS,flS1,flI1,flU1,flU2,flF]; try exact rfl) ?_
   | refine r_lss (by simp (disch:=first|decide|(simp only[zF,zG];decide)) only [zA,zB,zC,zD,zE,zF,zG,zH,zI,zJ,zK,HV.cells,fl0,fl2,flS,flS1,flI1,flU1,flU2,flF]; try exact rfl) (by simp (disch:=first|decide|(simp only[zF,zG];decide)) only [zA,zB,zC,zD,zE,zF,zG,zH,zI,zJ,zK,HV.cells,fl0,fl2,flS,flS1,flI1,flU1,flU2,flF]; try exact rfl) (fun hc => ?_) (fun hc => ?_) <;> (try (exfalso; omega))
   | refine r_pt (by simp (disch:=first|decide|(simp only[zF,zG];decide)) only [zA,zB,zC,zD,zE,zF,zG,zH,zI,zJ,zK,HV.cells,fl0,fl2,flS,flS1,flI1,flU1,flU2,flF]; first|done|exact rfl) (by simp (disch:=first|decide|(simp only[zF,zG];decide)) only [zA,zB,zC,zD,zE,zF,zG,zH,zI,zJ,zK,HV.cells,fl0,fl2,flS,flS1,flI1,flU1,flU2,flF]; try exact rfl) ?_
   | refine r_pf (by simp (disch:=first|decide|(simp only[zF,zG];decide)) only [zA,zB,zC,zD,zE,zF,zG,zH,zI,zJ,zK,HV.cells,fl0,fl2,flS,flS1,flI1,flU1,flU2,flF]; first|done|exact rfl) (by simp (disch:=first|decide|(simp only[zF,zG];decide)) only [zA,zB,zC,zD,zE,zF,zG,zH,zI,zJ,zK,HV.cells,fl0,fl2,flS,flS1,flI1,flU1,flU2,flF]; try exact rfl) ?_
   | fail
  all_goals (refine fin_r (by simp only [zL,zM]) (by simp (disch:=first|decide|(simp only[zF,zG];decide)) only [zA,zB,zC,zD,zE,zF,zG,zH,zI,zJ,zK,HV.cells,fl0,fl2,flS,flS1,flI1,flU1,flU2,flF]; try exact rfl) (sc_flat rfl (by dsimp only; omega) ?_); first|rfl|(rw [decide_eq_true (by unfold Pre at *; (try dsimp only at *); omega)])|(rw [decide_eq_false (by unfold Pre at *; (try dsimp only at *); omega)]))
/-- Steps rise. -/
def Ris : List (Int × Int) → Prop
  | s :: q :: l => Pre s q ∧ Ris (q :: l)
  | _ => True
/- 88 -/
theorem loop88 {fl : Nat} {h0 : Tr HBlk} {n0 : Nat} {Q : HExit → HAct → HS → Prop} {p : Option (Nat × Nat)} {l : List (Int × Int)} {cp : Nat} (hlen : l.length < 1000000000) (hfl : fl ≤ n0) (hrow : Row renc 2 h0 n0 p l) :
    ∀ (m j : Nat) (a : HAct) (h : Tr HBlk) (nx : Nat), m + j + 1 = l.length → Ext h0 n0 h nx → a.nt = 24 → a.defers = [] → a.tmp 0 = .slice p l.length cp → a.tmp 1 = .func 89 [] [] → a.tmp 5 = i64 ((j + 1 : Nat) : Int) →
      (∀ a' h' n', Ris (l.drop j) → Ext h0 n0 h' n' → a'.nt = 24 → a'.defers = [] → Q .normal a' ⟨h', n'⟩) →
      (∀ a' h' n', ¬ Ris (l.drop j) → Ext h0 n0 h' n' → a'.nt = 24 → a'.defers = [] → a'.tmp 4 = .bool false → Q .ret a' ⟨h', n'⟩) → W LW fl none (.loop L88w0) (inBlockH 0 Q) a ⟨h, nx⟩
  | 0, j, a, h, nx, hm, he, hnt, hds, t0, t1, t5, hq, hq2 => by
    have hle := he.le
    refine w_it (show L88w0 = _ by unfold L88w0; exact rfl) ?_
    repeat' first
     | refine r_nil ?_
     | refine th_n ?_
     | refine th_e ?_
     | refine ib_e ?_
     | refine w_exit ?_
     | refine w_seq ?_
     | refine w_reg ?_
     | refine w_f (by simp (disch:=first|decide|(simp only[zF,zG,hnt, t0, t1, t5];decide)) only [zA,zB,zC,zD,zE,zF,zG,zH,zI,zJ,zK,HV.cells,fl0,fl2,flS,flS1,flI1,flU1,flU2,flF,hnt, t0, t1, t5]; first|done|exact rfl) ?_
     | refine r_move (by simp (disch:=first|decide|(simp only[zF,zG,hnt, t0, t1, t5];decide)) only [zA,zB,zC,zD,zE,zF,zG,zH,zI,zJ,zK,HV.cells,fl0,fl2,flS,flS1,flI1,flU1,flU2,flF,hnt, t0, t1, t5]; try exact rfl) ?_
     | refine r_lss (by simp (disch:=first|decide|(simp only[zF,zG,hnt, t0, t1, t5];decide)) only [zA,zB,zC,zD,zE,zF,zG,zH,zI,zJ,zK,HV.cells,fl0,fl2,flS,flS1,flI1,flU1,flU2,flF,hnt, t0, t1, t5]; try exact rfl) (by simp (disch:=first|decide|(simp only[zF,zG,hnt, t0, t1, t5];decide)) only [zA,zB,zC,zD,zE,zF,zG,zH,zI,zJ,zK,HV.cells,fl0,fl2,flS,flS1,flI1,flU1,flU2,flF,hnt, t0, t1, t5]; try exact rfl) (fun hc => ?_) (fun hc => ?_) <;> (try (exfalso; omega))
     | refine r_len (by simp (disch:=first|decide|(simp only[zF,zG,hnt, t0, t1, t5];decide)) only [zA,zB,zC,zD,zE,zF,zG,zH,zI,zJ,zK,HV.cells,fl0,fl2,flS,flS1,flI1,flU1,flU2,flF,hnt, t0, t1, t5]; try exact rfl) ?_
     | fail
    have e : Ris (l.drop j) := by
      have : (l.drop j).length = 1 := by rw [List.length_drop]; omega
      match l.drop j, this with
      | [s], _ => trivial
    refine hq _ _ _ e he ?_ ?_
    all_goals first|(simp only [zL,zM,zF,zG,hnt, hds];done)|(simp (disch:=first|decide|(simp only[zF,zG,hnt, hds];decide)) only [zA,zB,zC,zD,zE,zF,zG,zH,zI,zJ,zK,HV.cells,fl0,fl2,flS,flS1,flI1,flU1,flU2,flF,hnt, hds];first|done|exact rfl)|assumption
  | m + 1, j, a, h, nx, hm, he, hnt, hds, t0, t1, t5, hq, hq2 => by
    have hle := he.le
    have hd := he.d
    have hrow0 := hrow.ext he
    obtain ⟨b, o, cs, kk, rfl, hb, hg, hcs⟩ := hrow0 (by intro e; rw [e] at hm; simp at hm)
    have hy : l[j]? = some l[j] := by simp [show j < l.length by omega]
    have hz : l[j + 1]? = some l[j + 1] := by simp [show j + 1 < l.length by omega]
    have e0 := hcs j _ hy
    have e1 := hcs (j + 1) _ hz
    have ed : l.drop j = l[j] :: l[j + 1] :: l.drop (j + 2) := by rw [List.drop_eq_getElem_cons (show j < l.length by omega), List.drop_eq_getElem_cons (show j + 1 < l.length by omega)]
    have ed1 : l.drop (j + 1) = l[j + 1] :: l.drop (j + 2) := by rw [List.drop_eq_getElem_cons (show j + 1 < l.length by omega)]
    have ej : ((j + 1 : Nat) : Int) - 1 = (j : Int) := by omega
    have cP : ∀ fl h' n', C LW fl 89 [.agg (renc l[j]), .agg (renc l[j + 1])] ⟨h', n'⟩ (Sc (· = .bool (decide (Pre l[j] l[j + 1]))) ⟨h', n'⟩) := fun fl h' n' => c_mayPrecede
    refine w_it (show L88w0 = _ by unfold L88w0; exact rfl) ?_
    repeat' first
     | refine r_nil ?_
     | refine th_n ?_
     | refine th_r ?_
     | refine ib_n ?_
     | refine ib_r ?_
     | refine w_seq ?_
     | refine w_reg ?_
     | refine w_ret ?_
     | refine w_skip ?_
     | refine w_block ?_
     | refine w_t (by simp (disch:=first|decide|(simp only[zF,zG,hnt, t0, t1, t5, hg, ej];decide)) only [zA,zB,zC,zD,zE,zF,zG,zH,zI,zJ,zK,HV.cells,fl0,fl2,flS,flS1,flI1,flU1,flU2,flF,hnt, t0, t1, t5, hg, ej]; first|done|exact rfl) ?_
     | refine w_f (by simp (disch:=first|decide|(simp only[zF,zG,hnt, t0, t1, t5, hg, ej];decide)) only [zA,zB,zC,zD,zE,zF,zG,zH,zI,zJ,zK,HV.cells,fl0,fl2,flS,flS1,flI1,flU1,flU2,flF,hnt, t0, t1, t5, hg, ej]; first|done|exact rfl) ?_
     | refine r_move (by simp (disch:=first|decide|(simp only[zF,zG,hnt, t0, t1, t5, hg, ej];decide)) only [zA,zB,zC,zD,zE,zF,zG,zH,zI,zJ,zK,HV.cells,fl0,fl2,flS,flS1,flI1,flU1,flU2,flF,hnt, t0, t1, t5, hg, ej]; try exact rfl) ?_
     | refine r_ldn (by simp (disch:=first|decide|(simp only[zF,zG,hnt, t0, t1, t5, hg, ej];decide)) only [zA,zB,zC,zD,zE,zF,zG,zH,zI,zJ,zK,HV.cells,fl0,fl2,flS,flS1,flI1,flU1,flU2,flF,hnt, t0, t1, t5, hg, ej]; try exact rfl) (by first|assumption|(simp (disch:=omega) only [get_same,get_other,hnt, t0, t1, t5, hg, ej]; first|done|exact rfl)) (by first|assumption|exact ow2 _ _ _ _|exact ow3 _ _ _ _ _ _|rfl|(simp only [zI,zJ,HV.cells,hnt, t0, t1, t5, hg, ej]; exact rfl)) ?_
     | refine r_add (by simp (disch:=first|decide|(simp only[zF,zG,hnt, t0, t1, t5, hg, ej];decide)) only [zA,zB,zC,zD,zE,zF,zG,zH,zI,zJ,zK,HV.cells,fl0,fl2,flS,flS1,flI1,flU1,flU2,flF,hnt, t0, t1, t5, hg, ej]; try exact rfl) (by simp (disch:=first|decide|(simp only[zF,zG,hnt, t0, t1, t5, hg, ej];decide)) only [zA,zB,zC,zD,zE,zF,zG,zH,zI,zJ,zK,HV.cells,fl0,fl2,flS,flS1,flI1,flU1,flU2,flF,hnt, t0, t1, t5, hg, ej]; try exact rfl) (by omega) (by omega) ?_
     | refine r_sub (by simp (disch:=first|decide|(simp only[zF,zG,hnt, t0, t1, t5, hg, ej];decide)) only [zA,zB,zC,zD,zE,zF,zG,zH,zI,zJ,zK,HV.cells,fl0,fl2,flS,flS1,flI1,flU1,flU2,flF,hnt, t0, t1, t5, hg, ej]; try exact rfl) (by simp (disch:=first|decide|(simp only[zF,zG,hnt, t0, t1, t5, hg, ej];decide)) only [zA,zB,zC,zD,zE,zF,zG,zH,zI,zJ,zK,HV.cells,fl0,fl2,flS,flS1,flI1,flU1,flU2,flF,hnt, t0, t1, t5, hg, ej]; try exact rfl) (by omega) (by omega) ?_
     | refine r_lss (by simp (disch:=first|decide|(simp only[zF,zG,hnt, t0, t1, t5, hg, ej];decide)) only [zA,zB,zC,zD,zE,zF,zG,zH,zI,zJ,zK,HV.cells,fl0,fl2,flS,flS1,flI1,flU1,flU2,flF,hnt, t0, t1, t5, hg, ej]; try exact rfl) (by simp (disch:=first|decide|(simp only[zF,zG,hnt, t0, t1, t5, hg, ej];decide)) only [zA,zB,zC,zD,zE,zF,zG,zH,zI,zJ,zK,HV.cells,fl0,fl2,flS,flS1,flI1,flU1,flU2,flF,hnt, t0, t1, t5, hg, ej]; try exact rfl) (fun hc => ?_) (fun hc => ?_) <;> (try (exfalso; omega))
     | refine r_not1 (by simp (disch:=first|decide|(simp only[zF,zG,hnt, t0, t1, t5, hg, ej];decide)) only [zA,zB,zC,zD,zE,zF,zG,zH,zI,zJ,zK,HV.cells,fl0,fl2,flS,flS1,flI1,flU1,flU2,flF,hnt, t0, t1, t5, hg, ej]; try exact rfl) ?_
     | refine r_len (by simp (disch:=first|decide|(simp only[zF,zG,hnt, t0, t1, t5, hg, ej];decide)) only [zA,zB,zC,zD,zE,zF,zG,zH,zI,zJ,zK,HV.cells,fl0,fl2,flS,flS1,flI1,flU1,flU2,flF,hnt, t0, t1, t5, hg, ej]; try exact rfl) ?_
     | refine r_ixs (by simp (disch:=first|decide|(simp only[zF,zG,hnt, t0, t1, t5, hg, ej];decide)) only [zA,zB,zC,zD,zE,zF,zG,zH,zI,zJ,zK,HV.cells,fl0,fl2,flS,flS1,flI1,flU1,flU2,flF,hnt, t0, t1, t5, hg, ej]; try exact rfl) (by simp (disch:=first|decide|(simp only[zF,zG,hnt, t0, t1, t5, hg, ej];decide)) only [zA,zB,zC,zD,zE,zF,zG,zH,zI,zJ,zK,HV.cells,fl0,fl2,flS,flS1,flI1,flU1,flU2,flF,hnt, t0, t1, t5, hg, ej]; try exact rfl) (by omega) ?_
     | refine r_calld (by simp (disch:=first|decide|(simp only[zF,zG,hnt, t0, t1, t5, hg, ej];decide)) only [zA,zB,zC,zD,zE,zF,zG,zH,zI,zJ,zK,HV.cells,fl0,fl2,flS,flS1,flI1,flU1,flU2,flF,hnt, t0, t1, t5, hg, ej]; try exact rfl) (by simp (disch:=first|decide|(simp only[zF,zG,hnt, t0, t1, t5, hg, ej];decide)) only [List.map_cons,List.map_nil,List.nil_append,List.cons_append,List.append_nil,zA,zB,zC,zD,zE,zF,zG,zH,zI,zJ,zK,HV.cells,fl0,fl2,flS,flS1,flI1,flU1,flU2,flF,hnt, t0, t1, t5, hg, ej]; first|done|exact rfl) (cP _ _ _) (fun n' hn' hc => ?_) (fun n' hn' hc => ?_) <;> (try (exfalso; omega))
     | refine w_draw (by omega) (by (repeat' first|assumption|refine D.upd ?_ (by omega)|exact D.mono (by assumption) (by omega)) <;> fail) ?_
     | refine d_rest rfl ?_
     | refine d_one rfl rfl ?_
     | refine d_next (by omega) ?_
     | fail
    · refine loop88 (cp := cp) hlen hfl hrow m (j + 1) _ _ _ (by omega) (he.up (by omega)) ?_ ?_ ?_ ?_ ?_ (fun a' h' n' g => hq a' h' n' (by rw [ed]; rw [ed1] at g; exact ⟨hc, g⟩)) (fun a' h' n' g => hq2 a' h' n' (by rw [ed]; rw [ed1] at g; exact fun e => g e.2))
      all_goals first|(simp only [zL,zM,zF,zG,hnt, hds, t0, t1, t5];done)|(simp (disch:=first|decide|(simp only[zF,zG,hnt, hds, t0, t1, t5];decide)) only [zA,zB,zC,zD,zE,zF,zG,zH,zI,zJ,zK,HV.cells,fl0,fl2,flS,flS1,flI1,flU1,flU2,flF,hnt, hds, t0, t1, t5];first|done|exact rfl)|assumption
    · refine hq2 _ _ _ (by rw [ed]; exact fun e => hc e.1) (he.up (by omega)) ?_ ?_ ?_
      all_goals first|(simp only [zL,zM,zF,zG,hnt, hds];done)|(simp (disch:=first|decide|(simp only[zF,zG,hnt, hds];decide)) only [zA,zB,zC,zD,zE,zF,zG,zH,zI,zJ,zK,HV.cells,fl0,fl2,flS,flS1,flI1,flU1,flU2,flF,hnt, hds];first|done|exact rfl)|assumption
end Go.Hx

/- Layer 3: whether a table is valid; between which pressures it lies. -/
namespace Go.Hx
set_option linter.unusedSimpArgs false
set_option linter.unusedVariables false
set_option maxRecDepth 20000
set_option maxHeartbeats 4000000
attribute [local irreducible] W R C thenH inBlockH
--dropu
instance decRis : ∀ l : List (Int × Int), Decidable (Ris l)
  | [] => .isTrue trivial
  | [_] => .isTrue trivial
  | s :: q :: l => match decRis (q :: l) with
    | .isTrue h => if g : Pre s q then .isTrue ⟨g, h⟩ else .isFalse fun e => g e.1
    | .isFalse h => .isFalse fun e => h e.2
/- 88 -/
theorem c_inOrder {fl : Nat} {h : Tr HBlk} {nx : Nat} (hd : D h nx) {p : Option (Nat × Nat)} {l : List (Int × Int)} {n cp : Nat} (hn : n = l.length) (hlen : l.length < 1000000000) (hrow : Row renc 2 h nx p l) :
    C LW fl 88 [.slice p n cp, .func 89 [] []] ⟨h, nx⟩ (Sc (· = .bool (decide (Ris l))) ⟨h, nx⟩) := by
  subst hn
  refine c_in lw88 rfl rfl rfl ?_
  dsimp only [L88]
  by_cases h0 : l.length = 0
  · have hl0 : l = [] := List.eq_nil_of_length_eq_zero h0
    repeat' first
     | refine r_nil ?_
     | refine th_n ?_
     | refine w_seq ?_
     | refine w_reg ?_
     | refine w_block ?_
     | refine r_move (by simp (disch:=first|decide|(simp only[zF,zG];decide)) only [zA,zB,zC,zD,zE,zF,zG,zH,zI,zJ,zK,HV.cells,fl0,fl2,flS,flS1,flI1,flU1,flU2,flF]; try exact rfl) ?_
     | fail
    refine w_it (show L88w0 = _ by unfold L88w0; exact rfl) ?_
    repeat' first
     | refine r_nil ?_
     | refine th_n ?_
     | refine th_e ?_
     | refine ib_e ?_
     | refine w_exit ?_
     | refine w_seq ?_
     | refine w_reg ?_
     | refine w_ret ?_
     | refine w_f (by simp (disch:=first|decide|(simp only[zF,zG];decide)) only [zA,zB,zC,zD,zE,zF,zG,zH,zI,zJ,zK,HV.cells,fl0,fl2,flS,flS1,flI1,flU1,flU2,flF]; first|done|exact rfl) ?_
     | refine r_move (by simp (disch:=first|decide|(simp only[zF,zG];decide)) only [zA,zB,zC,zD,zE,zF,zG,zH,zI,zJ,zK,HV.cells,fl0,fl2,flS,flS1,flI1,flU1,flU2,flF]; try exact rfl) ?_
     | refine r_lss (by simp (disch:=first|decide|(simp only[zF,zG];decide)) only [zA,zB,zC,zD,zE,zF,zG,zH,zI,zJ,zK,HV.cells,fl0,fl2,flS,flS1,flI1,flU1,flU2,flF]; try exact rfl) (by simp (disch:=first|decide|(simp only[zF,zG];decide)) only [zA,zB,zC,zD,zE,zF,zG,zH,zI,zJ,zK,HV.cells,fl0,fl2,flS,flS1,flI1,flU1,flU2,flF]; try exact rfl) (fun hc => ?_) (fun hc => ?_) <;> (try (exfalso; omega))
     | refine r_len (by simp (disch:=first|decide|(simp only[zF,zG];decide)) only [zA,zB,zC,zD,zE,zF,zG,zH,zI,zJ,zK,HV.cells,fl0,fl2,flS,flS1,flI1,flU1,flU2,flF]; try exact rfl) ?_
     | fail
    refine fin_r (by simp only [zL,zM]) (by simp (disch:=first|decide|(simp only[zF,zG];decide)) only [zA,zB,zC,zD,zE,zF,zG,zH,zI,zJ,zK,HV.cells,fl0,fl2,flS,flS1,flI1,flU1,flU2,flF]; try exact rfl) (sc_flat rfl (by dsimp only; omega) ?_)
    rw [hl0]
    rfl
  repeat' first
   | refine r_nil ?_
   | refine th_n ?_
   | refine w_seq ?_
   | refine w_reg ?_
   | refine w_block ?_
   | refine r_move (by simp (disch:=first|decide|(simp only[zF,zG];decide)) only [zA,zB,zC,zD,zE,zF,zG,zH,zI,zJ,zK,HV.cells,fl0,fl2,flS,flS1,flI1,flU1,flU2,flF]; try exact rfl) ?_
   | fail
  refine loop88 (h0 := h) (n0 := nx) (l := l) (p := p) (cp := cp) hlen (by omega) hrow (l.length - 1) 0 _ _ _ (by omega) (Ext.refl hd) ?_ ?_ ?_ ?_ ?_ (fun a' h' n' g0 g1 g2 g3 => ?_) (fun a' h' n' g0 g1 g2 g3 g4 => ?_)
  all_goals try first|(simp only [zL,zM,zF,zG];done)|(simp (disch:=first|decide|(simp only[zF,zG];decide)) only [zA,zB,zC,zD,zE,zF,zG,zH,zI,zJ,zK,HV.cells,fl0,fl2,flS,flS1,flI1,flU1,flU2,flF];first|done|exact rfl)|assumption
  · have hle := g1.le
    repeat' first
     | refine r_nil ?_
     | refine th_n ?_
     | refine w_seq ?_
     | refine w_reg ?_
     | refine w_ret ?_
     | refine r_move (by simp (disch:=first|decide|(simp only[zF,zG,g2];decide)) only [zA,zB,zC,zD,zE,zF,zG,zH,zI,zJ,zK,HV.cells,fl0,fl2,flS,flS1,flI1,flU1,flU2,flF,g2]; try exact rfl) ?_
     | fail
    refine fin_r (by simp only [zL, zM, g3]) (by simp (disch:=first|decide|(simp only[zF,zG,g2];decide)) only [zA,zB,zC,zD,zE,zF,zG,zH,zI,zJ,zK,HV.cells,fl0,fl2,flS,flS1,flI1,flU1,flU2,flF,g2]; try exact rfl) (sc_flat rfl (by dsimp only; omega) ?_)
    rw [List.drop_zero] at g0
    rw [decide_eq_true g0]
  · have hle := g1.le
    repeat' first
     | refine th_r ?_
     | fail
    refine fin_r (by simp only [zL, zM, g3]) (by simp (disch:=first|decide|(simp only[zF,zG,g2, g4];decide)) only [zA,zB,zC,zD,zE,zF,zG,zH,zI,zJ,zK,HV.cells,fl0,fl2,flS,flS1,flI1,flU1,flU2,flF,g2, g4]; try exact rfl) (sc_flat rfl (by dsimp only; omega) ?_)
    rw [List.drop_zero] at g0
    rw [decide_eq_false g0]
def TbOk (l : List (Int × Int)) : Prop := 2 ≤ l.length ∧ (∀ s ∈ l, StOk s) ∧ Ris l
instance (l : List (Int × Int)) : Decidable (TbOk l) := by unfold TbOk; infer_instance
def chkT (l : List (Int × Int)) : Int := if l.length ≤ 8 then (if TbOk l then 0 else 1) else 3
/- 63 -/
theorem c_checkTable {fl : Nat} {h : Tr HBlk} {nx : Nat} (hd : D h nx) {p : Option (Nat × Nat)} {l : List (Int × Int)} {n cp : Nat} (hn : n = l.length) (hlen : l.length < 1000000000) (hrow : Row renc 2 h nx p l) :
    C LW fl 63 [.slice p n cp] ⟨h, nx⟩ (Sc (· = i64 (chkT l)) ⟨h, nx⟩) := by
  subst hn
  have cA : ∀ fl h' n', Ext h nx h' n' → C LW fl 86 [.slice p l.length cp, .func 87 [] []] ⟨h', n'⟩ (Sc (· = .bool (decide (∀ s ∈ l, StOk s))) ⟨h', n'⟩) := fun fl h' n' e => c_all86 (P := StOk) e.d rfl hlen (hrow.ext e) (fun r _ fl h1 n1 _ => c_stepValid)
  have cO : ∀ fl h' n', Ext h nx h' n' → C LW fl 88 [.slice p l.length cp, .func 89 [] []] ⟨h', n'⟩ (Sc (· = .bool (decide (Ris l))) ⟨h', n'⟩) := fun fl h' n' e => c_inOrder e.d rfl hlen (hrow.ext e)
  refine c_in lw63 rfl rfl rfl ?_
  dsimp only [L63]
  by_cases h8 : l.length ≤ 8
  · have e : chkT l = if TbOk l then 0 else 1 := if_pos h8
    rw [e]
    by_cases hk : TbOk l
    · obtain ⟨k1, k2, k3⟩ := hk
      rw [if_pos ⟨k1, k2, k3⟩]
      repeat' first
       | refine r_nil ?_
       | refine th_n ?_
       | refine th_r ?_
       | refine w_seq ?_
       | refine w_reg ?_
       | refine w_ret ?_
       | refine w_skip ?_
       | refine w_t (by simp (disch:=first|decide|(simp only[zF,zG];decide)) only [zA,zB,zC,zD,zE,zF,zG,zH,zI,zJ,zK,HV.cells,fl0,fl2,flS,flS1,flI1,flU1,flU2,flF]; first|done|exact rfl) ?_
       | refine w_f (by simp (disch:=first|decide|(simp only[zF,zG];decide)) only [zA,zB,zC,zD,zE,zF,zG,zH,zI,zJ,zK,HV.cells,fl0,fl2,flS,flS1,flI1,flU1,flU2,flF]; first|done|exact rfl) ?_
       | refine r_take (by simp (disch:=first|decide|(simp only[zF,zG];decide)) only [zA,zB,zC,zD,zE,zF,zG,zH,zI,zJ,zK,HV.cells,fl0,fl2,flS,flS1,flI1,flU1,flU2,flF]; first|done|exact rfl) ?_
       | refine r_drop (by simp (disch:=first|decide|(simp only[zF,zG,Bool.not_true,Bool.not_false];decide)) only [zA,zB,zC,zD,zE,zF,zG,zH,zI,zJ,zK,HV.cells,fl0,fl2,flS,flS1,flI1,flU1,flU2,flF,Bool.not_true,Bool.not_false]; first|done|exact rfl) ?_
       | refine r_move (by simp (disch:=first|decide|(simp only[zF,zG];decide)) only [zA,zB,zC,zD,zE,zF,zG,zH,zI,zJ,zK,HV.cells,fl0,fl2,flS,flS1,flI1,flU1,flU2,flF]; try exact rfl) ?_
       | refine r_lss (by simp (disch:=first|decide|(simp only[zF,zG];decide)) only [zA,zB,zC,zD,zE,zF,zG,zH,zI,zJ,zK,HV.cells,fl0,fl2,flS,flS1,flI1,flU1,flU2,flF]; try exact rfl) (by simp (disch:=first|decide|(simp only[zF,zG];decide)) only [zA,zB,zC,zD,zE,zF,zG,zH,zI,zJ,zK,HV.cells,fl0,fl2,flS,flS1,flI1,flU1,flU2,flF]; try exact rfl) (fun hc => ?_) (fun hc => ?_) <;> (try (exfalso; omega))
       | refine r_gtr (by simp (disch:=first|decide|(simp only[zF,zG];decide)) only [zA,zB,zC,zD,zE,zF,zG,zH,zI,zJ,zK,HV.cells,fl0,fl2,flS,flS1,flI1,flU1,flU2,flF]; try exact rfl) (by simp (disch:=first|decide|(simp only[zF,zG];decide)) only [zA,zB,zC,zD,zE,zF,zG,zH,zI,zJ,zK,HV.cells,fl0,fl2,flS,flS1,flI1,flU1,flU2,flF]; try exact rfl) (fun hc => ?_) (fun hc => ?_) <;> (try (exfalso; omega))
       | refine r_not1 (by simp (disch:=first|decide|(simp only[zF,zG];decide)) only [zA,zB,zC,zD,zE,zF,zG,zH,zI,zJ,zK,HV.cells,fl0,fl2,flS,flS1,flI1,flU1,flU2,flF]; try exact rfl) ?_
       | refine r_pt (by simp (disch:=first|decide|(simp only[zF,zG];decide)) only [zA,zB,zC,zD,zE,zF,zG,zH,zI,zJ,zK,HV.cells,fl0,fl2,flS,flS1,flI1,flU1,flU2,flF]; first|done|exact rfl) (by simp (disch:=first|decide|(simp only[zF,zG];decide)) only [zA,zB,zC,zD,zE,zF,zG,zH,zI,zJ,zK,HV.cells,fl0,fl2,flS,flS1,flI1,flU1,flU2,flF]; try exact rfl) ?_
       | refine r_pf (by simp (disch:=first|decide|(simp only[zF,zG];decide)) only [zA,zB,zC,zD,zE,zF,zG,zH,zI,zJ,zK,HV.cells,fl0,fl2,flS,flS1,flI1,flU1,flU2,flF]; first|done|exact rfl) (by simp (disch:=first|decide|(simp only[zF,zG];decide)) only [zA,zB,zC,zD,zE,zF,zG,zH,zI,zJ,zK,HV.cells,fl0,fl2,flS,flS1,flI1,flU1,flU2,flF]; try exact rfl) ?_
       | refine r_len (by simp (disch:=first|decide|(simp only[zF,zG];decide)) only [zA,zB,zC,zD,zE,zF,zG,zH,zI,zJ,zK,HV.cells,fl0,fl2,flS,flS1,flI1,flU1,flU2,flF]; try exact rfl) ?_
       | refine r_calld (by simp (disch:=first|decide|(simp only[zF,zG];decide)) only [zA,zB,zC,zD,zE,zF,zG,zH,zI,zJ,zK,HV.cells,fl0,fl2,flS,flS1,flI1,flU1,flU2,flF]; try exact rfl) (by simp (disch:=first|decide|(simp only[zF,zG];decide)) only [List.map_cons,List.map_nil,List.nil_append,List.cons_append,List.append_nil,zA,zB,zC,zD,zE,zF,zG,zH,zI,zJ,zK,HV.cells,fl0,fl2,flS,flS1,flI1,flU1,flU2,flF]; first|done|exact rfl) (cA _ _ _ (by repeat' first|assumption|refine Ext.put ?_ (by omega) (by omega)|exact Ext.up (by assumption) (by omega)|exact Ext.nx (by assumption) (by omega))) (fun n' hn' hc => ?_) (fun n' hn' hc => ?_) <;> (try (exfalso; omega))
       | refine r_calld (by simp (disch:=first|decide|(simp only[zF,zG];decide)) only [zA,zB,zC,zD,zE,zF,zG,zH,zI,zJ,zK,HV.cells,fl0,fl2,flS,flS1,flI1,flU1,flU2,flF]; try exact rfl) (by simp (disch:=first|decide|(simp only[zF,zG];decide)) only [List.map_cons,List.map_nil,List.nil_append,List.cons_append,List.append_nil,zA,zB,zC,zD,zE,zF,zG,zH,zI,zJ,zK,HV.cells,fl0,fl2,flS,flS1,flI1,flU1,flU2,flF]; first|done|exact rfl) (cO _ _ _ (by repeat' first|assumption|refine Ext.put ?_ (by omega) (by omega)|exact Ext.up (by assumption) (by omega)|exact Ext.nx (by assumption) (by omega))) (fun n' hn' hc => ?_) (fun n' hn' hc => ?_) <;> (try (exfalso; omega))
       | fail
      all_goals first
        | exact absurd k2 (by assumption)
        | exact absurd k3 (by assumption)
        | (refine fin_r (by simp only [zL,zM]) (by simp (disch:=first|decide|(simp only[zF,zG];decide)) only [zA,zB,zC,zD,zE,zF,zG,zH,zI,zJ,zK,HV.cells,fl0,fl2,flS,flS1,flI1,flU1,flU2,flF]; try exact rfl) (sc_flat rfl (by dsimp only; omega) ?_); rfl)
    · rw [if_neg hk]
      repeat' first
       | refine r_nil ?_
       | refine th_n ?_
       | refine th_r ?_
       | refine w_seq ?_
       | refine w_reg ?_
       | refine w_ret ?_
       | refine w_skip ?_
       | refine w_t (by simp (disch:=first|decide|(simp only[zF,zG];decide)) only [zA,zB,zC,zD,zE,zF,zG,zH,zI,zJ,zK,HV.cells,fl0,fl2,flS,flS1,flI1,flU1,flU2,flF]; first|done|exact rfl) ?_
       | refine w_f (by simp (disch:=first|decide|(simp only[zF,zG];decide)) only [zA,zB,zC,zD,zE,zF,zG,zH,zI,zJ,zK,HV.cells,fl0,fl2,flS,flS1,flI1,flU1,flU2,flF]; first|done|exact rfl) ?_
       | refine r_take (by simp (disch:=first|decide|(simp only[zF,zG];decide)) only [zA,zB,zC,zD,zE,zF,zG,zH,zI,zJ,zK,HV.cells,fl0,fl2,flS,flS1,flI1,flU1,flU2,flF]; first|done|exact rfl) ?_
       | refine r_drop (by simp (disch:=first|decide|(simp only[zF,zG,Bool.not_true,Bool.not_false];decide)) only [zA,zB,zC,zD,zE,zF,zG,zH,zI,zJ,zK,HV.cells,fl0,fl2,flS,flS1,flI1,flU1,flU2,flF,Bool.not_true,Bool.not_false]; first|done|exact rfl) ?_
       | refine r_move (by simp (disch:=first|decide|(simp only[zF,zG];decide)) only [zA,zB,zC,zD,zE,zF,zG,zH,zI,zJ,zK,HV.cells,fl0,fl2,flS,flS1,flI1,flU1,flU2,flF]; try exact rfl) ?_
       | refine r_lss (by simp (disch:=first|decide|(simp only[zF,zG];decide)) only [zA,zB,zC,zD,zE,zF,zG,zH,zI,zJ,zK,HV.cells,fl0,fl2,flS,flS1,flI1,flU1,flU2,flF]; try exact rfl) (by simp (disch:=first|decide|(simp only[zF,zG];decide)) only [zA,zB,zC,zD,zE,zF,zG,zH,zI,zJ,zK,HV.cells,fl0,fl2,flS,flS1,flI1,flU1,flU2,flF]; try exact rfl) (fun hc => ?_) (fun hc => ?_) <;> (try (exfalso; omega))
       | refine r_gtr (by simp (disch:=first|decide|(simp only[zF,zG];decide)) only [zA,zB,zC,zD,zE,zF,zG,zH,zI,zJ,zK,HV.cells,fl0,fl2,flS,flS1,flI1,flU1,flU2,flF]; try exact rfl) (by simp (disch:=first|decide|(simp only[zF,zG];decide)) only [zA,zB,zC,zD,zE,zF,zG,zH,zI,zJ,zK,HV.cells,fl0,fl2,flS,flS1,flI1,flU1,flU2,flF]; try exact rfl) (fun hc => ?_) (fun hc => ?_) <;> (try (exfalso; omega))
       | refine r_not1 (by simp (disch:=first|decide|(simp only[zF,zG];decide)) only [zA,zB,zC,zD,zE,zF,zG,zH,zI,zJ,zK,HV.cells,fl0,fl2,flS,flS1,flI1,flU1,flU2,flF]; try exact rfl) ?_
       | refine r_pt (by simp (disch:=first|decide|(simp only[zF,zG];decide)) only [zA,zB,zC,zD,zE,zF,zG,zH,zI,zJ,zK,HV.cells,fl0,fl2,flS,flS1,flI1,flU1,flU2,flF]; first|done|exact rfl) (by simp (disch:=first|decide|(simp only[zF,zG];decide)) only [zA,zB,zC,zD,zE,zF,zG,zH,zI,zJ,zK,HV.cells,fl0,fl2,flS,flS1,flI1,flU1,flU2,flF]; try exact rfl) ?_
       | refine r_pf (by simp (disch:=first|decide|(simp only[zF,zG];decide)) only [zA,zB,zC,zD,zE,zF,zG,zH,zI,zJ,zK,HV.cells,fl0,fl2,flS,flS1,flI1,flU1,flU2,flF]; first|done|exact rfl) (by simp (disch:=first|decide|(simp only[zF,zG];decide)) only [zA,zB,zC,zD,zE,zF,zG,zH,zI,zJ,zK,HV.cells,fl0,fl2,flS,flS1,flI1,flU1,flU2,flF]; try exact rfl) ?_
       | refine r_len (by simp (disch:=first|decide|(simp only[zF,zG];decide)) only [zA,zB,zC,zD,zE,zF,zG,zH,zI,zJ,zK,HV.cells,fl0,fl2,flS,flS1,flI1,flU1,flU2,flF]; try exact rfl) ?_
       | refine r_calld (by simp (disch:=first|decide|(simp only[zF,zG];decide)) only [zA,zB,zC,zD,zE,zF,zG,zH,zI,zJ,zK,HV.cells,fl0,fl2,flS,flS1,flI1,flU1,flU2,flF]; try exact rfl) (by simp (disch:=first|decide|(simp only[zF,zG];decide)) only [List.map_cons,List.map_nil,List.nil_append,List.cons_append,List.append_nil,zA,zB,zC,zD,zE,zF,zG,zH,zI,zJ,zK,HV.cells,fl0,fl2,flS,flS1,flI1,flU1,flU2,flF]; first|done|exact rfl) (cA _ _ _ (by repeat' first|assumption|refine Ext.put ?_ (by omega) (by omega)|exact Ext.up (by assumption) (by omega)|exact Ext.nx (by assumption) (by omega))) (fun n' hn' hc => ?_) (fun n' hn' hc => ?_) <;> (try (exfalso; omega))
       | refine r_calld (by simp (disch:=first|decide|(simp only[zF,zG];decide)) only [zA,zB,zC,zD,zE,zF,zG,zH,zI,zJ,zK,HV.cells,fl0,fl2,flS,flS1,flI1,flU1,flU2,flF]; try exact rfl) (by simp (disch:=first|decide|(simp only[zF,zG];decide)) only [List.map_cons,List.map_nil,List.nil_append,List.cons_append,List.append_nil,zA,zB,zC,zD,zE,zF,zG,zH,zI,zJ,zK,HV.cells,fl0,fl2,flS,flS1,flI1,flU1,flU2,flF]; first|done|exact rfl) (cO _ _ _ (by repeat' first|assumption|refine Ext.put ?_ (by omega) (by omega)|exact Ext.up (by assumption) (by omega)|exact Ext.nx (by assumption) (by omega))) (fun n' hn' hc => ?_) (fun n' hn' hc => ?_) <;> (try (exfalso; omega))
       | fail
      all_goals first
        | exact absurd ⟨by omega, by assumption, by assumption⟩ hk
        | (refine fin_r (by simp only [zL,zM]) (by simp (disch:=first|decide|(simp only[zF,zG];decide)) only [zA,zB,zC,zD,zE,zF,zG,zH,zI,zJ,zK,HV.cells,fl0,fl2,flS,flS1,flI1,flU1,flU2,flF]; try exact rfl) (sc_flat rfl (by dsimp only; omega) ?_); rfl)
  · have e : chkT l = 3 := if_neg h8
    rw [e]
    repeat' first
     | refine r_nil ?_
     | refine th_n ?_
     | refine th_r ?_
     | refine w_seq ?_
     | refine w_reg ?_
     | refine w_ret ?_
     | refine w_t (by simp (disch:=first|decide|(simp only[zF,zG];decide)) only [zA,zB,zC,zD,zE,zF,zG,zH,zI,zJ,zK,HV.cells,fl0,fl2,flS,flS1,flI1,flU1,flU2,flF]; first|done|exact rfl) ?_
     | refine r_move (by simp (disch:=first|decide|(simp only[zF,zG];decide)) only [zA,zB,zC,zD,zE,zF,zG,zH,zI,zJ,zK,HV.cells,fl0,fl2,flS,flS1,flI1,flU1,flU2,flF]; try exact rfl) ?_
     | refine r_gtr (by simp (disch:=first|decide|(simp only[zF,zG];decide)) only [zA,zB,zC,zD,zE,zF,zG,zH,zI,zJ,zK,HV.cells,fl0,fl2,flS,flS1,flI1,flU1,flU2,flF]; try exact rfl) (by simp (disch:=first|decide|(simp only[zF,zG];decide)) only [zA,zB,zC,zD,zE,zF,zG,zH,zI,zJ,zK,HV.cells,fl0,fl2,flS,flS1,flI1,flU1,flU2,flF]; try exact rfl) (fun hc => ?_) (fun hc => ?_) <;> (try (exfalso; omega))
     | refine r_len (by simp (disch:=first|decide|(simp only[zF,zG];decide)) only [zA,zB,zC,zD,zE,zF,zG,zH,zI,zJ,zK,HV.cells,fl0,fl2,flS,flS1,flI1,flU1,flU2,flF]; try exact rfl) ?_
     | fail
    refine fin_r (by simp only [zL,zM]) (by simp (disch:=first|decide|(simp only[zF,zG];decide)) only [zA,zB,zC,zD,zE,zF,zG,zH,zI,zJ,zK,HV.cells,fl0,fl2,flS,flS1,flI1,flU1,flU2,flF]; try exact rfl) (sc_flat rfl (by dsimp only; omega) ?_); rfl
end Go.Hx

/- More functions of the program: the reference's halving, through scales. -/
namespace Go.Hx
set_option maxRecDepth 100000
noncomputable def L4 : LFunc := ⟨121, (.seq (.reg [⟨(.some 3), (.box (.t 1)), .none, []⟩, ⟨(.some 4), (.move (.c (.bool .false))), .none, []⟩]) (.seq (.seq (.reg [⟨(.some 13), (.move (.t 0)), .none, []⟩, ⟨(.some 14), (.len .slice (.t 13)), .none, []⟩, ⟨(.some 15), (.bin .gtr (.t 14) (.c (.int .i64 11))), .none, []⟩]) (.cond (.t 15) (.seq (.reg [⟨(.some 16), (.call (.c (.func 22 [] [])) []), .none, []⟩, ⟨(.some 4), (.move (.t 16)), .none, []⟩]) .ret) .skip)) (.seq (.draw 9 [⟨(.some 18), (.move (.t 0)), .none, []⟩, ⟨(.some 19), (.call (.c (.func 25 [] [])) [(.t 18)]), .none, []⟩, ⟨(.some 20), (.load .true 2 (.t 3)), .none, []⟩, ⟨(.some 21), (.call (.c (.func 19 [] [])) [(.t 20)]), .none, [1]⟩, ⟨(.some 22), (.call (.c (.func 24 [] [])) [(.t 19), (.t 21)]), .none, [3, 1]⟩, ⟨(.some 17), (.move (.t 22)), .none, [4, 3, 1]⟩, ⟨(.some 23), (.extract (.t 17) 0), .none, [4, 3, 1]⟩, ⟨(.some 24), (.extract (.t 17) 1), .none, [4, 3, 1]⟩, ⟨(.some 5), (.alloc [(.int .i64 0), (.int .i64 0)]), .none, []⟩, ⟨.none, (.store 2 (.t 5) (.t 23)), .none, [8, 4, 3, 1]⟩, ⟨(.some 6), (.move (.t 24)), .none, [8, 4, 3, 1]⟩]) (.seq (.reg [⟨(.some 25), (.move (.t 0)), .none, []⟩, ⟨(.some 26), (.load .true 2 (.t 3)), .none, []⟩, ⟨(.some 27), (.call (.c (.func 21 [] [])) [(.t 25), (.t 26)]), .none, []⟩, ⟨(.some 7), (.move (.t 27)), .none, []⟩]) (.seq (.seq (.reg [⟨(.some 28), (.move (.t 7)), .none, []⟩, ⟨(.some 29), (.eq (.cell (.i .i64)) .true (.t 28) (.c (.int .i64 3))), .none, []⟩, ⟨(.some 30), (.move (.t 29)), .none, []⟩, ⟨(.some 31), (.move (.t 0)), (.some (30, .true)), []⟩, ⟨(.some 32), (.len .slice (.t 31)), (.some (30, .true)), []⟩, ⟨(.some 33), (.eq (.cell (.i .i64)) .false (.t 32) (.c (.int .i64 0))), (.some (30, .true)), []⟩, ⟨(.some 34), (.pick (.t 30) (.t 33) (.c (.bool .false))), .none, []⟩]) (.cond (.t 34) (.reg [⟨(.some 7), (.move (.c (.int .i64 1))), .none, []⟩]) .skip)) (.seq (.reg [⟨(.some 8), (.alloc [(.int .i64 0), (.int .i64 0)]), .none, []⟩]) (.seq (.seq (.reg [⟨(.some 35), (.move (.t 7)), .none, []⟩, ⟨(.some 36), (.eq (.cell (.i .i64)) .false (.t 35) (.c (.int .i64 0))), .none, []⟩]) (.cond (.t 36) (.seq (.reg [⟨(.some 9), (.move (.c (.bool .false))), .none, []⟩]) (.seq (.reg [⟨(.some 38), (.move (.t 0)), .none, []⟩, ⟨(.some 39), (.load .true 2 (.t 3)), .none, []⟩, ⟨(.some 40), (.call (.c (.func 26 [] [])) [(.t 38), (.t 39)]), .none, []⟩, ⟨(.some 37), (.move (.t 40)), .none, []⟩, ⟨(.some 41), (.extract (.t 37) 0), .none, []⟩, ⟨(.some 42), (.extract (.t 37) 1), .none, []⟩, ⟨.none, (.store 2 (.t 8) (.t 41)), .none, []⟩, ⟨(.some 9), (.move (.t 42)), .none, []⟩]) (.seq (.reg [⟨(.some 43), (.move (.t 9)), .none, []⟩, ⟨(.some 44), (.un .not (.t 43)), .none, []⟩]) (.cond (.t 44) (.reg [⟨(.some 45), (.build [(.int .i64 0), (.int .i64 0)] []), .none, []⟩, ⟨(.some 7), (.move (.c (.int .i64 10))), .none, []⟩, ⟨.none, (.store 2 (.t 8) (.t 45)), .none, []⟩]) .skip)))) .skip)) (.seq (.seq (.draw 7 [⟨(.some 46), (.move (.t 6)), .none, []⟩, ⟨(.some 47), (.move (.t 7)), .none, []⟩, ⟨(.some 48), (.eq (.cell (.i .i64)) .true (.t 46) (.t 47)), .none, []⟩, ⟨(.some 49), (.move (.t 48)), .none, []⟩, ⟨(.some 50), (.load .true 2 (.t 5)), (.some (49, .false)), []⟩, ⟨(.some 51), (.load .true 2 (.t 8)), (.some (49, .false)), []⟩, ⟨(.some 52), (.call (.c (.func 19 [] [])) [(.t 51)]), (.some (49, .false)), []⟩, ⟨(.some 53), (.eq (.row [(.i .i64), (.i .i64)]) .true (.t 50) (.t 52)), (.some (49, .false)), [6]⟩, ⟨(.some 54), (.pick (.t 49) (.c (.bool .true)) (.t 53)), .none, [6]⟩]) (.cond (.t 54) (.seq (.reg [⟨(.some 4), (.move (.c (.bool .false))), .none, []⟩]) .ret) .skip)) (.seq (.seq (.reg [⟨(.some 55), (.move (.t 0)), .none, []⟩, ⟨(.some 56), (.len .slice (.t 55)), .none, []⟩, ⟨(.some 57), (.bin .lss (.t 56) (.c (.int .i64 2))), .none, []⟩]) (.cond (.t 57) (.seq (.reg [⟨(.some 58), (.call (.c (.func 22 [] [])) []), .none, []⟩, ⟨(.some 4), (.move (.t 58)), .none, []⟩]) .ret) .skip)) (.seq (.draw 15 [⟨(.some 60), (.move (.t 0)), .none, []⟩, ⟨(.some 61), (.indexAddrS 2 (.t 60) (.c (.int .i64 0))), .none, []⟩, ⟨(.some 62), (.load .true 2 (.t 61)), .none, []⟩, ⟨(.some 63), (.call (.c (.func 17 [] [])) [(.t 62)]), .none, []⟩, ⟨(.some 64), (.move (.t 0)), .none, []⟩, ⟨(.some 65), (.indexAddrS 2 (.t 64) (.c (.int .i64 1))), .none, []⟩, ⟨(.some 66), (.load .true 2 (.t 65)), .none, []⟩, ⟨(.some 67), (.call (.c (.func 17 [] [])) [(.t 66)]), .none, [3]⟩, ⟨(.some 68), (.load .true 2 (.t 3)), .none, []⟩, ⟨(.some 69), (.call (.c (.func 19 [] [])) [(.t 68)]), .none, [7, 3]⟩, ⟨(.some 70), (.call (.c (.func 27 [] [])) [(.t 63), (.t 67), (.t 69)]), .none, [9, 7, 3]⟩, ⟨(.some 59), (.move (.t 70)), .none, [10, 9, 7, 3]⟩, ⟨(.some 71), (.extract (.t 59) 0), .none, [10, 9, 7, 3]⟩, ⟨(.some 72), (.extract (.t 59) 1), .none, [10, 9, 7, 3]⟩, ⟨(.some 10), (.alloc [(.int .i64 0), (.int .i64 0)]), .none, []⟩, ⟨.none, (.store 2 (.t 10) (.t 71)), .none, [14, 10, 9, 7, 3]⟩, ⟨(.some 11), (.move (.t 72)), .none, [14, 10, 9, 7, 3]⟩]) (.seq (.seq (.draw 3 [⟨(.some 73), (.move (.t 0)), .none, []⟩, ⟨(.some 74), (.sliceS 2 (.t 73) .none (.some (.c (.int .i64 2)))), .none, []⟩, ⟨(.some 75), (.load .true 2 (.t 3)), .none, []⟩, ⟨(.some 76), (.call (.c (.func 21 [] [])) [(.t 74), (.t 75)]), .none, []⟩, ⟨(.some 7), (.move (.t 76)), .none, [3]⟩]) (.seq (.reg [⟨(.some 77), (.move (.t 7)), .none, []⟩, ⟨(.some 78), (.eq (.cell (.i .i64)) .true (.t 77) (.c (.int .i64 0))), .none, []⟩]) (.cond (.t 78) (.seq (.reg [⟨(.some 79), (.move (.t 11)), .none, []⟩, ⟨(.some 80), (.move (.t 7)), .none, []⟩, ⟨(.some 81), (.eq (.cell (.i .i64)) .false (.t 79) (.t 80)), .none, []⟩, ⟨(.some 82), (.move (.t 81)), .none, []⟩, ⟨(.some 83), (.load .true 2 (.t 10)), (.some (82, .true)), []⟩, ⟨(.some 84), (.build [(.int .i64 0), (.int .i64 0)] []), (.some (82, .true)), []⟩, ⟨(.some 85), (.eq (.row [(.i .i64), (.i .i64)]) .false (.t 83) (.t 84)), (.some (82, .true)), []⟩, ⟨(.some 86), (.pick (.t 82) (.t 85) (.c (.bool .false))), .none, []⟩, ⟨(.some 87), (.move (.t 86)), .none, []⟩, ⟨(.some 88), (.call (.c (.func 22 [] [])) []), (.some (87, .true)), []⟩, ⟨(.some 89), (.pick (.t 87) (.t 88) (.c (.bool .false))), .none, []⟩, ⟨(.some 4), (.move (.t 89)), .none, []⟩]) .ret) .skip))) (.seq (.seq (.draw 9 [⟨(.some 90), (.move (.t 0)), .none, []⟩, ⟨(.some 91), (.indexAddrS 2 (.t 90) (.c (.int .i64 0))), .none, []⟩, ⟨(.some 92), (.load .true 2 (.t 91)), .none, []⟩, ⟨(.some 93), (.move (.t 0)), .none, []⟩, ⟨(.some 94), (.indexAddrS 2 (.t 93) (.c (.int .i64 1))), .none, []⟩, ⟨(.some 95), (.load .true 2 (.t 94)), .none, []⟩, ⟨(.some 96), (.load .true 2 (.t 3)), .none, []⟩, ⟨(.some 97), (.call (.c (.func 28 [] [])) [(.t 92), (.t 95), (.t 96)]), .none, []⟩, ⟨(.some 12), (.alloc [(.int .i64 0), (.int .i64 0)]), .none, []⟩, ⟨.none, (.store 2 (.t 12) (.t 97)), .none, [8, 7]⟩]) (.seq (.reg [⟨(.some 98), (.load .true 2 (.t 12)), .none, []⟩, ⟨(.some 99), (.call (.c (.func 29 [] [])) [(.t 98)]), .none, []⟩]) (.cond (.t 99) (.seq (.draw 6 [⟨(.some 100), (.move (.t 11)), .none, []⟩, ⟨(.some 101), (.eq (.cell (.i .i64)) .false (.t 100) (.c (.int .i64 0))), .none, []⟩, ⟨(.some 102), (.move (.t 101)), .none, []⟩, ⟨(.some 103), (.load .true 2 (.t 10)), (.some (102, .true)), []⟩, ⟨(.some 104), (.load .true 2 (.t 12)), (.some (102, .true)), []⟩, ⟨(.some 105), (.call (.c (.func 19 [] [])) [(.t 104)]), (.some (102, .true)), []⟩, ⟨(.some 106), (.eq (.row [(.i .i64), (.i .i64)]) .false (.t 103) (.t 105)), (.some (102, .true)), [5]⟩, ⟨(.some 107), (.pick (.t 102) (.t 106) (.c (.bool .false))), .none, [5]⟩, ⟨(.some 108), (.move (.t 107)), .none, [5]⟩, ⟨(.some 109), (.call (.c (.func 22 [] [])) []), (.some (108, .true)), [5]⟩, ⟨(.some 110), (.pick (.t 108) (.t 109) (.c (.bool .false))), .none, [9, 5]⟩, ⟨(.some 4), (.move (.t 110)), .none, [9, 5]⟩]) .ret) .skip))) (.seq (.reg [⟨(.some 111), (.move (.t 11)), .none, []⟩, ⟨(.some 112), (.eq (.cell (.i .i64)) .false (.t 111) (.c (.int .i64 10))), .none, []⟩, ⟨(.some 113), (.move (.t 112)), .none, []⟩, ⟨(.some 114), (.load .true 2 (.t 10)), (.some (113, .true)), []⟩, ⟨(.some 115), (.build [(.int .i64 0), (.int .i64 0)] []), (.some (113, .true)), []⟩, ⟨(.some 116), (.eq (.row [(.i .i64), (.i .i64)]) .false (.t 114) (.t 115)), (.some (113, .true)), []⟩, ⟨(.some 117), (.pick (.t 113) (.t 116) (.c (.bool .false))), .none, []⟩, ⟨(.some 118), (.move (.t 117)), .none, []⟩, ⟨(.some 119), (.call (.c (.func 22 [] [])) []), (.some (118, .true)), []⟩, ⟨(.some 120), (.pick (.t 118) (.t 119) (.c (.bool .false))), .none, []⟩, ⟨(.some 4), (.move (.t 120)), .none, []⟩]) .ret))))))))))))), [(.t 4)], .false, .none⟩
end Go.Hx

/- Layer 3: what can stand, by the reference: halving. -/
namespace Go.Hx
set_option linter.unusedSimpArgs false
set_option linter.unusedVariables false
set_option maxRecDepth 20000
set_option maxHeartbeats 4000000
attribute [local irreducible] W R C thenH inBlockH
--dropu
def RW (r : Int × Int) : Prop := r.1 ≤ r.2 ∧ -20000000000 ≤ r.1 ∧ r.2 ≤ 20000000000
theorem ROk.rw {r : Int × Int} (h : ROk r.1 r.2) : RW r := by unfold ROk at h; unfold RW; omega
end Go.Hx

/- Layer 3: through scales, by the reference. -/
namespace Go.Hx
set_option linter.unusedSimpArgs false
set_option linter.unusedVariables false
set_option maxRecDepth 20000
set_option maxHeartbeats 4000000
attribute [local irreducible] W R C thenH inBlockH
--dropu
end Go.Hx

/- Layer 3: the law of P3.2 and P3.3, behind its first part. -/
namespace Go.Hx
set_option linter.unusedSimpArgs false
set_option linter.unusedVariables false
set_option maxRecDepth 20000
set_option maxHeartbeats 4000000
attribute [local irreducible] W R C thenH inBlockH
--dropu
section
variable {lp : Nat → Option LFunc} {fl : Nat} {N : HAct → HS → Prop} {a : HAct} {h : Tr HBlk} {nx : Nat} {os : List LOper} {dst : Option Nat} {anc : List Nat}
theorem r_ixs0 {size : Nat} {x : Lo} {b o n c : Nat} {σ : HS} (hx : a.ev x = .slice (some (b, o)) n c) (hj : 0 < n) (hn : R lp fl os N (a.put dst (.ptr (some (b, o + 0 * size)))) σ) : R lp fl (⟨dst, .indexAddrS size x (.c (.int .i64 0)), none, anc⟩ :: os) N a σ :=
  r_ixs (j := 0) hx rfl hj hn
end
end Go.Hx

/- Layer 3: between which pressures a table lies. -/
namespace Go.Hx
set_option linter.unusedSimpArgs false
set_option linter.unusedVariables false
set_option maxRecDepth 20000
set_option maxHeartbeats 4000000
attribute [local irreducible] W R C thenH inBlockH
--dropu
/- 65 -/
theorem c_pressuresOf {fl : Nat} {h : Tr HBlk} {nx : Nat} (hd : D h nx) {p : Option (Nat × Nat)} {l : List (Int × Int)} {n cp : Nat} (hn : n = l.length) (h0 : 0 < l.length) (hlen : l.length < 1000000000) (hrow : Row renc 2 h nx p l) :
    C LW fl 65 [.slice p n cp] ⟨h, nx⟩ (Sc (· = .agg [i64 l[0].1, i64 l[l.length - 1].1]) ⟨h, nx⟩) := by
  subst hn
  obtain ⟨b, o, cs, kk, rfl, hb, hg, hcs⟩ := hrow (by intro e; rw [e] at h0; simp at h0)
  have e0 := take_at (hcs 0 _ (List.getElem?_eq_getElem h0)) (j := 0) (v := i64 l[0].1) rfl
  have e1 := take_at (hcs (l.length - 1) _ (List.getElem?_eq_getElem (show l.length - 1 < l.length by omega))) (j := 0) (v := i64 l[l.length - 1].1) rfl
  have ej : ((l.length : Nat) : Int) - 1 = ((l.length - 1 : Nat) : Int) := by omega
  refine c_in lw65 rfl rfl rfl ?_
  dsimp only [L65]
  repeat' first
   | refine r_nil ?_
   | refine th_n ?_
   | refine w_seq ?_
   | refine w_reg ?_
   | refine w_ret ?_
   | refine r_move (by simp (disch:=first|decide|(simp only[zF,zG,hg, ej];decide)) only [zA,zB,zC,zD,zE,zF,zG,zH,zI,zJ,zK,HV.cells,fl0,fl2,flS,flS1,flI1,flU1,flU2,flF,hg, ej]; try exact rfl) ?_
   | refine r_fa (by simp (disch:=first|decide|(simp only[zF,zG,hg, ej];decide)) only [zA,zB,zC,zD,zE,zF,zG,zH,zI,zJ,zK,HV.cells,fl0,fl2,flS,flS1,flI1,flU1,flU2,flF,hg, ej]; try exact rfl) ?_
   | refine r_ld1 (by simp (disch:=first|decide|(simp only[zF,zG,hg, ej];decide)) only [zA,zB,zC,zD,zE,zF,zG,zH,zI,zJ,zK,HV.cells,fl0,fl2,flS,flS1,flI1,flU1,flU2,flF,hg, ej]; try exact rfl) (by first|assumption|(simp (disch:=omega) only [get_same,get_other,hg, ej]; first|done|exact rfl)) (by first|assumption|exact ow2 _ _ _ _|exact ow3 _ _ _ _ _ _|rfl|(simp only [zI,zJ,HV.cells,hg, ej]; exact rfl)) ?_
   | refine r_alloc ?_
   | refine r_st (cs' := _) (by simp (disch:=first|decide|(simp only[zF,zG,hg, ej];decide)) only [zA,zB,zC,zD,zE,zF,zG,zH,zI,zJ,zK,HV.cells,fl0,fl2,flS,flS1,flI1,flU1,flU2,flF,hg, ej]; try exact rfl) (by simp (disch:=first|decide|(simp only[zF,zG,hg, ej];decide)) only [zA,zB,zC,zD,zE,zF,zG,zH,zI,zJ,zK,HV.cells,fl0,fl2,flS,flS1,flI1,flU1,flU2,flF,hg, ej]; try exact rfl) (by first|assumption|(simp (disch:=omega) only [get_same,get_other,hg, ej]; first|done|exact rfl)) (by exact True.intro) (by rfl) (by rfl) (by first|assumption|exact ow2 _ _ _ _|exact ow3 _ _ _ _ _ _|rfl|(simp only [zI,zJ,HV.cells,hg, ej]; exact rfl)) (by omega) ?_
   | refine r_sub (by simp (disch:=first|decide|(simp only[zF,zG,hg, ej];decide)) only [zA,zB,zC,zD,zE,zF,zG,zH,zI,zJ,zK,HV.cells,fl0,fl2,flS,flS1,flI1,flU1,flU2,flF,hg, ej]; try exact rfl) (by simp (disch:=first|decide|(simp only[zF,zG,hg, ej];decide)) only [zA,zB,zC,zD,zE,zF,zG,zH,zI,zJ,zK,HV.cells,fl0,fl2,flS,flS1,flI1,flU1,flU2,flF,hg, ej]; try exact rfl) (by omega) (by omega) ?_
   | refine r_len (by simp (disch:=first|decide|(simp only[zF,zG,hg, ej];decide)) only [zA,zB,zC,zD,zE,zF,zG,zH,zI,zJ,zK,HV.cells,fl0,fl2,flS,flS1,flI1,flU1,flU2,flF,hg, ej]; try exact rfl) ?_
   | refine r_ixs (by simp (disch:=first|decide|(simp only[zF,zG,hg, ej];decide)) only [zA,zB,zC,zD,zE,zF,zG,zH,zI,zJ,zK,HV.cells,fl0,fl2,flS,flS1,flI1,flU1,flU2,flF,hg, ej]; try exact rfl) (by simp (disch:=first|decide|(simp only[zF,zG,hg, ej];decide)) only [zA,zB,zC,zD,zE,zF,zG,zH,zI,zJ,zK,HV.cells,fl0,fl2,flS,flS1,flI1,flU1,flU2,flF,hg, ej]; try exact rfl) (by omega) ?_
   | refine r_build (by simp (disch:=first|decide|(simp only[zF,zG,hg, ej];decide)) only [evParts,List.map_cons,List.map_nil,List.nil_append,List.cons_append,List.append_nil,zA,zB,zC,zD,zE,zF,zG,zH,zI,zJ,zK,HV.cells,fl0,fl2,flS,flS1,flI1,flU1,flU2,flF,hg, ej]; try exact rfl) ?_
   | refine w_draw (by omega) (by (repeat' first|assumption|refine D.upd ?_ (by omega)|exact D.mono (by assumption) (by omega)) <;> fail) ?_
   | refine d_rest rfl ?_
   | refine d_one rfl rfl ?_
   | refine d_next (by omega) ?_
   | fail
  exact fin_m (by simp only [zL,zM]) (res_c (by simp (disch:=first|decide|(simp only[zF,zG];decide)) only [zA,zB,zC,zD,zE,zF,zG,zH,zI,zJ,zK,HV.cells,fl0,fl2,flS,flS1,flI1,flU1,flU2,flF]; try exact rfl) (by first|assumption|(simp (disch:=omega) only [get_same,get_other]; first|done|exact rfl)) rfl res_nil) (sc_flat rfl (by dsimp only; omega) rfl)
end Go.Hx

/- Walks of the plain machine: a range over a function: the call that it is, and each round that 'yield' runs. -/
namespace Go.Hx
variable {lp : Nat → Option LFunc} {fl : Nat} {Q : HExit → HAct → HS → Prop} {N : HAct → HS → Prop} {a : HAct} {h : Tr HBlk} {nx : Nat} {os : List LOper} {dst : Option Nat} {anc : List Nat}
theorem w_range {f : Lo} {ps : List Nat} {assign body : LCode} {g : Nat} {first captured : List HV} {K : HV → HS → Prop} (hf : a.ev f = .func g first captured)
    (hc : C lp fl g (first ++ [.yield (nx + 1)] ++ captured) ⟨(h.set nx (some .marks)).set (nx + 1) (some (.loop ⟨.ready, .normal, a.nt, a.tmps, ps, assign, body, nx⟩)), nx + 1 + 1⟩ K)
    (hk : ∀ v σ', K v σ' → ∃ r, σ'.h.get (nx + 1) = some (.loop r) ∧ r.state ≠ .busy ∧ fl ≤ nx + 1 ∧ Q r.pending { a with defers := [nx] ++ a.defers } ⟨σ'.h.set (nx + 1) (some (.loop { r with state := .exhausted })), σ'.nx⟩) :
    W lp fl none (.rangeFunc f ps assign body) Q a ⟨h, nx⟩ := by
  obtain ⟨n, v, σ', h1, h2⟩ := hc
  obtain ⟨r, g1, g2, g3, g4⟩ := hk v σ' h2
  refine ⟨n + 1, r.pending, _, _, ?_, g4⟩
  show xRange lp (exec lp n) fl none f ps assign body a ⟨h, nx⟩ = _
  unfold xRange
  rw [hf]
  show (match callF lp (exec lp n) fl g (first ++ [.yield (nx + 1)] ++ captured) ⟨(h.set nx (some .marks)).set (nx + 1) (some (.loop ⟨.ready, .normal, a.nt, a.tmps, ps, assign, body, nx⟩)), nx + 1 + 1⟩ with | some (_, σ') => endLoopH fl (nx + 1) [nx] a σ' | none => none) = _
  rw [h1]
  show endLoopH fl (nx + 1) [nx] a σ' = _
  unfold endLoopH
  rw [g1]
  have b : Nat.ble fl (nx + 1) = true := ble_t' g3
  cases e : r.state with
  | busy => exact absurd e g2
  | ready => simp only [e, b, cond_true]; rfl
  | done => simp only [e, b, cond_true]; rfl
  | exhausted => simp only [e, b, cond_true]; rfl
/-- Behind the body of a round. -/
def YB (lp : Nat → Option LFunc) (fl l : Nat) (os : List LOper) (N : HAct → HS → Prop) (a : HAct) (dst : Option Nat) : HExit → HAct → HS → Prop := fun e _ σ2 =>
  ∃ r2, σ2.h.get l = some (.loop r2) ∧ (e = .normal → R lp fl os N (a.put dst (.bool true)) ⟨σ2.h.set l (some (.loop { r2 with state := .ready, pending := .normal })), σ2.nx⟩) ∧
    (e ≠ .normal → R lp fl os N (a.put dst (.bool false)) ⟨σ2.h.set l (some (.loop { r2 with state := .done, pending := e })), σ2.nx⟩)
/-- Behind what a round's variables are given. -/
def YA (lp : Nat → Option LFunc) (fl l : Nat) (body : LCode) (os : List LOper) (N : HAct → HS → Prop) (a : HAct) (dst : Option Nat) : HExit → HAct → HS → Prop := fun e a1 σ1 =>
  e = .normal ∧ ∃ r1, σ1.h.get l = some (.loop r1) ∧ r1.state = .ready ∧ fl ≤ l ∧ W lp fl (some l) body (YB lp fl l os N a dst) a1 ⟨σ1.h.set l (some (.loop { r1 with state := .busy })), σ1.nx⟩
theorem r_yield {f : Lo} {xs : List Lo} {l : Nat} {r : HLoop} {args : List HV} {tmps : Tr HV} (hf : a.ev f = .yield l) (ha : xs.map a.ev = args) (hg : h.get l = some (.loop r)) (hz : zipPut r.nt r.tmps r.params args = some tmps)
    (hw : W lp fl (some l) r.assign (YA lp fl l r.body os N a dst) ⟨r.nt, tmps, []⟩ ⟨h, nx⟩) : R lp fl (⟨dst, .call f xs, none, anc⟩ :: os) N a ⟨h, nx⟩ := by
  obtain ⟨n1, e1, a1, σ1, w1, rfl, r1, g1, g2, g3, n2, e2, a2, σ2, w2, r2, q1, q2, q3⟩ := hw
  have b : Nat.ble fl l = true := ble_t' g3
  have key : ∀ m, n1 ≤ m → n2 ≤ m → opH lp (exec lp m) fl (.call f xs) a ⟨h, nx⟩ = endRoundH l e2 σ2 := fun m m1 m2 => by
    show callH lp (exec lp m) fl (a.ev f) (xs.map a.ev) ⟨h, nx⟩ = _
    rw [hf, ha]
    show roundH (exec lp m) fl l args ⟨h, nx⟩ = _
    unfold roundH
    simp only [hg, hz]
    rw [exec_mon m1 _ _ _ _ _ _ w1]
    simp only
    have eb : beginRoundH fl l σ1 = some ⟨σ1.h.set l (some (.loop { r1 with state := .busy })), σ1.nx⟩ := by
      unfold beginRoundH
      simp only [g1, g2, b, cond_true]
      rfl
    rw [eb]
    simp only
    rw [exec_mon m2 _ _ _ _ _ _ w2]
  by_cases he : e2 = .normal
  · obtain ⟨n3, a3, σ3, w3, w4⟩ := q2 he
    subst he
    refine ⟨max n1 (max n2 n3), a3, σ3, ?_, w4⟩
    have k := key (max n1 (max n2 n3)) (by omega) (by omega)
    have ee : endRoundH l .normal σ2 = some (.bool true, ⟨σ2.h.set l (some (.loop { r2 with state := .ready, pending := .normal })), σ2.nx⟩) := by
      unfold endRoundH
      simp only [q1]
      rfl
    rw [ee] at k
    unfold runOps stepOp
    show (match (match opH lp (exec lp (max n1 (max n2 n3))) fl (.call f xs) a ⟨h, nx⟩ with | some (v, σ) => some (a.put dst v, σ) | none => none) with | some (a, σ) => runOps lp (exec lp (max n1 (max n2 n3))) fl os a σ | none => none) = _
    rw [k]
    exact runOps_mon (exec_mon (by omega)) w3
  · obtain ⟨n3, a3, σ3, w3, w4⟩ := q3 he
    refine ⟨max n1 (max n2 n3), a3, σ3, ?_, w4⟩
    have k := key (max n1 (max n2 n3)) (by omega) (by omega)
    have ee : endRoundH l e2 σ2 = some (.bool false, ⟨σ2.h.set l (some (.loop { r2 with state := .done, pending := e2 })), σ2.nx⟩) := by
      unfold endRoundH
      simp only [q1]
      cases e2 with
      | normal => exact absurd rfl he
      | exit i => rfl
      | ret => rfl
    rw [ee] at k
    unfold runOps stepOp
    show (match (match opH lp (exec lp (max n1 (max n2 n3))) fl (.call f xs) a ⟨h, nx⟩ with | some (v, σ) => some (a.put dst v, σ) | none => none) with | some (a, σ) => runOps lp (exec lp (max n1 (max n2 n3))) fl os a σ | none => none) = _
    rw [k]
    exact runOps_mon (exec_mon (by omega)) w3
/-- Leaving behind a range over a function: its mark goes. -/
theorem leave_mark {res : List LRes} {vs : List HV} {m : Nat} (hd : a.defers = [m]) (hg : h.get m = some .marks) (hm : fl ≤ m) (hr : resH a ⟨h.set m none, nx⟩ res = some vs) : leaveH fl a res ⟨h, nx⟩ = some (oneOf vs, ⟨h.set m none, nx⟩) := by
  unfold leaveH
  rw [hd]
  have b : Nat.ble fl m = true := ble_t' hm
  have e : takeMarks fl [m] ⟨h, nx⟩ = some ⟨h.set m none, nx⟩ := by
    unfold takeMarks
    simp only [hg, b, cond_true]
    rfl
  rw [e]
  simp only [hr]
end Go.Hx

/- Layer 3: the function that ranges over the steps around a pressure. -/
namespace Go.Hx
set_option linter.unusedSimpArgs false
set_option linter.unusedVariables false
set_option maxRecDepth 20000
set_option maxHeartbeats 4000000
attribute [local irreducible] W R C thenH inBlockH
--dropu
theorem keepV_ptr {h1 h : Tr HBlk} {nx b o d : Nat} {cs : List HV} {bk : BK} (hg : h1.get b = some (.cells cs bk)) (hs : b < nx → h.get b = h1.get b) : (keepV h1 nx (keepD h1 nx d) h (.ptr (some (b, o)))).get b = h1.get b := by
  show (bif Nat.blt b nx then h else (match h1.get b with | some (.cells cs bk) => keepD h1 nx d cs (h.set b (some (.cells cs bk))) | _ => h)).get b = _
  cases e : Nat.blt b nx with
  | true => rw [Nat.blt_eq] at e; exact hs e
  | false =>
    simp only [cond_false, hg]
    rw [← hg]
    exact keepD_has d cs _ (by rw [get_same])
/-- A function with two places that it has captured is kept with them. -/
theorem gc_func2 {h0 h : Tr HBlk} {n0 nx f b1 b2 o1 o2 : Nat} {c1 c2 : List HV} {k1 k2 : BK} (hd0 : D h0 n0) (e : Ext h0 n0 h nx) (h1 : n0 ≤ b1) (h2 : n0 ≤ b2) (g1 : h.get b1 = some (.cells c1 k1)) (g2 : h.get b2 = some (.cells c2 k2)) :
    ∃ h', gcH ⟨h0, n0⟩ ⟨h, nx⟩ (.func f [] [.ptr (some (b1, o1)), .ptr (some (b2, o2))]) = ⟨h', nx⟩ ∧ Ext h0 n0 h' nx ∧ h'.get b1 = some (.cells c1 k1) ∧ h'.get b2 = some (.cells c2 k2) := by
  obtain ⟨h', q1, q2⟩ := gc_ext hd0 e (.func f [] [.ptr (some (b1, o1)), .ptr (some (b2, o2))])
  have e1 : h' = keepD h n0 5 [.func f [] [.ptr (some (b1, o1)), .ptr (some (b2, o2))]] h0 := by
    have : (⟨h', nx⟩ : HS).h = (gcH ⟨h0, n0⟩ ⟨h, nx⟩ (.func f [] [.ptr (some (b1, o1)), .ptr (some (b2, o2))])).h := by rw [q1]
    exact this
  have e2 : h' = keepV h n0 (keepD h n0 3) (keepV h n0 (keepD h n0 3) h0 (.ptr (some (b1, o1)))) (.ptr (some (b2, o2))) := by rw [e1]; rfl
  refine ⟨h', q1, q2, ?_, ?_⟩
  · rw [e2, ← g1]
    exact keepV_has (keepD_has 3) (keepV_ptr g1 fun hlt => by omega) _
  · rw [e2, ← g2]
    exact keepV_ptr g2 fun hlt => by omega
/- 90 -/
theorem c_around {fl : Nat} {h : Tr HBlk} {nx : Nat} (hd : D h nx) {p : Option (Nat × Nat)} {n cp : Nat} {x : Int} :
    C LW fl 90 [.slice p n cp, i64 x] ⟨h, nx⟩ (fun v σ' => ∃ h' n', v = .func 102 [] [.ptr (some (nx, 0)), .ptr (some (nx + 1, 0))] ∧ σ' = ⟨h', n'⟩ ∧ Ext h nx h' n' ∧ nx + 2 ≤ n' ∧ h'.get nx = some (.cells [.slice p n cp] .exact) ∧ h'.get (nx + 1) = some (.cells [i64 x] .exact)) := by
  refine c_in lw90 rfl rfl rfl ?_
  dsimp only [L90]
  repeat' first
   | refine r_nil ?_
   | refine th_n ?_
   | refine w_seq ?_
   | refine w_reg ?_
   | refine w_ret ?_
   | refine r_move (by simp (disch:=first|decide|(simp only[zF,zG];decide)) only [zA,zB,zC,zD,zE,zF,zG,zH,zI,zJ,zK,HV.cells,fl0,fl2,flS,flS1,flI1,flU1,flU2,flF]; try exact rfl) ?_
   | refine r_box (by simp (disch:=first|decide|(simp only[zF,zG];decide)) only [zA,zB,zC,zD,zE,zF,zG,zH,zI,zJ,zK,HV.cells,fl0,fl2,flS,flS1,flI1,flU1,flU2,flF]; try exact rfl) ?_
   | refine r_mf (by simp (disch:=first|decide|(simp only[zF,zG];decide)) only [List.map_cons,List.map_nil,List.nil_append,List.cons_append,List.append_nil,zA,zB,zC,zD,zE,zF,zG,zH,zI,zJ,zK,HV.cells,fl0,fl2,flS,flS1,flI1,flU1,flU2,flF]; first|done|exact rfl) (by simp (disch:=first|decide|(simp only[zF,zG];decide)) only [List.map_cons,List.map_nil,List.nil_append,List.cons_append,List.append_nil,zA,zB,zC,zD,zE,zF,zG,zH,zI,zJ,zK,HV.cells,fl0,fl2,flS,flS1,flI1,flU1,flU2,flF]; first|done|exact rfl) ?_
   | fail
  refine fin_r (by simp only [zL,zM]) (by simp (disch:=first|decide|(simp only[zF,zG];decide)) only [zA,zB,zC,zD,zE,zF,zG,zH,zI,zJ,zK,HV.cells,fl0,fl2,flS,flS1,flI1,flU1,flU2,flF]; try exact rfl) ?_
  obtain ⟨h', g1, g2, g3, g4⟩ := gc_func2 (f := 102) (o1 := 0) (o2 := 0) (b1 := nx) (b2 := nx + 1) (c1 := [.slice p n cp]) (c2 := [i64 x]) (k1 := .exact) (k2 := .exact) hd (h := (h.set nx (some (.cells [.slice p n cp] .exact))).set (nx + 1) (some (.cells [i64 x] .exact))) (nx := nx + 1 + 1) (by repeat' first|assumption|refine Ext.put ?_ (by omega) (by omega)|exact Ext.up (by assumption) (by omega)|exact Ext.nx (by assumption) (by omega)) (by omega) (by omega) (by first|assumption|(simp (disch:=omega) only [get_same,get_other]; first|done|exact rfl)) (by first|assumption|(simp (disch:=omega) only [get_same,get_other]; first|done|exact rfl))
  exact ⟨h', nx + 1 + 1, rfl, g1, g2, by omega, g3, g4⟩
end Go.Hx

/- Layer 3: the range over the steps around a pressure, round by round. -/
namespace Go.Hx
set_option linter.unusedSimpArgs false
set_option linter.unusedVariables false
set_option maxRecDepth 20000
set_option maxHeartbeats 4000000
attribute [local irreducible] W R C thenH inBlockH
--dropu
section
variable {lp : Nat → Option LFunc} {fl : Nat} {N : HAct → HS → Prop} {a : HAct} {h : Tr HBlk} {nx : Nat} {os : List LOper} {dst : Option Nat} {anc : List Nat}
theorem r_slB {size k i j : Nat} {x y z : Lo} {b o n c : Nat} {σ : HS} (hx : a.ev x = .slice (some (b, o)) n c) (hy : a.ev y = i64 ((i : Nat) : Int)) (hz : a.ev z = i64 ((j : Nat) : Int)) (hk : i + k = j) (hj : j ≤ c) (hi : i < c) (hn : R lp fl os N (a.put dst (.slice (some (b, o + i * size)) k (c - i))) σ) : R lp fl (⟨dst, .sliceS size x (some y) (some z), none, anc⟩ :: os) N a σ :=
  r_go (by
    show oSliceS size x (some y) (some z) a σ = some (.slice (some (b, o + i * size)) k (c - i), σ)
    unfold oSliceS
    rw [hx]
    have e : sliceH σ size (.slice (some (b, o)) n c) (some (i64 ((i : Nat) : Int))) (some (i64 ((j : Nat) : Int))) = some (.slice (some (b, o + i * size)) k (c - i)) := by
      show (if i ≤ j ∧ j ≤ c then cutH σ size (some (b, o)) c i j else none) = _
      rw [if_pos ⟨by omega, hj⟩]
      show (if i < c ∨ i = 0 then some (HV.slice (some (b, o + i * size)) (j - i) (c - i)) else _) = _
      rw [if_pos (.inl hi), show j - i = k by omega]
    show (match sliceH σ size (.slice (some (b, o)) n c) (some (a.ev y)) (some (a.ev z)) with | some v => _ | none => _) = _
    rw [hy, hz, e]) hn
end
/-- What a round that is yielded makes of the store. -/
def YS (fl lb : Nat) (args : List HV) (h : Tr HBlk) (nx : Nat) (K : Tr HBlk → Nat → Prop) : Prop := ∀ (os : List LOper) (N : HAct → HS → Prop) (a : HAct) (dst : Option Nat) (f : Lo) (xs : List Lo) (anc : List Nat),
  a.ev f = .yield lb → xs.map a.ev = args → (∀ h' n', K h' n' → R LW fl os N (a.put dst (.bool true)) ⟨h', n'⟩) → R LW fl (⟨dst, .call f xs, none, anc⟩ :: os) N a ⟨h, nx⟩
theorem r_ys {fl lb : Nat} {args : List HV} {h : Tr HBlk} {nx : Nat} {K : Tr HBlk → Nat → Prop} {os : List LOper} {N : HAct → HS → Prop} {a : HAct} {dst : Option Nat} {f : Lo} {xs : List Lo} {anc : List Nat} (hs : YS fl lb args h nx K) (hf : a.ev f = .yield lb) (ha : xs.map a.ev = args)
    (hk : ∀ h' n', K h' n' → R LW fl os N (a.put dst (.bool true)) ⟨h', n'⟩) : R LW fl (⟨dst, .call f xs, none, anc⟩ :: os) N a ⟨h, nx⟩ := hs os N a dst f xs anc hf ha hk
/-- What holds between the rounds. -/
structure Rng (I : Nat → Tr HBlk → Nat → Prop) (fl lb tb xb : Nat) (p : Option (Nat × Nat)) (l : List (Int × Int)) (cp : Nat) (x : Int) : Prop where
  keep : ∀ j h n, I j h n → D h n ∧ fl ≤ n ∧ tb < n ∧ xb < n ∧ h.get tb = some (.cells [.slice p l.length cp] .exact) ∧ h.get xb = some (.cells [i64 x] .exact) ∧ Row renc 2 h n p l
  up : ∀ j h n h' n', I j h n → Ext h n h' n' → I j h' n'
  yes : ∀ j (hj : j + 1 < l.length), l[j].1 ≤ x → x ≤ l[j + 1].1 → ∀ h n, I j h n → YS fl lb [.agg (renc l[j]), .agg (renc l[j + 1])] h n (I (j + 1))
  no : ∀ j (hj : j + 1 < l.length), ¬ (l[j].1 ≤ x ∧ x ≤ l[j + 1].1) → ∀ h n, I j h n → I (j + 1) h n
attribute [irreducible] YS
/- 102 -/
theorem loop102 {I : Nat → Tr HBlk → Nat → Prop} {fl lb tb xb : Nat} {Q : HExit → HAct → HS → Prop} {p : Option (Nat × Nat)} {l : List (Int × Int)} {cp : Nat} {x : Int} (hlen : l.length < 1000000000) (hcp : l.length ≤ cp) (H : Rng I fl lb tb xb p l cp x) :
    ∀ (m j : Nat) (a : HAct) (h : Tr HBlk) (nx : Nat), m + j + 1 = l.length → I j h nx → a.nt = 36 → a.defers = [] → a.tmp 0 = .yield lb → a.tmp 1 = .ptr (some (tb, 0)) → a.tmp 2 = .ptr (some (xb, 0)) → a.tmp 4 = i64 ((j + 1 : Nat) : Int) →
      (∀ a' h' n', I (l.length - 1) h' n' → a'.nt = 36 → a'.defers = [] → Q .normal a' ⟨h', n'⟩) → W LW fl none (.loop L102w0) (inBlockH 0 Q) a ⟨h, nx⟩
  | 0, j, a, h, nx, hm, hI, hnt, hds, t0, t1, t2, t4, hq => by
    obtain ⟨hd, hfl, htb, hxb, gt, gx, hrow⟩ := H.keep _ _ _ hI
    refine w_it (show L102w0 = _ by unfold L102w0; exact rfl) ?_
    repeat' first
     | refine r_nil ?_
     | refine th_n ?_
     | refine th_e ?_
     | refine ib_e ?_
     | refine w_exit ?_
     | refine w_seq ?_
     | refine w_reg ?_
     | refine w_f (by simp (disch:=first|decide|(simp only[zF,zG,hnt, t1, t4, gt];decide)) only [zA,zB,zC,zD,zE,zF,zG,zH,zI,zJ,zK,HV.cells,fl0,fl2,flS,flS1,flI1,flU1,flU2,flF,hnt, t1, t4, gt]; first|done|exact rfl) ?_
     | refine r_move (by simp (disch:=first|decide|(simp only[zF,zG,hnt, t1, t4, gt];decide)) only [zA,zB,zC,zD,zE,zF,zG,zH,zI,zJ,zK,HV.cells,fl0,fl2,flS,flS1,flI1,flU1,flU2,flF,hnt, t1, t4, gt]; try exact rfl) ?_
     | refine r_ld1 (by simp (disch:=first|decide|(simp only[zF,zG,hnt, t1, t4, gt];decide)) only [zA,zB,zC,zD,zE,zF,zG,zH,zI,zJ,zK,HV.cells,fl0,fl2,flS,flS1,flI1,flU1,flU2,flF,hnt, t1, t4, gt]; try exact rfl) (by first|assumption|(simp (disch:=omega) only [get_same,get_other,hnt, t1, t4, gt]; first|done|exact rfl)) (by first|assumption|exact ow2 _ _ _ _|exact ow3 _ _ _ _ _ _|rfl|(simp only [zI,zJ,HV.cells,hnt, t1, t4, gt]; exact rfl)) ?_
     | refine r_lss (by simp (disch:=first|decide|(simp only[zF,zG,hnt, t1, t4, gt];decide)) only [zA,zB,zC,zD,zE,zF,zG,zH,zI,zJ,zK,HV.cells,fl0,fl2,flS,flS1,flI1,flU1,flU2,flF,hnt, t1, t4, gt]; try exact rfl) (by simp (disch:=first|decide|(simp only[zF,zG,hnt, t1, t4, gt];decide)) only [zA,zB,zC,zD,zE,zF,zG,zH,zI,zJ,zK,HV.cells,fl0,fl2,flS,flS1,flI1,flU1,flU2,flF,hnt, t1, t4, gt]; try exact rfl) (fun hc => ?_) (fun hc => ?_) <;> (try (exfalso; omega))
     | refine r_len (by simp (disch:=first|decide|(simp only[zF,zG,hnt, t1, t4, gt];decide)) only [zA,zB,zC,zD,zE,zF,zG,zH,zI,zJ,zK,HV.cells,fl0,fl2,flS,flS1,flI1,flU1,flU2,flF,hnt, t1, t4, gt]; try exact rfl) ?_
     | fail
    have e : l.length - 1 = j := by omega
    rw [e] at hq
    refine hq _ _ _ hI ?_ ?_
    all_goals first|(simp only [zL,zM,zF,zG,hnt, hds];done)|(simp (disch:=first|decide|(simp only[zF,zG,hnt, hds];decide)) only [zA,zB,zC,zD,zE,zF,zG,zH,zI,zJ,zK,HV.cells,fl0,fl2,flS,flS1,flI1,flU1,flU2,flF,hnt, hds];first|done|exact rfl)|assumption
  | m + 1, j, a, h, nx, hm, hI, hnt, hds, t0, t1, t2, t4, hq => by
    obtain ⟨hd, hfl, htb, hxb, gt, gx, hrow0⟩ := H.keep _ _ _ hI
    have hrow1 := hrow0
    obtain ⟨b, o, cs, kk, rfl, hb, hg, hcs⟩ := hrow0 (by intro e; rw [e] at hm; simp at hm)
    have hj : j + 1 < l.length := by omega
    have hy : l[j]? = some l[j] := by simp [show j < l.length by omega]
    have hz : l[j + 1]? = some l[j + 1] := by simp [hj]
    have e0 := hcs j _ hy
    have e1 := hcs (j + 1) _ hz
    have ej : ((j + 1 : Nat) : Int) - 1 = (j : Int) := by omega
    have ek : ((j + 1 : Nat) : Int) + 1 = ((j + 2 : Nat) : Int) := by omega
    have el : ((j + 1 + 1 : Nat) : Int) = ((j + 2 : Nat) : Int) := by omega
    have cP : ∀ fl h' n', Ext h nx h' n' → C LW fl 65 [.slice (some (b, o + j * 2)) 2 (cp - j)] ⟨h', n'⟩ (Sc (· = .agg [i64 l[j].1, i64 l[j + 1].1]) ⟨h', n'⟩) := fun fl h' n' e => by
      have := c_pressuresOf (fl := fl) (h := h') (nx := n') (p := some (b, o + j * 2)) (l := [l[j], l[j + 1]]) (n := 2) (cp := cp - j) e.d rfl (by show 0 < 2; omega) (by show 2 < 1000000000; omega) (fun _ => by
        have hle := e.le
        refine ⟨b, o + j * 2, cs, kk, rfl, by omega, (e.same b hb).trans hg, fun i y hi => ?_⟩
        match i, hi with
        | 0, hi => cases hi; rw [Nat.zero_mul, Nat.add_zero]; exact e0
        | 1, hi => cases hi; rw [show o + j * 2 + 1 * 2 = o + (j + 1) * 2 by omega]; exact e1
        | i + 2, hi => simp at hi)
      exact this
    have ow : overwrite [i64 0, i64 0] 0 (HV.agg [i64 l[j].1, i64 l[j + 1].1]).cells = some [i64 l[j].1, i64 l[j + 1].1] := rfl
    have tk : takeN 2 ([i64 l[j].1, i64 l[j + 1].1].drop 0) = some [i64 l[j].1, i64 l[j + 1].1] := rfl
    have hx0 : Ext h nx h nx := Ext.refl hd
    refine w_it (show L102w0 = _ by unfold L102w0; exact rfl) ?_
    repeat' first
     | refine r_nil ?_
     | refine th_n ?_
     | refine ib_n ?_
     | refine w_seq ?_
     | refine w_reg ?_
     | refine w_skip ?_
     | refine w_block ?_
     | refine w_t (by simp (disch:=first|decide|(simp only[zF,zG,hnt, t0, t1, t2, t4, gt, gx, ej, ek, hg];decide)) only [zA,zB,zC,zD,zE,zF,zG,zH,zI,zJ,zK,HV.cells,fl0,fl2,flS,flS1,flI1,flU1,flU2,flF,hnt, t0, t1, t2, t4, gt, gx, ej, ek, hg]; first|done|exact rfl) ?_
     | refine w_f (by simp (disch:=first|decide|(simp only[zF,zG,hnt, t0, t1, t2, t4, gt, gx, ej, ek, hg];decide)) only [zA,zB,zC,zD,zE,zF,zG,zH,zI,zJ,zK,HV.cells,fl0,fl2,flS,flS1,flI1,flU1,flU2,flF,hnt, t0, t1, t2, t4, gt, gx, ej, ek, hg]; first|done|exact rfl) ?_
     | refine r_take (by simp (disch:=first|decide|(simp only[zF,zG,hnt, t0, t1, t2, t4, gt, gx, ej, ek, hg];decide)) only [zA,zB,zC,zD,zE,zF,zG,zH,zI,zJ,zK,HV.cells,fl0,fl2,flS,flS1,flI1,flU1,flU2,flF,hnt, t0, t1, t2, t4, gt, gx, ej, ek, hg]; first|done|exact rfl) ?_
     | refine r_drop (by simp (disch:=first|decide|(simp only[zF,zG,Bool.not_true,Bool.not_false,hnt, t0, t1, t2, t4, gt, gx, ej, ek, hg];decide)) only [zA,zB,zC,zD,zE,zF,zG,zH,zI,zJ,zK,HV.cells,fl0,fl2,flS,flS1,flI1,flU1,flU2,flF,Bool.not_true,Bool.not_false,hnt, t0, t1, t2, t4, gt, gx, ej, ek, hg]; first|done|exact rfl) ?_
     | refine r_move (by simp (disch:=first|decide|(simp only[zF,zG,hnt, t0, t1, t2, t4, gt, gx, ej, ek, hg];decide)) only [zA,zB,zC,zD,zE,zF,zG,zH,zI,zJ,zK,HV.cells,fl0,fl2,flS,flS1,flI1,flU1,flU2,flF,hnt, t0, t1, t2, t4, gt, gx, ej, ek, hg]; try exact rfl) ?_
     | refine r_ld1 (by simp (disch:=first|decide|(simp only[zF,zG,hnt, t0, t1, t2, t4, gt, gx, ej, ek, hg];decide)) only [zA,zB,zC,zD,zE,zF,zG,zH,zI,zJ,zK,HV.cells,fl0,fl2,flS,flS1,flI1,flU1,flU2,flF,hnt, t0, t1, t2, t4, gt, gx, ej, ek, hg]; try exact rfl) (by first|assumption|(simp (disch:=omega) only [get_same,get_other,hnt, t0, t1, t2, t4, gt, gx, ej, ek, hg]; first|done|exact rfl)) (by first|assumption|exact ow2 _ _ _ _|exact ow3 _ _ _ _ _ _|rfl|(simp only [zI,zJ,HV.cells,hnt, t0, t1, t2, t4, gt, gx, ej, ek, hg]; exact rfl)) ?_
     | refine r_ldn (by simp (disch:=first|decide|(simp only[zF,zG,hnt, t0, t1, t2, t4, gt, gx, ej, ek, hg];decide)) only [zA,zB,zC,zD,zE,zF,zG,zH,zI,zJ,zK,HV.cells,fl0,fl2,flS,flS1,flI1,flU1,flU2,flF,hnt, t0, t1, t2, t4, gt, gx, ej, ek, hg]; try exact rfl) (by first|assumption|(simp (disch:=omega) only [get_same,get_other,hnt, t0, t1, t2, t4, gt, gx, ej, ek, hg]; first|done|exact rfl)) (by first|assumption|exact ow2 _ _ _ _|exact ow3 _ _ _ _ _ _|rfl|(simp only [zI,zJ,HV.cells,hnt, t0, t1, t2, t4, gt, gx, ej, ek, hg]; exact rfl)) ?_
     | refine r_alloc ?_
     | refine r_st (cs' := _) (by simp (disch:=first|decide|(simp only[zF,zG,hnt, t0, t1, t2, t4, gt, gx, ej, ek, hg];decide)) only [zA,zB,zC,zD,zE,zF,zG,zH,zI,zJ,zK,HV.cells,fl0,fl2,flS,flS1,flI1,flU1,flU2,flF,hnt, t0, t1, t2, t4, gt, gx, ej, ek, hg]; try exact rfl) (by simp (disch:=first|decide|(simp only[zF,zG,hnt, t0, t1, t2, t4, gt, gx, ej, ek, hg];decide)) only [zA,zB,zC,zD,zE,zF,zG,zH,zI,zJ,zK,HV.cells,fl0,fl2,flS,flS1,flI1,flU1,flU2,flF,hnt, t0, t1, t2, t4, gt, gx, ej, ek, hg]; try exact rfl) (by first|assumption|(simp (disch:=omega) only [get_same,get_other,hnt, t0, t1, t2, t4, gt, gx, ej, ek, hg]; first|done|exact rfl)) (by exact True.intro) (by rfl) (by rfl) (by first|assumption|exact ow2 _ _ _ _|exact ow3 _ _ _ _ _ _|rfl|(simp only [zI,zJ,HV.cells,hnt, t0, t1, t2, t4, gt, gx, ej, ek, hg]; exact rfl)) (by omega) ?_
     | refine r_add (by simp (disch:=first|decide|(simp only[zF,zG,hnt, t0, t1, t2, t4, gt, gx, ej, ek, hg];decide)) only [zA,zB,zC,zD,zE,zF,zG,zH,zI,zJ,zK,HV.cells,fl0,fl2,flS,flS1,flI1,flU1,flU2,flF,hnt, t0, t1, t2, t4, gt, gx, ej, ek, hg]; try exact rfl) (by simp (disch:=first|decide|(simp only[zF,zG,hnt, t0, t1, t2, t4, gt, gx, ej, ek, hg];decide)) only [zA,zB,zC,zD,zE,zF,zG,zH,zI,zJ,zK,HV.cells,fl0,fl2,flS,flS1,flI1,flU1,flU2,flF,hnt, t0, t1, t2, t4, gt, gx, ej, ek, hg]; try exact rfl) (by omega) (by omega) ?_
     | refine r_sub (by simp (disch:=first|decide|(simp only[zF,zG,hnt, t0, t1, t2, t4, gt, gx, ej, ek, hg];decide)) only [zA,zB,zC,zD,zE,zF,zG,zH,zI,zJ,zK,HV.cells,fl0,fl2,flS,flS1,flI1,flU1,flU2,flF,hnt, t0, t1, t2, t4, gt, gx, ej, ek, hg]; try exact rfl) (by simp (disch:=first|decide|(simp only[zF,zG,hnt, t0, t1, t2, t4, gt, gx, ej, ek, hg];decide)) only [zA,zB,zC,zD,zE,zF,zG,zH,zI,zJ,zK,HV.cells,fl0,fl2,flS,flS1,flI1,flU1,flU2,flF,hnt, t0, t1, t2, t4, gt, gx, ej, ek, hg]; try exact rfl) (by omega) (by omega) ?_
     | refine r_lss (by simp (disch:=first|decide|(simp only[zF,zG,hnt, t0, t1, t2, t4, gt, gx, ej, ek, hg];decide)) only [zA,zB,zC,zD,zE,zF,zG,zH,zI,zJ,zK,HV.cells,fl0,fl2,flS,flS1,flI1,flU1,flU2,flF,hnt, t0, t1, t2, t4, gt, gx, ej, ek, hg]; try exact rfl) (by simp (disch:=first|decide|(simp only[zF,zG,hnt, t0, t1, t2, t4, gt, gx, ej, ek, hg];decide)) only [zA,zB,zC,zD,zE,zF,zG,zH,zI,zJ,zK,HV.cells,fl0,fl2,flS,flS1,flI1,flU1,flU2,flF,hnt, t0, t1, t2, t4, gt, gx, ej, ek, hg]; try exact rfl) (fun hc => ?_) (fun hc => ?_) <;> (try (exfalso; omega))
     | refine r_pf (by simp (disch:=first|decide|(simp only[zF,zG,hnt, t0, t1, t2, t4, gt, gx, ej, ek, hg];decide)) only [zA,zB,zC,zD,zE,zF,zG,zH,zI,zJ,zK,HV.cells,fl0,fl2,flS,flS1,flI1,flU1,flU2,flF,hnt, t0, t1, t2, t4, gt, gx, ej, ek, hg]; first|done|exact rfl) (by simp (disch:=first|decide|(simp only[zF,zG,hnt, t0, t1, t2, t4, gt, gx, ej, ek, hg];decide)) only [zA,zB,zC,zD,zE,zF,zG,zH,zI,zJ,zK,HV.cells,fl0,fl2,flS,flS1,flI1,flU1,flU2,flF,hnt, t0, t1, t2, t4, gt, gx, ej, ek, hg]; try exact rfl) ?_
     | refine r_len (by simp (disch:=first|decide|(simp only[zF,zG,hnt, t0, t1, t2, t4, gt, gx, ej, ek, hg];decide)) only [zA,zB,zC,zD,zE,zF,zG,zH,zI,zJ,zK,HV.cells,fl0,fl2,flS,flS1,flI1,flU1,flU2,flF,hnt, t0, t1, t2, t4, gt, gx, ej, ek, hg]; try exact rfl) ?_
     | refine r_ixs (by simp (disch:=first|decide|(simp only[zF,zG,hnt, t0, t1, t2, t4, gt, gx, ej, ek, hg];decide)) only [zA,zB,zC,zD,zE,zF,zG,zH,zI,zJ,zK,HV.cells,fl0,fl2,flS,flS1,flI1,flU1,flU2,flF,hnt, t0, t1, t2, t4, gt, gx, ej, ek, hg]; try exact rfl) (by simp (disch:=first|decide|(simp only[zF,zG,hnt, t0, t1, t2, t4, gt, gx, ej, ek, hg];decide)) only [zA,zB,zC,zD,zE,zF,zG,zH,zI,zJ,zK,HV.cells,fl0,fl2,flS,flS1,flI1,flU1,flU2,flF,hnt, t0, t1, t2, t4, gt, gx, ej, ek, hg]; try exact rfl) (by omega) ?_
     | refine r_slB (k := 2) (by simp (disch:=first|decide|(simp only[zF,zG,hnt, t0, t1, t2, t4, gt, gx, ej, ek, hg];decide)) only [zA,zB,zC,zD,zE,zF,zG,zH,zI,zJ,zK,HV.cells,fl0,fl2,flS,flS1,flI1,flU1,flU2,flF,hnt, t0, t1, t2, t4, gt, gx, ej, ek, hg]; try exact rfl) (by simp (disch:=first|decide|(simp only[zF,zG,hnt, t0, t1, t2, t4, gt, gx, ej, ek, hg];decide)) only [zA,zB,zC,zD,zE,zF,zG,zH,zI,zJ,zK,HV.cells,fl0,fl2,flS,flS1,flI1,flU1,flU2,flF,hnt, t0, t1, t2, t4, gt, gx, ej, ek, hg]; try exact rfl) (by simp (disch:=first|decide|(simp only[zF,zG,hnt, t0, t1, t2, t4, gt, gx, ej, ek, hg];decide)) only [zA,zB,zC,zD,zE,zF,zG,zH,zI,zJ,zK,HV.cells,fl0,fl2,flS,flS1,flI1,flU1,flU2,flF,hnt, t0, t1, t2, t4, gt, gx, ej, ek, hg]; try exact rfl) (by omega) (by omega) (by omega) ?_
     | refine r_calls (by simp (disch:=first|decide|(simp only[zF,zG,hnt, t0, t1, t2, t4, gt, gx, ej, ek, hg];decide)) only [zA,zB,zC,zD,zE,zF,zG,zH,zI,zJ,zK,HV.cells,fl0,fl2,flS,flS1,flI1,flU1,flU2,flF,hnt, t0, t1, t2, t4, gt, gx, ej, ek, hg]; try exact rfl) (by simp (disch:=first|decide|(simp only[zF,zG,hnt, t0, t1, t2, t4, gt, gx, ej, ek, hg];decide)) only [List.map_cons,List.map_nil,List.nil_append,List.cons_append,List.append_nil,zA,zB,zC,zD,zE,zF,zG,zH,zI,zJ,zK,HV.cells,fl0,fl2,flS,flS1,flI1,flU1,flU2,flF,hnt, t0, t1, t2, t4, gt, gx, ej, ek, hg]; first|done|exact rfl) (cP _ _ _ (by repeat' first|assumption|refine Ext.put ?_ (by omega) (by omega)|exact Ext.up (by assumption) (by omega)|exact Ext.nx (by assumption) (by omega))) (fun n' hn' => ?_)
     | refine r_calld (by simp (disch:=first|decide|(simp only[zF,zG,hnt, t0, t1, t2, t4, gt, gx, ej, ek, hg];decide)) only [zA,zB,zC,zD,zE,zF,zG,zH,zI,zJ,zK,HV.cells,fl0,fl2,flS,flS1,flI1,flU1,flU2,flF,hnt, t0, t1, t2, t4, gt, gx, ej, ek, hg]; try exact rfl) (by simp (disch:=first|decide|(simp only[zF,zG,hnt, t0, t1, t2, t4, gt, gx, ej, ek, hg];decide)) only [List.map_cons,List.map_nil,List.nil_append,List.cons_append,List.append_nil,zA,zB,zC,zD,zE,zF,zG,zH,zI,zJ,zK,HV.cells,fl0,fl2,flS,flS1,flI1,flU1,flU2,flF,hnt, t0, t1, t2, t4, gt, gx, ej, ek, hg]; first|done|exact rfl) c_has (fun n' hn' hc => ?_) (fun n' hn' hc => ?_) <;> (try (exfalso; omega))
     | refine w_draw (by omega) (by (repeat' first|assumption|refine D.upd ?_ (by omega)|exact D.mono (by assumption) (by omega)) <;> fail) ?_
     | refine d_rest rfl ?_
     | refine d_one rfl rfl ?_
     | refine d_next (by omega) ?_
     | fail
    · refine r_ys (H.yes j hj hc.1 hc.2 _ _ (H.up _ _ _ _ _ hI (by repeat' first|assumption|refine Ext.put ?_ (by omega) (by omega)|exact Ext.up (by assumption) (by omega)|exact Ext.nx (by assumption) (by omega)))) (by simp (disch:=first|decide|(simp only[zF,zG,hnt, t0];decide)) only [zA,zB,zC,zD,zE,zF,zG,zH,zI,zJ,zK,HV.cells,fl0,fl2,flS,flS1,flI1,flU1,flU2,flF,hnt, t0]; try exact rfl) (by simp (disch:=first|decide|(simp only[zF,zG,hnt];decide)) only [List.map_cons,List.map_nil,List.nil_append,List.cons_append,List.append_nil,zA,zB,zC,zD,zE,zF,zG,zH,zI,zJ,zK,HV.cells,fl0,fl2,flS,flS1,flI1,flU1,flU2,flF,hnt]; try exact rfl) (fun h2 n2 hI2 => ?_)
      obtain ⟨hd2, hfl2, htb2, hxb2, gt2, gx2, hrow2⟩ := H.keep _ _ _ hI2
      repeat' first
       | refine r_nil ?_
       | refine th_n ?_
       | refine ib_n ?_
       | refine w_reg ?_
       | refine w_skip ?_
       | refine w_f (by simp (disch:=first|decide|(simp only[zF,zG,hnt, t4, ek, el];decide)) only [zA,zB,zC,zD,zE,zF,zG,zH,zI,zJ,zK,HV.cells,fl0,fl2,flS,flS1,flI1,flU1,flU2,flF,hnt, t4, ek, el]; first|done|exact rfl) ?_
       | refine r_take (by simp (disch:=first|decide|(simp only[zF,zG,hnt, t4, ek, el];decide)) only [zA,zB,zC,zD,zE,zF,zG,zH,zI,zJ,zK,HV.cells,fl0,fl2,flS,flS1,flI1,flU1,flU2,flF,hnt, t4, ek, el]; first|done|exact rfl) ?_
       | refine r_move (by simp (disch:=first|decide|(simp only[zF,zG,hnt, t4, ek, el];decide)) only [zA,zB,zC,zD,zE,zF,zG,zH,zI,zJ,zK,HV.cells,fl0,fl2,flS,flS1,flI1,flU1,flU2,flF,hnt, t4, ek, el]; try exact rfl) ?_
       | refine r_add (by simp (disch:=first|decide|(simp only[zF,zG,hnt, t4, ek, el];decide)) only [zA,zB,zC,zD,zE,zF,zG,zH,zI,zJ,zK,HV.cells,fl0,fl2,flS,flS1,flI1,flU1,flU2,flF,hnt, t4, ek, el]; try exact rfl) (by simp (disch:=first|decide|(simp only[zF,zG,hnt, t4, ek, el];decide)) only [zA,zB,zC,zD,zE,zF,zG,zH,zI,zJ,zK,HV.cells,fl0,fl2,flS,flS1,flI1,flU1,flU2,flF,hnt, t4, ek, el]; try exact rfl) (by omega) (by omega) ?_
       | refine r_not1 (by simp (disch:=first|decide|(simp only[zF,zG,hnt, t4, ek, el];decide)) only [zA,zB,zC,zD,zE,zF,zG,zH,zI,zJ,zK,HV.cells,fl0,fl2,flS,flS1,flI1,flU1,flU2,flF,hnt, t4, ek, el]; try exact rfl) ?_
       | refine r_pt (by simp (disch:=first|decide|(simp only[zF,zG,hnt, t4, ek, el];decide)) only [zA,zB,zC,zD,zE,zF,zG,zH,zI,zJ,zK,HV.cells,fl0,fl2,flS,flS1,flI1,flU1,flU2,flF,hnt, t4, ek, el]; first|done|exact rfl) (by simp (disch:=first|decide|(simp only[zF,zG,hnt, t4, ek, el];decide)) only [zA,zB,zC,zD,zE,zF,zG,zH,zI,zJ,zK,HV.cells,fl0,fl2,flS,flS1,flI1,flU1,flU2,flF,hnt, t4, ek, el]; try exact rfl) ?_
       | fail
      refine loop102 hlen hcp H m (j + 1) _ _ _ (by omega) hI2 ?_ ?_ ?_ ?_ ?_ ?_ hq
      all_goals first|(simp only [zL,zM,zF,zG,hnt, hds, t0, t1, t2, ek, el];done)|(simp (disch:=first|decide|(simp only[zF,zG,hnt, hds, t0, t1, t2, ek, el];decide)) only [zA,zB,zC,zD,zE,zF,zG,zH,zI,zJ,zK,HV.cells,fl0,fl2,flS,flS1,flI1,flU1,flU2,flF,hnt, hds, t0, t1, t2, ek, el];first|done|exact rfl)|assumption
    · repeat' first
       | fail
      refine loop102 hlen hcp H m (j + 1) _ _ _ (by omega) (H.up _ _ _ _ _ (H.no j hj hc _ _ hI) (by repeat' first|assumption|refine Ext.put ?_ (by omega) (by omega)|exact Ext.up (by assumption) (by omega)|exact Ext.nx (by assumption) (by omega))) ?_ ?_ ?_ ?_ ?_ ?_ hq
      all_goals first|(simp only [zL,zM,zF,zG,hnt, hds, t0, t1, t2, ek, el];done)|(simp (disch:=first|decide|(simp only[zF,zG,hnt, hds, t0, t1, t2, ek, el];decide)) only [zA,zB,zC,zD,zE,zF,zG,zH,zI,zJ,zK,HV.cells,fl0,fl2,flS,flS1,flI1,flU1,flU2,flF,hnt, hds, t0, t1, t2, ek, el];first|done|exact rfl)|assumption
/- 102 -/
theorem c_around102 {I : Nat → Tr HBlk → Nat → Prop} {fl lb tb xb : Nat} {p : Option (Nat × Nat)} {l : List (Int × Int)} {cp : Nat} {x : Int} {h : Tr HBlk} {nx : Nat} (hlen : l.length < 1000000000) (hcp : l.length ≤ cp) (h0 : 0 < l.length) (H : Rng I fl lb tb xb p l cp x) (hI : I 0 h nx) :
    C LW fl 102 ([] ++ [.yield lb] ++ [.ptr (some (tb, 0)), .ptr (some (xb, 0))]) ⟨h, nx⟩ (fun v σ' => ∃ h' n', σ' = ⟨h', n'⟩ ∧ I (l.length - 1) h' n') := by
  refine c_im lw102 rfl rfl rfl ?_
  dsimp only [L102]
  repeat' first
   | refine r_nil ?_
   | refine th_n ?_
   | refine w_seq ?_
   | refine w_reg ?_
   | refine w_block ?_
   | refine r_move (by simp (disch:=first|decide|(simp only[zF,zG];decide)) only [zA,zB,zC,zD,zE,zF,zG,zH,zI,zJ,zK,HV.cells,fl0,fl2,flS,flS1,flI1,flU1,flU2,flF]; try exact rfl) ?_
   | fail
  refine loop102 hlen hcp H (l.length - 1) 0 _ _ _ (by omega) hI ?_ ?_ ?_ ?_ ?_ ?_ (fun a' h' n' g1 g2 g3 => ?_)
  all_goals try first|(simp only [zL,zM,zF,zG];done)|(simp (disch:=first|decide|(simp only[zF,zG];decide)) only [zA,zB,zC,zD,zE,zF,zG,zH,zI,zJ,zK,HV.cells,fl0,fl2,flS,flS1,flI1,flU1,flU2,flF];first|done|exact rfl)|assumption
  unfold Fim
  exact ⟨_, _, leave_many g3 res_nil, h', n', rfl, g1⟩
end Go.Hx

/- Layer 3, math: the height of steam at a pressure, step by step. -/
namespace Go.Hx
set_option linter.unusedVariables false
section
variable {P H : Nat → Int} {n : Nat} {x y : Int}
def stv (P H : Nat → Int) (x : Int) (j : Nat) : Int := H j + ((H (j + 1) - H j) * (x - P j)) / (P (j + 1) - P j)
def stg (P H : Nat → Int) (x : Int) : Nat → Int
  | 0 => 0
  | j + 1 => if P j ≤ x ∧ x ≤ P (j + 1) then stv P H x j else stg P H x j
structure Upw (P H : Nat → Int) (n : Nat) : Prop where
  p : ∀ j, j + 1 < n → P j < P (j + 1)
  h : ∀ j, j + 1 < n → H j < H (j + 1)
theorem up_p (u : Upw P H n) : ∀ k i, i + k < n → P i ≤ P (i + k)
  | 0, i, _ => Int.le_refl _
  | k + 1, i, hi => by
    have a := up_p u k i (by omega)
    have b := u.p (i + k) (by omega)
    rw [← Nat.add_assoc]; omega
theorem up_h (u : Upw P H n) : ∀ k i, i + k < n → H i ≤ H (i + k)
  | 0, i, _ => Int.le_refl _
  | k + 1, i, hi => by
    have a := up_h u k i (by omega)
    have b := u.h (i + k) (by omega)
    rw [← Nat.add_assoc]; omega
theorem up_p' (u : Upw P H n) {i j : Nat} (h : i ≤ j) (hj : j < n) : P i ≤ P j := by
  have := up_p u (j - i) i (by omega); rwa [show i + (j - i) = j by omega] at this
theorem up_h' (u : Upw P H n) {i j : Nat} (h : i ≤ j) (hj : j < n) : H i ≤ H j := by
  have := up_h u (j - i) i (by omega); rwa [show i + (j - i) = j by omega] at this
structure Seg (P : Nat → Int) (n : Nat) (x : Int) (i : Nat) : Prop where
  lt : i + 1 < n
  lo : P i ≤ x
  hi : x ≤ P (i + 1)
  min : ∀ k, k < i → P (k + 1) < x
theorem seg_go (hx : x ≤ P (n - 1)) : ∀ d m, m + d + 2 = n → (∀ k, k < m → P (k + 1) < x) → P m ≤ x → ∃ i, Seg P n x i
  | 0, m, hm, h1, h2 => ⟨m, by omega, h2, by rwa [show m + 1 = n - 1 by omega], h1⟩
  | d + 1, m, hm, h1, h2 => by
    by_cases h : x ≤ P (m + 1)
    · exact ⟨m, by omega, h2, h, h1⟩
    · refine seg_go hx d (m + 1) (by omega) (fun k hk => ?_) (by omega)
      by_cases e : k = m
      · subst e; omega
      · exact h1 k (by omega)
theorem seg_ex (h2 : 2 ≤ n) (h0 : P 0 ≤ x) (hx : x ≤ P (n - 1)) : ∃ i, Seg P n x i := seg_go hx (n - 2) 0 (by omega) (fun k hk => by omega) h0
theorem dv_le {a b c : Int} (hc : 0 < c) (h : a ≤ b * c) : a / c ≤ b := by
  have := Int.ediv_le_ediv hc h
  rwa [Int.mul_ediv_cancel _ (by omega)] at this
theorem stv_bd (u : Upw P H n) {i : Nat} (hi : i + 1 < n) (h1 : P i ≤ x) (h2 : x ≤ P (i + 1)) : H i ≤ stv P H x i ∧ stv P H x i ≤ H (i + 1) := by
  have a := u.p i hi
  have b := u.h i hi
  unfold stv
  have m0 : 0 ≤ (H (i + 1) - H i) * (x - P i) := Int.mul_nonneg (by omega) (by omega)
  have d0 : 0 ≤ ((H (i + 1) - H i) * (x - P i)) / (P (i + 1) - P i) := Int.ediv_nonneg m0 (by omega)
  have d1 : ((H (i + 1) - H i) * (x - P i)) / (P (i + 1) - P i) ≤ H (i + 1) - H i := dv_le (by omega) (Int.mul_le_mul_of_nonneg_left (by omega) (by omega))
  omega
theorem stv_top (u : Upw P H n) {i : Nat} (hi : i + 1 < n) : stv P H (P (i + 1)) i = H (i + 1) := by
  have a := u.p i hi
  unfold stv
  rw [Int.mul_ediv_cancel _ (by omega)]; omega
theorem stv_bot {i : Nat} : stv P H (P i) i = H i := by
  unfold stv
  rw [Int.sub_self, Int.mul_zero, Int.zero_ediv]; omega
theorem stg_eq (u : Upw P H n) {i : Nat} (s : Seg P n x i) : ∀ k, i + 1 + k < n → stg P H x (i + 1 + k) = stv P H x i
  | 0, _ => by
    show stg P H x (i + 1) = _
    unfold stg
    rw [if_pos ⟨s.lo, s.hi⟩]
  | k + 1, hk => by
    show stg P H x (i + 1 + k + 1) = _
    unfold stg
    by_cases h : P (i + 1 + k) ≤ x ∧ x ≤ P (i + 1 + k + 1)
    · rw [if_pos h]
      have h3 := up_p u k (i + 1) (by omega)
      have h4 := s.hi
      have hx : x = P (i + 1) := by omega
      by_cases e : k = 0
      · subst e
        rw [Nat.add_zero]
        rw [hx, stv_top u s.lt, stv_bot]
      · exfalso
        have h5 := u.p (i + 1) (by omega)
        have h6 := up_p' u (i := i + 1 + 1) (j := i + 1 + k) (by omega) (by omega)
        omega
    · rw [if_neg h]; exact stg_eq u s k (by omega)
theorem stg_seg (u : Upw P H n) {i : Nat} (s : Seg P n x i) : stg P H x (n - 1) = stv P H x i := by
  have h := s.lt
  have := stg_eq u s (n - 1 - (i + 1)) (by omega)
  rwa [show i + 1 + (n - 1 - (i + 1)) = n - 1 by omega] at this
theorem stg_bd (u : Upw P H n) (h2 : 2 ≤ n) (h0 : P 0 ≤ x) (hx : x ≤ P (n - 1)) : H 0 ≤ stg P H x (n - 1) ∧ stg P H x (n - 1) ≤ H (n - 1) := by
  obtain ⟨i, s⟩ := seg_ex h2 h0 hx
  rw [stg_seg u s]
  have b := stv_bd u s.lt s.lo s.hi
  have l := s.lt
  have c := up_h' u (Nat.zero_le i) (by omega)
  have d := up_h' u (i := i + 1) (j := n - 1) (by omega) (by omega)
  omega
end
end Go.Hx

